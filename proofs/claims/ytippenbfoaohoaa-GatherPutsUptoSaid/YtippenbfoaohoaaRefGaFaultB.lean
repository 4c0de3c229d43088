/- The document's answer on whether a gather may be: its loop over the pieces. -/
import Derived.Test.YtippenbfoaohoaaRefGaFault
namespace Go.Proofs.Ytippenbfoaohoaa
set_option linter.unusedVariables false
open Go.RowKit P

set_option maxRecDepth 100000 in
set_option maxHeartbeats 2000000 in
theorem refGaF_any (v : Value) (g : Ga) (w : World) (hv : GaVal w w.heap.size v g) (hw : GaWf g) (hlen : ∀ p ∈ g.held, p.2.length ≤ 140737488355328) :
    Calls Try.prog 13 #[v] w fun e w' => e = .returned (.int .i64 (faultG g)) ∧ Below w.heap.size w w' := by
  obtain ⟨sv, rfl, hs⟩ := hv.ex
  obtain ⟨A, c, rfl, hnc, hcm, hrow⟩ := hs.ex
  by_cases h0 : 0 ≤ g.done ∧ -1 ≤ g.final ∧ (0 ≤ g.window ∧ g.window ≤ 4611686018427387903) ∧ g.held.length ≤ 4
  · have u1 : upB2 g.window 4611686018427387903 = true := by unfold upB2; simp [h0]
    obtain ⟨p0, p1, p2, p3⟩ := h0
    have hle : decide ((g.held.length : Int) ≤ 4) = true := by simp; omega
    have B0 := Lib.hid ((Below.refl w.heap.size w).alloc (Nat.le_refl _) (.cells #[.int .i64 g.done, .slice A g.held.length c, .int .i64 g.final, .int .i64 g.window] 24))
    have F0 := Lib.hid (heap_alloc_new w (.cells #[.int .i64 g.done, .slice A g.held.length c, .int .i64 g.final, .int .i64 g.window] 24))
    have HROW := Lib.hid hrow
    have HEND := Lib.hid (fun b a (h : GInv g g.held.length b a) => gInv_end h ⟨p0, p1, p2, p3⟩)
    have HWF := Lib.hid hw.held
    have HLN := Lib.hid hlen
    have I0 := Lib.hid (show GInv g 0 true g.done from ⟨fun _ => ⟨trivial, rfl⟩, fun e => by cases e⟩)
    clear hv hs hrow hw hlen
    go_enter Try.func13, Try.ntmps13
    go_wp2_with (go_at_call 28; refine (upTo_any _ _ _).mono ?_; rintro e w' ⟨rfl, rfl⟩)
    go_loopg [3, 4, 5] (g.held.length + 1) (fun gq okv av iv wr => ∃ (k : Nat) (b : Bool) (a : Int), okv = .bool b ∧ av = .int .i64 a ∧ iv = .int .i64 k ∧ k + gq = g.held.length + 1 ∧ k ≤ g.held.length ∧ Hid (Below w.heap.size w wr) ∧ Hid (wr.heap[w.heap.size]? = some (.cells #[.int .i64 g.done, .slice A g.held.length c, .int .i64 g.final, .int .i64 g.window] 24 (0, 0))) ∧ Hid (GInv g k b a))
    case atStart => exact ⟨0, true, g.done, by first | rfl | (rw [hle]; rfl) | simp [*], rfl, rfl, by omega, Nat.zero_le _, B0, F0, I0⟩
    case round =>
      obtain ⟨k, b, a, rfl, rfl, rfl, hkg, hkn, BK, FK, IK⟩ := hrel
      obtain ⟨q0, q1, q2, q3⟩ := bkG FK.out
      cases b with
      | false =>
        have hf := Lib.hid (show faultG g = 9 from if_neg (IK.out.2 rfl))
        go_wp2
        go_ret
        exact ⟨by rw [hf.out]; rfl, BK.out⟩
      | true =>
        by_cases hk : k < g.held.length
        · obtain ⟨b0, o, hA, hb0, hc⟩ := HROW.out (by omega)
          subst hA
          obtain ⟨e1, d, e2, hd⟩ := hc k hk
          obtain ⟨Ad, cd, rfl, _, _, _, _⟩ := hd.ex
          have x0 := (BK.out.cell (p := ⟨b0, o + k * 2, none⟩) hb0).trans e1
          have x1 := (BK.out.cell (p := ⟨b0, o + k * 2 + 1, none⟩) hb0).trans e2
          have hmem : g.held.getD k pc0 ∈ g.held := by rw [List.getD_eq_getElem?_getD, List.getElem?_eq_getElem hk]; exact List.getElem_mem hk
          have hof := ga_i64.1 (HWF.out _ hmem)
          have hml := HLN.out _ hmem
          have HST := Lib.hid (fun h1 h2 h3 => gInv_step IK.out hk h1 h2 h3)
          have HBD := Lib.hid (fun b h => gInv_bad (b := b) IK.out hk h)
          obtain ⟨p, hp⟩ : ∃ p, g.held.getD k pc0 = p := ⟨_, rfl⟩
          rw [hp] at x0 x1 hof hml HST HBD
          obtain ⟨off, ds⟩ := p
          obtain ⟨m, hm⟩ : ∃ m, ds.length = m := ⟨_, rfl⟩
          have hme : endP (off, ds) = off + (m : Int) := by unfold endP; rw [hm]
          simp only at x0 x1 hof hml
          rw [hm] at x1 hml
          rw [hme] at HST HBD
          have HM := Lib.hid hm
          clear hm hme hc e1 e2 hd hmem hp
          have hwm : IntKind.i64.wrap (4611686018427387903 - (m : Int)) = 4611686018427387903 - (m : Int) := by rw [IntKind.wrap_i64]; omega
          have hnk : (k : Int) < (g.held.length : Int) := by omega
          by_cases m0 : 0 < m
          · by_cases m1 : 0 ≤ off ∧ off ≤ 4611686018427387903 - (m : Int)
            · have u2 : upB2 off (4611686018427387903 - (m : Int)) = true := by unfold upB2; simp [m1]
              have hwa : IntKind.i64.wrap (off + (m : Int)) = off + (m : Int) := by rw [IntKind.wrap_i64]; omega
              by_cases m2 : a < off
              · have HG1 := Lib.hid (HST.out (by intro e; simp only at e; rw [e] at HM; have := HM.out; simp at this; omega) (by omega) (.inl m2))
                go_wp2_with (go_at_call 28; refine (upTo_any _ _ _).mono ?_; rintro e w' ⟨rfl, rfl⟩)
                go_roundg (gk - 1)
                case measure => omega
                case rel => exact ⟨k + 1, true, _, rfl, rfl, by first | rfl | go_num, by omega, by omega, Lib.hid (BK.out.alloc BK.out.size _), Lib.hid ((Below.heap_alloc _ _ _ (lt_of_block FK.out)).trans FK.out), Lib.hid HG1.out⟩
              · by_cases m3 : k = 0
                · by_cases m4 : off = a
                  · have g4 : (off == a) = true := by simp [m4]
                    have HG := Lib.hid (HST.out (by intro e; simp only at e; rw [e] at HM; have := HM.out; simp at this; omega) (by omega) (.inr ⟨m3, m4⟩))
                    subst m3
                    simp only [Nat.zero_mul, Nat.add_zero] at x0 x1
                    clear m4
                    go_wp2_with (go_at_call 28; refine (upTo_any _ _ _).mono ?_; rintro e w' ⟨rfl, rfl⟩)
                    go_roundg (gk - 1)
                    case measure => omega
                    case rel => exact ⟨0 + 1, true, _, rfl, rfl, by first | rfl | go_num, by omega, by omega, Lib.hid (BK.out.alloc BK.out.size _), Lib.hid ((Below.heap_alloc _ _ _ (lt_of_block FK.out)).trans FK.out), Lib.hid HG.out⟩
                  · have g4 : (off == a) = false := by simp [m4]
                    have g2 : decide (a < off) = false := by simp; omega
                    have HG := Lib.hid (fun b => HBD.out b (.inr (.inr (.inr (fun h => by simp only at h; omega)))))
                    subst m3
                    simp only [Nat.zero_mul, Nat.add_zero] at x0 x1
                    go_wp2_with (go_at_call 28; refine (upTo_any _ _ _).mono ?_; rintro e w' ⟨rfl, rfl⟩)
                    go_roundg (gk - 1)
                    case measure => omega
                    case rel => exact ⟨0 + 1, false, _, rfl, rfl, by first | rfl | go_num, by omega, by omega, Lib.hid (BK.out.alloc BK.out.size _), Lib.hid ((Below.heap_alloc _ _ _ (lt_of_block FK.out)).trans FK.out), Lib.hid (HG.out _)⟩
                · have g3 : ((k : Int) == 0) = false := by simp; omega
                  have g2 : decide (a < off) = false := by simp; omega
                  have HG := Lib.hid (fun b => HBD.out b (.inr (.inr (.inr (fun h => by simp only at h; omega)))))
                  go_wp2_with (go_at_call 28; refine (upTo_any _ _ _).mono ?_; rintro e w' ⟨rfl, rfl⟩)
                  go_roundg (gk - 1)
                  case measure => omega
                  case rel => exact ⟨k + 1, false, _, rfl, rfl, by first | rfl | go_num, by omega, by omega, Lib.hid (BK.out.alloc BK.out.size _), Lib.hid ((Below.heap_alloc _ _ _ (lt_of_block FK.out)).trans FK.out), Lib.hid (HG.out _)⟩
            · have u2 : upB2 off (4611686018427387903 - (m : Int)) = false := by unfold upB2; simp; omega
              have HG := Lib.hid (fun b => HBD.out b (by simp only; omega))
              clear m1
              go_wp2_with (go_at_call 28; refine (upTo_any _ _ _).mono ?_; rintro e w' ⟨rfl, rfl⟩)
              go_roundg (gk - 1)
              case measure => omega
              case rel => exact ⟨k + 1, false, _, rfl, rfl, by first | rfl | go_num, by omega, by omega, Lib.hid (BK.out.alloc BK.out.size _), Lib.hid ((Below.heap_alloc _ _ _ (lt_of_block FK.out)).trans FK.out), Lib.hid (HG.out _)⟩
          · obtain rfl : m = 0 := by omega
            have HG := Lib.hid (fun b => HBD.out b (.inl (List.eq_nil_of_length_eq_zero HM.out)))
            go_wp2_with (go_at_call 28; refine (upTo_any _ _ _).mono ?_; rintro e w' ⟨rfl, rfl⟩)
            go_roundg (gk - 1)
            case measure => omega
            case rel => exact ⟨k + 1, false, _, rfl, rfl, by first | rfl | go_num, by omega, by omega, Lib.hid (BK.out.alloc BK.out.size _), Lib.hid ((Below.heap_alloc _ _ _ (lt_of_block FK.out)).trans FK.out), Lib.hid (HG.out _)⟩
        · obtain rfl : k = g.held.length := by omega
          have hf := HEND.out true a IK.out
          by_cases c1 : a ≤ g.window
          · by_cases c2 : 0 ≤ g.final
            · by_cases c3 : a ≤ g.final
              · rw [if_pos ⟨rfl, c1, fun _ => c3⟩] at hf
                have HF := Lib.hid hf
                clear hf
                go_wp2
                go_ret
                exact ⟨by rw [HF.out]; rfl, BK.out⟩
              · rw [if_neg (fun h => c3 (h.2.2 c2))] at hf
                have HF := Lib.hid hf
                clear hf
                go_wp2
                go_ret
                exact ⟨by rw [HF.out]; rfl, BK.out⟩
            · rw [if_pos ⟨rfl, c1, fun h => absurd h c2⟩] at hf
              have HF := Lib.hid hf
              clear hf
              go_wp2
              go_ret
              exact ⟨by rw [HF.out]; rfl, BK.out⟩
          · rw [if_neg (fun h => c1 h.2.1)] at hf
            have HF := Lib.hid hf
            clear hf
            go_wp2
            go_ret
            exact ⟨by rw [HF.out]; rfl, BK.out⟩
  · have hf : faultG g = 9 := if_neg (fun hg => h0 ⟨hg.1, hg.2.1, hg.2.2.1, hg.2.2.2.1⟩)
    rw [hf]
    refine refGaF_early ?_
    simp only [Bool.and_eq_false_iff, decide_eq_false_iff_not]
    by_cases a : 0 ≤ g.done
    · by_cases b : -1 ≤ g.final
      · by_cases c' : upB2 g.window 4611686018427387903 = true
        · exact .inr (fun e => h0 ⟨a, b, by unfold upB2 at c'; simpa using c', e⟩)
        · exact .inl (.inr (by simpa using c'))
      · exact .inl (.inl (.inr b))
    · exact .inl (.inl (.inl a))
end Go.Proofs.Ytippenbfoaohoaa
