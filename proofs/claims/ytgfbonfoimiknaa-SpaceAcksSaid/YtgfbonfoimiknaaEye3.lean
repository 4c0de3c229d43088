/- Contracts of the eye's kind, downFrom and ranges. -/
import Derived.Test.YtgfbonfoimiknaaEye2
import Derived.Test.YtgfbonfoimiknaaFrEyeR
import Derived.Deep.LoopGhost
namespace Go.Proofs.Ytgfbonfoimiknaa
set_option linter.unusedVariables false
open Go.RowKit P

/-- an eye outlives a store into another block -/
theorem EyeAt.other {w w' : World} {y b : Nat} {σ : St} (h : EyeAt w y σ) (g : w.grownBy w' (some b)) (hb : y < b) : EyeAt w' y σ := by
  obtain ⟨A, c, h1, h2, h3, h4, h5⟩ := h
  have hy := lt_of_block h1
  refine ⟨A, c, (g.block y hy (by simp; omega)).trans h1, h2, h3, h4, h5.1, fun hn => ?_⟩
  obtain ⟨bb, off, e, hbb, hc⟩ := h5.2 hn
  exact ⟨bb, off, e, hbb, fun j hj => g.cell (hc j hj) (by simp; omega)⟩
def kindS (σ : St) : (Int × Bool) × St :=
  if (numS σ).1 = 14 ∨ (numS σ).1 = 15 then ((8, (numS σ).1 == 15), (numS σ).2) else if (numS σ).1 = 8 then ((8, false), refS true 2 (numS σ).2) else (((numS σ).1, false), (numS σ).2)
theorem kind_eye (y : Nat) (σ : St) (w : World) (h : EyeAt w y σ) :
    Calls Try.prog 157 #[.pointer (some ⟨y, 0, none⟩)] w (EyePost y (.tuple #[.int .i64 (kindS σ).1.1, .bool (kindS σ).1.2]) (kindS σ).2 w) := by
  have HN := Lib.hid (number_eye y σ w h)
  have HK := Lib.hid (show kindS σ = if (numS σ).1 = 14 ∨ (numS σ).1 = 15 then ((8, (numS σ).1 == 15), (numS σ).2) else if (numS σ).1 = 8 then ((8, false), refS true 2 (numS σ).2) else (((numS σ).1, false), (numS σ).2) from rfl)
  obtain ⟨n, hn⟩ : ∃ n, (numS σ).1 = n := ⟨_, rfl⟩
  obtain ⟨σ1, hs⟩ : ∃ σ1, (numS σ).2 = σ1 := ⟨_, rfl⟩
  rw [hn, hs] at HN HK
  clear h hn hs
  obtain ⟨K, hK⟩ : ∃ K, kindS σ = K := ⟨_, rfl⟩
  rw [hK] at HK ⊢
  clear hK
  by_cases c1 : n = 14
  · subst c1
    have hv := Lib.hid (show K = ((8, false), σ1) by rw [HK.out]; rfl)
    go_enter Try.func157, Try.ntmps157
    go_wp2_with (go_at_call 162; refine HN.out.mono ?_; rintro e w1 ⟨rfl, E1, g1⟩; have HE1 := Lib.hid E1; have G1 := Lib.hid g1; clear E1 g1)
    go_ret2
    rw [hv.out]
    exact ⟨rfl, HE1.out, G1.out⟩
  by_cases c2 : n = 15
  · subst c2
    have hv := Lib.hid (show K = ((8, true), σ1) by rw [HK.out]; rfl)
    go_enter Try.func157, Try.ntmps157
    go_wp2_with (go_at_call 162; refine HN.out.mono ?_; rintro e w1 ⟨rfl, E1, g1⟩; have HE1 := Lib.hid E1; have G1 := Lib.hid g1; clear E1 g1)
    go_ret2
    rw [hv.out]
    exact ⟨rfl, HE1.out, G1.out⟩
  by_cases c3 : n = 8
  · subst c3
    have hv := Lib.hid (show K = ((8, false), refS true 2 σ1) by rw [HK.out]; rfl)
    go_enter Try.func157, Try.ntmps157
    go_wp2_with (first
      | (go_at_call 162; refine HN.out.mono ?_; rintro e w1 ⟨rfl, E1, g1⟩; have HE1 := Lib.hid E1; have G1 := Lib.hid g1; clear E1 g1)
      | (go_at_call 159; refine (refuse_eye _ _ _ _ _ HE1.out).mono ?_; rintro e w2 ⟨rfl, E2, g2⟩; have HE2 := Lib.hid E2; have G2 := Lib.hid (grown_trans G1.out g2); clear E2 g2))
    go_ret2
    rw [hv.out]
    exact ⟨rfl, HE2.out, G2.out⟩
  · have hv := Lib.hid (show K = ((n, false), σ1) by rw [HK.out, if_neg (by omega), if_neg c3])
    go_enter Try.func157, Try.ntmps157
    go_wp2_with (go_at_call 162; refine HN.out.mono ?_; rintro e w1 ⟨rfl, E1, g1⟩; have HE1 := Lib.hid E1; have G1 := Lib.hid g1; clear E1 g1)
    go_ret2
    rw [hv.out]
    exact ⟨rfl, HE1.out, G1.out⟩

theorem down_eye (y : Nat) (σ : St) (hi : Int) (w : World) (h : EyeAt w y σ) (h0 : -4611686018427387905 ≤ hi) (h1 : hi ≤ 4611686018427387903) :
    Calls Try.prog 187 #[.pointer (some ⟨y, 0, none⟩), .int .i64 hi] w (EyePost y (.agg #[.int .i64 (downS hi σ).1.1, .int .i64 (downS hi σ).1.2]) (downS hi σ).2 w) := by
  have hb := numS_bd h.byt
  have HB := Lib.hid ((Below.refl w.heap.size w).alloc (Nat.le_refl _) (.cells #[.int .i64 0, .int .i64 0] 80))
  have HN := Lib.hid (number_eye y σ _ (h.keep HB.out))
  have hy := h.lt
  have HK := Lib.hid (show downS hi σ = ((hi - (numS σ).1, hi), refS (decide (hi - (numS σ).1 < 0)) 6 (numS σ).2) from rfl)
  obtain ⟨n, hn⟩ : ∃ n, (numS σ).1 = n := ⟨_, rfl⟩
  obtain ⟨σ1, hs⟩ : ∃ σ1, (numS σ).2 = σ1 := ⟨_, rfl⟩
  rw [hn, hs] at HN HK
  rw [hn] at hb
  obtain ⟨n0, n1, _, _⟩ := hb
  clear h hn hs
  obtain ⟨K, hK⟩ : ∃ K, downS hi σ = K := ⟨_, rfl⟩
  rw [hK] at HK ⊢
  clear hK
  go_enter Try.func187, Try.ntmps187
  go_wp2_with (first
      | (go_at_call 162; refine HN.out.mono ?_; rintro e w1 ⟨rfl, E1, g1⟩; have HE1 := Lib.hid E1; have G1 := Lib.hid g1; clear E1 g1)
      | (go_at_call 159; refine (refuse_eye _ _ _ _ _ HE1.out).mono ?_; rintro e w2 ⟨rfl, E2, g2⟩; have HE2 := Lib.hid E2; have G2 := Lib.hid (grown_trans G1.out g2); have hB := (G2.out.block w.heap.size (by simp) (by simp; omega)).trans (heap_alloc_new w _); obtain ⟨q0, q1, r0, r1⟩ := two_cells hB; have HBB := Lib.hid hB; clear E2 g2 hB))
  have X0 := two_set0 (.int .i64 (hi - n)) HBB.out
  have X1 := two_set1 (.int .i64 hi) X0
  have t0 := (two_cells X0).1
  have t1 := (two_cells X1).2.1
  have g := grown_trans (grown_set w2 w.heap.size 0 (.int .i64 (hi - n))) (grown_set _ w.heap.size 1 (.int .i64 hi))
  have hlt : w.heap.size < w2.heap.size := lt_of_block HBB.out
  have HEE := Lib.hid (HE2.out.other g (by omega))
  have HGG := Lib.hid (show w.grownBy ((w2.setCell ⟨w.heap.size, 0, none⟩ (.int .i64 (hi - n))).setCell ⟨w.heap.size, 1, none⟩ (.int .i64 hi)) (some y) from
    ⟨g.os.trans (G2.out.os.trans HB.out.os), g.tape.trans (G2.out.tape.trans HB.out.tape), g.output.trans (G2.out.output.trans HB.out.output), Nat.le_trans (Nat.le_of_lt hlt) g.size, fun k hk hne => (g.block k (by omega) (by simp; omega)).trans ((G2.out.block k (by simp; omega) hne).trans (HB.out.block k hk))⟩)
  clear X0 X1 g q0 q1 r0 r1
  (try simp only [Exit.inBlock, Exit.then])
  refine bodyPost_ret (by simp [results, Try.results187, go_sem, t0, t1]; try rfl) rfl ?_
  rw [HK.out]
  exact ⟨rfl, HEE.out, HGG.out⟩
end Go.Proofs.Ytgfbonfoimiknaa
