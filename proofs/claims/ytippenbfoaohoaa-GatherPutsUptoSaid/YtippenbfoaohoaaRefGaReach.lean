/- The document's answers on gathers: reachOf. -/
import Derived.Test.YtippenbfoaohoaaRefGaFaultB
import Derived.Test.YtippenbfoaohoaaGaPutF
namespace Go.Proofs.Ytippenbfoaohoaa
set_option linter.unusedVariables false
open Go.RowKit P

theorem reach_step {ps : List Pc} {d : Int} {k : Nat} (hk : k < ps.length) : reachP d (ps.take (k + 1)) = endP (ps.getD k pc0) := by
  rw [take_step hk, reach_snoc]
set_option maxRecDepth 100000 in
set_option maxHeartbeats 1000000 in
theorem refReach_any (v : Value) (g : Ga) (w : World) (hv : GaVal w w.heap.size v g) (hb : ∀ p ∈ g.held, 0 ≤ p.1 ∧ endP p ≤ 4611686018427387904) :
    Calls Try.prog 32 #[v] w fun e w' => e = .returned (.int .i64 (reachP g.done g.held)) ∧ Below w.heap.size w w' := by
  obtain ⟨sv, rfl, hs⟩ := hv.ex
  obtain ⟨A, c, rfl, hnc, hcm, hrow⟩ := hs.ex
  have B0 := Lib.hid ((Below.refl w.heap.size w).alloc (Nat.le_refl _) (.cells #[.int .i64 g.done, .slice A g.held.length c, .int .i64 g.final, .int .i64 g.window] 24))
  have F0 := Lib.hid (heap_alloc_new w (.cells #[.int .i64 g.done, .slice A g.held.length c, .int .i64 g.final, .int .i64 g.window] 24))
  have HROW := Lib.hid hrow
  have HBD := Lib.hid hb
  unfold maxLen at hcm
  clear hv hs hrow hb
  go_enter Try.func32, Try.ntmps32
  go_wp2_with fail
  go_loopg [3, 11] g.held.length (fun gq av iv wr => ∃ (k : Nat), av = .int .i64 (reachP g.done (g.held.take k)) ∧ iv = .int .i64 k ∧ k + gq = g.held.length ∧ Hid (Below w.heap.size w wr) ∧ Hid (wr.heap[w.heap.size]? = some (.cells #[.int .i64 g.done, .slice A g.held.length c, .int .i64 g.final, .int .i64 g.window] 24 (0, 0))))
  case atStart => exact ⟨0, rfl, rfl, by omega, B0, F0⟩
  case round =>
    obtain ⟨k, rfl, rfl, hkg, BK, FK⟩ := hrel
    by_cases hk : k < g.held.length
    · obtain ⟨b0, o, hA, hb0, hc⟩ := HROW.out (by omega)
      subst hA
      obtain ⟨e1, d, e2, hd⟩ := hc k hk
      obtain ⟨Ad, cd, rfl, _, _, _, _⟩ := hd.ex
      have x0 := (BK.out.cell (p := ⟨b0, o + k * 2, none⟩) hb0).trans e1
      have x1 := (BK.out.cell (p := ⟨b0, o + k * 2 + 1, none⟩) hb0).trans e2
      have hmem : g.held.getD k pc0 ∈ g.held := by rw [List.getD_eq_getElem?_getD, List.getElem?_eq_getElem hk]; exact List.getElem_mem hk
      have hof := HBD.out _ hmem
      have HST := Lib.hid (reach_step (d := g.done) hk)
      obtain ⟨p, hp⟩ : ∃ p, g.held.getD k pc0 = p := ⟨_, rfl⟩
      rw [hp] at x0 x1 hof HST
      obtain ⟨off, ds⟩ := p
      obtain ⟨m, hm⟩ : ∃ m, ds.length = m := ⟨_, rfl⟩
      have hme : endP (off, ds) = off + (m : Int) := by unfold endP; rw [hm]
      simp only at x0 x1 hof
      rw [hm] at x1
      rw [hme] at HST hof
      clear hm hme hc e1 e2 hd hmem hp
      have hwa : IntKind.i64.wrap (off + (m : Int)) = off + (m : Int) := by rw [IntKind.wrap_i64]; omega
      have hnk : (k : Int) < (g.held.length : Int) := by omega
      go_wp2_with fail
      go_roundg (gk - 1)
      case measure => omega
      case rel => exact ⟨k + 1, by rw [HST.out], by first | rfl | go_num, by omega, Lib.hid (BK.out.alloc BK.out.size _), Lib.hid ((Below.heap_alloc _ _ _ (lt_of_block FK.out)).trans FK.out)⟩
    · obtain rfl : k = g.held.length := by omega
      obtain rfl : gk = 0 := by omega
      rw [List.take_length]
      go_wp2
      go_ret
      exact ⟨rfl, BK.out⟩
theorem held_bd {g : Ga} (h : okG g) : ∀ p ∈ g.held, 0 ≤ p.1 ∧ endP p ≤ 4611686018427387904 := by
  obtain ⟨o1, o2, o3, o4, o5, o6, o7⟩ := h
  intro p hp
  obtain ⟨i, hi, rfl⟩ := List.getElem_of_mem hp
  have t := ok_take o5 (i + 1)
  have r1 := reach_take (d := g.done) o5 (i + 1) (by omega) (by omega)
  rw [reach_step hi] at r1
  rw [take_step hi] at t
  obtain ⟨t1, t2, t3⟩ := (ok_snoc _ _ _).1 t
  have e : g.held.getD i pc0 = g.held[i] := by rw [List.getD_eq_getElem?_getD, List.getElem?_eq_getElem hi]; rfl
  rw [e] at r1 t2 t3
  have := reach_mono _ _ t1
  constructor <;> omega
end Go.Proofs.Ytippenbfoaohoaa
