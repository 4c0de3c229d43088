/- The exact texts' 'sameGather': two gathers that read the same are the same. -/
import Derived.Test.YtippenbfoaohoaaRefGaFault
import Derived.Test.YtippenbfoaohoaaSame
import Derived.Deep.QuietTactic
import Derived.BigQuiet
namespace Go.Proofs.Ytippenbfoaohoaa
set_option linter.unusedVariables false
open Go.RowKit P

theorem twoG (w : World) (a b : Array Value) (T1 T2 : TypeId) : ((w.alloc (.cells a T1)).alloc (.cells b T2)).heap[w.heap.size]? = some (.cells a T1 (0, 0)) ∧ ((w.alloc (.cells a T1)).alloc (.cells b T2)).heap[w.heap.size + 1]? = some (.cells b T2 (0, 0)) ∧ Below w.heap.size w ((w.alloc (.cells a T1)).alloc (.cells b T2)) := by
  have s1 : (w.alloc (.cells a T1)).heap.size = w.heap.size + 1 := by simp
  have h2 := heap_alloc_new (w.alloc (.cells a T1)) (.cells b T2)
  rw [s1] at h2
  exact ⟨(Below.heap_alloc _ _ _ (by rw [s1]; omega)).trans (heap_alloc_new w _), h2, ((Below.refl _ _).alloc (Nat.le_refl _) _).alloc (by simp) _⟩
set_option maxRecDepth 100000 in
set_option maxHeartbeats 2000000 in
theorem sameGa_eq (v v' : Value) (g : Ga) (w : World) (h : GaVal w w.heap.size v g) (h' : GaVal w w.heap.size v' g) (hlen : g.held.length ≤ 1000) :
    Calls Try.prog 14 #[v, v'] w fun e w' => e = .returned (.bool true) ∧ Below w.heap.size w w' := by
  obtain ⟨s, rfl, hs⟩ := h.ex
  obtain ⟨s', rfl, hs'⟩ := h'.ex
  obtain ⟨A, c, rfl, h1, h2, hr⟩ := hs.ex
  obtain ⟨A', c', rfl, h1', h2', hr'⟩ := hs'.ex
  have HR := Lib.hid hr
  have HR' := Lib.hid hr'
  obtain ⟨g0, g1, g2⟩ := twoG w #[.int .i64 g.done, .slice A g.held.length c, .int .i64 g.final, .int .i64 g.window] #[.int .i64 g.done, .slice A' g.held.length c', .int .i64 g.final, .int .i64 g.window] 24 24
  have G0 := Lib.hid g0
  have G1 := Lib.hid g1
  have G2 := Lib.hid g2
  clear h h' hs hs' hr hr'
  obtain ⟨q0, q1, q2, q3⟩ := bkG g0
  obtain ⟨x0, x1, x2, x3⟩ := bkG g1
  clear g0 g1 g2
  have LT := Lib.hid (lt_of_block G0.out)
  have LT1 := Lib.hid (lt_of_block G1.out)
  go_enter Try.func14, Try.ntmps14
  go_wp2_with fail
  go_loopg [5, 6] (g.held.length + 1) (fun gq okv iv wr => ∃ k : Nat, okv = .bool true ∧ iv = .int .i64 k ∧ k + gq = g.held.length + 1 ∧ k ≤ g.held.length ∧ Hid (Below w.heap.size w wr) ∧ Hid (wr.heap[w.heap.size]? = some (.cells #[.int .i64 g.done, .slice A g.held.length c, .int .i64 g.final, .int .i64 g.window] 24 (0, 0))) ∧ Hid (wr.heap[w.heap.size + 1]? = some (.cells #[.int .i64 g.done, .slice A' g.held.length c', .int .i64 g.final, .int .i64 g.window] 24 (0, 0))))
  case atStart => exact ⟨0, by first | rfl | simp, rfl, by omega, Nat.zero_le _, G2, G0, G1⟩
  case round =>
    obtain ⟨k, rfl, rfl, hkg, hkn, BK, K0, K1⟩ := hrel
    clear q0 q1 q2 q3 x0 x1 x2 x3
    obtain ⟨q0, q1, q2, q3⟩ := bkG K0.out
    obtain ⟨x0, x1, x2, x3⟩ := bkG K1.out
    by_cases hk : k < g.held.length
    · obtain ⟨b, o, hA, hb, hc⟩ := HR.out (by omega)
      obtain ⟨b', o', hA', hb', hc'⟩ := HR'.out (by omega)
      subst hA hA'
      obtain ⟨e1, d, e2, hd⟩ := hc k hk
      obtain ⟨e1', d', e2', hd'⟩ := hc' k hk
      obtain ⟨Ad, cd, rfl, _, _, _, hrd⟩ := hd.ex
      obtain ⟨Ad', cd', rfl, _, _, _, hrd'⟩ := hd'.ex
      have y1 := (BK.out.cell (p := ⟨b, o + k * 2, none⟩) hb).trans e1
      have y2 := (BK.out.cell (p := ⟨b, o + k * 2 + 1, none⟩) hb).trans e2
      have z1 := (BK.out.cell (p := ⟨b', o' + k * 2, none⟩) hb').trans e1'
      have z2 := (BK.out.cell (p := ⟨b', o' + k * 2 + 1, none⟩) hb').trans e2'
      have DD := Lib.hid (hrd.below BK.out)
      have DD' := Lib.hid (hrd'.below BK.out)
      have hnk : (k : Int) < (g.held.length : Int) := by omega
      generalize g.held.getD k pc0 = p at *
      obtain ⟨off, ds⟩ := p
      simp only at y1 y2 z1 z2 DD DD'
      clear hc hc' e1 e2 e1' e2' hd hd' hrd hrd'
      go_wp2_with fail
      go_quiet ((go_at_call 19; exact Calls.quiet_of_same ((sameBytes_eq _ _ _ _ _ _ _ _ _ ds (DD.out.below (Go.below_drewN (Below.refl _ _) _)) (DD'.out.below (Go.below_drewN (Below.refl _ _) _)) rfl rfl).mono fun _ _ ⟨a, b⟩ => ⟨a, b.symm⟩)))
      go_wp2_with fail
      go_roundg (gk - 1)
      case measure => omega
      case rel => exact ⟨k + 1, by first | rfl | simp, by first | rfl | go_num, by omega, by omega, Lib.hid (Go.below_drewN BK.out _), K0, K1⟩
    · obtain rfl : k = g.held.length := by omega
      go_wp2_with fail
      go_ret
      exact ⟨rfl, BK.out⟩
end Go.Proofs.Ytippenbfoaohoaa
