/- Contracts of package gather: Begin, Widen. -/
import Derived.Test.YtippenbfoaohoaaGaChk
import Derived.Test.YtippenbfoaohoaaGaCopy
import Derived.Test.YtippenbfoaohoaaFresh
namespace Go.Proofs.Ytippenbfoaohoaa
set_option linter.unusedVariables false
open Go.RowKit P

set_option maxHeartbeats 1000000 in
theorem gaBegin_F (n : Int) (w : World) (hn : -9223372036854775808 ≤ n ∧ n ≤ 9223372036854775807) : Calls Try.prog 12 #[.int .i64 n] w (GaResF (begG n) w) := by
  have B0 := Lib.hid ((Below.refl w.heap.size w).alloc (Nat.le_refl _) (.cells #[.int .i64 0, .slice none 0 0, .int .i64 0, .int .i64 0] 24))
  have Z0 := Lib.hid (heap_alloc_new w (.cells #[.int .i64 0, .slice none 0 0, .int .i64 0, .int .i64 0] 24))
  unfold begG
  by_cases a : n < 0 ∨ 4611686018427387903 < n
  · rw [if_pos a]
    obtain ⟨z0, z1, z2, z3⟩ := bkG Z0.out
    have zf := fun i => bk_frz Z0.out i
    by_cases a1 : n < 0
    · clear a
      go_enter Try.func12, Try.ntmps12
      go_wp2
      refine bodyPost_ret (by simp [results, Try.results12, go_sem]; try rfl) rfl ?_
      exact ⟨(Below.refl _ _).alloc (Nat.le_refl _) _, _, rfl, ⟨_, rfl, PF.nil _ _⟩⟩
    · have d1 : decide (n < 0) = false := by simp; omega
      have d2 : decide (4611686018427387903 < n) = true := by simp; omega
      clear a
      go_enter Try.func12, Try.ntmps12
      go_wp2
      refine bodyPost_ret (by simp [results, Try.results12, go_sem]; try rfl) rfl ?_
      exact ⟨(Below.refl _ _).alloc (Nat.le_refl _) _, _, rfl, ⟨_, rfl, PF.nil _ _⟩⟩
  · rw [if_neg a]
    obtain ⟨z0, z1, z2, z3⟩ := bkG Z0.out
    have zf := fun i => bk_frz Z0.out i
    have d1 : decide (n < 0) = false := by simp; omega
    have d2 : decide (4611686018427387903 < n) = false := by simp; omega
    clear a
    go_enter Try.func12, Try.ntmps12
    go_wp2
    refine bodyPost_ret (by simp [results, Try.results12, go_sem]; try rfl) rfl ?_
    exact ⟨(Below.refl _ _).alloc (Nat.le_refl _) _, _, rfl, ⟨_, rfl, PF.nil _ _⟩⟩
theorem GaResF.toRes {r : Ga × Int} {w : World} {e : Ending} {w' : World} (h : GaResF r w e w') : GaRes r w e w' := by
  obtain ⟨u, h1, h2⟩ := h.ex
  exact ⟨h.be, u, h1, h2.now⟩
theorem TakResF.toRes {r : Ga × List Int × Bool × Int} {w : World} {e : Ending} {w' : World} (h : TakResF r w e w') : TakRes r w e w' := by
  obtain ⟨u, d, h1, h2, h3⟩ := h.ex
  exact ⟨h.be, u, d, h1, h2.now, h3.now⟩
theorem gaBegin_any : GaBeg Try.prog 12 := fun n w hn => (gaBegin_F n w hn).mono fun _ _ h => h.toRes
set_option maxHeartbeats 2000000 in
theorem gaWiden_F (v : Value) (g : Ga) (n : Int) (w : World) (hv : GaVal w w.heap.size v g) (hw : GaWf g) (hlen : ∀ p ∈ g.held, p.2.length ≤ 140737488355328) : Calls Try.prog 20 #[v, .int .i64 n] w (GaResF (widG g n) w) := by
  obtain ⟨s, rfl, hs⟩ := hv.ex
  obtain ⟨g0, g1, g2⟩ := twoG w #[.int .i64 g.done, s, .int .i64 g.final, .int .i64 g.window] #[.int .i64 0, .slice none 0 0, .int .i64 0, .int .i64 0] 24 24
  have G0 := Lib.hid g0
  have G1 := Lib.hid g1
  have B0 := Lib.hid g2
  have PS := Lib.hid hs
  have HF := Lib.hid (fun w' (hb : Below w.heap.size w w') => gaChk_any _ g w' (hv.on hb) hw hlen)
  obtain ⟨A, c, rfl, _, _, _⟩ := id hs.ex
  unfold widG
  by_cases hf : faultG g = 0
  · have hl4 := ok_len hf
    have HC := Lib.hid (fun w' (hb : Below w.heap.size w w') => copied_any (.slice A g.held.length c) g.held w' ((hs.below hb).more hb.size) (by omega) hlen)
    clear hv hw hlen hs g0 g1 g2
    rw [if_neg (fun e => e hf)]
    rw [hf] at HF
    clear hf
    by_cases a : 4611686018427387903 < n
    · rw [if_pos a]
      go_enter Try.func20, Try.ntmps20
      go_wp2_with (go_at_call 11; refine (HF.out _ B0.out).mono ?_; rintro e w1 ⟨rfl, b1⟩; have B1 := Lib.hid (B0.out.trans (b1.mono B0.out.size)); have F1 := Lib.hid ((b1.block _ (lt_of_block G0.out)).trans G0.out); have Z1 := Lib.hid ((b1.block _ (lt_of_block G1.out)).trans G1.out); clear b1; obtain ⟨q0, q1, q2, q3⟩ := bkG F1.out; obtain ⟨z0, z1, z2, z3⟩ := bkG Z1.out; have zf := fun i => bk_frz Z1.out i)
      obtain ⟨r0, r1, r2, r3, gp⟩ := bkG_put Z1.out (.int .i64 0) (.slice none 0 0) (.int .i64 0) (.int .i64 0)
      refine bodyPost_ret (by simp [results, Try.results20, go_sem, r0, r1, r2, r3]; try rfl) rfl ?_
      exact ⟨gr_from B1.out B1.out.size (Nat.le_succ _) gp, _, rfl, ⟨_, rfl, PF.nil _ _⟩⟩
    · rw [if_neg a]
      obtain ⟨m, hm⟩ : ∃ m, max n g.window = m := ⟨_, rfl⟩
      have hmax : (if g.window < n then n else g.window) = m := by rw [← hm]; split <;> omega
      rw [hm]
      clear hm
      go_enter Try.func20, Try.ntmps20
      go_wp2_with (go_at_call 11; refine (HF.out _ B0.out).mono ?_; rintro e w1 ⟨rfl, b1⟩; have B1 := Lib.hid (B0.out.trans (b1.mono B0.out.size)); have F1 := Lib.hid ((b1.block _ (lt_of_block G0.out)).trans G0.out); have Z1 := Lib.hid ((b1.block _ (lt_of_block G1.out)).trans G1.out); clear b1; obtain ⟨q0, q1, q2, q3⟩ := bkG F1.out)
      refine (HC.out _ B1.out).mono ?_
      rintro e w2 ⟨u, cs, rfl, r2, ec, b2⟩
      have R2 := Lib.hid r2
      have EC := Lib.hid ec
      have B2 := Lib.hid (B1.out.trans (b2.mono B1.out.size))
      have F2 := Lib.hid ((b2.block _ (lt_of_block F1.out)).trans F1.out)
      have Z2 := Lib.hid ((b2.block _ (lt_of_block Z1.out)).trans Z1.out)
      have hlo := Lib.hid (fun k hk => (r2.lt k hk).1)
      have hsz1 := B1.out.size
      have hz1 := lt_of_block Z1.out
      obtain ⟨Au, cu, hu, _, _⟩ := r2.slice
      subst hu
      clear r2 ec b2 q0 q1 q2 q3
      obtain ⟨q0, q1, q2, q3⟩ := bkG F2.out
      have qf := fun i => bk_frz F2.out i
      have s1 := gr_set w2 w.heap.size 1 (.slice Au cs.length cu)
      have FX := Lib.hid (show (w2.setCell ⟨w.heap.size, 1, none⟩ (.slice Au cs.length cu)).heap[w.heap.size]? = some (.cells #[.int .i64 g.done, .slice Au cs.length cu, .int .i64 g.final, .int .i64 g.window] 24 (0, 0)) from by simpa using bk_set F2.out 1 (.slice Au cs.length cu))
      have s2 := gr_set (w2.setCell ⟨w.heap.size, 1, none⟩ (.slice Au cs.length cu)) w.heap.size 3 (.int .i64 m)
      have FY := Lib.hid (show ((w2.setCell ⟨w.heap.size, 1, none⟩ (.slice Au cs.length cu)).setCell ⟨w.heap.size, 3, none⟩ (.int .i64 m)).heap[w.heap.size]? = some (.cells #[.int .i64 g.done, .slice Au cs.length cu, .int .i64 g.final, .int .i64 m] 24 (0, 0)) from by simpa using bk_set FX.out 3 (.int .i64 m))
      have ZY := Lib.hid (((gr_trans s1 s2).block _ (lt_of_block Z2.out) (by simp)).trans Z2.out)
      have BY := Lib.hid (gr_from B2.out B2.out.size (Nat.le_refl _) (gr_trans s1 s2))
      have GY := Lib.hid (gr_trans s1 s2)
      clear s1 s2
      obtain ⟨p0, p1, p2, p3⟩ := bkG FX.out
      have pf := fun i => bk_frz FX.out i
      obtain ⟨u0, u1, u2, u3⟩ := bkG FY.out
      obtain ⟨z0, z1, z2, z3⟩ := bkG ZY.out
      have zf := fun i => bk_frz ZY.out i
      go_wp2
      obtain ⟨r0, r1, r2, r3, gp⟩ := bkG_put ZY.out (.int .i64 g.done) (.slice Au cs.length cu) (.int .i64 g.final) (.int .i64 m)
      refine bodyPost_ret (by simp [results, Try.results20, go_sem, r0, r1, r2, r3]; try rfl) rfl ?_
      have BB := gr_from BY.out BY.out.size (Nat.le_succ _) gp
      exact ⟨BB, _, rfl, ⟨_, rfl, pf_of ((R2.out.keptB GY.out (by omega)).keptB gp (by omega)) EC.out hsz1⟩⟩
  · rw [if_pos hf]
    clear hv hw hlen hs g0 g1 g2
    obtain ⟨x, hx⟩ : ∃ x, faultG g = x := ⟨_, rfl⟩
    rw [hx] at HF hf ⊢
    have gx : (x != 0) = true := by simp [hf]
    clear hx hf
    go_enter Try.func20, Try.ntmps20
    go_wp2_with (go_at_call 11; refine (HF.out _ B0.out).mono ?_; rintro e w1 ⟨rfl, b1⟩; have B1 := Lib.hid (B0.out.trans (b1.mono B0.out.size)); have F1 := Lib.hid ((b1.block _ (lt_of_block G0.out)).trans G0.out); have Z1 := Lib.hid ((b1.block _ (lt_of_block G1.out)).trans G1.out); clear b1; obtain ⟨q0, q1, q2, q3⟩ := bkG F1.out; obtain ⟨z0, z1, z2, z3⟩ := bkG Z1.out; have zf := fun i => bk_frz Z1.out i)
    obtain ⟨r0, r1, r2, r3, gp⟩ := bkG_put Z1.out (.int .i64 0) (.slice none 0 0) (.int .i64 0) (.int .i64 0)
    refine bodyPost_ret (by simp [results, Try.results20, go_sem, r0, r1, r2, r3]; try rfl) rfl ?_
    exact ⟨gr_from B1.out B1.out.size (Nat.le_succ _) gp, _, rfl, ⟨_, rfl, PF.nil _ _⟩⟩
theorem gaWiden_any : GaWid Try.prog 20 := fun v g n w hv hw hlen => (gaWiden_F v g n w hv hw hlen).mono fun _ _ h => h.toRes
end Go.Proofs.Ytippenbfoaohoaa
