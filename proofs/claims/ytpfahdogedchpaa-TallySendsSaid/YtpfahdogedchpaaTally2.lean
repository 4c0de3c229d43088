/- The project's tally: Got, Send, Know. -/
import Derived.Test.YtpfahdogedchpaaTally
import Derived.Deep.Cut
namespace Go.Proofs.Ytpfahdogedchpaa
set_option linter.unusedVariables false
open Go.RowKit P

/-- what stands ahead of each answer that lies in memory: the parameter's block, the answer's -/
theorem ta_two (w : World) (a0 a1 a2 z0 z1 z2 : Value) (T : TypeId) :
    Below w.heap.size w ((w.alloc (.cells #[a0, a1, a2] T)).alloc (.cells #[z0, z1, z2] T)) ∧
    ((w.alloc (.cells #[a0, a1, a2] T)).alloc (.cells #[z0, z1, z2] T)).heap[w.heap.size]? = some (.cells #[a0, a1, a2] T (0, 0)) ∧
    ((w.alloc (.cells #[a0, a1, a2] T)).alloc (.cells #[z0, z1, z2] T)).heap[w.heap.size + 1]? = some (.cells #[z0, z1, z2] T (0, 0)) := by
  refine ⟨((Below.refl w.heap.size w).alloc (Nat.le_refl _) _).alloc (by simp) _, (Below.heap_alloc _ _ w.heap.size (by simp)).trans (heap_alloc_new w _), ?_⟩
  have := heap_alloc_new (w.alloc (.cells #[a0, a1, a2] T)) (.cells #[z0, z1, z2] T)
  rwa [show (w.alloc (.cells #[a0, a1, a2] T)).heap.size = w.heap.size + 1 by simp] at this
theorem taE_ok {kn : Bool} {g s n : Int} (h : taE kn g s n = 0) : taF kn g s = 0 ∧ 0 ≤ n ∧ n ≤ 400 := by
  unfold taE at h
  by_cases a : taF kn g s = 0
  · rw [if_neg (fun k => k a)] at h
    by_cases b : 0 ≤ n ∧ n ≤ 400
    · exact ⟨a, b⟩
    · rw [if_neg b] at h; cases h
  · rw [if_pos a] at h; exact absurd h a
set_option maxHeartbeats 1000000 in
theorem taGot_any : TaGot Try.prog 10 := fun kn g s n w => by
  obtain ⟨b0, f0, z0⟩ := ta_two w (.bool kn) (.int .i64 g) (.int .i64 s) (.bool false) (.int .i64 0) (.int .i64 0) 34
  have B0 := Lib.hid b0
  have F0 := Lib.hid f0
  have Z0 := Lib.hid z0
  clear b0 f0 z0
  have HC := Lib.hid (fun w => taRefuse_any kn g s n w)
  unfold taR taG
  unfold taV at *
  by_cases h : taE kn g s n = 0
  · obtain ⟨hf, h0, h4⟩ := taE_ok h
    obtain ⟨⟨k0, k1⟩, ⟨k2, k3⟩, k4⟩ := taF_ok hf
    rw [if_neg (fun e => e h)]
    rw [h] at HC
    clear h hf
    have hadd : IntKind.i64.wrap (g + n) = g + n := by rw [IntKind.wrap_i64]; omega
    clear k4
    by_cases a : 1099511627776 < g + n
    · rw [if_pos a]
      have a' : decide (1099511627776 < g + n) = true := by simp [a]
      go_enter Try.func10, Try.ntmps10
      go_wp2_with fail
      refine (HC.out _).mono ?_
      rintro e w1 ⟨rfl, b1⟩
      have B1 := Lib.hid (B0.out.trans (b1.mono B0.out.size)); have F1 := Lib.hid ((b1.block _ (lt_of_block F0.out)).trans F0.out); have Z1 := Lib.hid ((b1.block _ (lt_of_block Z0.out)).trans Z0.out); clear b1
      obtain ⟨q0, q1, q2, qf⟩ := bk3A F1.out; obtain ⟨z0, z1, z2, zf⟩ := bk3A Z1.out
      go_upto_region 5 with fail
      have gm := gr_set w1 w.heap.size 1 (.int .i64 (g + n))
      have F2 := Lib.hid (show (w1.setCell ⟨w.heap.size, 1, none⟩ (.int .i64 (g + n))).heap[w.heap.size]? = some (.cells #[.bool kn, .int .i64 (g + n), .int .i64 s] 34 (0, 0)) by simpa using bk_set F1.out 1 (.int .i64 (g + n)))
      have Z2 := Lib.hid ((gm.block _ (lt_of_block Z1.out) (by simp)).trans Z1.out)
      have B2 := Lib.hid (gr_from B1.out B1.out.size (Nat.le_refl _) gm)
      obtain ⟨W2, hW2⟩ : ∃ q, w1.setCell ⟨w.heap.size, 1, none⟩ (.int .i64 (g + n)) = q := ⟨_, rfl⟩
      rw [hW2] at F2 Z2 B2 ⊢
      clear hW2 gm q0 q1 q2 qf z0 z1 z2 zf F1 Z1 B1
      obtain ⟨q0, q1, q2, qf⟩ := bk3A F2.out; obtain ⟨z0, z1, z2, zf⟩ := bk3A Z2.out
      go_wp2_with fail
      obtain ⟨r0, r1, r2, zb, gp⟩ := bk3A_put Z2.out (.bool false) (.int .i64 0) (.int .i64 0)
      refine bodyPost_ret (by simp [results, Try.results10, go_sem, r0, r1, r2]; try rfl) rfl ?_
      exact ⟨rfl, gr_from B2.out B2.out.size (Nat.le_succ _) gp⟩
    · rw [if_neg a]
      have a' : decide (1099511627776 < g + n) = false := by simp; omega
      go_enter Try.func10, Try.ntmps10
      go_wp2_with fail
      refine (HC.out _).mono ?_
      rintro e w1 ⟨rfl, b1⟩
      have B1 := Lib.hid (B0.out.trans (b1.mono B0.out.size)); have F1 := Lib.hid ((b1.block _ (lt_of_block F0.out)).trans F0.out); have Z1 := Lib.hid ((b1.block _ (lt_of_block Z0.out)).trans Z0.out); clear b1
      obtain ⟨q0, q1, q2, qf⟩ := bk3A F1.out; obtain ⟨z0, z1, z2, zf⟩ := bk3A Z1.out
      go_upto_region 5 with fail
      have gm := gr_set w1 w.heap.size 1 (.int .i64 (g + n))
      have F2 := Lib.hid (show (w1.setCell ⟨w.heap.size, 1, none⟩ (.int .i64 (g + n))).heap[w.heap.size]? = some (.cells #[.bool kn, .int .i64 (g + n), .int .i64 s] 34 (0, 0)) by simpa using bk_set F1.out 1 (.int .i64 (g + n)))
      have Z2 := Lib.hid ((gm.block _ (lt_of_block Z1.out) (by simp)).trans Z1.out)
      have B2 := Lib.hid (gr_from B1.out B1.out.size (Nat.le_refl _) gm)
      obtain ⟨W2, hW2⟩ : ∃ q, w1.setCell ⟨w.heap.size, 1, none⟩ (.int .i64 (g + n)) = q := ⟨_, rfl⟩
      rw [hW2] at F2 Z2 B2 ⊢
      clear hW2 gm q0 q1 q2 qf z0 z1 z2 zf F1 Z1 B1
      obtain ⟨q0, q1, q2, qf⟩ := bk3A F2.out; obtain ⟨z0, z1, z2, zf⟩ := bk3A Z2.out
      go_wp2_with fail
      obtain ⟨r0, r1, r2, zb, gp⟩ := bk3A_put Z2.out (.bool kn) (.int .i64 (g + n)) (.int .i64 s)
      refine bodyPost_ret (by simp [results, Try.results10, go_sem, r0, r1, r2]; try rfl) rfl ?_
      exact ⟨rfl, gr_from B2.out B2.out.size (Nat.le_succ _) gp⟩
  · rw [if_pos h]
    obtain ⟨x, hx⟩ : ∃ x, taE kn g s n = x := ⟨_, rfl⟩
    rw [hx] at HC h ⊢
    have g0 : (x != 0) = true := by simp [h]
    clear h hx
    go_enter Try.func10, Try.ntmps10
    go_wp2_with fail
    refine (HC.out _).mono ?_
    rintro e w1 ⟨rfl, b1⟩
    have B1 := Lib.hid (B0.out.trans (b1.mono B0.out.size)); have F1 := Lib.hid ((b1.block _ (lt_of_block F0.out)).trans F0.out); have Z1 := Lib.hid ((b1.block _ (lt_of_block Z0.out)).trans Z0.out); clear b1
    obtain ⟨q0, q1, q2, qf⟩ := bk3A F1.out; obtain ⟨z0, z1, z2, zf⟩ := bk3A Z1.out
    go_wp2_with fail
    obtain ⟨r0, r1, r2, zb, gp⟩ := bk3A_put Z1.out (.bool false) (.int .i64 0) (.int .i64 0)
    refine bodyPost_ret (by simp [results, Try.results10, go_sem, r0, r1, r2]; try rfl) rfl ?_
    exact ⟨rfl, gr_from B1.out B1.out.size (Nat.le_succ _) gp⟩
set_option maxHeartbeats 1000000 in
theorem taSent_any : TaSent Try.prog 11 := fun kn g s n w => by
  obtain ⟨b0, f0, z0⟩ := ta_two w (.bool kn) (.int .i64 g) (.int .i64 s) (.bool false) (.int .i64 0) (.int .i64 0) 34
  have B0 := Lib.hid b0
  have F0 := Lib.hid f0
  have Z0 := Lib.hid z0
  clear b0 f0 z0
  have HC := Lib.hid (fun w => taRefuse_any kn g s n w)
  unfold taR taS
  unfold taV at *
  by_cases h : taE kn g s n = 0
  · obtain ⟨hf, h0, h4⟩ := taE_ok h
    obtain ⟨⟨k0, k1⟩, ⟨k2, k3⟩, k4⟩ := taF_ok hf
    rw [if_neg (fun e => e h)]
    rw [h] at HC
    clear h hf
    have hadd : IntKind.i64.wrap (s + n) = s + n := by rw [IntKind.wrap_i64]; omega
    clear k4
    by_cases a : 1099511627776 < s + n
    · rw [if_pos a]
      have a' : decide (1099511627776 < s + n) = true := by simp [a]
      go_enter Try.func11, Try.ntmps11
      go_wp2_with fail
      refine (HC.out _).mono ?_
      rintro e w1 ⟨rfl, b1⟩
      have B1 := Lib.hid (B0.out.trans (b1.mono B0.out.size)); have F1 := Lib.hid ((b1.block _ (lt_of_block F0.out)).trans F0.out); have Z1 := Lib.hid ((b1.block _ (lt_of_block Z0.out)).trans Z0.out); clear b1
      obtain ⟨q0, q1, q2, qf⟩ := bk3A F1.out; obtain ⟨z0, z1, z2, zf⟩ := bk3A Z1.out
      go_upto_region 5 with fail
      have gm := gr_set w1 w.heap.size 2 (.int .i64 (s + n))
      have F2 := Lib.hid (show (w1.setCell ⟨w.heap.size, 2, none⟩ (.int .i64 (s + n))).heap[w.heap.size]? = some (.cells #[.bool kn, .int .i64 g, .int .i64 (s + n)] 34 (0, 0)) by simpa using bk_set F1.out 2 (.int .i64 (s + n)))
      have Z2 := Lib.hid ((gm.block _ (lt_of_block Z1.out) (by simp)).trans Z1.out)
      have B2 := Lib.hid (gr_from B1.out B1.out.size (Nat.le_refl _) gm)
      obtain ⟨W2, hW2⟩ : ∃ q, w1.setCell ⟨w.heap.size, 2, none⟩ (.int .i64 (s + n)) = q := ⟨_, rfl⟩
      rw [hW2] at F2 Z2 B2 ⊢
      clear hW2 gm q0 q1 q2 qf z0 z1 z2 zf F1 Z1 B1
      obtain ⟨q0, q1, q2, qf⟩ := bk3A F2.out; obtain ⟨z0, z1, z2, zf⟩ := bk3A Z2.out
      go_wp2_with fail
      obtain ⟨r0, r1, r2, zb, gp⟩ := bk3A_put Z2.out (.bool false) (.int .i64 0) (.int .i64 0)
      refine bodyPost_ret (by simp [results, Try.results11, go_sem, r0, r1, r2]; try rfl) rfl ?_
      exact ⟨rfl, gr_from B2.out B2.out.size (Nat.le_succ _) gp⟩
    · rw [if_neg a]
      have a' : decide (1099511627776 < s + n) = false := by simp; omega
      have HA := Lib.hid (fun w => taAllowed_any kn g (s + n) ⟨k0, k1⟩ w)
      by_cases b : kn = false ∧ 3 * g < s + n
      · rw [if_pos b]
        rw [show taA kn g (s + n) = false by unfold taA; rw [b.1]; simp; omega] at HA
        clear b
        go_enter Try.func11, Try.ntmps11
        go_wp2_with fail
        refine (HC.out _).mono ?_
        rintro e w1 ⟨rfl, b1⟩
        have B1 := Lib.hid (B0.out.trans (b1.mono B0.out.size)); have F1 := Lib.hid ((b1.block _ (lt_of_block F0.out)).trans F0.out); have Z1 := Lib.hid ((b1.block _ (lt_of_block Z0.out)).trans Z0.out); clear b1
        obtain ⟨q0, q1, q2, qf⟩ := bk3A F1.out; obtain ⟨z0, z1, z2, zf⟩ := bk3A Z1.out
        go_upto_region 5 with fail
        have gm := gr_set w1 w.heap.size 2 (.int .i64 (s + n))
        have F2 := Lib.hid (show (w1.setCell ⟨w.heap.size, 2, none⟩ (.int .i64 (s + n))).heap[w.heap.size]? = some (.cells #[.bool kn, .int .i64 g, .int .i64 (s + n)] 34 (0, 0)) by simpa using bk_set F1.out 2 (.int .i64 (s + n)))
        have Z2 := Lib.hid ((gm.block _ (lt_of_block Z1.out) (by simp)).trans Z1.out)
        have B2 := Lib.hid (gr_from B1.out B1.out.size (Nat.le_refl _) gm)
        obtain ⟨W2, hW2⟩ : ∃ q, w1.setCell ⟨w.heap.size, 2, none⟩ (.int .i64 (s + n)) = q := ⟨_, rfl⟩
        rw [hW2] at F2 Z2 B2 ⊢
        clear hW2 gm q0 q1 q2 qf z0 z1 z2 zf F1 Z1 B1
        obtain ⟨q0, q1, q2, qf⟩ := bk3A F2.out; obtain ⟨z0, z1, z2, zf⟩ := bk3A Z2.out
        go_wp2_with fail
        refine (HA.out _).mono ?_
        rintro e w3 ⟨rfl, b3⟩
        have B3 := Lib.hid (B2.out.trans (b3.mono B2.out.size)); have F3 := Lib.hid ((b3.block _ (lt_of_block F2.out)).trans F2.out); have Z3 := Lib.hid ((b3.block _ (lt_of_block Z2.out)).trans Z2.out); clear b3 q0 q1 q2 qf z0 z1 z2 zf
        obtain ⟨q0, q1, q2, qf⟩ := bk3A F3.out; obtain ⟨z0, z1, z2, zf⟩ := bk3A Z3.out
        go_wp2_with fail
        obtain ⟨r0, r1, r2, zb, gp⟩ := bk3A_put Z3.out (.bool false) (.int .i64 0) (.int .i64 0)
        refine bodyPost_ret (by simp [results, Try.results11, go_sem, r0, r1, r2]; try rfl) rfl ?_
        exact ⟨rfl, gr_from B3.out B3.out.size (Nat.le_succ _) gp⟩
      · rw [if_neg b]
        rw [show taA kn g (s + n) = true by unfold taA; cases kn <;> simp at b ⊢; omega] at HA
        clear b
        go_enter Try.func11, Try.ntmps11
        go_wp2_with fail
        refine (HC.out _).mono ?_
        rintro e w1 ⟨rfl, b1⟩
        have B1 := Lib.hid (B0.out.trans (b1.mono B0.out.size)); have F1 := Lib.hid ((b1.block _ (lt_of_block F0.out)).trans F0.out); have Z1 := Lib.hid ((b1.block _ (lt_of_block Z0.out)).trans Z0.out); clear b1
        obtain ⟨q0, q1, q2, qf⟩ := bk3A F1.out; obtain ⟨z0, z1, z2, zf⟩ := bk3A Z1.out
        go_upto_region 5 with fail
        have gm := gr_set w1 w.heap.size 2 (.int .i64 (s + n))
        have F2 := Lib.hid (show (w1.setCell ⟨w.heap.size, 2, none⟩ (.int .i64 (s + n))).heap[w.heap.size]? = some (.cells #[.bool kn, .int .i64 g, .int .i64 (s + n)] 34 (0, 0)) by simpa using bk_set F1.out 2 (.int .i64 (s + n)))
        have Z2 := Lib.hid ((gm.block _ (lt_of_block Z1.out) (by simp)).trans Z1.out)
        have B2 := Lib.hid (gr_from B1.out B1.out.size (Nat.le_refl _) gm)
        obtain ⟨W2, hW2⟩ : ∃ q, w1.setCell ⟨w.heap.size, 2, none⟩ (.int .i64 (s + n)) = q := ⟨_, rfl⟩
        rw [hW2] at F2 Z2 B2 ⊢
        clear hW2 gm q0 q1 q2 qf z0 z1 z2 zf F1 Z1 B1
        obtain ⟨q0, q1, q2, qf⟩ := bk3A F2.out; obtain ⟨z0, z1, z2, zf⟩ := bk3A Z2.out
        go_wp2_with fail
        refine (HA.out _).mono ?_
        rintro e w3 ⟨rfl, b3⟩
        have B3 := Lib.hid (B2.out.trans (b3.mono B2.out.size)); have F3 := Lib.hid ((b3.block _ (lt_of_block F2.out)).trans F2.out); have Z3 := Lib.hid ((b3.block _ (lt_of_block Z2.out)).trans Z2.out); clear b3 q0 q1 q2 qf z0 z1 z2 zf
        obtain ⟨q0, q1, q2, qf⟩ := bk3A F3.out; obtain ⟨z0, z1, z2, zf⟩ := bk3A Z3.out
        go_wp2_with fail
        obtain ⟨r0, r1, r2, zb, gp⟩ := bk3A_put Z3.out (.bool kn) (.int .i64 g) (.int .i64 (s + n))
        refine bodyPost_ret (by simp [results, Try.results11, go_sem, r0, r1, r2]; try rfl) rfl ?_
        exact ⟨rfl, gr_from B3.out B3.out.size (Nat.le_succ _) gp⟩
  · rw [if_pos h]
    obtain ⟨x, hx⟩ : ∃ x, taE kn g s n = x := ⟨_, rfl⟩
    rw [hx] at HC h ⊢
    have g0 : (x != 0) = true := by simp [h]
    clear h hx
    go_enter Try.func11, Try.ntmps11
    go_wp2_with fail
    refine (HC.out _).mono ?_
    rintro e w1 ⟨rfl, b1⟩
    have B1 := Lib.hid (B0.out.trans (b1.mono B0.out.size)); have F1 := Lib.hid ((b1.block _ (lt_of_block F0.out)).trans F0.out); have Z1 := Lib.hid ((b1.block _ (lt_of_block Z0.out)).trans Z0.out); clear b1
    obtain ⟨q0, q1, q2, qf⟩ := bk3A F1.out; obtain ⟨z0, z1, z2, zf⟩ := bk3A Z1.out
    go_wp2_with fail
    obtain ⟨r0, r1, r2, zb, gp⟩ := bk3A_put Z1.out (.bool false) (.int .i64 0) (.int .i64 0)
    refine bodyPost_ret (by simp [results, Try.results11, go_sem, r0, r1, r2]; try rfl) rfl ?_
    exact ⟨rfl, gr_from B1.out B1.out.size (Nat.le_succ _) gp⟩
set_option maxHeartbeats 1000000 in
theorem taKnow_any : TaKnow Try.prog 12 := fun kn g s w => by
  obtain ⟨b0, f0, z0⟩ := ta_two w (.bool kn) (.int .i64 g) (.int .i64 s) (.bool false) (.int .i64 0) (.int .i64 0) 34
  have B0 := Lib.hid b0
  have F0 := Lib.hid f0
  have Z0 := Lib.hid z0
  clear b0 f0 z0
  have HC := Lib.hid (fun w => taChk_any kn g s w)
  unfold taR taK
  unfold taV at *
  by_cases h : taF kn g s = 0
  · rw [if_neg (fun e => e h)]
    rw [h] at HC
    clear h
    go_enter Try.func12, Try.ntmps12
    go_wp2_with fail
    refine (HC.out _).mono ?_
    rintro e w1 ⟨rfl, b1⟩
    have B1 := Lib.hid (B0.out.trans (b1.mono B0.out.size)); have F1 := Lib.hid ((b1.block _ (lt_of_block F0.out)).trans F0.out); have Z1 := Lib.hid ((b1.block _ (lt_of_block Z0.out)).trans Z0.out); clear b1
    obtain ⟨q0, q1, q2, qf⟩ := bk3A F1.out; obtain ⟨z0, z1, z2, zf⟩ := bk3A Z1.out
    go_upto_region 5 with fail
    have gm := gr_set w1 w.heap.size 0 (.bool true)
    have F2 := Lib.hid (show (w1.setCell ⟨w.heap.size, 0, none⟩ (.bool true)).heap[w.heap.size]? = some (.cells #[.bool true, .int .i64 g, .int .i64 s] 34 (0, 0)) by simpa using bk_set F1.out 0 (.bool true))
    have Z2 := Lib.hid ((gm.block _ (lt_of_block Z1.out) (by simp)).trans Z1.out)
    have B2 := Lib.hid (gr_from B1.out B1.out.size (Nat.le_refl _) gm)
    obtain ⟨W2, hW2⟩ : ∃ q, w1.setCell ⟨w.heap.size, 0, none⟩ (.bool true) = q := ⟨_, rfl⟩
    rw [hW2] at F2 Z2 B2 ⊢
    clear hW2 gm q0 q1 q2 qf z0 z1 z2 zf F1 Z1 B1
    obtain ⟨q0, q1, q2, qf⟩ := bk3A F2.out; obtain ⟨z0, z1, z2, zf⟩ := bk3A Z2.out
    go_wp2_with fail
    obtain ⟨r0, r1, r2, zb, gp⟩ := bk3A_put Z2.out (.bool true) (.int .i64 g) (.int .i64 s)
    refine bodyPost_ret (by simp [results, Try.results12, go_sem, r0, r1, r2]; try rfl) rfl ?_
    exact ⟨rfl, gr_from B2.out B2.out.size (Nat.le_succ _) gp⟩
  · rw [if_pos h]
    obtain ⟨x, hx⟩ : ∃ x, taF kn g s = x := ⟨_, rfl⟩
    rw [hx] at HC h ⊢
    have g0 : (x != 0) = true := by simp [h]
    clear h hx
    go_enter Try.func12, Try.ntmps12
    go_wp2_with fail
    refine (HC.out _).mono ?_
    rintro e w1 ⟨rfl, b1⟩
    have B1 := Lib.hid (B0.out.trans (b1.mono B0.out.size)); have F1 := Lib.hid ((b1.block _ (lt_of_block F0.out)).trans F0.out); have Z1 := Lib.hid ((b1.block _ (lt_of_block Z0.out)).trans Z0.out); clear b1
    obtain ⟨q0, q1, q2, qf⟩ := bk3A F1.out; obtain ⟨z0, z1, z2, zf⟩ := bk3A Z1.out
    go_wp2_with fail
    obtain ⟨r0, r1, r2, zb, gp⟩ := bk3A_put Z1.out (.bool false) (.int .i64 0) (.int .i64 0)
    refine bodyPost_ret (by simp [results, Try.results12, go_sem, r0, r1, r2]; try rfl) rfl ?_
    exact ⟨rfl, gr_from B1.out B1.out.size (Nat.le_succ _) gp⟩
end Go.Proofs.Ytpfahdogedchpaa
