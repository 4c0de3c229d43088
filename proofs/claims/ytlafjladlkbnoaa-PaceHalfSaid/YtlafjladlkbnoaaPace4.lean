/- The project's pace: Lost. -/
import Derived.Test.YtlafjladlkbnoaaPace
import Derived.Deep.CutRange
namespace Go.Proofs.Ytlafjladlkbnoaa
set_option linter.unusedVariables false
open Go.RowKit P

set_option maxHeartbeats 2000000 in
theorem paLost_any : PaLose Try.prog 16 := fun wd th fl si n t now hsi w => by
  obtain ⟨B0, F0, Z0⟩ := two_new w (.int .i64 wd) (.int .i64 th) (.int .i64 fl) (.int .i64 si) (.int .i64 0) (.int .i64 0) (.int .i64 0) (.int .i64 0) 23
  have B1 := Lib.hid (B0.alloc (by simp; omega) (.cells #[.int .i64 n, .int .i64 t, .int .i64 now] 3)); have F1 := Lib.hid ((Below.heap_alloc _ (.cells #[.int .i64 n, .int .i64 t, .int .i64 now] 3) _ (lt_of_block F0)).trans F0); have Z1 := Lib.hid ((Below.heap_alloc _ (.cells #[.int .i64 n, .int .i64 t, .int .i64 now] 3) _ (lt_of_block Z0)).trans Z0)
  clear B0 F0 Z0
  have HF := Lib.hid (fun w b hr hb => paRefuse_any wd th fl si [n, t, now] 3 b w hsi hr hb rfl (by omega))
  unfold paR paL
  unfold paV at *
  clear hsi
  by_cases h : paE wd th fl si [n, t, now] = 0
  · obtain ⟨hf, ⟨m0, m1⟩, hK⟩ := paE_ok h
    obtain ⟨k0, k1, k2, ⟨k3, k4⟩, k5, k6⟩ := paF_ok hf
    rw [if_neg (fun e => e h)]
    rw [h] at HF
    have KT := Lib.hid k2
    have KK := Lib.hid hK
    clear h hf k2 hK
    by_cases a : fl < n
    · rw [if_pos a]
      have HL := Lib.hid (fun w => paLand_no wd th fl si n a w)
      unfold paR paV at HL
      clear a
      go_enter Try.func16, Try.ntmps16
      go_wp2_with fail
      refine (HF.out _ _ (nrow3 _ _ _ _ _ _ (by simp)) (by simp)).mono ?_
      rintro e w1 ⟨rfl, b1⟩
      have B2 := Lib.hid (B1.out.trans (b1.mono B1.out.size)); have F2 := Lib.hid ((b1.block _ (lt_of_block F1.out)).trans F1.out); have Z2 := Lib.hid ((b1.block _ (lt_of_block Z1.out)).trans Z1.out); clear b1
      obtain ⟨q0, q1, q2, q3, qf⟩ := bk4 F2.out; obtain ⟨z0, z1, z2, z3, zf⟩ := bk4 Z2.out
      go_wp2_with fail
      refine (HL.out _).mono ?_
      rintro e w2 ⟨rfl, b2⟩
      have B3 := Lib.hid (B2.out.trans (b2.mono B2.out.size)); have F3 := Lib.hid ((b2.block _ (lt_of_block F2.out)).trans F2.out); have Z3 := Lib.hid ((b2.block _ (lt_of_block Z2.out)).trans Z2.out); clear b2 q0 q1 q2 q3 qf z0 z1 z2 z3 zf
      obtain ⟨s0, s1, s2, s3, F4, gs⟩ := bk4_put F3.out (.int .i64 0) (.int .i64 0) (.int .i64 0) (.int .i64 0)
      have F5 := Lib.hid F4
      have Z4 := Lib.hid ((gs.block _ (lt_of_block Z3.out) (by simp)).trans Z3.out)
      have B4 := Lib.hid (gr_from B3.out B3.out.size (Nat.le_refl _) gs)
      clear s0 s1 s2 s3 F4 gs
      obtain ⟨q0, q1, q2, q3, qf⟩ := bk4 F3.out; obtain ⟨z0, z1, z2, z3, zf⟩ := bk4 Z3.out
      go_wp2_with fail
      obtain ⟨r0, r1, r2, r3, _, gp⟩ := bk4_put Z4.out (.int .i64 (0)) (.int .i64 (0)) (.int .i64 (0)) (.int .i64 (0))
      refine bodyPost_ret (by simp [results, Try.results16, go_sem, r0, r1, r2, r3]; try rfl) rfl ?_
      exact ⟨rfl, gr_from B4.out B4.out.size (Nat.le_succ _) gp⟩
    · rw [if_neg a]
      have HL := Lib.hid (fun w => paLand_yes wd th fl si n m0 (by omega) k4 w)
      unfold paR paV at HL
      by_cases s : si < t
      · rw [if_pos s]
        have gs' : decide (si < t) = true := by simp [s]
        obtain ⟨H, hH⟩ : ∃ H, max (wd / 2) 200 = H := ⟨_, rfl⟩
        obtain ⟨S, hS⟩ : ∃ S, max now t = S := ⟨_, rfl⟩
        have hm1 : (if wd / 2 < 200 then 200 else wd / 2) = H := by split <;> omega
        have hm2 : (if 200 < wd / 2 then wd / 2 else 200) = H := by split <;> omega
        have hm3 : (if now < t then t else now) = S := by split <;> omega
        have hm4 : (if t < now then now else t) = S := by split <;> omega
        rw [hH, hS]
        clear a s hH hS
        go_enter Try.func16, Try.ntmps16
        go_wp2_with fail
        refine (HF.out _ _ (nrow3 _ _ _ _ _ _ (by simp)) (by simp)).mono ?_
        rintro e w1 ⟨rfl, b1⟩
        have B2 := Lib.hid (B1.out.trans (b1.mono B1.out.size)); have F2 := Lib.hid ((b1.block _ (lt_of_block F1.out)).trans F1.out); have Z2 := Lib.hid ((b1.block _ (lt_of_block Z1.out)).trans Z1.out); clear b1
        obtain ⟨q0, q1, q2, q3, qf⟩ := bk4 F2.out; obtain ⟨z0, z1, z2, z3, zf⟩ := bk4 Z2.out
        go_wp2_with fail
        refine (HL.out _).mono ?_
        rintro e w2 ⟨rfl, b2⟩
        have B3 := Lib.hid (B2.out.trans (b2.mono B2.out.size)); have F3 := Lib.hid ((b2.block _ (lt_of_block F2.out)).trans F2.out); have Z3 := Lib.hid ((b2.block _ (lt_of_block Z2.out)).trans Z2.out); clear b2 q0 q1 q2 q3 qf z0 z1 z2 z3 zf
        obtain ⟨s0, s1, s2, s3, F4, gs⟩ := bk4_put F3.out (.int .i64 wd) (.int .i64 th) (.int .i64 (fl - n)) (.int .i64 si)
        have F5 := Lib.hid F4
        have Z4 := Lib.hid ((gs.block _ (lt_of_block Z3.out) (by simp)).trans Z3.out)
        have B4 := Lib.hid (gr_from B3.out B3.out.size (Nat.le_refl _) gs)
        clear s0 s1 s2 s3 F4 gs
        obtain ⟨q0, q1, q2, q3, qf⟩ := bk4 F3.out; obtain ⟨z0, z1, z2, z3, zf⟩ := bk4 Z3.out
        go_upto_region 7 with (fail)
        obtain ⟨W4, hW⟩ : ∃ W, (((w2.setCell ⟨w.heap.size, 0, none⟩ (.int .i64 wd)).setCell ⟨w.heap.size, 1, none⟩ (.int .i64 th)).setCell ⟨w.heap.size, 2, none⟩ (.int .i64 (fl - n))).setCell ⟨w.heap.size, 3, none⟩ (.int .i64 si) = W := ⟨_, rfl⟩
        rw [hW]
        rw [hW] at F5 Z4 B4
        clear hW q0 q1 q2 q3 qf z0 z1 z2 z3 zf
        obtain ⟨q0, q1, q2, q3, qf⟩ := bk4 F5.out; obtain ⟨z0, z1, z2, z3, zf⟩ := bk4 Z4.out
        go_upto_region 11 with (fail)
        have F6 := Lib.hid (show (W4.setCell ⟨w.heap.size, 3, none⟩ (.int .i64 S)).heap[w.heap.size]? = some (.cells #[.int .i64 wd, .int .i64 th, .int .i64 (fl - n), .int .i64 S] 23 (0, 0)) by simpa using bk_set F5.out 3 (.int .i64 S))
        have F7 := Lib.hid (show ((W4.setCell ⟨w.heap.size, 3, none⟩ (.int .i64 S)).setCell ⟨w.heap.size, 0, none⟩ (.int .i64 H)).heap[w.heap.size]? = some (.cells #[.int .i64 H, .int .i64 th, .int .i64 (fl - n), .int .i64 S] 23 (0, 0)) by simpa using bk_set F6.out 0 (.int .i64 H))
        have F8 := Lib.hid (show (((W4.setCell ⟨w.heap.size, 3, none⟩ (.int .i64 S)).setCell ⟨w.heap.size, 0, none⟩ (.int .i64 H)).setCell ⟨w.heap.size, 1, none⟩ (.int .i64 H)).heap[w.heap.size]? = some (.cells #[.int .i64 H, .int .i64 H, .int .i64 (fl - n), .int .i64 S] 23 (0, 0)) by simpa using bk_set F7.out 1 (.int .i64 H))
        have gm := gr_trans (gr_trans (gr_set W4 w.heap.size 3 (.int .i64 S)) (gr_set _ w.heap.size 0 (.int .i64 H))) (gr_set _ w.heap.size 1 (.int .i64 H))
        have Z6 := Lib.hid ((gm.block _ (lt_of_block Z4.out) (by simp)).trans Z4.out)
        have B6 := Lib.hid (gr_from B4.out B4.out.size (Nat.le_refl _) gm)
        obtain ⟨W5, hW⟩ : ∃ W, ((W4.setCell ⟨w.heap.size, 3, none⟩ (.int .i64 S)).setCell ⟨w.heap.size, 0, none⟩ (.int .i64 H)).setCell ⟨w.heap.size, 1, none⟩ (.int .i64 H) = W := ⟨_, rfl⟩
        rw [hW]
        rw [hW] at F8 Z6 B6
        clear hW gm q0 q1 q2 q3 qf z0 z1 z2 z3 zf
        obtain ⟨q0, q1, q2, q3, qf⟩ := bk4 F8.out; obtain ⟨z0, z1, z2, z3, zf⟩ := bk4 Z6.out
        go_wp2_with fail
        obtain ⟨r0, r1, r2, r3, _, gp⟩ := bk4_put Z6.out (.int .i64 H) (.int .i64 H) (.int .i64 (fl - n)) (.int .i64 S)
        refine bodyPost_ret (by simp [results, Try.results16, go_sem, r0, r1, r2, r3]; try rfl) rfl ?_
        exact ⟨rfl, gr_from B6.out B6.out.size (Nat.le_succ _) gp⟩
      · rw [if_neg s]
        have gs' : decide (si < t) = false := by simp; omega
        clear a s
        go_enter Try.func16, Try.ntmps16
        go_wp2_with fail
        refine (HF.out _ _ (nrow3 _ _ _ _ _ _ (by simp)) (by simp)).mono ?_
        rintro e w1 ⟨rfl, b1⟩
        have B2 := Lib.hid (B1.out.trans (b1.mono B1.out.size)); have F2 := Lib.hid ((b1.block _ (lt_of_block F1.out)).trans F1.out); have Z2 := Lib.hid ((b1.block _ (lt_of_block Z1.out)).trans Z1.out); clear b1
        obtain ⟨q0, q1, q2, q3, qf⟩ := bk4 F2.out; obtain ⟨z0, z1, z2, z3, zf⟩ := bk4 Z2.out
        go_wp2_with fail
        refine (HL.out _).mono ?_
        rintro e w2 ⟨rfl, b2⟩
        have B3 := Lib.hid (B2.out.trans (b2.mono B2.out.size)); have F3 := Lib.hid ((b2.block _ (lt_of_block F2.out)).trans F2.out); have Z3 := Lib.hid ((b2.block _ (lt_of_block Z2.out)).trans Z2.out); clear b2 q0 q1 q2 q3 qf z0 z1 z2 z3 zf
        obtain ⟨s0, s1, s2, s3, F4, gs⟩ := bk4_put F3.out (.int .i64 wd) (.int .i64 th) (.int .i64 (fl - n)) (.int .i64 si)
        have F5 := Lib.hid F4
        have Z4 := Lib.hid ((gs.block _ (lt_of_block Z3.out) (by simp)).trans Z3.out)
        have B4 := Lib.hid (gr_from B3.out B3.out.size (Nat.le_refl _) gs)
        clear s0 s1 s2 s3 F4 gs
        obtain ⟨q0, q1, q2, q3, qf⟩ := bk4 F3.out; obtain ⟨z0, z1, z2, z3, zf⟩ := bk4 Z3.out
        obtain ⟨p0, p1, p2, p3, pf⟩ := bk4 F5.out
        go_wp2_with fail
        obtain ⟨r0, r1, r2, r3, _, gp⟩ := bk4_put Z4.out (.int .i64 (wd)) (.int .i64 (th)) (.int .i64 (fl - n)) (.int .i64 (si))
        refine bodyPost_ret (by simp [results, Try.results16, go_sem, r0, r1, r2, r3]; try rfl) rfl ?_
        exact ⟨rfl, gr_from B4.out B4.out.size (Nat.le_succ _) gp⟩
  · rw [if_pos h]
    obtain ⟨x, hx⟩ : ∃ x, paE wd th fl si [n, t, now] = x := ⟨_, rfl⟩
    rw [hx] at HF h ⊢
    have g : (x != 0) = true := by simp [h]
    clear h hx
    go_enter Try.func16, Try.ntmps16
    go_wp2_with fail
    refine (HF.out _ _ (nrow3 _ _ _ _ _ _ (by simp)) (by simp)).mono ?_
    rintro e w1 ⟨rfl, b1⟩
    have B2 := Lib.hid (B1.out.trans (b1.mono B1.out.size)); have F2 := Lib.hid ((b1.block _ (lt_of_block F1.out)).trans F1.out); have Z2 := Lib.hid ((b1.block _ (lt_of_block Z1.out)).trans Z1.out); clear b1
    obtain ⟨q0, q1, q2, q3, qf⟩ := bk4 F2.out; obtain ⟨z0, z1, z2, z3, zf⟩ := bk4 Z2.out
    go_wp2_with fail
    obtain ⟨r0, r1, r2, r3, _, gp⟩ := bk4_put Z2.out (.int .i64 (0)) (.int .i64 (0)) (.int .i64 (0)) (.int .i64 (0))
    refine bodyPost_ret (by simp [results, Try.results16, go_sem, r0, r1, r2, r3]; try rfl) rfl ?_
    exact ⟨rfl, gr_from B2.out B2.out.size (Nat.le_succ _) gp⟩
end Go.Proofs.Ytlafjladlkbnoaa
