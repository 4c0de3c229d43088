/- The project's pace: Send, Heard, Lost. -/
import Derived.Test.YtlafjladlkbnoaaPace
import Derived.Deep.RegionWith
namespace Go.Proofs.Ytlafjladlkbnoaa
set_option linter.unusedVariables false
open Go.RowKit P

set_option maxHeartbeats 1000000 in
theorem paSend_any : PaSend Try.prog 10 := fun wd th fl si n hsi w => by
  obtain ⟨B0, F0, Z0⟩ := two_new w (.int .i64 wd) (.int .i64 th) (.int .i64 fl) (.int .i64 si) (.int .i64 0) (.int .i64 0) (.int .i64 0) (.int .i64 0) 23
  have B1 := Lib.hid (B0.alloc (by simp; omega) (.cells #[.int .i64 n] 3)); have F1 := Lib.hid ((Below.heap_alloc _ (.cells #[.int .i64 n] 3) _ (lt_of_block F0)).trans F0); have Z1 := Lib.hid ((Below.heap_alloc _ (.cells #[.int .i64 n] 3) _ (lt_of_block Z0)).trans Z0)
  clear B0 F0 Z0
  have HF := Lib.hid (fun w b hr hb => paRefuse_any wd th fl si [n] 1 b w hsi hr hb rfl (by omega))
  unfold paSR paS
  unfold paV at *
  clear hsi
  by_cases h : paE wd th fl si [n] = 0
  · obtain ⟨hf, hn, _⟩ := paE_ok h
    obtain ⟨k0, k1, k2, ⟨k3, k4⟩, k5, k6⟩ := paF_ok hf
    obtain ⟨m0, m1⟩ := hn
    rw [if_neg (fun e => e h)]
    rw [h] at HF
    clear h hf k2
    by_cases a : wd < fl + n
    · rw [if_pos a]
      have a' : decide (wd < fl + n) = true := by simp [a]
      go_enter Try.func10, Try.ntmps10
      go_wp2_with fail
      refine (HF.out _ _ (nrow1 _ _ _ _ (by simp)) (by simp)).mono ?_
      rintro e w1 ⟨rfl, b1⟩
      have B2 := Lib.hid (B1.out.trans (b1.mono B1.out.size)); have F2 := Lib.hid ((b1.block _ (lt_of_block F1.out)).trans F1.out); have Z2 := Lib.hid ((b1.block _ (lt_of_block Z1.out)).trans Z1.out); clear b1
      obtain ⟨q0, q1, q2, q3, qf⟩ := bk4 F2.out; obtain ⟨z0, z1, z2, z3, zf⟩ := bk4 Z2.out
      go_wp2_with fail
      obtain ⟨r0, r1, r2, r3, _, gp⟩ := bk4_put Z2.out (.int .i64 wd) (.int .i64 th) (.int .i64 fl) (.int .i64 si)
      refine bodyPost_ret (by simp [results, Try.results10, go_sem, r0, r1, r2, r3]; try rfl) rfl ?_
      exact ⟨rfl, gr_from B2.out B2.out.size (Nat.le_succ _) gp⟩
    · rw [if_neg a]
      have a' : decide (wd < fl + n) = false := by simp; omega
      go_enter Try.func10, Try.ntmps10
      go_wp2_with fail
      refine (HF.out _ _ (nrow1 _ _ _ _ (by simp)) (by simp)).mono ?_
      rintro e w1 ⟨rfl, b1⟩
      have B2 := Lib.hid (B1.out.trans (b1.mono B1.out.size)); have F2 := Lib.hid ((b1.block _ (lt_of_block F1.out)).trans F1.out); have Z2 := Lib.hid ((b1.block _ (lt_of_block Z1.out)).trans Z1.out); clear b1
      obtain ⟨q0, q1, q2, q3, qf⟩ := bk4 F2.out; obtain ⟨z0, z1, z2, z3, zf⟩ := bk4 Z2.out
      go_wp2_with fail
      have gm := gr_set w1 w.heap.size 2 (.int .i64 (fl + n))
      have Z3 := Lib.hid ((gm.block _ (lt_of_block Z2.out) (by simp)).trans Z2.out)
      have B3 := Lib.hid (gr_from B2.out B2.out.size (Nat.le_refl _) gm)
      obtain ⟨r0, r1, r2, r3, _, gp⟩ := bk4_put Z3.out (.int .i64 wd) (.int .i64 th) (.int .i64 (fl + n)) (.int .i64 si)
      refine bodyPost_ret (by simp [results, Try.results10, go_sem, r0, r1, r2, r3]; try rfl) rfl ?_
      exact ⟨rfl, gr_from B3.out B3.out.size (Nat.le_succ _) gp⟩
  · rw [if_pos h]
    obtain ⟨x, hx⟩ : ∃ x, paE wd th fl si [n] = x := ⟨_, rfl⟩
    rw [hx] at HF h ⊢
    have g : (x != 0) = true := by simp [h]
    clear h hx
    go_enter Try.func10, Try.ntmps10
    go_wp2_with fail
    refine (HF.out _ _ (nrow1 _ _ _ _ (by simp)) (by simp)).mono ?_
    rintro e w1 ⟨rfl, b1⟩
    have B2 := Lib.hid (B1.out.trans (b1.mono B1.out.size)); have F2 := Lib.hid ((b1.block _ (lt_of_block F1.out)).trans F1.out); have Z2 := Lib.hid ((b1.block _ (lt_of_block Z1.out)).trans Z1.out); clear b1
    obtain ⟨z0, z1, z2, z3, zf⟩ := bk4 Z2.out
    go_wp2_with fail
    obtain ⟨r0, r1, r2, r3, _, gp⟩ := bk4_put Z2.out (.int .i64 0) (.int .i64 0) (.int .i64 0) (.int .i64 0)
    refine bodyPost_ret (by simp [results, Try.results10, go_sem, r0, r1, r2, r3]; try rfl) rfl ?_
    exact ⟨rfl, gr_from B2.out B2.out.size (Nat.le_succ _) gp⟩
end Go.Proofs.Ytlafjladlkbnoaa
