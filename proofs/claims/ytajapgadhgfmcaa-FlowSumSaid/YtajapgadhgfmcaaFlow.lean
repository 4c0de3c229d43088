/- The project's flow. -/
import Derived.Test.YtajapgadhgfmcaaFlowV
namespace Go.Proofs.Ytajapgadhgfmcaa
set_option linter.unusedVariables false
open Go.RowKit P

theorem flCheck_any : FlChk Try.prog 6 := fun mx us w => by
  unfold flV
  have B0 := Lib.hid ((Below.refl w.heap.size w).alloc (Nat.le_refl _) (.cells #[.int .i64 mx, .int .i64 us] 23))
  by_cases h : us < 0
  · have HF := Lib.hid (show flF mx us = 9 from if_neg (by omega))
    have a : decide (us < 0) = true := by simp [h]
    rw [HF.out]
    go_enter Try.func6, Try.ntmps6
    go_wp2_with fail
    go_ret
    exact ⟨rfl, B0.out⟩
  · have a : decide (us < 0) = false := by simp; omega
    by_cases h1 : mx < us
    · have HF := Lib.hid (show flF mx us = 9 from if_neg (by omega))
      have b : decide (mx < us) = true := by simp [h1]
      rw [HF.out]
      go_enter Try.func6, Try.ntmps6
      go_wp2_with fail
      go_ret
      exact ⟨rfl, B0.out⟩
    · have b : decide (mx < us) = false := by simp; omega
      by_cases h2 : 4611686018427387903 < mx
      · have HF := Lib.hid (show flF mx us = 9 from if_neg (by omega))
        have c : decide (4611686018427387903 < mx) = true := by simp [h2]
        rw [HF.out]
        go_enter Try.func6, Try.ntmps6
        go_wp2_with fail
        go_ret
        exact ⟨rfl, B0.out⟩
      · have HF := Lib.hid (show flF mx us = 0 from if_pos (by omega))
        have c : decide (4611686018427387903 < mx) = false := by simp; omega
        rw [HF.out]
        go_enter Try.func6, Try.ntmps6
        go_wp2_with fail
        go_ret
        exact ⟨rfl, B0.out⟩
set_option maxHeartbeats 1000000 in
theorem flSpend_any : FlSpend Try.prog 7 := fun mx us n w hn => by
  unfold flR flS
  have B0 := Lib.hid (((Below.refl w.heap.size w).alloc (Nat.le_refl _) (.cells #[.int .i64 mx, .int .i64 us] 23)).alloc (by simp) (.cells #[.int .i64 0, .int .i64 0] 23))
  have hs1 : (w.alloc (.cells #[.int .i64 mx, .int .i64 us] 23)).heap.size = w.heap.size + 1 := by simp
  have F0 := Lib.hid ((Below.heap_alloc (w.alloc (.cells #[.int .i64 mx, .int .i64 us] 23)) (.cells #[.int .i64 0, .int .i64 0] 23) w.heap.size (by simp)).trans (heap_alloc_new w (.cells #[.int .i64 mx, .int .i64 us] 23)))
  have Z0 := Lib.hid (show ((w.alloc (.cells #[.int .i64 mx, .int .i64 us] 23)).alloc (.cells #[.int .i64 0, .int .i64 0] 23)).heap[w.heap.size + 1]? = some (.cells #[.int .i64 0, .int .i64 0] 23 (0, 0)) by
    have := heap_alloc_new (w.alloc (.cells #[.int .i64 mx, .int .i64 us] 23)) (.cells #[.int .i64 0, .int .i64 0] 23)
    rwa [hs1] at this)
  clear hs1
  have HF := Lib.hid (fun w => flCheck_any mx us w)
  unfold flV at HF
  unfold flV
  by_cases h : flF mx us = 0
  · have hok : 0 ≤ us ∧ us ≤ mx ∧ mx ≤ 4611686018427387903 := by unfold flF at h; split at h; assumption; cases h
    rw [if_neg (fun e => e h)]
    rw [h] at HF
    have hsub : IntKind.i64.wrap (mx - us) = mx - us := by rw [IntKind.wrap_i64]; omega
    clear h
    by_cases a : n < 0
    · rw [if_pos a]
      have a' : decide (n < 0) = true := by simp [a]
      go_enter Try.func7, Try.ntmps7
      go_wp2_with (first
        | (go_at_call 6; refine (HF.out _).mono ?_; rintro e w1 ⟨rfl, b1⟩; have B1 := Lib.hid (B0.out.trans (b1.mono B0.out.size)); have F1 := Lib.hid ((b1.block _ (lt_of_block F0.out)).trans F0.out); have Z1 := Lib.hid ((b1.block _ (lt_of_block Z0.out)).trans Z0.out); clear b1; obtain ⟨q0, q1, qf⟩ := bk2 F1.out; obtain ⟨z0, z1, zf⟩ := bk2 Z1.out))
      obtain ⟨r0, r1, gp⟩ := bk2_put Z1.out (.int .i64 (0)) (.int .i64 (0))
      refine bodyPost_ret (by simp [results, Try.results7, go_sem, r0, r1]; try rfl) rfl ?_
      exact ⟨rfl, gr_from B1.out B1.out.size (Nat.le_succ _) gp⟩
    · rw [if_neg a]
      have a' : decide (n < 0) = false := by simp; omega
      by_cases b : mx - us < n
      · rw [if_pos b]
        have b' : decide (mx - us < n) = true := by simp [b]
        go_enter Try.func7, Try.ntmps7
        go_wp2_with (first
          | (go_at_call 6; refine (HF.out _).mono ?_; rintro e w1 ⟨rfl, b1⟩; have B1 := Lib.hid (B0.out.trans (b1.mono B0.out.size)); have F1 := Lib.hid ((b1.block _ (lt_of_block F0.out)).trans F0.out); have Z1 := Lib.hid ((b1.block _ (lt_of_block Z0.out)).trans Z0.out); clear b1; obtain ⟨q0, q1, qf⟩ := bk2 F1.out; obtain ⟨z0, z1, zf⟩ := bk2 Z1.out))
        obtain ⟨r0, r1, gp⟩ := bk2_put Z1.out (.int .i64 (0)) (.int .i64 (0))
        refine bodyPost_ret (by simp [results, Try.results7, go_sem, r0, r1]; try rfl) rfl ?_
        exact ⟨rfl, gr_from B1.out B1.out.size (Nat.le_succ _) gp⟩
      · rw [if_neg b]
        have b' : decide (mx - us < n) = false := by simp; omega
        have hadd : IntKind.i64.wrap (us + n) = us + n := by rw [IntKind.wrap_i64]; omega
        go_enter Try.func7, Try.ntmps7
        go_wp2_with (first
          | (go_at_call 6; refine (HF.out _).mono ?_; rintro e w1 ⟨rfl, b1⟩; have B1 := Lib.hid (B0.out.trans (b1.mono B0.out.size)); have F1 := Lib.hid ((b1.block _ (lt_of_block F0.out)).trans F0.out); have Z1 := Lib.hid ((b1.block _ (lt_of_block Z0.out)).trans Z0.out); clear b1; obtain ⟨q0, q1, qf⟩ := bk2 F1.out; obtain ⟨z0, z1, zf⟩ := bk2 Z1.out))
        have F2 := Lib.hid (show (w1.setCell ⟨w.heap.size, 1, none⟩ (.int .i64 (us + n))).heap[w.heap.size]? = some (.cells #[.int .i64 (mx), .int .i64 (us + n)] 23 (0, 0)) by simpa using bk_set F1.out 1 (.int .i64 (us + n)))
        have gm := gr_set w1 w.heap.size 1 (.int .i64 (us + n))
        have Z2 := Lib.hid ((gm.block _ (lt_of_block Z1.out) (by simp)).trans Z1.out)
        have B2 := Lib.hid (gr_from B1.out B1.out.size (Nat.le_refl _) gm)
        obtain ⟨r0, r1, gp⟩ := bk2_put Z2.out (.int .i64 (mx)) (.int .i64 (us + n))
        refine bodyPost_ret (by simp [results, Try.results7, go_sem, r0, r1]; try rfl) rfl ?_
        exact ⟨rfl, gr_from B2.out B2.out.size (Nat.le_succ _) gp⟩
  · rw [if_pos h]
    obtain ⟨x, hx⟩ : ∃ x, flF mx us = x := ⟨_, rfl⟩
    rw [hx] at HF h ⊢
    have g : (x != 0) = true := by simp [h]
    clear h hx
    go_enter Try.func7, Try.ntmps7
    go_wp2_with (first
      | (go_at_call 6; refine (HF.out _).mono ?_; rintro e w1 ⟨rfl, b1⟩; have B1 := Lib.hid (B0.out.trans (b1.mono B0.out.size)); have F1 := Lib.hid ((b1.block _ (lt_of_block F0.out)).trans F0.out); have Z1 := Lib.hid ((b1.block _ (lt_of_block Z0.out)).trans Z0.out); clear b1; obtain ⟨q0, q1, qf⟩ := bk2 F1.out; obtain ⟨z0, z1, zf⟩ := bk2 Z1.out))
    obtain ⟨r0, r1, gp⟩ := bk2_put Z1.out (.int .i64 (0)) (.int .i64 (0))
    refine bodyPost_ret (by simp [results, Try.results7, go_sem, r0, r1]; try rfl) rfl ?_
    exact ⟨rfl, gr_from B1.out B1.out.size (Nat.le_succ _) gp⟩
set_option maxHeartbeats 1000000 in
theorem flGrant_any : FlGrant Try.prog 10 := fun mx us m w => by
  unfold flR flG
  have B0 := Lib.hid (((Below.refl w.heap.size w).alloc (Nat.le_refl _) (.cells #[.int .i64 mx, .int .i64 us] 23)).alloc (by simp) (.cells #[.int .i64 0, .int .i64 0] 23))
  have hs1 : (w.alloc (.cells #[.int .i64 mx, .int .i64 us] 23)).heap.size = w.heap.size + 1 := by simp
  have F0 := Lib.hid ((Below.heap_alloc (w.alloc (.cells #[.int .i64 mx, .int .i64 us] 23)) (.cells #[.int .i64 0, .int .i64 0] 23) w.heap.size (by simp)).trans (heap_alloc_new w (.cells #[.int .i64 mx, .int .i64 us] 23)))
  have Z0 := Lib.hid (show ((w.alloc (.cells #[.int .i64 mx, .int .i64 us] 23)).alloc (.cells #[.int .i64 0, .int .i64 0] 23)).heap[w.heap.size + 1]? = some (.cells #[.int .i64 0, .int .i64 0] 23 (0, 0)) by
    have := heap_alloc_new (w.alloc (.cells #[.int .i64 mx, .int .i64 us] 23)) (.cells #[.int .i64 0, .int .i64 0] 23)
    rwa [hs1] at this)
  clear hs1
  have HF := Lib.hid (fun w => flCheck_any mx us w)
  unfold flV at HF
  unfold flV
  by_cases h : flF mx us = 0
  · rw [if_neg (fun e => e h)]
    rw [h] at HF
    clear h
    by_cases a : m < 0
    · rw [if_pos (by omega)]
      have a' : decide (m < 0) = true := by simp [a]
      go_enter Try.func10, Try.ntmps10
      go_wp2_with (first
        | (go_at_call 6; refine (HF.out _).mono ?_; rintro e w1 ⟨rfl, b1⟩; have B1 := Lib.hid (B0.out.trans (b1.mono B0.out.size)); have F1 := Lib.hid ((b1.block _ (lt_of_block F0.out)).trans F0.out); have Z1 := Lib.hid ((b1.block _ (lt_of_block Z0.out)).trans Z0.out); clear b1; obtain ⟨q0, q1, qf⟩ := bk2 F1.out; obtain ⟨z0, z1, zf⟩ := bk2 Z1.out))
      obtain ⟨r0, r1, gp⟩ := bk2_put Z1.out (.int .i64 (0)) (.int .i64 (0))
      refine bodyPost_ret (by simp [results, Try.results10, go_sem, r0, r1]; try rfl) rfl ?_
      exact ⟨rfl, gr_from B1.out B1.out.size (Nat.le_succ _) gp⟩
    · have a' : decide (m < 0) = false := by simp; omega
      by_cases b : 4611686018427387903 < m
      · rw [if_pos (by omega)]
        have b' : decide (4611686018427387903 < m) = true := by simp [b]
        go_enter Try.func10, Try.ntmps10
        go_wp2_with (first
          | (go_at_call 6; refine (HF.out _).mono ?_; rintro e w1 ⟨rfl, b1⟩; have B1 := Lib.hid (B0.out.trans (b1.mono B0.out.size)); have F1 := Lib.hid ((b1.block _ (lt_of_block F0.out)).trans F0.out); have Z1 := Lib.hid ((b1.block _ (lt_of_block Z0.out)).trans Z0.out); clear b1; obtain ⟨q0, q1, qf⟩ := bk2 F1.out; obtain ⟨z0, z1, zf⟩ := bk2 Z1.out))
        obtain ⟨r0, r1, gp⟩ := bk2_put Z1.out (.int .i64 (0)) (.int .i64 (0))
        refine bodyPost_ret (by simp [results, Try.results10, go_sem, r0, r1]; try rfl) rfl ?_
        exact ⟨rfl, gr_from B1.out B1.out.size (Nat.le_succ _) gp⟩
      · rw [if_neg (by omega)]
        have b' : decide (4611686018427387903 < m) = false := by simp; omega
        obtain ⟨T, hT⟩ : ∃ T, max m mx = T := ⟨_, rfl⟩
        have hm1 : (if mx < m then m else mx) = T := by split <;> omega
        rw [hT]
        clear hT
        go_enter Try.func10, Try.ntmps10
        go_wp2_with (first
          | (go_at_call 6; refine (HF.out _).mono ?_; rintro e w1 ⟨rfl, b1⟩; have B1 := Lib.hid (B0.out.trans (b1.mono B0.out.size)); have F1 := Lib.hid ((b1.block _ (lt_of_block F0.out)).trans F0.out); have Z1 := Lib.hid ((b1.block _ (lt_of_block Z0.out)).trans Z0.out); clear b1; obtain ⟨q0, q1, qf⟩ := bk2 F1.out; obtain ⟨z0, z1, zf⟩ := bk2 Z1.out))
        have F2 := Lib.hid (show (w1.setCell ⟨w.heap.size, 0, none⟩ (.int .i64 (T))).heap[w.heap.size]? = some (.cells #[.int .i64 (T), .int .i64 (us)] 23 (0, 0)) by simpa using bk_set F1.out 0 (.int .i64 (T)))
        have gm := gr_set w1 w.heap.size 0 (.int .i64 (T))
        have Z2 := Lib.hid ((gm.block _ (lt_of_block Z1.out) (by simp)).trans Z1.out)
        have B2 := Lib.hid (gr_from B1.out B1.out.size (Nat.le_refl _) gm)
        obtain ⟨r0, r1, gp⟩ := bk2_put Z2.out (.int .i64 (T)) (.int .i64 (us))
        refine bodyPost_ret (by simp [results, Try.results10, go_sem, r0, r1]; try rfl) rfl ?_
        exact ⟨rfl, gr_from B2.out B2.out.size (Nat.le_succ _) gp⟩
  · rw [if_pos h]
    obtain ⟨x, hx⟩ : ∃ x, flF mx us = x := ⟨_, rfl⟩
    rw [hx] at HF h ⊢
    have g : (x != 0) = true := by simp [h]
    clear h hx
    go_enter Try.func10, Try.ntmps10
    go_wp2_with (first
      | (go_at_call 6; refine (HF.out _).mono ?_; rintro e w1 ⟨rfl, b1⟩; have B1 := Lib.hid (B0.out.trans (b1.mono B0.out.size)); have F1 := Lib.hid ((b1.block _ (lt_of_block F0.out)).trans F0.out); have Z1 := Lib.hid ((b1.block _ (lt_of_block Z0.out)).trans Z0.out); clear b1; obtain ⟨q0, q1, qf⟩ := bk2 F1.out; obtain ⟨z0, z1, zf⟩ := bk2 Z1.out))
    obtain ⟨r0, r1, gp⟩ := bk2_put Z1.out (.int .i64 (0)) (.int .i64 (0))
    refine bodyPost_ret (by simp [results, Try.results10, go_sem, r0, r1]; try rfl) rfl ?_
    exact ⟨rfl, gr_from B1.out B1.out.size (Nat.le_succ _) gp⟩
end Go.Proofs.Ytajapgadhgfmcaa
