/- The document's answers on tallies. -/
import Derived.Test.YtpfahdogedchpaaTally2
namespace Go.Proofs.Ytpfahdogedchpaa
set_option linter.unusedVariables false
open Go.RowKit P

theorem refTaF_any : TaChk Try.prog 13 := fun kn g s w => by
  unfold taV
  have B0 := Lib.hid ((Below.refl w.heap.size w).alloc (Nat.le_refl _) (.cells #[.bool kn, .int .i64 g, .int .i64 s] 34))
  by_cases h1 : 0 ≤ g ∧ g ≤ 1099511627776
  · have u1 : upB2 g 1099511627776 = true := upB2_yes h1.1 h1.2
    have hw : IntKind.i64.wrap (3 * g) = 3 * g := by rw [IntKind.wrap_i64]; omega
    by_cases h2 : 0 ≤ s ∧ s ≤ 1099511627776
    · have u2 : upB2 s 1099511627776 = true := upB2_yes h2.1 h2.2
      cases kn
      · by_cases h3 : 3 * g < s
        · have a : decide (3 * g < s) = true := by simp [h3]
          rw [show taF false g s = 9 from if_neg (fun k => by rcases k.2.2 with k | k; cases k; omega)]
          clear h1 h2 h3
          go_enter Try.func13, Try.ntmps13
          go_wp2_with ((go_at_call 31; refine (upTo_any _ _ _).mono ?_; rintro e w' ⟨rfl, rfl⟩))
          go_ret
          exact ⟨rfl, B0.out⟩
        · have a : decide (3 * g < s) = false := by simp; omega
          rw [show taF false g s = 0 from if_pos ⟨h1, h2, .inr (by omega)⟩]
          clear h1 h2 h3
          go_enter Try.func13, Try.ntmps13
          go_wp2_with ((go_at_call 31; refine (upTo_any _ _ _).mono ?_; rintro e w' ⟨rfl, rfl⟩))
          go_ret
          exact ⟨rfl, B0.out⟩
      · rw [show taF true g s = 0 from if_pos ⟨h1, h2, .inl rfl⟩]
        clear h1 h2
        go_enter Try.func13, Try.ntmps13
        go_wp2_with ((go_at_call 31; refine (upTo_any _ _ _).mono ?_; rintro e w' ⟨rfl, rfl⟩))
        go_ret
        exact ⟨rfl, B0.out⟩
    · have u2 : upB2 s 1099511627776 = false := upB2_no (by omega)
      rw [show taF kn g s = 9 from if_neg (fun k => h2 k.2.1)]
      clear h1 h2
      go_enter Try.func13, Try.ntmps13
      go_wp2_with ((go_at_call 31; refine (upTo_any _ _ _).mono ?_; rintro e w' ⟨rfl, rfl⟩))
      go_ret
      exact ⟨rfl, B0.out⟩
  · have u1 : upB2 g 1099511627776 = false := upB2_no (by omega)
    rw [show taF kn g s = 9 from if_neg (fun k => h1 k.1)]
    clear h1
    go_enter Try.func13, Try.ntmps13
    go_wp2_with ((go_at_call 31; refine (upTo_any _ _ _).mono ?_; rintro e w' ⟨rfl, rfl⟩))
    go_ret
    exact ⟨rfl, B0.out⟩
set_option maxHeartbeats 1000000 in
theorem refTaK_any : TaKnow Try.prog 16 := fun kn g s w => by
  obtain ⟨b0, f0, z0⟩ := ta_two w (.bool kn) (.int .i64 g) (.int .i64 s) (.bool false) (.int .i64 0) (.int .i64 0) 34
  have B0 := Lib.hid b0
  have F0 := Lib.hid f0
  have Z0 := Lib.hid z0
  clear b0 f0 z0
  have HC := Lib.hid (fun w => refTaF_any kn g s w)
  unfold taR taK
  unfold taV at *
  by_cases h : taF kn g s = 0
  · rw [if_neg (fun e => e h)]
    rw [h] at HC
    clear h
    go_enter Try.func16, Try.ntmps16
    go_wp2_with fail
    refine (HC.out _).mono ?_
    rintro e w1 ⟨rfl, b1⟩
    have B1 := Lib.hid (B0.out.trans (b1.mono B0.out.size)); have F1 := Lib.hid ((b1.block _ (lt_of_block F0.out)).trans F0.out); have Z1 := Lib.hid ((b1.block _ (lt_of_block Z0.out)).trans Z0.out); clear b1
    obtain ⟨q0, q1, q2, qf⟩ := bk3A F1.out; obtain ⟨z0, z1, z2, zf⟩ := bk3A Z1.out
    go_upto_region 5 with fail
    have gm := gr_set w1 w.heap.size 0 (.bool true)
    have F2 := Lib.hid (show (w1.setCell ⟨w.heap.size, 0, none⟩ (.bool true)).heap[w.heap.size]? = some (.cells #[.bool true, .int .i64 g, .int .i64 s] 34 (0, 0)) by simpa using bk_set F1.out 0 (.bool true))
    have Z2 := Lib.hid ((gm.block _ (lt_of_block Z1.out) (by simp)).trans Z1.out)
    have B2 := Lib.hid (gr_from B1.out B1.out.size (Nat.le_refl _) gm)
    obtain ⟨W2, hW2⟩ : ∃ q, w1.setCell ⟨w.heap.size, 0, none⟩ (.bool true) = q := ⟨_, rfl⟩
    rw [hW2] at F2 Z2 B2 ⊢
    clear hW2 gm q0 q1 q2 qf z0 z1 z2 zf F1 Z1 B1
    obtain ⟨q0, q1, q2, qf⟩ := bk3A F2.out; obtain ⟨z0, z1, z2, zf⟩ := bk3A Z2.out
    go_wp2_with fail
    obtain ⟨r0, r1, r2, zb, gp⟩ := bk3A_put Z2.out (.bool true) (.int .i64 g) (.int .i64 s)
    refine bodyPost_ret (by simp [results, Try.results16, go_sem, r0, r1, r2]; try rfl) rfl ?_
    exact ⟨rfl, gr_from B2.out B2.out.size (Nat.le_succ _) gp⟩
  · rw [if_pos h]
    obtain ⟨x, hx⟩ : ∃ x, taF kn g s = x := ⟨_, rfl⟩
    rw [hx] at HC h ⊢
    have g0 : (x != 0) = true := by simp [h]
    clear h hx
    go_enter Try.func16, Try.ntmps16
    go_wp2_with fail
    refine (HC.out _).mono ?_
    rintro e w1 ⟨rfl, b1⟩
    have B1 := Lib.hid (B0.out.trans (b1.mono B0.out.size)); have F1 := Lib.hid ((b1.block _ (lt_of_block F0.out)).trans F0.out); have Z1 := Lib.hid ((b1.block _ (lt_of_block Z0.out)).trans Z0.out); clear b1
    obtain ⟨q0, q1, q2, qf⟩ := bk3A F1.out; obtain ⟨z0, z1, z2, zf⟩ := bk3A Z1.out
    go_wp2_with fail
    obtain ⟨r0, r1, r2, zb, gp⟩ := bk3A_put Z1.out (.bool false) (.int .i64 0) (.int .i64 0)
    refine bodyPost_ret (by simp [results, Try.results16, go_sem, r0, r1, r2]; try rfl) rfl ?_
    exact ⟨rfl, gr_from B1.out B1.out.size (Nat.le_succ _) gp⟩
set_option maxHeartbeats 1000000 in
theorem refTaG_any : TaGot Try.prog 14 := fun kn g s n w => by
  obtain ⟨b0, f0, z0⟩ := ta_two w (.bool kn) (.int .i64 g) (.int .i64 s) (.bool false) (.int .i64 0) (.int .i64 0) 34
  have B0 := Lib.hid b0
  have F0 := Lib.hid f0
  have Z0 := Lib.hid z0
  clear b0 f0 z0
  have HC := Lib.hid (fun w => refTaF_any kn g s w)
  unfold taR taG taE
  unfold taV at *
  by_cases h : taF kn g s = 0
  · obtain ⟨⟨k0, k1⟩, ⟨k2, k3⟩, k4⟩ := taF_ok h
    rw [if_neg (fun e => e h : ¬ taF kn g s ≠ 0)]
    rw [h] at HC
    clear h
    by_cases hn : 0 ≤ n ∧ n ≤ 400
    · rw [if_pos hn, if_neg (by decide)]
      have u1 : upB2 n 400 = true := upB2_yes hn.1 hn.2
      obtain ⟨h0, h4⟩ := hn
      have hadd : IntKind.i64.wrap (g + n) = g + n := by rw [IntKind.wrap_i64]; omega
      by_cases a : 1099511627776 < g + n
      · rw [if_pos a]
        have a' : decide (1099511627776 < g + n) = true := by simp [a]
        clear k4
        go_enter Try.func14, Try.ntmps14
        go_wp2_with fail
        refine (HC.out _).mono ?_
        rintro e w1 ⟨rfl, b1⟩
        have B1 := Lib.hid (B0.out.trans (b1.mono B0.out.size)); have F1 := Lib.hid ((b1.block _ (lt_of_block F0.out)).trans F0.out); have Z1 := Lib.hid ((b1.block _ (lt_of_block Z0.out)).trans Z0.out); clear b1
        obtain ⟨q0, q1, q2, qf⟩ := bk3A F1.out; obtain ⟨z0, z1, z2, zf⟩ := bk3A Z1.out
        go_wp2_with (go_at_call 31; refine (upTo_any _ _ _).mono ?_; rintro e w' ⟨rfl, rfl⟩)
        obtain ⟨r0, r1, r2, zb, gp⟩ := bk3A_put Z1.out (.bool false) (.int .i64 0) (.int .i64 0)
        refine bodyPost_ret (by simp [results, Try.results14, go_sem, r0, r1, r2]; try rfl) rfl ?_
        exact ⟨rfl, gr_from B1.out B1.out.size (Nat.le_succ _) gp⟩
      · rw [if_neg a]
        have a' : decide (1099511627776 < g + n) = false := by simp; omega
        clear k4
        go_enter Try.func14, Try.ntmps14
        go_wp2_with fail
        refine (HC.out _).mono ?_
        rintro e w1 ⟨rfl, b1⟩
        have B1 := Lib.hid (B0.out.trans (b1.mono B0.out.size)); have F1 := Lib.hid ((b1.block _ (lt_of_block F0.out)).trans F0.out); have Z1 := Lib.hid ((b1.block _ (lt_of_block Z0.out)).trans Z0.out); clear b1
        obtain ⟨q0, q1, q2, qf⟩ := bk3A F1.out; obtain ⟨z0, z1, z2, zf⟩ := bk3A Z1.out
        go_upto_region 9 with (go_at_call 31; refine (upTo_any _ _ _).mono ?_; rintro e w' ⟨rfl, rfl⟩)
        have gm := gr_set w1 w.heap.size 1 (.int .i64 (g + n))
        have F2 := Lib.hid (show (w1.setCell ⟨w.heap.size, 1, none⟩ (.int .i64 (g + n))).heap[w.heap.size]? = some (.cells #[.bool kn, .int .i64 (g + n), .int .i64 s] 34 (0, 0)) by simpa using bk_set F1.out 1 (.int .i64 (g + n)))
        have Z2 := Lib.hid ((gm.block _ (lt_of_block Z1.out) (by simp)).trans Z1.out)
        have B2 := Lib.hid (gr_from B1.out B1.out.size (Nat.le_refl _) gm)
        obtain ⟨W2, hW2⟩ : ∃ q, w1.setCell ⟨w.heap.size, 1, none⟩ (.int .i64 (g + n)) = q := ⟨_, rfl⟩
        rw [hW2] at F2 Z2 B2 ⊢
        clear hW2 gm q0 q1 q2 qf z0 z1 z2 zf F1 Z1 B1
        obtain ⟨q0, q1, q2, qf⟩ := bk3A F2.out; obtain ⟨z0, z1, z2, zf⟩ := bk3A Z2.out
        go_wp2_with fail
        obtain ⟨r0, r1, r2, zb, gp⟩ := bk3A_put Z2.out (.bool kn) (.int .i64 (g + n)) (.int .i64 s)
        refine bodyPost_ret (by simp [results, Try.results14, go_sem, r0, r1, r2]; try rfl) rfl ?_
        exact ⟨rfl, gr_from B2.out B2.out.size (Nat.le_succ _) gp⟩
    · rw [if_neg hn, if_pos (by decide)]
      have u1 : upB2 n 400 = false := upB2_no (by omega)
      clear hn k4
      go_enter Try.func14, Try.ntmps14
      go_wp2_with fail
      refine (HC.out _).mono ?_
      rintro e w1 ⟨rfl, b1⟩
      have B1 := Lib.hid (B0.out.trans (b1.mono B0.out.size)); have F1 := Lib.hid ((b1.block _ (lt_of_block F0.out)).trans F0.out); have Z1 := Lib.hid ((b1.block _ (lt_of_block Z0.out)).trans Z0.out); clear b1
      obtain ⟨q0, q1, q2, qf⟩ := bk3A F1.out; obtain ⟨z0, z1, z2, zf⟩ := bk3A Z1.out
      go_wp2_with (go_at_call 31; refine (upTo_any _ _ _).mono ?_; rintro e w' ⟨rfl, rfl⟩)
      obtain ⟨r0, r1, r2, zb, gp⟩ := bk3A_put Z1.out (.bool false) (.int .i64 0) (.int .i64 0)
      refine bodyPost_ret (by simp [results, Try.results14, go_sem, r0, r1, r2]; try rfl) rfl ?_
      exact ⟨rfl, gr_from B1.out B1.out.size (Nat.le_succ _) gp⟩
  · rw [if_pos h]
    obtain ⟨x, hx⟩ : ∃ x, taF kn g s = x := ⟨_, rfl⟩
    rw [hx] at HC h ⊢
    rw [if_pos h]
    have g0 : (x != 0) = true := by simp [h]
    have g1 : (x == 0) = false := by simp [h]
    clear h hx
    go_enter Try.func14, Try.ntmps14
    go_wp2_with fail
    refine (HC.out _).mono ?_
    rintro e w1 ⟨rfl, b1⟩
    have B1 := Lib.hid (B0.out.trans (b1.mono B0.out.size)); have F1 := Lib.hid ((b1.block _ (lt_of_block F0.out)).trans F0.out); have Z1 := Lib.hid ((b1.block _ (lt_of_block Z0.out)).trans Z0.out); clear b1
    obtain ⟨q0, q1, q2, qf⟩ := bk3A F1.out; obtain ⟨z0, z1, z2, zf⟩ := bk3A Z1.out
    go_wp2_with (go_at_call 31; refine (upTo_any _ _ _).mono ?_; rintro e w' ⟨rfl, rfl⟩)
    obtain ⟨r0, r1, r2, zb, gp⟩ := bk3A_put Z1.out (.bool false) (.int .i64 0) (.int .i64 0)
    refine bodyPost_ret (by simp [results, Try.results14, go_sem, r0, r1, r2]; try rfl) rfl ?_
    exact ⟨rfl, gr_from B1.out B1.out.size (Nat.le_succ _) gp⟩
set_option maxHeartbeats 1000000 in
theorem refTaS_any : TaSent Try.prog 15 := fun kn g s n w => by
  obtain ⟨b0, f0, z0⟩ := ta_two w (.bool kn) (.int .i64 g) (.int .i64 s) (.bool false) (.int .i64 0) (.int .i64 0) 34
  have B0 := Lib.hid b0
  have F0 := Lib.hid f0
  have Z0 := Lib.hid z0
  clear b0 f0 z0
  have HC := Lib.hid (fun w => refTaF_any kn g s w)
  unfold taR taS taE
  unfold taV at *
  by_cases h : taF kn g s = 0
  · obtain ⟨⟨k0, k1⟩, ⟨k2, k3⟩, k4⟩ := taF_ok h
    rw [if_neg (fun e => e h : ¬ taF kn g s ≠ 0)]
    rw [h] at HC
    clear h
    by_cases hn : 0 ≤ n ∧ n ≤ 400
    · rw [if_pos hn, if_neg (by decide)]
      have u1 : upB2 n 400 = true := upB2_yes hn.1 hn.2
      obtain ⟨h0, h4⟩ := hn
      have hadd : IntKind.i64.wrap (s + n) = s + n := by rw [IntKind.wrap_i64]; omega
      by_cases a : 1099511627776 < s + n
      · rw [if_pos a]
        have a' : decide (1099511627776 < s + n) = true := by simp [a]
        clear k4
        go_enter Try.func15, Try.ntmps15
        go_wp2_with fail
        refine (HC.out _).mono ?_
        rintro e w1 ⟨rfl, b1⟩
        have B1 := Lib.hid (B0.out.trans (b1.mono B0.out.size)); have F1 := Lib.hid ((b1.block _ (lt_of_block F0.out)).trans F0.out); have Z1 := Lib.hid ((b1.block _ (lt_of_block Z0.out)).trans Z0.out); clear b1
        obtain ⟨q0, q1, q2, qf⟩ := bk3A F1.out; obtain ⟨z0, z1, z2, zf⟩ := bk3A Z1.out
        go_wp2_with (go_at_call 31; refine (upTo_any _ _ _).mono ?_; rintro e w' ⟨rfl, rfl⟩)
        obtain ⟨r0, r1, r2, zb, gp⟩ := bk3A_put Z1.out (.bool false) (.int .i64 0) (.int .i64 0)
        refine bodyPost_ret (by simp [results, Try.results15, go_sem, r0, r1, r2]; try rfl) rfl ?_
        exact ⟨rfl, gr_from B1.out B1.out.size (Nat.le_succ _) gp⟩
      · rw [if_neg a]
        have a' : decide (1099511627776 < s + n) = false := by simp; omega
        have hw : IntKind.i64.wrap (3 * g) = 3 * g := by rw [IntKind.wrap_i64]; omega
        clear k4
        cases kn
        · by_cases b : 3 * g < s + n
          · rw [if_pos ⟨rfl, b⟩]
            have b' : decide (3 * g < s + n) = true := by simp [b]
            go_enter Try.func15, Try.ntmps15
            go_wp2_with fail
            refine (HC.out _).mono ?_
            rintro e w1 ⟨rfl, b1⟩
            have B1 := Lib.hid (B0.out.trans (b1.mono B0.out.size)); have F1 := Lib.hid ((b1.block _ (lt_of_block F0.out)).trans F0.out); have Z1 := Lib.hid ((b1.block _ (lt_of_block Z0.out)).trans Z0.out); clear b1
            obtain ⟨q0, q1, q2, qf⟩ := bk3A F1.out; obtain ⟨z0, z1, z2, zf⟩ := bk3A Z1.out
            go_wp2_with (go_at_call 31; refine (upTo_any _ _ _).mono ?_; rintro e w' ⟨rfl, rfl⟩)
            obtain ⟨r0, r1, r2, zb, gp⟩ := bk3A_put Z1.out (.bool false) (.int .i64 0) (.int .i64 0)
            refine bodyPost_ret (by simp [results, Try.results15, go_sem, r0, r1, r2]; try rfl) rfl ?_
            exact ⟨rfl, gr_from B1.out B1.out.size (Nat.le_succ _) gp⟩
          · rw [if_neg (fun k => b k.2)]
            have b' : decide (3 * g < s + n) = false := by simp; omega
            go_enter Try.func15, Try.ntmps15
            go_wp2_with fail
            refine (HC.out _).mono ?_
            rintro e w1 ⟨rfl, b1⟩
            have B1 := Lib.hid (B0.out.trans (b1.mono B0.out.size)); have F1 := Lib.hid ((b1.block _ (lt_of_block F0.out)).trans F0.out); have Z1 := Lib.hid ((b1.block _ (lt_of_block Z0.out)).trans Z0.out); clear b1
            obtain ⟨q0, q1, q2, qf⟩ := bk3A F1.out; obtain ⟨z0, z1, z2, zf⟩ := bk3A Z1.out
            go_upto_region 12 with (go_at_call 31; refine (upTo_any _ _ _).mono ?_; rintro e w' ⟨rfl, rfl⟩)
            have gm := gr_set w1 w.heap.size 2 (.int .i64 (s + n))
            have F2 := Lib.hid (show (w1.setCell ⟨w.heap.size, 2, none⟩ (.int .i64 (s + n))).heap[w.heap.size]? = some (.cells #[.bool false, .int .i64 g, .int .i64 (s + n)] 34 (0, 0)) by simpa using bk_set F1.out 2 (.int .i64 (s + n)))
            have Z2 := Lib.hid ((gm.block _ (lt_of_block Z1.out) (by simp)).trans Z1.out)
            have B2 := Lib.hid (gr_from B1.out B1.out.size (Nat.le_refl _) gm)
            obtain ⟨W2, hW2⟩ : ∃ q, w1.setCell ⟨w.heap.size, 2, none⟩ (.int .i64 (s + n)) = q := ⟨_, rfl⟩
            rw [hW2] at F2 Z2 B2 ⊢
            clear hW2 gm q0 q1 q2 qf z0 z1 z2 zf F1 Z1 B1
            obtain ⟨q0, q1, q2, qf⟩ := bk3A F2.out; obtain ⟨z0, z1, z2, zf⟩ := bk3A Z2.out
            go_wp2_with fail
            obtain ⟨r0, r1, r2, zb, gp⟩ := bk3A_put Z2.out (.bool false) (.int .i64 g) (.int .i64 (s + n))
            refine bodyPost_ret (by simp [results, Try.results15, go_sem, r0, r1, r2]; try rfl) rfl ?_
            exact ⟨rfl, gr_from B2.out B2.out.size (Nat.le_succ _) gp⟩
        · rw [if_neg (fun k => by cases k.1)]
          go_enter Try.func15, Try.ntmps15
          go_wp2_with fail
          refine (HC.out _).mono ?_
          rintro e w1 ⟨rfl, b1⟩
          have B1 := Lib.hid (B0.out.trans (b1.mono B0.out.size)); have F1 := Lib.hid ((b1.block _ (lt_of_block F0.out)).trans F0.out); have Z1 := Lib.hid ((b1.block _ (lt_of_block Z0.out)).trans Z0.out); clear b1
          obtain ⟨q0, q1, q2, qf⟩ := bk3A F1.out; obtain ⟨z0, z1, z2, zf⟩ := bk3A Z1.out
          go_upto_region 12 with (go_at_call 31; refine (upTo_any _ _ _).mono ?_; rintro e w' ⟨rfl, rfl⟩)
          have gm := gr_set w1 w.heap.size 2 (.int .i64 (s + n))
          have F2 := Lib.hid (show (w1.setCell ⟨w.heap.size, 2, none⟩ (.int .i64 (s + n))).heap[w.heap.size]? = some (.cells #[.bool true, .int .i64 g, .int .i64 (s + n)] 34 (0, 0)) by simpa using bk_set F1.out 2 (.int .i64 (s + n)))
          have Z2 := Lib.hid ((gm.block _ (lt_of_block Z1.out) (by simp)).trans Z1.out)
          have B2 := Lib.hid (gr_from B1.out B1.out.size (Nat.le_refl _) gm)
          obtain ⟨W2, hW2⟩ : ∃ q, w1.setCell ⟨w.heap.size, 2, none⟩ (.int .i64 (s + n)) = q := ⟨_, rfl⟩
          rw [hW2] at F2 Z2 B2 ⊢
          clear hW2 gm q0 q1 q2 qf z0 z1 z2 zf F1 Z1 B1
          obtain ⟨q0, q1, q2, qf⟩ := bk3A F2.out; obtain ⟨z0, z1, z2, zf⟩ := bk3A Z2.out
          go_wp2_with fail
          obtain ⟨r0, r1, r2, zb, gp⟩ := bk3A_put Z2.out (.bool true) (.int .i64 g) (.int .i64 (s + n))
          refine bodyPost_ret (by simp [results, Try.results15, go_sem, r0, r1, r2]; try rfl) rfl ?_
          exact ⟨rfl, gr_from B2.out B2.out.size (Nat.le_succ _) gp⟩
    · rw [if_neg hn, if_pos (by decide)]
      have u1 : upB2 n 400 = false := upB2_no (by omega)
      clear hn k4
      go_enter Try.func15, Try.ntmps15
      go_wp2_with fail
      refine (HC.out _).mono ?_
      rintro e w1 ⟨rfl, b1⟩
      have B1 := Lib.hid (B0.out.trans (b1.mono B0.out.size)); have F1 := Lib.hid ((b1.block _ (lt_of_block F0.out)).trans F0.out); have Z1 := Lib.hid ((b1.block _ (lt_of_block Z0.out)).trans Z0.out); clear b1
      obtain ⟨q0, q1, q2, qf⟩ := bk3A F1.out; obtain ⟨z0, z1, z2, zf⟩ := bk3A Z1.out
      go_wp2_with (go_at_call 31; refine (upTo_any _ _ _).mono ?_; rintro e w' ⟨rfl, rfl⟩)
      obtain ⟨r0, r1, r2, zb, gp⟩ := bk3A_put Z1.out (.bool false) (.int .i64 0) (.int .i64 0)
      refine bodyPost_ret (by simp [results, Try.results15, go_sem, r0, r1, r2]; try rfl) rfl ?_
      exact ⟨rfl, gr_from B1.out B1.out.size (Nat.le_succ _) gp⟩
  · rw [if_pos h]
    obtain ⟨x, hx⟩ : ∃ x, taF kn g s = x := ⟨_, rfl⟩
    rw [hx] at HC h ⊢
    rw [if_pos h]
    have g0 : (x != 0) = true := by simp [h]
    have g1 : (x == 0) = false := by simp [h]
    clear h hx
    go_enter Try.func15, Try.ntmps15
    go_wp2_with fail
    refine (HC.out _).mono ?_
    rintro e w1 ⟨rfl, b1⟩
    have B1 := Lib.hid (B0.out.trans (b1.mono B0.out.size)); have F1 := Lib.hid ((b1.block _ (lt_of_block F0.out)).trans F0.out); have Z1 := Lib.hid ((b1.block _ (lt_of_block Z0.out)).trans Z0.out); clear b1
    obtain ⟨q0, q1, q2, qf⟩ := bk3A F1.out; obtain ⟨z0, z1, z2, zf⟩ := bk3A Z1.out
    go_wp2_with (go_at_call 31; refine (upTo_any _ _ _).mono ?_; rintro e w' ⟨rfl, rfl⟩)
    obtain ⟨r0, r1, r2, zb, gp⟩ := bk3A_put Z1.out (.bool false) (.int .i64 0) (.int .i64 0)
    refine bodyPost_ret (by simp [results, Try.results15, go_sem, r0, r1, r2]; try rfl) rfl ?_
    exact ⟨rfl, gr_from B1.out B1.out.size (Nat.le_succ _) gp⟩
end Go.Proofs.Ytpfahdogedchpaa
