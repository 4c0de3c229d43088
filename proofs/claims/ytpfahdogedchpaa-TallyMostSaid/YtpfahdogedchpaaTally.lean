/- The project's tally. -/
import Derived.Test.YtpfahdogedchpaaTaV
namespace Go.Proofs.Ytpfahdogedchpaa
set_option linter.unusedVariables false
open Go.RowKit P

theorem taWithin_yes (n m : Int) (h0 : 0 ≤ n) (h1 : n ≤ m) (w : World) :
    Calls Try.prog 28 #[.int .i64 n, .int .i64 m] w fun e w' => e = .returned (.bool true) ∧ w = w' := by
  go_enter Try.func28, Try.ntmps28
  go_wp2
  go_ret
  exact ⟨rfl, rfl⟩
theorem taWithin_no (n m : Int) (h : n < 0 ∨ m < n) (w : World) :
    Calls Try.prog 28 #[.int .i64 n, .int .i64 m] w fun e w' => e = .returned (.bool false) ∧ w = w' := by
  by_cases a : n < 0
  · have g : decide (0 ≤ n) = false := by simp; omega
    go_enter Try.func28, Try.ntmps28
    go_wp2
    go_ret
    exact ⟨rfl, rfl⟩
  · have g : decide (0 ≤ n) = true := by simp; omega
    have g2 : decide (n ≤ m) = false := by simp; omega
    clear h
    go_enter Try.func28, Try.ntmps28
    go_wp2
    go_ret
    exact ⟨rfl, rfl⟩
theorem taWithin_any (n m : Int) (w : World) :
    Calls Try.prog 28 #[.int .i64 n, .int .i64 m] w fun e w' => e = .returned (.bool (upB2 n m)) ∧ w = w' := by
  by_cases h : 0 ≤ n ∧ n ≤ m
  · rw [upB2_yes h.1 h.2]
    exact taWithin_yes n m h.1 h.2 w
  · rw [upB2_no (by omega)]
    exact taWithin_no n m (by omega) w
def taA (kn : Bool) (g s : Int) : Bool := kn || decide (s ≤ 3 * g)
theorem taAllowed_any (kn : Bool) (g s : Int) (hg : 0 ≤ g ∧ g ≤ 1099511627776) (w : World) :
    Calls Try.prog 29 #[.agg #[.bool kn, .int .i64 g, .int .i64 s]] w fun e w' => e = .returned (.bool (taA kn g s)) ∧ Below w.heap.size w w' := by
  have B0 := Lib.hid ((Below.refl w.heap.size w).alloc (Nat.le_refl _) (.cells #[.bool kn, .int .i64 g, .int .i64 s] 34))
  have hw : IntKind.i64.wrap (3 * g) = 3 * g := by rw [IntKind.wrap_i64]; omega
  cases kn
  · by_cases h : s ≤ 3 * g
    · have a : decide (s ≤ 3 * g) = true := by simp [h]
      rw [show taA false g s = true by unfold taA; rw [a]; rfl]
      go_enter Try.func29, Try.ntmps29
      go_wp2
      go_ret
      exact ⟨rfl, B0.out⟩
    · have a : decide (s ≤ 3 * g) = false := by simp; omega
      rw [show taA false g s = false by unfold taA; rw [a]; rfl]
      go_enter Try.func29, Try.ntmps29
      go_wp2
      go_ret
      exact ⟨rfl, B0.out⟩
  · rw [show taA true g s = true from rfl]
    go_enter Try.func29, Try.ntmps29
    go_wp2
    go_ret
    exact ⟨rfl, B0.out⟩
theorem taChk_any : TaChk Try.prog 9 := fun kn g s w => by
  unfold taV
  have B0 := Lib.hid ((Below.refl w.heap.size w).alloc (Nat.le_refl _) (.cells #[.bool kn, .int .i64 g, .int .i64 s] 34))
  by_cases h1 : 0 ≤ g ∧ g ≤ 1099511627776
  · have u1 : upB2 g 1099511627776 = true := upB2_yes h1.1 h1.2
    by_cases h2 : 0 ≤ s ∧ s ≤ 1099511627776
    · have u2 : upB2 s 1099511627776 = true := upB2_yes h2.1 h2.2
      have HA := Lib.hid (fun w => taAllowed_any kn g s h1 w)
      cases h3 : taA kn g s
      · rw [h3] at HA
        rw [show taF kn g s = 9 from if_neg (fun k => by unfold taA at h3; cases kn <;> simp at h3 k <;> omega)]
        clear h1 h2 h3
        go_enter Try.func9, Try.ntmps9
        go_wp2_with (first
      | (go_at_call 28; refine (taWithin_any _ _ _).mono ?_; rintro e w' ⟨rfl, rfl⟩)
      | (go_at_call 29; refine (HA.out _).mono ?_; rintro e w1 ⟨rfl, b1⟩; have B1 := Lib.hid (B0.out.trans (b1.mono B0.out.size)); clear b1))
        go_ret
        exact ⟨rfl, B1.out⟩
      · rw [h3] at HA
        rw [show taF kn g s = 0 from if_pos ⟨h1, h2, by unfold taA at h3; simpa using h3⟩]
        clear h1 h2 h3
        go_enter Try.func9, Try.ntmps9
        go_wp2_with (first
      | (go_at_call 28; refine (taWithin_any _ _ _).mono ?_; rintro e w' ⟨rfl, rfl⟩)
      | (go_at_call 29; refine (HA.out _).mono ?_; rintro e w1 ⟨rfl, b1⟩; have B1 := Lib.hid (B0.out.trans (b1.mono B0.out.size)); clear b1))
        go_ret
        exact ⟨rfl, B1.out⟩
    · have u2 : upB2 s 1099511627776 = false := upB2_no (by omega)
      rw [show taF kn g s = 9 from if_neg (fun k => h2 k.2.1)]
      clear h1 h2
      go_enter Try.func9, Try.ntmps9
      go_wp2_with (first
      | (go_at_call 28; refine (taWithin_any _ _ _).mono ?_; rintro e w' ⟨rfl, rfl⟩))
      go_ret
      exact ⟨rfl, B0.out⟩
  · have u1 : upB2 g 1099511627776 = false := upB2_no (by omega)
    rw [show taF kn g s = 9 from if_neg (fun k => h1 k.1)]
    clear h1
    go_enter Try.func9, Try.ntmps9
    go_wp2_with (first
      | (go_at_call 28; refine (taWithin_any _ _ _).mono ?_; rintro e w' ⟨rfl, rfl⟩))
    go_ret
    exact ⟨rfl, B0.out⟩
theorem taRefuse_any : TaRef Try.prog 30 := fun kn g s n w => by
  have HC := Lib.hid (fun w => taChk_any kn g s w)
  unfold taV at *
  have B0 := Lib.hid ((Below.refl w.heap.size w).alloc (Nat.le_refl _) (.cells #[.bool kn, .int .i64 g, .int .i64 s] 34))
  by_cases h : taF kn g s = 0
  · rw [h] at HC
    by_cases h1 : 0 ≤ n ∧ n ≤ 400
    · have u1 : upB2 n 400 = true := upB2_yes h1.1 h1.2
      rw [show taE kn g s n = 0 by unfold taE; rw [if_neg (fun k => k h), if_pos h1]]
      clear h h1
      go_enter Try.func30, Try.ntmps30
      go_wp2_with (first | (go_at_call 9; refine (HC.out _).mono ?_; rintro e w1 ⟨rfl, b1⟩; have B1 := Lib.hid (B0.out.trans (b1.mono B0.out.size)); clear b1) | (go_at_call 28; refine (taWithin_any _ _ _).mono ?_; rintro e w' ⟨rfl, rfl⟩))
      go_ret
      exact ⟨rfl, B1.out⟩
    · have u1 : upB2 n 400 = false := upB2_no (by omega)
      rw [show taE kn g s n = 6 by unfold taE; rw [if_neg (fun k => k h), if_neg h1]]
      clear h h1
      go_enter Try.func30, Try.ntmps30
      go_wp2_with (first | (go_at_call 9; refine (HC.out _).mono ?_; rintro e w1 ⟨rfl, b1⟩; have B1 := Lib.hid (B0.out.trans (b1.mono B0.out.size)); clear b1) | (go_at_call 28; refine (taWithin_any _ _ _).mono ?_; rintro e w' ⟨rfl, rfl⟩))
      go_ret
      exact ⟨rfl, B1.out⟩
  · rw [show taE kn g s n = taF kn g s from if_pos h]
    obtain ⟨x, hx⟩ : ∃ x, taF kn g s = x := ⟨_, rfl⟩
    rw [hx] at HC h ⊢
    have g : (x != 0) = true := by simp [h]
    clear h hx
    go_enter Try.func30, Try.ntmps30
    go_wp2_with ((go_at_call 9; refine (HC.out _).mono ?_; rintro e w1 ⟨rfl, b1⟩; have B1 := Lib.hid (B0.out.trans (b1.mono B0.out.size)); clear b1))
    go_ret
    exact ⟨rfl, B1.out⟩
end Go.Proofs.Ytpfahdogedchpaa
