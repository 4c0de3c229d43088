/- The walk of MixApart, over what is asked of Mix and Key. -/
import Derived.Test.YtlmckklgmijapaaLkMath
import Derived.Test.YtlmckklgmijapaaRows
import Derived.WalkLawsBesides
import Derived.WalkSpells
import Derived.Outline
import Derived.Handy
import Derived.Below
namespace Go.Proofs.Ytlmckklgmijapaa
set_option linter.unusedVariables false
open Go.RowKit P

theorem wd_inj {a b : Int} (a0 : -9223372036854775808 ≤ a ∧ a ≤ 9223372036854775807) (b0 : -9223372036854775808 ≤ b ∧ b ≤ 9223372036854775807) (h : wd a = wd b) : a = b := by
  unfold wd at h
  omega
theorem mixApart_core (hMIX : ∀ (x : Nat), x < 18446744073709551616 → ∀ w, Calls Try.prog 9 #[.int .u64 x] w fun e w' => e = .returned (.int .u64 (mx x)) ∧ Below w.heap.size w w')
    (hKEY : ∀ (s : Nat), s < 18446744073709551616 → ∀ (n : Int) w, Calls Try.prog 10 #[.int .u64 s, .int .i64 n] w fun e w' => e = .returned (.int .u64 (keyN s n)) ∧ Below w.heap.size w w')
    (a b s : Int) (a0 : -9223372036854775808 ≤ a ∧ a ≤ 9223372036854775807) (b0 : -9223372036854775808 ≤ b ∧ b ≤ 9223372036854775807) (w : World) :
    Calls Try.prog 8 #[.int .i64 a, .int .i64 b, .int .i64 s] w fun e w' => e = .returned (.bool true) ∧ Below w.heap.size w w' := by
  have hw : ∀ n : Int, IntKind.u64.wrap n = (wd n : Int) := fun n => by rw [IntKind.wrap_u64]; unfold wd; omega
  have ha := hw a
  have hb := hw b
  have hs := hw s
  have M1 := Lib.hid (fun w => hMIX (wd a) (wd_lt a) w)
  have M2 := Lib.hid (fun w => hMIX (wd b) (wd_lt b) w)
  have M0 : Hid (∀ w, Calls Try.prog 9 #[.int .u64 0] w fun e w' => e = .returned (.int .u64 16294208416658607535) ∧ Below w.heap.size w w') := Lib.hid (fun w => by
    have := hMIX 0 (by decide) w
    rwa [mx_zero] at this)
  have K1 := Lib.hid (fun w => hKEY (wd s) (wd_lt s) a w)
  have K2 := Lib.hid (fun w => hKEY (wd s) (wd_lt s) b w)
  have hq : (((mx (wd a) : Nat) : Int) == ((mx (wd b) : Nat) : Int)) = decide (a = b) ∧ (((wd a : Nat) : Int) == ((wd b : Nat) : Int)) = decide (a = b) ∧ (((keyN (wd s) a : Nat) : Int) == ((keyN (wd s) b : Nat) : Int)) = decide (a = b) ∧ (a == b) = decide (a = b) := by
    by_cases h : a = b
    · rw [h]
      simp
    · have e1 : mx (wd a) ≠ mx (wd b) := fun e => h (wd_inj a0 b0 (mx_inj (wd_lt a) (wd_lt b) e))
      have e2 : wd a ≠ wd b := fun e => h (wd_inj a0 b0 e)
      have e3 : keyN (wd s) a ≠ keyN (wd s) b := fun e => h (keyN_inj a0 b0 e)
      rw [decide_eq_false h]
      refine ⟨beq_eq_false_iff_ne.2 (by omega), beq_eq_false_iff_ne.2 (by omega), beq_eq_false_iff_ne.2 (by omega), beq_eq_false_iff_ne.2 h⟩
  obtain ⟨q1, q2, q3, q4⟩ := hq
  generalize decide (a = b) = t at *
  clear hw hMIX hKEY a0 b0
  generalize mx (wd a) = ma at *
  generalize mx (wd b) = mb at *
  generalize keyN (wd s) a = ka at *
  generalize keyN (wd s) b = kb at *
  generalize wd a = da at *
  generalize wd b = db at *
  generalize wd s = ds at *
  go_enter Try.func8, Try.ntmps8
  go_wp2_with fail
  refine (M1.out _).mono ?_
  rintro e w1 ⟨rfl, b1⟩
  have B1 := Lib.hid b1
  clear b1
  go_wp2_with fail
  refine (M2.out _).mono ?_
  rintro e w2 ⟨rfl, b2⟩
  have B2 := Lib.hid (B1.out.trans (b2.mono B1.out.size))
  clear b2
  go_wp2_with fail
  refine (K1.out _).mono ?_
  rintro e w3 ⟨rfl, b3⟩
  have B3 := Lib.hid (B2.out.trans (b3.mono B2.out.size))
  clear b3
  go_wp2_with fail
  refine (K2.out _).mono ?_
  rintro e w4 ⟨rfl, b4⟩
  have B4 := Lib.hid (B3.out.trans (b4.mono B3.out.size))
  clear b4
  go_wp2_with fail
  refine (M0.out _).mono ?_
  rintro e w5 ⟨rfl, b5⟩
  have B5 := Lib.hid (B4.out.trans (b5.mono B4.out.size))
  clear b5
  go_wp2_with fail
  go_ret
  exact ⟨by simp, B5.out⟩
end Go.Proofs.Ytlmckklgmijapaa
