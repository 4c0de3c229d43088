/- The walk of LockMixes, over what is asked of the four functions. -/
import Derived.Test.YtlmckklgmijapaaLkMath
import Derived.Test.YtlmckklgmijapaaRows
import Derived.WalkLawsBesides
import Derived.WalkSpells
import Derived.Outline
import Derived.Handy
import Derived.Below
namespace Go.Proofs.Ytlmckklgmijapaa
set_option linter.unusedVariables false
open Go.RowKit P

theorem lockMixes_core (hMIX : ∀ (x : Nat), x < 18446744073709551616 → ∀ w, Calls Try.prog 9 #[.int .u64 x] w fun e w' => e = .returned (.int .u64 (mx x)) ∧ Below w.heap.size w w')
    (hKEY : ∀ (s : Nat), s < 18446744073709551616 → ∀ (n : Int) w, Calls Try.prog 10 #[.int .u64 s, .int .i64 n] w fun e w' => e = .returned (.int .u64 (keyN s n)) ∧ Below w.heap.size w w')
    (rMIX : ∀ (x : Nat), x < 18446744073709551616 → ∀ w, Calls Try.prog 11 #[.int .u64 x] w fun e w' => e = .returned (.int .u64 (mx x)) ∧ Below w.heap.size w w')
    (rKEY : ∀ (s : Nat), s < 18446744073709551616 → ∀ (n : Int) w, Calls Try.prog 12 #[.int .u64 s, .int .i64 n] w fun e w' => e = .returned (.int .u64 (keyN s n)) ∧ Below w.heap.size w w')
    (x n : Int) (x0 : 0 ≤ x) (x1 : x ≤ 18446744073709551615) (w : World) :
    Calls Try.prog 3 #[.int .u64 x, .int .i64 n] w fun e w' => e = .returned (.bool true) ∧ Below w.heap.size w w' := by
  obtain ⟨y, rfl⟩ : ∃ y : Nat, x = y := ⟨x.toNat, by omega⟩
  have hy : y < 18446744073709551616 := by omega
  have M1 := Lib.hid (fun w => hMIX y hy w)
  have K1 := Lib.hid (fun w => hKEY y hy n w)
  have M2 := Lib.hid (fun w => rMIX y hy w)
  have K2 := Lib.hid (fun w => rKEY y hy n w)
  generalize mx y = a at *
  generalize keyN y n = b at *
  clear hMIX hKEY rMIX rKEY hy
  go_enter Try.func3, Try.ntmps3
  go_wp2_with fail
  refine (M1.out _).mono ?_
  rintro e w1 ⟨rfl, b1⟩
  have B1 := Lib.hid b1
  clear b1
  go_wp2_with fail
  refine (K1.out _).mono ?_
  rintro e w2 ⟨rfl, b2⟩
  have B2 := Lib.hid (B1.out.trans (b2.mono B1.out.size))
  clear b2
  go_wp2_with fail
  refine (M2.out _).mono ?_
  rintro e w3 ⟨rfl, b3⟩
  have B3 := Lib.hid (B2.out.trans (b3.mono B2.out.size))
  clear b3
  go_wp2_with fail
  refine (K2.out _).mono ?_
  rintro e w4 ⟨rfl, b4⟩
  have B4 := Lib.hid (B3.out.trans (b4.mono B3.out.size))
  clear b4
  go_wp2_with fail
  go_ret
  exact ⟨by simp, B4.out⟩
end Go.Proofs.Ytlmckklgmijapaa
