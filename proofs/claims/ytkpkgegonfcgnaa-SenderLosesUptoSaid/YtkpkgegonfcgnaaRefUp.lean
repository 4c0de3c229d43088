/- The document's answers on numbers and ranges: upTo, isRange. -/
import Derived.Test.YtkpkgegonfcgnaaRngRow
import Derived.Test.YtkpkgegonfcgnaaRows
import Derived.WalkLawsBesides
import Derived.WalkSpells
import Derived.Outline
import Derived.Handy
import Derived.Deep.LoopGhost
namespace Go.Proofs.Ytkpkgegonfcgnaa
set_option linter.unusedVariables false
open Go.RowKit P

theorem upto_yes (n m : Int) (h0 : 0 ≤ n) (h1 : n ≤ m) (w : World) :
    Calls Try.prog 37 #[.int .i64 n, .int .i64 m] w fun e w' => e = .returned (.bool true) ∧ w = w' := by
  go_enter Try.func37, Try.ntmps37
  go_wp2
  go_ret
  exact ⟨rfl, rfl⟩
theorem upto_no (n m : Int) (h : n < 0 ∨ m < n) (w : World) :
    Calls Try.prog 37 #[.int .i64 n, .int .i64 m] w fun e w' => e = .returned (.bool false) ∧ w = w' := by
  by_cases a : n < 0
  · have g : decide (0 ≤ n) = false := by simp; omega
    go_enter Try.func37, Try.ntmps37
    go_wp2
    go_ret
    exact ⟨rfl, rfl⟩
  · have g : decide (0 ≤ n) = true := by simp; omega
    have g2 : decide (n ≤ m) = false := by simp; omega
    clear h
    go_enter Try.func37, Try.ntmps37
    go_wp2
    go_ret
    exact ⟨rfl, rfl⟩

theorem isrange_yes (lo hi : Int) (h : okR (lo, hi)) (w : World) :
    Calls Try.prog 55 #[.agg #[.int .i64 lo, .int .i64 hi]] w fun e w' => e = .returned (.bool true) ∧ Below w.heap.size w w' := by
  obtain ⟨h0, h1, h2⟩ := h
  simp only at h0 h1 h2
  go_enter Try.func55, Try.ntmps55
  go_wp2_with (go_at_call 37; refine (upto_yes _ _ h0 h1 _).mono ?_; rintro e w' ⟨rfl, rfl⟩)
  go_ret
  exact ⟨rfl, (Below.refl _ _).alloc (Nat.le_refl _) _⟩
theorem isrange_no (lo hi : Int) (h : ¬ okR (lo, hi)) (w : World) :
    Calls Try.prog 55 #[.agg #[.int .i64 lo, .int .i64 hi]] w fun e w' => e = .returned (.bool false) ∧ Below w.heap.size w w' := by
  by_cases a : lo < 0 ∨ hi < lo
  · go_enter Try.func55, Try.ntmps55
    go_wp2_with (go_at_call 37; refine (upto_no _ _ a _).mono ?_; rintro e w' ⟨rfl, rfl⟩)
    go_ret
    exact ⟨rfl, (Below.refl _ _).alloc (Nat.le_refl _) _⟩
  · have h0 : 0 ≤ lo := by omega
    have h1 : lo ≤ hi := by omega
    have g : decide (hi ≤ 4611686018427387903) = false := decide_eq_false fun h2 => h ⟨h0, h1, h2⟩
    clear a h
    go_enter Try.func55, Try.ntmps55
    go_wp2_with (go_at_call 37; refine (upto_yes _ _ h0 h1 _).mono ?_; rintro e w' ⟨rfl, rfl⟩)
    go_ret
    exact ⟨rfl, (Below.refl _ _).alloc (Nat.le_refl _) _⟩

end Go.Proofs.Ytkpkgegonfcgnaa
