/- The document's answers on numbers: upTo. -/
import Derived.Test.YtajjelcjgcgfdaaRows
import Derived.WalkLawsBesides
import Derived.WalkSpells
import Derived.Outline
import Derived.Handy
namespace Go.Proofs.Ytajjelcjgcgfdaa
set_option linter.unusedVariables false
open Go.RowKit

theorem upTo_yes (n m : Int) (h0 : 0 ≤ n) (h1 : n ≤ m) (w : World) :
    Calls Try.prog 31 #[.int .i64 n, .int .i64 m] w fun e w' => e = .returned (.bool true) ∧ w = w' := by
  go_enter Try.func31, Try.ntmps31
  go_wp2
  go_ret
  exact ⟨rfl, rfl⟩
theorem upTo_no (n m : Int) (h : n < 0 ∨ m < n) (w : World) :
    Calls Try.prog 31 #[.int .i64 n, .int .i64 m] w fun e w' => e = .returned (.bool false) ∧ w = w' := by
  by_cases a : n < 0
  · have g : decide (0 ≤ n) = false := by simp; omega
    go_enter Try.func31, Try.ntmps31
    go_wp2
    go_ret
    exact ⟨rfl, rfl⟩
  · have g : decide (0 ≤ n) = true := by simp; omega
    have g2 : decide (n ≤ m) = false := by simp; omega
    clear h
    go_enter Try.func31, Try.ntmps31
    go_wp2
    go_ret
    exact ⟨rfl, rfl⟩
/-- what upTo answers -/
def upB2 (n m : Int) : Bool := decide (0 ≤ n) && decide (n ≤ m)
theorem upB2_yes {n m : Int} (h0 : 0 ≤ n) (h1 : n ≤ m) : upB2 n m = true := by unfold upB2; simp [h0, h1]
theorem upB2_no {n m : Int} (h : n < 0 ∨ m < n) : upB2 n m = false := by
  unfold upB2
  rcases h with h | h
  · rw [decide_eq_false (show ¬ 0 ≤ n by omega)]; rfl
  · rw [decide_eq_false (show ¬ n ≤ m by omega)]; simp
theorem upTo_any (n m : Int) (w : World) :
    Calls Try.prog 31 #[.int .i64 n, .int .i64 m] w fun e w' => e = .returned (.bool (upB2 n m)) ∧ w = w' := by
  by_cases h : 0 ≤ n ∧ n ≤ m
  · rw [upB2_yes h.1 h.2]
    exact upTo_yes n m h.1 h.2 w
  · rw [upB2_no (by omega)]
    exact upTo_no n m (by omega) w
end Go.Proofs.Ytajjelcjgcgfdaa
