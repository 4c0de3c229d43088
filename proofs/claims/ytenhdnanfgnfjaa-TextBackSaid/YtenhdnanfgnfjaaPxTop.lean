/- The project's prefix: isWidth, topOf; masks by a top. -/
import Derived.Test.YtenhdnanfgnfjaaPxMath
import Derived.Test.YtenhdnanfgnfjaaMem
import Derived.Test.YtenhdnanfgnfjaaOwnB
namespace Go.Proofs.Ytenhdnanfgnfjaa
set_option linter.unusedVariables false
open Go.RowKit P

theorem eight {P : Int → Prop} (h1 : P 1) (h2 : P 2) (h3 : P 3) (h4 : P 4) (h5 : P 5) (h6 : P 6) (h7 : P 7) (h8 : P 8) (w : Int) (h : 1 ≤ w ∧ w ≤ 8) : P w := by
  have : w = 1 ∨ w = 2 ∨ w = 3 ∨ w = 4 ∨ w = 5 ∨ w = 6 ∨ w = 7 ∨ w = 8 := by omega
  rcases this with rfl | rfl | rfl | rfl | rfl | rfl | rfl | rfl <;> assumption
theorem i62 : ∀ n : Int, 0 ≤ n → n < 2 ^ 62 → IntKind.i64.wrap n = n := fun n h0 h1 => by rw [IntKind.wrap_i64]; omega
/-- masked by a top -/
theorem and_top (x : Int) (h0 : 0 ≤ x) (h1 : x < 256) (w : Int) (hw : 1 ≤ w ∧ w ≤ 8) : bits .and .i64 x (topW w) = x % (topW w + 1) := by
  revert w
  refine eight ?_ ?_ ?_ ?_ ?_ ?_ ?_ ?_
  · exact bits_mask .i64 62 (by decide) i62 1 (by decide) x h0 (by omega)
  · exact bits_mask .i64 62 (by decide) i62 2 (by decide) x h0 (by omega)
  · exact bits_mask .i64 62 (by decide) i62 3 (by decide) x h0 (by omega)
  · exact bits_mask .i64 62 (by decide) i62 4 (by decide) x h0 (by omega)
  · exact bits_mask .i64 62 (by decide) i62 5 (by decide) x h0 (by omega)
  · exact bits_mask .i64 62 (by decide) i62 6 (by decide) x h0 (by omega)
  · exact bits_mask .i64 62 (by decide) i62 7 (by decide) x h0 (by omega)
  · exact bits_mask .i64 62 (by decide) i62 8 (by decide) x h0 (by omega)
/-- laid into bits that are not set -/
theorem or_topv (x n : Int) (h0 : 0 ≤ x) (h1 : x < 256) (n0 : 0 ≤ n) (w : Int) (hw : 1 ≤ w ∧ w ≤ 8) (n1 : n ≤ topW w) (h : x % (topW w + 1) = 0) : bits .or .u8 x n = x + n := by
  revert w
  refine fun w hw => eight (P := fun w => n ≤ topW w → x % (topW w + 1) = 0 → bits .or .u8 x n = x + n) ?_ ?_ ?_ ?_ ?_ ?_ ?_ ?_ w hw
  · intro a b; exact bits_join .u8 8 (by decide) wraps_u8 1 x n h0 b (by omega) n0 (by have : n ≤ 1 := a; omega) (by have : n ≤ 1 := a; omega)
  · intro a b; exact bits_join .u8 8 (by decide) wraps_u8 2 x n h0 b (by omega) n0 (by have : n ≤ 3 := a; omega) (by have : n ≤ 3 := a; omega)
  · intro a b; exact bits_join .u8 8 (by decide) wraps_u8 3 x n h0 b (by omega) n0 (by have : n ≤ 7 := a; omega) (by have : n ≤ 7 := a; omega)
  · intro a b; exact bits_join .u8 8 (by decide) wraps_u8 4 x n h0 b (by omega) n0 (by have : n ≤ 15 := a; omega) (by have : n ≤ 15 := a; omega)
  · intro a b; exact bits_join .u8 8 (by decide) wraps_u8 5 x n h0 b (by omega) n0 (by have : n ≤ 31 := a; omega) (by have : n ≤ 31 := a; omega)
  · intro a b; exact bits_join .u8 8 (by decide) wraps_u8 6 x n h0 b (by omega) n0 (by have : n ≤ 63 := a; omega) (by have : n ≤ 63 := a; omega)
  · intro a b; exact bits_join .u8 8 (by decide) wraps_u8 7 x n h0 b (by omega) n0 (by have : n ≤ 127 := a; omega) (by have : n ≤ 127 := a; omega)
  · intro a b; exact bits_join .u8 8 (by decide) wraps_u8 8 x n h0 b (by omega) n0 (by have : n ≤ 255 := a; omega) (by have : n ≤ 255 := a; omega)

theorem isWidth_any (w : Int) (W : World) : Calls Try.prog 19 #[.int .i64 w] W fun e W' => e = .returned (.bool (decide (1 ≤ w ∧ w ≤ 8))) ∧ W = W' := by
  by_cases h : 1 ≤ w ∧ w ≤ 8
  · have e1 : decide (1 ≤ w) = true := by simp; omega
    have e2 : decide (w ≤ 8) = true := by simp; omega
    have HD := Lib.hid (show decide (1 ≤ w ∧ w ≤ 8) = true from decide_eq_true h)
    rw [HD.out]
    clear h
    go_enter Try.func19, Try.ntmps19
    go_wp2_with fail
    go_ret
    exact ⟨rfl, rfl⟩
  · have HD := Lib.hid (show decide (1 ≤ w ∧ w ≤ 8) = false from decide_eq_false h)
    rw [HD.out]
    by_cases a : 1 ≤ w
    · have e1 : decide (1 ≤ w) = true := by simp; omega
      have e2 : decide (w ≤ 8) = false := by simp; omega
      clear h a
      go_enter Try.func19, Try.ntmps19
      go_wp2_with fail
      go_ret
      exact ⟨rfl, rfl⟩
    · have e1 : decide (1 ≤ w) = false := by simp; omega
      clear h a
      go_enter Try.func19, Try.ntmps19
      go_wp2_with fail
      go_ret
      exact ⟨rfl, rfl⟩
theorem isWidth_yes {w : Int} (h : 1 ≤ w ∧ w ≤ 8) (W : World) : Calls Try.prog 19 #[.int .i64 w] W fun e W' => e = .returned (.bool true) ∧ W = W' := by
  have := isWidth_any w W
  rwa [decide_eq_true h] at this
theorem isWidth_no {w : Int} (h : ¬ (1 ≤ w ∧ w ≤ 8)) (W : World) : Calls Try.prog 19 #[.int .i64 w] W fun e W' => e = .returned (.bool false) ∧ W = W' := by
  have := isWidth_any w W
  rwa [decide_eq_false h] at this
theorem topOf_any (w : Int) (hw : 1 ≤ w ∧ w ≤ 8) (W : World) : Calls Try.prog 20 #[.int .i64 w] W fun e W' => e = .returned (.int .i64 (topW w)) ∧ W = W' := by
  revert w
  refine eight ?_ ?_ ?_ ?_ ?_ ?_ ?_ ?_
  all_goals
    go_enter Try.func20, Try.ntmps20
    go_wp2_with fail
    go_ret
    exact ⟨rfl, rfl⟩
end Go.Proofs.Ytenhdnanfgnfjaa
