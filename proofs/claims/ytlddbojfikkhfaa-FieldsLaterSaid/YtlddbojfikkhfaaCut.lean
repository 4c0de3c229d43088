/- The verifier's texts' own 'cut': the first bytes of a string. -/
import Derived.Test.YtlddbojfikkhfaaGrpD
import Derived.Test.YtlddbojfikkhfaaRows
import Derived.WalkKit
import Derived.Handy
import Derived.Lib.Hide
import Derived.Outline
import Derived.Laws.IdiomStrings
namespace Go.Proofs.Ytlddbojfikkhfaa
set_option linter.unusedVariables false
open Go.RowKit P

theorem cut_any (s : ByteArray) (n : Nat) (hn : n ≤ 1000) (h : s.size ≤ maxLen) (w : World) :
    Calls Try.prog 52 #[.string s, .int .i64 n] w fun e w' => e = .returned (.string (strOfNums ((numsOf s).take n))) ∧ w = w' := by
  have hs : s.extract 0 n = strOfNums ((numsOf s).take n) := by rw [← str_cut, numsOf_str]
  unfold maxLen at h
  by_cases c : n < s.size
  · go_enter Try.func52, Try.ntmps52
    go_wp2
    go_ret
    exact ⟨rfl, rfl⟩
  · have e : strOfNums ((numsOf s).take n) = s := by rw [List.take_of_length_le (by rw [numsOf_len]; omega), numsOf_str]
    rw [e]
    clear hs e
    go_enter Try.func52, Try.ntmps52
    go_wp2
    go_ret
    exact ⟨rfl, rfl⟩
end Go.Proofs.Ytlddbojfikkhfaa
