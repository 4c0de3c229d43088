/- What varint.Size answers, and the mask of the verifier's texts: contracts by a walk of the Go text. -/
import Derived.Test.YtpickcmpnncgcaaDoorRows
import Derived.Test.YtpickcmpnncgcaaDoorMath
import Derived.WalkKit
import Derived.Handy
import Derived.Lib.Hide
import Derived.WalkLawsBesides
import Derived.WalkSpells
import Derived.Outline
import Derived.Deep.QuietTactic
import Derived.BigQuiet
namespace Go.Proofs.YtpickcmpnncgcaaDoor
set_option linter.unusedVariables false
open Go.RowKit P

theorem number_any (n : Int) (w : World) : Calls Tryd.prog 11 #[.int .i64 n] w fun e w' => e = .returned (.int .i64 (num n)) ∧ w = w' := by
  have hn := and_num n
  go_enter Tryd.func11, Tryd.ntmps11
  go_wp2
  go_ret
  exact ⟨rfl, rfl⟩

/-- how many bytes a number takes, by P1.1 -/
def sz (n : Int) : Int := if n < 64 then 1 else if n < 16384 then 2 else if n < 1073741824 then 4 else 8

theorem size_in (n : Int) (h0 : 0 ≤ n) (h1 : n ≤ 4611686018427387903) (w : World) :
    Calls Tryd.prog 6 #[.int .i64 n] w fun e w' => e = .returned (.tuple #[.int .i64 (sz n), .int .i64 0]) ∧ w = w' := by
  unfold sz
  by_cases a : n < 64
  · go_enter Tryd.func6, Tryd.ntmps6
    go_wp2
    go_ret2
    exact ⟨rfl, rfl⟩
  by_cases b : n < 16384
  · go_enter Tryd.func6, Tryd.ntmps6
    go_wp2
    go_ret2
    exact ⟨rfl, rfl⟩
  by_cases c : n < 1073741824
  · go_enter Tryd.func6, Tryd.ntmps6
    go_wp2
    go_ret2
    exact ⟨rfl, rfl⟩
  go_enter Tryd.func6, Tryd.ntmps6
  go_wp2
  go_ret2
  exact ⟨rfl, rfl⟩

theorem size_out (n : Int) (h : n < 0 ∨ 4611686018427387903 < n) (w : World) :
    Calls Tryd.prog 6 #[.int .i64 n] w fun e w' => e = .returned (.tuple #[.int .i64 0, .int .i64 6]) ∧ w = w' := by
  rcases h with h | h
  · go_enter Tryd.func6, Tryd.ntmps6
    go_wp2
    go_ret2
    exact ⟨rfl, rfl⟩
  · have h' : ¬ n < 0 := by omega
    go_enter Tryd.func6, Tryd.ntmps6
    go_wp2
    go_ret2
    exact ⟨rfl, rfl⟩

theorem sz_bd (n : Int) : 1 ≤ sz n ∧ sz n ≤ 8 := by unfold sz; split <;> (try split) <;> (try split) <;> omega
theorem sz_mono (a b : Int) (h : a ≤ b) : sz a ≤ sz b := by unfold sz; split <;> (try split) <;> (try split) <;> (try split) <;> (try split) <;> (try split) <;> omega
theorem sz_cases (n : Int) : (sz n = 1 ∧ n < 64) ∨ (sz n = 2 ∧ 64 ≤ n ∧ n < 16384) ∨ (sz n = 4 ∧ 16384 ≤ n ∧ n < 1073741824) ∨ (sz n = 8 ∧ 1073741824 ≤ n) := by
  unfold sz; split <;> (try split) <;> (try split) <;> omega
end Go.Proofs.YtpickcmpnncgcaaDoor
