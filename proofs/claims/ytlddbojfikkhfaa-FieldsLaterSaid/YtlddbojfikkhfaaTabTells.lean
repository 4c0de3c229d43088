/- The statements' own tableTells, over what is asked of the project. -/
import Derived.Test.YtlddbojfikkhfaaTabLawC
namespace Go.Proofs.Ytlddbojfikkhfaa
set_option linter.unusedVariables false
open Go.RowKit P

def tbA : Tb := ⟨100, 1, [⟨[97], [98]⟩]⟩
theorem ttells1 : insT ⟨100, 0, []⟩ ⟨[97], [98]⟩ = (tbA, 0) := by kernel_rfl
theorem ttells2 : getT tbA 0 = (⟨[97], [98]⟩, 0) := by kernel_rfl
theorem byt_lit {z : Int} (h : 0 ≤ z ∧ z ≤ 255) : Byt [z] := fun j => by
  match j with
  | 0 => exact h
  | j + 1 => simp
theorem fdwfA : FdWf ⟨[97], [98]⟩ := ⟨byt_lit (by decide), byt_lit (by decide), by decide, by decide⟩
end Go.Proofs.Ytlddbojfikkhfaa
