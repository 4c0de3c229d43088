/- The walk of FieldsApplies. -/
import Derived.Test.YtadhdghjlohpcaaFdP6
import Derived.Test.YtadhdghjlohpcaaGrpD
namespace Go.Proofs.Ytadhdghjlohpcaa
set_option linter.unusedVariables false
open Go.RowKit P

theorem in_bslA {w : World} {a : Option Addr} {len cap : Nat} {zs : List Int} (h : InRow w a len cap zs) : BSl w w.heap.size (.slice a len cap) (zs.take len) := by
  obtain ⟨h1, h2, h3, h4⟩ := h.brow
  refine ⟨a, cap, by rw [h2], by omega, h4, ?_, h1⟩
  rintro rfl
  rcases h with ⟨_, _, h, _⟩ | ⟨x, e, _⟩
  · exact h
  · cases e
theorem fieldsApplies_walk (v : Value) (t : Tb) (a : Option Addr) (len cap : Nat) (zs : List Int) (W : World) (hv : TbVal W W.heap.size v t) (hw : TbWf t) (h : InRow W a len cap zs) (hl : cap ≤ 140737488351232) :
    Calls Try.prog 5 #[v, .slice a len cap] W fun e w' => e = .returned (.bool true) ∧ Below W.heap.size W w' :=
  fieldsApplies_core fdapl_any v _ t (zs.take len) W hv hw (in_bslA h) (by obtain ⟨_, h2, h3, _⟩ := h.brow; omega)
end Go.Proofs.Ytadhdghjlohpcaa
