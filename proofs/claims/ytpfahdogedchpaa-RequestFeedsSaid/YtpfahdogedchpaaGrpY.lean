/- Several texts in one. -/
import Derived.Test.YtpfahdogedchpaaGrpG
import Derived.Test.YtpfahdogedchpaaGrpZf
import Derived.Laws.StructEq
/- The walks of FieldsDecodes and FieldsApplies, over what is asked of the project. -/
namespace Go.Proofs.Ytpfahdogedchpaa.P
set_option linter.unusedVariables false
open Go.RowKit
def FdDec (P : Program) (f : FuncId) : Prop := ∀ (v s : Value) (t : Tb) (b : List Int) (w : World), TbVal w w.heap.size v t → TbWf t → BSl w w.heap.size s b → b.length ≤ 140737488355328 → Calls P f #[v, s] w (FlRes (decFl t b) w)
def FdApl (P : Program) (f : FuncId) : Prop := ∀ (v s : Value) (t : Tb) (b : List Int) (w : World), TbVal w w.heap.size v t → TbWf t → BSl w w.heap.size s b → b.length ≤ 140737488355328 → Calls P f #[v, s] w (TbRes3 (appAll t b) w)
theorem linesR_len (t : Tb) (need : Int) : ∀ (n : Nat) (b : List Int) (out : List Fld), out.length ≤ 8 → (linesR t need n b out).1.length ≤ 8
  | 0, b, out, h => by
    unfold linesR
    split
    · exact h
    · exact Nat.zero_le _
  | n + 1, b, out, h => by
    unfold linesR
    split
    · exact h
    · split
      · exact Nat.zero_le _
      · split
        · exact Nat.zero_le _
        · exact linesR_len t need n _ _ (by simp only [List.length_append, List.length_singleton]; omega)
theorem decFl_len (t : Tb) (b : List Int) : (decFl t b).1.length ≤ 8 := by
  unfold decFl
  split
  · exact Nat.zero_le _
  · split
    · exact Nat.zero_le _
    · split
      · exact Nat.zero_le _
      · split
        · exact Nat.zero_le _
        · split
          · exact Nat.zero_le _
          · exact linesR_len _ _ _ _ _ (Nat.zero_le _)
theorem tbWf0 : TbWf tb0 := ⟨by decide, by decide, by decide, fun x hx => by cases hx⟩
theorem appsR_wf (b : List Int) (hb : Byt b) (hl : b.length ≤ 140737488355328) : ∀ (g : Nat) (t : Tb) (a : Nat), TbWf t → TbWf (appsR g t b a).1
  | 0, t, a, h => h
  | g + 1, t, a, h => by
    unfold appsR
    split
    · exact h
    · split
      · exact h
      · split
        · exact tbWf0
        · exact appsR_wf b hb hl g _ _ (appR_wf h (hb.drop a) (by rw [List.length_drop]; omega))
theorem appAll_wf {t : Tb} {b : List Int} (hw : TbWf t) (hb : Byt b) (hl : b.length ≤ 140737488355328) : TbWf (appAll t b).1 := by
  unfold appAll
  split
  · exact tbWf0
  · exact appsR_wf b hb hl _ _ _ hw
theorem _root_.Go.Proofs.Ytpfahdogedchpaa.P.BSl.onF {w w' : World} {v : Value} {zs : List Int} (h : BSl w w.heap.size v zs) (hb : Below w.heap.size w w') : BSl w' w'.heap.size v zs := (h.below hb).more hb.size
end Go.Proofs.Ytpfahdogedchpaa.P
namespace Go.Proofs.Ytpfahdogedchpaa
set_option linter.unusedVariables false
open Go.RowKit P

end Go.Proofs.Ytpfahdogedchpaa
