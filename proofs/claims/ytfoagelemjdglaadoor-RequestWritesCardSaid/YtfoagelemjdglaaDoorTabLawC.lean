/- The walks of TableResizes, TableGets, TableInserts, over what is asked of the project. -/
import Derived.Test.YtfoagelemjdglaaDoorRefTab7
import Derived.Test.YtfoagelemjdglaaDoorTabSame
import Derived.Laws.StructEq
namespace Go.Proofs.YtfoagelemjdglaaDoor
set_option linter.unusedVariables false
open Go.RowKit P

def TbSzf (P : Program) (f : FuncId) : Prop := ∀ (x : Fld) (w : World), FdWf x → Calls P f #[fdV x] w fun e w' => e = .returned (.int .i64 (szF x : Int)) ∧ Below w.heap.size w w'
theorem tb_slices {w : World} {B : Nat} {v : Value} {t : Tb} (h : TbVal w B v t) : ∃ A c, v = .agg #[.int .i64 t.room, .int .i64 t.put, .slice A t.rows.length c] := by
  obtain ⟨s, rfl, h1⟩ := h.ex
  obtain ⟨A, c, rfl, _⟩ := h1.ex
  exact ⟨A, c, rfl⟩
theorem resT_len {t : Tb} {n : Int} (hw : TbWf t) : (resT t n).1.rows.length ≤ 8796093022208 := by
  unfold resT
  split
  · simp [tb0]
  · split
    · simp [tb0]
    · obtain ⟨k, h1, h2⟩ := young_suffix n t.rows
      simp only [h2, List.length_drop]
      have := hw.len
      omega
theorem insT_len {t : Tb} {f : Fld} (hw : TbWf t) : (insT t f).1.rows.length ≤ 8796093022208 := by
  unfold insT
  by_cases c : faultTb t ≠ 0
  · rw [if_pos c]; simp [tb0]
  · rw [if_neg c]
    have := ((faultTb_iff t).1 (Decidable.byContradiction c))
    have h4 := wtL_len t.rows
    have h5 := this.2.2.2.1
    have h6 := this.1.2
    split
    · simp [tb0]
    · split
      · simp [tb0]
      · split
        · simp [tb0]
        · obtain ⟨k, h1, h2⟩ := young_suffix t.room (t.rows ++ [f])
          simp only [h2, List.length_drop, List.length_append, List.length_singleton]
          omega
end Go.Proofs.YtfoagelemjdglaaDoor
