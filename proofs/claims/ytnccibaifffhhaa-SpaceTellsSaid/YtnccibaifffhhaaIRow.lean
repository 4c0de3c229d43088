/- Numbers that came in, as a row that reads. Nothing of the program's. -/
import Derived.Test.YtnccibaifffhhaaGrpA
namespace Go.Proofs.Ytnccibaifffhhaa.P
set_option linter.unusedVariables false
open Go.RowKit
/-- numbers that came in -/
structure IRowN (w : World) (A : Option Addr) (m : Nat) (zs : List Int) : Prop where
  cells : 0 < m → ∃ b off, A = some ⟨b, off, none⟩ ∧ b < w.heap.size ∧ ∀ j, j < m → w.cell? ⟨b, off + j, none⟩ = some (.int .i64 (zs.getD j 0))
  bd : ∀ j, -9223372036854775808 ≤ zs.getD j 0 ∧ zs.getD j 0 ≤ 9223372036854775807
theorem IRowN.of {w : World} {A : Option Addr} {len cap : Nat} {zs : List Int} (h : IsRow .i64 w A len cap zs) : IRowN w A len zs ∧ len ≤ cap ∧ cap ≤ maxLen := by
  rcases h with ⟨rfl, rfl, rfl, rfl⟩ | ⟨x, rfl, hl, hm, hz, hc, hw⟩
  · exact ⟨⟨fun h => absurd h (by omega), fun j => by simp⟩, Nat.le_refl _, by unfold maxLen; omega⟩
  · refine ⟨⟨fun h0 => ?_, fun j => ?_⟩, hl, hm⟩
    · have c0 := hc 0 (by omega)
      have hsp := World.cell?_spot c0
      obtain ⟨b, off, sp⟩ := x
      have hsp' : sp = none := by simpa [Addr.add] using hsp
      subst hsp'
      have hb := World.block_lt_of_cell? w _ c0
      refine ⟨b, off, rfl, by simpa [Addr.add] using hb, fun j hj => ?_⟩
      have := hc j (by omega)
      rw [Go.WideShapes.add_plain] at this
      exact this
    · by_cases hj : j < zs.length
      · exact bounds_i64 (hw (zs.getD j 0) (by rw [List.getD_eq_getElem?_getD, List.getElem?_eq_getElem hj]; exact List.getElem_mem hj))
      · rw [List.getD_eq_getElem?_getD, List.getElem?_eq_none (by omega)]
        exact ⟨by decide, by decide⟩
end Go.Proofs.Ytnccibaifffhhaa.P
