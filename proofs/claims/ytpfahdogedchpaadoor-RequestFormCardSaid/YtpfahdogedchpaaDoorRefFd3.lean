/- The document's answers on fields: lineOf. -/
import Derived.Test.YtpfahdogedchpaaDoorGrpF
import Derived.Test.YtpfahdogedchpaaDoorGrpZf
namespace Go.Proofs.YtpfahdogedchpaaDoor.P
set_option linter.unusedVariables false
theorem knR_in {b : List Int} {w : Int} (hb : Byt b) (h : (knR b w).2.2 = 0) : 0 ≤ (knR b w).2.1 ∧ (knR b w).2.1 ≤ b.length := by
  unfold knR at h ⊢
  by_cases c : (pxR b w).2.2 ≠ 0
  · rw [if_pos c] at h; exact absurd h c
  · rw [if_neg c] at h ⊢
    by_cases d : 10 < (pxR b w).1
    · rw [if_pos d] at h; cases h
    · rw [if_neg d]
      have := pxR_in (fun j => (hb j).1) (Decidable.byContradiction c)
      simp only
      omega
theorem knR_err {b : List Int} {w : Int} (h : (knR b w).2.2 ≠ 0) : (knR b w).1 = fd0 ∧ (knR b w).2.1 = 0 := by
  unfold knR at h ⊢
  by_cases c : (pxR b w).2.2 ≠ 0
  · rw [if_pos c]; exact ⟨rfl, rfl⟩
  · rw [if_neg c] at h ⊢
    by_cases d : 10 < (pxR b w).1
    · rw [if_pos d]; exact ⟨rfl, rfl⟩
    · rw [if_neg d] at h; exact absurd rfl h
theorem pxTR_in {b : List Int} {w : Int} (hb : Byt b) : 0 ≤ (pxTR b w).2.1 ∧ (pxTR b w).2.1 ≤ b.length ∧ ((pxTR b w).2.2 ≠ 0 → (pxTR b w).1 = [] ∧ (pxTR b w).2.1 = 0) := by
  unfold pxTR
  by_cases c : (pxR b w).2.2 ≠ 0
  · rw [if_pos c]; exact ⟨Int.le_refl _, by simp only; omega, fun _ => ⟨rfl, rfl⟩⟩
  · rw [if_neg c]
    by_cases d : 120 < (pxR b w).1
    · rw [if_pos d]; exact ⟨Int.le_refl _, by simp only; omega, fun _ => ⟨rfl, rfl⟩⟩
    · rw [if_neg d]
      by_cases e : (b.length : Int) < (pxR b w).2.1 + (pxR b w).1
      · rw [if_pos e]; exact ⟨Int.le_refl _, by simp only; omega, fun _ => ⟨rfl, rfl⟩⟩
      · rw [if_neg e]
        have := pxR_in (fun j => (hb j).1) (Decidable.byContradiction c)
        exact ⟨by simp only; omega, by simp only; omega, fun h => absurd rfl h⟩
end Go.Proofs.YtpfahdogedchpaaDoor.P
namespace Go.Proofs.YtpfahdogedchpaaDoor
set_option linter.unusedVariables false
open Go.RowKit P

theorem tb_slicesR {w : World} {B : Nat} {v : Value} {t : Tb} (h : TbVal w B v t) : ∃ A c, v = .agg #[.int .i64 t.room, .int .i64 t.put, .slice A t.rows.length c] := by
  obtain ⟨s, rfl, h1⟩ := h.ex
  obtain ⟨A, c, rfl, _⟩ := h1.ex
  exact ⟨A, c, rfl⟩
theorem bk2_blkR {w : World} {b : Nat} {a0 a1 : Value} {T : TypeId} (h : w.heap[b]? = some (.cells #[a0, a1] T (0, 0))) (v0 v1 : Value) :
    ((w.setCell ⟨b, 0, none⟩ v0).setCell ⟨b, 1, none⟩ v1).heap[b]? = some (.cells #[v0, v1] T (0, 0)) := by
  have h0 : (w.setCell ⟨b, 0, none⟩ v0).heap[b]? = some (.cells #[v0, a1] T (0, 0)) := by simpa using bk_set h 0 v0
  simpa using bk_set h0 1 v1
end Go.Proofs.YtpfahdogedchpaaDoor
