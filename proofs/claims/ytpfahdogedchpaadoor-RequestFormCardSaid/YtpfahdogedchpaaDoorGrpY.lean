/- Several texts in one. -/
import Derived.Test.YtpfahdogedchpaaDoorFdP2
import Derived.Test.YtpfahdogedchpaaDoorGrpX
import Derived.Test.YtpfahdogedchpaaDoorGrpG
import Derived.Test.YtpfahdogedchpaaDoorGrpZf
import Derived.Laws.StructEq
/- The project's fields: change. -/
namespace Go.Proofs.YtpfahdogedchpaaDoor.P
set_option linter.unusedVariables false
open Go.RowKit
/-- what the project's change says -/
def chgR (t : Tb) (b : List Int) : Tb × Int × Int :=
  if 64 ≤ b.getD 0 0 ∧ b.getD 0 0 < 96 then (if (pairR b 5).2.2 ≠ 0 then (tb0, 0, (pairR b 5).2.2) else ((insT t (pairR b 5).1).1, (pairR b 5).2.1, (insT t (pairR b 5).1).2))
  else if 32 ≤ b.getD 0 0 ∧ b.getD 0 0 < 64 then (if (pxR b 5).2.2 ≠ 0 then (tb0, 0, (pxR b 5).2.2) else ((resT t (pxR b 5).1).1, (pxR b 5).2.1, (resT t (pxR b 5).1).2))
  else (tb0, 0, 2)
theorem chgR_app (t : Tb) (b : List Int) : (chgR t b).2.2 = (appR t b).2.2 ∧ ((appR t b).2.2 = 0 → chgR t b = appR t b) := by
  unfold chgR appR
  by_cases c1 : 32 ≤ b.getD 0 0 ∧ b.getD 0 0 < 64
  · rw [if_neg (by omega), if_pos c1, if_pos c1]
    by_cases x : (pxR b 5).2.2 ≠ 0
    · rw [if_pos x, if_pos x]; exact ⟨rfl, fun k => absurd k x⟩
    · rw [if_neg x, if_neg x]; exact ⟨rfl, fun _ => rfl⟩
  · rw [if_neg c1, if_neg c1]
    by_cases c2 : 64 ≤ b.getD 0 0 ∧ b.getD 0 0 < 96
    · rw [if_pos c2, if_pos c2]
      unfold pairR
      by_cases x : (pxTR b 5).2.2 ≠ 0
      · rw [if_pos x, if_pos x, if_pos x]; exact ⟨rfl, fun k => absurd k x⟩
      · rw [if_neg x, if_neg x]
        by_cases z : (pxTR (b.drop (pxTR b 5).2.1.toNat) 7).2.2 ≠ 0
        · rw [if_pos z, if_pos z, if_pos z]; exact ⟨rfl, fun k => absurd k z⟩
        · rw [if_neg z, if_neg z, if_neg (fun k => k rfl)]; exact ⟨rfl, fun _ => rfl⟩
    · rw [if_neg c2, if_neg c2]; exact ⟨rfl, fun k => by cases k⟩
theorem pairR_wf {b : List Int} (wi : Int) (hb : Byt b) (hl : b.length ≤ 140737488355328) (h : (pairR b wi).2.2 = 0) : FdWf (pairR b wi).1 := by
  unfold pairR at h ⊢
  by_cases x : (pxTR b wi).2.2 ≠ 0
  · rw [if_pos x] at h; exact absurd h x
  · rw [if_neg x] at h ⊢
    by_cases z : (pxTR (b.drop (pxTR b wi).2.1.toNat) 7).2.2 ≠ 0
    · rw [if_pos z] at h; exact absurd h z
    · rw [if_neg z]
      have h1 := pxTR_wf wi hb
      have h2 := pxTR_wf 7 (hb.drop (pxTR b wi).2.1.toNat)
      rw [List.length_drop] at h2
      exact ⟨h1.1, h2.1, Nat.le_trans h1.2 hl, by simp only; omega⟩
end Go.Proofs.YtpfahdogedchpaaDoor.P
namespace Go.Proofs.YtpfahdogedchpaaDoor
set_option linter.unusedVariables false
open Go.RowKit P

end Go.Proofs.YtpfahdogedchpaaDoor
/- The walks of FieldsDecodes and FieldsApplies, over what is asked of the project. -/
namespace Go.Proofs.YtpfahdogedchpaaDoor.P
set_option linter.unusedVariables false
open Go.RowKit
def FdDec (P : Program) (f : FuncId) : Prop := ∀ (v s : Value) (t : Tb) (b : List Int) (w : World), TbVal w w.heap.size v t → TbWf t → BSl w w.heap.size s b → b.length ≤ 140737488355328 → Calls P f #[v, s] w (FlRes (decFl t b) w)
def FdApl (P : Program) (f : FuncId) : Prop := ∀ (v s : Value) (t : Tb) (b : List Int) (w : World), TbVal w w.heap.size v t → TbWf t → BSl w w.heap.size s b → b.length ≤ 140737488355328 → Calls P f #[v, s] w (TbRes3 (appAll t b) w)
theorem linesR_len (t : Tb) (need : Int) : ∀ (n : Nat) (b : List Int) (out : List Fld), out.length ≤ 8 → (linesR t need n b out).1.length ≤ 8
  | 0, b, out, h => by
    unfold linesR
    split
    · exact h
    · exact Nat.zero_le _
  | n + 1, b, out, h => by
    unfold linesR
    split
    · exact h
    · split
      · exact Nat.zero_le _
      · split
        · exact Nat.zero_le _
        · exact linesR_len t need n _ _ (by simp only [List.length_append, List.length_singleton]; omega)
theorem decFl_len (t : Tb) (b : List Int) : (decFl t b).1.length ≤ 8 := by
  unfold decFl
  split
  · exact Nat.zero_le _
  · split
    · exact Nat.zero_le _
    · split
      · exact Nat.zero_le _
      · split
        · exact Nat.zero_le _
        · split
          · exact Nat.zero_le _
          · exact linesR_len _ _ _ _ _ (Nat.zero_le _)
theorem tbWf0 : TbWf tb0 := ⟨by decide, by decide, by decide, fun x hx => by cases hx⟩
theorem appsR_wf (b : List Int) (hb : Byt b) (hl : b.length ≤ 140737488355328) : ∀ (g : Nat) (t : Tb) (a : Nat), TbWf t → TbWf (appsR g t b a).1
  | 0, t, a, h => h
  | g + 1, t, a, h => by
    unfold appsR
    split
    · exact h
    · split
      · exact h
      · split
        · exact tbWf0
        · exact appsR_wf b hb hl g _ _ (appR_wf h (hb.drop a) (by rw [List.length_drop]; omega))
theorem appAll_wf {t : Tb} {b : List Int} (hw : TbWf t) (hb : Byt b) (hl : b.length ≤ 140737488355328) : TbWf (appAll t b).1 := by
  unfold appAll
  split
  · exact tbWf0
  · exact appsR_wf b hb hl _ _ _ hw
theorem _root_.Go.Proofs.YtpfahdogedchpaaDoor.P.BSl.onF {w w' : World} {v : Value} {zs : List Int} (h : BSl w w.heap.size v zs) (hb : Below w.heap.size w w') : BSl w' w'.heap.size v zs := (h.below hb).more hb.size
end Go.Proofs.YtpfahdogedchpaaDoor.P
namespace Go.Proofs.YtpfahdogedchpaaDoor
set_option linter.unusedVariables false
open Go.RowKit P

end Go.Proofs.YtpfahdogedchpaaDoor
/- The project's fields: Apply. -/
namespace Go.Proofs.YtpfahdogedchpaaDoor.P
set_option linter.unusedVariables false
open Go.RowKit
theorem appsR_chg (g : Nat) (t : Tb) (b : List Int) (a : Nat) (h : ¬ b.length ≤ a) : appsR (g + 1) t b a = if (chgR t (b.drop a)).2.2 = 4 then (t, (a : Int), 0) else if (chgR t (b.drop a)).2.2 ≠ 0 then (tb0, 0, (chgR t (b.drop a)).2.2) else appsR g (chgR t (b.drop a)).1 b (a + (chgR t (b.drop a)).2.1.toNat) := by
  obtain ⟨h1, h2⟩ := chgR_app t (b.drop a)
  rw [appsR, if_neg h, h1]
  by_cases c4 : (appR t (b.drop a)).2.2 = 4
  · rw [if_pos c4, if_pos c4]
  · rw [if_neg c4, if_neg c4]
    by_cases c : (appR t (b.drop a)).2.2 ≠ 0
    · rw [if_pos c, if_pos c]
    · rw [if_neg c, if_neg c, h2 (Decidable.byContradiction c)]
theorem rows_few {t : Tb} (h : faultTb t = 0) : t.rows.length ≤ 8796093022 := by
  have ok := (faultTb_iff t).1 h
  have h4 := wtL_len t.rows
  have h5 := ok.2.2.2.1
  have h6 := ok.1.2
  omega
end Go.Proofs.YtpfahdogedchpaaDoor.P
namespace Go.Proofs.YtpfahdogedchpaaDoor
set_option linter.unusedVariables false
open Go.RowKit P

structure FdQ (w0 : World) (W : World) (A0 SA : Option Addr) (M c0 : Nat) (T T2 : Tb) (A1 : Option Addr) (n1 c1 K : Nat) (r1 p1 k y : Int) (V0 V1 V2 V3 V7 V8 V11 V12 : Value) (tb0 tb1 tb2 tb3 tb4 tb5 tb6 tb7 tb8 tb9 tb10 tb11 tb12 : Bool) (tx0 tx1 tx2 tx3 tx4 tx5 tx6 tx7 tx8 tx9 tx10 tx11 tx12 : Value) (w : World) : Prop where
  be : tb10 = false → Below w0.heap.size w0 w
  d3 : tb3 = true → tb1 = true ∧ tb2 = true
  d4 : tb4 = true → tb0 = true ∧ tb3 = true
  d5 : tb5 = true → tb4 = true
  d6 : tb6 = true → tb5 = true
  d7 : tb7 = true → tb5 = true
  d8 : tb8 = true → tb5 = true
  d10 : tb10 = true → tb0 = true ∧ tb1 = true ∧ tb2 = true ∧ tb3 = true ∧ tb4 = true ∧ tb5 = true ∧ tb6 = true ∧ tb9 = true
  d11 : tb11 = true → tb0 = true ∧ tb1 = true ∧ tb2 = true ∧ tb3 = true ∧ tb4 = true ∧ tb5 = true ∧ tb6 = true ∧ tb7 = true ∧ tb9 = true ∧ tb10 = true
  d12 : tb12 = true → tb0 = true ∧ tb1 = true ∧ tb2 = true ∧ tb3 = true ∧ tb4 = true ∧ tb5 = true ∧ tb6 = true ∧ tb7 = true ∧ tb8 = true ∧ tb9 = true ∧ tb10 = true ∧ tb11 = true
  tk : tb10 = false → TKA W (.cells #[.int .i64 r1, .int .i64 p1, .slice A1 n1 c1] 24 (0, 0)) (.cells #[.int .i64 0, .int .i64 0, .slice none 0 0] 24 (0, 0)) (.agg #[.int .i64 r1, .int .i64 p1, .slice A1 n1 c1]) T w
  t4 : tb4 = true → ∃ u, tx4 = .tuple #[u, .int .i64 k, .int .i64 y]
  t5 : tb5 = true → ∃ u, tx5 = .tuple #[u, .int .i64 k, .int .i64 y]
  h0 : tb0 = true → tx0 = V0
  h1 : tb1 = true → tx1 = V1
  h2 : tb2 = true → tx2 = V2
  h3 : tb3 = true → tx3 = V3
  h4 : tb4 = true → tb10 = false → ∃ u, tx4 = .tuple #[u, .int .i64 k, .int .i64 y] ∧ TbVal w w.heap.size u T2
  h5 : tb5 = true → tb10 = false → ∃ u, tx5 = .tuple #[u, .int .i64 k, .int .i64 y] ∧ TbVal w w.heap.size u T2
  h6 : tb6 = true → tb10 = false → TbVal w w.heap.size tx6 T2
  h7 : tb7 = true → tx7 = V7
  h8 : tb8 = true → tx8 = V8
  h9 : tb9 = true → tb10 = false → ∃ q, tx9 = .pointer (some ⟨q, 0, none⟩) ∧ w0.heap.size ≤ q ∧ w.heap[q]? = some (.cells #[.int .i64 0, .int .i64 0, .slice none 0 0] 24 (0, 0))
  h10 : tb10 = true → ∃ q A n c r p, tx9 = .pointer (some ⟨q, 0, none⟩) ∧ w0.heap.size ≤ q ∧ w.heap[q]? = some (.cells #[.int .i64 r, .int .i64 p, .slice A n c] 24 (0, 0)) ∧ TbVal w w.heap.size (.agg #[.int .i64 r, .int .i64 p, .slice A n c]) T2 ∧ TKA W (.cells #[.int .i64 r1, .int .i64 p1, .slice A1 n1 c1] 24 (0, 0)) (.cells #[.int .i64 0, .int .i64 0, .slice none 0 0] 24 (0, 0)) (.agg #[.int .i64 r1, .int .i64 p1, .slice A1 n1 c1]) T w
  h11 : tb11 = true → tx11 = V11
  h12 : tb12 = true → tx12 = V12
end Go.Proofs.YtpfahdogedchpaaDoor
