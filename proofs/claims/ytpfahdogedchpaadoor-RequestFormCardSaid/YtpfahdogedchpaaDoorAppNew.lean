/- Bytes appended onto a row of the call's own that has no room for them: a new row, and nothing turns. Nothing of the program's. -/
import Derived.Test.YtpfahdogedchpaaDoorGrpU
namespace Go.Proofs.YtpfahdogedchpaaDoor
set_option linter.unusedVariables false
open Go.RowKit P

theorem wrow_app_new {w : World} {base n cap : Nat} {A : Option Addr} {x : Value} {L M : List Int} (tx ty : TypeId) (hS : Src Tryd.prog 1 tx x M.length (M.map (.int .u8)) w) (h : WRow w base 5 (.slice A n cap) L) (hroom : cap < L.length + M.length) (hm : L.length + M.length ≤ 140737488355328) :
    ∃ v' w', (Builtin.append_ #[25, tx] ty #[.slice A n cap, x]).run Tryd.prog w = .ok v' w' ∧ WRow w' w.heap.size 5 v' (L ++ M) ∧ Below w.heap.size w w' ∧ v'.ownBlock = some w.heap.size := by
  obtain ⟨i0, hi0, hz0, hz1, hz2⟩ := info_parts infoB1
  rw [← hz1] at hS
  obtain ⟨g, cap', cur, fz, e, h1, h2, h3, h4, h5, h6, h7⟩ := h
  injection e with e1 e2 e3
  subst e1 e2 e3
  have hr := run_append_grow_src (P := Tryd.prog) w 25 tx ty 5 i0 (.int .u8 0) Tryd.underlying25 hi0 hz0 (some ⟨g, 0, none⟩) L.length cap (L.map (.int .u8)) (by
      exact run_firstCells_some w.drew i0.size L.length ⟨g, 0, none⟩ L.length cap (L.map (.int .u8)) (by rw [hz1]; simp) (by
        intro j u hj
        have hjl : j < L.length := by have := (List.getElem?_eq_some_iff.1 hj).1; simpa using this
        have ha : (⟨g, 0, none⟩ : Addr).add j = ⟨g, j, none⟩ := by rw [Go.WideShapes.add_plain, Nat.zero_add]
        rw [ha, show w.drew.cell? ⟨g, j, none⟩ = w.cell? ⟨g, j, none⟩ from rfl, wrow_cell h2, wrow_at h7 j hjl]
        simp [hjl] at hj
        rw [← hj]
        simp [hjl])) x M.length (M.map (.int .u8)) hS hroom (by omega) (by rw [hz2]; exact growslice_fits (by omega) (by omega))
  have hge := grownCap_ge w (L.length + M.length) cap 5
  have hcm : grownCap w (L.length + M.length) cap 5 ≤ maxLen := grownCap_le_maxLen w _ cap _ (by unfold maxLen; omega)
  refine ⟨_, _, hr, ⟨w.heap.size, _, _, _, by rw [List.length_append], Nat.le_refl _, heap_alloc_new w.drew _, fun i _ k => by have := k.2; simp at this, by rw [List.length_append]; exact hge, hcm, ?_, ?_⟩, ?_, rfl⟩
  · simp only [Array.size_append, List.size_toArray, List.length_append, List.length_map, Builtin.zeroCells]
    simp [Value.cells]
    omega
  · rw [Array.toList_append, ← List.map_append, List.take_append_of_le_length (by simp), List.take_of_length_le (by simp)]
  · exact ((Below.refl w.heap.size w).drew).alloc (Nat.le_refl _) _
/-- the same at an operation of a region that draws its order -/
theorem step_app_new (w : World) {ops : Array Oper} {o : Oper} {a : Act} {K : Act → World → Prop} {Q : Exit → Act → World → Prop} {F : Prop} (hgd : o.guard = none) (sl x : Operand) (tx : TypeId)
    (ho : o.op = .call { callee := .builtin .append, args := #[sl, x], argTypes := #[25, tx] })
    (base n cap : Nat) (A : Option Addr) (y : Value) (L M : List Int) (hs : a.eval sl = .slice A n cap) (hx : a.eval x = y) (hS : Src Tryd.prog 1 tx y M.length (M.map (.int .u8)) w) (hW : WRow w base 5 (.slice A n cap) L) (hroom : cap < L.length + M.length) (hm : L.length + M.length ≤ 140737488355328)
    (h : ∀ v' w', WRow w' w.heap.size 5 v' (L ++ M) → Below w.heap.size w w' → v'.ownBlock = some w.heap.size → K (a.put o.dst v') w') :
    if Region.wanted o (yielded ops a.tmps) = true then Oper.wp Tryd.prog o a w K Q else F := by
  have hw : Region.wanted o (yielded ops a.tmps) = true := by simp [Region.wanted, hgd]
  rw [if_pos hw]
  obtain ⟨v', w', hr, h2, h3, h4⟩ := wrow_app_new tx o.type hS hW hroom hm
  unfold Oper.wp execOp
  simp only [ho, resolve, invoke, builtin, Sem.run_bind, Sem.run_pure, Result.andThen_ok, List.map_toArray, List.map_cons, List.map_nil, hs, hx, hr]
  exact h v' w' h2 h3 h4
theorem wrow_zero (w : World) : WRow (w.alloc (.cells #[] 5)) w.heap.size 5 (.slice (some ⟨w.heap.size, 0, none⟩) 0 0) [] :=
  ⟨w.heap.size, 0, #[], (0, 0), rfl, Nat.le_refl _, heap_alloc_new w _, fun i h => by omega, Nat.le_refl _, by unfold maxLen; omega, rfl, rfl⟩
theorem wrow_three (w : World) (a b c : Int) : WRow (w.alloc (.cells #[.int .u8 a, .int .u8 b, .int .u8 c] 5)) w.heap.size 5 (.slice (some ⟨w.heap.size, 0, none⟩) 3 3) [a, b, c] :=
  ⟨w.heap.size, 3, _, (0, 0), rfl, Nat.le_refl _, heap_alloc_new w _, fun i _ k => by have := k.2; simp at this, Nat.le_refl _, by unfold maxLen; omega, rfl, rfl⟩
end Go.Proofs.YtpfahdogedchpaaDoor
