/- The document's answers on ranges: without, RangeCut; and what is refused. -/
import Derived.Test.YtgfbonfoimiknaaRefCuts
namespace Go.Proofs.Ytgfbonfoimiknaa
set_option linter.unusedVariables false
open Go.RowKit P

theorem own_baseR {w : World} {base base' : Nat} {e : TypeId} {v : Value} {qs : List (Int × Int)} (h : OwnR w base e v qs) (hb : base' ≤ base) : OwnR w base' e v qs := by
  refine ⟨h.1, ?_⟩
  rcases h.2 with h0 | ⟨g, cap, cur, h1, h2, h3⟩
  · exact .inl h0
  · exact .inr ⟨g, cap, cur, h1, Nat.le_trans hb h2, h3⟩
/-- the second of two new ranges, behind two blocks more -/
theorem two_cellsW (w : World) (x y z : Obj) (a b c d : Int) (t : TypeId) :
    ((((w.alloc x).alloc (.cells #[.int .i64 a, .int .i64 b, .int .i64 c, .int .i64 d] t)).alloc y).alloc z).cell? ⟨w.heap.size + 1, 2, none⟩ = some (.int .i64 c) ∧
    ((((w.alloc x).alloc (.cells #[.int .i64 a, .int .i64 b, .int .i64 c, .int .i64 d] t)).alloc y).alloc z).cell? ⟨w.heap.size + 1, 3, none⟩ = some (.int .i64 d) := by
  have hs : (w.alloc x).heap.size = w.heap.size + 1 := by simp
  have hh : ((w.alloc x).alloc (.cells #[.int .i64 a, .int .i64 b, .int .i64 c, .int .i64 d] t)).heap[w.heap.size + 1]? = some (.cells #[.int .i64 a, .int .i64 b, .int .i64 c, .int .i64 d] t (0, 0)) := by
    rw [← hs]; exact heap_alloc_new _ _
  have e2 := cell_of_row _ (w.heap.size + 1) 2 _ _ _ hh
  have e3 := cell_of_row _ (w.heap.size + 1) 3 _ _ _ hh
  simp only [List.getElem?_toArray, List.getElem?_cons_succ, List.getElem?_cons_zero] at e2 e3
  refine ⟨?_, ?_⟩
  · rw [World.cell?_alloc_lt _ _ _ (by simp), World.cell?_alloc_lt _ _ _ (by simp)]; exact e2
  · rw [World.cell?_alloc_lt _ _ _ (by simp), World.cell?_alloc_lt _ _ _ (by simp)]; exact e3

end Go.Proofs.Ytgfbonfoimiknaa
