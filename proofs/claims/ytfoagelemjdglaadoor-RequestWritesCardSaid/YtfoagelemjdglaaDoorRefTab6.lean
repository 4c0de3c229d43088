/- The document's answers on tables: TableResized. -/
import Derived.Test.YtfoagelemjdglaaDoorRefTab5
import Derived.Test.YtfoagelemjdglaaDoorGrpC
namespace Go.Proofs.YtfoagelemjdglaaDoor
set_option linter.unusedVariables false
open Go.RowKit P

theorem bk3_blk {w : World} {b : Nat} {a0 a1 a2 : Value} {T : TypeId} (h : w.heap[b]? = some (.cells #[a0, a1, a2] T (0, 0))) (v0 v1 v2 : Value) :
    (((w.setCell ⟨b, 0, none⟩ v0).setCell ⟨b, 1, none⟩ v1).setCell ⟨b, 2, none⟩ v2).heap[b]? = some (.cells #[v0, v1, v2] T (0, 0)) ∧ w.grownBy (((w.setCell ⟨b, 0, none⟩ v0).setCell ⟨b, 1, none⟩ v1).setCell ⟨b, 2, none⟩ v2) (some b) := by
  have h0 : (w.setCell ⟨b, 0, none⟩ v0).heap[b]? = some (.cells #[v0, a1, a2] T (0, 0)) := by simpa using bk_set h 0 v0
  have h1 : ((w.setCell ⟨b, 0, none⟩ v0).setCell ⟨b, 1, none⟩ v1).heap[b]? = some (.cells #[v0, v1, a2] T (0, 0)) := by simpa using bk_set h0 1 v1
  exact ⟨by simpa using bk_set h1 2 v2, gr_trans (gr_trans (gr_set _ b 0 v0) (gr_set _ b 1 v1)) (gr_set _ b 2 v2)⟩
structure Res6 (w0 : World) (W : World) (n put : Int) (A : Option Addr) (N c : Nat) (Y : List Fld) (V0 V1 V2 V3 V4 V5 V9 : Value) (b0 b1 b2 b3 b4 b5 b6 b7 b8 b9 : Bool) (x0 x1 x2 x3 x4 x5 x6 x7 x8 x9 : Value) (w : World) : Prop where
  be : b8 = false → Below w0.heap.size w0 w
  d2 : b2 = true → b1 = true
  d4 : b4 = true → b3 = true
  d6 : b6 = true → b4 = true ∧ b5 = true
  d7 : b7 = true → b0 = true ∧ b2 = true ∧ b6 = true
  d8 : b8 = true → b0 = true ∧ b1 = true ∧ b2 = true ∧ b3 = true ∧ b4 = true ∧ b5 = true ∧ b6 = true ∧ b7 = true
  d9 : b9 = true → b0 = true ∧ b1 = true ∧ b2 = true ∧ b3 = true ∧ b4 = true ∧ b5 = true ∧ b6 = true ∧ b7 = true ∧ b8 = true
  h0 : b0 = true → x0 = V0
  h1 : b1 = true → x1 = V1
  h2 : b2 = true → x2 = V2
  h3 : b3 = true → x3 = V3
  h4 : b4 = true → x4 = V4
  h5 : b5 = true → x5 = V5
  h6 : b6 = true → b8 = false → OwnE FdE w w0.heap.size 54 x6 Y
  h7 : b7 = true → b8 = false → ∃ u, x7 = .agg #[.int .i64 n, .int .i64 put, u] ∧ OwnE FdE w w0.heap.size 54 u Y
  h8 : b8 = true → ∃ Aq cq, w.heap[W.heap.size + 1]? = some (.cells #[.int .i64 n, .int .i64 put, .slice Aq Y.length cq] 24 (0, 0)) ∧ FSl w w.heap.size (.slice Aq Y.length cq) Y ∧ Below W.heap.size W w
  h9 : b9 = true → x9 = V9
end Go.Proofs.YtfoagelemjdglaaDoor
