/- Several texts in one. -/
import Derived.Test.YtpfahdogedchpaaGrpZc
import Derived.BigQuiet
import Derived.Laws.StructEq
/- The document's answers on tables: TableInserted. -/
namespace Go.Proofs.Ytpfahdogedchpaa
set_option linter.unusedVariables false
open Go.RowKit P

theorem three_bk (w : World) (a b c : Array Value) (T1 T2 T3 : TypeId) : (((w.alloc (.cells a T1)).alloc (.cells b T2)).alloc (.cells c T3)).heap[w.heap.size]? = some (.cells a T1 (0, 0)) ∧ (((w.alloc (.cells a T1)).alloc (.cells b T2)).alloc (.cells c T3)).heap[w.heap.size + 1]? = some (.cells b T2 (0, 0)) ∧
    (((w.alloc (.cells a T1)).alloc (.cells b T2)).alloc (.cells c T3)).heap[w.heap.size + 2]? = some (.cells c T3 (0, 0)) ∧ Below w.heap.size w (((w.alloc (.cells a T1)).alloc (.cells b T2)).alloc (.cells c T3)) := by
  obtain ⟨h1, h2, h3⟩ := two_bk w a b T1 T2
  have s2 : ((w.alloc (.cells a T1)).alloc (.cells b T2)).heap.size = w.heap.size + 2 := by simp
  have h4 := heap_alloc_new ((w.alloc (.cells a T1)).alloc (.cells b T2)) (.cells c T3)
  rw [s2] at h4
  exact ⟨(Below.heap_alloc _ _ _ (by rw [s2]; omega)).trans h1, (Below.heap_alloc _ _ _ (by rw [s2]; omega)).trans h2, h4, h3.alloc (by rw [s2]; omega) _⟩
structure Ins5 (w0 : World) (W : World) (S1 S2 : ByteArray) (f : Fld) (q : Nat) (room : Int) (bq : Bool) (V0 V2 V3 V4 V5 V6 : Value) (tb0 tb1 tb2 tb3 tb4 tb5 tb6 : Bool) (tx0 tx1 tx2 tx3 tx4 tx5 tx6 : Value) (w : World) : Prop where
  be : Below w0.heap.size w0 w
  d1 : tb1 = true → tb0 = true
  d2 : tb2 = true → tb1 = true
  d4 : tb4 = true → tb3 = true
  d5 : tb5 = true → tb2 = true ∧ tb4 = true
  d6 : tb6 = true → tb2 = true ∧ tb5 = true
  h0 : tb0 = true → tx0 = V0
  h1 : tb1 = true → ∃ k, tx1 = .slice (some ⟨k, 0, none⟩) 1 1 ∧ RowE FdE w w.heap.size (some ⟨k, 0, none⟩) [f]
  h2 : tb2 = true → tx2 = V2
  h3 : tb3 = true → tx3 = V3
  h4 : tb4 = true → tx4 = V4
  h5 : tb5 = true → tx5 = V5
  h6 : tb6 = true → tx6 = V6
structure Ins11 (w0 : World) (W : World) (S1 S2 : ByteArray) (f : Fld) (room put : Int) (A : Option Addr) (N c : Nat) (rows Y : List Fld) (V1 V2 V4 V7 V8 V10 : Value) (b0 b1 b2 b3 b4 b5 b6 b7 b8 b9 b10 b11 : Bool) (x0 x1 x2 x3 x4 x5 x6 x7 x8 x9 x10 x11 : Value) (w : World) : Prop where
  be : b11 = false → Below w0.heap.size w0 w
  d2 : b2 = true → b1 = true
  d3 : b3 = true → b0 = true ∧ b2 = true
  d5 : b5 = true → b4 = true
  d6 : b6 = true → b3 = true ∧ b5 = true
  d8 : b8 = true → b7 = true
  d9 : b9 = true → b6 = true ∧ b8 = true
  d10 : b10 = true → b0 = true ∧ b1 = true ∧ b2 = true ∧ b3 = true ∧ b4 = true ∧ b5 = true ∧ b6 = true ∧ b7 = true ∧ b8 = true ∧ b9 = true
  d11 : b11 = true → b0 = true ∧ b1 = true ∧ b2 = true ∧ b3 = true ∧ b4 = true ∧ b5 = true ∧ b6 = true ∧ b7 = true ∧ b8 = true ∧ b9 = true ∧ b10 = true
  ap : b3 = false → b0 = true → b5 = true → ∀ k, x0.ownBlock = some k → x5.ownBlock ≠ some k
  h0 : b0 = true → b3 = false → OwnE FdE w w0.heap.size 66 x0 []
  h1 : b1 = true → x1 = V1
  h2 : b2 = true → x2 = V2
  h3 : b3 = true → b6 = false → OwnE FdE w w0.heap.size 66 x3 rows
  h4 : b4 = true → x4 = V4
  h5 : b5 = true → b6 = false → ∃ k, x5 = .slice (some ⟨k, 0, none⟩) 1 1 ∧ RowE FdE w w.heap.size (some ⟨k, 0, none⟩) [f]
  h6 : b6 = true → b11 = false → OwnE FdE w w0.heap.size 66 x6 (rows ++ [f])
  h7 : b7 = true → x7 = V7
  h8 : b8 = true → x8 = V8
  h9 : b9 = true → b11 = false → OwnE FdE w w0.heap.size 66 x9 Y
  h10 : b10 = true → x10 = V10
  h11 : b11 = true → ∃ Aq cq, w.heap[W.heap.size]? = some (.cells #[.int .i64 room, .int .i64 put, .slice Aq Y.length cq] 27 (0, 0)) ∧ OwnE FdE w w0.heap.size 66 (.slice Aq Y.length cq) Y ∧ Below W.heap.size W w ∧ w.heap[W.heap.size + 2]? = some (.cells #[.int .i64 0, .int .i64 0, .slice none 0 0] 27 (0, 0))
end Go.Proofs.Ytpfahdogedchpaa
/- The exact texts' sameFields, sameTable: two that read the same are the same. -/
namespace Go.Proofs.Ytpfahdogedchpaa
set_option linter.unusedVariables false
open Go.RowKit P

set_option maxHeartbeats 1000000 in
theorem lsameFd_eq (A A' : Option Addr) (n c c' : Nat) (l : List Fld) (w : World) (h : RowE FdE w w.heap.size A l) (h' : RowE FdE w w.heap.size A' l) (hn : l.length = n) (hm : n ≤ 8796093022208) :
    Calls Try.prog 27 #[.slice A n c, .slice A' n c'] w fun e w' => e = .returned (.bool true) ∧ Below w.heap.size w w' := by
  have HR := Lib.hid h
  have HR' := Lib.hid h'
  have HN := Lib.hid hn
  clear h h' hn
  go_enter Try.func27, Try.ntmps27
  go_wp2_with fail
  go_loopg [5, 6] n (fun gq bv iv wr => ∃ i : Nat, bv = .bool true ∧ iv = .int .i64 i ∧ i + gq = n ∧ Hid (Below w.heap.size w wr))
  case atStart => exact ⟨0, rfl, rfl, by omega, Lib.hid (Below.refl _ _)⟩
  case round =>
    obtain ⟨i, rfl, rfl, hig, BK⟩ := hrel
    by_cases hlt : i < n
    · have hil : i < l.length := by rw [HN.out]; exact hlt
      obtain ⟨b, off, hA, hbl, x0, x1⟩ := fd_cells HR.out hil
      obtain ⟨b', off', hA', hbl', x0', x1'⟩ := fd_cells HR'.out hil
      obtain ⟨y, hy⟩ : ∃ y, l.getD i fd0 = y := ⟨_, rfl⟩
      rw [hy] at x0 x1 x0' x1'
      obtain ⟨S1, hS1⟩ : ∃ S, strOfNums y.name = S := ⟨_, rfl⟩
      obtain ⟨S2, hS2⟩ : ∃ S, strOfNums y.val = S := ⟨_, rfl⟩
      rw [hS1] at x0 x0'
      rw [hS2] at x1 x1'
      subst hA hA'
      have y0 := (BK.out.cell (p := ⟨b, off + i * 2, none⟩) hbl).trans x0
      have y1 := (BK.out.cell (p := ⟨b, off + i * 2 + 1, none⟩) hbl).trans x1
      have y0' := (BK.out.cell (p := ⟨b', off' + i * 2, none⟩) hbl').trans x0'
      have y1' := (BK.out.cell (p := ⟨b', off' + i * 2 + 1, none⟩) hbl').trans x1'
      have hnk : (i : Int) < (n : Int) := by omega
      clear x0 x1 x0' x1' hy hS1 hS2 hil
      go_wp2_with fail
      go_quiet (fail)
      rename_i nq
      have B2 := Lib.hid (Go.below_drewN BK.out nq)
      obtain ⟨w2, hw2⟩ : ∃ w2, wr.drewN nq = w2 := ⟨_, rfl⟩
      rw [hw2] at B2 ⊢
      clear hw2 y0 y1 y0' y1'
      go_wp2_with fail
      go_roundg (gk - 1)
      case measure => omega
      case rel => exact ⟨i + 1, rfl, by first | rfl | go_num, by omega, B2⟩
    · obtain rfl : i = n := by omega
      go_wp2_with fail
      go_ret
      exact ⟨rfl, BK.out⟩
end Go.Proofs.Ytpfahdogedchpaa
/- The walks of TableResizes, TableGets, TableInserts, over what is asked of the project. -/
namespace Go.Proofs.Ytpfahdogedchpaa
set_option linter.unusedVariables false
open Go.RowKit P

def TbSzf (P : Program) (f : FuncId) : Prop := ∀ (x : Fld) (w : World), FdWf x → Calls P f #[fdV x] w fun e w' => e = .returned (.int .i64 (szF x : Int)) ∧ Below w.heap.size w w'
theorem tb_slices {w : World} {B : Nat} {v : Value} {t : Tb} (h : TbVal w B v t) : ∃ A c, v = .agg #[.int .i64 t.room, .int .i64 t.put, .slice A t.rows.length c] := by
  obtain ⟨s, rfl, h1⟩ := h.ex
  obtain ⟨A, c, rfl, _⟩ := h1.ex
  exact ⟨A, c, rfl⟩
theorem resT_len {t : Tb} {n : Int} (hw : TbWf t) : (resT t n).1.rows.length ≤ 8796093022208 := by
  unfold resT
  split
  · simp [tb0]
  · split
    · simp [tb0]
    · obtain ⟨k, h1, h2⟩ := young_suffix n t.rows
      simp only [h2, List.length_drop]
      have := hw.len
      omega
theorem insT_len {t : Tb} {f : Fld} (hw : TbWf t) : (insT t f).1.rows.length ≤ 8796093022208 := by
  unfold insT
  by_cases c : faultTb t ≠ 0
  · rw [if_pos c]; simp [tb0]
  · rw [if_neg c]
    have := ((faultTb_iff t).1 (Decidable.byContradiction c))
    have h4 := wtL_len t.rows
    have h5 := this.2.2.2.1
    have h6 := this.1.2
    split
    · simp [tb0]
    · split
      · simp [tb0]
      · split
        · simp [tb0]
        · obtain ⟨k, h1, h2⟩ := young_suffix t.room (t.rows ++ [f])
          simp only [h2, List.length_drop, List.length_append, List.length_singleton]
          omega
end Go.Proofs.Ytpfahdogedchpaa
