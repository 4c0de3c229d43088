/- Several texts in one. -/
import Derived.Test.YtpfahdogedchpaaDoorRefFd3
/- The document's answers on fields: FieldsOf. -/
namespace Go.Proofs.YtpfahdogedchpaaDoor.P
set_option linter.unusedVariables false
open Go.RowKit
theorem pxTR_wf {b : List Int} (w : Int) (hb : Byt b) : Byt (pxTR b w).1 ∧ (pxTR b w).1.length ≤ b.length := by
  unfold pxTR
  split
  · exact ⟨Byt.nil, Nat.zero_le _⟩
  · split
    · exact ⟨Byt.nil, Nat.zero_le _⟩
    · split
      · exact ⟨Byt.nil, Nat.zero_le _⟩
      · exact ⟨(hb.drop _).take _, by simp only [List.length_take, List.length_drop]; omega⟩
theorem knL_getD_wf (j : Nat) : FdWf (knL.getD j fd0) := by
  rw [List.getD_eq_getElem?_getD]
  rcases Nat.lt_or_ge j knL.length with q | q
  · rw [List.getElem?_eq_getElem q]; exact knL_wf _ (List.getElem_mem q)
  · rw [List.getElem?_eq_none q]; exact fdWf0
theorem knR_wf (b : List Int) (w : Int) : FdWf (knR b w).1 := by
  unfold knR
  split
  · exact fdWf0
  · split
    · exact fdWf0
    · exact knL_getD_wf _
theorem lineR_wf {t : Tb} (hw : TbWf t) (need : Int) {b : List Int} (hb : Byt b) (hl : b.length ≤ 140737488355328) : FdWf (lineR t need b).1 := by
  have hv (k : Nat) := pxTR_wf 7 (hb.drop k)
  have hd (k : Nat) : (b.drop k).length ≤ 140737488355328 := by rw [List.length_drop]; omega
  unfold lineR
  split
  · exact knR_wf _ _
  · split
    · split
      · exact fdWf0
      · split
        · exact fdWf0
        · unfold getT
          split
          · exact fdWf0
          · split
            · exact fdWf0
            · split
              · exact fdWf0
              · rw [List.getD_eq_getElem?_getD]
                rcases Nat.lt_or_ge (t.rows.length - (t.put - (need - 1 - (pxR b 6).1)).toNat) t.rows.length with q | q
                · simp only [List.getElem?_eq_getElem q]; exact hw.rows _ (List.getElem_mem q)
                · simp only [List.getElem?_eq_none q]; exact fdWf0
    · split
      · split
        · exact fdWf0
        · have h1 := knR_wf b 4
          exact ⟨h1.1, (hv _).1, h1.2.2.1, Nat.le_trans (hv _).2 (hd _)⟩
      · split
        · split
          · exact fdWf0
          · have h1 := pxTR_wf 3 hb
            exact ⟨h1.1, (hv _).1, Nat.le_trans h1.2 hl, Nat.le_trans (hv _).2 (hd _)⟩
        · exact fdWf0
theorem lineR_in {t : Tb} {need : Int} {b : List Int} (hb : Byt b) (h : (lineR t need b).2.2 = 0) : 0 ≤ (lineR t need b).2.1 ∧ (lineR t need b).2.1 ≤ b.length := by
  have hv (k : Nat) := pxTR_in (w := 7) (hb.drop k)
  unfold lineR at h ⊢
  by_cases c1 : 192 ≤ b.getD 0 0
  · rw [if_pos c1] at h ⊢
    exact knR_in hb h
  · rw [if_neg c1] at h ⊢
    by_cases c2 : 128 ≤ b.getD 0 0
    · rw [if_pos c2] at h ⊢
      by_cases x : (pxR b 6).2.2 ≠ 0
      · rw [if_pos x] at h; exact absurd h x
      · rw [if_neg x] at h ⊢
        have := pxR_in (fun j => (hb j).1) (Decidable.byContradiction x)
        by_cases y : need ≤ (pxR b 6).1
        · rw [if_pos y] at h; cases h
        · rw [if_neg y]
          simp only
          omega
    · rw [if_neg c2] at h ⊢
      by_cases c3 : 64 ≤ b.getD 0 0 ∧ b.getD 0 0 < 80
      · rw [if_pos c3] at h ⊢
        by_cases x : (knR b 4).2.2 ≠ 0
        · rw [if_pos x] at h; exact absurd h x
        · rw [if_neg x] at h ⊢
          have h1 := knR_in hb (Decidable.byContradiction x)
          have h2 := hv (knR b 4).2.1.toNat
          rw [List.length_drop] at h2
          simp only
          omega
      · rw [if_neg c3] at h ⊢
        by_cases c4 : 32 ≤ b.getD 0 0 ∧ b.getD 0 0 < 40
        · rw [if_pos c4] at h ⊢
          by_cases x : (pxTR b 3).2.2 ≠ 0
          · rw [if_pos x] at h; exact absurd h x
          · rw [if_neg x] at h ⊢
            have h1 := pxTR_in (w := 3) hb
            have h2 := hv (pxTR b 3).2.1.toNat
            rw [List.length_drop] at h2
            simp only
            omega
        · rw [if_neg c4] at h; cases h
/-- what an answer of fields is: a row and an error -/
def FlRes (r : List Fld × Int) (w : World) (e : Ending) (w' : World) : Prop := Below w.heap.size w w' ∧ ∃ v, e = .returned (.tuple #[v, .int .i64 r.2]) ∧ FSl w' w'.heap.size v r.1
/-- the table in its box, old memory as it was -/
structure TKF (W : World) (o : Obj) (w : World) : Prop where
  t : w.heap[W.heap.size]? = some o
  b : Below W.heap.size W w
theorem TKF.later {W : World} {o : Obj} {w w' : World} (h : TKF W o w) (b : Below w.heap.size w w') : TKF W o w' := ⟨(b.block _ (lt_of_block h.t)).trans h.t, h.b.trans (b.mono h.b.size)⟩
theorem TKF.gr {W : World} {o : Obj} {w w' : World} {r : Option Nat} (h : TKF W o w) (g : w.grownBy w' r) (hr : ∀ k, r = some k → W.heap.size + 1 ≤ k) : TKF W o w' :=
  ⟨(g.block _ (lt_of_block h.t) (fun e => by have := hr _ e.symm; omega)).trans h.t, h.b.grown g h.b.size (fun k e => by have := hr _ e; omega)⟩
theorem ready_ne4 {l : List Nat} (h : l.isEmpty = false) : l ≠ [] := by
  intro e
  rw [e] at h
  cases h
end Go.Proofs.YtpfahdogedchpaaDoor.P
namespace Go.Proofs.YtpfahdogedchpaaDoor
set_option linter.unusedVariables false
open Go.RowKit P

structure Fd4 (w0 : World) (W : World) (S S1 S2 X : ByteArray) (f : Fld) (out : List Fld) (room put : Int) (At A : Option Addr) (Nt ct n c K : Nat) (V0 V1 V4 V5 V6 V8 : Value) (tb0 tb1 tb2 tb3 tb4 tb5 tb6 tb7 tb8 : Bool) (tx0 tx1 tx2 tx3 tx4 tx5 tx6 tx7 tx8 : Value) (w : World) : Prop where
  be : tb3 = false → Below w0.heap.size w0 w
  d2 : tb2 = true → tb1 = true
  d3 : tb3 = true → tb0 = true ∧ tb2 = true
  d6 : tb6 = true → tb4 = true ∧ tb5 = true
  d7 : tb7 = true → tb0 = true ∧ tb1 = true ∧ tb2 = true ∧ tb3 = true
  d8 : tb8 = true → tb0 = true ∧ tb1 = true ∧ tb2 = true ∧ tb3 = true ∧ tb4 = true ∧ tb5 = true ∧ tb6 = true ∧ tb7 = true
  tk : TKF W (.cells #[.int .i64 room, .int .i64 put, .slice At Nt ct] 24 (0, 0)) w
  oa : tb3 = false → OwnE FdE w (W.heap.size + 1) 54 (.slice A n c) out
  sa : tb7 = false → tx7 = .slice A n c
  sb : tb8 = false → tx8 = .string S
  h0 : tb0 = true → tx0 = V0
  h1 : tb1 = true → tx1 = V1
  h2 : tb2 = true → tb3 = false → ∃ k, tx2 = .slice (some ⟨k, 0, none⟩) 1 1 ∧ RowE FdE w w.heap.size (some ⟨k, 0, none⟩) [f]
  h3 : tb3 = true → OwnE FdE w (W.heap.size + 1) 54 tx3 (out ++ [f])
  h4 : tb4 = true → tx4 = V4
  h5 : tb5 = true → tx5 = V5
  h6 : tb6 = true → tx6 = V6
  h7 : tb7 = true → tx7 = tx3
  h8 : tb8 = true → tx8 = V8
end Go.Proofs.YtpfahdogedchpaaDoor
/- The document's answers on fields: applied. -/
namespace Go.Proofs.YtpfahdogedchpaaDoor.P
set_option linter.unusedVariables false
open Go.RowKit
/-- one step of what is told ahead: (table, how many bytes, error), by P15.5 -/
def appR (t : Tb) (b : List Int) : Tb × Int × Int :=
  if 32 ≤ b.getD 0 0 ∧ b.getD 0 0 < 64 then (if (pxR b 5).2.2 ≠ 0 then (t, 0, (pxR b 5).2.2) else ((resT t (pxR b 5).1).1, (pxR b 5).2.1, (resT t (pxR b 5).1).2))
  else if 64 ≤ b.getD 0 0 ∧ b.getD 0 0 < 96 then (if (pxTR b 5).2.2 ≠ 0 then (t, 0, (pxTR b 5).2.2) else if (pxTR (b.drop (pxTR b 5).2.1.toNat) 7).2.2 ≠ 0 then (t, 0, (pxTR (b.drop (pxTR b 5).2.1.toNat) 7).2.2) else ((insT t ⟨(pxTR b 5).1, (pxTR (b.drop (pxTR b 5).2.1.toNat) 7).1⟩).1, (pxTR b 5).2.1 + (pxTR (b.drop (pxTR b 5).2.1.toNat) 7).2.1, (insT t ⟨(pxTR b 5).1, (pxTR (b.drop (pxTR b 5).2.1.toNat) 7).1⟩).2))
  else (t, 0, 2)
/-- an answer: a table, a number and an error -/
def TbRes3 (r : Tb × Int × Int) (w : World) (e : Ending) (w' : World) : Prop := Below w.heap.size w w' ∧ ∃ v, e = .returned (.tuple #[v, .int .i64 r.2.1, .int .i64 r.2.2]) ∧ TbVal w' w'.heap.size v r.1
/-- a row of fields lies in no block that holds a table: what is put there leaves it as it was -/
theorem FSl.gr {w w' : World} {B : Nat} {v : Value} {l : List Fld} {k : Nat} {a0 a1 : Int} {p : Option Addr} {n c : Nat} {T : TypeId} (h : FSl w B v l) (hk : w.heap[k]? = some (.cells #[.int .i64 a0, .int .i64 a1, .slice p n c] T (0, 0))) (g : w.grownBy w' (some k)) : FSl w' B v l := by
  obtain ⟨A, cp, e, h1, h2, h3⟩ := h.ex
  refine ⟨A, cp, e, h1, h2, fun hn => ?_⟩
  obtain ⟨b, off, e', hb, hc⟩ := h3 hn
  refine ⟨b, off, e', hb, fun j u hj => g.cell (hc j u hj) ?_⟩
  intro q
  cases q
  have := RowE.at hc 0 0 hn (by decide)
  rw [bk_cell hk] at this
  generalize off + (0 * FdE.k + 0) = o at this
  rcases o with _ | _ | _ | o
  · cases this
  · cases this
  · cases this
  · cases this
theorem TbVal.gr {w w' : World} {B : Nat} {v : Value} {t : Tb} {k : Nat} {a0 a1 : Int} {p : Option Addr} {n c : Nat} {T : TypeId} (h : TbVal w B v t) (hk : w.heap[k]? = some (.cells #[.int .i64 a0, .int .i64 a1, .slice p n c] T (0, 0))) (g : w.grownBy w' (some k)) : TbVal w' B v t := by
  obtain ⟨s, e, h1⟩ := h.ex
  exact ⟨s, e, h1.gr hk g⟩
theorem TbVal.more {w : World} {B B' : Nat} {v : Value} {t : Tb} (h : TbVal w B v t) (hB : B ≤ B') : TbVal w B' v t := by
  obtain ⟨s, e, h1⟩ := h.ex
  exact ⟨s, e, h1.more hB⟩
theorem tb_partsR {w : World} {B : Nat} {v : Value} {t : Tb} (h : TbVal w B v t) : ∃ A n c room put, v = .agg #[.int .i64 room, .int .i64 put, .slice A n c] ∧ TbVal w B (.agg #[.int .i64 room, .int .i64 put, .slice A n c]) t := by
  obtain ⟨s, rfl, h1⟩ := h.ex
  obtain ⟨A, c, rfl, h2⟩ := h1.ex
  exact ⟨A, t.rows.length, c, t.room, t.put, rfl, ⟨_, rfl, ⟨A, c, rfl, h2⟩⟩⟩
end Go.Proofs.YtpfahdogedchpaaDoor.P
namespace Go.Proofs.YtpfahdogedchpaaDoor
set_option linter.unusedVariables false
open Go.RowKit P

end Go.Proofs.YtpfahdogedchpaaDoor
/- The document's answers on fields: Applied. -/
namespace Go.Proofs.YtpfahdogedchpaaDoor.P
set_option linter.unusedVariables false
open Go.RowKit
theorem pxTR_pos {b : List Int} {w : Int} (hb : Byt b) (h : (pxTR b w).2.2 = 0) : 1 ≤ (pxTR b w).2.1 := by
  unfold pxTR at h ⊢
  by_cases c : (pxR b w).2.2 ≠ 0
  · rw [if_pos c] at h; exact absurd h c
  · rw [if_neg c] at h ⊢
    have i := pxR_in (fun j => (hb j).1) (Decidable.byContradiction c)
    by_cases d : 120 < (pxR b w).1
    · rw [if_pos d] at h; cases h
    · rw [if_neg d] at h ⊢
      by_cases e : (b.length : Int) < (pxR b w).2.1 + (pxR b w).1
      · rw [if_pos e] at h; cases h
      · rw [if_neg e]
        simp only
        omega
/-- a step that is done takes bytes that are there -/
theorem appR_in {t : Tb} {b : List Int} (hb : Byt b) (h : (appR t b).2.2 = 0) : 1 ≤ (appR t b).2.1 ∧ (appR t b).2.1 ≤ b.length := by
  unfold appR at h ⊢
  by_cases c1 : 32 ≤ b.getD 0 0 ∧ b.getD 0 0 < 64
  · rw [if_pos c1] at h ⊢
    by_cases x : (pxR b 5).2.2 ≠ 0
    · rw [if_pos x] at h; exact absurd h x
    · rw [if_neg x]
      have i := pxR_in (fun j => (hb j).1) (Decidable.byContradiction x)
      exact ⟨i.2.2.1, i.2.2.2.2⟩
  · rw [if_neg c1] at h ⊢
    by_cases c2 : 64 ≤ b.getD 0 0 ∧ b.getD 0 0 < 96
    · rw [if_pos c2] at h ⊢
      by_cases x : (pxTR b 5).2.2 ≠ 0
      · rw [if_pos x] at h; exact absurd h x
      · rw [if_neg x] at h ⊢
        have h1 := pxTR_in (w := 5) hb
        have h1' := pxTR_pos hb (Decidable.byContradiction x)
        have h2 := pxTR_in (w := 7) (hb.drop (pxTR b 5).2.1.toNat)
        rw [List.length_drop] at h2
        by_cases y : (pxTR (b.drop (pxTR b 5).2.1.toNat) 7).2.2 ≠ 0
        · rw [if_pos y] at h; exact absurd h y
        · rw [if_neg y]
          simp only
          omega
    · rw [if_neg c2] at h; cases h
theorem resT_wf {t : Tb} {n : Int} (hw : TbWf t) : TbWf (resT t n).1 := by
  have hz : TbWf tb0 := ⟨by decide, by decide, by decide, fun x hx => by cases hx⟩
  unfold resT
  split
  · exact hz
  · split
    · exact hz
    · obtain ⟨k, h1, h2⟩ := young_suffix n t.rows
      refine ⟨by simp only; omega, hw.put, ?_, fun x hx => ?_⟩
      · simp only [h2, List.length_drop]; have := hw.len; omega
      · simp only [h2] at hx; exact hw.rows x (List.mem_of_mem_drop hx)
theorem insT_wf {t : Tb} {f : Fld} (hw : TbWf t) (hf : FdWf f) : TbWf (insT t f).1 := by
  have hz : TbWf tb0 := ⟨by decide, by decide, by decide, fun x hx => by cases hx⟩
  unfold insT
  by_cases c : faultTb t ≠ 0
  · rw [if_pos c]; exact hz
  · rw [if_neg c]
    have ok := ((faultTb_iff t).1 (Decidable.byContradiction c))
    have h4 := wtL_len t.rows
    have h5 := ok.2.2.2.1
    have h6 := ok.1.2
    have h7 := ok.2.1
    split
    · exact hz
    · split
      · exact hz
      · split
        · exact hz
        · obtain ⟨k, h1, h2⟩ := young_suffix t.room (t.rows ++ [f])
          refine ⟨hw.room, by simp only; omega, ?_, fun x hx => ?_⟩
          · simp only [h2, List.length_drop, List.length_append, List.length_singleton]; omega
          · simp only [h2] at hx
            rcases List.mem_append.1 (List.mem_of_mem_drop hx) with q | q
            · exact hw.rows x q
            · rw [List.mem_singleton.1 q]; exact hf
theorem appR_wf {t : Tb} {b : List Int} (hw : TbWf t) (hb : Byt b) (hl : b.length ≤ 140737488355328) : TbWf (appR t b).1 := by
  unfold appR
  split
  · split
    · exact hw
    · exact resT_wf hw
  · split
    · split
      · exact hw
      · split
        · exact hw
        · have h1 := pxTR_wf 5 hb
          have h2 := pxTR_wf 7 (hb.drop (pxTR b 5).2.1.toNat)
          rw [List.length_drop] at h2
          exact insT_wf hw ⟨h1.1, h2.1, Nat.le_trans h1.2 hl, by simp only; omega⟩
    · exact hw
/-- all that is told ahead, from a place on -/
def appsR : Nat → Tb → List Int → Nat → Tb × Int × Int
  | 0, t, b, a => (t, (a : Int), 0)
  | g + 1, t, b, a => if b.length ≤ a then (t, (a : Int), 0) else if (appR t (b.drop a)).2.2 = 4 then (t, (a : Int), 0) else if (appR t (b.drop a)).2.2 ≠ 0 then (tb0, 0, (appR t (b.drop a)).2.2) else appsR g (appR t (b.drop a)).1 b (a + (appR t (b.drop a)).2.1.toNat)
/-- what Apply says, by P15.5 -/
def appAll (t : Tb) (b : List Int) : Tb × Int × Int := if faultTb t ≠ 0 then (tb0, 0, faultTb t) else appsR (b.length + 1) t b 0
/-- a table and an answer in their boxes, old memory as it was -/
structure TKA (W : World) (oZ oY : Obj) (v : Value) (t : Tb) (w : World) : Prop where
  z : w.heap[W.heap.size]? = some oZ
  y : w.heap[W.heap.size + 1]? = some oY
  b : Below W.heap.size W w
  v : TbVal w w.heap.size v t
theorem TKA.later {W : World} {oZ oY : Obj} {v : Value} {t : Tb} {w w' : World} (h : TKA W oZ oY v t w) (b : Below w.heap.size w w') : TKA W oZ oY v t w' :=
  ⟨(b.block _ (lt_of_block h.z)).trans h.z, (b.block _ (lt_of_block h.y)).trans h.y, h.b.trans (b.mono h.b.size), h.v.on b⟩
theorem TKA.put {W : World} {oZ oY : Obj} {v : Value} {t : Tb} {w w' : World} {q : Nat} {a0 a1 : Int} {p : Option Addr} {n c : Nat} {T : TypeId} (h : TKA W oZ oY v t w) (hk : w.heap[q]? = some (.cells #[.int .i64 a0, .int .i64 a1, .slice p n c] T (0, 0))) (g : w.grownBy w' (some q)) (hq : W.heap.size + 2 ≤ q) : TKA W oZ oY v t w' :=
  ⟨(g.block _ (lt_of_block h.z) (by simp; omega)).trans h.z, (g.block _ (lt_of_block h.y) (by simp; omega)).trans h.y, h.b.grown g h.b.size (fun k e => by cases e; omega), (h.v.gr hk g).more g.size⟩
/-- another table is put into the first box -/
theorem TKA.set {W : World} {oY : Obj} {v v' : Value} {t t' : Tb} {w w' : World} {a0 a1 : Int} {p : Option Addr} {n c : Nat} {T : TypeId} {oZ' : Obj} (h : TKA W (.cells #[.int .i64 a0, .int .i64 a1, .slice p n c] T (0, 0)) oY v t w) (hz : w'.heap[W.heap.size]? = some oZ') (g : w.grownBy w' (some W.heap.size)) (hv : TbVal w w.heap.size v' t') : TKA W oZ' oY v' t' w' :=
  ⟨hz, (g.block _ (lt_of_block h.y) (by simp)).trans h.y, h.b.grown g h.b.size (fun k e => by cases e; exact Nat.le_refl _), (hv.gr h.z g).more g.size⟩
end Go.Proofs.YtpfahdogedchpaaDoor.P
namespace Go.Proofs.YtpfahdogedchpaaDoor
set_option linter.unusedVariables false
open Go.RowKit P

structure Fd6 (w0 : World) (W : World) (S X : ByteArray) (T T2 : Tb) (A1 : Option Addr) (n1 c1 K : Nat) (r1 p1 k y : Int) (V0 V1 V2 V3 V7 V8 V11 V12 : Value) (tb0 tb1 tb2 tb3 tb4 tb5 tb6 tb7 tb8 tb9 tb10 tb11 tb12 : Bool) (tx0 tx1 tx2 tx3 tx4 tx5 tx6 tx7 tx8 tx9 tx10 tx11 tx12 : Value) (w : World) : Prop where
  be : tb10 = false → Below w0.heap.size w0 w
  d3 : tb3 = true → tb1 = true ∧ tb2 = true
  d4 : tb4 = true → tb0 = true ∧ tb3 = true
  d5 : tb5 = true → tb4 = true
  d6 : tb6 = true → tb5 = true
  d7 : tb7 = true → tb5 = true
  d8 : tb8 = true → tb5 = true
  d10 : tb10 = true → tb0 = true ∧ tb1 = true ∧ tb2 = true ∧ tb3 = true ∧ tb4 = true ∧ tb5 = true ∧ tb6 = true ∧ tb9 = true
  d11 : tb11 = true → tb0 = true ∧ tb1 = true ∧ tb2 = true ∧ tb3 = true ∧ tb4 = true ∧ tb5 = true ∧ tb6 = true ∧ tb7 = true ∧ tb9 = true ∧ tb10 = true
  d12 : tb12 = true → tb0 = true ∧ tb1 = true ∧ tb2 = true ∧ tb3 = true ∧ tb4 = true ∧ tb5 = true ∧ tb6 = true ∧ tb7 = true ∧ tb8 = true ∧ tb9 = true ∧ tb10 = true ∧ tb11 = true
  tk : tb10 = false → TKA W (.cells #[.int .i64 r1, .int .i64 p1, .slice A1 n1 c1] 24 (0, 0)) (.cells #[.int .i64 0, .int .i64 0, .slice none 0 0] 24 (0, 0)) (.agg #[.int .i64 r1, .int .i64 p1, .slice A1 n1 c1]) T w
  t4 : tb4 = true → ∃ u, tx4 = .tuple #[u, .int .i64 k, .int .i64 y]
  t5 : tb5 = true → ∃ u, tx5 = .tuple #[u, .int .i64 k, .int .i64 y]
  h0 : tb0 = true → tx0 = V0
  h1 : tb1 = true → tx1 = V1
  h2 : tb2 = true → tx2 = V2
  h3 : tb3 = true → tx3 = V3
  h4 : tb4 = true → tb10 = false → ∃ u, tx4 = .tuple #[u, .int .i64 k, .int .i64 y] ∧ TbVal w w.heap.size u T2
  h5 : tb5 = true → tb10 = false → ∃ u, tx5 = .tuple #[u, .int .i64 k, .int .i64 y] ∧ TbVal w w.heap.size u T2
  h6 : tb6 = true → tb10 = false → TbVal w w.heap.size tx6 T2
  h7 : tb7 = true → tx7 = V7
  h8 : tb8 = true → tx8 = V8
  h9 : tb9 = true → tb10 = false → ∃ q, tx9 = .pointer (some ⟨q, 0, none⟩) ∧ w0.heap.size ≤ q ∧ w.heap[q]? = some (.cells #[.int .i64 0, .int .i64 0, .slice none 0 0] 24 (0, 0))
  h10 : tb10 = true → ∃ q A n c r p, tx9 = .pointer (some ⟨q, 0, none⟩) ∧ w0.heap.size ≤ q ∧ w.heap[q]? = some (.cells #[.int .i64 r, .int .i64 p, .slice A n c] 24 (0, 0)) ∧ TbVal w w.heap.size (.agg #[.int .i64 r, .int .i64 p, .slice A n c]) T2 ∧ TKA W (.cells #[.int .i64 r1, .int .i64 p1, .slice A1 n1 c1] 24 (0, 0)) (.cells #[.int .i64 0, .int .i64 0, .slice none 0 0] 24 (0, 0)) (.agg #[.int .i64 r1, .int .i64 p1, .slice A1 n1 c1]) T w
  h11 : tb11 = true → tx11 = V11
  h12 : tb12 = true → tx12 = V12
end Go.Proofs.YtpfahdogedchpaaDoor
