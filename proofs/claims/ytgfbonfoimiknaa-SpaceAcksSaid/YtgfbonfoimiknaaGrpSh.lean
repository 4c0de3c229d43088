/- Several texts in one. -/
import Derived.Test.YtgfbonfoimiknaaRows
import Derived.Test.YtgfbonfoimiknaaGrpC
import Derived.SizedLaws
import Derived.Test.YtgfbonfoimiknaaGrpD
import Derived.Test.YtgfbonfoimiknaaGrpB
import Derived.Test.YtgfbonfoimiknaaGrpSa
import Derived.Test.YtgfbonfoimiknaaGrpSb
/- What the bound on the bulk of what comes in gives: parts, places, letters. Nothing of the program's. -/
namespace Go.Proofs.Ytgfbonfoimiknaa.P
set_option linter.unusedVariables false

theorem bulk_one {H : Type} (d : DataW H) : 1 ≤ Rows.uptoBulk d := by
  cases d with
  | lit l => cases l <;> simp [Rows.uptoBulk]
  | nil => simp [Rows.uptoBulk]
  | ptr d => simp [Rows.uptoBulk]
  | slice a b => simp [Rows.uptoBulk]
  | agg l => simp [Rows.uptoBulk]
  | iface t d => simp [Rows.uptoBulk]
  | map l => simp [Rows.uptoBulk]
  | held h => simp [Rows.uptoBulk]
theorem bulk_app {H : Type} (l r : List (DataW H)) : Rows.uptoBulkAll (l ++ r) = Rows.uptoBulkAll l + Rows.uptoBulkAll r := by
  induction l with
  | nil => simp [Rows.uptoBulkAll]
  | cons x l ih => simp only [List.cons_append, Rows.uptoBulkAll, ih]; omega
theorem bulk_len {H : Type} (l : List (DataW H)) : l.length ≤ Rows.uptoBulkAll l := by
  induction l with
  | nil => simp [Rows.uptoBulkAll]
  | cons x r ih => have := bulk_one x; simp only [Rows.uptoBulkAll, List.length_cons]; omega
theorem bulk_mem {H : Type} {d : DataW H} {l : List (DataW H)} (h : d ∈ l) : Rows.uptoBulk d ≤ Rows.uptoBulkAll l := by
  induction l with
  | nil => cases h
  | cons x r ih =>
    simp only [Rows.uptoBulkAll]
    rcases List.mem_cons.1 h with e | e
    · subst e; omega
    · have := ih e; omega
end Go.Proofs.Ytgfbonfoimiknaa.P
/- Bytes, and ranges, within an argument: opened to rows, with their bulk. Nothing of the program's but the shapes. -/
namespace Go.Proofs.Ytgfbonfoimiknaa.P
set_option linter.unusedVariables false
open Go.RowKit Go.ChangeShapes Go.WideShapes Go.Deep

section
variable {H : Type} {enc : TypeId × Value → H} {P : Program} {w : World}
theorem slice_of2 {t e : TypeId} {fuel : Nat} {v : Value} {y : DataW H × List MemPlace} (ht : P.underlying t = some (.slice e)) (h : DataW.trod enc P w 0 (fun _ => true) true fuel t [v] = some y) : ∃ A n c, v = .slice A n c := by
  rcases open_slice ht h with ⟨h0, _⟩ | ⟨a, len', cap', m, n, D, Pl, h0, _⟩
  · exact ⟨none, 0, 0, by simpa using h0⟩
  · exact ⟨_, _, _, by simpa using h0⟩
theorem row_bsl {A : Option Addr} {m c : Nat} {zs : List Int} (hz : IsRow .u8 w A m c zs) : BSl w w.heap.size (.slice A m c) (zs.take m) ∧ (zs.take m).length = m ∧ m ≤ c := by
  obtain ⟨hb, hzl, hzc, hzm⟩ := InRow.brow hz
  have hnone : A = none → c = 0 := by
    rcases hz with ⟨_, _, h, _⟩ | ⟨x, h, _⟩
    · exact fun _ => h
    · intro e; rw [h] at e; cases e
  exact ⟨⟨A, c, by rw [hzl], by rw [hzl]; exact hzc, hzm, hnone, hb⟩, hzl, hzc⟩
/-- bytes that came in: what they weigh, their bulk -/
theorem open_bytes {t e : TypeId} {fuel : Nat} {v : Value} {d : DataW H} {pl : List MemPlace} (ht : P.underlying t = some (.slice e)) (he : P.underlying e = some (.int .u8)) (hC : P.cellsOf e = 1) (hB : P.bytesOf e = 1)
    (h : DataW.trod enc P w 0 (fun _ => true) true fuel t [v] = some (d, pl)) :
    ∃ zs : List Int, BSl w w.heap.size v zs ∧ ((∀ n ∈ d.weights P t, n ≤ 140737488351232) → zs.length ≤ 140737488351232) ∧ zs.length ≤ Rows.uptoBulk d := by
  obtain ⟨A, m, c, rfl⟩ := slice_of2 ht h
  rcases open_ints ht he hC h with ⟨hcs, hx⟩ | ⟨x, l, c', zs, hcs, _, hl, hm, hz, hx, hcell, hwz⟩
  · simp only [List.cons.injEq, Value.slice.injEq, and_true] at hcs
    obtain ⟨rfl, rfl, rfl⟩ := hcs
    exact ⟨[], BSl.nil _ _, fun _ => Nat.zero_le _, Nat.zero_le _⟩
  · simp only [List.cons.injEq, Value.slice.injEq, and_true] at hcs
    obtain ⟨rfl, rfl, rfl⟩ := hcs
    have hz' : zs.length = c := by simpa using hz
    obtain ⟨hb, hzl, hzc⟩ := row_bsl (zs := zs) (w := w) (A := some x) (m := m) (c := c) (.inr ⟨_, rfl, hl, hm, hz', hcell, hwz⟩)
    have hd := (Prod.mk.inj hx).1
    refine ⟨zs.take m, hb, fun hn => ?_, ?_⟩
    · have := hn ((lits (H := H) .u8 (zs.take m)).length + (lits (H := H) .u8 (zs.drop m)).length) (by rw [hd]; simp only [DataW.weights, ht, hB, Nat.mul_one]; exact List.mem_cons_self)
      simp only [lits, List.length_map] at this
      omega
    · rw [hd]
      have := bulk_len (lits (H := H) .u8 (zs.take m))
      simp only [lits, List.length_map] at this
      simp only [Rows.uptoBulk, lits]
      omega
/-- ranges that came in, and their bulk -/
theorem open_rsl {t e : TypeId} {f0 f1 : Field} {fuel : Nat} {v : Value} {d : DataW H} {pl : List MemPlace} (ht : P.underlying t = some (.slice e)) (he : P.underlying e = some (.struct #[f0, f1]))
    (hone : oneCellFields P #[f0, f1] = true) (hC : P.cellsOf e = 2) (t0 : P.underlying f0.type = some (.int .i64)) (t1 : P.underlying f1.type = some (.int .i64))
    (h : DataW.trod enc P w 0 (fun _ => true) true fuel t [v] = some (d, pl)) :
    ∃ ps : List (Int × Int), RSl w w.heap.size v ps ∧ ps.length ≤ Rows.uptoBulk d ∧ ∀ i, i < ps.length → (Lit.int .i64 (ps.getD i (0, 0)).1).wf = true ∧ (Lit.int .i64 (ps.getD i (0, 0)).2).wf = true := by
  obtain ⟨A, m, c, rfl⟩ := slice_of2 ht h
  obtain ⟨ps, hpl, hpr, hpc, hpm, hd, hpw⟩ := open_rngs (d := d) (pl := pl) ht he hone hC t0 t1 (by simpa [Value.cells] using h)
  refine ⟨ps, ⟨A, c, by rw [hpl], by rw [hpl]; exact hpc, hpm, hpr⟩, ?_, fun i hi => hpw i (by omega)⟩
  rcases hd with ⟨rfl, h0⟩ | ⟨xs, ys, rfl, hl⟩
  · omega
  · simp only [Rows.uptoBulk]
    have := bulk_len xs
    have := bulk_len ys
    omega
end
end Go.Proofs.Ytgfbonfoimiknaa.P
/- A frame, or a raw thing, by value as an argument: opened to numbers, rows and text. Nothing of the program's but the shapes. -/
namespace Go.Proofs.Ytgfbonfoimiknaa.P
set_option linter.unusedVariables false
open Go.RowKit Go.ChangeShapes Go.WideShapes Go.Deep

section
variable {H : Type} {enc : TypeId × Value → H} {P : Program} {w : World}
theorem slice_of {t e : TypeId} {fuel : Nat} {v : Value} {y : DataW H × List MemPlace} (ht : P.underlying t = some (.slice e)) (h : DataW.trod enc P w 0 (fun _ => true) true fuel t [v] = some y) : ∃ A n c, v = .slice A n c := by
  rcases open_slice ht h with ⟨h0, _⟩ | ⟨a, len', cap', m, n, D, Pl, h0, _⟩
  · exact ⟨none, 0, 0, by simpa using h0⟩
  · exact ⟨_, _, _, by simpa using h0⟩
theorem open_fr {r : Reach} {b0 : Nat} {t e6 e7 : TypeId} {f0 f1 f2 f3 f4 f5 f6 g0 g1 : Field} {v : Value} {d : DataW H} {pl : List MemPlace} (ht : P.underlying t = some (.struct #[f0, f1, f2, f3, f4, f5, f6])) (hone : oneCellFields P #[f0, f1, f2, f3, f4, f5, f6] = true) (hC : P.cellsOf t = 7)
    (t0 : P.underlying f0.type = some (.int .i64)) (t1 : P.underlying f1.type = some (.int .i64)) (t2 : P.underlying f2.type = some (.int .i64)) (t3 : P.underlying f3.type = some .bool) (t4 : P.underlying f4.type = some (.int .i64))
    (t5 : P.underlying f5.type = some (.slice e6)) (t6 : P.underlying f6.type = some (.slice e7)) (he6 : P.underlying e6 = some (.struct #[g0, g1])) (hone6 : oneCellFields P #[g0, g1] = true) (hC6 : P.cellsOf e6 = 2) (u0 : P.underlying g0.type = some (.int .i64)) (u1 : P.underlying g1.type = some (.int .i64))
    (he7 : P.underlying e7 = some (.int .u8)) (hC7 : P.cellsOf e7 = 1)
    (hv : Value.okWide P w r b0 t v) (h : DataW.Trod enc P w 0 (fun _ => true) true t v d pl) :
    ∃ f : Fr, FrVal w w.heap.size v f ∧ FrWf f := by
  obtain ⟨cs, rfl, hsz⟩ := okWide_struct ht hv
  obtain ⟨l⟩ := cs
  match l, hsz.trans hC with
  | [c0, c1, c2, c3, c4, c5, c6], _ =>
    obtain ⟨fuel, hf⟩ := h
    obtain ⟨xs, n, _, hx, _, hlen, hg⟩ := DataW.trod_struct ht hf
    obtain ⟨o0, k0⟩ := hone_of hone 0 f0 rfl
    obtain ⟨o1, k1⟩ := hone_of hone 1 f1 rfl
    obtain ⟨o2, k2⟩ := hone_of hone 2 f2 rfl
    obtain ⟨o3, k3⟩ := hone_of hone 3 f3 rfl
    obtain ⟨o4, k4⟩ := hone_of hone 4 f4 rfl
    obtain ⟨o5, k5⟩ := hone_of hone 5 f5 rfl
    obtain ⟨o6, k6⟩ := hone_of hone 6 f6 rfl
    match xs, hlen with
    | [y0, y1, y2, y3, y4, y5, y6], _ =>
      have q0 : DataW.trod enc P w 0 (fun _ => true) true n f0.type [c0] = some y0 := by simpa [Value.cells, o0, k0] using hg 0 f0 rfl
      have q1 : DataW.trod enc P w 0 (fun _ => true) true n f1.type [c1] = some y1 := by simpa [Value.cells, o1, k1] using hg 1 f1 rfl
      have q2 : DataW.trod enc P w 0 (fun _ => true) true n f2.type [c2] = some y2 := by simpa [Value.cells, o2, k2] using hg 2 f2 rfl
      have q3 : DataW.trod enc P w 0 (fun _ => true) true n f3.type [c3] = some y3 := by simpa [Value.cells, o3, k3] using hg 3 f3 rfl
      have q4 : DataW.trod enc P w 0 (fun _ => true) true n f4.type [c4] = some y4 := by simpa [Value.cells, o4, k4] using hg 4 f4 rfl
      have q5 : DataW.trod enc P w 0 (fun _ => true) true n f5.type [c5] = some y5 := by simpa [Value.cells, o5, k5] using hg 5 f5 rfl
      have q6 : DataW.trod enc P w 0 (fun _ => true) true n f6.type [c6] = some y6 := by simpa [Value.cells, o6, k6] using hg 6 f6 rfl
      obtain ⟨x0, e0, _, w0⟩ := DataW.trod_int t0 q0
      obtain ⟨x1, e1, _, w1⟩ := DataW.trod_int t1 q1
      obtain ⟨x2, e2, _, w2⟩ := DataW.trod_int t2 q2
      obtain ⟨x3, e3, _⟩ := DataW.trod_bool t3 q3
      obtain ⟨x4, e4, _, w4⟩ := DataW.trod_int t4 q4
      obtain ⟨A, m, c, e5⟩ := slice_of t5 q5
      obtain ⟨A', m', c', e6'⟩ := slice_of t6 q6
      simp only [List.cons.injEq, and_true] at e0 e1 e2 e3 e4
      subst e0 e1 e2 e3 e4 e5 e6'
      obtain ⟨ps, hpl, hpr, hpc, hpm, _, hpw⟩ := open_rngs (d := y5.1) (pl := y5.2) t5 he6 hone6 hC6 u0 u1 (by simpa [Value.cells] using q5)
      have hrow : ∃ zs : List Int, IsRow .u8 w A' m' c' zs := by
        rcases open_ints t6 he7 hC7 q6 with ⟨hcs, _⟩ | ⟨x, l, c, zs, hcs, _, hl, hm, hz, hx, hcell, hwz⟩
        · simp at hcs
          obtain ⟨rfl, rfl, rfl⟩ := hcs
          exact ⟨[], .inl ⟨rfl, rfl, rfl, rfl⟩⟩
        · simp at hcs
          obtain ⟨rfl, rfl, rfl⟩ := hcs
          exact ⟨zs, .inr ⟨_, rfl, hl, hm, by simpa using hz, hcell, hwz⟩⟩
      obtain ⟨zs, hz⟩ := hrow
      obtain ⟨hb, hzl, hzc, hzm⟩ := InRow.brow hz
      have hnone : A' = none → c' = 0 := by
        rcases hz with ⟨_, _, h, _⟩ | ⟨x, h, _⟩
        · exact fun _ => h
        · intro e; rw [h] at e; cases e
      refine ⟨⟨x0, x1, x2, x3, x4, ps, zs.take m'⟩, ⟨_, _, rfl, ⟨A, c, by rw [hpl], by rw [hpl]; exact hpc, hpm, hpr⟩, ⟨A', c', by rw [hzl], by rw [hzl]; exact hzc, hzm, hnone, hb⟩⟩, ⟨w0, w1, w2, w4⟩⟩
/-- a raw thing, by value -/
theorem open_raw {r : Reach} {b0 : Nat} {t : TypeId} {f0 f1 f2 f3 : Field} {v : Value} {d : DataW H} {pl : List MemPlace} (ht : P.underlying t = some (.struct #[f0, f1, f2, f3])) (hone : oneCellFields P #[f0, f1, f2, f3] = true) (hC : P.cellsOf t = 4)
    (t0 : P.underlying f0.type = some (.int .i64)) (t1 : P.underlying f1.type = some (.int .i64)) (t2 : P.underlying f2.type = some (.int .i64)) (t3 : P.underlying f3.type = some .string)
    (hv : Value.okWide P w r b0 t v) (h : DataW.Trod enc P w 0 (fun _ => true) true t v d pl) :
    ∃ x : RawT, v = .agg #[.int .i64 x.kind, .int .i64 x.a, .int .i64 x.b, .string x.text] ∧ (Lit.int .i64 x.kind).wf = true ∧ (Lit.int .i64 x.a).wf = true ∧ (Lit.int .i64 x.b).wf = true ∧ x.text.size ≤ maxLen := by
  obtain ⟨cs, rfl, hsz⟩ := okWide_struct ht hv
  obtain ⟨l⟩ := cs
  match l, hsz.trans hC with
  | [c0, c1, c2, c3], _ =>
    obtain ⟨fuel, hf⟩ := h
    obtain ⟨xs, n, _, hx, _, hlen, hg⟩ := DataW.trod_struct ht hf
    obtain ⟨o0, k0⟩ := hone_of hone 0 f0 rfl
    obtain ⟨o1, k1⟩ := hone_of hone 1 f1 rfl
    obtain ⟨o2, k2⟩ := hone_of hone 2 f2 rfl
    obtain ⟨o3, k3⟩ := hone_of hone 3 f3 rfl
    match xs, hlen with
    | [y0, y1, y2, y3], _ =>
      have q0 : DataW.trod enc P w 0 (fun _ => true) true n f0.type [c0] = some y0 := by simpa [Value.cells, o0, k0] using hg 0 f0 rfl
      have q1 : DataW.trod enc P w 0 (fun _ => true) true n f1.type [c1] = some y1 := by simpa [Value.cells, o1, k1] using hg 1 f1 rfl
      have q2 : DataW.trod enc P w 0 (fun _ => true) true n f2.type [c2] = some y2 := by simpa [Value.cells, o2, k2] using hg 2 f2 rfl
      have q3 : DataW.trod enc P w 0 (fun _ => true) true n f3.type [c3] = some y3 := by simpa [Value.cells, o3, k3] using hg 3 f3 rfl
      obtain ⟨x0, e0, _, w0⟩ := DataW.trod_int t0 q0
      obtain ⟨x1, e1, _, w1⟩ := DataW.trod_int t1 q1
      obtain ⟨x2, e2, _, w2⟩ := DataW.trod_int t2 q2
      obtain ⟨x3, e3, _, w3⟩ := DataW.trod_string t3 q3
      simp only [List.cons.injEq, and_true] at e0 e1 e2 e3
      subst e0 e1 e2 e3
      exact ⟨⟨x0, x1, x2, x3⟩, rfl, w0, w1, w2, w3⟩
end
end Go.Proofs.Ytgfbonfoimiknaa.P
/- A space, by value as an argument, and a row of frames: opened to numbers, rows and text. Nothing of the program's but the shapes. -/
namespace Go.Proofs.Ytgfbonfoimiknaa.P
set_option linter.unusedVariables false
open Go.RowKit Go.ChangeShapes Go.WideShapes Go.Deep

theorem cat_at (k : Nat) (hk : 0 < k) : ∀ (css : List (Cells k)) (j i : Nat) (hj : j < css.length) (hi : i < k), ((cellLay k hk).cat css)[j * k + i]? = ((css[j]).l)[i]?
  | [], j, _, hj, _ => absurd hj (by simp)
  | c :: css, 0, i, _, hi => by
    simp only [Lay.cat, List.getElem_cons_zero, List.flatMap_cons, Nat.zero_mul, Nat.zero_add]
    rw [List.getElem?_append_left (by show i < c.l.length; rw [c.len]; exact hi)]
    rfl
  | c :: css, j + 1, i, hj, hi => by
    have ih := cat_at k hk css j i (by simpa using hj) hi
    simp only [Lay.cat, List.getElem_cons_succ, List.flatMap_cons] at ih ⊢
    rw [List.getElem?_append_right (by show c.l.length ≤ _; rw [c.len, Nat.succ_mul]; omega), show (j + 1) * k + i - ((cellLay k hk).f c).length = j * k + i by rw [show ((cellLay k hk).f c).length = k from c.len, Nat.succ_mul]; omega]
    exact ih
section
variable {H : Type} {enc : TypeId × Value → H} {P : Program} {w : World}
/-- a row of elements of k cells, each opened by itself -/
theorem open_rowC {X : Type} (k : Nat) (hk : 0 < k) (x0 : X) (c0 : Cells k) {t e : TypeId} {fuel : Nat} {ao : Option Addr} {len cap : Nat} {d : DataW H} {pl : List MemPlace} (ht : P.underlying t = some (.slice e)) (hC : P.cellsOf e = k) (Q : List Value → DataW H → X → Prop)
    (hq : ∀ m cs' y, cs'.length = k → DataW.trod enc P w 0 (fun _ => true) true m e cs' = some y → ∃ x, Q cs' y.1 x ∧ ∀ u ∈ cs', u.oneCell' = true)
    (h : DataW.trod enc P w 0 (fun _ => true) true fuel t [.slice ao len cap] = some (d, pl)) :
    ∃ (css : List (Cells k)) (xs : List X), css.length = len ∧ xs.length = len ∧ RowE (cellLay k hk) w w.heap.size ao css ∧ len ≤ cap ∧ cap ≤ maxLen ∧ (∀ i (h1 : i < css.length) (h2 : i < xs.length), ∃ dd, Q (css[i]).l dd xs[i] ∧ ∀ n ∈ dd.weights P e, n ∈ d.weights P t) ∧
      (∀ B, (∀ n ∈ d.weights P t, n ≤ B) → len * P.bytesOf e ≤ B) := by
  rcases open_slice ht h with ⟨h0, hx⟩ | ⟨a, len', cap', m, n, D, Pl, h0, hb, hl, hm, hmm, hx, hi⟩
  · simp only [List.cons.injEq, Value.slice.injEq, and_true] at h0
    obtain ⟨rfl, rfl, rfl⟩ := h0
    exact ⟨[], [], rfl, rfl, RowE.nil _ _ _, Nat.le_refl _, by unfold maxLen; omega, fun i h1 => by simp at h1, fun B _ => by simp⟩
  · simp only [List.cons.injEq, Value.slice.injEq, and_true] at h0
    obtain ⟨rfl, rfl, rfl⟩ := h0
    simp only [if_true] at hmm
    subst hmm
    have hd := (Prod.mk.inj hx).1
    obtain ⟨ps, hpl, hps⟩ := list_of (c0, x0) len (fun i (p : Cells k × X) => (∀ j, j < k → w.cell? (a.add (i * k + j)) = (p.1.l)[j]?) ∧ Q p.1.l (D i) p.2) (fun i him => by
      obtain ⟨cs', hc, ht'⟩ := hi i (by omega)
      rw [hC] at hc
      obtain ⟨_, hcl2, hat⟩ := World.cells?_some hc
      obtain ⟨x, hx1, hx2⟩ := hq n cs' _ hcl2 ht'
      refine ⟨(⟨cs', hcl2, hx2⟩, x), fun j hj => ?_, hx1⟩
      have := hat j (by omega)
      rw [add_add] at this
      exact this)
    have hgi : ∀ i (q : i < ps.length), ps.getD i (c0, x0) = ps[i] := fun i q => by rw [List.getD_eq_getElem?_getD, List.getElem?_eq_getElem q]; rfl
    refine ⟨ps.map (·.1), ps.map (·.2), by rw [List.length_map, hpl], by rw [List.length_map, hpl], fun hn => ?_, hl, hm, fun i h1 h2 => ?_, fun B hB => ?_⟩
    · rw [List.length_map, hpl] at hn
      have h00 := (hps 0 hn).1 0 hk
      rw [hgi 0 (by omega)] at h00
      have hle := (ps[0]'(by omega)).1.len
      rw [List.getElem?_eq_getElem (by omega)] at h00
      have hsp := World.cell?_spot h00
      obtain ⟨b, off, sp⟩ := a
      have hsp' : sp = none := by simpa [Addr.add] using hsp
      subst hsp'
      have hbl := World.block_lt_of_cell? w _ h00
      refine ⟨b, off, rfl, by simpa [Addr.add] using hbl, fun j u hu => ?_⟩
      have hjl : j < ((cellLay k hk).cat (ps.map (·.1))).length := (List.getElem?_eq_some_iff.1 hu).1
      have hlen : ((cellLay k hk).cat (ps.map (·.1))).length = len * k := by
        rw [(cellLay k hk).cat_len, List.length_map, hpl]
        rfl
      have hq1 : j / k < len := Nat.div_lt_of_lt_mul (by rw [Nat.mul_comm]; omega)
      have hq2 : j % k < k := Nat.mod_lt _ hk
      have hat := cat_at k hk (ps.map (·.1)) (j / k) (j % k) (by rw [List.length_map, hpl]; exact hq1) hq2
      have hjj : j / k * k + j % k = j := by rw [Nat.mul_comm]; exact Nat.div_add_mod j k
      rw [hjj, hu, List.getElem_map] at hat
      have hc := (hps (j / k) hq1).1 (j % k) hq2
      rw [hgi _ (by omega), hjj] at hc
      rw [add_plain2] at hc
      rw [hc]
      exact hat.symm
    · rw [List.length_map] at h1
      have := (hps i (by omega)).2
      rw [hgi i h1] at this
      rw [List.getElem_map, List.getElem_map]
      refine ⟨D i, this, fun n hn => ?_⟩
      rw [hd]
      simp only [DataW.weights, ht, List.mem_cons, List.mem_append]
      exact .inr (.inl (weigh_mem (List.mem_map.2 ⟨i, List.mem_range.2 (by omega), rfl⟩) n hn))
    · have := hB _ (by rw [hd]; simp only [DataW.weights, ht]; exact List.mem_cons_self)
      simp only [List.length_map, List.length_range] at this
      exact Nat.le_trans (Nat.mul_le_mul_right _ (by omega)) this
/-- numbers -/
theorem open_isl {t e : TypeId} {fuel : Nat} {v : Value} {d : DataW H} {pl : List MemPlace} (ht : P.underlying t = some (.slice e)) (he : P.underlying e = some (.int .i64)) (hC : P.cellsOf e = 1) (hB : P.bytesOf e = 8)
    (h : DataW.trod enc P w 0 (fun _ => true) true fuel t [v] = some (d, pl)) : ∃ zs : List Int, ISl w w.heap.size v zs ∧ (∀ n ∈ zs, i64N n) ∧ ((∀ n ∈ d.weights P t, n ≤ 140737488351232) → zs.length * 8 ≤ 140737488351232) := by
  obtain ⟨A, m, c, rfl⟩ := slice_of1 ht h
  obtain ⟨css, xs, hcl, hxl, hr, hlc, hcm, hQ, hB'⟩ := open_rowC 1 (by decide) (0 : Int) ⟨[.int .i64 0], rfl, by simp [Value.oneCell']⟩ ht hC (fun cs dd x => cs = [.int .i64 x] ∧ i64N x) (fun m cs' y hl hy => by
    match cs', hl with
    | [c0], _ =>
      obtain ⟨x, e0, _, w0⟩ := DataW.trod_int he hy
      rw [e0]
      exact ⟨x, ⟨rfl, bounds_i64 w0⟩, by simp [Value.oneCell']⟩) h
  refine ⟨xs, ⟨A, c, by rw [hxl], by rw [hxl]; exact hlc, hcm, fun hn => ?_⟩, fun n hn => ?_, fun hw => ?_⟩
  · obtain ⟨b, off, e0, hb, hc⟩ := hr (by omega)
    refine ⟨b, off, e0, hb, fun j u hu => hc j u ?_⟩
    have e : (cellLay 1 (by decide)).cat css = intE.cat xs := by
      have hmap : css.map (fun c => c.l) = xs.map (fun x => [Value.int .i64 x]) := List.ext_getElem (by rw [List.length_map, List.length_map]; omega) (fun i h1 h2 => by
        rw [List.getElem_map, List.getElem_map]
        obtain ⟨_, q, _⟩ := hQ i (by rw [List.length_map] at h1; exact h1) (by rw [List.length_map] at h2; exact h2)
        exact q.1)
      unfold Lay.cat
      exact congrArg List.flatten hmap
    rw [e]
    exact hu
  · obtain ⟨i, hi, rfl⟩ := List.getElem_of_mem hn
    obtain ⟨_, q, _⟩ := hQ i (by omega) hi
    exact q.2
  · have := hB' _ hw
    rw [hB] at this
    omega
/-- a frame's seven cells -/
theorem open_frC {m : Nat} {t e6 e7 : TypeId} {f0 f1 f2 f3 f4 f5 f6 g0 g1 : Field} {cs : List Value} {y : DataW H × List MemPlace} (ht : P.underlying t = some (.struct #[f0, f1, f2, f3, f4, f5, f6])) (hone : oneCellFields P #[f0, f1, f2, f3, f4, f5, f6] = true)
    (t0 : P.underlying f0.type = some (.int .i64)) (t1 : P.underlying f1.type = some (.int .i64)) (t2 : P.underlying f2.type = some (.int .i64)) (t3 : P.underlying f3.type = some .bool) (t4 : P.underlying f4.type = some (.int .i64))
    (t5 : P.underlying f5.type = some (.slice e6)) (t6 : P.underlying f6.type = some (.slice e7)) (he6 : P.underlying e6 = some (.struct #[g0, g1])) (hone6 : oneCellFields P #[g0, g1] = true) (hC6 : P.cellsOf e6 = 2) (hB6 : P.bytesOf e6 = 16) (u0 : P.underlying g0.type = some (.int .i64)) (u1 : P.underlying g1.type = some (.int .i64))
    (he7 : P.underlying e7 = some (.int .u8)) (hC7 : P.cellsOf e7 = 1) (hB7 : P.bytesOf e7 = 1) (hl : cs.length = 7) (hf : DataW.trod enc P w 0 (fun _ => true) true m t cs = some y) :
    ∃ f : Fr, (FrVal w w.heap.size (.agg cs.toArray) f ∧ (i64N f.kind ∧ i64N f.id ∧ i64N f.off ∧ i64N f.code) ∧ ((∀ n ∈ y.1.weights P t, n ≤ 140737488351232) → f.rs.length * 16 ≤ 140737488351232 ∧ f.data.length ≤ 140737488351232)) ∧ ∀ u ∈ cs, u.oneCell' = true := by
  match cs, hl with
  | [c0, c1, c2, c3, c4, c5, c6], _ =>
    obtain ⟨xs, n, _, hx, _, hlen, hg⟩ := DataW.trod_struct ht hf
    obtain ⟨o0, k0⟩ := hone_of hone 0 f0 rfl
    obtain ⟨o1, k1⟩ := hone_of hone 1 f1 rfl
    obtain ⟨o2, k2⟩ := hone_of hone 2 f2 rfl
    obtain ⟨o3, k3⟩ := hone_of hone 3 f3 rfl
    obtain ⟨o4, k4⟩ := hone_of hone 4 f4 rfl
    obtain ⟨o5, k5⟩ := hone_of hone 5 f5 rfl
    obtain ⟨o6, k6⟩ := hone_of hone 6 f6 rfl
    match xs, hlen with
    | [y0, y1, y2, y3, y4, y5, y6], _ =>
      have q0 : DataW.trod enc P w 0 (fun _ => true) true n f0.type [c0] = some y0 := by simpa [o0, k0] using hg 0 f0 rfl
      have q1 : DataW.trod enc P w 0 (fun _ => true) true n f1.type [c1] = some y1 := by simpa [o1, k1] using hg 1 f1 rfl
      have q2 : DataW.trod enc P w 0 (fun _ => true) true n f2.type [c2] = some y2 := by simpa [o2, k2] using hg 2 f2 rfl
      have q3 : DataW.trod enc P w 0 (fun _ => true) true n f3.type [c3] = some y3 := by simpa [o3, k3] using hg 3 f3 rfl
      have q4 : DataW.trod enc P w 0 (fun _ => true) true n f4.type [c4] = some y4 := by simpa [o4, k4] using hg 4 f4 rfl
      have q5 : DataW.trod enc P w 0 (fun _ => true) true n f5.type [c5] = some y5 := by simpa [o5, k5] using hg 5 f5 rfl
      have q6 : DataW.trod enc P w 0 (fun _ => true) true n f6.type [c6] = some y6 := by simpa [o6, k6] using hg 6 f6 rfl
      obtain ⟨x0, e0, _, w0⟩ := DataW.trod_int t0 q0
      obtain ⟨x1, e1, _, w1⟩ := DataW.trod_int t1 q1
      obtain ⟨x2, e2, _, w2⟩ := DataW.trod_int t2 q2
      obtain ⟨x3, e3, _⟩ := DataW.trod_bool t3 q3
      obtain ⟨x4, e4, _, w4⟩ := DataW.trod_int t4 q4
      obtain ⟨A, m5, c, e5⟩ := slice_of1 t5 q5
      obtain ⟨zs, hz, hzw, _⟩ := open_bytes (d := y6.1) (pl := y6.2) t6 he7 hC7 hB7 q6
      obtain ⟨A', c', hv6, _⟩ := hz.ex
      simp only [List.cons.injEq, and_true] at e0 e1 e2 e3 e4
      subst e0 e1 e2 e3 e4 e5
      obtain ⟨ps, hpl, hpr, hpc, hpm, hpd, hpw⟩ := open_rngs (d := y5.1) (pl := y5.2) t5 he6 hone6 hC6 u0 u1 (by simpa [Value.cells] using q5)
      have hd : y.1 = .agg [y0.1, y1.1, y2.1, y3.1, y4.1, y5.1, y6.1] := by rw [hx]; simp
      refine ⟨⟨x0, x1, x2, x3, x4, ps, zs⟩, ⟨⟨_, _, rfl, ⟨A, c, by rw [hpl], by rw [hpl]; exact hpc, hpm, hpr⟩, hz⟩, ⟨bounds_i64 w0, bounds_i64 w1, bounds_i64 w2, bounds_i64 w4⟩, fun hn => ⟨?_, hzw fun n hn' => hn n ?_⟩⟩, ?_⟩
      · rcases hpd with ⟨_, h0⟩ | ⟨xs, ys, e, hxy⟩
        · dsimp only; omega
        · have := hn ((xs.length + ys.length) * P.bytesOf e6) (by
            rw [hd]
            simp only [DataW.weights, ht, List.map_cons, List.map_nil, DataW.weightsEach, List.mem_append]
            refine .inr (.inr (.inr (.inr (.inr (.inl ?_)))))
            rw [e]
            simp only [DataW.weights, t5]
            exact List.mem_cons_self)
          rw [hB6, hxy] at this
          dsimp only
          omega
      · rw [hd]
        simp only [DataW.weights, ht, List.map_cons, List.map_nil, DataW.weightsEach, List.mem_append]
        exact .inr (.inr (.inr (.inr (.inr (.inr (.inl hn'))))))
      · rw [hv6]
        simp [Value.oneCell']
/-- frames -/
theorem open_frs {tt t e6 e7 : TypeId} {fuel : Nat} {v : Value} {d : DataW H} {pl : List MemPlace} {f0 f1 f2 f3 f4 f5 f6 g0 g1 : Field} (htt : P.underlying tt = some (.slice t)) (hCt : P.cellsOf t = 7) (hBt : P.bytesOf t = 88) (ht : P.underlying t = some (.struct #[f0, f1, f2, f3, f4, f5, f6])) (hone : oneCellFields P #[f0, f1, f2, f3, f4, f5, f6] = true)
    (t0 : P.underlying f0.type = some (.int .i64)) (t1 : P.underlying f1.type = some (.int .i64)) (t2 : P.underlying f2.type = some (.int .i64)) (t3 : P.underlying f3.type = some .bool) (t4 : P.underlying f4.type = some (.int .i64))
    (t5 : P.underlying f5.type = some (.slice e6)) (t6 : P.underlying f6.type = some (.slice e7)) (he6 : P.underlying e6 = some (.struct #[g0, g1])) (hone6 : oneCellFields P #[g0, g1] = true) (hC6 : P.cellsOf e6 = 2) (hB6 : P.bytesOf e6 = 16) (u0 : P.underlying g0.type = some (.int .i64)) (u1 : P.underlying g1.type = some (.int .i64))
    (he7 : P.underlying e7 = some (.int .u8)) (hC7 : P.cellsOf e7 = 1) (hB7 : P.bytesOf e7 = 1)
    (h : DataW.trod enc P w 0 (fun _ => true) true fuel tt [v] = some (d, pl)) : ∃ fs : List Fr, FsSl w w.heap.size v fs ∧ ((∀ n ∈ d.weights P tt, n ≤ 140737488351232) → FrsWf fs) := by
  obtain ⟨A, m, c, rfl⟩ := slice_of1 htt h
  obtain ⟨css, xs, hcl, hxl, hr, hlc, hcm, hQ, hB'⟩ := open_rowC 7 (by decide) fr00 ⟨List.replicate 7 (.int .i64 0), rfl, by simp [Value.oneCell']⟩ htt hCt (fun cs dd f => FrVal w w.heap.size (.agg cs.toArray) f ∧ (i64N f.kind ∧ i64N f.id ∧ i64N f.off ∧ i64N f.code) ∧ ((∀ n ∈ dd.weights P t, n ≤ 140737488351232) → f.rs.length * 16 ≤ 140737488351232 ∧ f.data.length ≤ 140737488351232))
    (fun m cs' y hl hy => open_frC ht hone t0 t1 t2 t3 t4 t5 t6 he6 hone6 hC6 hB6 u0 u1 he7 hC7 hB7 hl hy) h
  refine ⟨xs, ⟨A, c, css, by rw [hxl], by rw [hxl]; exact hlc, hcm, hr, All2.of (by omega) fun i h1 h2 => by obtain ⟨_, q, _⟩ := hQ i h1 h2; exact q.1⟩, fun hw => ⟨?_, fun f hf => ?_⟩⟩
  · have := hB' _ hw
    rw [hBt] at this
    omega
  · obtain ⟨i, hi, rfl⟩ := List.getElem_of_mem hf
    obtain ⟨dd, q, q2⟩ := hQ i (by omega) hi
    have q3 := q.2.2 fun n hn => hw n (q2 n hn)
    exact ⟨q.2.1, by omega, by omega⟩
/-- what the frames' type is -/
structure FrT (P : Program) (tt t e6 e7 : TypeId) (f0 f1 f2 f3 f4 f5 f6 g0 g1 : Field) : Prop where
  htt : P.underlying tt = some (.slice t)
  hCt : P.cellsOf t = 7
  hBt : P.bytesOf t = 88
  ht : P.underlying t = some (.struct #[f0, f1, f2, f3, f4, f5, f6])
  hone : oneCellFields P #[f0, f1, f2, f3, f4, f5, f6] = true
  t0 : P.underlying f0.type = some (.int .i64)
  t1 : P.underlying f1.type = some (.int .i64)
  t2 : P.underlying f2.type = some (.int .i64)
  t3 : P.underlying f3.type = some .bool
  t4 : P.underlying f4.type = some (.int .i64)
  t5 : P.underlying f5.type = some (.slice e6)
  t6 : P.underlying f6.type = some (.slice e7)
  he6 : P.underlying e6 = some (.struct #[g0, g1])
  hone6 : oneCellFields P #[g0, g1] = true
  hC6 : P.cellsOf e6 = 2
  hB6 : P.bytesOf e6 = 16
  u0 : P.underlying g0.type = some (.int .i64)
  u1 : P.underlying g1.type = some (.int .i64)
  he7 : P.underlying e7 = some (.int .u8)
  hC7 : P.cellsOf e7 = 1
  hB7 : P.bytesOf e7 = 1
theorem open_frsT {tt t e6 e7 : TypeId} {f0 f1 f2 f3 f4 f5 f6 g0 g1 : Field} (T : FrT P tt t e6 e7 f0 f1 f2 f3 f4 f5 f6 g0 g1) {fuel : Nat} {v : Value} {d : DataW H} {pl : List MemPlace} (h : DataW.trod enc P w 0 (fun _ => true) true fuel tt [v] = some (d, pl)) : ∃ fs : List Fr, FsSl w w.heap.size v fs ∧ ((∀ n ∈ d.weights P tt, n ≤ 140737488351232) → FrsWf fs) :=
  open_frs T.htt T.hCt T.hBt T.ht T.hone T.t0 T.t1 T.t2 T.t3 T.t4 T.t5 T.t6 T.he6 T.hone6 T.hC6 T.hB6 T.u0 T.u1 T.he7 T.hC7 T.hB7 h
/-- a row of frames, as an argument -/
theorem open_frsV {r : Reach} {b0 : Nat} {tt t e6 e7 : TypeId} {f0 f1 f2 f3 f4 f5 f6 g0 g1 : Field} (T : FrT P tt t e6 e7 f0 f1 f2 f3 f4 f5 f6 g0 g1) {v : Value} {d : DataW H} {pl : List MemPlace} (hv : Value.okWide P w r b0 tt v) (h : DataW.Trod enc P w 0 (fun _ => true) true tt v d pl) : ∃ fs : List Fr, FsSl w w.heap.size v fs ∧ ((∀ n ∈ d.weights P tt, n ≤ 140737488351232) → FrsWf fs) := by
  obtain ⟨A, n, c, rfl⟩ := okWide_slice T.htt hv
  obtain ⟨fuel, hf⟩ := h
  exact open_frsT T (by simpa [Value.cells] using hf)
/-- packets -/
theorem open_pls {tt t e6 e7 : TypeId} {f0 f1 f2 f3 f4 f5 f6 g0 g1 : Field} (T : FrT P tt t e6 e7 f0 f1 f2 f3 f4 f5 f6 g0 g1) {pp p : TypeId} {p0 p1 p2 p3 : Field} (hpp : P.underlying pp = some (.slice p)) (hCp : P.cellsOf p = 4) (hBp : P.bytesOf p = 48) (hp : P.underlying p = some (.struct #[p0, p1, p2, p3])) (honp : oneCellFields P #[p0, p1, p2, p3] = true)
    (t0 : P.underlying p0.type = some (.int .i64)) (t1 : P.underlying p1.type = some (.int .i64)) (t2 : P.underlying p2.type = some (.int .i64)) (t3 : p3.type = tt) {fuel : Nat} {v : Value} {d : DataW H} {pl : List MemPlace}
    (h : DataW.trod enc P w 0 (fun _ => true) true fuel pp [v] = some (d, pl)) : ∃ ps : List Pcl, PlSl w w.heap.size v ps ∧ ((∀ n ∈ d.weights P pp, n ≤ 140737488351232) → ps.length * 48 ≤ 140737488351232 ∧ ∀ p ∈ ps, (i64N p.num ∧ i64N p.time ∧ i64N p.size) ∧ FrsWf p.frs) := by
  obtain ⟨A, m, c, rfl⟩ := slice_of1 hpp h
  obtain ⟨css, xs, hcl, hxl, hr, hlc, hcm, hQ, hB'⟩ := open_rowC 4 (by decide) pcl0 ⟨List.replicate 4 (.int .i64 0), rfl, by simp [Value.oneCell']⟩ hpp hCp
    (fun cs dd q => (∃ v, cs = [.int .i64 q.num, .int .i64 q.time, .int .i64 q.size, v] ∧ FsSl w w.heap.size v q.frs) ∧ (i64N q.num ∧ i64N q.time ∧ i64N q.size) ∧ ((∀ n ∈ dd.weights P p, n ≤ 140737488351232) → FrsWf q.frs))
    (fun m cs y hl hf => by
      match cs, hl with
      | [c0, c1, c2, c3], _ =>
        obtain ⟨xs, n, _, hx, _, hlen, hg⟩ := DataW.trod_struct hp hf
        obtain ⟨o0, k0⟩ := hone_of honp 0 p0 rfl
        obtain ⟨o1, k1⟩ := hone_of honp 1 p1 rfl
        obtain ⟨o2, k2⟩ := hone_of honp 2 p2 rfl
        obtain ⟨o3, k3⟩ := hone_of honp 3 p3 rfl
        match xs, hlen with
        | [y0, y1, y2, y3], _ =>
          have q0 : DataW.trod enc P w 0 (fun _ => true) true n p0.type [c0] = some y0 := by simpa [o0, k0] using hg 0 p0 rfl
          have q1 : DataW.trod enc P w 0 (fun _ => true) true n p1.type [c1] = some y1 := by simpa [o1, k1] using hg 1 p1 rfl
          have q2 : DataW.trod enc P w 0 (fun _ => true) true n p2.type [c2] = some y2 := by simpa [o2, k2] using hg 2 p2 rfl
          have q3 : DataW.trod enc P w 0 (fun _ => true) true n p3.type [c3] = some y3 := by simpa [o3, k3] using hg 3 p3 rfl
          obtain ⟨x0, e0, _, w0⟩ := DataW.trod_int t0 q0
          obtain ⟨x1, e1, _, w1⟩ := DataW.trod_int t1 q1
          obtain ⟨x2, e2, _, w2⟩ := DataW.trod_int t2 q2
          rw [t3] at q3
          obtain ⟨fs, hfs, hfw⟩ := open_frsT (d := y3.1) (pl := y3.2) T q3
          obtain ⟨Af, cf, _, hv3, _⟩ := hfs.ex
          simp only [List.cons.injEq, and_true] at e0 e1 e2
          subst e0 e1 e2
          have hd : y.1 = .agg [y0.1, y1.1, y2.1, y3.1] := by rw [hx]; simp
          refine ⟨⟨x0, x1, x2, fs⟩, ⟨⟨c3, rfl, hfs⟩, ⟨bounds_i64 w0, bounds_i64 w1, bounds_i64 w2⟩, fun hn => hfw fun n hn' => hn n ?_⟩, ?_⟩
          · rw [hd]
            simp only [DataW.weights, hp, List.map_cons, List.map_nil, DataW.weightsEach, List.mem_append]
            rw [t3]
            exact .inr (.inr (.inr (.inl hn')))
          · rw [hv3]
            simp [Value.oneCell']) h
  refine ⟨xs, ⟨A, c, css, by rw [hxl], by rw [hxl]; exact hlc, hcm, hr, All2.of (by omega) fun i h1 h2 => by obtain ⟨_, q, _⟩ := hQ i h1 h2; exact q.1⟩, fun hw => ⟨?_, fun f hf => ?_⟩⟩
  · have := hB' _ hw
    rw [hBp] at this
    omega
  · obtain ⟨i, hi, rfl⟩ := List.getElem_of_mem hf
    obtain ⟨dd, q, q2⟩ := hQ i (by omega) hi
    exact ⟨q.2.1, q.2.2 fun n hn => hw n (q2 n hn)⟩
/-- ranges, with their weight -/
theorem open_rslW {t e : TypeId} {f0 f1 : Field} {fuel : Nat} {v : Value} {d : DataW H} {pl : List MemPlace} (ht : P.underlying t = some (.slice e)) (he : P.underlying e = some (.struct #[f0, f1]))
    (hone : oneCellFields P #[f0, f1] = true) (hC : P.cellsOf e = 2) (hB : P.bytesOf e = 16) (t0 : P.underlying f0.type = some (.int .i64)) (t1 : P.underlying f1.type = some (.int .i64))
    (h : DataW.trod enc P w 0 (fun _ => true) true fuel t [v] = some (d, pl)) :
    ∃ ps : List (Int × Int), RSl w w.heap.size v ps ∧ ((∀ n ∈ d.weights P t, n ≤ 140737488351232) → ps.length * 16 ≤ 140737488351232) := by
  obtain ⟨A, m, c, rfl⟩ := slice_of1 ht h
  obtain ⟨ps, hpl, hpr, hpc, hpm, hd, hpw⟩ := open_rngs (d := d) (pl := pl) ht he hone hC t0 t1 (by simpa [Value.cells] using h)
  refine ⟨ps, ⟨A, c, by rw [hpl], by rw [hpl]; exact hpc, hpm, hpr⟩, fun hn => ?_⟩
  rcases hd with ⟨rfl, h0⟩ | ⟨xs, ys, rfl, hl⟩
  · omega
  · have := hn ((xs.length + ys.length) * P.bytesOf e) (by simp only [DataW.weights, ht]; exact List.mem_cons_self)
    rw [hB, hl] at this
    omega
/-- a space -/
theorem open_sp {r : Reach} {b0 : Nat} {tt t e6 e7 : TypeId} {f0 f1 f2 f3 f4 f5 f6 g0 g1 : Field} (T : FrT P tt t e6 e7 f0 f1 f2 f3 f4 f5 f6 g0 g1) {pp p : TypeId} {p0 p1 p2 p3 : Field} (hpp : P.underlying pp = some (.slice p)) (hCp : P.cellsOf p = 4) (hBp : P.bytesOf p = 48) (hp : P.underlying p = some (.struct #[p0, p1, p2, p3])) (honp : oneCellFields P #[p0, p1, p2, p3] = true)
    (t0 : P.underlying p0.type = some (.int .i64)) (t1 : P.underlying p1.type = some (.int .i64)) (t2 : P.underlying p2.type = some (.int .i64)) (t3 : p3.type = tt)
    {s e3 e4 : TypeId} {s0 s1 s2 s3 s4 h0 h1 : Field} (hs : P.underlying s = some (.struct #[s0, s1, s2, s3, s4])) (hons : oneCellFields P #[s0, s1, s2, s3, s4] = true) (hCs : P.cellsOf s = 5)
    (k0 : P.underlying s0.type = some (.int .i64)) (k1 : s1.type = pp) (k2 : P.underlying s2.type = some (.int .i64)) (k3 : P.underlying s3.type = some (.slice e3)) (k4 : P.underlying s4.type = some (.slice e4))
    (he3 : P.underlying e3 = some (.struct #[h0, h1])) (hon3 : oneCellFields P #[h0, h1] = true) (hC3 : P.cellsOf e3 = 2) (hB3 : P.bytesOf e3 = 16) (r0 : P.underlying h0.type = some (.int .i64)) (r1 : P.underlying h1.type = some (.int .i64))
    (he4 : P.underlying e4 = some (.int .i64)) (hC4 : P.cellsOf e4 = 1) (hB4 : P.bytesOf e4 = 8)
    {v : Value} {d : DataW H} {pl : List MemPlace} (hv : Value.okWide P w r b0 s v) (h : DataW.Trod enc P w 0 (fun _ => true) true s v d pl) :
    ∃ x : Sp, SpVal w w.heap.size v x ∧ ((∀ n ∈ d.weights P s, n ≤ 140737488351232) → SpWf x) := by
  obtain ⟨cs, rfl, hsz⟩ := okWide_struct hs hv
  obtain ⟨l⟩ := cs
  match l, hsz.trans hCs with
  | [c0, c1, c2, c3, c4], _ =>
    obtain ⟨fuel, hf⟩ := h
    obtain ⟨xs, n, _, hx, _, hlen, hg⟩ := DataW.trod_struct hs hf
    obtain ⟨o0, z0⟩ := hone_of hons 0 s0 rfl
    obtain ⟨o1, z1⟩ := hone_of hons 1 s1 rfl
    obtain ⟨o2, z2⟩ := hone_of hons 2 s2 rfl
    obtain ⟨o3, z3⟩ := hone_of hons 3 s3 rfl
    obtain ⟨o4, z4⟩ := hone_of hons 4 s4 rfl
    match xs, hlen with
    | [y0, y1, y2, y3, y4], _ =>
      have q0 : DataW.trod enc P w 0 (fun _ => true) true n s0.type [c0] = some y0 := by simpa [Value.cells, o0, z0] using hg 0 s0 rfl
      have q1 : DataW.trod enc P w 0 (fun _ => true) true n s1.type [c1] = some y1 := by simpa [Value.cells, o1, z1] using hg 1 s1 rfl
      have q2 : DataW.trod enc P w 0 (fun _ => true) true n s2.type [c2] = some y2 := by simpa [Value.cells, o2, z2] using hg 2 s2 rfl
      have q3 : DataW.trod enc P w 0 (fun _ => true) true n s3.type [c3] = some y3 := by simpa [Value.cells, o3, z3] using hg 3 s3 rfl
      have q4 : DataW.trod enc P w 0 (fun _ => true) true n s4.type [c4] = some y4 := by simpa [Value.cells, o4, z4] using hg 4 s4 rfl
      obtain ⟨x0, e0, _, w0⟩ := DataW.trod_int k0 q0
      obtain ⟨x2, e2, _, w2⟩ := DataW.trod_int k2 q2
      rw [k1] at q1
      obtain ⟨ps, hps, hpw⟩ := open_pls (d := y1.1) (pl := y1.2) T hpp hCp hBp hp honp t0 t1 t2 t3 q1
      obtain ⟨rs, hrs, hrw⟩ := open_rslW (d := y3.1) (pl := y3.2) k3 he3 hon3 hC3 hB3 r0 r1 q3
      obtain ⟨zs, hzs, hzn, hzw⟩ := open_isl (d := y4.1) (pl := y4.2) k4 he4 hC4 hB4 q4
      simp only [List.cons.injEq, and_true] at e0 e2
      subst e0 e2
      have hd : d = .agg [y0.1, y1.1, y2.1, y3.1, y4.1] := by simpa using (Prod.mk.inj hx).1
      refine ⟨⟨x0, ps, x2, rs, zs⟩, ⟨_, _, _, rfl, hps, hrs, hzs⟩, fun hn => ?_⟩
      have n1 := hpw fun n hn' => hn n (by
        rw [hd]
        simp only [DataW.weights, hs, List.map_cons, List.map_nil, DataW.weightsEach, List.mem_append]
        rw [k1]
        exact .inr (.inl hn'))
      have n3 := hrw fun n hn' => hn n (by
        rw [hd]
        simp only [DataW.weights, hs, List.map_cons, List.map_nil, DataW.weightsEach, List.mem_append]
        exact .inr (.inr (.inr (.inl hn'))))
      have n4 := hzw fun n hn' => hn n (by
        rw [hd]
        simp only [DataW.weights, hs, List.map_cons, List.map_nil, DataW.weightsEach, List.mem_append]
        exact .inr (.inr (.inr (.inr (.inl hn')))))
      exact ⟨bounds_i64 w0, bounds_i64 w2, Nat.le_trans n1.1 (by decide), Nat.le_trans n3 (by decide), Nat.le_trans n4 (by decide), n1.2, hzn⟩
end
end Go.Proofs.Ytgfbonfoimiknaa.P
