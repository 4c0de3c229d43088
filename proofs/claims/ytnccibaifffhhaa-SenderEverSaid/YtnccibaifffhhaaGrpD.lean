/- Several texts in one. -/
import Derived.Test.YtnccibaifffhhaaGrpB
import Derived.Test.YtnccibaifffhhaaGrpC
import Derived.Deep.Slices
import Derived.Deep.Fields
import Derived.ChangeSame
import Derived.Test.YtnccibaifffhhaaGrpA
import Derived.DataShut
/- Slices of structs whose fields are numbers and strings, as arguments: opened to rows that read. Nothing of the program's but the raw things' shape. -/
namespace Go.Proofs.Ytnccibaifffhhaa.P
set_option linter.unusedVariables false
open Go.RowKit Go.ChangeShapes Go.WideShapes Go.Deep

section
variable {H : Type} {enc : TypeId × Value → H} {P : Program} {w : World}

/-- what is known of a slice of records that came in -/
theorem open_recs {t e : TypeId} {fs : Array Field} {fuel : Nat} {ao : Option Addr} {len cap : Nat} {d : DataW H} {pl : List MemPlace} (ht : P.underlying t = some (.slice e)) (he : P.underlying e = some (.struct fs))
    (hone : oneCellFields P fs = true) (hC : P.cellsOf e = fs.size) (hp : 0 < fs.size) (h : DataW.trod enc P w 0 (fun _ => true) true fuel t (Value.slice ao len cap).cells.toList = some (d, pl)) :
    len ≤ cap ∧ cap ≤ maxLen ∧ ((d = .nil ∧ cap = 0) ∨ ∃ xs ys, d = .slice xs ys ∧ xs.length + ys.length = cap) ∧
    (0 < len → ∃ b off, ao = some ⟨b, off, none⟩ ∧ b < w.heap.size ∧ ∀ i, i < len → ∀ j f, fs[j]? = some f → ∃ v y n, w.cell? ⟨b, off + (i * fs.size + j), none⟩ = some v ∧ DataW.trod enc P w 0 (fun _ => true) true n f.type [v] = some y) := by
  have hcs : (Value.slice ao len cap).cells.toList = [.slice ao len cap] := by simp [Value.cells]
  rw [hcs] at h
  rcases open_slice ht h with ⟨h0, hx⟩ | ⟨a, len', cap', m, n, D, Pl, h0, hb, hl, hm, hmm, hx, hi⟩
  · simp only [List.cons.injEq, Value.slice.injEq, and_true] at h0
    obtain ⟨rfl, rfl, rfl⟩ := h0
    simp only [Prod.mk.injEq] at hx
    exact ⟨Nat.le_refl _, by unfold maxLen; omega, .inl ⟨hx.1, rfl⟩, fun h => absurd h (by omega)⟩
  · simp only [List.cons.injEq, Value.slice.injEq, and_true] at h0
    obtain ⟨rfl, rfl, rfl⟩ := h0
    simp only [if_true] at hmm
    subst hmm
    simp only [Prod.mk.injEq] at hx
    refine ⟨hl, hm, .inr ⟨_, _, hx.1, by simp; omega⟩, fun hpos => ?_⟩
    have cell : ∀ i, i < m → ∀ j f, fs[j]? = some f → ∃ v y n', w.cell? (a.add (i * fs.size + j)) = some v ∧ DataW.trod enc P w 0 (fun _ => true) true n' f.type [v] = some y := by
      intro i him j f hj
      obtain ⟨cs', hc, ht'⟩ := hi i him
      rw [hC] at hc
      obtain ⟨ys, n', _, _, hlen, hyl, hf⟩ := DataW.trod_struct he ht'
      obtain ⟨_, hcl, hat⟩ := World.cells?_some hc
      obtain ⟨ho, hk⟩ := hone_of hone j f hj
      have hjl : j < fs.size := (Array.getElem?_eq_some_iff.1 hj).1
      have h1 := hf j f hj
      rw [ho, hk, List.drop_eq_getElem_cons (by omega : j < cs'.length), List.getElem?_eq_getElem (by omega)] at h1
      have hcell := hat j hjl
      rw [List.getElem?_eq_getElem (by omega)] at hcell
      exact ⟨_, _, n', by rw [← add_add]; exact hcell, h1⟩
    obtain ⟨f0, hf0⟩ : ∃ f0, fs[0]? = some f0 := ⟨fs[0], Array.getElem?_eq_getElem hp⟩
    obtain ⟨v0, _, _, hc0, _⟩ := cell 0 (by omega) 0 f0 hf0
    have hsp := World.cell?_spot hc0
    obtain ⟨b, off, sp⟩ := a
    have hsp' : sp = none := by simpa [Addr.add] using hsp
    subst hsp'
    refine ⟨b, off, rfl, ?_, fun i hi' j f hj => ?_⟩
    · have := World.block_lt_of_cell? w _ hc0
      simpa [Addr.add] using this
    · obtain ⟨v, y, n', hc, ht'⟩ := cell i (by omega) j f hj
      exact ⟨v, y, n', by rw [add_plain2] at hc; exact hc, ht'⟩
end

/-- a list out of what is known of each place -/
theorem list_of {α : Type} (d : α) (n : Nat) (R : Nat → α → Prop) (h : ∀ i, i < n → ∃ x, R i x) : ∃ xs : List α, xs.length = n ∧ ∀ i, i < n → R i (xs.getD i d) := by
  induction n with
  | zero => exact ⟨[], rfl, fun i hi => absurd hi (by omega)⟩
  | succ n ih =>
    obtain ⟨xs, hl, hx⟩ := ih fun i hi => h i (by omega)
    obtain ⟨x, hxn⟩ := h n (by omega)
    refine ⟨xs ++ [x], by simp [hl], fun i hi => ?_⟩
    by_cases c : i < n
    · have := hx i c
      rw [List.getD_eq_getElem?_getD, List.getElem?_append_left (by omega), ← List.getD_eq_getElem?_getD]
      exact this
    · obtain rfl : i = n := by omega
      rw [List.getD_eq_getElem?_getD, List.getElem?_append_right (by omega), hl, Nat.sub_self]
      exact hxn

section
variable {H : Type} {enc : TypeId × Value → H} {P : Program} {w : World}
theorem open_raws {t e : TypeId} {f0 f1 f2 f3 : Field} {fuel : Nat} {ao : Option Addr} {len cap : Nat} {d : DataW H} {pl : List MemPlace} (ht : P.underlying t = some (.slice e)) (he : P.underlying e = some (.struct #[f0, f1, f2, f3]))
    (hone : oneCellFields P #[f0, f1, f2, f3] = true) (hC : P.cellsOf e = 4) (t0 : P.underlying f0.type = some (.int .i64)) (t1 : P.underlying f1.type = some (.int .i64)) (t2 : P.underlying f2.type = some (.int .i64)) (t3 : P.underlying f3.type = some .string)
    (h : DataW.trod enc P w 0 (fun _ => true) true fuel t (Value.slice ao len cap).cells.toList = some (d, pl)) :
    ∃ rs : List RawT, rs.length = len ∧ RawRow w w.heap.size ao rs ∧ len ≤ cap ∧ cap ≤ maxLen ∧ ((d = .nil ∧ cap = 0) ∨ ∃ xs ys, d = .slice xs ys ∧ xs.length + ys.length = cap) ∧ ∀ i, i < len → (Lit.int .i64 (rs.getD i raw0).kind).wf = true ∧ (Lit.int .i64 (rs.getD i raw0).a).wf = true ∧ (Lit.int .i64 (rs.getD i raw0).b).wf = true ∧ (rs.getD i raw0).text.size ≤ maxLen := by
  obtain ⟨hl, hm, hd, hrow⟩ := open_recs ht he hone hC (by simp) h
  rcases Nat.eq_zero_or_pos len with h0 | h0
  · subst h0
    exact ⟨[], rfl, fun h => absurd h (by simp), hl, hm, hd, fun i hi => absurd hi (by omega)⟩
  · obtain ⟨b, off, rfl, hb, hc⟩ := hrow h0
    obtain ⟨rs, hrl, hrs⟩ := list_of raw0 len (fun i r => w.cell? ⟨b, off + i * 4, none⟩ = some (.int .i64 r.kind) ∧ w.cell? ⟨b, off + i * 4 + 1, none⟩ = some (.int .i64 r.a) ∧
        w.cell? ⟨b, off + i * 4 + 2, none⟩ = some (.int .i64 r.b) ∧ w.cell? ⟨b, off + i * 4 + 3, none⟩ = some (.string r.text) ∧ (Lit.int .i64 r.kind).wf = true ∧ (Lit.int .i64 r.a).wf = true ∧ (Lit.int .i64 r.b).wf = true ∧ r.text.size ≤ maxLen) (fun i hi => by
      obtain ⟨v0, y0, n0, c0, k0⟩ := hc i hi 0 f0 rfl
      obtain ⟨v1, y1, n1, c1, k1⟩ := hc i hi 1 f1 rfl
      obtain ⟨v2, y2, n2, c2, k2⟩ := hc i hi 2 f2 rfl
      obtain ⟨v3, y3, n3, c3, k3⟩ := hc i hi 3 f3 rfl
      obtain ⟨x0, e0, _, w0⟩ := DataW.trod_int t0 k0
      obtain ⟨x1, e1, _, w1⟩ := DataW.trod_int t1 k1
      obtain ⟨x2, e2, _, w2⟩ := DataW.trod_int t2 k2
      obtain ⟨x3, e3, _, w3⟩ := DataW.trod_string t3 k3
      simp only [List.cons.injEq, and_true] at e0 e1 e2 e3
      subst e0 e1 e2 e3
      refine ⟨⟨x0, x1, x2, x3⟩, ?_, ?_, ?_, ?_, w0, w1, w2, w3⟩
      · simpa using c0
      · simpa [Nat.add_assoc] using c1
      · simpa [Nat.add_assoc] using c2
      · simpa [Nat.add_assoc] using c3)
    exact ⟨rs, hrl, fun _ => ⟨b, off, rfl, hb, fun j hj => ⟨(hrs j (by omega)).1, (hrs j (by omega)).2.1, (hrs j (by omega)).2.2.1, (hrs j (by omega)).2.2.2.1⟩⟩, hl, hm, hd, fun i hi => (hrs i hi).2.2.2.2⟩

theorem open_rngs {t e : TypeId} {f0 f1 : Field} {fuel : Nat} {ao : Option Addr} {len cap : Nat} {d : DataW H} {pl : List MemPlace} (ht : P.underlying t = some (.slice e)) (he : P.underlying e = some (.struct #[f0, f1]))
    (hone : oneCellFields P #[f0, f1] = true) (hC : P.cellsOf e = 2) (t0 : P.underlying f0.type = some (.int .i64)) (t1 : P.underlying f1.type = some (.int .i64))
    (h : DataW.trod enc P w 0 (fun _ => true) true fuel t (Value.slice ao len cap).cells.toList = some (d, pl)) :
    ∃ ps : List (Int × Int), ps.length = len ∧ RRow w w.heap.size ao ps ∧ len ≤ cap ∧ cap ≤ maxLen ∧ ((d = .nil ∧ cap = 0) ∨ ∃ xs ys, d = .slice xs ys ∧ xs.length + ys.length = cap) ∧ ∀ i, i < len → (Lit.int .i64 (ps.getD i (0, 0)).1).wf = true ∧ (Lit.int .i64 (ps.getD i (0, 0)).2).wf = true := by
  obtain ⟨hl, hm, hd, hrow⟩ := open_recs ht he hone hC (by simp) h
  rcases Nat.eq_zero_or_pos len with h0 | h0
  · subst h0
    exact ⟨[], rfl, RRow.nil _ _ _, hl, hm, hd, fun i hi => absurd hi (by omega)⟩
  · obtain ⟨b, off, rfl, hb, hc⟩ := hrow h0
    obtain ⟨ps, hrl, hrs⟩ := list_of ((0 : Int), (0 : Int)) len (fun i r => w.cell? ⟨b, off + i * 2, none⟩ = some (.int .i64 r.1) ∧ w.cell? ⟨b, off + i * 2 + 1, none⟩ = some (.int .i64 r.2) ∧ (Lit.int .i64 r.1).wf = true ∧ (Lit.int .i64 r.2).wf = true) (fun i hi => by
      obtain ⟨v0, y0, n0, c0, k0⟩ := hc i hi 0 f0 rfl
      obtain ⟨v1, y1, n1, c1, k1⟩ := hc i hi 1 f1 rfl
      obtain ⟨x0, e0, _, w0⟩ := DataW.trod_int t0 k0
      obtain ⟨x1, e1, _, w1⟩ := DataW.trod_int t1 k1
      simp only [List.cons.injEq, and_true] at e0 e1
      subst e0 e1
      refine ⟨⟨x0, x1⟩, ?_, ?_, w0, w1⟩
      · simpa using c0
      · simpa [Nat.add_assoc] using c1)
    exact ⟨ps, hrl, fun _ => ⟨b, off, rfl, hb, fun j hj => ⟨(hrs j (by omega)).1, (hrs j (by omega)).2.1⟩⟩, hl, hm, hd, fun i hi => (hrs i hi).2.2⟩

/-- a struct of two numbers, by value -/
theorem open_two {r : Reach} {b0 : Nat} {t : TypeId} {f0 f1 : Field} {v : Value} {d : DataW H} {pl : List MemPlace} (ht : P.underlying t = some (.struct #[f0, f1])) (hone : oneCellFields P #[f0, f1] = true) (hC : P.cellsOf t = 2)
    (t0 : P.underlying f0.type = some (.int .i64)) (t1 : P.underlying f1.type = some (.int .i64)) (hv : Value.okWide P w r b0 t v) (h : DataW.Trod enc P w 0 (fun _ => true) true t v d pl) :
    ∃ x y : Int, v = .agg #[.int .i64 x, .int .i64 y] ∧ (Lit.int .i64 x).wf = true ∧ (Lit.int .i64 y).wf = true := by
  obtain ⟨cs, rfl, hsz⟩ := okWide_struct ht hv
  obtain ⟨l⟩ := cs
  match l, hsz.trans hC with
  | [c0, c1], _ =>
    obtain ⟨fuel, hf⟩ := h
    obtain ⟨xs, n, _, hx, _, hlen, hg⟩ := DataW.trod_struct ht hf
    obtain ⟨o0, k0⟩ := hone_of hone 0 f0 rfl
    obtain ⟨o1, k1⟩ := hone_of hone 1 f1 rfl
    match xs, hlen with
    | [y0, y1], _ =>
      have g0 := hg 0 f0 rfl
      have g1 := hg 1 f1 rfl
      rw [o0, k0] at g0
      rw [o1, k1] at g1
      obtain ⟨x, e0, _, w0⟩ := DataW.trod_int t0 g0
      obtain ⟨y, e1, _, w1⟩ := DataW.trod_int t1 g1
      simp [Value.cells] at e0 e1
      subst e0 e1
      exact ⟨x, y, rfl, w0, w1⟩
end
end Go.Proofs.Ytnccibaifffhhaa.P
/- A head as a value: six cells, one of them a row of bytes. Nothing of the program's. -/
namespace Go.Proofs.Ytnccibaifffhhaa.P
set_option linter.unusedVariables false
open Go.RowKit

/-- v says the head h; its Token lies below block B -/
structure HdVal (w : World) (B : Nat) (v : Value) (h : Hd) : Prop where
  ex : ∃ d, v = .agg #[.int .i64 h.kind, .int .i64 h.to, .int .i64 h.frm, d, .int .i64 h.num, .int .i64 h.size] ∧ BSl w B d h.tok
/-- its numbers fit -/
structure HdWf (h : Hd) : Prop where
  kind : (Lit.int .i64 h.kind).wf = true
  to : (Lit.int .i64 h.to).wf = true
  frm : (Lit.int .i64 h.frm).wf = true
  num : (Lit.int .i64 h.num).wf = true
  size : (Lit.int .i64 h.size).wf = true
theorem HdVal.below {w w' : World} {B : Nat} {v : Value} {h : Hd} (k : HdVal w B v h) (hb : Below B w w') : HdVal w' B v h := by
  obtain ⟨d, rfl, hd⟩ := k.ex
  exact ⟨d, rfl, hd.below hb⟩
theorem HdVal.more {w : World} {B B' : Nat} {v : Value} {h : Hd} (k : HdVal w B v h) (hB : B ≤ B') : HdVal w B' v h := by
  obtain ⟨d, rfl, hd⟩ := k.ex
  exact ⟨d, rfl, hd.more hB⟩
theorem HdVal.on {w w' : World} {v : Value} {h : Hd} (k : HdVal w w.heap.size v h) (hb : Below w.heap.size w w') : HdVal w' w'.heap.size v h := (k.below hb).more hb.size
theorem wf_i64 {n : Int} : (Lit.int .i64 n).wf = true ↔ -9223372036854775808 ≤ n ∧ n ≤ 9223372036854775807 := by
  have a1 : IntKind.i64.min = -9223372036854775808 := by kernel_rfl
  have a2 : IntKind.i64.max = 9223372036854775807 := by kernel_rfl
  rw [Lit.wf_int_iff, a1, a2]
/-- the zero head -/
def hd0 : Hd := ⟨0, 0, 0, [], 0, 0⟩
theorem HdVal.zero (w : World) (B : Nat) : HdVal w B (.agg #[.int .i64 0, .int .i64 0, .int .i64 0, .slice none 0 0, .int .i64 0, .int .i64 0]) hd0 := ⟨_, rfl, BSl.nil w B⟩
theorem OkH.wf {h : Hd} (H : OkH h) : HdWf h := by
  have h1 := H.kind0; have h2 := H.kind1; have h4 := H.to0; have h5 := H.to1; have h6 := H.frm0; have h7 := H.frm1
  have hn : 0 ≤ h.num ∧ h.num ≤ 4294967296 ∧ 0 ≤ h.size ∧ h.size ≤ 4 := by
    by_cases k : h.kind = 1
    · have := H.retry k; omega
    · have := H.size k
      have := winOf_le h.size
      omega
  refine ⟨?_, ?_, ?_, ?_, ?_⟩ <;> rw [wf_i64] <;> omega
/-- what is asked of a reader of heads, by P5.3 -/
def HdDec (zs : List Int) (w : World) (e : Ending) (w' : World) : Prop :=
  Below w.heap.size w w' ∧ match decH zs with
  | .error x => e = .returned (.tuple #[.agg #[.int .i64 0, .int .i64 0, .int .i64 0, .slice none 0 0, .int .i64 0, .int .i64 0], .int .i64 0, .int .i64 x])
  | .ok (h, t) => ∃ v, e = .returned (.tuple #[v, .int .i64 ((zs.length : Int) - t.length), .int .i64 0]) ∧ HdVal w' w'.heap.size v h
theorem hdDec_er {zs : List Int} {w w' : World} {e : Ending} {x : Int} (hd : decH zs = .error x) (h : e = .returned (.tuple #[.agg #[.int .i64 0, .int .i64 0, .int .i64 0, .slice none 0 0, .int .i64 0, .int .i64 0], .int .i64 0, .int .i64 x]) ∧ Below w.heap.size w w') : HdDec zs w e w' := by
  unfold HdDec
  rw [hd]
  exact ⟨h.2, h.1⟩
theorem hdDec_ok {zs t : List Int} {w w' : World} {e : Ending} {h : Hd} {v : Value} {n : Int} (hd : decH zs = .ok (h, t)) (he : e = .returned (.tuple #[v, .int .i64 n, .int .i64 0])) (hn : n = (zs.length : Int) - t.length) (hb : Below w.heap.size w w') (hv : HdVal w' w'.heap.size v h) : HdDec zs w e w' := by
  unfold HdDec
  rw [hd]
  subst hn
  exact ⟨hb, v, he, hv⟩
/-- what is asked of a writer of heads, by P5.2 -/
def HdEnc (h : Hd) (w : World) (e : Ending) (w' : World) : Prop :=
  Below w.heap.size w w' ∧ ∃ d, e = .returned (.tuple #[d, .int .i64 (faultH h)]) ∧ BSl w' w'.heap.size d (if faultH h = 0 then hdT h else [])
theorem hdEnc_yes {h : Hd} {w w' : World} {e : Ending} (k : HdEnc h w e w') (H : faultH h = 0) : Below w.heap.size w w' ∧ ∃ A c, e = .returned (.tuple #[.slice A (hdT h).length c, .int .i64 0]) ∧ (hdT h).length ≤ c ∧ c ≤ maxLen ∧ (A = none → c = 0) ∧ BRow w' w'.heap.size A (hdT h) := by
  obtain ⟨hb, d, rfl, hd⟩ := k
  rw [H, if_pos rfl] at hd
  obtain ⟨A, c, rfl, h1, h2, h3, h4⟩ := hd.ex
  rw [H]
  exact ⟨hb, A, c, rfl, h1, h2, h3, h4⟩
end Go.Proofs.Ytnccibaifffhhaa.P
/- A head, by value as an argument: opened to numbers and a row. Nothing of the program's but the shapes. -/
namespace Go.Proofs.Ytnccibaifffhhaa.P
set_option linter.unusedVariables false
open Go.RowKit Go.ChangeShapes Go.WideShapes Go.Deep

section
variable {H : Type} {enc : TypeId × Value → H} {P : Program} {w : World}
theorem slice_of1 {t e : TypeId} {fuel : Nat} {v : Value} {y : DataW H × List MemPlace} (ht : P.underlying t = some (.slice e)) (h : DataW.trod enc P w 0 (fun _ => true) true fuel t [v] = some y) : ∃ A n c, v = .slice A n c := by
  rcases open_slice ht h with ⟨h0, _⟩ | ⟨a, len', cap', m, n, D, Pl, h0, _⟩
  · exact ⟨none, 0, 0, by simpa using h0⟩
  · exact ⟨_, _, _, by simpa using h0⟩
theorem open_hd {r : Reach} {b0 : Nat} {t e3 : TypeId} {f0 f1 f2 f3 f4 f5 : Field} {v : Value} {d : DataW H} {pl : List MemPlace} (ht : P.underlying t = some (.struct #[f0, f1, f2, f3, f4, f5])) (hone : oneCellFields P #[f0, f1, f2, f3, f4, f5] = true) (hC : P.cellsOf t = 6)
    (t0 : P.underlying f0.type = some (.int .i64)) (t1 : P.underlying f1.type = some (.int .i64)) (t2 : P.underlying f2.type = some (.int .i64)) (t3 : P.underlying f3.type = some (.slice e3)) (t4 : P.underlying f4.type = some (.int .i64)) (t5 : P.underlying f5.type = some (.int .i64))
    (he3 : P.underlying e3 = some (.int .u8)) (hC3 : P.cellsOf e3 = 1)
    (hv : Value.okWide P w r b0 t v) (h : DataW.Trod enc P w 0 (fun _ => true) true t v d pl) :
    ∃ f : Hd, HdVal w w.heap.size v f ∧ HdWf f := by
  obtain ⟨cs, rfl, hsz⟩ := okWide_struct ht hv
  obtain ⟨l⟩ := cs
  match l, hsz.trans hC with
  | [c0, c1, c2, c3, c4, c5], _ =>
    obtain ⟨fuel, hf⟩ := h
    obtain ⟨xs, n, _, hx, _, hlen, hg⟩ := DataW.trod_struct ht hf
    obtain ⟨o0, k0⟩ := hone_of hone 0 f0 rfl
    obtain ⟨o1, k1⟩ := hone_of hone 1 f1 rfl
    obtain ⟨o2, k2⟩ := hone_of hone 2 f2 rfl
    obtain ⟨o3, k3⟩ := hone_of hone 3 f3 rfl
    obtain ⟨o4, k4⟩ := hone_of hone 4 f4 rfl
    obtain ⟨o5, k5⟩ := hone_of hone 5 f5 rfl
    match xs, hlen with
    | [y0, y1, y2, y3, y4, y5], _ =>
      have q0 : DataW.trod enc P w 0 (fun _ => true) true n f0.type [c0] = some y0 := by simpa [Value.cells, o0, k0] using hg 0 f0 rfl
      have q1 : DataW.trod enc P w 0 (fun _ => true) true n f1.type [c1] = some y1 := by simpa [Value.cells, o1, k1] using hg 1 f1 rfl
      have q2 : DataW.trod enc P w 0 (fun _ => true) true n f2.type [c2] = some y2 := by simpa [Value.cells, o2, k2] using hg 2 f2 rfl
      have q3 : DataW.trod enc P w 0 (fun _ => true) true n f3.type [c3] = some y3 := by simpa [Value.cells, o3, k3] using hg 3 f3 rfl
      have q4 : DataW.trod enc P w 0 (fun _ => true) true n f4.type [c4] = some y4 := by simpa [Value.cells, o4, k4] using hg 4 f4 rfl
      have q5 : DataW.trod enc P w 0 (fun _ => true) true n f5.type [c5] = some y5 := by simpa [Value.cells, o5, k5] using hg 5 f5 rfl
      obtain ⟨x0, e0, _, w0⟩ := DataW.trod_int t0 q0
      obtain ⟨x1, e1, _, w1⟩ := DataW.trod_int t1 q1
      obtain ⟨x2, e2, _, w2⟩ := DataW.trod_int t2 q2
      obtain ⟨x4, e4, _, w4⟩ := DataW.trod_int t4 q4
      obtain ⟨x5, e5, _, w5⟩ := DataW.trod_int t5 q5
      obtain ⟨A', m', c', e3'⟩ := slice_of1 t3 q3
      simp only [List.cons.injEq, and_true] at e0 e1 e2 e4 e5
      subst e0 e1 e2 e4 e5 e3'
      have hrow : ∃ zs : List Int, IsRow .u8 w A' m' c' zs := by
        rcases open_ints t3 he3 hC3 q3 with ⟨hcs, _⟩ | ⟨x, l, c, zs, hcs, _, hl, hm, hz, hx, hcell, hwz⟩
        · simp at hcs
          obtain ⟨rfl, rfl, rfl⟩ := hcs
          exact ⟨[], .inl ⟨rfl, rfl, rfl, rfl⟩⟩
        · simp at hcs
          obtain ⟨rfl, rfl, rfl⟩ := hcs
          exact ⟨zs, .inr ⟨_, rfl, hl, hm, by simpa using hz, hcell, hwz⟩⟩
      obtain ⟨zs, hz⟩ := hrow
      obtain ⟨hb, hzl, hzc, hzm⟩ := InRow.brow hz
      have hnone : A' = none → c' = 0 := by
        rcases hz with ⟨_, _, h, _⟩ | ⟨x, h, _⟩
        · exact fun _ => h
        · intro e; rw [h] at e; cases e
      exact ⟨⟨x0, x1, x2, zs.take m', x4, x5⟩, ⟨_, rfl, ⟨A', c', by rw [hzl], by rw [hzl]; exact hzc, hzm, hnone, hb⟩⟩, ⟨w0, w1, w2, w4, w5⟩⟩
end
end Go.Proofs.Ytnccibaifffhhaa.P
/- The frames that the verifier's texts make of raw things: they may be. Nothing of the program's. -/
namespace Go.Proofs.Ytnccibaifffhhaa.P
set_option linter.unusedVariables false
open Go.RowKit

/-- a string's bytes as numbers -/
def numsOf (s : ByteArray) : List Int := s.data.toList.map fun b => (b.toNat : Int)
theorem numsOf_len (s : ByteArray) : (numsOf s).length = s.size := by unfold numsOf; rw [List.length_map]; rfl
theorem numsOf_str (s : ByteArray) : strOfNums (numsOf s) = s := by
  apply ByteArray.ext
  apply Array.toList_inj.1
  rw [strOfNums_data, numsOf, List.map_map]
  conv => rhs; rw [← List.map_id s.data.toList]
  apply List.map_congr_left
  intro b _
  simp
theorem numsOf_byt (s : ByteArray) : Byt (numsOf s) := by
  intro j
  rw [List.getD_eq_getElem?_getD]
  unfold numsOf
  rw [List.getElem?_map]
  cases h : s.data.toList[j]? with
  | none => simp
  | some b => have := b.toNat_lt; simp; omega
theorem Byt.takeN {zs : List Int} (h : Byt zs) (n : Nat) : Byt (zs.take n) := h.take n

/-- the frame of a raw thing: q its kind of fourteen, x and y its numbers, d its bytes -/
def fOf (q x y : Int) (d : List Int) : Fr :=
  if q = 0 then ⟨1, 0, 0, false, 0, [], []⟩
  else if q = 1 then ⟨2, 0, 0, false, 0, [(y % 50 + 40, y % 50 + 50), (y % 50 + 20, y % 50 + 20 + x % 18), (y % 50, y % 50 + x % 5)].take (1 + x % 3).toNat, []⟩
  else if q = 2 then ⟨4, num x, num y, false, x % 99, [], []⟩
  else if q = 3 then ⟨5, num x, 0, false, num y, [], []⟩
  else if q = 4 then ⟨6, 0, num y / 2, false, 0, [], d⟩
  else if q = 5 then ⟨7, 0, 0, false, 0, [], d⟩
  else if q = 6 ∨ q = 7 then ⟨8, num x, num y / 2, decide (x % 2 = 0), 0, [], d⟩
  else if q = 8 then ⟨16, 0, num x, false, 0, [], []⟩
  else if q = 9 then ⟨17, num x, num y, false, 0, [], []⟩
  else if q = 10 then ⟨18, 0, num x, false, 0, [], []⟩
  else if q = 11 then ⟨26, 0, 0, false, num x, [], []⟩
  else if q = 12 then ⟨28, 0, 0, false, num x, [], []⟩
  else ⟨if x % 2 = 0 then 0 else 30, 0, 0, false, 0, [], []⟩
/-- with all numbers of a kind in their bounds nothing is wrong -/
theorem fault_free (k : Int) {f : Fr} {s : List Int} (hk : f.kind = k) (h : partsOf k = some s) (h1 : f.data.length ≤ 120) (h2 : f.rs.length ≤ 6) (hi : inBV (maskOf k) f.id f.off f.code f.data.length = true) (hf : inFV (maskOf k) f = true) : faultF f = 0 := by
  subst hk
  rw [faultF_some h, if_neg (by omega), if_neg (by rw [hi]; decide), if_neg (by rw [hf]; decide)]
theorem nb_ok {h : Bool} {n : Int} (h0 : 0 ≤ n) (h1 : n ≤ 4611686018427387903) (hz : h = false → n = 0) : numBad h n = false := by
  unfold numBad
  cases h
  · simp [h0, h1, hz rfl]
  · simp [h0, h1]
theorem take3 {α : Type} (a b c : α) (x : Int) : ([a, b, c].take (1 + x % 3).toNat = [a] ∨ [a, b, c].take (1 + x % 3).toNat = [a, b] ∨ [a, b, c].take (1 + x % 3).toNat = [a, b, c]) ∧ ([a, b, c].take (1 + x % 3).toNat).length = (1 + x % 3).toNat := by
  have e : x % 3 = 0 ∨ x % 3 = 1 ∨ x % 3 = 2 := by omega
  rcases e with e | e | e <;> rw [e] <;> simp
theorem inB_ok {m id off code n : Int} (h1 : numBad (hasM m 1) id = false) (h2 : numBad (hasM m 2) off = false) (h3 : numBad (hasM m 8) code = false) (h : hasM m 34 = false ∨ off + n ≤ 4611686018427387903) : inBV m id off code n = true := by
  unfold inBV mbV
  rw [h1, h2, h3]
  rcases h with h | h
  · rw [h]; rfl
  · rw [decide_eq_true h]; simp
theorem inF_ok {m : Int} {f : Fr} (h1 : f.data.length = 0 ∨ hasM m 32 = true) (h2 : f.fin = false ∨ hasM m 4 = true) (h3 : decide (0 < f.rs.length) = hasM m 64) (h4 : downL f.rs) : inFV m f = true := by
  unfold inFV
  rw [h3, decide_eq_true h4]
  have e1 : (decide (0 < f.data.length) && !hasM m 32) = false := by
    rcases h1 with h | h
    · rw [h]; rfl
    · rw [h]; simp
  have e2 : (f.fin && !hasM m 4) = false := by
    rcases h2 with h | h
    · rw [h]; rfl
    · rw [h]; simp
  rw [e1, e2]
  simp
theorem inF_nil {m : Int} {f : Fr} (h1 : f.data.length = 0 ∨ hasM m 32 = true) (h2 : f.fin = false ∨ hasM m 4 = true) (h3 : f.rs = []) (h : hasM m 64 = false) : inFV m f = true :=
  inF_ok h1 h2 (by rw [h3, h]; rfl) (by rw [h3]; trivial)
theorem nb_0 (h : Bool) : numBad h 0 = false := nb_ok (Int.le_refl _) (by omega) fun _ => rfl
theorem nb_1 {h : Bool} {n : Int} (k : h = true) (h0 : 0 ≤ n) (h1 : n ≤ 4611686018427387903) : numBad h n = false := nb_ok h0 h1 fun e => by rw [k] at e; cases e
theorem down_nil : downL [] := trivial
theorem fOf_ok (q x y : Int) (d : List Int) (hd : d.length ≤ 40) : faultF (fOf q x y d) = 0 := by
  have n1 := num_bd x
  have n2 := num_bd y
  unfold fOf
  by_cases c0 : q = 0
  · rw [if_pos c0]
    refine fault_free 1 (s := []) rfl rfl (by simp only [List.length_nil]; omega) (Nat.zero_le _) (inB_ok (nb_0 _) (nb_0 _) (nb_0 _) (.inl (by decide +kernel))) (inF_nil (.inl rfl) (.inl rfl) rfl (by decide +kernel))
  rw [if_neg c0]
  by_cases c1 : q = 1
  · rw [if_pos c1]
    obtain ⟨t, hl⟩ := take3 (y % 50 + 40, y % 50 + 50) (y % 50 + 20, y % 50 + 20 + x % 18) (y % 50, y % 50 + x % 5) x
    have hl1 : 0 < (1 + x % 3).toNat := by omega
    have hl2 : (1 + x % 3).toNat ≤ 6 := by omega
    have hd : downL ([(y % 50 + 40, y % 50 + 50), (y % 50 + 20, y % 50 + 20 + x % 18), (y % 50, y % 50 + x % 5)].take (1 + x % 3).toNat) := by
      unfold downL
      rcases t with t | t | t <;> rw [t] <;> simp only [downFrom, okR, and_true] <;> (refine ⟨?_, ?_⟩ <;> try omega)
    rw [← hl] at hl1 hl2
    generalize [(y % 50 + 40, y % 50 + 50), (y % 50 + 20, y % 50 + 20 + x % 18), (y % 50, y % 50 + x % 5)].take (1 + x % 3).toNat = l at *
    exact fault_free 2 (s := [114]) rfl rfl (Nat.zero_le _) hl2 (inB_ok (nb_0 _) (nb_0 _) (nb_0 _) (.inl (by decide +kernel))) (inF_ok (.inl rfl) (.inl rfl) ((decide_eq_true hl1).trans (by decide +kernel)) hd)
  rw [if_neg c1]
  by_cases c2 : q = 2
  · rw [if_pos c2]
    refine fault_free 4 (s := [105, 111, 99]) rfl rfl (by simp only [List.length_nil]; omega) (Nat.zero_le _) (inB_ok (nb_1 (by decide +kernel) n1.1 n1.2) (nb_1 (by decide +kernel) n2.1 n2.2) (nb_1 (by decide +kernel) (by first | omega | (simp only; omega)) (by first | omega | (simp only; omega))) (.inl (by decide +kernel))) (inF_nil (.inl rfl) (.inl rfl) rfl (by decide +kernel))
  rw [if_neg c2]
  by_cases c3 : q = 3
  · rw [if_pos c3]
    refine fault_free 5 (s := [105, 99]) rfl rfl (by simp only [List.length_nil]; omega) (Nat.zero_le _) (inB_ok (nb_1 (by decide +kernel) n1.1 n1.2) (nb_0 _) (nb_1 (by decide +kernel) n2.1 n2.2) (.inl (by decide +kernel))) (inF_nil (.inl rfl) (.inl rfl) rfl (by decide +kernel))
  rw [if_neg c3]
  by_cases c4 : q = 4
  · rw [if_pos c4]
    refine fault_free 6 (s := [111, 100]) rfl rfl (by simp only; omega) (Nat.zero_le _) (inB_ok (nb_0 _) (nb_1 (by decide +kernel) (by first | omega | (simp only; omega)) (by first | omega | (simp only; omega))) (nb_0 _) (.inr (by simp only; omega))) (inF_nil (.inr (by decide +kernel)) (.inl rfl) rfl (by decide +kernel))
  rw [if_neg c4]
  by_cases c5 : q = 5
  · rw [if_pos c5]
    refine fault_free 7 (s := [100]) rfl rfl (by simp only; omega) (Nat.zero_le _) (inB_ok (nb_0 _) (nb_0 _) (nb_0 _) (.inr (by simp only; omega))) (inF_nil (.inr (by decide +kernel)) (.inl rfl) rfl (by decide +kernel))
  rw [if_neg c5]
  by_cases c6 : q = 6 ∨ q = 7
  · rw [if_pos c6]
    refine fault_free 8 (s := [105, 111, 100, 102]) rfl rfl (by simp only; omega) (Nat.zero_le _) (inB_ok (nb_1 (by decide +kernel) n1.1 n1.2) (nb_1 (by decide +kernel) (by first | omega | (simp only; omega)) (by first | omega | (simp only; omega))) (nb_0 _) (.inr (by simp only; omega))) (inF_nil (.inr (by decide +kernel)) (.inr (by decide +kernel)) rfl (by decide +kernel))
  rw [if_neg c6]
  by_cases c7 : q = 8
  · rw [if_pos c7]
    refine fault_free 16 (s := [111]) rfl rfl (by simp only [List.length_nil]; omega) (Nat.zero_le _) (inB_ok (nb_0 _) (nb_1 (by decide +kernel) n1.1 n1.2) (nb_0 _) (.inl (by decide +kernel))) (inF_nil (.inl rfl) (.inl rfl) rfl (by decide +kernel))
  rw [if_neg c7]
  by_cases c8 : q = 9
  · rw [if_pos c8]
    refine fault_free 17 (s := [105, 111]) rfl rfl (by simp only [List.length_nil]; omega) (Nat.zero_le _) (inB_ok (nb_1 (by decide +kernel) n1.1 n1.2) (nb_1 (by decide +kernel) n2.1 n2.2) (nb_0 _) (.inl (by decide +kernel))) (inF_nil (.inl rfl) (.inl rfl) rfl (by decide +kernel))
  rw [if_neg c8]
  by_cases c9 : q = 10
  · rw [if_pos c9]
    refine fault_free 18 (s := [111]) rfl rfl (by simp only [List.length_nil]; omega) (Nat.zero_le _) (inB_ok (nb_0 _) (nb_1 (by decide +kernel) n1.1 n1.2) (nb_0 _) (.inl (by decide +kernel))) (inF_nil (.inl rfl) (.inl rfl) rfl (by decide +kernel))
  rw [if_neg c9]
  by_cases c10 : q = 11
  · rw [if_pos c10]
    refine fault_free 26 (s := [119]) rfl rfl (by simp only [List.length_nil]; omega) (Nat.zero_le _) (inB_ok (nb_0 _) (nb_0 _) (nb_1 (by decide +kernel) n1.1 n1.2) (.inl (by decide +kernel))) (inF_nil (.inl rfl) (.inl rfl) rfl (by decide +kernel))
  rw [if_neg c10]
  by_cases c11 : q = 12
  · rw [if_pos c11]
    refine fault_free 28 (s := [99]) rfl rfl (by simp only [List.length_nil]; omega) (Nat.zero_le _) (inB_ok (nb_0 _) (nb_0 _) (nb_1 (by decide +kernel) n1.1 n1.2) (.inl (by decide +kernel))) (inF_nil (.inl rfl) (.inl rfl) rfl (by decide +kernel))
  rw [if_neg c11]
  by_cases e : x % 2 = 0
  · rw [if_pos e]
    exact fault_free 0 (s := []) rfl rfl (Nat.zero_le _) (Nat.zero_le _) (inB_ok (nb_0 _) (nb_0 _) (nb_0 _) (.inl (by decide +kernel))) (inF_nil (.inl rfl) (.inl rfl) rfl (by decide +kernel))
  · rw [if_neg e]
    exact fault_free 30 (s := []) rfl rfl (Nat.zero_le _) (Nat.zero_le _) (inB_ok (nb_0 _) (nb_0 _) (nb_0 _) (.inl (by decide +kernel))) (inF_nil (.inl rfl) (.inl rfl) rfl (by decide +kernel))
theorem fOf_byt (q x y : Int) {d : List Int} (hd : Byt d) : Byt (fOf q x y d).data := by
  have h0 : Byt [] := by intro j; simp
  unfold fOf
  by_cases c0 : q = 0
  · rw [if_pos c0]; first | exact h0 | exact hd
  rw [if_neg c0]
  by_cases c1 : q = 1
  · rw [if_pos c1]; first | exact h0 | exact hd
  rw [if_neg c1]
  by_cases c2 : q = 2
  · rw [if_pos c2]; first | exact h0 | exact hd
  rw [if_neg c2]
  by_cases c3 : q = 3
  · rw [if_pos c3]; first | exact h0 | exact hd
  rw [if_neg c3]
  by_cases c4 : q = 4
  · rw [if_pos c4]; first | exact h0 | exact hd
  rw [if_neg c4]
  by_cases c5 : q = 5
  · rw [if_pos c5]; first | exact h0 | exact hd
  rw [if_neg c5]
  by_cases c6 : q = 6 ∨ q = 7
  · rw [if_pos c6]; first | exact h0 | exact hd
  rw [if_neg c6]
  by_cases c7 : q = 8
  · rw [if_pos c7]; first | exact h0 | exact hd
  rw [if_neg c7]
  by_cases c8 : q = 9
  · rw [if_pos c8]; first | exact h0 | exact hd
  rw [if_neg c8]
  by_cases c9 : q = 10
  · rw [if_pos c9]; first | exact h0 | exact hd
  rw [if_neg c9]
  by_cases c10 : q = 11
  · rw [if_pos c10]; first | exact h0 | exact hd
  rw [if_neg c10]
  by_cases c11 : q = 12
  · rw [if_pos c11]; first | exact h0 | exact hd
  rw [if_neg c11]
  exact h0
end Go.Proofs.Ytnccibaifffhhaa.P
