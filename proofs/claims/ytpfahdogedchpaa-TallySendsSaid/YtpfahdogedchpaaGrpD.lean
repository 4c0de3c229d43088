/- Several texts in one. -/
import Derived.Test.YtpfahdogedchpaaGrpB
import Derived.Test.YtpfahdogedchpaaGrpC
import Derived.Deep.Slices
import Derived.Deep.Fields
import Derived.ChangeSame
/- Slices of structs whose fields are numbers and strings, as arguments: opened to rows that read. Nothing of the program's but the raw things' shape. -/
namespace Go.Proofs.Ytpfahdogedchpaa.P
set_option linter.unusedVariables false
open Go.RowKit Go.ChangeShapes Go.WideShapes Go.Deep

section
variable {H : Type} {enc : TypeId × Value → H} {P : Program} {w : World}

/-- what is known of a slice of records that came in -/
theorem open_recs {t e : TypeId} {fs : Array Field} {fuel : Nat} {ao : Option Addr} {len cap : Nat} {d : DataW H} {pl : List MemPlace} (ht : P.underlying t = some (.slice e)) (he : P.underlying e = some (.struct fs))
    (hone : oneCellFields P fs = true) (hC : P.cellsOf e = fs.size) (hp : 0 < fs.size) (h : DataW.trod enc P w 0 (fun _ => true) true fuel t (Value.slice ao len cap).cells.toList = some (d, pl)) :
    len ≤ cap ∧ cap ≤ maxLen ∧ ((d = .nil ∧ cap = 0) ∨ ∃ xs ys, d = .slice xs ys ∧ xs.length + ys.length = cap) ∧
    (0 < len → ∃ b off, ao = some ⟨b, off, none⟩ ∧ b < w.heap.size ∧ ∀ i, i < len → ∀ j f, fs[j]? = some f → ∃ v y n, w.cell? ⟨b, off + (i * fs.size + j), none⟩ = some v ∧ DataW.trod enc P w 0 (fun _ => true) true n f.type [v] = some y) := by
  have hcs : (Value.slice ao len cap).cells.toList = [.slice ao len cap] := by simp [Value.cells]
  rw [hcs] at h
  rcases open_slice ht h with ⟨h0, hx⟩ | ⟨a, len', cap', m, n, D, Pl, h0, hb, hl, hm, hmm, hx, hi⟩
  · simp only [List.cons.injEq, Value.slice.injEq, and_true] at h0
    obtain ⟨rfl, rfl, rfl⟩ := h0
    simp only [Prod.mk.injEq] at hx
    exact ⟨Nat.le_refl _, by unfold maxLen; omega, .inl ⟨hx.1, rfl⟩, fun h => absurd h (by omega)⟩
  · simp only [List.cons.injEq, Value.slice.injEq, and_true] at h0
    obtain ⟨rfl, rfl, rfl⟩ := h0
    simp only [if_true] at hmm
    subst hmm
    simp only [Prod.mk.injEq] at hx
    refine ⟨hl, hm, .inr ⟨_, _, hx.1, by simp; omega⟩, fun hpos => ?_⟩
    have cell : ∀ i, i < m → ∀ j f, fs[j]? = some f → ∃ v y n', w.cell? (a.add (i * fs.size + j)) = some v ∧ DataW.trod enc P w 0 (fun _ => true) true n' f.type [v] = some y := by
      intro i him j f hj
      obtain ⟨cs', hc, ht'⟩ := hi i him
      rw [hC] at hc
      obtain ⟨ys, n', _, _, hlen, hyl, hf⟩ := DataW.trod_struct he ht'
      obtain ⟨_, hcl, hat⟩ := World.cells?_some hc
      obtain ⟨ho, hk⟩ := hone_of hone j f hj
      have hjl : j < fs.size := (Array.getElem?_eq_some_iff.1 hj).1
      have h1 := hf j f hj
      rw [ho, hk, List.drop_eq_getElem_cons (by omega : j < cs'.length), List.getElem?_eq_getElem (by omega)] at h1
      have hcell := hat j hjl
      rw [List.getElem?_eq_getElem (by omega)] at hcell
      exact ⟨_, _, n', by rw [← add_add]; exact hcell, h1⟩
    obtain ⟨f0, hf0⟩ : ∃ f0, fs[0]? = some f0 := ⟨fs[0], Array.getElem?_eq_getElem hp⟩
    obtain ⟨v0, _, _, hc0, _⟩ := cell 0 (by omega) 0 f0 hf0
    have hsp := World.cell?_spot hc0
    obtain ⟨b, off, sp⟩ := a
    have hsp' : sp = none := by simpa [Addr.add] using hsp
    subst hsp'
    refine ⟨b, off, rfl, ?_, fun i hi' j f hj => ?_⟩
    · have := World.block_lt_of_cell? w _ hc0
      simpa [Addr.add] using this
    · obtain ⟨v, y, n', hc, ht'⟩ := cell i (by omega) j f hj
      exact ⟨v, y, n', by rw [add_plain2] at hc; exact hc, ht'⟩
end

/-- a list out of what is known of each place -/
theorem list_of {α : Type} (d : α) (n : Nat) (R : Nat → α → Prop) (h : ∀ i, i < n → ∃ x, R i x) : ∃ xs : List α, xs.length = n ∧ ∀ i, i < n → R i (xs.getD i d) := by
  induction n with
  | zero => exact ⟨[], rfl, fun i hi => absurd hi (by omega)⟩
  | succ n ih =>
    obtain ⟨xs, hl, hx⟩ := ih fun i hi => h i (by omega)
    obtain ⟨x, hxn⟩ := h n (by omega)
    refine ⟨xs ++ [x], by simp [hl], fun i hi => ?_⟩
    by_cases c : i < n
    · have := hx i c
      rw [List.getD_eq_getElem?_getD, List.getElem?_append_left (by omega), ← List.getD_eq_getElem?_getD]
      exact this
    · obtain rfl : i = n := by omega
      rw [List.getD_eq_getElem?_getD, List.getElem?_append_right (by omega), hl, Nat.sub_self]
      exact hxn

section
variable {H : Type} {enc : TypeId × Value → H} {P : Program} {w : World}
theorem open_raws {t e : TypeId} {f0 f1 f2 f3 : Field} {fuel : Nat} {ao : Option Addr} {len cap : Nat} {d : DataW H} {pl : List MemPlace} (ht : P.underlying t = some (.slice e)) (he : P.underlying e = some (.struct #[f0, f1, f2, f3]))
    (hone : oneCellFields P #[f0, f1, f2, f3] = true) (hC : P.cellsOf e = 4) (t0 : P.underlying f0.type = some (.int .i64)) (t1 : P.underlying f1.type = some (.int .i64)) (t2 : P.underlying f2.type = some (.int .i64)) (t3 : P.underlying f3.type = some .string)
    (h : DataW.trod enc P w 0 (fun _ => true) true fuel t (Value.slice ao len cap).cells.toList = some (d, pl)) :
    ∃ rs : List RawT, rs.length = len ∧ RawRow w w.heap.size ao rs ∧ len ≤ cap ∧ cap ≤ maxLen ∧ ((d = .nil ∧ cap = 0) ∨ ∃ xs ys, d = .slice xs ys ∧ xs.length + ys.length = cap) ∧ ∀ i, i < len → (Lit.int .i64 (rs.getD i raw0).kind).wf = true ∧ (Lit.int .i64 (rs.getD i raw0).a).wf = true ∧ (Lit.int .i64 (rs.getD i raw0).b).wf = true ∧ (rs.getD i raw0).text.size ≤ maxLen := by
  obtain ⟨hl, hm, hd, hrow⟩ := open_recs ht he hone hC (by simp) h
  rcases Nat.eq_zero_or_pos len with h0 | h0
  · subst h0
    exact ⟨[], rfl, fun h => absurd h (by simp), hl, hm, hd, fun i hi => absurd hi (by omega)⟩
  · obtain ⟨b, off, rfl, hb, hc⟩ := hrow h0
    obtain ⟨rs, hrl, hrs⟩ := list_of raw0 len (fun i r => w.cell? ⟨b, off + i * 4, none⟩ = some (.int .i64 r.kind) ∧ w.cell? ⟨b, off + i * 4 + 1, none⟩ = some (.int .i64 r.a) ∧
        w.cell? ⟨b, off + i * 4 + 2, none⟩ = some (.int .i64 r.b) ∧ w.cell? ⟨b, off + i * 4 + 3, none⟩ = some (.string r.text) ∧ (Lit.int .i64 r.kind).wf = true ∧ (Lit.int .i64 r.a).wf = true ∧ (Lit.int .i64 r.b).wf = true ∧ r.text.size ≤ maxLen) (fun i hi => by
      obtain ⟨v0, y0, n0, c0, k0⟩ := hc i hi 0 f0 rfl
      obtain ⟨v1, y1, n1, c1, k1⟩ := hc i hi 1 f1 rfl
      obtain ⟨v2, y2, n2, c2, k2⟩ := hc i hi 2 f2 rfl
      obtain ⟨v3, y3, n3, c3, k3⟩ := hc i hi 3 f3 rfl
      obtain ⟨x0, e0, _, w0⟩ := DataW.trod_int t0 k0
      obtain ⟨x1, e1, _, w1⟩ := DataW.trod_int t1 k1
      obtain ⟨x2, e2, _, w2⟩ := DataW.trod_int t2 k2
      obtain ⟨x3, e3, _, w3⟩ := DataW.trod_string t3 k3
      simp only [List.cons.injEq, and_true] at e0 e1 e2 e3
      subst e0 e1 e2 e3
      refine ⟨⟨x0, x1, x2, x3⟩, ?_, ?_, ?_, ?_, w0, w1, w2, w3⟩
      · simpa using c0
      · simpa [Nat.add_assoc] using c1
      · simpa [Nat.add_assoc] using c2
      · simpa [Nat.add_assoc] using c3)
    exact ⟨rs, hrl, fun _ => ⟨b, off, rfl, hb, fun j hj => ⟨(hrs j (by omega)).1, (hrs j (by omega)).2.1, (hrs j (by omega)).2.2.1, (hrs j (by omega)).2.2.2.1⟩⟩, hl, hm, hd, fun i hi => (hrs i hi).2.2.2.2⟩

theorem open_rngs {t e : TypeId} {f0 f1 : Field} {fuel : Nat} {ao : Option Addr} {len cap : Nat} {d : DataW H} {pl : List MemPlace} (ht : P.underlying t = some (.slice e)) (he : P.underlying e = some (.struct #[f0, f1]))
    (hone : oneCellFields P #[f0, f1] = true) (hC : P.cellsOf e = 2) (t0 : P.underlying f0.type = some (.int .i64)) (t1 : P.underlying f1.type = some (.int .i64))
    (h : DataW.trod enc P w 0 (fun _ => true) true fuel t (Value.slice ao len cap).cells.toList = some (d, pl)) :
    ∃ ps : List (Int × Int), ps.length = len ∧ RRow w w.heap.size ao ps ∧ len ≤ cap ∧ cap ≤ maxLen ∧ ((d = .nil ∧ cap = 0) ∨ ∃ xs ys, d = .slice xs ys ∧ xs.length + ys.length = cap) ∧ ∀ i, i < len → (Lit.int .i64 (ps.getD i (0, 0)).1).wf = true ∧ (Lit.int .i64 (ps.getD i (0, 0)).2).wf = true := by
  obtain ⟨hl, hm, hd, hrow⟩ := open_recs ht he hone hC (by simp) h
  rcases Nat.eq_zero_or_pos len with h0 | h0
  · subst h0
    exact ⟨[], rfl, RRow.nil _ _ _, hl, hm, hd, fun i hi => absurd hi (by omega)⟩
  · obtain ⟨b, off, rfl, hb, hc⟩ := hrow h0
    obtain ⟨ps, hrl, hrs⟩ := list_of ((0 : Int), (0 : Int)) len (fun i r => w.cell? ⟨b, off + i * 2, none⟩ = some (.int .i64 r.1) ∧ w.cell? ⟨b, off + i * 2 + 1, none⟩ = some (.int .i64 r.2) ∧ (Lit.int .i64 r.1).wf = true ∧ (Lit.int .i64 r.2).wf = true) (fun i hi => by
      obtain ⟨v0, y0, n0, c0, k0⟩ := hc i hi 0 f0 rfl
      obtain ⟨v1, y1, n1, c1, k1⟩ := hc i hi 1 f1 rfl
      obtain ⟨x0, e0, _, w0⟩ := DataW.trod_int t0 k0
      obtain ⟨x1, e1, _, w1⟩ := DataW.trod_int t1 k1
      simp only [List.cons.injEq, and_true] at e0 e1
      subst e0 e1
      refine ⟨⟨x0, x1⟩, ?_, ?_, w0, w1⟩
      · simpa using c0
      · simpa [Nat.add_assoc] using c1)
    exact ⟨ps, hrl, fun _ => ⟨b, off, rfl, hb, fun j hj => ⟨(hrs j (by omega)).1, (hrs j (by omega)).2.1⟩⟩, hl, hm, hd, fun i hi => (hrs i hi).2.2⟩

/-- a struct of two numbers, by value -/
theorem open_two {r : Reach} {b0 : Nat} {t : TypeId} {f0 f1 : Field} {v : Value} {d : DataW H} {pl : List MemPlace} (ht : P.underlying t = some (.struct #[f0, f1])) (hone : oneCellFields P #[f0, f1] = true) (hC : P.cellsOf t = 2)
    (t0 : P.underlying f0.type = some (.int .i64)) (t1 : P.underlying f1.type = some (.int .i64)) (hv : Value.okWide P w r b0 t v) (h : DataW.Trod enc P w 0 (fun _ => true) true t v d pl) :
    ∃ x y : Int, v = .agg #[.int .i64 x, .int .i64 y] ∧ (Lit.int .i64 x).wf = true ∧ (Lit.int .i64 y).wf = true := by
  obtain ⟨cs, rfl, hsz⟩ := okWide_struct ht hv
  obtain ⟨l⟩ := cs
  match l, hsz.trans hC with
  | [c0, c1], _ =>
    obtain ⟨fuel, hf⟩ := h
    obtain ⟨xs, n, _, hx, _, hlen, hg⟩ := DataW.trod_struct ht hf
    obtain ⟨o0, k0⟩ := hone_of hone 0 f0 rfl
    obtain ⟨o1, k1⟩ := hone_of hone 1 f1 rfl
    match xs, hlen with
    | [y0, y1], _ =>
      have g0 := hg 0 f0 rfl
      have g1 := hg 1 f1 rfl
      rw [o0, k0] at g0
      rw [o1, k1] at g1
      obtain ⟨x, e0, _, w0⟩ := DataW.trod_int t0 g0
      obtain ⟨y, e1, _, w1⟩ := DataW.trod_int t1 g1
      simp [Value.cells] at e0 e1
      subst e0 e1
      exact ⟨x, y, rfl, w0, w1⟩
end
end Go.Proofs.Ytpfahdogedchpaa.P
