/- Fields and tables, by value as arguments: opened to bytes and rows. Nothing of the program's but the shapes. -/
import Derived.Test.YtajjelcjgcgfdaaOpen
import Derived.Test.YtajjelcjgcgfdaaOpenHd
import Derived.Test.YtajjelcjgcgfdaaWeigh
import Derived.Test.YtajjelcjgcgfdaaFrOf
import Derived.Test.YtajjelcjgcgfdaaTabVal
import Derived.SizedLaws
namespace Go.Proofs.Ytajjelcjgcgfdaa.P
set_option linter.unusedVariables false
open Go.RowKit Go.ChangeShapes Go.WideShapes Go.Deep

theorem rowE_of {w : World} {a : Addr} {l : List Fld} (hsp : a.spot = none) (hb : 0 < l.length → a.block < w.heap.size) (h : ∀ i, i < l.length → w.cell? (a.add (i * 2)) = some (.string (strOfNums (l.getD i fd0).name)) ∧ w.cell? (a.add (i * 2 + 1)) = some (.string (strOfNums (l.getD i fd0).val))) : RowE FdE w w.heap.size (some a) l := fun hn => by
  obtain ⟨b, off, sp⟩ := a
  simp only at hsp
  subst hsp
  refine ⟨b, off, rfl, hb hn, fun j u hj => ?_⟩
  have hjl := (List.getElem?_eq_some_iff.1 hj).1
  rw [FdE.cat_len] at hjl
  have hk : FdE.k = 2 := rfl
  rw [hk] at hjl
  have hi : j / 2 < l.length := by omega
  have g : l.getD (j / 2) fd0 = l[j / 2] := by rw [List.getD_eq_getElem?_getD, List.getElem?_eq_getElem hi]; rfl
  obtain ⟨h0, h1⟩ := h (j / 2) hi
  rw [add_plain2, g] at h0 h1
  have hm : j % 2 = 0 ∨ j % 2 = 1 := by omega
  rcases hm with hm | hm
  · have e := FdE.cat_at l (j / 2) 0 hi (by decide)
    rw [hk, show j / 2 * 2 + 0 = j by omega, hj] at e
    rw [show j = j / 2 * 2 by omega, h0]
    exact (Option.some.inj e) ▸ rfl
  · have e := FdE.cat_at l (j / 2) 1 hi (by decide)
    rw [hk, show j / 2 * 2 + 1 = j by omega, hj] at e
    rw [show j = j / 2 * 2 + 1 by omega, h1]
    exact (Option.some.inj e) ▸ rfl
section
variable {H : Type} {enc : TypeId × Value → H} {P : Program} {w : World}
theorem open_flds {t e : TypeId} {g0 g1 : Field} {fuel : Nat} {ao : Option Addr} {len cap : Nat} {d : DataW H} {pl : List MemPlace} (ht : P.underlying t = some (.slice e)) (he : P.underlying e = some (.struct #[g0, g1])) (hone : oneCellFields P #[g0, g1] = true) (hC : P.cellsOf e = 2) (hB : P.bytesOf e = 32)
    (u0 : P.underlying g0.type = some .string) (u1 : P.underlying g1.type = some .string)
    (h : DataW.trod enc P w 0 (fun _ => true) true fuel t [.slice ao len cap] = some (d, pl)) :
    ∃ l : List Fld, l.length = len ∧ RowE FdE w w.heap.size ao l ∧ len ≤ cap ∧ cap ≤ maxLen ∧ ((∀ n ∈ d.weights P t, n ≤ 140737488351232) → len ≤ 8796093022208 ∧ ∀ x ∈ l, FdWf x) := by
  rcases open_slice ht h with ⟨h0, hx⟩ | ⟨a, len', cap', m, n, D, Pl, h0, hb, hl, hm, hmm, hx, hi⟩
  · simp only [List.cons.injEq, Value.slice.injEq, and_true] at h0
    obtain ⟨rfl, rfl, rfl⟩ := h0
    exact ⟨[], rfl, RowE.nil _ _ _, Nat.le_refl _, by unfold maxLen; omega, fun _ => ⟨by omega, fun x hx => (by cases hx)⟩⟩
  · simp only [List.cons.injEq, Value.slice.injEq, and_true] at h0
    obtain ⟨rfl, rfl, rfl⟩ := h0
    simp only [if_true] at hmm
    subst hmm
    have hd := (Prod.mk.inj hx).1
    obtain ⟨ho0, hk0⟩ := hone_of hone 0 g0 rfl
    obtain ⟨ho1, hk1⟩ := hone_of hone 1 g1 rfl
    obtain ⟨ps, hpl, hps⟩ := list_of fd0 len (fun i p => w.cell? (a.add (i * 2)) = some (.string (strOfNums p.name)) ∧ w.cell? (a.add (i * 2 + 1)) = some (.string (strOfNums p.val)) ∧ Byt p.name ∧ Byt p.val ∧ ((∀ n ∈ (D i).weights P e, n ≤ 140737488351232) → p.name.length ≤ 140737488351232 ∧ p.val.length ≤ 140737488351232)) (fun i him => by
      obtain ⟨cs', hc, ht'⟩ := hi i (by omega)
      rw [hC] at hc
      obtain ⟨y0, y1, n', hdi, hcl, k0, k1⟩ := trod_struct2 he ht'
      obtain ⟨_, hcl2, hat⟩ := World.cells?_some hc
      match cs', hcl2 with
      | [c0, c1], _ =>
        rw [ho0, hk0] at k0
        rw [ho1, hk1] at k1
        simp only [List.drop_zero, List.take_succ_cons, List.take_zero, List.drop_succ_cons] at k0 k1
        have a0 := hat 0 (by omega)
        have a1 := hat 1 (by omega)
        rw [add_add] at a0 a1
        simp only [List.getElem?_cons_zero, List.getElem?_cons_succ, Nat.add_zero] at a0 a1
        obtain ⟨x0, e0, z0, w0⟩ := DataW.trod_string u0 k0
        obtain ⟨x1, e1, z1, w1⟩ := DataW.trod_string u1 k1
        simp only [List.cons.injEq, and_true] at e0 e1
        subst e0 e1
        have hD := (Prod.mk.inj hdi).1
        refine ⟨⟨numsOf x0, numsOf x1⟩, by simp only [numsOf_str]; exact a0, by simp only [numsOf_str]; exact a1, numsOf_byt _, numsOf_byt _, fun hn => ⟨?_, ?_⟩⟩
        · simp only [numsOf_len]
          refine hn _ ?_
          rw [hD, z0]
          simp only [DataW.weights, he, List.map_cons, List.map_nil, DataW.weightsEach, List.mem_append, List.mem_cons]
          exact .inl (.inl (by rw [Array.length_toList]; rfl))
        · simp only [numsOf_len]
          refine hn _ ?_
          rw [hD, z1]
          simp only [DataW.weights, he, List.map_cons, List.map_nil, DataW.weightsEach, List.mem_append, List.mem_cons]
          exact .inr (.inl (.inl (by rw [Array.length_toList]; rfl))))
    have hmem : ∀ p ∈ ps, ∃ i, i < len ∧ ps.getD i fd0 = p := fun p hp => by
      obtain ⟨i, hi', rfl⟩ := List.getElem_of_mem hp
      exact ⟨i, by omega, by rw [List.getD_eq_getElem?_getD, List.getElem?_eq_getElem hi']; rfl⟩
    refine ⟨ps, hpl, fun hn => ?_, hl, hm, fun hw => ⟨?_, fun p hp => ?_⟩⟩
    · obtain ⟨c0, _⟩ := hps 0 (by omega)
      have hsp := World.cell?_spot c0
      have hbl := World.block_lt_of_cell? w _ c0
      have hsp' : a.spot = none := by simpa [Addr.add] using hsp
      have hbl' : a.block < w.heap.size := by
        have : (a.add (0 * 2)).block = a.block := by unfold Addr.add; split <;> rfl
        rw [this] at hbl
        exact hbl
      exact rowE_of hsp' (fun _ => hbl') (fun i hi' => ⟨(hps i (by omega)).1, (hps i (by omega)).2.1⟩) hn
    · have := hw _ (by
        rw [hd]
        simp only [DataW.weights, ht, List.mem_cons]
        exact .inl rfl)
      rw [hB] at this
      simp only [List.length_map, List.length_range] at this
      omega
    · obtain ⟨i, hi', rfl⟩ := hmem p hp
      obtain ⟨_, _, b0, b1, hz⟩ := hps i hi'
      have := hz fun n hn => hw n (by
        rw [hd]
        simp only [DataW.weights, ht, List.mem_cons, List.mem_append]
        exact .inr (.inl (weigh_mem (List.mem_map.2 ⟨i, List.mem_range.2 hi', rfl⟩) n hn)))
      exact ⟨b0, b1, by omega, by omega⟩
theorem i64_b {n : Int} (h : (Lit.int .i64 n).wf = true) : -9223372036854775808 ≤ n ∧ n ≤ 9223372036854775807 := bounds_i64 h
theorem open_tb {r : Reach} {b0 : Nat} {t e : TypeId} {f0 f1 f2 g0 g1 : Field} {v : Value} {d : DataW H} {pl : List MemPlace} (ht : P.underlying t = some (.struct #[f0, f1, f2])) (hone : oneCellFields P #[f0, f1, f2] = true) (hC : P.cellsOf t = 3)
    (k0 : P.underlying f0.type = some (.int .i64)) (k1 : P.underlying f1.type = some (.int .i64)) (k2 : P.underlying f2.type = some (.slice e))
    (he : P.underlying e = some (.struct #[g0, g1])) (hone2 : oneCellFields P #[g0, g1] = true) (hC2 : P.cellsOf e = 2) (hB : P.bytesOf e = 32) (u0 : P.underlying g0.type = some .string) (u1 : P.underlying g1.type = some .string)
    (hv : Value.okWide P w r b0 t v) (h : DataW.Trod enc P w 0 (fun _ => true) true t v d pl) :
    ∃ x : Tb, TbVal w w.heap.size v x ∧ ((∀ n ∈ d.weights P t, n ≤ 140737488351232) → TbWf x) := by
  obtain ⟨cs, rfl, hsz⟩ := okWide_struct ht hv
  obtain ⟨l⟩ := cs
  match l, hsz.trans hC with
  | [c0, c1, c2], _ =>
    obtain ⟨fuel, hf⟩ := h
    obtain ⟨xs, n, _, hx, _, hlen, hg⟩ := DataW.trod_struct ht hf
    obtain ⟨o0, s0⟩ := hone_of hone 0 f0 rfl
    obtain ⟨o1, s1⟩ := hone_of hone 1 f1 rfl
    obtain ⟨o2, s2⟩ := hone_of hone 2 f2 rfl
    match xs, hlen with
    | [y0, y1, y2], _ =>
      have q0 : DataW.trod enc P w 0 (fun _ => true) true n f0.type [c0] = some y0 := by simpa [Value.cells, o0, s0] using hg 0 f0 rfl
      have q1 : DataW.trod enc P w 0 (fun _ => true) true n f1.type [c1] = some y1 := by simpa [Value.cells, o1, s1] using hg 1 f1 rfl
      have q2 : DataW.trod enc P w 0 (fun _ => true) true n f2.type [c2] = some y2 := by simpa [Value.cells, o2, s2] using hg 2 f2 rfl
      obtain ⟨x0, e0, _, w0⟩ := DataW.trod_int k0 q0
      obtain ⟨x1, e1', _, w1⟩ := DataW.trod_int k1 q1
      obtain ⟨A, m, c, e2'⟩ := slice_of1 k2 q2
      simp only [List.cons.injEq, and_true] at e0 e1'
      subst e0 e1' e2'
      obtain ⟨l, hpl, hpr, hpc, hpm, hpw⟩ := open_flds (d := y2.1) (pl := y2.2) k2 he hone2 hC2 hB u0 u1 q2
      have hd : d = .agg [y0.1, y1.1, y2.1] := by simpa using (Prod.mk.inj hx).1
      refine ⟨⟨x0, x1, l⟩, ⟨_, rfl, ⟨A, c, by rw [hpl], by rw [hpl]; exact hpc, hpm, hpr⟩⟩, fun hn => ?_⟩
      obtain ⟨a1, a2⟩ := hpw fun n hn' => hn n (by
        rw [hd]
        simp only [DataW.weights, ht, List.map_cons, List.map_nil, DataW.weightsEach, List.mem_append]
        exact .inr (.inr (.inl hn')))
      exact ⟨i64_b w0, i64_b w1, by rw [hpl]; exact a1, a2⟩
theorem open_fld {r : Reach} {b0 : Nat} {t : TypeId} {g0 g1 : Field} {v : Value} {d : DataW H} {pl : List MemPlace} (ht : P.underlying t = some (.struct #[g0, g1])) (hone : oneCellFields P #[g0, g1] = true) (hC : P.cellsOf t = 2)
    (u0 : P.underlying g0.type = some .string) (u1 : P.underlying g1.type = some .string)
    (hv : Value.okWide P w r b0 t v) (h : DataW.Trod enc P w 0 (fun _ => true) true t v d pl) :
    ∃ x : Fld, v = fdV x ∧ ((∀ n ∈ d.weights P t, n ≤ 140737488351232) → FdWf x) := by
  obtain ⟨cs, rfl, hsz⟩ := okWide_struct ht hv
  obtain ⟨l⟩ := cs
  match l, hsz.trans hC with
  | [c0, c1], _ =>
    obtain ⟨fuel, hf⟩ := h
    obtain ⟨xs, n, _, hx, _, hlen, hg⟩ := DataW.trod_struct ht hf
    obtain ⟨o0, s0⟩ := hone_of hone 0 g0 rfl
    obtain ⟨o1, s1⟩ := hone_of hone 1 g1 rfl
    match xs, hlen with
    | [y0, y1], _ =>
      have q0 : DataW.trod enc P w 0 (fun _ => true) true n g0.type [c0] = some y0 := by simpa [Value.cells, o0, s0] using hg 0 g0 rfl
      have q1 : DataW.trod enc P w 0 (fun _ => true) true n g1.type [c1] = some y1 := by simpa [Value.cells, o1, s1] using hg 1 g1 rfl
      obtain ⟨x0, e0, z0, w0⟩ := DataW.trod_string u0 q0
      obtain ⟨x1, e1, z1, w1⟩ := DataW.trod_string u1 q1
      simp only [List.cons.injEq, and_true] at e0 e1
      subst e0 e1
      have hd : d = .agg [y0.1, y1.1] := by simpa using (Prod.mk.inj hx).1
      refine ⟨⟨numsOf x0, numsOf x1⟩, by unfold fdV; simp only [numsOf_str], fun hn => ⟨numsOf_byt _, numsOf_byt _, ?_, ?_⟩⟩
      · simp only [numsOf_len]
        refine Nat.le_trans (hn x0.size ?_) (by decide)
        rw [hd, z0]
        simp only [DataW.weights, ht, List.map_cons, List.map_nil, DataW.weightsEach, List.mem_append, List.mem_cons]
        exact .inl (.inl (by rw [Array.length_toList]; rfl))
      · simp only [numsOf_len]
        refine Nat.le_trans (hn x1.size ?_) (by decide)
        rw [hd, z1]
        simp only [DataW.weights, ht, List.map_cons, List.map_nil, DataW.weightsEach, List.mem_append, List.mem_cons]
        exact .inr (.inl (.inl (by rw [Array.length_toList]; rfl)))
end
end Go.Proofs.Ytajjelcjgcgfdaa.P
