/- A gather, by value as an argument: opened to numbers, pieces and rows of bytes. Nothing of the program's but the shapes. -/
import Derived.Test.YtfbjgbnlgaajaaaOpen
import Derived.Test.YtfbjgbnlgaajaaaOpenHd
import Derived.Test.YtfbjgbnlgaajaaaGaGrp
import Derived.Test.YtfbjgbnlgaajaaaBulk
import Derived.SizedLaws
namespace Go.Proofs.Ytfbjgbnlgaajaaa.P
set_option linter.unusedVariables false
open Go.RowKit Go.ChangeShapes Go.WideShapes Go.Deep

section
variable {H : Type} {enc : TypeId × Value → H} {P : Program} {w : World}
theorem row_bsl {A : Option Addr} {m c : Nat} {zs : List Int} (hz : IsRow .u8 w A m c zs) : BSl w w.heap.size (.slice A m c) (zs.take m) ∧ (zs.take m).length = m ∧ m ≤ c := by
  obtain ⟨hb, hzl, hzc, hzm⟩ := InRow.brow hz
  have hnone : A = none → c = 0 := by
    rcases hz with ⟨_, _, h, _⟩ | ⟨x, h, _⟩
    · exact fun _ => h
    · intro e; rw [h] at e; cases e
  exact ⟨⟨A, c, by rw [hzl], by rw [hzl]; exact hzc, hzm, hnone, hb⟩, hzl, hzc⟩
/-- bytes that came in: what they weigh, their bulk -/
theorem open_bytes {t e : TypeId} {fuel : Nat} {v : Value} {d : DataW H} {pl : List MemPlace} (ht : P.underlying t = some (.slice e)) (he : P.underlying e = some (.int .u8)) (hC : P.cellsOf e = 1) (hB : P.bytesOf e = 1)
    (h : DataW.trod enc P w 0 (fun _ => true) true fuel t [v] = some (d, pl)) :
    ∃ zs : List Int, BSl w w.heap.size v zs ∧ ((∀ n ∈ d.weights P t, n ≤ 140737488351232) → zs.length ≤ 140737488351232) ∧ zs.length ≤ Rows.uptoBulk d := by
  obtain ⟨A, m, c, rfl⟩ := slice_of1 ht h
  rcases open_ints ht he hC h with ⟨hcs, hx⟩ | ⟨x, l, c', zs, hcs, _, hl, hm, hz, hx, hcell, hwz⟩
  · simp only [List.cons.injEq, Value.slice.injEq, and_true] at hcs
    obtain ⟨rfl, rfl, rfl⟩ := hcs
    exact ⟨[], BSl.nil _ _, fun _ => Nat.zero_le _, Nat.zero_le _⟩
  · simp only [List.cons.injEq, Value.slice.injEq, and_true] at hcs
    obtain ⟨rfl, rfl, rfl⟩ := hcs
    have hz' : zs.length = c := by simpa using hz
    obtain ⟨hb, hzl, hzc⟩ := row_bsl (zs := zs) (w := w) (A := some x) (m := m) (c := c) (.inr ⟨_, rfl, hl, hm, hz', hcell, hwz⟩)
    have hd := (Prod.mk.inj hx).1
    refine ⟨zs.take m, hb, fun hn => ?_, ?_⟩
    · have := hn ((lits (H := H) .u8 (zs.take m)).length + (lits (H := H) .u8 (zs.drop m)).length) (by rw [hd]; simp only [DataW.weights, ht, hB, Nat.mul_one]; exact List.mem_cons_self)
      simp only [lits, List.length_map] at this
      omega
    · rw [hd]
      have := bulk_len (lits (H := H) .u8 (zs.take m))
      simp only [lits, List.length_map] at this
      simp only [Rows.uptoBulk, lits]
      omega
theorem sum_bulk (ps : List Pc) (D : Nat → DataW H) (h : ∀ i, i < ps.length → (ps.getD i pc0).2.length ≤ Rows.uptoBulk (D i)) : ∀ n, n ≤ ps.length → sumP (ps.take n) ≤ Rows.uptoBulkAll ((List.range n).map D)
  | 0, _ => by simp [sumP]
  | n + 1, hn => by
    have ih := sum_bulk ps D h n (by omega)
    rw [take_step (by omega), sumP_app, List.range_succ, List.map_append, bulk_app]
    have := h n (by omega)
    have e : sumP [ps.getD n pc0] = (ps.getD n pc0).2.length := by simp [sumP]
    have e2 : Rows.uptoBulkAll ([n].map D) = Rows.uptoBulk (D n) := by simp [Rows.uptoBulkAll]
    omega
theorem open_pcs {t e e1 : TypeId} {g0 g1 : Field} {fuel : Nat} {ao : Option Addr} {len cap : Nat} {d : DataW H} {pl : List MemPlace} (ht : P.underlying t = some (.slice e)) (he : P.underlying e = some (.struct #[g0, g1])) (hone : oneCellFields P #[g0, g1] = true) (hC : P.cellsOf e = 2)
    (u0 : P.underlying g0.type = some (.int .i64)) (u1 : P.underlying g1.type = some (.slice e1)) (ue : P.underlying e1 = some (.int .u8)) (hC1 : P.cellsOf e1 = 1) (hB1 : P.bytesOf e1 = 1)
    (h : DataW.trod enc P w 0 (fun _ => true) true fuel t [.slice ao len cap] = some (d, pl)) :
    ∃ ps : List Pc, ps.length = len ∧ PRow w w.heap.size ao ps ∧ len ≤ cap ∧ cap ≤ maxLen ∧ (∀ p ∈ ps, (Lit.int .i64 p.1).wf = true) ∧ ((∀ n ∈ d.weights P t, n ≤ 140737488351232) → ∀ p ∈ ps, p.2.length ≤ 140737488351232) ∧ sumP ps ≤ Rows.uptoBulk d := by
  rcases open_slice ht h with ⟨h0, hx⟩ | ⟨a, len', cap', m, n, D, Pl, h0, hb, hl, hm, hmm, hx, hi⟩
  · simp only [List.cons.injEq, Value.slice.injEq, and_true] at h0
    obtain ⟨rfl, rfl, rfl⟩ := h0
    exact ⟨[], rfl, PRow.nil _ _ _, Nat.le_refl _, by unfold maxLen; omega, fun p hp => (by cases hp), fun _ p hp => (by cases hp), Nat.zero_le _⟩
  · simp only [List.cons.injEq, Value.slice.injEq, and_true] at h0
    obtain ⟨rfl, rfl, rfl⟩ := h0
    simp only [if_true] at hmm
    subst hmm
    have hd := (Prod.mk.inj hx).1
    obtain ⟨ho0, hk0⟩ := hone_of hone 0 g0 rfl
    obtain ⟨ho1, hk1⟩ := hone_of hone 1 g1 rfl
    obtain ⟨ps, hpl, hps⟩ := list_of pc0 len (fun i p => w.cell? (a.add (i * 2)) = some (.int .i64 p.1) ∧ (∃ dv, w.cell? (a.add (i * 2 + 1)) = some dv ∧ BSl w w.heap.size dv p.2) ∧ (Lit.int .i64 p.1).wf = true ∧ ((∀ n ∈ (D i).weights P e, n ≤ 140737488351232) → p.2.length ≤ 140737488351232) ∧ p.2.length ≤ Rows.uptoBulk (D i)) (fun i him => by
      obtain ⟨cs', hc, ht'⟩ := hi i (by omega)
      rw [hC] at hc
      obtain ⟨y0, y1, n', hdi, hcl, k0, k1⟩ := trod_struct2 he ht'
      obtain ⟨_, hcl2, hat⟩ := World.cells?_some hc
      match cs', hcl2 with
      | [c0, c1], _ =>
        rw [ho0, hk0] at k0
        rw [ho1, hk1] at k1
        simp only [List.drop_zero, List.take_succ_cons, List.take_zero, List.drop_succ_cons] at k0 k1
        have a0 := hat 0 (by omega)
        have a1 := hat 1 (by omega)
        rw [add_add] at a0 a1
        simp only [List.getElem?_cons_zero, List.getElem?_cons_succ, Nat.add_zero] at a0 a1
        obtain ⟨x0, e0, _, w0⟩ := DataW.trod_int u0 k0
        simp only [List.cons.injEq, and_true] at e0
        subst e0
        obtain ⟨zs, hzb, hzw, hzu⟩ := open_bytes (d := y1.1) (pl := y1.2) u1 ue hC1 hB1 k1
        have hD := (Prod.mk.inj hdi).1
        refine ⟨(x0, zs), a0, ⟨c1, a1, hzb⟩, w0, fun hn => hzw fun n hn' => hn n ?_, ?_⟩
        · rw [hD]
          simp only [DataW.weights, he, List.map_cons, List.map_nil, DataW.weightsEach, List.mem_append]
          exact .inr (.inl hn')
        · rw [hD]
          simp only [Rows.uptoBulk, Rows.uptoBulkAll]
          omega)
    have hmem : ∀ p ∈ ps, ∃ i, i < len ∧ ps.getD i pc0 = p := fun p hp => by
      obtain ⟨i, hi', rfl⟩ := List.getElem_of_mem hp
      exact ⟨i, by omega, by rw [List.getD_eq_getElem?_getD, List.getElem?_eq_getElem hi']; rfl⟩
    refine ⟨ps, hpl, fun hn => ?_, hl, hm, fun p hp => ?_, fun hw p hp => ?_, ?_⟩
    · obtain ⟨c0, _⟩ := hps 0 (by omega)
      have hsp := World.cell?_spot c0
      obtain ⟨b, off, sp⟩ := a
      have hsp' : sp = none := by simpa [Addr.add] using hsp
      subst hsp'
      have hbl := World.block_lt_of_cell? w _ c0
      refine ⟨b, off, rfl, by simpa [Addr.add] using hbl, fun j hj => ?_⟩
      obtain ⟨q0, ⟨dv, q1, q2⟩, _⟩ := hps j (by omega)
      rw [add_plain2] at q0 q1
      exact ⟨q0, dv, by rw [Nat.add_assoc]; exact q1, q2⟩
    · obtain ⟨i, hi', rfl⟩ := hmem p hp
      exact (hps i hi').2.2.1
    · obtain ⟨i, hi', rfl⟩ := hmem p hp
      refine (hps i hi').2.2.2.1 fun n hn => hw n ?_
      rw [hd]
      simp only [DataW.weights, ht, List.mem_cons, List.mem_append]
      exact .inr (.inl (weigh_mem (List.mem_map.2 ⟨i, List.mem_range.2 hi', rfl⟩) n hn))
    · have := sum_bulk ps D (fun i hi' => (hps i (by omega)).2.2.2.2) len (by omega)
      rw [← hpl, List.take_length, hpl] at this
      rw [hd]
      simp only [Rows.uptoBulk]
      omega
theorem open_ga {r : Reach} {b0 : Nat} {t e e1 : TypeId} {f0 f1 f2 f3 g0 g1 : Field} {v : Value} {d : DataW H} {pl : List MemPlace} (ht : P.underlying t = some (.struct #[f0, f1, f2, f3])) (hone : oneCellFields P #[f0, f1, f2, f3] = true) (hC : P.cellsOf t = 4)
    (k0 : P.underlying f0.type = some (.int .i64)) (k1 : P.underlying f1.type = some (.slice e)) (k2 : P.underlying f2.type = some (.int .i64)) (k3 : P.underlying f3.type = some (.int .i64))
    (he : P.underlying e = some (.struct #[g0, g1])) (hone2 : oneCellFields P #[g0, g1] = true) (hC2 : P.cellsOf e = 2)
    (u0 : P.underlying g0.type = some (.int .i64)) (u1 : P.underlying g1.type = some (.slice e1)) (ue : P.underlying e1 = some (.int .u8)) (hC1 : P.cellsOf e1 = 1) (hB1 : P.bytesOf e1 = 1)
    (hv : Value.okWide P w r b0 t v) (h : DataW.Trod enc P w 0 (fun _ => true) true t v d pl) :
    ∃ g : Ga, GaVal w w.heap.size v g ∧ GaWf g ∧ ((∀ n ∈ d.weights P t, n ≤ 140737488351232) → ∀ p ∈ g.held, p.2.length ≤ 140737488351232) ∧ sumP g.held ≤ Rows.uptoBulk d := by
  obtain ⟨cs, rfl, hsz⟩ := okWide_struct ht hv
  obtain ⟨l⟩ := cs
  match l, hsz.trans hC with
  | [c0, c1, c2, c3], _ =>
    obtain ⟨fuel, hf⟩ := h
    obtain ⟨xs, n, _, hx, _, hlen, hg⟩ := DataW.trod_struct ht hf
    obtain ⟨o0, s0⟩ := hone_of hone 0 f0 rfl
    obtain ⟨o1, s1⟩ := hone_of hone 1 f1 rfl
    obtain ⟨o2, s2⟩ := hone_of hone 2 f2 rfl
    obtain ⟨o3, s3⟩ := hone_of hone 3 f3 rfl
    match xs, hlen with
    | [y0, y1, y2, y3], _ =>
      have q0 : DataW.trod enc P w 0 (fun _ => true) true n f0.type [c0] = some y0 := by simpa [Value.cells, o0, s0] using hg 0 f0 rfl
      have q1 : DataW.trod enc P w 0 (fun _ => true) true n f1.type [c1] = some y1 := by simpa [Value.cells, o1, s1] using hg 1 f1 rfl
      have q2 : DataW.trod enc P w 0 (fun _ => true) true n f2.type [c2] = some y2 := by simpa [Value.cells, o2, s2] using hg 2 f2 rfl
      have q3 : DataW.trod enc P w 0 (fun _ => true) true n f3.type [c3] = some y3 := by simpa [Value.cells, o3, s3] using hg 3 f3 rfl
      obtain ⟨x0, e0, _, w0⟩ := DataW.trod_int k0 q0
      obtain ⟨x2, e2, _, w2⟩ := DataW.trod_int k2 q2
      obtain ⟨x3, e3, _, w3⟩ := DataW.trod_int k3 q3
      obtain ⟨A, m, c, e1'⟩ := slice_of1 k1 q1
      simp only [List.cons.injEq, and_true] at e0 e2 e3
      subst e0 e1' e2 e3
      obtain ⟨ps, hpl, hpr, hpc, hpm, hpw, hpn, hpu⟩ := open_pcs (d := y1.1) (pl := y1.2) k1 he hone2 hC2 u0 u1 ue hC1 hB1 q1
      have hd : d = .agg [y0.1, y1.1, y2.1, y3.1] := by simpa using (Prod.mk.inj hx).1
      refine ⟨⟨x0, ps, x2, x3⟩, ⟨_, rfl, ⟨A, c, by rw [hpl], by rw [hpl]; exact hpc, hpm, hpr⟩⟩, ⟨w0, w2, w3, hpw⟩, fun hn => hpn fun n hn' => hn n ?_, ?_⟩
      · rw [hd]
        simp only [DataW.weights, ht, List.map_cons, List.map_nil, DataW.weightsEach, List.mem_append]
        exact .inr (.inl hn')
      · rw [hd]
        simp only [Rows.uptoBulk, Rows.uptoBulkAll]
        omega
end
end Go.Proofs.Ytfbjgbnlgaajaaa.P
