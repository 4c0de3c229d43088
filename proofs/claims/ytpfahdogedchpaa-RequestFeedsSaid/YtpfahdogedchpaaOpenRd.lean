/- Readers of requests, by value as arguments: opened to bytes and rows. Nothing of the program's but the shapes. -/
import Derived.Test.YtpfahdogedchpaaGrpD
namespace Go.Proofs.Ytpfahdogedchpaa.P
set_option linter.unusedVariables false
open Go.RowKit Go.ChangeShapes Go.WideShapes Go.Deep

section
variable {H : Type} {enc : TypeId × Value → H} {P : Program} {w : World}
theorem flds_few {t e : TypeId} {fuel : Nat} {ao : Option Addr} {len cap : Nat} {d : DataW H} {pl : List MemPlace} (ht : P.underlying t = some (.slice e)) (hB : P.bytesOf e = 32)
    (h : DataW.trod enc P w 0 (fun _ => true) true fuel t [.slice ao len cap] = some (d, pl)) (hw : ∀ n ∈ d.weights P t, n ≤ 140737488351232) : len ≤ 4398046510976 := by
  rcases open_slice ht h with ⟨h0, hx⟩ | ⟨a, len', cap', m, n, D, Pl, h0, hb, hl, hm, hmm, hx, hi⟩
  · simp only [List.cons.injEq, Value.slice.injEq, and_true] at h0
    obtain ⟨rfl, rfl, rfl⟩ := h0
    omega
  · simp only [List.cons.injEq, Value.slice.injEq, and_true] at h0
    obtain ⟨rfl, rfl, rfl⟩ := h0
    simp only [if_true] at hmm
    subst hmm
    have hd := (Prod.mk.inj hx).1
    have := hw _ (by
      rw [hd]
      simp only [DataW.weights, ht, List.mem_cons]
      exact .inl rfl)
    rw [hB] at this
    simp only [List.length_map, List.length_range] at this
    omega
theorem open_rd {r : Reach} {b0 : Nat} {t e e2 : TypeId} {f0 f1 f2 f3 f4 g0 g1 : Field} {v : Value} {d : DataW H} {pl : List MemPlace} (ht : P.underlying t = some (.struct #[f0, f1, f2, f3, f4])) (hone : oneCellFields P #[f0, f1, f2, f3, f4] = true) (hC : P.cellsOf t = 5)
    (k0 : P.underlying f0.type = some (.slice e2)) (k1 : P.underlying f1.type = some (.slice e)) (k2 : P.underlying f2.type = some .bool) (k3 : P.underlying f3.type = some (.slice e2)) (k4 : P.underlying f4.type = some .bool)
    (he2 : P.underlying e2 = some (.int .u8)) (hC3 : P.cellsOf e2 = 1)
    (he : P.underlying e = some (.struct #[g0, g1])) (hone2 : oneCellFields P #[g0, g1] = true) (hC2 : P.cellsOf e = 2) (hB : P.bytesOf e = 32) (u0 : P.underlying g0.type = some .string) (u1 : P.underlying g1.type = some .string)
    (hv : Value.okWide P w r b0 t v) (h : DataW.Trod enc P w 0 (fun _ => true) true t v d pl) :
    ∃ (Ah : Option Addr) (nh ch : Nat) (Af : Option Addr) (nf cf : Nat) (Ab : Option Addr) (nb cb : Nat) (b2 b4 : Bool) (held : List Int) (fl : List Fld) (body : List Int),
      v = .agg #[.slice Ah nh ch, .slice Af nf cf, .bool b2, .slice Ab nb cb, .bool b4] ∧ BSl w w.heap.size (.slice Ah nh ch) held ∧ FSl w w.heap.size (.slice Af nf cf) fl ∧ BSl w w.heap.size (.slice Ab nb cb) body ∧ ((∀ n ∈ d.weights P t, n ≤ 140737488351232) → nf ≤ 4398046510976) := by
  obtain ⟨cs, rfl, hsz⟩ := okWide_struct ht hv
  obtain ⟨l⟩ := cs
  match l, hsz.trans hC with
  | [c0, c1, c2, c3, c4], _ =>
    obtain ⟨fuel, hf⟩ := h
    obtain ⟨xs, n, _, hx, _, hlen, hg⟩ := DataW.trod_struct ht hf
    obtain ⟨o0, s0⟩ := hone_of hone 0 f0 rfl
    obtain ⟨o1, s1⟩ := hone_of hone 1 f1 rfl
    obtain ⟨o2, s2⟩ := hone_of hone 2 f2 rfl
    obtain ⟨o3, s3⟩ := hone_of hone 3 f3 rfl
    obtain ⟨o4, s4⟩ := hone_of hone 4 f4 rfl
    match xs, hlen with
    | [y0, y1, y2, y3, y4], _ =>
      have q0 : DataW.trod enc P w 0 (fun _ => true) true n f0.type [c0] = some y0 := by simpa [Value.cells, o0, s0] using hg 0 f0 rfl
      have q1 : DataW.trod enc P w 0 (fun _ => true) true n f1.type [c1] = some y1 := by simpa [Value.cells, o1, s1] using hg 1 f1 rfl
      have q2 : DataW.trod enc P w 0 (fun _ => true) true n f2.type [c2] = some y2 := by simpa [Value.cells, o2, s2] using hg 2 f2 rfl
      have q3 : DataW.trod enc P w 0 (fun _ => true) true n f3.type [c3] = some y3 := by simpa [Value.cells, o3, s3] using hg 3 f3 rfl
      have q4 : DataW.trod enc P w 0 (fun _ => true) true n f4.type [c4] = some y4 := by simpa [Value.cells, o4, s4] using hg 4 f4 rfl
      obtain ⟨Ah, nh, ch, held, rfl, hb0⟩ := open_byt k0 he2 hC3 q0
      obtain ⟨A, m, c, e1'⟩ := slice_of1 k1 q1
      subst e1'
      obtain ⟨x2, e2', _⟩ := DataW.trod_bool k2 q2
      obtain ⟨Ab, nb, cb, body, rfl, hb3⟩ := open_byt k3 he2 hC3 q3
      obtain ⟨x4, e4', _⟩ := DataW.trod_bool k4 q4
      simp only [List.cons.injEq, and_true] at e2' e4'
      subst e2' e4'
      obtain ⟨l, hpl, hpr, hpc, hpm, hpw⟩ := open_flds (d := y1.1) (pl := y1.2) k1 he hone2 hC2 hB u0 u1 q1
      have hd : d = .agg [y0.1, y1.1, y2.1, y3.1, y4.1] := by simpa using (Prod.mk.inj hx).1
      refine ⟨Ah, nh, ch, A, m, c, Ab, nb, cb, x2, x4, held, l, body, rfl, hb0, ⟨A, c, by rw [hpl], by rw [hpl]; exact hpc, hpm, hpr⟩, hb3, fun hn => ?_⟩
      exact flds_few (d := y1.1) (pl := y1.2) k1 hB q1 fun n hn' => hn n (by
        rw [hd]
        simp only [DataW.weights, ht, List.map_cons, List.map_nil, DataW.weightsEach, List.mem_append]
        exact .inr (.inl hn'))
end
end Go.Proofs.Ytpfahdogedchpaa.P
