/- A sender, by value as an argument: opened to bytes and sets, with their bulk. Nothing of the program's but the shapes. -/
import Derived.Test.YtkpkgegonfcgnaaOpenB
import Derived.Test.YtkpkgegonfcgnaaSnVal
namespace Go.Proofs.Ytkpkgegonfcgnaa.P
set_option linter.unusedVariables false
open Go.RowKit Go.ChangeShapes Go.WideShapes Go.Deep

section
variable {H : Type} {enc : TypeId × Value → H} {P : Program} {w : World}
theorem open_sn {r : Reach} {b0 : Nat} {t e0 e4 e5 : TypeId} {f0 f1 f2 f3 f4 f5 f6 f7 g0 g1 h0 h1 : Field} {v : Value} {d : DataW H} {pl : List MemPlace} (ht : P.underlying t = some (.struct #[f0, f1, f2, f3, f4, f5, f6, f7])) (hone : oneCellFields P #[f0, f1, f2, f3, f4, f5, f6, f7] = true) (hC : P.cellsOf t = 8)
    (t0 : P.underlying f0.type = some (.slice e0)) (t1 : P.underlying f1.type = some .bool) (t2 : P.underlying f2.type = some (.int .i64)) (t3 : P.underlying f3.type = some (.int .i64)) (t4 : P.underlying f4.type = some (.slice e4)) (t5 : P.underlying f5.type = some (.slice e5)) (t6 : P.underlying f6.type = some .bool) (t7 : P.underlying f7.type = some .bool)
    (he0 : P.underlying e0 = some (.int .u8)) (hC0 : P.cellsOf e0 = 1) (hB0 : P.bytesOf e0 = 1)
    (he4 : P.underlying e4 = some (.struct #[g0, g1])) (hone4 : oneCellFields P #[g0, g1] = true) (hC4 : P.cellsOf e4 = 2) (u0 : P.underlying g0.type = some (.int .i64)) (u1 : P.underlying g1.type = some (.int .i64))
    (he5 : P.underlying e5 = some (.struct #[h0, h1])) (hone5 : oneCellFields P #[h0, h1] = true) (hC5 : P.cellsOf e5 = 2) (x0 : P.underlying h0.type = some (.int .i64)) (x1 : P.underlying h1.type = some (.int .i64))
    (hv : Value.okWide P w r b0 t v) (h : DataW.Trod enc P w 0 (fun _ => true) true t v d pl) (hb : Rows.uptoBulk d ≤ 1048576) :
    ∃ s : Sn, SnVal w w.heap.size v s ∧ SnWf s ∧ s.data.length + s.lost.length + s.acked.length ≤ Rows.uptoBulk d := by
  obtain ⟨cs, rfl, hsz⟩ := okWide_struct ht hv
  obtain ⟨l⟩ := cs
  match l, hsz.trans hC with
  | [c0, c1, c2, c3, c4, c5, c6, c7], _ =>
    obtain ⟨fuel, hf⟩ := h
    obtain ⟨xs, n, _, hx, _, hlen, hg⟩ := DataW.trod_struct ht hf
    obtain ⟨o0, k0⟩ := hone_of hone 0 f0 rfl
    obtain ⟨o1, k1⟩ := hone_of hone 1 f1 rfl
    obtain ⟨o2, k2⟩ := hone_of hone 2 f2 rfl
    obtain ⟨o3, k3⟩ := hone_of hone 3 f3 rfl
    obtain ⟨o4, k4⟩ := hone_of hone 4 f4 rfl
    obtain ⟨o5, k5⟩ := hone_of hone 5 f5 rfl
    obtain ⟨o6, k6⟩ := hone_of hone 6 f6 rfl
    obtain ⟨o7, k7⟩ := hone_of hone 7 f7 rfl
    match xs, hlen with
    | [y0, y1, y2, y3, y4, y5, y6, y7], _ =>
      have q0 : DataW.trod enc P w 0 (fun _ => true) true n f0.type [c0] = some y0 := by simpa [Value.cells, o0, k0] using hg 0 f0 rfl
      have q1 : DataW.trod enc P w 0 (fun _ => true) true n f1.type [c1] = some y1 := by simpa [Value.cells, o1, k1] using hg 1 f1 rfl
      have q2 : DataW.trod enc P w 0 (fun _ => true) true n f2.type [c2] = some y2 := by simpa [Value.cells, o2, k2] using hg 2 f2 rfl
      have q3 : DataW.trod enc P w 0 (fun _ => true) true n f3.type [c3] = some y3 := by simpa [Value.cells, o3, k3] using hg 3 f3 rfl
      have q4 : DataW.trod enc P w 0 (fun _ => true) true n f4.type [c4] = some y4 := by simpa [Value.cells, o4, k4] using hg 4 f4 rfl
      have q5 : DataW.trod enc P w 0 (fun _ => true) true n f5.type [c5] = some y5 := by simpa [Value.cells, o5, k5] using hg 5 f5 rfl
      have q6 : DataW.trod enc P w 0 (fun _ => true) true n f6.type [c6] = some y6 := by simpa [Value.cells, o6, k6] using hg 6 f6 rfl
      have q7 : DataW.trod enc P w 0 (fun _ => true) true n f7.type [c7] = some y7 := by simpa [Value.cells, o7, k7] using hg 7 f7 rfl
      obtain ⟨zs, hz, _, hzb⟩ := open_bytes (d := y0.1) (pl := y0.2) t0 he0 hC0 hB0 q0
      obtain ⟨z1, e1, _⟩ := DataW.trod_bool t1 q1
      obtain ⟨z2, e2, _, w2⟩ := DataW.trod_int t2 q2
      obtain ⟨z3, e3, _, w3⟩ := DataW.trod_int t3 q3
      obtain ⟨ps, hps, hpb, _⟩ := open_rsl (d := y4.1) (pl := y4.2) t4 he4 hone4 hC4 u0 u1 q4
      obtain ⟨qs, hqs, hqb, _⟩ := open_rsl (d := y5.1) (pl := y5.2) t5 he5 hone5 hC5 x0 x1 q5
      obtain ⟨z6, e6, _⟩ := DataW.trod_bool t6 q6
      obtain ⟨z7, e7, _⟩ := DataW.trod_bool t7 q7
      simp only [List.cons.injEq, and_true] at e1 e2 e3 e6 e7
      subst e1 e2 e3 e6 e7
      have hd : d = .agg [y0.1, y1.1, y2.1, y3.1, y4.1, y5.1, y6.1, y7.1] := by simpa using (Prod.mk.inj hx).1
      have hs : zs.length + ps.length + qs.length ≤ Rows.uptoBulk d := by
        rw [hd]
        simp only [Rows.uptoBulk, Rows.uptoBulkAll]
        omega
      exact ⟨⟨zs, z1, z2, z3, ps, qs, z6, z7⟩, ⟨_, _, _, rfl, hz, hps, hqs⟩, ⟨w2, w3, by simp only; omega, by simp only; omega, by simp only; omega⟩, hs⟩
end
end Go.Proofs.Ytkpkgegonfcgnaa.P
