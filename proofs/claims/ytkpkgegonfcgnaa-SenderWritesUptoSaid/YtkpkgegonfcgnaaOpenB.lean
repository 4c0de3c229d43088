/- Bytes, and ranges, within an argument: opened to rows, with their bulk. Nothing of the program's but the shapes. -/
import Derived.Test.YtkpkgegonfcgnaaOpen
import Derived.Test.YtkpkgegonfcgnaaFrVal
import Derived.Test.YtkpkgegonfcgnaaBulk
import Derived.SizedLaws
namespace Go.Proofs.Ytkpkgegonfcgnaa.P
set_option linter.unusedVariables false
open Go.RowKit Go.ChangeShapes Go.WideShapes Go.Deep

section
variable {H : Type} {enc : TypeId × Value → H} {P : Program} {w : World}
theorem slice_of2 {t e : TypeId} {fuel : Nat} {v : Value} {y : DataW H × List MemPlace} (ht : P.underlying t = some (.slice e)) (h : DataW.trod enc P w 0 (fun _ => true) true fuel t [v] = some y) : ∃ A n c, v = .slice A n c := by
  rcases open_slice ht h with ⟨h0, _⟩ | ⟨a, len', cap', m, n, D, Pl, h0, _⟩
  · exact ⟨none, 0, 0, by simpa using h0⟩
  · exact ⟨_, _, _, by simpa using h0⟩
theorem row_bsl {A : Option Addr} {m c : Nat} {zs : List Int} (hz : IsRow .u8 w A m c zs) : BSl w w.heap.size (.slice A m c) (zs.take m) ∧ (zs.take m).length = m ∧ m ≤ c := by
  obtain ⟨hb, hzl, hzc, hzm⟩ := InRow.brow hz
  have hnone : A = none → c = 0 := by
    rcases hz with ⟨_, _, h, _⟩ | ⟨x, h, _⟩
    · exact fun _ => h
    · intro e; rw [h] at e; cases e
  exact ⟨⟨A, c, by rw [hzl], by rw [hzl]; exact hzc, hzm, hnone, hb⟩, hzl, hzc⟩
/-- bytes that came in: what they weigh, their bulk -/
theorem open_bytes {t e : TypeId} {fuel : Nat} {v : Value} {d : DataW H} {pl : List MemPlace} (ht : P.underlying t = some (.slice e)) (he : P.underlying e = some (.int .u8)) (hC : P.cellsOf e = 1) (hB : P.bytesOf e = 1)
    (h : DataW.trod enc P w 0 (fun _ => true) true fuel t [v] = some (d, pl)) :
    ∃ zs : List Int, BSl w w.heap.size v zs ∧ ((∀ n ∈ d.weights P t, n ≤ 140737488351232) → zs.length ≤ 140737488351232) ∧ zs.length ≤ Rows.uptoBulk d := by
  obtain ⟨A, m, c, rfl⟩ := slice_of2 ht h
  rcases open_ints ht he hC h with ⟨hcs, hx⟩ | ⟨x, l, c', zs, hcs, _, hl, hm, hz, hx, hcell, hwz⟩
  · simp only [List.cons.injEq, Value.slice.injEq, and_true] at hcs
    obtain ⟨rfl, rfl, rfl⟩ := hcs
    exact ⟨[], BSl.nil _ _, fun _ => Nat.zero_le _, Nat.zero_le _⟩
  · simp only [List.cons.injEq, Value.slice.injEq, and_true] at hcs
    obtain ⟨rfl, rfl, rfl⟩ := hcs
    have hz' : zs.length = c := by simpa using hz
    obtain ⟨hb, hzl, hzc⟩ := row_bsl (zs := zs) (w := w) (A := some x) (m := m) (c := c) (.inr ⟨_, rfl, hl, hm, hz', hcell, hwz⟩)
    have hd := (Prod.mk.inj hx).1
    refine ⟨zs.take m, hb, fun hn => ?_, ?_⟩
    · have := hn ((lits (H := H) .u8 (zs.take m)).length + (lits (H := H) .u8 (zs.drop m)).length) (by rw [hd]; simp only [DataW.weights, ht, hB, Nat.mul_one]; exact List.mem_cons_self)
      simp only [lits, List.length_map] at this
      omega
    · rw [hd]
      have := bulk_len (lits (H := H) .u8 (zs.take m))
      simp only [lits, List.length_map] at this
      simp only [Rows.uptoBulk, lits]
      omega
/-- ranges that came in, and their bulk -/
theorem open_rsl {t e : TypeId} {f0 f1 : Field} {fuel : Nat} {v : Value} {d : DataW H} {pl : List MemPlace} (ht : P.underlying t = some (.slice e)) (he : P.underlying e = some (.struct #[f0, f1]))
    (hone : oneCellFields P #[f0, f1] = true) (hC : P.cellsOf e = 2) (t0 : P.underlying f0.type = some (.int .i64)) (t1 : P.underlying f1.type = some (.int .i64))
    (h : DataW.trod enc P w 0 (fun _ => true) true fuel t [v] = some (d, pl)) :
    ∃ ps : List (Int × Int), RSl w w.heap.size v ps ∧ ps.length ≤ Rows.uptoBulk d ∧ ∀ i, i < ps.length → (Lit.int .i64 (ps.getD i (0, 0)).1).wf = true ∧ (Lit.int .i64 (ps.getD i (0, 0)).2).wf = true := by
  obtain ⟨A, m, c, rfl⟩ := slice_of2 ht h
  obtain ⟨ps, hpl, hpr, hpc, hpm, hd, hpw⟩ := open_rngs (d := d) (pl := pl) ht he hone hC t0 t1 (by simpa [Value.cells] using h)
  refine ⟨ps, ⟨A, c, by rw [hpl], by rw [hpl]; exact hpc, hpm, hpr⟩, ?_, fun i hi => hpw i (by omega)⟩
  rcases hd with ⟨rfl, h0⟩ | ⟨xs, ys, rfl, hl⟩
  · omega
  · simp only [Rows.uptoBulk]
    have := bulk_len xs
    have := bulk_len ys
    omega
end
end Go.Proofs.Ytkpkgegonfcgnaa.P
