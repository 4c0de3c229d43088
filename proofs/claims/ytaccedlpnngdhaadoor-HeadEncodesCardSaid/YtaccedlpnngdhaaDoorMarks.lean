/- The reference's map of marks, 1 2 4 8 to 0 1 2 3: what a look-up finds in it. -/
import Derived.Test.YtaccedlpnngdhaaDoorRows
import Derived.Maps.Own
import Derived.WalkKit
namespace Go.Proofs.YtaccedlpnngdhaaDoor
set_option linter.unusedVariables false
open Go.RowKit

theorem marks {P : Program} {T K E : TypeId} (hT : P.underlying T = some (.map K E)) (hK : P.underlying K = some (.int .i64)) (hE : P.underlying E = some (.int .u64)) (zero : ∀ w, (zeroValue E).run P w = .ok (.int .u64 0) w) (w : World) :
    ∃ w1 w2 w3 w4, (Instr.mapUpdate T (.map (some w.heap.size)) (.int .i64 1) (.int .u64 0)).run P (w.alloc (.map #[] 0)) = .ok () w1 ∧
      (Instr.mapUpdate T (.map (some w.heap.size)) (.int .i64 2) (.int .u64 1)).run P w1 = .ok () w2 ∧
      (Instr.mapUpdate T (.map (some w.heap.size)) (.int .i64 4) (.int .u64 2)).run P w2 = .ok () w3 ∧
      (Instr.mapUpdate T (.map (some w.heap.size)) (.int .i64 8) (.int .u64 3)).run P w3 = .ok () w4 ∧
      (Instr.lookup T (.map (some w.heap.size)) (.int .i64 1) false).run P w4 = .ok (.int .u64 0) w4 ∧
      (Instr.lookup T (.map (some w.heap.size)) (.int .i64 2) false).run P w4 = .ok (.int .u64 1) w4 ∧
      (Instr.lookup T (.map (some w.heap.size)) (.int .i64 4) false).run P w4 = .ok (.int .u64 2) w4 ∧
      (Instr.lookup T (.map (some w.heap.size)) (.int .i64 8) false).run P w4 = .ok (.int .u64 3) w4 ∧ Below w.heap.size w w4 := by
  have KK := Maps.int_keyed (P := P) hK
  have h0 := World.ownsMap_made w P K (plainElem (H := Unit) P E)
  have key : ∀ a : Int, (Lit.int .i64 a).wf = true → keyOf P K (.int .i64 a) = some (.int .i64 a) := fun a h => Maps.keyOf_int_mk hK h
  obtain ⟨w1, r1, o1, g1⟩ := h0.update KK hT (by decide) (key 1 (by decide)) (plainElem_int hE (a := 0) (by decide))
  obtain ⟨w2, r2, o2, g2⟩ := o1.update KK hT (by decide) (key 2 (by decide)) (plainElem_int hE (a := 1) (by decide))
  obtain ⟨w3, r3, o3, g3⟩ := o2.update KK hT (by decide) (key 4 (by decide)) (plainElem_int hE (a := 2) (by decide))
  obtain ⟨w4, r4, o4, g4⟩ := o3.update KK hT (by decide) (key 8 (by decide)) (plainElem_int hE (a := 3) (by decide))
  have look : ∀ (a c : Int), (Lit.int .i64 a).wf = true → (((((DataW.map [] : DataW Unit).put (.int .i64 1) (.lit (.int .u64 0))).put (.int .i64 2) (.lit (.int .u64 1))).put (.int .i64 4) (.lit (.int .u64 2))).put (.int .i64 8) (.lit (.int .u64 3))).atKey (.int .i64 a) (.lit (.int .u64 0)) = .lit (.int .u64 c) →
      (Instr.lookup T (.map (some w.heap.size)) (.int .i64 a) false).run P w4 = .ok (.int .u64 c) w4 := by
    intro a c ha hc
    obtain ⟨c', hr, hat, _⟩ := o4.lookup_int KK hT hE (zero w4) (key a ha)
    rw [hc] at hat
    have : c' = c := by simpa using hat.symm
    rw [hr, this]
  have b0 : Below w.heap.size w (w.alloc (.map #[] 0)) := (Below.refl _ _).alloc (Nat.le_refl _) _
  have row : ∀ k, some w.heap.size = some k → w.heap.size ≤ k := fun k h => by cases h; exact Nat.le_refl _
  have b1 := b0.grown g1 b0.size row
  have b2 := b1.grown g2 b1.size row
  have b3 := b2.grown g3 b2.size row
  exact ⟨w1, w2, w3, w4, r1, r2, r3, r4, look 1 0 (by decide) rfl, look 2 1 (by decide) rfl, look 4 2 (by decide) rfl, look 8 3 (by decide) rfl, b3.grown g4 b3.size row⟩
end Go.Proofs.YtaccedlpnngdhaaDoor
