/- Bytes made of a string, in whatever world. -/
import Derived.Test.YtenhdnanfgnfjaaConv
import Derived.Test.YtenhdnanfgnfjaaFrVal
namespace Go.Proofs.Ytenhdnanfgnfjaa
set_option linter.unusedVariables false
open Go.RowKit P

theorem conv_str (ys : List Int) (hb : Byt ys) (hl : ys.length ≤ 140737488351232) (w : World) : ∃ C W1, (convert 9 22 (.string (strOfNums ys))).run Try.prog w = .ok (.slice (some ⟨w.heap.size, 0, none⟩) ys.length C) W1 ∧ Below w.heap.size w W1 ∧ w.heap.size < W1.heap.size ∧ BSl W1 W1.heap.size (.slice (some ⟨w.heap.size, 0, none⟩) ys.length C) ys := by
  have hls : (strOfNums ys).size = ys.length := strOfNums_size ys
  have hrun := run_bytes_of_string (P := Try.prog) w 9 22 5 (strOfNums ys) Try.underlying9 Try.underlying22 Try.underlying5
  have hC := grownCap_ge w (strOfNums ys).size 0 5
  have hM := grownCap_le_maxLen w (strOfNums ys).size 0 5 (by rw [hls]; unfold maxLen; omega)
  rw [hls] at hC hM
  have hrow := bytesRow_brow w ys hb (grownCap w (strOfNums ys).size 0 5) 5 ((bytesRow (strOfNums ys) (grownCap w (strOfNums ys).size 0 5)).size, (bytesRow (strOfNums ys) (grownCap w (strOfNums ys).size 0 5)).size + 1)
  rw [hls] at hrow
  exact ⟨_, _, by rw [hrun, hls], ((Below.refl w.heap.size w).drew).alloc (Nat.le_refl _) _, by simp, ⟨_, _, rfl, hC, hM, (fun e => by cases e), hrow.more (by simp)⟩⟩
end Go.Proofs.Ytenhdnanfgnfjaa
