/- The walk of SenderChecks, over what is asked of the project. -/
import Derived.Test.YtkpkgegonfcgnaaRefSnOv
namespace Go.Proofs.Ytkpkgegonfcgnaa
set_option linter.unusedVariables false
open Go.RowKit P

set_option maxRecDepth 100000 in
theorem senderChecks_core (hC : SnChk Try.prog 11) (hO : SnOv Try.prog 12) (v : Value) (s : Sn) (w : World) (hv : SnVal w w.heap.size v s) (hw : SnWf s) :
    Calls Try.prog 3 #[v] w fun e w' => e = .returned (.bool true) ∧ Below w.heap.size w w' := by
  have HC := Lib.hid (fun w' (hb : Below w.heap.size w w') => hC v s w' (hv.on hb) hw)
  have HO := Lib.hid (fun w' (hb : Below w.heap.size w w') => hO v s w' (hv.on hb) hw)
  have RC := Lib.hid (fun w' (hb : Below w.heap.size w w') => refSnF_any v s w' (hv.on hb) hw)
  have RO := Lib.hid (fun w' (hb : Below w.heap.size w w') => refSnOv_any v s w' (hv.on hb) hw)
  obtain ⟨x, hx⟩ : ∃ x, faultSn s = x := ⟨_, rfl⟩
  obtain ⟨⟨o, y⟩, hy⟩ : ∃ x, overS s = x := ⟨_, rfl⟩
  rw [hx] at HC RC
  rw [hy] at HO RO
  obtain ⟨d, l, a, rfl, hd, hl, ha⟩ := hv.ex
  have B0 := Lib.hid ((Below.refl w.heap.size w).alloc (Nat.le_refl _) (.cells #[d, .bool s.fin, .int .i64 s.next, .int .i64 s.mx, l, a, .bool s.ended, .bool s.over] 25))
  have F0 := Lib.hid (heap_alloc_new w (.cells #[d, .bool s.fin, .int .i64 s.next, .int .i64 s.mx, l, a, .bool s.ended, .bool s.over] 25))
  clear hv hd hl ha hw hx hy hC hO
  go_enter Try.func3, Try.ntmps3
  go_wp2_with fail
  refine (HC.out _ B0.out).mono ?_
  rintro e1 w1 ⟨rfl, b1⟩
  have B1 := Lib.hid (B0.out.trans (b1.mono B0.out.size))
  have F1 := Lib.hid ((b1.block _ (lt_of_block F0.out)).trans F0.out)
  clear b1
  obtain ⟨q0, q1, q2, q3, q4, q5, q6, q7⟩ := bkS F1.out
  go_wp2_with fail
  refine (HO.out _ B1.out).mono ?_
  rintro e2 w2 ⟨rfl, b2⟩
  have B2 := Lib.hid (B1.out.trans (b2.mono B1.out.size))
  have F2 := Lib.hid ((b2.block _ (lt_of_block F1.out)).trans F1.out)
  clear b2 q0 q1 q2 q3 q4 q5 q6 q7
  obtain ⟨q0, q1, q2, q3, q4, q5, q6, q7⟩ := bkS F2.out
  go_wp2_with fail
  refine (RC.out _ B2.out).mono ?_
  rintro e3 w3 ⟨rfl, b3⟩
  have B3 := Lib.hid (B2.out.trans (b3.mono B2.out.size))
  have F3 := Lib.hid ((b3.block _ (lt_of_block F2.out)).trans F2.out)
  clear b3 q0 q1 q2 q3 q4 q5 q6 q7
  obtain ⟨q0, q1, q2, q3, q4, q5, q6, q7⟩ := bkS F3.out
  go_wp2_with fail
  refine (RO.out _ B3.out).mono ?_
  rintro e4 w4 ⟨rfl, b4⟩
  have B4 := Lib.hid (B3.out.trans (b4.mono B3.out.size))
  clear b4 q0 q1 q2 q3 q4 q5 q6 q7
  go_wp2_with fail
  go_ret
  exact ⟨by first | rfl | simp, B4.out⟩
end Go.Proofs.Ytkpkgegonfcgnaa
