/- The walk of HeadEncodes, over what is asked of the writers. -/
import Derived.Test.YtaccedlpnngdhaaDoorHdVal
import Derived.Test.YtaccedlpnngdhaaDoorMem
import Derived.Test.YtaccedlpnngdhaaDoorSame
namespace Go.Proofs.YtaccedlpnngdhaaDoor
set_option linter.unusedVariables false
open Go.RowKit P

set_option maxRecDepth 100000 in
set_option maxHeartbeats 600000 in
theorem headEncodes_core (hCK : ∀ v h w, HdVal w w.heap.size v h → HdWf h → Calls Tryd.prog 6 #[v] w fun e w' => e = .returned (.int .i64 (faultH h)) ∧ Below w.heap.size w w')
    (v : Value) (h : Hd) (w : World) (hENC : ∀ w', Below w.heap.size w w' → HdVal w' w'.heap.size v h → Calls Tryd.prog 7 #[v] w' (HdEnc h w'))
    (hRCK : ∀ v h w, HdVal w w.heap.size v h → HdWf h → Calls Tryd.prog 8 #[v] w fun e w' => e = .returned (.int .i64 (faultH h)) ∧ Below w.heap.size w w')
    (hREF : ∀ v h w, HdVal w w.heap.size v h → HdWf h → Calls Tryd.prog 9 #[v] w (HdEnc h w))
    (hv : HdVal w w.heap.size v h) (hw : HdWf h) :
    Calls Tryd.prog 3 #[v] w fun e w' => e = .returned (.bool true) ∧ Below w.heap.size w w' := by
  have HV := Lib.hid (fun w' (hb : Below w.heap.size w w') => (hv.below hb).more hb.size)
  have CK := Lib.hid (fun w' (hb : Below w.heap.size w w') => hCK v h w' (HV.out w' hb) hw)
  have EN := Lib.hid (fun w' (hb : Below w.heap.size w w') => hENC w' hb (HV.out w' hb))
  have RK := Lib.hid (fun w' (hb : Below w.heap.size w w') => hRCK v h w' (HV.out w' hb) hw)
  have RE := Lib.hid (fun w' (hb : Below w.heap.size w w') => hREF v h w' (HV.out w' hb) hw)
  unfold HdEnc at EN RE
  obtain ⟨x, hx⟩ : ∃ x, faultH h = x := ⟨_, rfl⟩
  obtain ⟨X, hX⟩ : ∃ X, (if x = 0 then hdT h else []) = X := ⟨_, rfl⟩
  rw [hx] at CK EN RK RE
  rw [hX] at EN RE
  clear hCK hENC hRCK hREF hx hX hw HV
  obtain ⟨d, rfl, hd⟩ := hv.ex
  obtain ⟨A, c, rfl, hc, hm, hn, hr⟩ := hd.ex
  clear hv hd hr hn
  have B0 := Lib.hid ((Below.refl w.heap.size w).alloc (Nat.le_refl _) (.cells #[.int .i64 h.kind, .int .i64 h.to, .int .i64 h.frm, .slice A h.tok.length c, .int .i64 h.num, .int .i64 h.size] 24))
  have F0 := Lib.hid (heap_alloc_new w (.cells #[.int .i64 h.kind, .int .i64 h.to, .int .i64 h.frm, .slice A h.tok.length c, .int .i64 h.num, .int .i64 h.size] 24))
  go_enter Tryd.func3, Tryd.ntmps3
  go_wp2_with (first
    | (go_at_call 10; refine (sameBytes_eq _ _ _ _ _ _ _ _ _ X R4.out S4.out rfl rfl).mono ?_; rintro e w' ⟨rfl, rfl⟩)
    | (go_at_call 6; refine (CK.out _ B0.out).mono ?_; rintro e w1 ⟨rfl, b1⟩; have B1 := Lib.hid (B0.out.trans (b1.mono B0.out.size)); have F1 := Lib.hid ((b1.block _ (lt_of_block F0.out)).trans F0.out); clear b1; obtain ⟨q0, q1, q2, q3, q4, q5, _⟩ := bk6 F1.out)
    | (go_at_call 7; refine (EN.out _ B1.out).mono ?_; rintro e w2 ⟨b2, d2, rfl, hd2⟩; obtain ⟨A2, c2, rfl, _, _, _, R2⟩ := hd2.ex; have R2 := Lib.hid R2; have B2 := Lib.hid (B1.out.trans (b2.mono B1.out.size)); have F2 := Lib.hid ((b2.block _ (lt_of_block F1.out)).trans F1.out); clear b2 hd2 q0 q1 q2 q3 q4 q5; obtain ⟨q0, q1, q2, q3, q4, q5, _⟩ := bk6 F2.out)
    | (go_at_call 8; refine (RK.out _ B2.out).mono ?_; rintro e w3 ⟨rfl, b3⟩; have B3 := Lib.hid (B2.out.trans (b3.mono B2.out.size)); have R3 := Lib.hid (R2.out.on b3); have F3 := Lib.hid ((b3.block _ (lt_of_block F2.out)).trans F2.out); clear b3 q0 q1 q2 q3 q4 q5; obtain ⟨q0, q1, q2, q3, q4, q5, _⟩ := bk6 F3.out)
    | (go_at_call 9; refine (RE.out _ B3.out).mono ?_; rintro e w4 ⟨b4, d4, rfl, hd4⟩; obtain ⟨A4, c4, rfl, _, _, _, S4⟩ := hd4.ex; have S4 := Lib.hid S4; have B4 := Lib.hid (B3.out.trans (b4.mono B3.out.size)); have R4 := Lib.hid (R3.out.on b4); clear b4 hd4 q0 q1 q2 q3 q4 q5))
  go_ret
  exact ⟨by first | rfl | simp, B4.out⟩
end Go.Proofs.YtaccedlpnngdhaaDoor
