/- The walk of SpaceChecks. -/
import Derived.Test.YtgfbonfoimiknaaSpTell
import Derived.Test.YtgfbonfoimiknaaSpSame
import Derived.Test.YtgfbonfoimiknaaGrpSh
import Derived.Test.YtgfbonfoimiknaaSpCells
namespace Go.Proofs.Ytgfbonfoimiknaa
set_option linter.unusedVariables false
open Go.RowKit P

set_option maxRecDepth 100000 in
set_option maxHeartbeats 2000000 in
theorem spaceChecks_walk (v : Value) (s : Sp) (w : World) (hv : SpVal w w.heap.size v s) (hw : SpWf s) : Calls Try.prog 4 #[v] w fun e w' => e = .returned (.bool true) ∧ Below w.heap.size w w' := by
  have HP1 := Lib.hid (fun w' (hb : Below w.heap.size w w') => spChk_any v s w' ((hv.below hb).more hb.size) hw)
  have HP2 := Lib.hid (fun w' (hb : Below w.heap.size w w') => spTell_any v s w' ((hv.below hb).more hb.size) hw)
  have HR1 := Lib.hid (fun w' (hb : Below w.heap.size w w') => refSpFault_any v s w' ((hv.below hb).more hb.size) hw)
  have HR2 := Lib.hid (fun w' (hb : Below w.heap.size w w') => refSpTell_any v s w' ((hv.below hb).more hb.size) hw)
  obtain ⟨Aa, Ah, Ak, ca, ch, ck, rfl⟩ := hv.cells
  have F0 := Lib.hid (heap_alloc_new w (.cells #[.int .i64 s.next, .slice Aa s.sent.length ca, .int .i64 s.top, .slice Ah s.heard.length ch, .slice Ak s.skip.length ck] 48))
  have B0 := Lib.hid ((Below.refl w.heap.size w).alloc (Nat.le_refl _) (.cells #[.int .i64 s.next, .slice Aa s.sent.length ca, .int .i64 s.top, .slice Ah s.heard.length ch, .slice Ak s.skip.length ck] 48))
  clear hv hw
  obtain ⟨f, hf⟩ : ∃ r, faultSp s = r := ⟨_, rfl⟩
  obtain ⟨⟨t, e⟩, ht⟩ : ∃ r, tellSp s = r := ⟨_, rfl⟩
  rw [hf] at HP1 HR1
  rw [ht] at HP2 HR2
  clear hf ht
  obtain ⟨q0, q1, q2, q3, q4⟩ := sp5 F0.out
  go_enter Try.func4, Try.ntmps4
  go_wp2_with fail
  refine (HP1.out _ B0.out).mono ?_
  rintro e1 w1 ⟨rfl, b1⟩
  have B1 := Lib.hid (B0.out.trans (b1.mono B0.out.size))
  have F1 := Lib.hid ((b1.block _ (lt_of_block F0.out)).trans F0.out)
  clear b1
  clear q0 q1 q2 q3 q4
  obtain ⟨q0, q1, q2, q3, q4⟩ := sp5 F1.out
  go_wp2_with fail
  refine (HP2.out _ B1.out).mono ?_
  rintro e2 w2 ⟨b2, u2, rfl, hu2⟩
  obtain ⟨A2, c2, rfl, _, _, _⟩ := hu2.ex
  have V2 := Lib.hid hu2
  clear hu2
  dsimp only at V2 ⊢
  obtain ⟨nt, hnt⟩ : ∃ x, t.length = x := ⟨_, rfl⟩
  have HNT := Lib.hid hnt
  rw [hnt] at V2 ⊢
  clear hnt
  have B2 := Lib.hid (B1.out.trans (b2.mono B1.out.size))
  have F2 := Lib.hid ((b2.block _ (lt_of_block F1.out)).trans F1.out)
  clear b2
  clear q0 q1 q2 q3 q4
  obtain ⟨q0, q1, q2, q3, q4⟩ := sp5 F2.out
  go_wp2_with fail
  refine (HR1.out _ B2.out).mono ?_
  rintro e3 w3 ⟨rfl, b3⟩
  have B3 := Lib.hid (B2.out.trans (b3.mono B2.out.size))
  have F3 := Lib.hid ((b3.block _ (lt_of_block F2.out)).trans F2.out)
  have V3 := Lib.hid ((V2.out.below b3).more b3.size)
  clear b3
  clear q0 q1 q2 q3 q4
  obtain ⟨q0, q1, q2, q3, q4⟩ := sp5 F3.out
  go_wp2_with fail
  refine (HR2.out _ B3.out).mono ?_
  rintro e4 w4 ⟨b4, u4, rfl, hu4⟩
  obtain ⟨A4, c4, rfl, _, _, _⟩ := hu4.ex
  have U4 := Lib.hid hu4
  clear hu4
  dsimp only at U4 ⊢
  rw [HNT.out] at U4 ⊢
  have B4 := Lib.hid (B3.out.trans (b4.mono B3.out.size))
  have F4 := Lib.hid ((b4.block _ (lt_of_block F3.out)).trans F3.out)
  have V4 := Lib.hid ((V3.out.below b4).more b4.size)
  clear b4
  clear q0 q1 q2 q3 q4
  obtain ⟨q0, q1, q2, q3, q4⟩ := sp5 F4.out
  go_wp2_with fail
  refine (lsameRgV_any _ _ t _ V4.out U4.out).mono ?_
  rintro e5 w5 ⟨rfl, b5⟩
  have B5 := Lib.hid (B4.out.trans (b5.mono B4.out.size))
  have F5 := Lib.hid ((b5.block _ (lt_of_block F4.out)).trans F4.out)
  clear b5
  clear q0 q1 q2 q3 q4
  obtain ⟨q0, q1, q2, q3, q4⟩ := sp5 F5.out
  go_wp2_with fail
  refine (spBegin_any _).mono ?_
  rintro e6 w6 ⟨rfl, b6⟩
  have B6 := Lib.hid (B5.out.trans (b6.mono B5.out.size))
  have F6 := Lib.hid ((b6.block _ (lt_of_block F5.out)).trans F5.out)
  clear b6
  clear q0 q1 q2 q3 q4
  obtain ⟨q0, q1, q2, q3, q4⟩ := sp5 F6.out
  have SV : SpVal w6 w6.heap.size (.agg #[.int .i64 0, .slice none 0 0, .int .i64 (-1), .slice none 0 0, .slice none 0 0]) spB := ⟨_, _, _, rfl, PlSl.nil _ _, RSl.nil _ _, ISl.nil _ _⟩
  have SV' := Lib.hid SV
  clear SV
  go_wp2_with fail
  refine (lsameSp_any _ _ spB _ SV'.out SV'.out).mono ?_
  rintro e7 w7 ⟨rfl, b7⟩
  have B7 := Lib.hid (B6.out.trans (b7.mono B6.out.size))
  have F7 := Lib.hid ((b7.block _ (lt_of_block F6.out)).trans F6.out)
  clear b7
  clear q0 q1 q2 q3 q4
  obtain ⟨q0, q1, q2, q3, q4⟩ := sp5 F7.out
  go_wp2_with fail
  go_ret
  exact ⟨by simp, B7.out⟩
end Go.Proofs.Ytgfbonfoimiknaa
