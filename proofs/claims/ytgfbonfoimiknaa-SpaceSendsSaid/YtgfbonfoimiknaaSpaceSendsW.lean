/- The walk of SpaceSends. -/
import Derived.Test.YtgfbonfoimiknaaSpSend
import Derived.Test.YtgfbonfoimiknaaRefSpSend
import Derived.Test.YtgfbonfoimiknaaSpSame
import Derived.Test.YtgfbonfoimiknaaGrpSh
import Derived.Test.YtgfbonfoimiknaaSpCells
namespace Go.Proofs.Ytgfbonfoimiknaa
set_option linter.unusedVariables false
open Go.RowKit P

set_option maxRecDepth 100000 in
set_option maxHeartbeats 2000000 in
theorem spaceSends_walk (v vl : Value) (s : Sp) (now size : Int) (l : List Fr) (w : World) (hv : SpVal w w.heap.size v s) (hw : SpWf s) (hl : FsSl w w.heap.size vl l) (hlw : FrsWf l) : Calls Try.prog 5 #[v, .int .i64 now, .int .i64 size, vl] w fun e w' => e = .returned (.bool true) ∧ Below w.heap.size w w' := by
  have HP1 := Lib.hid (fun w' (hb : Below w.heap.size w w') => spSend_any v vl s now size l w' ((hv.below hb).more hb.size) hw ((hl.below hb).more hb.size) hlw)
  have HR1 := Lib.hid (fun w' (hb : Below w.heap.size w w') => refSpSend_any v vl s now size l w' ((hv.below hb).more hb.size) hw ((hl.below hb).more hb.size))
  obtain ⟨Aa, Ah, Ak, ca, ch, ck, rfl⟩ := hv.cells
  have F0 := Lib.hid (heap_alloc_new w (.cells #[.int .i64 s.next, .slice Aa s.sent.length ca, .int .i64 s.top, .slice Ah s.heard.length ch, .slice Ak s.skip.length ck] 48))
  have B0 := Lib.hid ((Below.refl w.heap.size w).alloc (Nat.le_refl _) (.cells #[.int .i64 s.next, .slice Aa s.sent.length ca, .int .i64 s.top, .slice Ah s.heard.length ch, .slice Ak s.skip.length ck] 48))
  obtain ⟨Al, cl, _, rfl, _, _, _, _⟩ := hl.ex
  clear hv hw hl hlw
  obtain ⟨⟨r1, o1, e1⟩, hr1⟩ : ∃ r, sendSp s now size l = r := ⟨_, rfl⟩
  rw [hr1] at HP1 HR1
  clear hr1
  obtain ⟨nl, hnl⟩ : ∃ x, l.length = x := ⟨_, rfl⟩
  rw [hnl] at HP1 HR1 ⊢
  clear hnl
  obtain ⟨q0, q1, q2, q3, q4⟩ := sp5 F0.out
  go_enter Try.func5, Try.ntmps5
  go_wp2_with fail
  refine (HP1.out _ B0.out).mono ?_
  rintro e w1 ⟨b1, u1, rfl, hu1⟩
  have hv1 := hu1.now
  clear hu1
  dsimp only at hv1 ⊢
  obtain ⟨Aa1, Ah1, Ak1, ca1, ch1, ck1, rfl⟩ := hv1.cells
  obtain ⟨X1, hX1⟩ : ∃ x, w1.alloc (.cells #[.int .i64 r1.next, .slice Aa1 r1.sent.length ca1, .int .i64 r1.top, .slice Ah1 r1.heard.length ch1, .slice Ak1 r1.skip.length ck1] 48) = x := ⟨_, rfl⟩
  have C1 := (Below.refl w1.heap.size w1).alloc (Nat.le_refl _) (.cells #[.int .i64 r1.next, .slice Aa1 r1.sent.length ca1, .int .i64 r1.top, .slice Ah1 r1.heard.length ch1, .slice Ak1 r1.skip.length ck1] 48)
  have G1 := heap_alloc_new w1 (.cells #[.int .i64 r1.next, .slice Aa1 r1.sent.length ca1, .int .i64 r1.top, .slice Ah1 r1.heard.length ch1, .slice Ak1 r1.skip.length ck1] 48)
  rw [hX1] at C1 G1
  have B1 := Lib.hid ((B0.out.trans (b1.mono B0.out.size)).trans (C1.mono (Nat.le_trans B0.out.size b1.size)))
  have F1 := Lib.hid ((C1.block _ (Nat.lt_of_lt_of_le (lt_of_block F0.out) b1.size)).trans ((b1.block _ (lt_of_block F0.out)).trans F0.out))
  have V1_1 := Lib.hid (hv1.on C1)
  have G1_1 := Lib.hid G1
  clear q0 q1 q2 q3 q4
  obtain ⟨q0, q1, q2, q3, q4⟩ := sp5 F1.out
  go_wp2_with fail
  refine (HR1.out _ B1.out).mono ?_
  rintro e w2 ⟨b2, u2, rfl, hu2⟩
  have hv2 := hu2
  clear hu2
  dsimp only at hv2 ⊢
  obtain ⟨Aa2, Ah2, Ak2, ca2, ch2, ck2, rfl⟩ := hv2.cells
  obtain ⟨X2, hX2⟩ : ∃ x, w2.alloc (.cells #[.int .i64 r1.next, .slice Aa2 r1.sent.length ca2, .int .i64 r1.top, .slice Ah2 r1.heard.length ch2, .slice Ak2 r1.skip.length ck2] 48) = x := ⟨_, rfl⟩
  have C2 := (Below.refl w2.heap.size w2).alloc (Nat.le_refl _) (.cells #[.int .i64 r1.next, .slice Aa2 r1.sent.length ca2, .int .i64 r1.top, .slice Ah2 r1.heard.length ch2, .slice Ak2 r1.skip.length ck2] 48)
  have G2 := heap_alloc_new w2 (.cells #[.int .i64 r1.next, .slice Aa2 r1.sent.length ca2, .int .i64 r1.top, .slice Ah2 r1.heard.length ch2, .slice Ak2 r1.skip.length ck2] 48)
  rw [hX2] at C2 G2
  have B2 := Lib.hid ((B1.out.trans (b2.mono B1.out.size)).trans (C2.mono (Nat.le_trans B1.out.size b2.size)))
  have F2 := Lib.hid ((C2.block _ (Nat.lt_of_lt_of_le (lt_of_block F1.out) b2.size)).trans ((b2.block _ (lt_of_block F1.out)).trans F1.out))
  have V2_2 := Lib.hid (hv2.on C2)
  have G2_2 := Lib.hid G2
  have V1_2 := Lib.hid ((V1_1.out.on b2).on C2)
  have G1_2 := Lib.hid ((C2.block _ (Nat.lt_of_lt_of_le (lt_of_block G1_1.out) b2.size)).trans ((b2.block _ (lt_of_block G1_1.out)).trans G1_1.out))
  clear q0 q1 q2 q3 q4
  obtain ⟨q0, q1, q2, q3, q4⟩ := sp5 F2.out
  obtain ⟨x0, x1, x2, x3, x4⟩ := sp5 G1_2.out
  obtain ⟨y0, y1, y2, y3, y4⟩ := sp5 G2_2.out
  go_wp2_with fail
  refine (lsameSp_any _ _ r1 _ V1_2.out V2_2.out).mono ?_
  rintro e w5 ⟨rfl, b5⟩
  have B5 := Lib.hid (B2.out.trans (b5.mono B2.out.size))
  clear b5
  clear x0 x1 x2 x3 x4
  clear y0 y1 y2 y3 y4
  clear q0 q1 q2 q3 q4
  go_wp2_with fail
  go_ret
  exact ⟨by simp, B5.out⟩
end Go.Proofs.Ytgfbonfoimiknaa
