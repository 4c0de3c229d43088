/- The walk of SpaceAcks. -/
import Derived.Test.YtgfbonfoimiknaaSpAcked
import Derived.Test.YtgfbonfoimiknaaRefSpAcked
import Derived.Test.YtgfbonfoimiknaaSpSame
import Derived.Test.YtgfbonfoimiknaaGrpSh
import Derived.Test.YtgfbonfoimiknaaSpCells
namespace Go.Proofs.Ytgfbonfoimiknaa
set_option linter.unusedVariables false
open Go.RowKit P

set_option maxRecDepth 100000 in
set_option maxHeartbeats 2000000 in
theorem spaceAcks_walk (v : Value) (s : Sp) (A : Option Addr) (nl cl : Nat) (l : List (Int × Int)) (w : World) (hv : SpVal w w.heap.size v s) (hw : SpWf s) (hl : RRow w w.heap.size A l) (hn : l.length = nl) (hlc : nl ≤ cl) (hlm : cl ≤ maxLen) (hr : cl * 16 ≤ 140737488351232) (hlw : ∀ r ∈ l, i64N r.1 ∧ i64N r.2) : Calls Try.prog 8 #[v, .slice A nl cl] w fun e w' => e = .returned (.bool true) ∧ Below w.heap.size w w' := by
  have hls : RSl w w.heap.size (.slice A nl cl) l := ⟨A, cl, by rw [hn], by rw [hn]; exact hlc, hlm, hl⟩
  have HP1 := Lib.hid (fun w' (hb : Below w.heap.size w w') => spAck_any v _ s l w' ((hv.below hb).more hb.size) hw ((hls.below hb).more hb.size) (by omega))
  have HR1 := Lib.hid (fun w' (hb : Below w.heap.size w w') => refSpAck_any v _ s l w' ((hv.below hb).more hb.size) hw ((hls.below hb).more hb.size) (by omega) hlw)
  obtain ⟨Aa, Ah, Ak, ca, ch, ck, rfl⟩ := hv.cells
  have F0 := Lib.hid (heap_alloc_new w (.cells #[.int .i64 s.next, .slice Aa s.sent.length ca, .int .i64 s.top, .slice Ah s.heard.length ch, .slice Ak s.skip.length ck] 48))
  have B0 := Lib.hid ((Below.refl w.heap.size w).alloc (Nat.le_refl _) (.cells #[.int .i64 s.next, .slice Aa s.sent.length ca, .int .i64 s.top, .slice Ah s.heard.length ch, .slice Ak s.skip.length ck] 48))
  clear hv hw hls hl hn hlw hr
  obtain ⟨⟨r1, o1, o2, e1⟩, hr1⟩ : ∃ r, ackSp s l = r := ⟨_, rfl⟩
  rw [hr1] at HP1 HR1
  clear hr1
  obtain ⟨q0, q1, q2, q3, q4⟩ := sp5 F0.out
  go_enter Try.func8, Try.ntmps8
  go_wp2_with fail
  refine (HP1.out _ B0.out).mono ?_
  rintro e w1 ⟨b1, u1, l1_0, l1_1, rfl, hu1, hl1_0, hl1_1⟩
  have hv1 := hu1.now
  have hp1_0 := StS.now hl1_0
  have hp1_1 := StS.now hl1_1
  clear hu1 hl1_0 hl1_1
  dsimp only at hv1 hp1_0 hp1_1 ⊢
  obtain ⟨Aa1, Ah1, Ak1, ca1, ch1, ck1, rfl⟩ := hv1.cells
  obtain ⟨X1, hX1⟩ : ∃ x, w1.alloc (.cells #[.int .i64 r1.next, .slice Aa1 r1.sent.length ca1, .int .i64 r1.top, .slice Ah1 r1.heard.length ch1, .slice Ak1 r1.skip.length ck1] 48) = x := ⟨_, rfl⟩
  have C1 := (Below.refl w1.heap.size w1).alloc (Nat.le_refl _) (.cells #[.int .i64 r1.next, .slice Aa1 r1.sent.length ca1, .int .i64 r1.top, .slice Ah1 r1.heard.length ch1, .slice Ak1 r1.skip.length ck1] 48)
  have G1 := heap_alloc_new w1 (.cells #[.int .i64 r1.next, .slice Aa1 r1.sent.length ca1, .int .i64 r1.top, .slice Ah1 r1.heard.length ch1, .slice Ak1 r1.skip.length ck1] 48)
  rw [hX1] at C1 G1
  have B1 := Lib.hid ((B0.out.trans (b1.mono B0.out.size)).trans (C1.mono (Nat.le_trans B0.out.size b1.size)))
  have F1 := Lib.hid ((C1.block _ (Nat.lt_of_lt_of_le (lt_of_block F0.out) b1.size)).trans ((b1.block _ (lt_of_block F0.out)).trans F0.out))
  have V1_1 := Lib.hid (hv1.on C1)
  have G1_1 := Lib.hid G1
  have P1_0_1 := Lib.hid (hp1_0.on C1)
  have P1_1_1 := Lib.hid (hp1_1.on C1)
  clear q0 q1 q2 q3 q4
  obtain ⟨q0, q1, q2, q3, q4⟩ := sp5 F1.out
  go_wp2_with fail
  refine (HR1.out _ B1.out).mono ?_
  rintro e w2 ⟨b2, u2, l2_0, l2_1, rfl, hu2, hl2_0, hl2_1⟩
  have hv2 := hu2
  have hp2_0 := hl2_0
  have hp2_1 := hl2_1
  clear hu2 hl2_0 hl2_1
  dsimp only at hv2 hp2_0 hp2_1 ⊢
  obtain ⟨Aa2, Ah2, Ak2, ca2, ch2, ck2, rfl⟩ := hv2.cells
  obtain ⟨X2, hX2⟩ : ∃ x, w2.alloc (.cells #[.int .i64 r1.next, .slice Aa2 r1.sent.length ca2, .int .i64 r1.top, .slice Ah2 r1.heard.length ch2, .slice Ak2 r1.skip.length ck2] 48) = x := ⟨_, rfl⟩
  have C2 := (Below.refl w2.heap.size w2).alloc (Nat.le_refl _) (.cells #[.int .i64 r1.next, .slice Aa2 r1.sent.length ca2, .int .i64 r1.top, .slice Ah2 r1.heard.length ch2, .slice Ak2 r1.skip.length ck2] 48)
  have G2 := heap_alloc_new w2 (.cells #[.int .i64 r1.next, .slice Aa2 r1.sent.length ca2, .int .i64 r1.top, .slice Ah2 r1.heard.length ch2, .slice Ak2 r1.skip.length ck2] 48)
  rw [hX2] at C2 G2
  have B2 := Lib.hid ((B1.out.trans (b2.mono B1.out.size)).trans (C2.mono (Nat.le_trans B1.out.size b2.size)))
  have F2 := Lib.hid ((C2.block _ (Nat.lt_of_lt_of_le (lt_of_block F1.out) b2.size)).trans ((b2.block _ (lt_of_block F1.out)).trans F1.out))
  have V2_2 := Lib.hid (hv2.on C2)
  have G2_2 := Lib.hid G2
  have P2_0_2 := Lib.hid (hp2_0.on C2)
  have P2_1_2 := Lib.hid (hp2_1.on C2)
  have V1_2 := Lib.hid ((V1_1.out.on b2).on C2)
  have G1_2 := Lib.hid ((C2.block _ (Nat.lt_of_lt_of_le (lt_of_block G1_1.out) b2.size)).trans ((b2.block _ (lt_of_block G1_1.out)).trans G1_1.out))
  have P1_0_2 := Lib.hid ((P1_0_1.out.on b2).on C2)
  have P1_1_2 := Lib.hid ((P1_1_1.out.on b2).on C2)
  clear q0 q1 q2 q3 q4
  obtain ⟨q0, q1, q2, q3, q4⟩ := sp5 F2.out
  obtain ⟨x0, x1, x2, x3, x4⟩ := sp5 G1_2.out
  obtain ⟨y0, y1, y2, y3, y4⟩ := sp5 G2_2.out
  go_wp2_with fail
  refine (lsameSp_any _ _ r1 _ V1_2.out V2_2.out).mono ?_
  rintro e w5 ⟨rfl, b5⟩
  have B5 := Lib.hid (B2.out.trans (b5.mono B2.out.size))
  have P5 := Lib.hid (P1_0_2.out.on b5)
  have Q5 := Lib.hid (P2_0_2.out.on b5)
  have S5 := Lib.hid (P1_1_2.out.on b5)
  have T5 := Lib.hid (P2_1_2.out.on b5)
  clear b5
  clear x0 x1 x2 x3 x4
  clear y0 y1 y2 y3 y4
  clear q0 q1 q2 q3 q4
  go_wp2_with fail
  refine (lsamePlV_any _ _ o1 _ P5.out Q5.out).mono ?_
  rintro e w6 ⟨rfl, b6⟩
  have B6 := Lib.hid (B5.out.trans (b6.mono B5.out.size))
  have S6 := Lib.hid (S5.out.on b6)
  have T6 := Lib.hid (T5.out.on b6)
  clear b6
  go_wp2_with fail
  refine (lsamePlV_any _ _ o2 _ S6.out T6.out).mono ?_
  rintro e w7 ⟨rfl, b7⟩
  have B7 := Lib.hid (B6.out.trans (b7.mono B6.out.size))
  clear b7
  go_wp2_with fail
  go_ret
  exact ⟨by simp, B7.out⟩
end Go.Proofs.Ytgfbonfoimiknaa
