/- The walk of SpaceLeaps. -/
import Derived.Test.YtgfbonfoimiknaaGrpSj
import Derived.Test.YtgfbonfoimiknaaRefSpLeap
import Derived.Test.YtgfbonfoimiknaaSpSame
import Derived.Test.YtgfbonfoimiknaaGrpSh
namespace Go.Proofs.Ytgfbonfoimiknaa
set_option linter.unusedVariables false
open Go.RowKit P

/-- a space's cells in a block -/
theorem SpVal.cells {w : World} {B : Nat} {v : Value} {s : Sp} (h : SpVal w B v s) : ∃ (Aa Ah Ak : Option Addr) (ca ch ck : Nat), v = .agg #[.int .i64 s.next, .slice Aa s.sent.length ca, .int .i64 s.top, .slice Ah s.heard.length ch, .slice Ak s.skip.length ck] := by
  obtain ⟨a, h, kk, rfl, ha, hh, hk⟩ := h.ex
  obtain ⟨Aa, ca, csa, rfl, _, _, _, _⟩ := ha.ex
  obtain ⟨Ah, ch, rfl, _, _, _⟩ := hh.ex
  obtain ⟨Ak, ck, rfl, _, _, _⟩ := hk.ex
  exact ⟨Aa, Ah, Ak, ca, ch, ck, rfl⟩
set_option maxRecDepth 100000 in
set_option maxHeartbeats 2000000 in
theorem spaceLeaps_walk (v : Value) (s : Sp) (w : World) (hv : SpVal w w.heap.size v s) (hw : SpWf s) : Calls Try.prog 6 #[v] w fun e w' => e = .returned (.bool true) ∧ Below w.heap.size w w' := by
  have HP1 := Lib.hid (fun w' (hb : Below w.heap.size w w') => spLeap_any v s w' ((hv.below hb).more hb.size) hw)
  have HP2 := Lib.hid (fun w' (hb : Below w.heap.size w w') => (spQuiet_any v s w' ((hv.below hb).more hb.size) hw).mono (fun e w'' h => SpQuietN.toU h))
  have HR1 := Lib.hid (fun w' (hb : Below w.heap.size w w') => refSpLeap_any v s w' ((hv.below hb).more hb.size) hw)
  have HR2 := Lib.hid (fun w' (hb : Below w.heap.size w w') => refSpQuiet_any v s w' ((hv.below hb).more hb.size) hw)
  obtain ⟨Aa, Ah, Ak, ca, ch, ck, rfl⟩ := hv.cells
  have F0 := Lib.hid (heap_alloc_new w (.cells #[.int .i64 s.next, .slice Aa s.sent.length ca, .int .i64 s.top, .slice Ah s.heard.length ch, .slice Ak s.skip.length ck] 48))
  have B0 := Lib.hid ((Below.refl w.heap.size w).alloc (Nat.le_refl _) (.cells #[.int .i64 s.next, .slice Aa s.sent.length ca, .int .i64 s.top, .slice Ah s.heard.length ch, .slice Ak s.skip.length ck] 48))
  clear hv hw
  obtain ⟨⟨r1, e1⟩, hr1⟩ : ∃ r, leapSp s = r := ⟨_, rfl⟩
  obtain ⟨⟨r2, n2, e2⟩, hr2⟩ : ∃ r, quietSp s = r := ⟨_, rfl⟩
  rw [hr1] at HP1 HR1
  rw [hr2] at HP2 HR2
  clear hr1 hr2
  obtain ⟨q0, q1, q2, q3, q4⟩ := sp5 F0.out
  go_enter Try.func6, Try.ntmps6
  go_wp2_with fail
  refine (HP1.out _ B0.out).mono ?_
  rintro e w1 ⟨b1, u1, rfl, hu1⟩
  have hv1 := hu1.now
  clear hu1
  dsimp only at hv1 ⊢
  obtain ⟨Aa1, Ah1, Ak1, ca1, ch1, ck1, rfl⟩ := hv1.cells
  obtain ⟨X1, hX1⟩ : ∃ x, w1.alloc (.cells #[.int .i64 r1.next, .slice Aa1 r1.sent.length ca1, .int .i64 r1.top, .slice Ah1 r1.heard.length ch1, .slice Ak1 r1.skip.length ck1] 48) = x := ⟨_, rfl⟩
  have C1 := (Below.refl w1.heap.size w1).alloc (Nat.le_refl _) (.cells #[.int .i64 r1.next, .slice Aa1 r1.sent.length ca1, .int .i64 r1.top, .slice Ah1 r1.heard.length ch1, .slice Ak1 r1.skip.length ck1] 48)
  have G1 := heap_alloc_new w1 (.cells #[.int .i64 r1.next, .slice Aa1 r1.sent.length ca1, .int .i64 r1.top, .slice Ah1 r1.heard.length ch1, .slice Ak1 r1.skip.length ck1] 48)
  rw [hX1] at C1 G1
  have B1 := Lib.hid ((B0.out.trans (b1.mono B0.out.size)).trans (C1.mono (Nat.le_trans B0.out.size b1.size)))
  have F1 := Lib.hid ((C1.block _ (Nat.lt_of_lt_of_le (lt_of_block F0.out) b1.size)).trans ((b1.block _ (lt_of_block F0.out)).trans F0.out))
  have V1_1 := Lib.hid ((hv1.below C1).more C1.size)
  have G1_1 := Lib.hid G1
  clear q0 q1 q2 q3 q4
  obtain ⟨q0, q1, q2, q3, q4⟩ := sp5 F1.out
  go_wp2_with fail
  refine (HP2.out _ B1.out).mono ?_
  rintro e w2 ⟨b2, u2, rfl, hu2⟩
  have hv2 := hu2.now
  clear hu2
  dsimp only at hv2 ⊢
  obtain ⟨Aa2, Ah2, Ak2, ca2, ch2, ck2, rfl⟩ := hv2.cells
  obtain ⟨X2, hX2⟩ : ∃ x, w2.alloc (.cells #[.int .i64 r2.next, .slice Aa2 r2.sent.length ca2, .int .i64 r2.top, .slice Ah2 r2.heard.length ch2, .slice Ak2 r2.skip.length ck2] 48) = x := ⟨_, rfl⟩
  have C2 := (Below.refl w2.heap.size w2).alloc (Nat.le_refl _) (.cells #[.int .i64 r2.next, .slice Aa2 r2.sent.length ca2, .int .i64 r2.top, .slice Ah2 r2.heard.length ch2, .slice Ak2 r2.skip.length ck2] 48)
  have G2 := heap_alloc_new w2 (.cells #[.int .i64 r2.next, .slice Aa2 r2.sent.length ca2, .int .i64 r2.top, .slice Ah2 r2.heard.length ch2, .slice Ak2 r2.skip.length ck2] 48)
  rw [hX2] at C2 G2
  have B2 := Lib.hid ((B1.out.trans (b2.mono B1.out.size)).trans (C2.mono (Nat.le_trans B1.out.size b2.size)))
  have F2 := Lib.hid ((C2.block _ (Nat.lt_of_lt_of_le (lt_of_block F1.out) b2.size)).trans ((b2.block _ (lt_of_block F1.out)).trans F1.out))
  have V2_2 := Lib.hid ((hv2.below C2).more C2.size)
  have G2_2 := Lib.hid G2
  have V1_2 := Lib.hid ((V1_1.out.on b2).on C2)
  have G1_2 := Lib.hid ((C2.block _ (Nat.lt_of_lt_of_le (lt_of_block G1_1.out) b2.size)).trans ((b2.block _ (lt_of_block G1_1.out)).trans G1_1.out))
  clear q0 q1 q2 q3 q4
  obtain ⟨q0, q1, q2, q3, q4⟩ := sp5 F2.out
  go_wp2_with fail
  refine (HR1.out _ B2.out).mono ?_
  rintro e w3 ⟨b3, u3, rfl, hu3⟩
  have hv3 := hu3
  clear hu3
  dsimp only at hv3 ⊢
  obtain ⟨Aa3, Ah3, Ak3, ca3, ch3, ck3, rfl⟩ := hv3.cells
  obtain ⟨X3, hX3⟩ : ∃ x, w3.alloc (.cells #[.int .i64 r1.next, .slice Aa3 r1.sent.length ca3, .int .i64 r1.top, .slice Ah3 r1.heard.length ch3, .slice Ak3 r1.skip.length ck3] 48) = x := ⟨_, rfl⟩
  have C3 := (Below.refl w3.heap.size w3).alloc (Nat.le_refl _) (.cells #[.int .i64 r1.next, .slice Aa3 r1.sent.length ca3, .int .i64 r1.top, .slice Ah3 r1.heard.length ch3, .slice Ak3 r1.skip.length ck3] 48)
  have G3 := heap_alloc_new w3 (.cells #[.int .i64 r1.next, .slice Aa3 r1.sent.length ca3, .int .i64 r1.top, .slice Ah3 r1.heard.length ch3, .slice Ak3 r1.skip.length ck3] 48)
  rw [hX3] at C3 G3
  have B3 := Lib.hid ((B2.out.trans (b3.mono B2.out.size)).trans (C3.mono (Nat.le_trans B2.out.size b3.size)))
  have F3 := Lib.hid ((C3.block _ (Nat.lt_of_lt_of_le (lt_of_block F2.out) b3.size)).trans ((b3.block _ (lt_of_block F2.out)).trans F2.out))
  have V3_3 := Lib.hid ((hv3.below C3).more C3.size)
  have G3_3 := Lib.hid G3
  have V1_3 := Lib.hid ((V1_2.out.on b3).on C3)
  have G1_3 := Lib.hid ((C3.block _ (Nat.lt_of_lt_of_le (lt_of_block G1_2.out) b3.size)).trans ((b3.block _ (lt_of_block G1_2.out)).trans G1_2.out))
  have V2_3 := Lib.hid ((V2_2.out.on b3).on C3)
  have G2_3 := Lib.hid ((C3.block _ (Nat.lt_of_lt_of_le (lt_of_block G2_2.out) b3.size)).trans ((b3.block _ (lt_of_block G2_2.out)).trans G2_2.out))
  clear q0 q1 q2 q3 q4
  obtain ⟨q0, q1, q2, q3, q4⟩ := sp5 F3.out
  go_wp2_with fail
  refine (HR2.out _ B3.out).mono ?_
  rintro e w4 ⟨b4, u4, rfl, hu4⟩
  have hv4 := hu4
  clear hu4
  dsimp only at hv4 ⊢
  obtain ⟨Aa4, Ah4, Ak4, ca4, ch4, ck4, rfl⟩ := hv4.cells
  obtain ⟨X4, hX4⟩ : ∃ x, w4.alloc (.cells #[.int .i64 r2.next, .slice Aa4 r2.sent.length ca4, .int .i64 r2.top, .slice Ah4 r2.heard.length ch4, .slice Ak4 r2.skip.length ck4] 48) = x := ⟨_, rfl⟩
  have C4 := (Below.refl w4.heap.size w4).alloc (Nat.le_refl _) (.cells #[.int .i64 r2.next, .slice Aa4 r2.sent.length ca4, .int .i64 r2.top, .slice Ah4 r2.heard.length ch4, .slice Ak4 r2.skip.length ck4] 48)
  have G4 := heap_alloc_new w4 (.cells #[.int .i64 r2.next, .slice Aa4 r2.sent.length ca4, .int .i64 r2.top, .slice Ah4 r2.heard.length ch4, .slice Ak4 r2.skip.length ck4] 48)
  rw [hX4] at C4 G4
  have B4 := Lib.hid ((B3.out.trans (b4.mono B3.out.size)).trans (C4.mono (Nat.le_trans B3.out.size b4.size)))
  have F4 := Lib.hid ((C4.block _ (Nat.lt_of_lt_of_le (lt_of_block F3.out) b4.size)).trans ((b4.block _ (lt_of_block F3.out)).trans F3.out))
  have V4_4 := Lib.hid ((hv4.below C4).more C4.size)
  have G4_4 := Lib.hid G4
  have V1_4 := Lib.hid ((V1_3.out.on b4).on C4)
  have G1_4 := Lib.hid ((C4.block _ (Nat.lt_of_lt_of_le (lt_of_block G1_3.out) b4.size)).trans ((b4.block _ (lt_of_block G1_3.out)).trans G1_3.out))
  have V2_4 := Lib.hid ((V2_3.out.on b4).on C4)
  have G2_4 := Lib.hid ((C4.block _ (Nat.lt_of_lt_of_le (lt_of_block G2_3.out) b4.size)).trans ((b4.block _ (lt_of_block G2_3.out)).trans G2_3.out))
  have V3_4 := Lib.hid ((V3_3.out.on b4).on C4)
  have G3_4 := Lib.hid ((C4.block _ (Nat.lt_of_lt_of_le (lt_of_block G3_3.out) b4.size)).trans ((b4.block _ (lt_of_block G3_3.out)).trans G3_3.out))
  clear q0 q1 q2 q3 q4
  obtain ⟨q0, q1, q2, q3, q4⟩ := sp5 F4.out
  obtain ⟨x0, x1, x2, x3, x4⟩ := sp5 G1_4.out
  obtain ⟨y0, y1, y2, y3, y4⟩ := sp5 G3_4.out
  go_wp2_with fail
  refine (lsameSp_any _ _ r1 _ V1_4.out V3_4.out).mono ?_
  rintro e w5 ⟨rfl, b5⟩
  have B5 := Lib.hid (B4.out.trans (b5.mono B4.out.size))
  have P5 := Lib.hid ((b5.block _ (lt_of_block G2_4.out)).trans G2_4.out)
  have Q5 := Lib.hid ((b5.block _ (lt_of_block G4_4.out)).trans G4_4.out)
  have V5 := Lib.hid (V2_4.out.on b5)
  have U5 := Lib.hid (V4_4.out.on b5)
  clear b5
  clear x0 x1 x2 x3 x4
  clear y0 y1 y2 y3 y4
  clear q0 q1 q2 q3 q4
  obtain ⟨x0, x1, x2, x3, x4⟩ := sp5 P5.out
  obtain ⟨y0, y1, y2, y3, y4⟩ := sp5 Q5.out
  go_wp2_with fail
  refine (lsameSp_any _ _ r2 _ V5.out U5.out).mono ?_
  rintro e w6 ⟨rfl, b6⟩
  have B6 := Lib.hid (B5.out.trans (b6.mono B5.out.size))
  clear b6
  clear x0 x1 x2 x3 x4
  clear y0 y1 y2 y3 y4
  go_wp2_with fail
  go_ret
  exact ⟨by simp, B6.out⟩
end Go.Proofs.Ytgfbonfoimiknaa
