/- The walks of SenderWrites, SenderHears, SenderLoses over what is asked of the project and of the document. -/
import Derived.Test.YtkpkgegonfcgnaaSnSame
namespace Go.Proofs.Ytkpkgegonfcgnaa
set_option linter.unusedVariables false
open Go.RowKit P

set_option maxRecDepth 100000 in
set_option maxHeartbeats 1000000 in
theorem senderWrites_core (hW : SnWr Try.prog 15) (hG : SnGr Try.prog 16) (rW : SnWr Try.prog 17) (rG : SnGr Try.prog 18)
    (v v2 : Value) (s : Sn) (b : List Int) (fin : Bool) (n : Int) (w : World) (hv : SnVal w w.heap.size v s) (hw : SnWf s) (hv2 : BSl w w.heap.size v2 b) (hbl : b.length ≤ 1048576) :
    Calls Try.prog 4 #[v, v2, .bool fin, .int .i64 n] w fun e w' => e = .returned (.bool true) ∧ Below w.heap.size w w' := by
  have HW := Lib.hid (fun w' (hb : Below w.heap.size w w') => hW v v2 s b fin w' (hv.on hb) hw ((hv2.below hb).more hb.size) hbl)
  have HG := Lib.hid (fun w' (hb : Below w.heap.size w w') => hG v s n w' (hv.on hb) hw)
  have RW := Lib.hid (fun w' (hb : Below w.heap.size w w') => rW v v2 s b fin w' (hv.on hb) hw ((hv2.below hb).more hb.size) hbl)
  have RG := Lib.hid (fun w' (hb : Below w.heap.size w w') => rG v s n w' (hv.on hb) hw)
  obtain ⟨⟨x, xe⟩, hx⟩ : ∃ r, wrS s b fin = r := ⟨_, rfl⟩
  obtain ⟨⟨y, ye⟩, hy⟩ : ∃ r, grS s n = r := ⟨_, rfl⟩
  rw [hx] at HW RW
  rw [hy] at HG RG
  obtain ⟨A2, c2, rfl, _, _, _, _⟩ := hv2.ex
  clear hx hy hW hG rW rG hv2
  obtain ⟨d, l, a, rfl, hd, hl, ha⟩ := hv.ex
  have C0 := Lib.hid ((Below.refl w.heap.size w).alloc (Nat.le_refl _) (.cells #[d, .bool s.fin, .int .i64 s.next, .int .i64 s.mx, l, a, .bool s.ended, .bool s.over] 25))
  have F0 := Lib.hid (heap_alloc_new w (.cells #[d, .bool s.fin, .int .i64 s.next, .int .i64 s.mx, l, a, .bool s.ended, .bool s.over] 25))
  clear hv hd hl ha hw
  go_enter Try.func4, Try.ntmps4
  obtain ⟨q0, q1, q2, q3, q4, q5, q6, q7⟩ := bkS F0.out
  go_wp2_with fail
  refine (HW.out _ C0.out).mono ?_
  rintro e w1 ⟨b1, u1, rfl, v1⟩
  obtain ⟨d1, l1, a1, hu1, hd1, hl1, ha1⟩ := id v1.ex
  obtain ⟨Ad1, cd1, hs1, _, _, _, _⟩ := hd1.ex
  obtain ⟨Al1, cl1, hs2, _, _, _⟩ := hl1.ex
  obtain ⟨Aa1, ca1, hs3, _, _, _⟩ := ha1.ex
  subst hs1 hs2 hs3 hu1
  clear q0 q1 q2 q3 q4 q5 q6 q7
  have B1 := Lib.hid (C0.out.trans (b1.mono C0.out.size))
  have X1 := (Below.refl w1.heap.size w1).alloc (Nat.le_refl _) (.cells #[.slice Ad1 x.data.length cd1, .bool x.fin, .int .i64 x.next, .int .i64 x.mx, .slice Al1 x.lost.length cl1, .slice Aa1 x.acked.length ca1, .bool x.ended, .bool x.over] 25)
  have XX1 := X1
  have F1 := Lib.hid ((XX1.block _ (Nat.lt_of_lt_of_le (lt_of_block F0.out) b1.size)).trans ((b1.block _ (lt_of_block F0.out)).trans F0.out))
  have G1 := Lib.hid (heap_alloc_new w1 (.cells #[.slice Ad1 x.data.length cd1, .bool x.fin, .int .i64 x.next, .int .i64 x.mx, .slice Al1 x.lost.length cl1, .slice Aa1 x.acked.length ca1, .bool x.ended, .bool x.over] 25))
  have C1 := Lib.hid (B1.out.trans (XX1.mono B1.out.size))
  have V1 := Lib.hid (v1.on XX1)
  clear b1 v1 X1 XX1 hd1 hl1 ha1
  obtain ⟨q0, q1, q2, q3, q4, q5, q6, q7⟩ := bkS F1.out
  obtain ⟨g0, g1, g2, g3, g4, g5, g6, g7⟩ := bkS G1.out
  go_wp2_with fail
  refine (HG.out _ C1.out).mono ?_
  rintro e w2 ⟨b2, u2, rfl, v2⟩
  obtain ⟨d2, l2, a2, hu2, hd2, hl2, ha2⟩ := id v2.ex
  obtain ⟨Ad2, cd2, hs1, _, _, _, _⟩ := hd2.ex
  obtain ⟨Al2, cl2, hs2, _, _, _⟩ := hl2.ex
  obtain ⟨Aa2, ca2, hs3, _, _, _⟩ := ha2.ex
  subst hs1 hs2 hs3 hu2
  clear q0 q1 q2 q3 q4 q5 q6 q7
  clear g0 g1 g2 g3 g4 g5 g6 g7
  have B2 := Lib.hid (C1.out.trans (b2.mono C1.out.size))
  have X2 := (Below.refl w2.heap.size w2).alloc (Nat.le_refl _) (.cells #[.slice Ad2 y.data.length cd2, .bool y.fin, .int .i64 y.next, .int .i64 y.mx, .slice Al2 y.lost.length cl2, .slice Aa2 y.acked.length ca2, .bool y.ended, .bool y.over] 25)
  have XX2 := X2
  have F2 := Lib.hid ((XX2.block _ (Nat.lt_of_lt_of_le (lt_of_block F1.out) b2.size)).trans ((b2.block _ (lt_of_block F1.out)).trans F1.out))
  have G2 := Lib.hid ((XX2.block _ (Nat.lt_of_lt_of_le (lt_of_block G1.out) b2.size)).trans ((b2.block _ (lt_of_block G1.out)).trans G1.out))
  have H2 := Lib.hid (heap_alloc_new w2 (.cells #[.slice Ad2 y.data.length cd2, .bool y.fin, .int .i64 y.next, .int .i64 y.mx, .slice Al2 y.lost.length cl2, .slice Aa2 y.acked.length ca2, .bool y.ended, .bool y.over] 25))
  have C2 := Lib.hid (B2.out.trans (XX2.mono B2.out.size))
  have V1 := Lib.hid ((V1.out.on b2).on XX2)
  have V2 := Lib.hid (v2.on XX2)
  clear b2 v2 X2 XX2 hd2 hl2 ha2
  obtain ⟨q0, q1, q2, q3, q4, q5, q6, q7⟩ := bkS F2.out
  obtain ⟨g0, g1, g2, g3, g4, g5, g6, g7⟩ := bkS G2.out
  obtain ⟨h0, h1, h2, h3, h4, h5, h6, h7⟩ := bkS H2.out
  go_wp2_with fail
  refine (RW.out _ C2.out).mono ?_
  rintro e w3 ⟨b3, u3, rfl, v3⟩
  obtain ⟨d3, l3, a3, hu3, hd3, hl3, ha3⟩ := id v3.ex
  obtain ⟨Ad3, cd3, hs1, _, _, _, _⟩ := hd3.ex
  obtain ⟨Al3, cl3, hs2, _, _, _⟩ := hl3.ex
  obtain ⟨Aa3, ca3, hs3, _, _, _⟩ := ha3.ex
  subst hs1 hs2 hs3 hu3
  clear q0 q1 q2 q3 q4 q5 q6 q7
  clear g0 g1 g2 g3 g4 g5 g6 g7
  clear h0 h1 h2 h3 h4 h5 h6 h7
  have B3 := Lib.hid (C2.out.trans (b3.mono C2.out.size))
  have X3 := (Below.refl w3.heap.size w3).alloc (Nat.le_refl _) (.cells #[.slice Ad3 x.data.length cd3, .bool x.fin, .int .i64 x.next, .int .i64 x.mx, .slice Al3 x.lost.length cl3, .slice Aa3 x.acked.length ca3, .bool x.ended, .bool x.over] 25)
  have XX3 := X3
  have F3 := Lib.hid ((XX3.block _ (Nat.lt_of_lt_of_le (lt_of_block F2.out) b3.size)).trans ((b3.block _ (lt_of_block F2.out)).trans F2.out))
  have G3 := Lib.hid ((XX3.block _ (Nat.lt_of_lt_of_le (lt_of_block G2.out) b3.size)).trans ((b3.block _ (lt_of_block G2.out)).trans G2.out))
  have H3 := Lib.hid ((XX3.block _ (Nat.lt_of_lt_of_le (lt_of_block H2.out) b3.size)).trans ((b3.block _ (lt_of_block H2.out)).trans H2.out))
  have I3 := Lib.hid (heap_alloc_new w3 (.cells #[.slice Ad3 x.data.length cd3, .bool x.fin, .int .i64 x.next, .int .i64 x.mx, .slice Al3 x.lost.length cl3, .slice Aa3 x.acked.length ca3, .bool x.ended, .bool x.over] 25))
  have C3 := Lib.hid (B3.out.trans (XX3.mono B3.out.size))
  have V1 := Lib.hid ((V1.out.on b3).on XX3)
  have V2 := Lib.hid ((V2.out.on b3).on XX3)
  have V3 := Lib.hid (v3.on XX3)
  clear b3 v3 X3 XX3 hd3 hl3 ha3
  obtain ⟨q0, q1, q2, q3, q4, q5, q6, q7⟩ := bkS F3.out
  obtain ⟨g0, g1, g2, g3, g4, g5, g6, g7⟩ := bkS G3.out
  obtain ⟨h0, h1, h2, h3, h4, h5, h6, h7⟩ := bkS H3.out
  obtain ⟨i0, i1, i2, i3, i4, i5, i6, i7⟩ := bkS I3.out
  go_wp2_with fail
  refine (RG.out _ C3.out).mono ?_
  rintro e w4 ⟨b4, u4, rfl, v4⟩
  obtain ⟨d4, l4, a4, hu4, hd4, hl4, ha4⟩ := id v4.ex
  obtain ⟨Ad4, cd4, hs1, _, _, _, _⟩ := hd4.ex
  obtain ⟨Al4, cl4, hs2, _, _, _⟩ := hl4.ex
  obtain ⟨Aa4, ca4, hs3, _, _, _⟩ := ha4.ex
  subst hs1 hs2 hs3 hu4
  clear q0 q1 q2 q3 q4 q5 q6 q7
  clear g0 g1 g2 g3 g4 g5 g6 g7
  clear h0 h1 h2 h3 h4 h5 h6 h7
  clear i0 i1 i2 i3 i4 i5 i6 i7
  have B4 := Lib.hid (C3.out.trans (b4.mono C3.out.size))
  have X4 := (Below.refl w4.heap.size w4).alloc (Nat.le_refl _) (.cells #[.slice Ad4 y.data.length cd4, .bool y.fin, .int .i64 y.next, .int .i64 y.mx, .slice Al4 y.lost.length cl4, .slice Aa4 y.acked.length ca4, .bool y.ended, .bool y.over] 25)
  have XX4 := X4
  have F4 := Lib.hid ((XX4.block _ (Nat.lt_of_lt_of_le (lt_of_block F3.out) b4.size)).trans ((b4.block _ (lt_of_block F3.out)).trans F3.out))
  have G4 := Lib.hid ((XX4.block _ (Nat.lt_of_lt_of_le (lt_of_block G3.out) b4.size)).trans ((b4.block _ (lt_of_block G3.out)).trans G3.out))
  have H4 := Lib.hid ((XX4.block _ (Nat.lt_of_lt_of_le (lt_of_block H3.out) b4.size)).trans ((b4.block _ (lt_of_block H3.out)).trans H3.out))
  have I4 := Lib.hid ((XX4.block _ (Nat.lt_of_lt_of_le (lt_of_block I3.out) b4.size)).trans ((b4.block _ (lt_of_block I3.out)).trans I3.out))
  have J4 := Lib.hid (heap_alloc_new w4 (.cells #[.slice Ad4 y.data.length cd4, .bool y.fin, .int .i64 y.next, .int .i64 y.mx, .slice Al4 y.lost.length cl4, .slice Aa4 y.acked.length ca4, .bool y.ended, .bool y.over] 25))
  have C4 := Lib.hid (B4.out.trans (XX4.mono B4.out.size))
  have V1 := Lib.hid ((V1.out.on b4).on XX4)
  have V2 := Lib.hid ((V2.out.on b4).on XX4)
  have V3 := Lib.hid ((V3.out.on b4).on XX4)
  have V4 := Lib.hid (v4.on XX4)
  clear b4 v4 X4 XX4 hd4 hl4 ha4
  obtain ⟨q0, q1, q2, q3, q4, q5, q6, q7⟩ := bkS F4.out
  obtain ⟨g0, g1, g2, g3, g4, g5, g6, g7⟩ := bkS G4.out
  obtain ⟨h0, h1, h2, h3, h4, h5, h6, h7⟩ := bkS H4.out
  obtain ⟨i0, i1, i2, i3, i4, i5, i6, i7⟩ := bkS I4.out
  obtain ⟨j0, j1, j2, j3, j4, j5, j6, j7⟩ := bkS J4.out
  go_wp2_with fail
  refine (sameSn_eq _ _ x _ V1.out V3.out).mono ?_
  rintro e w5 ⟨rfl, b5⟩
  clear q0 q1 q2 q3 q4 q5 q6 q7
  clear g0 g1 g2 g3 g4 g5 g6 g7
  clear h0 h1 h2 h3 h4 h5 h6 h7
  clear i0 i1 i2 i3 i4 i5 i6 i7
  clear j0 j1 j2 j3 j4 j5 j6 j7
  have C5 := Lib.hid (C4.out.trans (b5.mono C4.out.size))
  have F5 := Lib.hid ((b5.block _ (lt_of_block F4.out)).trans F4.out)
  have G5 := Lib.hid ((b5.block _ (lt_of_block G4.out)).trans G4.out)
  have H5 := Lib.hid ((b5.block _ (lt_of_block H4.out)).trans H4.out)
  have I5 := Lib.hid ((b5.block _ (lt_of_block I4.out)).trans I4.out)
  have J5 := Lib.hid ((b5.block _ (lt_of_block J4.out)).trans J4.out)
  have V1 := Lib.hid (V1.out.on b5)
  have V2 := Lib.hid (V2.out.on b5)
  have V3 := Lib.hid (V3.out.on b5)
  have V4 := Lib.hid (V4.out.on b5)
  clear b5
  obtain ⟨q0, q1, q2, q3, q4, q5, q6, q7⟩ := bkS F5.out
  obtain ⟨g0, g1, g2, g3, g4, g5, g6, g7⟩ := bkS G5.out
  obtain ⟨h0, h1, h2, h3, h4, h5, h6, h7⟩ := bkS H5.out
  obtain ⟨i0, i1, i2, i3, i4, i5, i6, i7⟩ := bkS I5.out
  obtain ⟨j0, j1, j2, j3, j4, j5, j6, j7⟩ := bkS J5.out
  go_wp2_with fail
  refine (sameSn_eq _ _ y _ V2.out V4.out).mono ?_
  rintro e w6 ⟨rfl, b6⟩
  clear q0 q1 q2 q3 q4 q5 q6 q7
  clear g0 g1 g2 g3 g4 g5 g6 g7
  clear h0 h1 h2 h3 h4 h5 h6 h7
  clear i0 i1 i2 i3 i4 i5 i6 i7
  clear j0 j1 j2 j3 j4 j5 j6 j7
  have C6 := Lib.hid (C5.out.trans (b6.mono C5.out.size))
  have F6 := Lib.hid ((b6.block _ (lt_of_block F5.out)).trans F5.out)
  have G6 := Lib.hid ((b6.block _ (lt_of_block G5.out)).trans G5.out)
  have H6 := Lib.hid ((b6.block _ (lt_of_block H5.out)).trans H5.out)
  have I6 := Lib.hid ((b6.block _ (lt_of_block I5.out)).trans I5.out)
  have J6 := Lib.hid ((b6.block _ (lt_of_block J5.out)).trans J5.out)
  have V1 := Lib.hid (V1.out.on b6)
  have V2 := Lib.hid (V2.out.on b6)
  have V3 := Lib.hid (V3.out.on b6)
  have V4 := Lib.hid (V4.out.on b6)
  clear b6
  obtain ⟨q0, q1, q2, q3, q4, q5, q6, q7⟩ := bkS F6.out
  obtain ⟨g0, g1, g2, g3, g4, g5, g6, g7⟩ := bkS G6.out
  obtain ⟨h0, h1, h2, h3, h4, h5, h6, h7⟩ := bkS H6.out
  obtain ⟨i0, i1, i2, i3, i4, i5, i6, i7⟩ := bkS I6.out
  obtain ⟨j0, j1, j2, j3, j4, j5, j6, j7⟩ := bkS J6.out
  go_wp2_with fail
  go_ret
  exact ⟨by first | rfl | simp, C6.out⟩
set_option maxRecDepth 100000 in
set_option maxHeartbeats 1000000 in
theorem senderHears_core (hP : SnHd Try.prog 23) (rP : SnHd Try.prog 24)
    (v : Value) (s : Sn) (off n : Int) (fin : Bool) (w : World) (hv : SnVal w w.heap.size v s) (hw : SnWf s) (hn : -9223372036854775808 ≤ n ∧ n ≤ 9223372036854775807) :
    Calls Try.prog 6 #[v, .int .i64 off, .int .i64 n, .bool fin] w fun e w' => e = .returned (.bool true) ∧ Below w.heap.size w w' := by
  have HW := Lib.hid (fun w' (hb : Below w.heap.size w w') => hP v s off n fin w' (hv.on hb) hw hn)
  have RW := Lib.hid (fun w' (hb : Below w.heap.size w w') => rP v s off n fin w' (hv.on hb) hw hn)
  obtain ⟨⟨x, xe⟩, hx⟩ : ∃ r, heardS s off n fin = r := ⟨_, rfl⟩
  rw [hx] at HW RW
  clear hx hP rP
  obtain ⟨d, l, a, rfl, hd, hl, ha⟩ := hv.ex
  have C0 := Lib.hid ((Below.refl w.heap.size w).alloc (Nat.le_refl _) (.cells #[d, .bool s.fin, .int .i64 s.next, .int .i64 s.mx, l, a, .bool s.ended, .bool s.over] 25))
  have F0 := Lib.hid (heap_alloc_new w (.cells #[d, .bool s.fin, .int .i64 s.next, .int .i64 s.mx, l, a, .bool s.ended, .bool s.over] 25))
  clear hv hd hl ha hw
  go_enter Try.func6, Try.ntmps6
  obtain ⟨q0, q1, q2, q3, q4, q5, q6, q7⟩ := bkS F0.out
  go_wp2_with fail
  refine (HW.out _ C0.out).mono ?_
  rintro e w1 ⟨b1, u1, rfl, v1⟩
  obtain ⟨d1, l1, a1, hu1, hd1, hl1, ha1⟩ := id v1.ex
  obtain ⟨Ad1, cd1, hs1, _, _, _, _⟩ := hd1.ex
  obtain ⟨Al1, cl1, hs2, _, _, _⟩ := hl1.ex
  obtain ⟨Aa1, ca1, hs3, _, _, _⟩ := ha1.ex
  subst hs1 hs2 hs3 hu1
  clear q0 q1 q2 q3 q4 q5 q6 q7
  have B1 := Lib.hid (C0.out.trans (b1.mono C0.out.size))
  have X1 := (Below.refl w1.heap.size w1).alloc (Nat.le_refl _) (.cells #[.slice Ad1 x.data.length cd1, .bool x.fin, .int .i64 x.next, .int .i64 x.mx, .slice Al1 x.lost.length cl1, .slice Aa1 x.acked.length ca1, .bool x.ended, .bool x.over] 25)
  have XX1 := X1
  have F1 := Lib.hid ((XX1.block _ (Nat.lt_of_lt_of_le (lt_of_block F0.out) b1.size)).trans ((b1.block _ (lt_of_block F0.out)).trans F0.out))
  have G1 := Lib.hid (heap_alloc_new w1 (.cells #[.slice Ad1 x.data.length cd1, .bool x.fin, .int .i64 x.next, .int .i64 x.mx, .slice Al1 x.lost.length cl1, .slice Aa1 x.acked.length ca1, .bool x.ended, .bool x.over] 25))
  have C1 := Lib.hid (B1.out.trans (XX1.mono B1.out.size))
  have V1 := Lib.hid (v1.on XX1)
  clear b1 v1 X1 XX1 hd1 hl1 ha1
  obtain ⟨q0, q1, q2, q3, q4, q5, q6, q7⟩ := bkS F1.out
  obtain ⟨g0, g1, g2, g3, g4, g5, g6, g7⟩ := bkS G1.out
  go_wp2_with fail
  refine (RW.out _ C1.out).mono ?_
  rintro e w2 ⟨b2, u2, rfl, v2⟩
  obtain ⟨d2, l2, a2, hu2, hd2, hl2, ha2⟩ := id v2.ex
  obtain ⟨Ad2, cd2, hs1, _, _, _, _⟩ := hd2.ex
  obtain ⟨Al2, cl2, hs2, _, _, _⟩ := hl2.ex
  obtain ⟨Aa2, ca2, hs3, _, _, _⟩ := ha2.ex
  subst hs1 hs2 hs3 hu2
  clear q0 q1 q2 q3 q4 q5 q6 q7
  clear g0 g1 g2 g3 g4 g5 g6 g7
  have B2 := Lib.hid (C1.out.trans (b2.mono C1.out.size))
  have X2 := (Below.refl w2.heap.size w2).alloc (Nat.le_refl _) (.cells #[.slice Ad2 x.data.length cd2, .bool x.fin, .int .i64 x.next, .int .i64 x.mx, .slice Al2 x.lost.length cl2, .slice Aa2 x.acked.length ca2, .bool x.ended, .bool x.over] 25)
  have XX2 := X2
  have F2 := Lib.hid ((XX2.block _ (Nat.lt_of_lt_of_le (lt_of_block F1.out) b2.size)).trans ((b2.block _ (lt_of_block F1.out)).trans F1.out))
  have G2 := Lib.hid ((XX2.block _ (Nat.lt_of_lt_of_le (lt_of_block G1.out) b2.size)).trans ((b2.block _ (lt_of_block G1.out)).trans G1.out))
  have H2 := Lib.hid (heap_alloc_new w2 (.cells #[.slice Ad2 x.data.length cd2, .bool x.fin, .int .i64 x.next, .int .i64 x.mx, .slice Al2 x.lost.length cl2, .slice Aa2 x.acked.length ca2, .bool x.ended, .bool x.over] 25))
  have C2 := Lib.hid (B2.out.trans (XX2.mono B2.out.size))
  have V1 := Lib.hid ((V1.out.on b2).on XX2)
  have V2 := Lib.hid (v2.on XX2)
  clear b2 v2 X2 XX2 hd2 hl2 ha2
  obtain ⟨q0, q1, q2, q3, q4, q5, q6, q7⟩ := bkS F2.out
  obtain ⟨g0, g1, g2, g3, g4, g5, g6, g7⟩ := bkS G2.out
  obtain ⟨h0, h1, h2, h3, h4, h5, h6, h7⟩ := bkS H2.out
  go_wp2_with fail
  refine (sameSn_eq _ _ x _ V1.out V2.out).mono ?_
  rintro e w3 ⟨rfl, b3⟩
  clear q0 q1 q2 q3 q4 q5 q6 q7
  clear g0 g1 g2 g3 g4 g5 g6 g7
  clear h0 h1 h2 h3 h4 h5 h6 h7
  have C3 := Lib.hid (C2.out.trans (b3.mono C2.out.size))
  have F3 := Lib.hid ((b3.block _ (lt_of_block F2.out)).trans F2.out)
  have G3 := Lib.hid ((b3.block _ (lt_of_block G2.out)).trans G2.out)
  have H3 := Lib.hid ((b3.block _ (lt_of_block H2.out)).trans H2.out)
  have V1 := Lib.hid (V1.out.on b3)
  have V2 := Lib.hid (V2.out.on b3)
  clear b3
  obtain ⟨q0, q1, q2, q3, q4, q5, q6, q7⟩ := bkS F3.out
  obtain ⟨g0, g1, g2, g3, g4, g5, g6, g7⟩ := bkS G3.out
  obtain ⟨h0, h1, h2, h3, h4, h5, h6, h7⟩ := bkS H3.out
  go_wp2_with fail
  go_ret
  exact ⟨by first | rfl | simp, C3.out⟩
set_option maxRecDepth 100000 in
set_option maxHeartbeats 1000000 in
theorem senderLoses_core (hP : SnLs Try.prog 25) (rP : SnLs Try.prog 26)
    (v : Value) (s : Sn) (off n : Int) (fin : Bool) (w : World) (hv : SnVal w w.heap.size v s) (hw : SnWf s) (hn : -9223372036854775808 ≤ n ∧ n ≤ 9223372036854775807) :
    Calls Try.prog 7 #[v, .int .i64 off, .int .i64 n, .bool fin] w fun e w' => e = .returned (.bool true) ∧ Below w.heap.size w w' := by
  have HW := Lib.hid (fun w' (hb : Below w.heap.size w w') => hP v s off n fin w' (hv.on hb) hw hn)
  have RW := Lib.hid (fun w' (hb : Below w.heap.size w w') => rP v s off n fin w' (hv.on hb) hw hn)
  obtain ⟨⟨x, xe⟩, hx⟩ : ∃ r, loseS s off n fin = r := ⟨_, rfl⟩
  rw [hx] at HW RW
  clear hx hP rP
  obtain ⟨d, l, a, rfl, hd, hl, ha⟩ := hv.ex
  have C0 := Lib.hid ((Below.refl w.heap.size w).alloc (Nat.le_refl _) (.cells #[d, .bool s.fin, .int .i64 s.next, .int .i64 s.mx, l, a, .bool s.ended, .bool s.over] 25))
  have F0 := Lib.hid (heap_alloc_new w (.cells #[d, .bool s.fin, .int .i64 s.next, .int .i64 s.mx, l, a, .bool s.ended, .bool s.over] 25))
  clear hv hd hl ha hw
  go_enter Try.func7, Try.ntmps7
  obtain ⟨q0, q1, q2, q3, q4, q5, q6, q7⟩ := bkS F0.out
  go_wp2_with fail
  refine (HW.out _ C0.out).mono ?_
  rintro e w1 ⟨b1, u1, rfl, v1⟩
  obtain ⟨d1, l1, a1, hu1, hd1, hl1, ha1⟩ := id v1.ex
  obtain ⟨Ad1, cd1, hs1, _, _, _, _⟩ := hd1.ex
  obtain ⟨Al1, cl1, hs2, _, _, _⟩ := hl1.ex
  obtain ⟨Aa1, ca1, hs3, _, _, _⟩ := ha1.ex
  subst hs1 hs2 hs3 hu1
  clear q0 q1 q2 q3 q4 q5 q6 q7
  have B1 := Lib.hid (C0.out.trans (b1.mono C0.out.size))
  have X1 := (Below.refl w1.heap.size w1).alloc (Nat.le_refl _) (.cells #[.slice Ad1 x.data.length cd1, .bool x.fin, .int .i64 x.next, .int .i64 x.mx, .slice Al1 x.lost.length cl1, .slice Aa1 x.acked.length ca1, .bool x.ended, .bool x.over] 25)
  have XX1 := X1
  have F1 := Lib.hid ((XX1.block _ (Nat.lt_of_lt_of_le (lt_of_block F0.out) b1.size)).trans ((b1.block _ (lt_of_block F0.out)).trans F0.out))
  have G1 := Lib.hid (heap_alloc_new w1 (.cells #[.slice Ad1 x.data.length cd1, .bool x.fin, .int .i64 x.next, .int .i64 x.mx, .slice Al1 x.lost.length cl1, .slice Aa1 x.acked.length ca1, .bool x.ended, .bool x.over] 25))
  have C1 := Lib.hid (B1.out.trans (XX1.mono B1.out.size))
  have V1 := Lib.hid (v1.on XX1)
  clear b1 v1 X1 XX1 hd1 hl1 ha1
  obtain ⟨q0, q1, q2, q3, q4, q5, q6, q7⟩ := bkS F1.out
  obtain ⟨g0, g1, g2, g3, g4, g5, g6, g7⟩ := bkS G1.out
  go_wp2_with fail
  refine (RW.out _ C1.out).mono ?_
  rintro e w2 ⟨b2, u2, rfl, v2⟩
  obtain ⟨d2, l2, a2, hu2, hd2, hl2, ha2⟩ := id v2.ex
  obtain ⟨Ad2, cd2, hs1, _, _, _, _⟩ := hd2.ex
  obtain ⟨Al2, cl2, hs2, _, _, _⟩ := hl2.ex
  obtain ⟨Aa2, ca2, hs3, _, _, _⟩ := ha2.ex
  subst hs1 hs2 hs3 hu2
  clear q0 q1 q2 q3 q4 q5 q6 q7
  clear g0 g1 g2 g3 g4 g5 g6 g7
  have B2 := Lib.hid (C1.out.trans (b2.mono C1.out.size))
  have X2 := (Below.refl w2.heap.size w2).alloc (Nat.le_refl _) (.cells #[.slice Ad2 x.data.length cd2, .bool x.fin, .int .i64 x.next, .int .i64 x.mx, .slice Al2 x.lost.length cl2, .slice Aa2 x.acked.length ca2, .bool x.ended, .bool x.over] 25)
  have XX2 := X2
  have F2 := Lib.hid ((XX2.block _ (Nat.lt_of_lt_of_le (lt_of_block F1.out) b2.size)).trans ((b2.block _ (lt_of_block F1.out)).trans F1.out))
  have G2 := Lib.hid ((XX2.block _ (Nat.lt_of_lt_of_le (lt_of_block G1.out) b2.size)).trans ((b2.block _ (lt_of_block G1.out)).trans G1.out))
  have H2 := Lib.hid (heap_alloc_new w2 (.cells #[.slice Ad2 x.data.length cd2, .bool x.fin, .int .i64 x.next, .int .i64 x.mx, .slice Al2 x.lost.length cl2, .slice Aa2 x.acked.length ca2, .bool x.ended, .bool x.over] 25))
  have C2 := Lib.hid (B2.out.trans (XX2.mono B2.out.size))
  have V1 := Lib.hid ((V1.out.on b2).on XX2)
  have V2 := Lib.hid (v2.on XX2)
  clear b2 v2 X2 XX2 hd2 hl2 ha2
  obtain ⟨q0, q1, q2, q3, q4, q5, q6, q7⟩ := bkS F2.out
  obtain ⟨g0, g1, g2, g3, g4, g5, g6, g7⟩ := bkS G2.out
  obtain ⟨h0, h1, h2, h3, h4, h5, h6, h7⟩ := bkS H2.out
  go_wp2_with fail
  refine (sameSn_eq _ _ x _ V1.out V2.out).mono ?_
  rintro e w3 ⟨rfl, b3⟩
  clear q0 q1 q2 q3 q4 q5 q6 q7
  clear g0 g1 g2 g3 g4 g5 g6 g7
  clear h0 h1 h2 h3 h4 h5 h6 h7
  have C3 := Lib.hid (C2.out.trans (b3.mono C2.out.size))
  have F3 := Lib.hid ((b3.block _ (lt_of_block F2.out)).trans F2.out)
  have G3 := Lib.hid ((b3.block _ (lt_of_block G2.out)).trans G2.out)
  have H3 := Lib.hid ((b3.block _ (lt_of_block H2.out)).trans H2.out)
  have V1 := Lib.hid (V1.out.on b3)
  have V2 := Lib.hid (V2.out.on b3)
  clear b3
  obtain ⟨q0, q1, q2, q3, q4, q5, q6, q7⟩ := bkS F3.out
  obtain ⟨g0, g1, g2, g3, g4, g5, g6, g7⟩ := bkS G3.out
  obtain ⟨h0, h1, h2, h3, h4, h5, h6, h7⟩ := bkS H3.out
  go_wp2_with fail
  go_ret
  exact ⟨by first | rfl | simp, C3.out⟩
end Go.Proofs.Ytkpkgegonfcgnaa
