/- The walk of SenderPieces over what is asked of the project and of the document. -/
import Derived.Test.YtkpkgegonfcgnaaSnSame
import Derived.Test.YtkpkgegonfcgnaaFrSameS
namespace Go.Proofs.Ytkpkgegonfcgnaa
set_option linter.unusedVariables false
open Go.RowKit P

theorem frval_on {w w' : World} {v : Value} {f : Fr} (h : FrVal w w.heap.size v f) (hb : Below w.heap.size w w') : FrVal w' w'.heap.size v f := h.on hb
set_option maxRecDepth 100000 in
set_option maxHeartbeats 1000000 in
theorem senderPieces_core (hP : SnPc Try.prog 20) (rP : SnPc Try.prog 21)
    (v : Value) (s : Sn) (room credit : Int) (w : World) (hv : SnVal w w.heap.size v s) (hw : SnWf s) :
    Calls Try.prog 5 #[v, .int .i64 room, .int .i64 credit] w fun e w' => e = .returned (.bool true) ∧ Below w.heap.size w w' := by
  have HW := Lib.hid (fun w' (hb : Below w.heap.size w w') => hP v s room credit w' (hv.on hb) hw)
  have RW := Lib.hid (fun w' (hb : Below w.heap.size w w') => rP v s room credit w' (hv.on hb) hw)
  obtain ⟨⟨x, y, xo, xe⟩, hx⟩ : ∃ r, pieceS s room credit = r := ⟨_, rfl⟩
  rw [hx] at HW RW
  clear hx hP rP
  obtain ⟨d, l, a, rfl, hd, hl, ha⟩ := hv.ex
  have C0 := Lib.hid ((Below.refl w.heap.size w).alloc (Nat.le_refl _) (.cells #[d, .bool s.fin, .int .i64 s.next, .int .i64 s.mx, l, a, .bool s.ended, .bool s.over] 25))
  have F0 := Lib.hid (heap_alloc_new w (.cells #[d, .bool s.fin, .int .i64 s.next, .int .i64 s.mx, l, a, .bool s.ended, .bool s.over] 25))
  clear hv hd hl ha hw
  go_enter Try.func5, Try.ntmps5
  obtain ⟨q0, q1, q2, q3, q4, q5, q6, q7⟩ := bkS F0.out
  go_wp2_with fail
  refine (HW.out _ C0.out).mono ?_
  rintro e w1 ⟨b1, u1, t1, rfl, v1, f1⟩
  obtain ⟨d1, l1, a1, hu1, hd1, hl1, ha1⟩ := id v1.ex
  obtain ⟨Ad1, cd1, hs1, _, _, _, _⟩ := hd1.ex
  obtain ⟨Al1, cl1, hs2, _, _, _⟩ := hl1.ex
  obtain ⟨Aa1, ca1, hs3, _, _, _⟩ := ha1.ex
  subst hs1 hs2 hs3 hu1
  clear q0 q1 q2 q3 q4 q5 q6 q7
  have B1 := Lib.hid (C0.out.trans (b1.mono C0.out.size))
  have X1 := (Below.refl w1.heap.size w1).alloc (Nat.le_refl _) (.cells #[.slice Ad1 x.data.length cd1, .bool x.fin, .int .i64 x.next, .int .i64 x.mx, .slice Al1 x.lost.length cl1, .slice Aa1 x.acked.length ca1, .bool x.ended, .bool x.over] 25)
  obtain ⟨r1, y1, ht1, hr1, hy1⟩ := id f1.ex
  obtain ⟨Ar1, cr1, hs4, _, _, _⟩ := hr1.ex
  obtain ⟨Ay1, cy1, hs5, _, _, _, _⟩ := hy1.ex
  subst hs4 hs5 ht1
  have Y1 := (Below.refl (w1.alloc (.cells #[.slice Ad1 x.data.length cd1, .bool x.fin, .int .i64 x.next, .int .i64 x.mx, .slice Al1 x.lost.length cl1, .slice Aa1 x.acked.length ca1, .bool x.ended, .bool x.over] 25)).heap.size (w1.alloc (.cells #[.slice Ad1 x.data.length cd1, .bool x.fin, .int .i64 x.next, .int .i64 x.mx, .slice Al1 x.lost.length cl1, .slice Aa1 x.acked.length ca1, .bool x.ended, .bool x.over] 25))).alloc (Nat.le_refl _) (.cells #[.int .i64 y.kind, .int .i64 y.id, .int .i64 y.off, .bool y.fin, .int .i64 y.code, .slice Ar1 y.rs.length cr1, .slice Ay1 y.data.length cy1] 37)
  have XX1 := X1.trans (Y1.mono X1.size)
  have F1 := Lib.hid ((XX1.block _ (Nat.lt_of_lt_of_le (lt_of_block F0.out) b1.size)).trans ((b1.block _ (lt_of_block F0.out)).trans F0.out))
  have G1 := Lib.hid ((Y1.block _ (by simp)).trans (heap_alloc_new w1 (.cells #[.slice Ad1 x.data.length cd1, .bool x.fin, .int .i64 x.next, .int .i64 x.mx, .slice Al1 x.lost.length cl1, .slice Aa1 x.acked.length ca1, .bool x.ended, .bool x.over] 25)))
  have M1 := Lib.hid (heap_alloc_new (w1.alloc (.cells #[.slice Ad1 x.data.length cd1, .bool x.fin, .int .i64 x.next, .int .i64 x.mx, .slice Al1 x.lost.length cl1, .slice Aa1 x.acked.length ca1, .bool x.ended, .bool x.over] 25)) (.cells #[.int .i64 y.kind, .int .i64 y.id, .int .i64 y.off, .bool y.fin, .int .i64 y.code, .slice Ar1 y.rs.length cr1, .slice Ay1 y.data.length cy1] 37))
  rw [show (w1.alloc (.cells #[.slice Ad1 x.data.length cd1, .bool x.fin, .int .i64 x.next, .int .i64 x.mx, .slice Al1 x.lost.length cl1, .slice Aa1 x.acked.length ca1, .bool x.ended, .bool x.over] 25)).heap.size = w1.heap.size + 1 by simp] at M1
  have C1 := Lib.hid (B1.out.trans (XX1.mono B1.out.size))
  have V1 := Lib.hid (v1.on XX1)
  have T1 := Lib.hid (frval_on f1 XX1)
  clear b1 v1 X1 XX1 hd1 hl1 ha1 f1 Y1 hr1 hy1
  obtain ⟨q0, q1, q2, q3, q4, q5, q6, q7⟩ := bkS F1.out
  obtain ⟨g0, g1, g2, g3, g4, g5, g6, g7⟩ := bkS G1.out
  obtain ⟨m0, m1, m2, m3, m4, m5, m6⟩ := bkF M1.out
  go_wp2_with fail
  refine (RW.out _ C1.out).mono ?_
  rintro e w2 ⟨b2, u2, t2, rfl, v2, f2⟩
  obtain ⟨d2, l2, a2, hu2, hd2, hl2, ha2⟩ := id v2.ex
  obtain ⟨Ad2, cd2, hs1, _, _, _, _⟩ := hd2.ex
  obtain ⟨Al2, cl2, hs2, _, _, _⟩ := hl2.ex
  obtain ⟨Aa2, ca2, hs3, _, _, _⟩ := ha2.ex
  subst hs1 hs2 hs3 hu2
  clear q0 q1 q2 q3 q4 q5 q6 q7
  clear g0 g1 g2 g3 g4 g5 g6 g7
  clear m0 m1 m2 m3 m4 m5 m6
  have B2 := Lib.hid (C1.out.trans (b2.mono C1.out.size))
  have X2 := (Below.refl w2.heap.size w2).alloc (Nat.le_refl _) (.cells #[.slice Ad2 x.data.length cd2, .bool x.fin, .int .i64 x.next, .int .i64 x.mx, .slice Al2 x.lost.length cl2, .slice Aa2 x.acked.length ca2, .bool x.ended, .bool x.over] 25)
  obtain ⟨r2, y2, ht2, hr2, hy2⟩ := id f2.ex
  obtain ⟨Ar2, cr2, hs4, _, _, _⟩ := hr2.ex
  obtain ⟨Ay2, cy2, hs5, _, _, _, _⟩ := hy2.ex
  subst hs4 hs5 ht2
  have Y2 := (Below.refl (w2.alloc (.cells #[.slice Ad2 x.data.length cd2, .bool x.fin, .int .i64 x.next, .int .i64 x.mx, .slice Al2 x.lost.length cl2, .slice Aa2 x.acked.length ca2, .bool x.ended, .bool x.over] 25)).heap.size (w2.alloc (.cells #[.slice Ad2 x.data.length cd2, .bool x.fin, .int .i64 x.next, .int .i64 x.mx, .slice Al2 x.lost.length cl2, .slice Aa2 x.acked.length ca2, .bool x.ended, .bool x.over] 25))).alloc (Nat.le_refl _) (.cells #[.int .i64 y.kind, .int .i64 y.id, .int .i64 y.off, .bool y.fin, .int .i64 y.code, .slice Ar2 y.rs.length cr2, .slice Ay2 y.data.length cy2] 37)
  have XX2 := X2.trans (Y2.mono X2.size)
  have F2 := Lib.hid ((XX2.block _ (Nat.lt_of_lt_of_le (lt_of_block F1.out) b2.size)).trans ((b2.block _ (lt_of_block F1.out)).trans F1.out))
  have G2 := Lib.hid ((XX2.block _ (Nat.lt_of_lt_of_le (lt_of_block G1.out) b2.size)).trans ((b2.block _ (lt_of_block G1.out)).trans G1.out))
  have M2 := Lib.hid ((XX2.block _ (Nat.lt_of_lt_of_le (lt_of_block M1.out) b2.size)).trans ((b2.block _ (lt_of_block M1.out)).trans M1.out))
  have H2 := Lib.hid ((Y2.block _ (by simp)).trans (heap_alloc_new w2 (.cells #[.slice Ad2 x.data.length cd2, .bool x.fin, .int .i64 x.next, .int .i64 x.mx, .slice Al2 x.lost.length cl2, .slice Aa2 x.acked.length ca2, .bool x.ended, .bool x.over] 25)))
  have N2 := Lib.hid (heap_alloc_new (w2.alloc (.cells #[.slice Ad2 x.data.length cd2, .bool x.fin, .int .i64 x.next, .int .i64 x.mx, .slice Al2 x.lost.length cl2, .slice Aa2 x.acked.length ca2, .bool x.ended, .bool x.over] 25)) (.cells #[.int .i64 y.kind, .int .i64 y.id, .int .i64 y.off, .bool y.fin, .int .i64 y.code, .slice Ar2 y.rs.length cr2, .slice Ay2 y.data.length cy2] 37))
  rw [show (w2.alloc (.cells #[.slice Ad2 x.data.length cd2, .bool x.fin, .int .i64 x.next, .int .i64 x.mx, .slice Al2 x.lost.length cl2, .slice Aa2 x.acked.length ca2, .bool x.ended, .bool x.over] 25)).heap.size = w2.heap.size + 1 by simp] at N2
  have C2 := Lib.hid (B2.out.trans (XX2.mono B2.out.size))
  have V1 := Lib.hid ((V1.out.on b2).on XX2)
  have T1 := Lib.hid ((T1.out.on b2).on XX2)
  have V2 := Lib.hid (v2.on XX2)
  have T2 := Lib.hid (frval_on f2 XX2)
  clear b2 v2 X2 XX2 hd2 hl2 ha2 f2 Y2 hr2 hy2
  obtain ⟨q0, q1, q2, q3, q4, q5, q6, q7⟩ := bkS F2.out
  obtain ⟨g0, g1, g2, g3, g4, g5, g6, g7⟩ := bkS G2.out
  obtain ⟨m0, m1, m2, m3, m4, m5, m6⟩ := bkF M2.out
  obtain ⟨h0, h1, h2, h3, h4, h5, h6, h7⟩ := bkS H2.out
  obtain ⟨n0, n1, n2, n3, n4, n5, n6⟩ := bkF N2.out
  go_wp2_with fail
  refine (sameSn_eq _ _ x _ V1.out V2.out).mono ?_
  rintro e w3 ⟨rfl, b3⟩
  clear q0 q1 q2 q3 q4 q5 q6 q7
  clear g0 g1 g2 g3 g4 g5 g6 g7
  clear m0 m1 m2 m3 m4 m5 m6
  clear h0 h1 h2 h3 h4 h5 h6 h7
  clear n0 n1 n2 n3 n4 n5 n6
  have C3 := Lib.hid (C2.out.trans (b3.mono C2.out.size))
  have F3 := Lib.hid ((b3.block _ (lt_of_block F2.out)).trans F2.out)
  have G3 := Lib.hid ((b3.block _ (lt_of_block G2.out)).trans G2.out)
  have M3 := Lib.hid ((b3.block _ (lt_of_block M2.out)).trans M2.out)
  have H3 := Lib.hid ((b3.block _ (lt_of_block H2.out)).trans H2.out)
  have N3 := Lib.hid ((b3.block _ (lt_of_block N2.out)).trans N2.out)
  have V1 := Lib.hid (V1.out.on b3)
  have T1 := Lib.hid (T1.out.on b3)
  have V2 := Lib.hid (V2.out.on b3)
  have T2 := Lib.hid (T2.out.on b3)
  clear b3
  obtain ⟨q0, q1, q2, q3, q4, q5, q6, q7⟩ := bkS F3.out
  obtain ⟨g0, g1, g2, g3, g4, g5, g6, g7⟩ := bkS G3.out
  obtain ⟨m0, m1, m2, m3, m4, m5, m6⟩ := bkF M3.out
  obtain ⟨h0, h1, h2, h3, h4, h5, h6, h7⟩ := bkS H3.out
  obtain ⟨n0, n1, n2, n3, n4, n5, n6⟩ := bkF N3.out
  go_wp2_with fail
  refine (lsameFr_eq _ _ y _ T1.out T2.out).mono ?_
  rintro e w4 ⟨rfl, b4⟩
  clear q0 q1 q2 q3 q4 q5 q6 q7
  clear g0 g1 g2 g3 g4 g5 g6 g7
  clear m0 m1 m2 m3 m4 m5 m6
  clear h0 h1 h2 h3 h4 h5 h6 h7
  clear n0 n1 n2 n3 n4 n5 n6
  have C4 := Lib.hid (C3.out.trans (b4.mono C3.out.size))
  have F4 := Lib.hid ((b4.block _ (lt_of_block F3.out)).trans F3.out)
  have G4 := Lib.hid ((b4.block _ (lt_of_block G3.out)).trans G3.out)
  have M4 := Lib.hid ((b4.block _ (lt_of_block M3.out)).trans M3.out)
  have H4 := Lib.hid ((b4.block _ (lt_of_block H3.out)).trans H3.out)
  have N4 := Lib.hid ((b4.block _ (lt_of_block N3.out)).trans N3.out)
  have V1 := Lib.hid (V1.out.on b4)
  have T1 := Lib.hid (T1.out.on b4)
  have V2 := Lib.hid (V2.out.on b4)
  have T2 := Lib.hid (T2.out.on b4)
  clear b4
  obtain ⟨q0, q1, q2, q3, q4, q5, q6, q7⟩ := bkS F4.out
  obtain ⟨g0, g1, g2, g3, g4, g5, g6, g7⟩ := bkS G4.out
  obtain ⟨m0, m1, m2, m3, m4, m5, m6⟩ := bkF M4.out
  obtain ⟨h0, h1, h2, h3, h4, h5, h6, h7⟩ := bkS H4.out
  obtain ⟨n0, n1, n2, n3, n4, n5, n6⟩ := bkF N4.out
  go_wp2_with fail
  go_ret
  exact ⟨by first | rfl | simp, C4.out⟩
end Go.Proofs.Ytkpkgegonfcgnaa
