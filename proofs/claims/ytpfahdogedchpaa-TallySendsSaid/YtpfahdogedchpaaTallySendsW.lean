/- The walk of TallySends. -/
import Derived.Test.YtpfahdogedchpaaRefTally
import Derived.Test.YtpfahdogedchpaaOpenTal
namespace Go.Proofs.Ytpfahdogedchpaa
set_option linter.unusedVariables false
open Go.RowKit P

set_option maxHeartbeats 2000000 in
theorem tallySends_walk (kn : Bool) (g s n : Int) (w : World) :
    Calls Try.prog 4 #[.agg #[.bool kn, .int .i64 g, .int .i64 s], .int .i64 n] w fun e w' => e = .returned (.bool true) ∧ Below w.heap.size w w' := by
  have B0 := Lib.hid ((Below.refl w.heap.size w).alloc (Nat.le_refl _) (.cells #[.bool kn, .int .i64 g, .int .i64 s] 34))
  have F0 := Lib.hid (heap_alloc_new w (.cells #[.bool kn, .int .i64 g, .int .i64 s] 34))
  have HC := Lib.hid (fun w => taChk_any kn g s w)
  have HG := Lib.hid (fun w => taGot_any kn g s n w)
  have HS := Lib.hid (fun w => taSent_any kn g s n w)
  have HK := Lib.hid (fun w => taKnow_any kn g s w)
  have RC := Lib.hid (fun w => refTaF_any kn g s w)
  have RG := Lib.hid (fun w => refTaG_any kn g s n w)
  have RS := Lib.hid (fun w => refTaS_any kn g s n w)
  have RK := Lib.hid (fun w => refTaK_any kn g s w)
  obtain ⟨⟨p0, p1, p2, pe⟩, hp⟩ : ∃ r, taG kn g s n = r := ⟨_, rfl⟩
  rw [hp] at HG RG
  obtain ⟨⟨q0, q1, q2, qe⟩, hq⟩ : ∃ r, taS kn g s n = r := ⟨_, rfl⟩
  rw [hq] at HS RS
  obtain ⟨⟨r0, r1, r2, re⟩, hr⟩ : ∃ r, taK kn g s = r := ⟨_, rfl⟩
  rw [hr] at HK RK
  obtain ⟨x, hx⟩ : ∃ x, taF kn g s = x := ⟨_, rfl⟩
  rw [hx] at HC RC
  unfold taR at HG HS HK RG RS RK
  unfold taV at *
  clear hp hq hr hx
  go_enter Try.func4, Try.ntmps4
  obtain ⟨c0, c1, c2, cf⟩ := bk3A F0.out
  go_wp2_with fail
  refine (HC.out _).mono ?_
  rintro e1 w1 ⟨rfl, b1⟩
  have C1 := Lib.hid (B0.out.trans (b1.mono B0.out.size))
  have K1_0 := Lib.hid ((b1.block _ (lt_of_block F0.out)).trans F0.out)
  clear b1 c0 c1 c2 cf F0
  obtain ⟨c0, c1, c2, cf⟩ := bk3A K1_0.out
  go_wp2_with fail
  refine (HG.out _).mono ?_
  rintro e2 w2 ⟨rfl, b2⟩
  have D2 := Lib.hid (C1.out.trans (b2.mono C1.out.size))
  have X2 := Lib.hid ((Below.refl w2.heap.size w2).alloc (Nat.le_refl _) (.cells #[.bool p0, .int .i64 p1, .int .i64 p2] 34))
  have N2 := Lib.hid (heap_alloc_new w2 (.cells #[.bool p0, .int .i64 p1, .int .i64 p2] 34))
  have C2 := Lib.hid (D2.out.trans (X2.out.mono D2.out.size))
  have K2_0 := Lib.hid ((X2.out.block _ (Nat.lt_of_lt_of_le (lt_of_block K1_0.out) b2.size)).trans ((b2.block _ (lt_of_block K1_0.out)).trans K1_0.out))
  clear b2 c0 c1 c2 cf K1_0
  go_upto_region 3 with fail
  obtain ⟨W2, hW2⟩ : ∃ W, w2.alloc (.cells #[.bool p0, .int .i64 p1, .int .i64 p2] 34) = W := ⟨_, rfl⟩
  rw [hW2] at C2 K2_0 N2 ⊢
  clear hW2 D2 X2
  obtain ⟨c0, c1, c2, cf⟩ := bk3A K2_0.out
  go_wp2_with fail
  refine (HS.out _).mono ?_
  rintro e3 w3 ⟨rfl, b3⟩
  have D3 := Lib.hid (C2.out.trans (b3.mono C2.out.size))
  have X3 := Lib.hid ((Below.refl w3.heap.size w3).alloc (Nat.le_refl _) (.cells #[.bool q0, .int .i64 q1, .int .i64 q2] 34))
  have N3 := Lib.hid (heap_alloc_new w3 (.cells #[.bool q0, .int .i64 q1, .int .i64 q2] 34))
  have C3 := Lib.hid (D3.out.trans (X3.out.mono D3.out.size))
  have K3_0 := Lib.hid ((X3.out.block _ (Nat.lt_of_lt_of_le (lt_of_block K2_0.out) b3.size)).trans ((b3.block _ (lt_of_block K2_0.out)).trans K2_0.out))
  have K3_1 := Lib.hid ((X3.out.block _ (Nat.lt_of_lt_of_le (lt_of_block N2.out) b3.size)).trans ((b3.block _ (lt_of_block N2.out)).trans N2.out))
  clear b3 c0 c1 c2 cf K2_0 N2
  go_upto_region 4 with fail
  obtain ⟨W3, hW3⟩ : ∃ W, w3.alloc (.cells #[.bool q0, .int .i64 q1, .int .i64 q2] 34) = W := ⟨_, rfl⟩
  rw [hW3] at C3 K3_0 K3_1 N3 ⊢
  clear hW3 D3 X3
  obtain ⟨c0, c1, c2, cf⟩ := bk3A K3_0.out
  go_wp2_with fail
  refine (HK.out _).mono ?_
  rintro e4 w4 ⟨rfl, b4⟩
  have D4 := Lib.hid (C3.out.trans (b4.mono C3.out.size))
  have X4 := Lib.hid ((Below.refl w4.heap.size w4).alloc (Nat.le_refl _) (.cells #[.bool r0, .int .i64 r1, .int .i64 r2] 34))
  have N4 := Lib.hid (heap_alloc_new w4 (.cells #[.bool r0, .int .i64 r1, .int .i64 r2] 34))
  have C4 := Lib.hid (D4.out.trans (X4.out.mono D4.out.size))
  have K4_0 := Lib.hid ((X4.out.block _ (Nat.lt_of_lt_of_le (lt_of_block K3_0.out) b4.size)).trans ((b4.block _ (lt_of_block K3_0.out)).trans K3_0.out))
  have K4_1 := Lib.hid ((X4.out.block _ (Nat.lt_of_lt_of_le (lt_of_block K3_1.out) b4.size)).trans ((b4.block _ (lt_of_block K3_1.out)).trans K3_1.out))
  have K4_2 := Lib.hid ((X4.out.block _ (Nat.lt_of_lt_of_le (lt_of_block N3.out) b4.size)).trans ((b4.block _ (lt_of_block N3.out)).trans N3.out))
  clear b4 c0 c1 c2 cf K3_0 K3_1 N3
  go_upto_region 5 with fail
  obtain ⟨W4, hW4⟩ : ∃ W, w4.alloc (.cells #[.bool r0, .int .i64 r1, .int .i64 r2] 34) = W := ⟨_, rfl⟩
  rw [hW4] at C4 K4_0 K4_1 K4_2 N4 ⊢
  clear hW4 D4 X4
  obtain ⟨c0, c1, c2, cf⟩ := bk3A K4_0.out
  go_wp2_with fail
  refine (RC.out _).mono ?_
  rintro e5 w5 ⟨rfl, b5⟩
  have C5 := Lib.hid (C4.out.trans (b5.mono C4.out.size))
  have K5_0 := Lib.hid ((b5.block _ (lt_of_block K4_0.out)).trans K4_0.out)
  have K5_1 := Lib.hid ((b5.block _ (lt_of_block K4_1.out)).trans K4_1.out)
  have K5_2 := Lib.hid ((b5.block _ (lt_of_block K4_2.out)).trans K4_2.out)
  have K5_3 := Lib.hid ((b5.block _ (lt_of_block N4.out)).trans N4.out)
  clear b5 c0 c1 c2 cf K4_0 K4_1 K4_2 N4
  obtain ⟨c0, c1, c2, cf⟩ := bk3A K5_0.out
  go_wp2_with fail
  refine (RG.out _).mono ?_
  rintro e6 w6 ⟨rfl, b6⟩
  have D6 := Lib.hid (C5.out.trans (b6.mono C5.out.size))
  have X6 := Lib.hid ((Below.refl w6.heap.size w6).alloc (Nat.le_refl _) (.cells #[.bool p0, .int .i64 p1, .int .i64 p2] 34))
  have N6 := Lib.hid (heap_alloc_new w6 (.cells #[.bool p0, .int .i64 p1, .int .i64 p2] 34))
  have C6 := Lib.hid (D6.out.trans (X6.out.mono D6.out.size))
  have K6_0 := Lib.hid ((X6.out.block _ (Nat.lt_of_lt_of_le (lt_of_block K5_0.out) b6.size)).trans ((b6.block _ (lt_of_block K5_0.out)).trans K5_0.out))
  have K6_1 := Lib.hid ((X6.out.block _ (Nat.lt_of_lt_of_le (lt_of_block K5_1.out) b6.size)).trans ((b6.block _ (lt_of_block K5_1.out)).trans K5_1.out))
  have K6_2 := Lib.hid ((X6.out.block _ (Nat.lt_of_lt_of_le (lt_of_block K5_2.out) b6.size)).trans ((b6.block _ (lt_of_block K5_2.out)).trans K5_2.out))
  have K6_3 := Lib.hid ((X6.out.block _ (Nat.lt_of_lt_of_le (lt_of_block K5_3.out) b6.size)).trans ((b6.block _ (lt_of_block K5_3.out)).trans K5_3.out))
  clear b6 c0 c1 c2 cf K5_0 K5_1 K5_2 K5_3
  go_upto_region 7 with fail
  obtain ⟨W6, hW6⟩ : ∃ W, w6.alloc (.cells #[.bool p0, .int .i64 p1, .int .i64 p2] 34) = W := ⟨_, rfl⟩
  rw [hW6] at C6 K6_0 K6_1 K6_2 K6_3 N6 ⊢
  clear hW6 D6 X6
  obtain ⟨c0, c1, c2, cf⟩ := bk3A K6_0.out
  go_wp2_with fail
  refine (RS.out _).mono ?_
  rintro e7 w7 ⟨rfl, b7⟩
  have D7 := Lib.hid (C6.out.trans (b7.mono C6.out.size))
  have X7 := Lib.hid ((Below.refl w7.heap.size w7).alloc (Nat.le_refl _) (.cells #[.bool q0, .int .i64 q1, .int .i64 q2] 34))
  have N7 := Lib.hid (heap_alloc_new w7 (.cells #[.bool q0, .int .i64 q1, .int .i64 q2] 34))
  have C7 := Lib.hid (D7.out.trans (X7.out.mono D7.out.size))
  have K7_0 := Lib.hid ((X7.out.block _ (Nat.lt_of_lt_of_le (lt_of_block K6_0.out) b7.size)).trans ((b7.block _ (lt_of_block K6_0.out)).trans K6_0.out))
  have K7_1 := Lib.hid ((X7.out.block _ (Nat.lt_of_lt_of_le (lt_of_block K6_1.out) b7.size)).trans ((b7.block _ (lt_of_block K6_1.out)).trans K6_1.out))
  have K7_2 := Lib.hid ((X7.out.block _ (Nat.lt_of_lt_of_le (lt_of_block K6_2.out) b7.size)).trans ((b7.block _ (lt_of_block K6_2.out)).trans K6_2.out))
  have K7_3 := Lib.hid ((X7.out.block _ (Nat.lt_of_lt_of_le (lt_of_block K6_3.out) b7.size)).trans ((b7.block _ (lt_of_block K6_3.out)).trans K6_3.out))
  have K7_4 := Lib.hid ((X7.out.block _ (Nat.lt_of_lt_of_le (lt_of_block N6.out) b7.size)).trans ((b7.block _ (lt_of_block N6.out)).trans N6.out))
  clear b7 c0 c1 c2 cf K6_0 K6_1 K6_2 K6_3 N6
  go_upto_region 8 with fail
  obtain ⟨W7, hW7⟩ : ∃ W, w7.alloc (.cells #[.bool q0, .int .i64 q1, .int .i64 q2] 34) = W := ⟨_, rfl⟩
  rw [hW7] at C7 K7_0 K7_1 K7_2 K7_3 K7_4 N7 ⊢
  clear hW7 D7 X7
  obtain ⟨c0, c1, c2, cf⟩ := bk3A K7_0.out
  go_wp2_with fail
  refine (RK.out _).mono ?_
  rintro e8 w8 ⟨rfl, b8⟩
  have D8 := Lib.hid (C7.out.trans (b8.mono C7.out.size))
  have X8 := Lib.hid ((Below.refl w8.heap.size w8).alloc (Nat.le_refl _) (.cells #[.bool r0, .int .i64 r1, .int .i64 r2] 34))
  have N8 := Lib.hid (heap_alloc_new w8 (.cells #[.bool r0, .int .i64 r1, .int .i64 r2] 34))
  have C8 := Lib.hid (D8.out.trans (X8.out.mono D8.out.size))
  have K8_0 := Lib.hid ((X8.out.block _ (Nat.lt_of_lt_of_le (lt_of_block K7_0.out) b8.size)).trans ((b8.block _ (lt_of_block K7_0.out)).trans K7_0.out))
  have K8_1 := Lib.hid ((X8.out.block _ (Nat.lt_of_lt_of_le (lt_of_block K7_1.out) b8.size)).trans ((b8.block _ (lt_of_block K7_1.out)).trans K7_1.out))
  have K8_2 := Lib.hid ((X8.out.block _ (Nat.lt_of_lt_of_le (lt_of_block K7_2.out) b8.size)).trans ((b8.block _ (lt_of_block K7_2.out)).trans K7_2.out))
  have K8_3 := Lib.hid ((X8.out.block _ (Nat.lt_of_lt_of_le (lt_of_block K7_3.out) b8.size)).trans ((b8.block _ (lt_of_block K7_3.out)).trans K7_3.out))
  have K8_4 := Lib.hid ((X8.out.block _ (Nat.lt_of_lt_of_le (lt_of_block K7_4.out) b8.size)).trans ((b8.block _ (lt_of_block K7_4.out)).trans K7_4.out))
  have K8_5 := Lib.hid ((X8.out.block _ (Nat.lt_of_lt_of_le (lt_of_block N7.out) b8.size)).trans ((b8.block _ (lt_of_block N7.out)).trans N7.out))
  clear b8 c0 c1 c2 cf K7_0 K7_1 K7_2 K7_3 K7_4 N7
  go_upto_region 9 with fail
  obtain ⟨W8, hW8⟩ : ∃ W, w8.alloc (.cells #[.bool r0, .int .i64 r1, .int .i64 r2] 34) = W := ⟨_, rfl⟩
  rw [hW8] at C8 K8_0 K8_1 K8_2 K8_3 K8_4 K8_5 N8 ⊢
  clear hW8 D8 X8
  obtain ⟨a00, a01, a02, af0⟩ := bk3A K8_1.out
  obtain ⟨a10, a11, a12, af1⟩ := bk3A K8_2.out
  obtain ⟨a20, a21, a22, af2⟩ := bk3A K8_3.out
  obtain ⟨a30, a31, a32, af3⟩ := bk3A K8_4.out
  obtain ⟨a40, a41, a42, af4⟩ := bk3A K8_5.out
  obtain ⟨a50, a51, a52, af5⟩ := bk3A N8.out
  go_wp2_with fail
  go_ret
  exact ⟨by first | rfl | simp, C8.out⟩
end Go.Proofs.Ytpfahdogedchpaa
