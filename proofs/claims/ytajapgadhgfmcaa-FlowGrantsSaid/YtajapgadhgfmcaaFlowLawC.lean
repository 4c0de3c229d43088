/- The walks of FlowSpends and FlowGrants, over what is asked of the project. -/
import Derived.Test.YtajapgadhgfmcaaFlowV
namespace Go.Proofs.Ytajapgadhgfmcaa
set_option linter.unusedVariables false
open Go.RowKit P

theorem flowSpends_core (hC : FlChk Try.prog 6) (hS : FlSpend Try.prog 7) (mx us n : Int) (hn : -9223372036854775808 ≤ n ∧ n ≤ 9223372036854775807) (w : World) :
    Calls Try.prog 3 #[flV mx us, .int .i64 n] w fun e w' => e = .returned (.bool true) ∧ Below w.heap.size w w' := by
  have B0 := Lib.hid ((Below.refl w.heap.size w).alloc (Nat.le_refl _) (.cells #[.int .i64 mx, .int .i64 us] 23))
  have F0 := Lib.hid (heap_alloc_new w (.cells #[.int .i64 mx, .int .i64 us] 23))
  have HC := Lib.hid (fun w => hC mx us w)
  have HS := Lib.hid (fun w => hS mx us n w hn)
  have RC := Lib.hid (fun w => refFl_any mx us w)
  have RS := Lib.hid (fun w => refFlS_any mx us n w hn)
  obtain ⟨⟨p, q, e⟩, hr⟩ : ∃ r, flS mx us n = r := ⟨_, rfl⟩
  rw [hr] at HS RS
  obtain ⟨x, hx⟩ : ∃ x, flF mx us = x := ⟨_, rfl⟩
  rw [hx] at HC RC
  unfold flR at HS RS
  unfold flV at *
  clear hC hS hr hx
  go_enter Try.func3, Try.ntmps3
  go_wp2_with fail
  refine (HC.out _).mono ?_
  rintro e1 w1 ⟨rfl, b1⟩
  have B1 := Lib.hid (B0.out.trans (b1.mono B0.out.size))
  have F1 := Lib.hid ((b1.block _ (lt_of_block F0.out)).trans F0.out)
  clear b1
  obtain ⟨q0, q1, qf⟩ := bk2 F1.out
  go_wp2_with fail
  refine (HS.out _).mono ?_
  rintro e2 w2 ⟨rfl, b2⟩
  have B2 := Lib.hid (B1.out.trans (b2.mono B1.out.size))
  have X2 := Lib.hid ((Below.refl w2.heap.size w2).alloc (Nat.le_refl _) (.cells #[.int .i64 p, .int .i64 q] 23))
  have G2 := Lib.hid (heap_alloc_new w2 (.cells #[.int .i64 p, .int .i64 q] 23))
  have F2 := Lib.hid ((X2.out.block _ (Nat.lt_of_lt_of_le (lt_of_block F1.out) b2.size)).trans ((b2.block _ (lt_of_block F1.out)).trans F1.out))
  have C2 := Lib.hid (B2.out.trans (X2.out.mono B2.out.size))
  clear b2 q0 q1 qf
  obtain ⟨q0, q1, qf⟩ := bk2 F2.out
  go_wp2_with fail
  refine (RC.out _).mono ?_
  rintro e3 w3 ⟨rfl, b3⟩
  have B3 := Lib.hid (C2.out.trans (b3.mono C2.out.size))
  have F3 := Lib.hid ((b3.block _ (lt_of_block F2.out)).trans F2.out)
  have G3 := Lib.hid ((b3.block _ (lt_of_block G2.out)).trans G2.out)
  clear b3 q0 q1 qf
  obtain ⟨q0, q1, qf⟩ := bk2 F3.out
  go_wp2_with fail
  refine (RS.out _).mono ?_
  rintro e4 w4 ⟨rfl, b4⟩
  have B4 := Lib.hid (B3.out.trans (b4.mono B3.out.size))
  have X4 := Lib.hid ((Below.refl w4.heap.size w4).alloc (Nat.le_refl _) (.cells #[.int .i64 p, .int .i64 q] 23))
  have G4 := Lib.hid ((X4.out.block _ (Nat.lt_of_lt_of_le (lt_of_block G3.out) b4.size)).trans ((b4.block _ (lt_of_block G3.out)).trans G3.out))
  have C4 := Lib.hid (B4.out.trans (X4.out.mono B4.out.size))
  clear b4 q0 q1 qf
  obtain ⟨g0, g1, gf⟩ := bk2 G4.out
  go_wp2_with fail
  go_ret
  exact ⟨by first | rfl | simp, C4.out⟩
theorem flowGrants_core (hG : FlGrant Try.prog 10) (mx us n : Int) (w : World) :
    Calls Try.prog 4 #[flV mx us, .int .i64 n] w fun e w' => e = .returned (.bool true) ∧ Below w.heap.size w w' := by
  have B0 := Lib.hid ((Below.refl w.heap.size w).alloc (Nat.le_refl _) (.cells #[.int .i64 mx, .int .i64 us] 23))
  have F0 := Lib.hid (heap_alloc_new w (.cells #[.int .i64 mx, .int .i64 us] 23))
  have HS := Lib.hid (fun w => hG mx us n w)
  have RS := Lib.hid (fun w => refFlG_any mx us n w)
  obtain ⟨⟨p, q, e⟩, hr⟩ : ∃ r, flG mx us n = r := ⟨_, rfl⟩
  rw [hr] at HS RS
  unfold flR at HS RS
  unfold flV at *
  clear hG hr
  go_enter Try.func4, Try.ntmps4
  go_wp2_with fail
  refine (HS.out _).mono ?_
  rintro e2 w2 ⟨rfl, b2⟩
  have B2 := Lib.hid (B0.out.trans (b2.mono B0.out.size))
  have X2 := Lib.hid ((Below.refl w2.heap.size w2).alloc (Nat.le_refl _) (.cells #[.int .i64 p, .int .i64 q] 23))
  have G2 := Lib.hid (heap_alloc_new w2 (.cells #[.int .i64 p, .int .i64 q] 23))
  have F2 := Lib.hid ((X2.out.block _ (Nat.lt_of_lt_of_le (lt_of_block F0.out) b2.size)).trans ((b2.block _ (lt_of_block F0.out)).trans F0.out))
  have C2 := Lib.hid (B2.out.trans (X2.out.mono B2.out.size))
  clear b2
  obtain ⟨q0, q1, qf⟩ := bk2 F2.out
  go_wp2_with fail
  refine (RS.out _).mono ?_
  rintro e4 w4 ⟨rfl, b4⟩
  have B4 := Lib.hid (C2.out.trans (b4.mono C2.out.size))
  have X4 := Lib.hid ((Below.refl w4.heap.size w4).alloc (Nat.le_refl _) (.cells #[.int .i64 p, .int .i64 q] 23))
  have G4 := Lib.hid ((X4.out.block _ (Nat.lt_of_lt_of_le (lt_of_block G2.out) b4.size)).trans ((b4.block _ (lt_of_block G2.out)).trans G2.out))
  have C4 := Lib.hid (B4.out.trans (X4.out.mono B4.out.size))
  clear b4 q0 q1 qf
  obtain ⟨g0, g1, gf⟩ := bk2 G4.out
  go_wp2_with fail
  go_ret
  exact ⟨by first | rfl | simp, C4.out⟩
end Go.Proofs.Ytajapgadhgfmcaa
