/- The walks of PaceSends, PaceHears, PaceLoses. -/
import Derived.Test.YtlafjladlkbnoaaPace2
import Derived.Test.YtlafjladlkbnoaaPace3
import Derived.Test.YtlafjladlkbnoaaPace4
import Derived.Test.YtlafjladlkbnoaaRefPace
import Derived.Test.YtlafjladlkbnoaaOpenPa
namespace Go.Proofs.Ytlafjladlkbnoaa
set_option linter.unusedVariables false
open Go.RowKit P

theorem i64B_of {n : Int} (h : (Lit.int .i64 n).wf = true) : i64B n := bounds_i64 h
theorem paBegin_any (w : World) : Calls Try.prog 13 #[] w fun e w' => e = .returned (paV 400 0 0 (-1)) ∧ Below w.heap.size w w' := by
  unfold paV
  go_enter Try.func13, Try.ntmps13
  go_wp2_with fail
  exact bodyPost_ret (by simp [results, Try.results13, go_sem]) rfl ⟨rfl, (Below.refl w.heap.size w).alloc (Nat.le_refl _) _⟩
set_option maxHeartbeats 1000000 in
theorem paceSends_walk (wd th fl si n : Int) (hsi : i64B si) (w : World) :
    Calls Try.prog 3 #[.agg #[.int .i64 wd, .int .i64 th, .int .i64 fl, .int .i64 si], .int .i64 n] w fun e w' => e = .returned (.bool true) ∧ Below w.heap.size w w' := by
  have B0 := Lib.hid ((Below.refl w.heap.size w).alloc (Nat.le_refl _) (.cells #[.int .i64 wd, .int .i64 th, .int .i64 fl, .int .i64 si] 23))
  have F0 := Lib.hid (heap_alloc_new w (.cells #[.int .i64 wd, .int .i64 th, .int .i64 fl, .int .i64 si] 23))
  have HC := Lib.hid (fun w => paCheck_any wd th fl si hsi w)
  have HS := Lib.hid (fun w => paSend_any wd th fl si n hsi w)
  have RC := Lib.hid (fun w => refPaF_any wd th fl si hsi w)
  have RS := Lib.hid (fun w => refPaS_any wd th fl si n hsi w)
  have HB := Lib.hid (fun w => paBegin_any w)
  obtain ⟨⟨p0, p1, p2, p3, m, e⟩, hr⟩ : ∃ r, paS wd th fl si n = r := ⟨_, rfl⟩
  rw [hr] at HS RS
  obtain ⟨x, hx⟩ : ∃ x, paF wd th fl si = x := ⟨_, rfl⟩
  rw [hx] at HC RC
  unfold paSR at HS RS
  unfold paV at *
  clear hsi hr hx
  go_enter Try.func3, Try.ntmps3
  go_wp2_with fail
  refine (HC.out _).mono ?_
  rintro e1 w1 ⟨rfl, b1⟩
  have C1 := Lib.hid (B0.out.trans (b1.mono B0.out.size))
  have F1 := Lib.hid ((b1.block _ (lt_of_block F0.out)).trans F0.out)
  clear b1
  obtain ⟨q0, q1, q2, q3, qf⟩ := bk4 F1.out
  go_wp2_with fail
  refine (HS.out _).mono ?_
  rintro e2 w2 ⟨rfl, b2⟩
  have D2 := Lib.hid (C1.out.trans (b2.mono C1.out.size))
  have X2 := Lib.hid ((Below.refl w2.heap.size w2).alloc (Nat.le_refl _) (.cells #[.int .i64 p0, .int .i64 p1, .int .i64 p2, .int .i64 p3] 23))
  have G2 := Lib.hid (heap_alloc_new w2 (.cells #[.int .i64 p0, .int .i64 p1, .int .i64 p2, .int .i64 p3] 23))
  have C2 := Lib.hid (D2.out.trans (X2.out.mono D2.out.size))
  have F2 := Lib.hid ((X2.out.block _ (Nat.lt_of_lt_of_le (lt_of_block F1.out) b2.size)).trans ((b2.block _ (lt_of_block F1.out)).trans F1.out))
  clear b2
  clear q0 q1 q2 q3 qf
  obtain ⟨q0, q1, q2, q3, qf⟩ := bk4 F2.out
  go_wp2_with fail
  refine (RC.out _).mono ?_
  rintro e3 w3 ⟨rfl, b3⟩
  have C3 := Lib.hid (C2.out.trans (b3.mono C2.out.size))
  have F3 := Lib.hid ((b3.block _ (lt_of_block F2.out)).trans F2.out)
  have G3 := Lib.hid ((b3.block _ (lt_of_block G2.out)).trans G2.out)
  clear b3
  clear q0 q1 q2 q3 qf
  obtain ⟨q0, q1, q2, q3, qf⟩ := bk4 F3.out
  go_wp2_with fail
  refine (RS.out _).mono ?_
  rintro e4 w4 ⟨rfl, b4⟩
  have D4 := Lib.hid (C3.out.trans (b4.mono C3.out.size))
  have X4 := Lib.hid ((Below.refl w4.heap.size w4).alloc (Nat.le_refl _) (.cells #[.int .i64 p0, .int .i64 p1, .int .i64 p2, .int .i64 p3] 23))
  have K4 := Lib.hid (heap_alloc_new w4 (.cells #[.int .i64 p0, .int .i64 p1, .int .i64 p2, .int .i64 p3] 23))
  have C4 := Lib.hid (D4.out.trans (X4.out.mono D4.out.size))
  have G4 := Lib.hid ((X4.out.block _ (Nat.lt_of_lt_of_le (lt_of_block G3.out) b4.size)).trans ((b4.block _ (lt_of_block G3.out)).trans G3.out))
  clear b4
  clear q0 q1 q2 q3 qf
  obtain ⟨q0, q1, q2, q3, qf⟩ := bk4 G4.out
  go_wp2_with fail
  refine (HB.out _).mono ?_
  rintro e5 w5 ⟨rfl, b5⟩
  have C5 := Lib.hid (C4.out.trans (b5.mono C4.out.size))
  clear b5 q0 q1 q2 q3 qf
  go_wp2_with fail
  go_ret
  exact ⟨by first | rfl | simp, C5.out⟩
set_option maxHeartbeats 1000000 in
theorem paceHears_walk (wd th fl si n t : Int) (hsi : i64B si) (w : World) :
    Calls Try.prog 4 #[.agg #[.int .i64 wd, .int .i64 th, .int .i64 fl, .int .i64 si], .int .i64 n, .int .i64 t] w fun e w' => e = .returned (.bool true) ∧ Below w.heap.size w w' := by
  have B0 := Lib.hid ((Below.refl w.heap.size w).alloc (Nat.le_refl _) (.cells #[.int .i64 wd, .int .i64 th, .int .i64 fl, .int .i64 si] 23))
  have F0 := Lib.hid (heap_alloc_new w (.cells #[.int .i64 wd, .int .i64 th, .int .i64 fl, .int .i64 si] 23))
  have HS := Lib.hid (fun w => paHeard_any wd th fl si n t hsi w)
  have RS := Lib.hid (fun w => refPaH_any wd th fl si n t hsi w)
  obtain ⟨⟨p0, p1, p2, p3, e⟩, hr⟩ : ∃ r, paH wd th fl si n t = r := ⟨_, rfl⟩
  rw [hr] at HS RS
  unfold paR at HS RS
  unfold paV at *
  clear hsi hr
  go_enter Try.func4, Try.ntmps4
  go_wp2_with fail
  refine (HS.out _).mono ?_
  rintro e2 w2 ⟨rfl, b2⟩
  have D2 := Lib.hid (B0.out.trans (b2.mono B0.out.size))
  have X2 := Lib.hid ((Below.refl w2.heap.size w2).alloc (Nat.le_refl _) (.cells #[.int .i64 p0, .int .i64 p1, .int .i64 p2, .int .i64 p3] 23))
  have G2 := Lib.hid (heap_alloc_new w2 (.cells #[.int .i64 p0, .int .i64 p1, .int .i64 p2, .int .i64 p3] 23))
  have C2 := Lib.hid (D2.out.trans (X2.out.mono D2.out.size))
  have F2 := Lib.hid ((X2.out.block _ (Nat.lt_of_lt_of_le (lt_of_block F0.out) b2.size)).trans ((b2.block _ (lt_of_block F0.out)).trans F0.out))
  clear b2
  obtain ⟨q0, q1, q2, q3, qf⟩ := bk4 F2.out
  go_wp2_with fail
  refine (RS.out _).mono ?_
  rintro e4 w4 ⟨rfl, b4⟩
  have D4 := Lib.hid (C2.out.trans (b4.mono C2.out.size))
  have X4 := Lib.hid ((Below.refl w4.heap.size w4).alloc (Nat.le_refl _) (.cells #[.int .i64 p0, .int .i64 p1, .int .i64 p2, .int .i64 p3] 23))
  have K4 := Lib.hid (heap_alloc_new w4 (.cells #[.int .i64 p0, .int .i64 p1, .int .i64 p2, .int .i64 p3] 23))
  have C4 := Lib.hid (D4.out.trans (X4.out.mono D4.out.size))
  have G4 := Lib.hid ((X4.out.block _ (Nat.lt_of_lt_of_le (lt_of_block G2.out) b4.size)).trans ((b4.block _ (lt_of_block G2.out)).trans G2.out))
  clear b4
  clear q0 q1 q2 q3 qf
  obtain ⟨q0, q1, q2, q3, qf⟩ := bk4 G4.out
  go_wp2_with fail
  go_ret
  exact ⟨by first | rfl | simp, C4.out⟩
set_option maxHeartbeats 1000000 in
theorem paceLoses_walk (wd th fl si n t now : Int) (hsi : i64B si) (w : World) :
    Calls Try.prog 5 #[.agg #[.int .i64 wd, .int .i64 th, .int .i64 fl, .int .i64 si], .int .i64 n, .int .i64 t, .int .i64 now] w fun e w' => e = .returned (.bool true) ∧ Below w.heap.size w w' := by
  have B0 := Lib.hid ((Below.refl w.heap.size w).alloc (Nat.le_refl _) (.cells #[.int .i64 wd, .int .i64 th, .int .i64 fl, .int .i64 si] 23))
  have F0 := Lib.hid (heap_alloc_new w (.cells #[.int .i64 wd, .int .i64 th, .int .i64 fl, .int .i64 si] 23))
  have HS := Lib.hid (fun w => paLost_any wd th fl si n t now hsi w)
  have RS := Lib.hid (fun w => refPaL_any wd th fl si n t now hsi w)
  obtain ⟨⟨p0, p1, p2, p3, e⟩, hr⟩ : ∃ r, paL wd th fl si n t now = r := ⟨_, rfl⟩
  rw [hr] at HS RS
  unfold paR at HS RS
  unfold paV at *
  clear hsi hr
  go_enter Try.func5, Try.ntmps5
  go_wp2_with fail
  refine (HS.out _).mono ?_
  rintro e2 w2 ⟨rfl, b2⟩
  have D2 := Lib.hid (B0.out.trans (b2.mono B0.out.size))
  have X2 := Lib.hid ((Below.refl w2.heap.size w2).alloc (Nat.le_refl _) (.cells #[.int .i64 p0, .int .i64 p1, .int .i64 p2, .int .i64 p3] 23))
  have G2 := Lib.hid (heap_alloc_new w2 (.cells #[.int .i64 p0, .int .i64 p1, .int .i64 p2, .int .i64 p3] 23))
  have C2 := Lib.hid (D2.out.trans (X2.out.mono D2.out.size))
  have F2 := Lib.hid ((X2.out.block _ (Nat.lt_of_lt_of_le (lt_of_block F0.out) b2.size)).trans ((b2.block _ (lt_of_block F0.out)).trans F0.out))
  clear b2
  obtain ⟨q0, q1, q2, q3, qf⟩ := bk4 F2.out
  go_wp2_with fail
  refine (RS.out _).mono ?_
  rintro e4 w4 ⟨rfl, b4⟩
  have D4 := Lib.hid (C2.out.trans (b4.mono C2.out.size))
  have X4 := Lib.hid ((Below.refl w4.heap.size w4).alloc (Nat.le_refl _) (.cells #[.int .i64 p0, .int .i64 p1, .int .i64 p2, .int .i64 p3] 23))
  have K4 := Lib.hid (heap_alloc_new w4 (.cells #[.int .i64 p0, .int .i64 p1, .int .i64 p2, .int .i64 p3] 23))
  have C4 := Lib.hid (D4.out.trans (X4.out.mono D4.out.size))
  have G4 := Lib.hid ((X4.out.block _ (Nat.lt_of_lt_of_le (lt_of_block G2.out) b4.size)).trans ((b4.block _ (lt_of_block G2.out)).trans G2.out))
  clear b4
  clear q0 q1 q2 q3 qf
  obtain ⟨q0, q1, q2, q3, qf⟩ := bk4 G4.out
  go_wp2_with fail
  go_ret
  exact ⟨by first | rfl | simp, C4.out⟩
end Go.Proofs.Ytlafjladlkbnoaa
