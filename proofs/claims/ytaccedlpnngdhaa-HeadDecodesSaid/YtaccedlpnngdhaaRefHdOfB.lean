/- The document's answer on bytes that a head begins with: HeadOf, where there is a Token. -/
import Derived.Test.YtaccedlpnngdhaaRefHdOfA
import Derived.Test.YtaccedlpnngdhaaHdVal
import Derived.Test.YtaccedlpnngdhaaMem
import Derived.Test.YtaccedlpnngdhaaConvS
import Derived.Deep.RegionWith
import Derived.RegionTactic
namespace Go.Proofs.Ytaccedlpnngdhaa
set_option linter.unusedVariables false
open Go.RowKit P

section
variable {S : ByteArray} {z : Int} {w : World}
theorem refHdOf_long1Init {y f : Int} {k n m : Nat} (h : S.toList.isEmpty = false) (h0 : 0 < S.size) (hx : ((S[0]'h0).toNat : Int) = z) (a : 192 ≤ z) (b : z < 196) (hk : z - 191 = k) (h1 : 1 ≤ S.size) (hn : S.size < 3) :
    Calls Try.prog 5 #[.string S] w fun e w' => e = .returned (.tuple #[.agg #[.int .i64 0, .int .i64 0, .int .i64 0, .slice none 0 0, .int .i64 0, .int .i64 0], .int .i64 0, .int .i64 4]) ∧ Below w.heap.size w w' := by
  rcases (show S.size = 1 ∨ S.size = 2 by omega) with hs | hs
  all_goals
    go_enter Try.func5, Try.ntmps5
    go_wp2
    go_region
    go_wp2
    refine bodyPost_ret (by simp [results, Try.results5, go_sem]; try rfl) rfl ?_
    exact ⟨rfl, by go_grown⟩
theorem refHdOf_long2Init {y f : Int} {k n m : Nat} (h : S.toList.isEmpty = false) (h0 : 0 < S.size) (hx : ((S[0]'h0).toNat : Int) = z) (a : 192 ≤ z) (b : z < 196) (hk : z - 191 = k) (h1 : 1 < S.size) (hy : ((S[1]'h1).toNat : Int) = y) (y0 : 0 ≤ y) (y1 : y ≤ 255) (h2 : 2 < S.size) (hf : ((S[2]'h2).toNat : Int) = f) (f0 : 0 ≤ f) (f1 : f ≤ 255) (HV : Hid (∀ w, Calls Try.prog 9 #[.string (S.extract 3 S.size)] w fun e w' => e = .returned (.tuple #[.int .i64 0, .int .i64 0, .int .i64 4]) ∧ Below w.heap.size w w')) :
    Calls Try.prog 5 #[.string S] w fun e w' => e = .returned (.tuple #[.agg #[.int .i64 0, .int .i64 0, .int .i64 0, .slice none 0 0, .int .i64 0, .int .i64 0], .int .i64 0, .int .i64 4]) ∧ Below w.heap.size w w' := by
  go_enter Try.func5, Try.ntmps5
  go_wp2
  go_region
  go_wp2_with (go_at_call 9; refine (HV.out _).mono ?_; rintro e w5 ⟨rfl, b5⟩; have H5 := Lib.hid ((HoAt.start w #[.int .i64 0, .int .i64 y, .int .i64 f, .slice none 0 0, .int .i64 0, .int .i64 k]).drew.on b5); clear b5; obtain ⟨q0, q1, q2, q3, q4, q5, qf⟩ := bk6 H5.out.f; obtain ⟨z0, z1, z2, z3, z4, z5, zf⟩ := bk6 H5.out.z)
  obtain ⟨u0, u1, u2, u3, u4, u5, _, gput⟩ := bk6_put H5.out.z (.int .i64 0) (.int .i64 0) (.int .i64 0) (.slice none 0 0) (.int .i64 0) (.int .i64 0)
  have GP := Lib.hid gput
  clear gput z0 z1 z2 z3 z4 z5 zf q0 q1 q2 q3 q4 q5 qf
  refine bodyPost_ret (by simp [results, Try.results5, go_sem, u0, u1, u2, u3, u4, u5]; try rfl) rfl ?_
  exact ⟨rfl, H5.out.err GP.out⟩
theorem refHdOf_long3Init {y f : Int} {k n m : Nat} (h : S.toList.isEmpty = false) (h0 : 0 < S.size) (hx : ((S[0]'h0).toNat : Int) = z) (a : 192 ≤ z) (b : z < 196) (hk : z - 191 = k) (h1 : 1 < S.size) (hy : ((S[1]'h1).toNat : Int) = y) (y0 : 0 ≤ y) (y1 : y ≤ 255) (h2 : 2 < S.size) (hf : ((S[2]'h2).toNat : Int) = f) (f0 : 0 ≤ f) (f1 : f ≤ 255) (HV : Hid (∀ w, Calls Try.prog 9 #[.string (S.extract 3 S.size)] w fun e w' => e = .returned (.tuple #[.int .i64 (m : Int), .int .i64 (n : Int), .int .i64 0]) ∧ Below w.heap.size w w')) (hn8 : n ≤ 8) (hm : 120 < m) :
    Calls Try.prog 5 #[.string S] w fun e w' => e = .returned (.tuple #[.agg #[.int .i64 0, .int .i64 0, .int .i64 0, .slice none 0 0, .int .i64 0, .int .i64 0], .int .i64 0, .int .i64 1]) ∧ Below w.heap.size w w' := by
  go_enter Try.func5, Try.ntmps5
  go_wp2
  go_region
  go_wp2_with (go_at_call 9; refine (HV.out _).mono ?_; rintro e w5 ⟨rfl, b5⟩; have H5 := Lib.hid ((HoAt.start w #[.int .i64 0, .int .i64 y, .int .i64 f, .slice none 0 0, .int .i64 0, .int .i64 k]).drew.on b5); clear b5; obtain ⟨q0, q1, q2, q3, q4, q5, qf⟩ := bk6 H5.out.f; obtain ⟨z0, z1, z2, z3, z4, z5, zf⟩ := bk6 H5.out.z)
  obtain ⟨u0, u1, u2, u3, u4, u5, _, gput⟩ := bk6_put H5.out.z (.int .i64 0) (.int .i64 0) (.int .i64 0) (.slice none 0 0) (.int .i64 0) (.int .i64 0)
  have GP := Lib.hid gput
  clear gput z0 z1 z2 z3 z4 z5 zf q0 q1 q2 q3 q4 q5 qf
  refine bodyPost_ret (by simp [results, Try.results5, go_sem, u0, u1, u2, u3, u4, u5]; try rfl) rfl ?_
  exact ⟨rfl, H5.out.err GP.out⟩
theorem refHdOf_long4Init {y f : Int} {k n m : Nat} (h : S.toList.isEmpty = false) (h0 : 0 < S.size) (hx : ((S[0]'h0).toNat : Int) = z) (a : 192 ≤ z) (b : z < 196) (hk : z - 191 = k) (h1 : 1 < S.size) (hy : ((S[1]'h1).toNat : Int) = y) (y0 : 0 ≤ y) (y1 : y ≤ 255) (h2 : 2 < S.size) (hf : ((S[2]'h2).toNat : Int) = f) (f0 : 0 ≤ f) (f1 : f ≤ 255) (HV : Hid (∀ w, Calls Try.prog 9 #[.string (S.extract 3 S.size)] w fun e w' => e = .returned (.tuple #[.int .i64 (m : Int), .int .i64 (n : Int), .int .i64 0]) ∧ Below w.heap.size w w')) (hn8 : n ≤ 8) (hm : m ≤ 120) (hs : (S.size : Int) < 3 + n + m) :
    Calls Try.prog 5 #[.string S] w fun e w' => e = .returned (.tuple #[.agg #[.int .i64 0, .int .i64 0, .int .i64 0, .slice none 0 0, .int .i64 0, .int .i64 0], .int .i64 0, .int .i64 4]) ∧ Below w.heap.size w w' := by
  go_enter Try.func5, Try.ntmps5
  go_wp2
  go_region
  go_wp2_with (go_at_call 9; refine (HV.out _).mono ?_; rintro e w5 ⟨rfl, b5⟩; have H5 := Lib.hid ((HoAt.start w #[.int .i64 0, .int .i64 y, .int .i64 f, .slice none 0 0, .int .i64 0, .int .i64 k]).drew.on b5); clear b5; obtain ⟨q0, q1, q2, q3, q4, q5, qf⟩ := bk6 H5.out.f; obtain ⟨z0, z1, z2, z3, z4, z5, zf⟩ := bk6 H5.out.z)
  obtain ⟨u0, u1, u2, u3, u4, u5, _, gput⟩ := bk6_put H5.out.z (.int .i64 0) (.int .i64 0) (.int .i64 0) (.slice none 0 0) (.int .i64 0) (.int .i64 0)
  have GP := Lib.hid gput
  clear gput z0 z1 z2 z3 z4 z5 zf q0 q1 q2 q3 q4 q5 qf
  refine bodyPost_ret (by simp [results, Try.results5, go_sem, u0, u1, u2, u3, u4, u5]; try rfl) rfl ?_
  exact ⟨rfl, H5.out.err GP.out⟩
theorem refHdOf_long1Retry {y f : Int} {k n m : Nat} (h : S.toList.isEmpty = false) (h0 : 0 < S.size) (hx : ((S[0]'h0).toNat : Int) = z) (hz : z = 240) (h1 : 1 ≤ S.size) (hn : S.size < 3) :
    Calls Try.prog 5 #[.string S] w fun e w' => e = .returned (.tuple #[.agg #[.int .i64 0, .int .i64 0, .int .i64 0, .slice none 0 0, .int .i64 0, .int .i64 0], .int .i64 0, .int .i64 4]) ∧ Below w.heap.size w w' := by
  subst hz
  rcases (show S.size = 1 ∨ S.size = 2 by omega) with hs | hs
  all_goals
    go_enter Try.func5, Try.ntmps5
    go_wp2
    refine bodyPost_ret (by simp [results, Try.results5, go_sem]; try rfl) rfl ?_
    exact ⟨rfl, by go_grown⟩
theorem refHdOf_long2Retry {y f : Int} {k n m : Nat} (h : S.toList.isEmpty = false) (h0 : 0 < S.size) (hx : ((S[0]'h0).toNat : Int) = z) (hz : z = 240) (h1 : 1 < S.size) (hy : ((S[1]'h1).toNat : Int) = y) (y0 : 0 ≤ y) (y1 : y ≤ 255) (h2 : 2 < S.size) (hf : ((S[2]'h2).toNat : Int) = f) (f0 : 0 ≤ f) (f1 : f ≤ 255) (HV : Hid (∀ w, Calls Try.prog 9 #[.string (S.extract 3 S.size)] w fun e w' => e = .returned (.tuple #[.int .i64 0, .int .i64 0, .int .i64 4]) ∧ Below w.heap.size w w')) :
    Calls Try.prog 5 #[.string S] w fun e w' => e = .returned (.tuple #[.agg #[.int .i64 0, .int .i64 0, .int .i64 0, .slice none 0 0, .int .i64 0, .int .i64 0], .int .i64 0, .int .i64 4]) ∧ Below w.heap.size w w' := by
  subst hz
  go_enter Try.func5, Try.ntmps5
  go_wp2_with (go_at_call 9; refine (HV.out _).mono ?_; rintro e w5 ⟨rfl, b5⟩; have H5 := Lib.hid ((HoAt.start w #[.int .i64 1, .int .i64 y, .int .i64 f, .slice none 0 0, .int .i64 0, .int .i64 0]).on b5); clear b5; obtain ⟨q0, q1, q2, q3, q4, q5, qf⟩ := bk6 H5.out.f; obtain ⟨z0, z1, z2, z3, z4, z5, zf⟩ := bk6 H5.out.z)
  obtain ⟨u0, u1, u2, u3, u4, u5, _, gput⟩ := bk6_put H5.out.z (.int .i64 0) (.int .i64 0) (.int .i64 0) (.slice none 0 0) (.int .i64 0) (.int .i64 0)
  have GP := Lib.hid gput
  clear gput z0 z1 z2 z3 z4 z5 zf q0 q1 q2 q3 q4 q5 qf
  refine bodyPost_ret (by simp [results, Try.results5, go_sem, u0, u1, u2, u3, u4, u5]; try rfl) rfl ?_
  exact ⟨rfl, H5.out.err GP.out⟩
theorem refHdOf_long3Retry {y f : Int} {k n m : Nat} (h : S.toList.isEmpty = false) (h0 : 0 < S.size) (hx : ((S[0]'h0).toNat : Int) = z) (hz : z = 240) (h1 : 1 < S.size) (hy : ((S[1]'h1).toNat : Int) = y) (y0 : 0 ≤ y) (y1 : y ≤ 255) (h2 : 2 < S.size) (hf : ((S[2]'h2).toNat : Int) = f) (f0 : 0 ≤ f) (f1 : f ≤ 255) (HV : Hid (∀ w, Calls Try.prog 9 #[.string (S.extract 3 S.size)] w fun e w' => e = .returned (.tuple #[.int .i64 (m : Int), .int .i64 (n : Int), .int .i64 0]) ∧ Below w.heap.size w w')) (hn8 : n ≤ 8) (hm : 120 < m) :
    Calls Try.prog 5 #[.string S] w fun e w' => e = .returned (.tuple #[.agg #[.int .i64 0, .int .i64 0, .int .i64 0, .slice none 0 0, .int .i64 0, .int .i64 0], .int .i64 0, .int .i64 1]) ∧ Below w.heap.size w w' := by
  subst hz
  go_enter Try.func5, Try.ntmps5
  go_wp2_with (go_at_call 9; refine (HV.out _).mono ?_; rintro e w5 ⟨rfl, b5⟩; have H5 := Lib.hid ((HoAt.start w #[.int .i64 1, .int .i64 y, .int .i64 f, .slice none 0 0, .int .i64 0, .int .i64 0]).on b5); clear b5; obtain ⟨q0, q1, q2, q3, q4, q5, qf⟩ := bk6 H5.out.f; obtain ⟨z0, z1, z2, z3, z4, z5, zf⟩ := bk6 H5.out.z)
  obtain ⟨u0, u1, u2, u3, u4, u5, _, gput⟩ := bk6_put H5.out.z (.int .i64 0) (.int .i64 0) (.int .i64 0) (.slice none 0 0) (.int .i64 0) (.int .i64 0)
  have GP := Lib.hid gput
  clear gput z0 z1 z2 z3 z4 z5 zf q0 q1 q2 q3 q4 q5 qf
  refine bodyPost_ret (by simp [results, Try.results5, go_sem, u0, u1, u2, u3, u4, u5]; try rfl) rfl ?_
  exact ⟨rfl, H5.out.err GP.out⟩
theorem refHdOf_long4Retry {y f : Int} {k n m : Nat} (h : S.toList.isEmpty = false) (h0 : 0 < S.size) (hx : ((S[0]'h0).toNat : Int) = z) (hz : z = 240) (h1 : 1 < S.size) (hy : ((S[1]'h1).toNat : Int) = y) (y0 : 0 ≤ y) (y1 : y ≤ 255) (h2 : 2 < S.size) (hf : ((S[2]'h2).toNat : Int) = f) (f0 : 0 ≤ f) (f1 : f ≤ 255) (HV : Hid (∀ w, Calls Try.prog 9 #[.string (S.extract 3 S.size)] w fun e w' => e = .returned (.tuple #[.int .i64 (m : Int), .int .i64 (n : Int), .int .i64 0]) ∧ Below w.heap.size w w')) (hn8 : n ≤ 8) (hm : m ≤ 120) (hs : (S.size : Int) < 3 + n + m) :
    Calls Try.prog 5 #[.string S] w fun e w' => e = .returned (.tuple #[.agg #[.int .i64 0, .int .i64 0, .int .i64 0, .slice none 0 0, .int .i64 0, .int .i64 0], .int .i64 0, .int .i64 4]) ∧ Below w.heap.size w w' := by
  subst hz
  go_enter Try.func5, Try.ntmps5
  go_wp2_with (go_at_call 9; refine (HV.out _).mono ?_; rintro e w5 ⟨rfl, b5⟩; have H5 := Lib.hid ((HoAt.start w #[.int .i64 1, .int .i64 y, .int .i64 f, .slice none 0 0, .int .i64 0, .int .i64 0]).on b5); clear b5; obtain ⟨q0, q1, q2, q3, q4, q5, qf⟩ := bk6 H5.out.f; obtain ⟨z0, z1, z2, z3, z4, z5, zf⟩ := bk6 H5.out.z)
  obtain ⟨u0, u1, u2, u3, u4, u5, _, gput⟩ := bk6_put H5.out.z (.int .i64 0) (.int .i64 0) (.int .i64 0) (.slice none 0 0) (.int .i64 0) (.int .i64 0)
  have GP := Lib.hid gput
  clear gput z0 z1 z2 z3 z4 z5 zf q0 q1 q2 q3 q4 q5 qf
  refine bodyPost_ret (by simp [results, Try.results5, go_sem, u0, u1, u2, u3, u4, u5]; try rfl) rfl ?_
  exact ⟨rfl, H5.out.err GP.out⟩
theorem refHdOf_long5Init {y f : Int} {k n m : Nat} (h : S.toList.isEmpty = false) (h0 : 0 < S.size) (hx : ((S[0]'h0).toNat : Int) = z) (a : 192 ≤ z) (b : z < 196) (hk : z - 191 = k) (h1 : 1 < S.size) (hy : ((S[1]'h1).toNat : Int) = y) (y0 : 0 ≤ y) (y1 : y ≤ 255) (h2 : 2 < S.size) (hf : ((S[2]'h2).toNat : Int) = f) (f0 : 0 ≤ f) (f1 : f ≤ 255) (HV : Hid (∀ w, Calls Try.prog 9 #[.string (S.extract 3 S.size)] w fun e w' => e = .returned (.tuple #[.int .i64 (m : Int), .int .i64 (n : Int), .int .i64 0]) ∧ Below w.heap.size w w')) (hn8 : n ≤ 8) (hm : m ≤ 120) (tok : List Int) (htk : tok.length = m) (hby : Byt tok) (HT : Hid (S.extract (3 + n) (3 + n + m) = strOfNums tok)) (hs : 3 + (n : Int) + m ≤ S.size) (hs2 : (S.size : Int) < 3 + n + m + k) :
    Calls Try.prog 5 #[.string S] w fun e w' => e = .returned (.tuple #[.agg #[.int .i64 0, .int .i64 0, .int .i64 0, .slice none 0 0, .int .i64 0, .int .i64 0], .int .i64 0, .int .i64 4]) ∧ Below w.heap.size w w' := by
  go_enter Try.func5, Try.ntmps5
  go_wp2
  go_region
  go_wp2_with (go_at_call 9; refine (HV.out _).mono ?_; rintro e w5 ⟨rfl, b5⟩; have H5 := Lib.hid ((HoAt.start w #[.int .i64 0, .int .i64 y, .int .i64 f, .slice none 0 0, .int .i64 0, .int .i64 k]).drew.on b5); clear b5; obtain ⟨q0, q1, q2, q3, q4, q5, qf⟩ := bk6 H5.out.f; obtain ⟨z0, z1, z2, z3, z4, z5, zf⟩ := bk6 H5.out.z; obtain ⟨C, w6, hrun, hb6, hlt6, hd6⟩ := conv_str tok hby (by omega) w5; rw [← HT.out, htk] at hrun; rw [htk] at hd6; have hlt5 := lt_of_block H5.out.f; have H6 := Lib.hid (H5.out.on hb6); obtain ⟨p0, p1, p2, p3, p4, p5, pf⟩ := bk6 H6.out.f; have H7 := Lib.hid (H6.out.set 3 (.slice (some ⟨w5.heap.size, 0, none⟩) m C)); clear q0 q1 q2 q3 q4 q5 qf z0 z1 z2 z3 z4 z5 zf; obtain ⟨z0, z1, z2, z3, z4, z5, zf⟩ := bk6 H7.out.z; obtain ⟨q0, q1, q2, q3, q4, q5, qf⟩ := bk6 H7.out.f; clear hb6)
  obtain ⟨u0, u1, u2, u3, u4, u5, _, gput⟩ := bk6_put H7.out.z (.int .i64 0) (.int .i64 0) (.int .i64 0) (.slice none 0 0) (.int .i64 0) (.int .i64 0)
  have GP := Lib.hid gput
  clear gput z0 z1 z2 z3 z4 z5 zf q0 q1 q2 q3 q4 q5 qf
  refine bodyPost_ret (by simp [results, Try.results5, go_sem, u0, u1, u2, u3, u4, u5]; try rfl) rfl ?_
  exact ⟨rfl, H7.out.err GP.out⟩
set_option maxHeartbeats 400000 in
theorem refHdOf_okInit {y f v : Int} {k n m : Nat} (h : S.toList.isEmpty = false) (h0 : 0 < S.size) (hx : ((S[0]'h0).toNat : Int) = z) (a : 192 ≤ z) (b : z < 196) (hk : z - 191 = k) (h1 : 1 < S.size) (hy : ((S[1]'h1).toNat : Int) = y) (y0 : 0 ≤ y) (y1 : y ≤ 255) (h2 : 2 < S.size) (hf : ((S[2]'h2).toNat : Int) = f) (f0 : 0 ≤ f) (f1 : f ≤ 255) (HV : Hid (∀ w, Calls Try.prog 9 #[.string (S.extract 3 S.size)] w fun e w' => e = .returned (.tuple #[.int .i64 (m : Int), .int .i64 (n : Int), .int .i64 0]) ∧ Below w.heap.size w w')) (hn8 : n ≤ 8) (hm : m ≤ 120) (tok : List Int) (htk : tok.length = m) (hby : Byt tok) (HT : Hid (S.extract (3 + n) (3 + n + m) = strOfNums tok)) (hs : 3 + (n : Int) + m + k ≤ S.size) (v0 : 0 ≤ v) (v1 : v ≤ 4294967295) (HN : Hid (∀ w, Calls Try.prog 10 #[.string (S.extract (3 + n + m) (3 + n + m + k))] w fun e w' => e = .returned (.int .u64 v) ∧ w = w')) :
    Calls Try.prog 5 #[.string S] w fun e w' => ∃ d, e = .returned (.tuple #[.agg #[.int .i64 0, .int .i64 y, .int .i64 f, d, .int .i64 v, .int .i64 (k : Int)], .int .i64 (3 + (n : Int) + m + k), .int .i64 0]) ∧ Below w.heap.size w w' ∧ BSl w' w'.heap.size d tok := by
  go_enter Try.func5, Try.ntmps5
  go_wp2
  go_region
  go_wp2_with (first | (go_at_call 9; refine (HV.out _).mono ?_; rintro e w5 ⟨rfl, b5⟩; have H5 := Lib.hid ((HoAt.start w #[.int .i64 0, .int .i64 y, .int .i64 f, .slice none 0 0, .int .i64 0, .int .i64 k]).drew.on b5); clear b5; obtain ⟨q0, q1, q2, q3, q4, q5, qf⟩ := bk6 H5.out.f; obtain ⟨z0, z1, z2, z3, z4, z5, zf⟩ := bk6 H5.out.z; obtain ⟨C, w6, hrun, hb6, hlt6, hd6⟩ := conv_str tok hby (by omega) w5; rw [← HT.out, htk] at hrun; rw [htk] at hd6; have hlt5 := lt_of_block H5.out.f; have H6 := Lib.hid (H5.out.on hb6); obtain ⟨p0, p1, p2, p3, p4, p5, pf⟩ := bk6 H6.out.f; have H7 := Lib.hid (H6.out.set 3 (.slice (some ⟨w5.heap.size, 0, none⟩) m C)); clear q0 q1 q2 q3 q4 q5 qf z0 z1 z2 z3 z4 z5 zf; obtain ⟨z0, z1, z2, z3, z4, z5, zf⟩ := bk6 H7.out.z; obtain ⟨q0, q1, q2, q3, q4, q5, qf⟩ := bk6 H7.out.f; clear hb6; have H8 := Lib.hid (H7.out.set 4 (.int .i64 v)); obtain ⟨r0, r1, r2, r3, r4, r5, rf⟩ := bk6 H8.out.f; obtain ⟨y0', y1', y2', y3', y4', y5', yf⟩ := bk6 H8.out.z) | (go_at_call 10; refine (HN.out _).mono ?_; rintro e w9 ⟨rfl, rfl⟩))
  clear p0 p1 p2 p3 p4 p5 pf q0 q1 q2 q3 q4 q5 qf z0 z1 z2 z3 z4 z5 zf
  generalize hw8 : ((w6.setCell ⟨w.heap.size + 1, 3, none⟩ (.slice (some ⟨w5.heap.size, 0, none⟩) m C)).setCell ⟨w.heap.size + 1, 4, none⟩ (.int .i64 v)) = w8 at *
  have HW8 := Lib.hid hw8
  clear hw8
  have HD6 := Lib.hid hd6
  have HL5 := Lib.hid hlt5
  have HL6 := Lib.hid hlt6
  clear hrun hd6 hlt5 hlt6 hx hy hf h HT HV HN
  have hw : IntKind.i64.wrap (3 + (n : Int) + m + k) = 3 + n + m + k := by rw [IntKind.wrap_i64]; omega
  obtain ⟨u0, u1, u2, u3, u4, u5, _, gput⟩ := bk6_put H8.out.z (.int .i64 0) (.int .i64 y) (.int .i64 f) (.slice (some ⟨w5.heap.size, 0, none⟩) m C) (.int .i64 v) (.int .i64 (k : Int))
  have GP := Lib.hid gput
  clear gput
  go_region
  all_goals go_wp2
  all_goals
    refine bodyPost_ret (by simp [results, Try.results5, go_sem, u0, u1, u2, u3, u4, u5]; try rfl) rfl ?_
    have hlt5 := HL5.out
    have hlt6 := HL6.out
    have d7 := bsl_gr HD6.out (by simp [Value.ownBlock]; omega) (gr_set w6 (w.heap.size + 1) 3 (.slice (some ⟨w5.heap.size, 0, none⟩) m C))
    have d8 := bsl_gr d7 (by simp [Value.ownBlock]; omega) (gr_set _ (w.heap.size + 1) 4 (.int .i64 v))
    rw [HW8.out] at d8
    have d9 := bsl_gr d8 (by simp [Value.ownBlock]; omega) GP.out
    exact ⟨_, rfl, (H8.out.err GP.out).drew, bsl_drew d9⟩
set_option maxHeartbeats 400000 in
theorem refHdOf_okRetry {y f v : Int} {k n m : Nat} (h : S.toList.isEmpty = false) (h0 : 0 < S.size) (hx : ((S[0]'h0).toNat : Int) = z) (hz : z = 240) (h1 : 1 < S.size) (hy : ((S[1]'h1).toNat : Int) = y) (y0 : 0 ≤ y) (y1 : y ≤ 255) (h2 : 2 < S.size) (hf : ((S[2]'h2).toNat : Int) = f) (f0 : 0 ≤ f) (f1 : f ≤ 255) (HV : Hid (∀ w, Calls Try.prog 9 #[.string (S.extract 3 S.size)] w fun e w' => e = .returned (.tuple #[.int .i64 (m : Int), .int .i64 (n : Int), .int .i64 0]) ∧ Below w.heap.size w w')) (hn8 : n ≤ 8) (hm : m ≤ 120) (tok : List Int) (htk : tok.length = m) (hby : Byt tok) (HT : Hid (S.extract (3 + n) (3 + n + m) = strOfNums tok)) (hs : 3 + (n : Int) + m ≤ S.size) (HN : Hid (∀ w, Calls Try.prog 10 #[.string ByteArray.empty] w fun e w' => e = .returned (.int .u64 0) ∧ w = w')) :
    Calls Try.prog 5 #[.string S] w fun e w' => ∃ d, e = .returned (.tuple #[.agg #[.int .i64 1, .int .i64 y, .int .i64 f, d, .int .i64 0, .int .i64 0], .int .i64 (3 + (n : Int) + m), .int .i64 0]) ∧ Below w.heap.size w w' ∧ BSl w' w'.heap.size d tok := by
  subst hz
  go_enter Try.func5, Try.ntmps5
  go_wp2_with (first | (go_at_call 9; refine (HV.out _).mono ?_; rintro e w5 ⟨rfl, b5⟩; have H5 := Lib.hid ((HoAt.start w #[.int .i64 1, .int .i64 y, .int .i64 f, .slice none 0 0, .int .i64 0, .int .i64 0]).on b5); clear b5; obtain ⟨q0, q1, q2, q3, q4, q5, qf⟩ := bk6 H5.out.f; obtain ⟨z0, z1, z2, z3, z4, z5, zf⟩ := bk6 H5.out.z; obtain ⟨C, w6, hrun, hb6, hlt6, hd6⟩ := conv_str tok hby (by omega) w5; rw [← HT.out, htk] at hrun; rw [htk] at hd6; have hlt5 := lt_of_block H5.out.f; have H6 := Lib.hid (H5.out.on hb6); obtain ⟨p0, p1, p2, p3, p4, p5, pf⟩ := bk6 H6.out.f; have H7 := Lib.hid (H6.out.set 3 (.slice (some ⟨w5.heap.size, 0, none⟩) m C)); clear q0 q1 q2 q3 q4 q5 qf z0 z1 z2 z3 z4 z5 zf; obtain ⟨z0, z1, z2, z3, z4, z5, zf⟩ := bk6 H7.out.z; obtain ⟨q0, q1, q2, q3, q4, q5, qf⟩ := bk6 H7.out.f; clear hb6; have H8 := Lib.hid (H7.out.set 4 (.int .i64 0)); obtain ⟨r0, r1, r2, r3, r4, r5, rf⟩ := bk6 H8.out.f; obtain ⟨y0', y1', y2', y3', y4', y5', yf⟩ := bk6 H8.out.z) | (go_at_call 10; refine (HN.out _).mono ?_; rintro e w9 ⟨rfl, rfl⟩))
  clear p0 p1 p2 p3 p4 p5 pf q0 q1 q2 q3 q4 q5 qf z0 z1 z2 z3 z4 z5 zf
  generalize hw8 : ((w6.setCell ⟨w.heap.size + 1, 3, none⟩ (.slice (some ⟨w5.heap.size, 0, none⟩) m C)).setCell ⟨w.heap.size + 1, 4, none⟩ (.int .i64 0)) = w8 at *
  have HW8 := Lib.hid hw8
  clear hw8
  have HD6 := Lib.hid hd6
  have HL5 := Lib.hid hlt5
  have HL6 := Lib.hid hlt6
  clear hrun hd6 hlt5 hlt6 hx hy hf h HT HV HN
  obtain ⟨u0, u1, u2, u3, u4, u5, _, gput⟩ := bk6_put H8.out.z (.int .i64 1) (.int .i64 y) (.int .i64 f) (.slice (some ⟨w5.heap.size, 0, none⟩) m C) (.int .i64 0) (.int .i64 0)
  have GP := Lib.hid gput
  clear gput
  go_region
  all_goals go_wp2
  all_goals
    refine bodyPost_ret (by simp [results, Try.results5, go_sem, u0, u1, u2, u3, u4, u5]; try rfl) rfl ?_
    have hlt5 := HL5.out
    have hlt6 := HL6.out
    have d7 := bsl_gr HD6.out (by simp [Value.ownBlock]; omega) (gr_set w6 (w.heap.size + 1) 3 (.slice (some ⟨w5.heap.size, 0, none⟩) m C))
    have d8 := bsl_gr d7 (by simp [Value.ownBlock]; omega) (gr_set _ (w.heap.size + 1) 4 (.int .i64 0))
    rw [HW8.out] at d8
    have d9 := bsl_gr d8 (by simp [Value.ownBlock]; omega) GP.out
    exact ⟨_, rfl, (H8.out.err GP.out).drew, bsl_drew d9⟩
end
end Go.Proofs.Ytaccedlpnngdhaa
