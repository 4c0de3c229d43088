/- The walk of SenderCredit. -/
import Derived.Test.YtbkpegjpmbbcgaaSnTells
import Derived.Test.YtbkpegjpmbbcgaaSnLose
import Derived.Test.YtbkpegjpmbbcgaaSnCred
import Derived.Test.YtbkpegjpmbbcgaaTextK
import Derived.DataShut
namespace Go.Proofs.Ytbkpegjpmbbcgaa
set_option linter.unusedVariables false
open Go.RowKit P

theorem crd_i64 {n : Int} (h : -9223372036854775808 ≤ n ∧ n ≤ 9223372036854775807) : (Lit.int .i64 n).wf = true := by
  have a1 : IntKind.i64.min = -9223372036854775808 := by kernel_rfl
  have a2 : IntKind.i64.max = 9223372036854775807 := by kernel_rfl
  rw [Lit.wf_int_iff, a1, a2]
  exact h
theorem snwf {b : List Int} (hb : b.length ≤ 300) {nx : Int} (h : 0 ≤ nx ∧ nx ≤ 300) {l : List (Int × Int)} (hl : l.length ≤ 1) : SnWf (snB b nx l) :=
  ⟨crd_i64 (by simp only [snB]; omega), (show (Lit.int .i64 300).wf = true by decide +kernel), by simp only [snB]; omega, by simp only [snB]; omega, by simp [snB]⟩
theorem lt_of_blockC {w : World} {b : Nat} {o : Obj} (h : w.heap[b]? = some o) : b < w.heap.size := lt_of_block h
set_option maxRecDepth 100000 in
set_option maxHeartbeats 1000000 in
theorem senderCredit_walk (s : ByteArray) (n room credit : Int) (W : World) (hs : s.size ≤ maxLen) :
    Calls Try.prog 5 #[.string s, .int .i64 n, .int .i64 room, .int .i64 credit] W fun e w' => e = .returned (.bool true) ∧ Below W.heap.size W w' := by
  have HT := Lib.hid (fun w => text_any s n 300 (by decide) hs w)
  have P1 := Lib.hid (fun w => picked_any room 121 (by decide) (by decide) w)
  have P2 := Lib.hid (fun w => picked_any credit 200 (by decide) (by decide) w)
  have HS := Lib.hid (fun w => senderTells_any w)
  obtain ⟨k, hk⟩ : ∃ k, room % 121 = k := ⟨_, rfl⟩
  obtain ⟨c, hc⟩ : ∃ c, credit % 200 = c := ⟨_, rfl⟩
  have k0 : 0 ≤ k ∧ k ≤ 120 := by omega
  have c0 : 0 ≤ c ∧ c ≤ 199 := by omega
  rw [hk] at P1
  rw [hc] at P2
  clear hk hc
  go_enter Try.func5, Try.ntmps5
  go_wp2_with fail
  refine (HT.out _).mono ?_
  rintro e w1 ⟨⟨zs, A, cz, rfl, hlen, hbf⟩, b1⟩
  have hz3 : zs.length ≤ 300 := by omega
  have B1 := Lib.hid b1
  have Z1 := Lib.hid hbf.now
  have H1 := Lib.hid (fun v v2 w hv hd => snWrite_any v v2 (snB [] 0 []) zs false w hv (snwf (by simp) (by omega) (by simp)) hd (by omega))
  rw [cred_wr hz3] at H1
  obtain ⟨m, hm⟩ : ∃ m : Nat, min (min (zs.length : Int) k) c = (m : Int) := ⟨(min (min (zs.length : Int) k) c).toNat, by omega⟩
  have H2 := Lib.hid (fun v w hv => snPiece_any v (snB zs 0 []) k c w hv (snwf hz3 (by omega) (by simp)))
  rw [cred_pc hz3 k0.1 k0.2 c0.1 hm.symm] at H2
  have hmin : (if c < (if k < (zs.length : Int) then k else (zs.length : Int)) then c else (if k < (zs.length : Int) then k else (zs.length : Int))) = (m : Int) := by
    rw [← hm]
    repeat' split
    all_goals omega
  have hmz : m ≤ zs.length := by omega
  have hmk : (m : Int) ≤ k := by omega
  clear b1 hlen hbf HT hm
  go_wp2_with fail
  refine (H1.out _ _ _ ⟨_, _, _, rfl, BSl.nil _ _, RSl.nil _ _, RSl.nil _ _⟩ Z1.out).mono ?_
  clear H1 Z1
  rintro e w2 ⟨b2, u2, rfl, hu2⟩
  have B2 := Lib.hid (B1.out.trans (b2.mono B1.out.size))
  obtain ⟨Ad, cd, Al, cl, Aa, ca, e⟩ := sn_slices hu2
  have e' : u2 = .agg #[.slice Ad zs.length cd, .bool false, .int .i64 0, .int .i64 300, .slice Al 0 cl, .slice Aa 0 ca, .bool false, .bool false] := e
  subst e'
  clear e
  have A3 := Lib.hid ((Below.refl w2.heap.size w2).alloc (Nat.le_refl _) (.cells #[.slice Ad zs.length cd, .bool false, .int .i64 0, .int .i64 300, .slice Al 0 cl, .slice Aa 0 ca, .bool false, .bool false] 27))
  have B3 := Lib.hid (B2.out.trans (A3.out.mono B2.out.size))
  have F3 := Lib.hid (heap_alloc_new w2 (.cells #[.slice Ad zs.length cd, .bool false, .int .i64 0, .int .i64 300, .slice Al 0 cl, .slice Aa 0 ca, .bool false, .bool false] 27))
  have V3 := Lib.hid (hu2.on A3.out)
  obtain ⟨q0, q1, q2, q3, q4, q5, q6, q7⟩ := bkS F3.out
  clear b2 hu2
  go_wp2_with fail
  refine (P1.out _).mono ?_
  rintro e w' ⟨rfl, rfl⟩
  go_wp2_with fail
  refine (P2.out _).mono ?_
  rintro e w' ⟨rfl, rfl⟩
  go_wp2_with fail
  refine (H2.out _ _ V3.out).mono ?_
  clear q0 q1 q2 q3 q4 q5 q6 q7 V3 H2 P1 P2
  by_cases q : (m : Int) = 0
  · rw [if_pos q]
    obtain rfl : m = 0 := by omega
    rintro e w4 ⟨b4, v4, f4, rfl, hv4, hf4⟩
    have B4 := Lib.hid (B3.out.trans (b4.mono B3.out.size))
    obtain ⟨Bd, dd, Bl, dl, Ba, da, e⟩ := sn_slices hv4
    have e' : v4 = .agg #[.slice Bd zs.length dd, .bool false, .int .i64 0, .int .i64 300, .slice Bl 0 dl, .slice Ba 0 da, .bool false, .bool false] := e
    subst e'
    clear e
    obtain ⟨Cr, cr, Cd, cd4, e⟩ := fr_slices hf4
    have e' : f4 = .agg #[.int .i64 0, .int .i64 0, .int .i64 0, .bool false, .int .i64 0, .slice Cr 0 cr, .slice Cd 0 cd4] := e
    subst e'
    clear e
    obtain ⟨g0, g1, g2⟩ := twoX w4 #[.slice Bd zs.length dd, .bool false, .int .i64 0, .int .i64 300, .slice Bl 0 dl, .slice Ba 0 da, .bool false, .bool false] #[.int .i64 0, .int .i64 0, .int .i64 0, .bool false, .int .i64 0, .slice Cr 0 cr, .slice Cd 0 cd4] 27 35
    have B5 := Lib.hid (B4.out.trans (g2.mono B4.out.size))
    clear b4 hv4 hf4 g0 g1 g2 q
    go_wp2_with fail
    refine (HS.out _).mono ?_
    rintro e w6 ⟨rfl, b6⟩
    have B6 := Lib.hid (B5.out.trans (b6.mono B5.out.size))
    clear b6
    go_wp2_with fail
    go_ret
    exact ⟨by first | rfl | simp, B6.out⟩
  · rw [if_neg q]
    have m0 : 0 < m := by omega
    have H3 := Lib.hid (fun v w hv => snLose_any v (snB zs (m : Int) []) 0 (m : Int) false w hv (snwf hz3 (by omega) (by simp)) (by omega))
    rw [cred_ls hz3 (by omega) (by omega)] at H3
    have H4 := Lib.hid (fun v w hv => snPiece_any v (snB zs (m : Int) [(0, (m : Int) - 1)]) k 0 w hv (snwf hz3 (by omega) (by simp)))
    rw [cred_again hz3 (by omega) (by omega) hmk k0.2] at H4
    rw [Int.toNat_natCast] at H4 ⊢
    obtain ⟨L, hL⟩ : ∃ L, zs.take m = L := ⟨_, rfl⟩
    have hLl : L.length = m := by rw [← hL, List.length_take]; omega
    rw [hL] at H4 ⊢
    clear hL
    have hkm : max k 1 = k := by omega
    have hkm' : (if k < 1 then 1 else k) = k := if_neg (by omega)
    rintro e w4 ⟨b4, v4, f4, rfl, hv4, hf4⟩
    have B4 := Lib.hid (B3.out.trans (b4.mono B3.out.size))
    obtain ⟨Bd, dd, Bl, dl, Ba, da, e⟩ := sn_slices hv4
    have e' : v4 = .agg #[.slice Bd zs.length dd, .bool false, .int .i64 m, .int .i64 300, .slice Bl 0 dl, .slice Ba 0 da, .bool false, .bool false] := e
    subst e'
    clear e
    obtain ⟨Cr, cr, Cd, cd4, e⟩ := fr_slices hf4
    have e' : f4 = .agg #[.int .i64 8, .int .i64 0, .int .i64 0, .bool false, .int .i64 0, .slice Cr 0 cr, .slice Cd m cd4] := by rw [← hLl]; exact e
    subst e'
    clear e
    obtain ⟨g0, g1, g2⟩ := twoX w4 #[.slice Bd zs.length dd, .bool false, .int .i64 m, .int .i64 300, .slice Bl 0 dl, .slice Ba 0 da, .bool false, .bool false] #[.int .i64 8, .int .i64 0, .int .i64 0, .bool false, .int .i64 0, .slice Cr 0 cr, .slice Cd m cd4] 27 35
    have U5 := Lib.hid g0
    have G5 := Lib.hid g1
    have V5 := Lib.hid (hv4.on g2)
    have W5 := Lib.hid (hf4.on g2)
    have B5 := Lib.hid (B4.out.trans (g2.mono B4.out.size))
    have S5 : w4.heap.size + 2 = ((w4.alloc (.cells #[.slice Bd zs.length dd, .bool false, .int .i64 m, .int .i64 300, .slice Bl 0 dl, .slice Ba 0 da, .bool false, .bool false] 27)).alloc (.cells #[.int .i64 8, .int .i64 0, .int .i64 0, .bool false, .int .i64 0, .slice Cr 0 cr, .slice Cd m cd4] 35)).heap.size := by simp
    obtain ⟨q0, q1, q2, q3, q4, q5, q6, q7⟩ := bkS U5.out
    obtain ⟨r0, r1, r2, r3, r4, r5, r6⟩ := bkF G5.out
    clear b4 hv4 hf4 g0 g1 g2 q
    go_wp2_with fail
    refine (H3.out _ _ V5.out).mono ?_
    clear q0 q1 q2 q3 q4 q5 q6 q7 r0 r1 r2 r3 r4 r5 r6 V5 H3
    rintro e w6 ⟨b6, v6, rfl, hv6⟩
    obtain ⟨Ed, de, El, le, Ea, ae, e⟩ := sn_slices hv6
    have e' : v6 = .agg #[.slice Ed zs.length de, .bool false, .int .i64 m, .int .i64 300, .slice El 1 le, .slice Ea 0 ae, .bool false, .bool false] := e
    subst e'
    clear e
    have A7 := Lib.hid ((Below.refl w6.heap.size w6).alloc (Nat.le_refl _) (.cells #[.slice Ed zs.length de, .bool false, .int .i64 m, .int .i64 300, .slice El 1 le, .slice Ea 0 ae, .bool false, .bool false] 27))
    have F7 := Lib.hid (heap_alloc_new w6 (.cells #[.slice Ed zs.length de, .bool false, .int .i64 m, .int .i64 300, .slice El 1 le, .slice Ea 0 ae, .bool false, .bool false] 27))
    have V7 := Lib.hid (hv6.on A7.out)
    have b67 := b6.trans (A7.out.mono b6.size)
    have B7 := Lib.hid (B5.out.trans (b67.mono B5.out.size))
    have U7 := Lib.hid ((b67.block _ (lt_of_block U5.out)).trans U5.out)
    have G7 := Lib.hid ((b67.block _ (lt_of_block G5.out)).trans G5.out)
    have W7 := Lib.hid (W5.out.on b67)
    obtain ⟨q0, q1, q2, q3, q4, q5, q6, q7⟩ := bkS F7.out
    clear b6 b67 hv6 A7 U5 G5 W5 S5
    go_wp2_with fail
    refine (H4.out _ _ V7.out).mono ?_
    clear q0 q1 q2 q3 q4 q5 q6 q7 V7 H4 F7
    rintro e w8 ⟨b8, v8, f8, rfl, hv8, hf8⟩
    obtain ⟨Hd, dh, Hl, lh, Ha, ah, e⟩ := sn_slices hv8
    have e' : v8 = .agg #[.slice Hd zs.length dh, .bool false, .int .i64 m, .int .i64 300, .slice Hl 0 lh, .slice Ha 0 ah, .bool false, .bool false] := e
    subst e'
    clear e
    obtain ⟨Ir, ri, Id, di, e⟩ := fr_slices hf8
    have e' : f8 = .agg #[.int .i64 8, .int .i64 0, .int .i64 0, .bool false, .int .i64 0, .slice Ir 0 ri, .slice Id m di] := by rw [← hLl]; exact e
    subst e'
    clear e
    obtain ⟨g0, g1, g2⟩ := twoX w8 #[.slice Hd zs.length dh, .bool false, .int .i64 m, .int .i64 300, .slice Hl 0 lh, .slice Ha 0 ah, .bool false, .bool false] #[.int .i64 8, .int .i64 0, .int .i64 0, .bool false, .int .i64 0, .slice Ir 0 ri, .slice Id m di] 27 35
    have b89 := b8.trans (g2.mono b8.size)
    have B9 := Lib.hid (B7.out.trans (b89.mono B7.out.size))
    have U9 := Lib.hid ((b89.block _ (lt_of_block U7.out)).trans U7.out)
    have G9 := Lib.hid ((b89.block _ (lt_of_block G7.out)).trans G7.out)
    have W9 := Lib.hid (W7.out.on b89)
    have X9 := Lib.hid (hf8.on g2)
    have T9 := Lib.hid g0
    have Y9 := Lib.hid g1
    clear b8 b89 hv8 hf8 g0 g1 g2 U7 G7 W7
    go_wp2_with fail
    obtain ⟨w9, hw9⟩ : ∃ w, ((w8.alloc (.cells #[.slice Hd zs.length dh, .bool false, .int .i64 m, .int .i64 300, .slice Hl 0 lh, .slice Ha 0 ah, .bool false, .bool false] 27)).alloc (.cells #[.int .i64 8, .int .i64 0, .int .i64 0, .bool false, .int .i64 0, .slice Ir 0 ri, .slice Id m di] 35)) = w := ⟨_, rfl⟩
    rw [hw9] at B9 U9 G9 W9 X9 T9 Y9 ⊢
    clear hw9
    refine (HS.out _).mono ?_
    rintro e w10 ⟨rfl, b10⟩
    have B10 := Lib.hid (B9.out.trans (b10.mono B9.out.size))
    obtain ⟨q0, q1, q2, q3, q4, q5, q6, q7⟩ := bkS ((b10.block _ (lt_of_block U9.out)).trans U9.out)
    obtain ⟨r0, r1, r2, r3, r4, r5, r6⟩ := bkF ((b10.block _ (lt_of_block G9.out)).trans G9.out)
    obtain ⟨p0, p1, p2, p3, p4, p5, p6, p7⟩ := bkS ((b10.block _ (lt_of_block T9.out)).trans T9.out)
    obtain ⟨o0, o1, o2, o3, o4, o5, o6⟩ := bkF ((b10.block _ (lt_of_block Y9.out)).trans Y9.out)
    have U10 := Lib.hid ((b10.block _ (lt_of_block U9.out)).trans U9.out)
    have T10 := Lib.hid ((b10.block _ (lt_of_block T9.out)).trans T9.out)
    have W10 := Lib.hid (W9.out.on b10)
    have X10 := Lib.hid (X9.out.on b10)
    clear b10 U9 G9 T9 Y9 W9 X9
    go_wp2_with fail
    refine (sameFrK_eq _ _ _ _ W10.out X10.out).mono ?_
    clear q0 q1 q2 q3 q4 q5 q6 q7 r0 r1 r2 r3 r4 r5 r6 p0 p1 p2 p3 p4 p5 p6 p7 o0 o1 o2 o3 o4 o5 o6
    rintro e w11 ⟨rfl, b11⟩
    have B11 := Lib.hid (B10.out.trans (b11.mono B10.out.size))
    obtain ⟨q0, q1, q2, q3, q4, q5, q6, q7⟩ := bkS ((b11.block _ (lt_of_block U10.out)).trans U10.out)
    obtain ⟨p0, p1, p2, p3, p4, p5, p6, p7⟩ := bkS ((b11.block _ (lt_of_block T10.out)).trans T10.out)
    clear b11
    go_wp2_with fail
    go_ret
    exact ⟨by first | rfl | simp, B11.out⟩
end Go.Proofs.Ytbkpegjpmbbcgaa
