/- The document's SenderGranted and SenderWritten (P10.3, P10.2). -/
import Derived.Test.YtkpkgegonfcgnaaRefSnFault
import Derived.Test.YtkpkgegonfcgnaaSnTwo
import Derived.Test.YtkpkgegonfcgnaaStr
import Derived.Test.YtkpkgegonfcgnaaConvS
namespace Go.Proofs.Ytkpkgegonfcgnaa
set_option linter.unusedVariables false
open Go.RowKit P

set_option maxRecDepth 100000 in
set_option maxHeartbeats 1000000 in
theorem refSnGr_any : SnGr Try.prog 18 := by
  intro v s n w hv hw
  obtain ⟨d, l, a, rfl, hd, hl, ha⟩ := hv.ex
  obtain ⟨A0, c0, rfl, _, _, _, _⟩ := id hd.ex
  obtain ⟨Al, cl, rfl, _, _, _⟩ := id hl.ex
  obtain ⟨Aa, ca, rfl, _, _, _⟩ := id ha.ex
  obtain ⟨g0, g1, g2⟩ := twoX w #[.slice A0 s.data.length c0, .bool s.fin, .int .i64 s.next, .int .i64 s.mx, .slice Al s.lost.length cl, .slice Aa s.acked.length ca, .bool s.ended, .bool s.over] #[.slice none 0 0, .bool false, .int .i64 0, .int .i64 0, .slice none 0 0, .slice none 0 0, .bool false, .bool false] 25 25
  have F0 := Lib.hid g0
  have Z0 := Lib.hid g1
  have B0 := Lib.hid g2
  have HF := Lib.hid (fun w' (hb : Below w.heap.size w w') => refSnF_any _ s w' (hv.on hb) hw)
  have HD := Lib.hid hd
  have HL := Lib.hid hl
  have HA := Lib.hid ha
  unfold grS
  by_cases hf : faultSn s = 0
  · clear hv hw hd hl ha g0 g1 g2
    rw [if_neg (fun e => e hf)]
    rw [hf] at HF
    clear hf
    by_cases a1 : 0 ≤ n ∧ n ≤ 4611686018427387903
    · rw [if_neg (fun h => h a1)]
      have u1 : upB2 n 4611686018427387903 = true := by unfold upB2; simp [a1]
      obtain ⟨m, hm⟩ : ∃ m, max n s.mx = m := ⟨_, rfl⟩
      have hmax : (if n < s.mx then s.mx else n) = m := by rw [← hm]; split <;> omega
      rw [hm]
      clear hm a1
      go_enter Try.func18, Try.ntmps18
      go_upto_region 4 with (first
        | (go_at_call 13; refine (HF.out _ B0.out).mono ?_; rintro e w1 ⟨rfl, b1⟩; have B1 := Lib.hid (B0.out.trans (b1.mono B0.out.size)); have F1 := Lib.hid ((b1.block _ (lt_of_block F0.out)).trans F0.out); have Z1 := Lib.hid ((b1.block _ (lt_of_block Z0.out)).trans Z0.out); clear b1; obtain ⟨q0, q1, q2, q3, q4, q5, q6, q7⟩ := bkS F1.out; obtain ⟨z0, z1, z2, z3, z4, z5, z6, z7⟩ := bkS Z1.out; have zf := fun i => bk_frz Z1.out i))
      clear z0 z1 z2 z3 z4 z5 z6 z7 zf
      have pf := fun i => bk_frz F1.out i
      obtain ⟨Y3, hY3⟩ : ∃ x, w1.setCell ⟨w.heap.size, 3, none⟩ (.int .i64 m) = x := ⟨_, rfl⟩
      have g3 := gr_set w1 w.heap.size 3 (.int .i64 m)
      have FY3 := Lib.hid ((bkS_set F1.out (.int .i64 m)).2.2.2.1)
      rw [hY3] at g3 FY3
      have ZY3 := Lib.hid ((g3.block _ (lt_of_block Z1.out) (by simp)).trans Z1.out)
      have BY3 := Lib.hid (gr_from B1.out B1.out.size (Nat.le_refl _) g3)
      clear g3
      obtain ⟨s0, s1, s2, s3, s4, s5, s6, s7⟩ := bkS FY3.out
      obtain ⟨z0, z1, z2, z3, z4, z5, z6, z7⟩ := bkS ZY3.out
      have zf := fun i => bk_frz ZY3.out i
      go_wp2_with (go_at_call 37; refine (upTo_any _ _ _).mono ?_; rintro e w9 ⟨rfl, rfl⟩)
      obtain ⟨RY, gp⟩ := bkS_put ZY3.out (.slice A0 s.data.length c0) (.bool s.fin) (.int .i64 s.next) (.int .i64 m) (.slice Al s.lost.length cl) (.slice Aa s.acked.length ca) (.bool s.ended) (.bool s.over)
      obtain ⟨r0, r1, r2, r3, r4, r5, r6, r7⟩ := bkS RY
      refine bodyPost_ret (by simp [results, Try.results18, go_sem, r0, r1, r2, r3, r4, r5, r6, r7]; try rfl) rfl ?_
      have BB := gr_from BY3.out BY3.out.size (Nat.le_succ _) gp
      exact ⟨BB, _, rfl, ⟨_, _, _, rfl, (HD.out.below BB).more BB.size, (HL.out.below BB).more BB.size, (HA.out.below BB).more BB.size⟩⟩
    · rw [if_pos a1]
      have u1 : upB2 n 4611686018427387903 = false := upB2_no (by omega)
      clear a1
      go_enter Try.func18, Try.ntmps18
      go_wp2_with (first
        | (go_at_call 13; refine (HF.out _ B0.out).mono ?_; rintro e w1 ⟨rfl, b1⟩; have B1 := Lib.hid (B0.out.trans (b1.mono B0.out.size)); have F1 := Lib.hid ((b1.block _ (lt_of_block F0.out)).trans F0.out); have Z1 := Lib.hid ((b1.block _ (lt_of_block Z0.out)).trans Z0.out); clear b1; obtain ⟨q0, q1, q2, q3, q4, q5, q6, q7⟩ := bkS F1.out; obtain ⟨z0, z1, z2, z3, z4, z5, z6, z7⟩ := bkS Z1.out; have zf := fun i => bk_frz Z1.out i)
        | (go_at_call 37; refine (upTo_any _ _ _).mono ?_; rintro e w9 ⟨rfl, rfl⟩))
      obtain ⟨RY, gp⟩ := bkS_put Z1.out (.slice none 0 0) (.bool false) (.int .i64 0) (.int .i64 0) (.slice none 0 0) (.slice none 0 0) (.bool false) (.bool false)
      obtain ⟨r0, r1, r2, r3, r4, r5, r6, r7⟩ := bkS RY
      refine bodyPost_ret (by simp [results, Try.results18, go_sem, r0, r1, r2, r3, r4, r5, r6, r7]; try rfl) rfl ?_
      exact ⟨gr_from B1.out B1.out.size (Nat.le_succ _) gp, _, rfl, SnVal.nil _ _⟩
  · rw [if_pos hf]
    clear hv hw hd hl ha g0 g1 g2
    obtain ⟨x, hx⟩ : ∃ x, faultSn s = x := ⟨_, rfl⟩
    rw [hx] at HF hf ⊢
    have gx : (x != 0) = true := by simp [hf]
    clear hx hf
    go_enter Try.func18, Try.ntmps18
    go_wp2_with (first
      | (go_at_call 13; refine (HF.out _ B0.out).mono ?_; rintro e w1 ⟨rfl, b1⟩; have B1 := Lib.hid (B0.out.trans (b1.mono B0.out.size)); have F1 := Lib.hid ((b1.block _ (lt_of_block F0.out)).trans F0.out); have Z1 := Lib.hid ((b1.block _ (lt_of_block Z0.out)).trans Z0.out); clear b1; obtain ⟨q0, q1, q2, q3, q4, q5, q6, q7⟩ := bkS F1.out; obtain ⟨z0, z1, z2, z3, z4, z5, z6, z7⟩ := bkS Z1.out; have zf := fun i => bk_frz Z1.out i))
    obtain ⟨RY, gp⟩ := bkS_put Z1.out (.slice none 0 0) (.bool false) (.int .i64 0) (.int .i64 0) (.slice none 0 0) (.slice none 0 0) (.bool false) (.bool false)
    obtain ⟨r0, r1, r2, r3, r4, r5, r6, r7⟩ := bkS RY
    refine bodyPost_ret (by simp [results, Try.results18, go_sem, r0, r1, r2, r3, r4, r5, r6, r7]; try rfl) rfl ?_
    exact ⟨gr_from B1.out B1.out.size (Nat.le_succ _) gp, _, rfl, SnVal.nil _ _⟩

set_option maxRecDepth 100000 in
set_option maxHeartbeats 1000000 in
theorem refSnWr_any : SnWr Try.prog 17 := by
  intro v v2 s b fin w hv hw hv2 hbl
  obtain ⟨d, l, a, rfl, hd, hl, ha⟩ := hv.ex
  obtain ⟨A0, c0, rfl, _, _, _, _⟩ := id hd.ex
  obtain ⟨Al, cl, rfl, _, _, _⟩ := id hl.ex
  obtain ⟨Aa, ca, rfl, _, _, _⟩ := id ha.ex
  obtain ⟨g0, g1, g2⟩ := twoX w #[.slice A0 s.data.length c0, .bool s.fin, .int .i64 s.next, .int .i64 s.mx, .slice Al s.lost.length cl, .slice Aa s.acked.length ca, .bool s.ended, .bool s.over] #[.slice none 0 0, .bool false, .int .i64 0, .int .i64 0, .slice none 0 0, .slice none 0 0, .bool false, .bool false] 25 25
  have F0 := Lib.hid g0
  have Z0 := Lib.hid g1
  have B0 := Lib.hid g2
  have HF := Lib.hid (fun w' (hb : Below w.heap.size w w') => refSnF_any _ s w' (hv.on hb) hw)
  have HD := Lib.hid hd
  have HL := Lib.hid hl
  have HA := Lib.hid ha
  obtain ⟨Ab, cb, rfl, hbc, hbm, hbn, hbr⟩ := hv2.ex
  have HB2 := Lib.hid hbr
  unfold wrS
  by_cases hf : faultSn s = 0
  · have hdl := ((fault_iff s).1 hf).1
    have hdr : BRow w w.heap.size A0 s.data := by
      obtain ⟨A9, c9, e9, _, _, _, h9⟩ := hd.ex
      cases e9
      exact h9
    have HDR := Lib.hid hdr
    obtain ⟨fi, hfi⟩ : ∃ x, s.fin = x := ⟨_, rfl⟩
    obtain ⟨nb, hnb⟩ : ∃ n, b.length = n := ⟨_, rfl⟩
    have HNB := Lib.hid hnb
    rw [hnb] at hbl hbc ⊢
    rw [hfi] at HF F0 Z0 B0 ⊢
    clear hv hw hd hl ha g0 g1 g2 hv2 hbr hbn hfi hnb hbc hdr
    rw [if_neg (fun e => e hf)]
    rw [hf] at HF
    clear hf
    cases fi with
    | true =>
      rw [if_pos rfl]
      go_enter Try.func17, Try.ntmps17
      go_wp2_with (first
        | (go_at_call 13; refine (HF.out _ B0.out).mono ?_; rintro e w1 ⟨rfl, b1⟩; have B1 := Lib.hid (B0.out.trans (b1.mono B0.out.size)); have F1 := Lib.hid ((b1.block _ (lt_of_block F0.out)).trans F0.out); have Z1 := Lib.hid ((b1.block _ (lt_of_block Z0.out)).trans Z0.out); clear b1; obtain ⟨q0, q1, q2, q3, q4, q5, q6, q7⟩ := bkS F1.out; obtain ⟨z0, z1, z2, z3, z4, z5, z6, z7⟩ := bkS Z1.out; have zf := fun i => bk_frz Z1.out i))
      obtain ⟨RY, gp⟩ := bkS_put Z1.out (.slice none 0 0) (.bool false) (.int .i64 0) (.int .i64 0) (.slice none 0 0) (.slice none 0 0) (.bool false) (.bool false)
      obtain ⟨r0, r1, r2, r3, r4, r5, r6, r7⟩ := bkS RY
      refine bodyPost_ret (by simp [results, Try.results17, go_sem, r0, r1, r2, r3, r4, r5, r6, r7]; try rfl) rfl ?_
      exact ⟨gr_from B1.out B1.out.size (Nat.le_succ _) gp, _, rfl, SnVal.nil _ _⟩
    | false =>
      rw [if_neg (by decide)]
      have hwr : IntKind.i64.wrap ((s.data.length : Int) + (nb : Int)) = (s.data.length : Int) + (nb : Int) := by rw [IntKind.wrap_i64]; omega
      by_cases a1 : 600 < s.data.length + nb
      · rw [if_pos a1]
        have a2 : (600 : Int) < (s.data.length : Int) + (nb : Int) := by omega
        go_enter Try.func17, Try.ntmps17
        go_wp2_with (first
          | (go_at_call 13; refine (HF.out _ B0.out).mono ?_; rintro e w1 ⟨rfl, b1⟩; have B1 := Lib.hid (B0.out.trans (b1.mono B0.out.size)); have F1 := Lib.hid ((b1.block _ (lt_of_block F0.out)).trans F0.out); have Z1 := Lib.hid ((b1.block _ (lt_of_block Z0.out)).trans Z0.out); clear b1; obtain ⟨q0, q1, q2, q3, q4, q5, q6, q7⟩ := bkS F1.out; obtain ⟨z0, z1, z2, z3, z4, z5, z6, z7⟩ := bkS Z1.out; have zf := fun i => bk_frz Z1.out i))
        obtain ⟨RY, gp⟩ := bkS_put Z1.out (.slice none 0 0) (.bool false) (.int .i64 0) (.int .i64 0) (.slice none 0 0) (.slice none 0 0) (.bool false) (.bool false)
        obtain ⟨r0, r1, r2, r3, r4, r5, r6, r7⟩ := bkS RY
        refine bodyPost_ret (by simp [results, Try.results17, go_sem, r0, r1, r2, r3, r4, r5, r6, r7]; try rfl) rfl ?_
        exact ⟨gr_from B1.out B1.out.size (Nat.le_succ _) gp, _, rfl, SnVal.nil _ _⟩
      · rw [if_neg a1]
        have a2 : ¬ (600 : Int) < (s.data.length : Int) + (nb : Int) := by omega
        have HST := Lib.hid (str_cat s.data b)
        obtain ⟨zz, hzz⟩ : ∃ x, s.data ++ b = x := ⟨_, rfl⟩
        have HBZ : Byt zz := by rw [← hzz]; exact HDR.out.1.append HB2.out.1
        have hzl : zz.length = s.data.length + nb := by rw [← hzz, List.length_append, HNB.out]
        have HCV := Lib.hid (fun w => conv_str zz HBZ (by omega) w)
        rw [hzz] at HST ⊢
        have hsz1 : (strOfNums s.data).size = s.data.length := strOfNums_size _
        have hsz2 : (strOfNums b).size = nb := (strOfNums_size _).trans HNB.out
        have HZZ := Lib.hid hzz
        clear hzz HBZ hzl
        obtain ⟨S1, hS1⟩ : ∃ x, strOfNums s.data = x := ⟨_, rfl⟩
        obtain ⟨S2, hS2⟩ : ∃ x, strOfNums b = x := ⟨_, rfl⟩
        obtain ⟨S3, hS3⟩ : ∃ x, strOfNums zz = x := ⟨_, rfl⟩
        rw [hS1, hS2, hS3] at HST
        rw [hS3] at HCV
        rw [hS1] at hsz1
        rw [hS2] at hsz2
        have HR1 := Lib.hid (fun w' (hb : Below w.heap.size w w') => run_str (P := Try.prog) (HDR.out.below hb) rfl 22 9 5 c0 Try.underlying22 Try.underlying5 Try.underlying9)
        have HR2 := Lib.hid (fun w' (hb : Below w.heap.size w w') => run_str (P := Try.prog) (HB2.out.below hb) HNB.out 22 9 5 cb Try.underlying22 Try.underlying5 Try.underlying9)
        rw [hS1] at HR1
        rw [hS2] at HR2
        clear hS1 hS2 hS3
        go_enter Try.func17, Try.ntmps17
        go_upto_region 9 with (first
          | (go_at_call 13; refine (HF.out _ B0.out).mono ?_; rintro e w1 ⟨rfl, b1⟩; have B1 := Lib.hid (B0.out.trans (b1.mono B0.out.size)); have F1 := Lib.hid ((b1.block _ (lt_of_block F0.out)).trans F0.out); have Z1 := Lib.hid ((b1.block _ (lt_of_block Z0.out)).trans Z0.out); clear b1; obtain ⟨q0, q1, q2, q3, q4, q5, q6, q7⟩ := bkS F1.out; obtain ⟨z0, z1, z2, z3, z4, z5, z6, z7⟩ := bkS Z1.out; have zf := fun i => bk_frz Z1.out i))
        have k1 := HR1.out _ B1.out
        have k2 := HR2.out _ B1.out
        have k3 := HST.out
        obtain ⟨C3, w3, hrun, b3, hlt3, hd3⟩ := HCV.out w1
        have B3 := Lib.hid (B1.out.trans (b3.mono B1.out.size))
        have HD3 := Lib.hid hd3
        have F3 := Lib.hid ((b3.block _ (lt_of_block F1.out)).trans F1.out)
        have Z3 := Lib.hid ((b3.block _ (lt_of_block Z1.out)).trans Z1.out)
        have hbs1 := lt_of_block Z1.out
        clear b3 hd3 z0 z1 z2 z3 z4 z5 z6 z7 zf
        have pf := fun i => bk_frz F3.out i
        obtain ⟨p0, p1, p2, p3, p4, p5, p6, p7⟩ := bkS F3.out
        obtain ⟨Y3, hY3⟩ : ∃ x, w3.setCell ⟨w.heap.size, 0, none⟩ (.slice (some ⟨w1.heap.size, 0, none⟩) zz.length C3) = x := ⟨_, rfl⟩
        have g3 := gr_set w3 w.heap.size 0 (.slice (some ⟨w1.heap.size, 0, none⟩) zz.length C3)
        have FY3 := Lib.hid ((bkS_set F3.out (.slice (some ⟨w1.heap.size, 0, none⟩) zz.length C3)).1)
        rw [hY3] at g3 FY3
        have ZY3 := Lib.hid ((g3.block _ (lt_of_block Z3.out) (by simp)).trans Z3.out)
        have BY3 := Lib.hid (gr_from B3.out B3.out.size (Nat.le_refl _) g3)
        have hne : ¬ w1.heap.size = w.heap.size := by omega
        have DY3 := Lib.hid (bsl_gr HD3.out (by simpa [Value.ownBlock] using hne) g3)
        obtain ⟨t0, t1, t2, t3, t4, t5, t6, t7⟩ := bkS FY3.out
        have tf := fun i => bk_frz FY3.out i
        obtain ⟨Y4, hY4⟩ : ∃ x, Y3.setCell ⟨w.heap.size, 1, none⟩ (.bool fin) = x := ⟨_, rfl⟩
        have g4 := gr_set Y3 w.heap.size 1 (.bool fin)
        have FY4 := Lib.hid ((bkS_set FY3.out (.bool fin)).2.1)
        rw [hY4] at g4 FY4
        have ZY4 := Lib.hid ((g4.block _ (lt_of_block ZY3.out) (by simp)).trans ZY3.out)
        have BY4 := Lib.hid (gr_from BY3.out BY3.out.size (Nat.le_refl _) g4)
        have DY4 := Lib.hid (bsl_gr DY3.out (by simpa [Value.ownBlock] using hne) g4)
        clear g3 g4
        obtain ⟨s0, s1, s2, s3, s4, s5, s6, s7⟩ := bkS FY4.out
        obtain ⟨z0, z1, z2, z3, z4, z5, z6, z7⟩ := bkS ZY4.out
        have zf := fun i => bk_frz ZY4.out i
        go_wp2_with fail
        obtain ⟨RY, gp⟩ := bkS_put ZY4.out (.slice (some ⟨w1.heap.size, 0, none⟩) zz.length C3) (.bool fin) (.int .i64 s.next) (.int .i64 s.mx) (.slice Al s.lost.length cl) (.slice Aa s.acked.length ca) (.bool s.ended) (.bool s.over)
        obtain ⟨r0, r1, r2, r3, r4, r5, r6, r7⟩ := bkS RY
        refine bodyPost_ret (by simp [results, Try.results17, go_sem, r0, r1, r2, r3, r4, r5, r6, r7]; try rfl) rfl ?_
        have BB := gr_from BY4.out BY4.out.size (Nat.le_succ _) gp
        have h2 : ¬ w1.heap.size = w.heap.size + 1 := by omega
        have h3 : (Value.slice (some ⟨w1.heap.size, 0, none⟩) zz.length C3).ownBlock ≠ some (w.heap.size + 1) := by simpa [Value.ownBlock] using h2
        exact ⟨BB, _, rfl, ⟨_, _, _, rfl, bsl_gr DY4.out h3 gp, (HL.out.below BB).more BB.size, (HA.out.below BB).more BB.size⟩⟩
  · rw [if_pos hf]
    clear hv hw hd hl ha g0 g1 g2
    obtain ⟨x, hx⟩ : ∃ x, faultSn s = x := ⟨_, rfl⟩
    rw [hx] at HF hf ⊢
    have gx : (x != 0) = true := by simp [hf]
    clear hx hf
    go_enter Try.func17, Try.ntmps17
    go_wp2_with (first
      | (go_at_call 13; refine (HF.out _ B0.out).mono ?_; rintro e w1 ⟨rfl, b1⟩; have B1 := Lib.hid (B0.out.trans (b1.mono B0.out.size)); have F1 := Lib.hid ((b1.block _ (lt_of_block F0.out)).trans F0.out); have Z1 := Lib.hid ((b1.block _ (lt_of_block Z0.out)).trans Z0.out); clear b1; obtain ⟨q0, q1, q2, q3, q4, q5, q6, q7⟩ := bkS F1.out; obtain ⟨z0, z1, z2, z3, z4, z5, z6, z7⟩ := bkS Z1.out; have zf := fun i => bk_frz Z1.out i))
    obtain ⟨RY, gp⟩ := bkS_put Z1.out (.slice none 0 0) (.bool false) (.int .i64 0) (.int .i64 0) (.slice none 0 0) (.slice none 0 0) (.bool false) (.bool false)
    obtain ⟨r0, r1, r2, r3, r4, r5, r6, r7⟩ := bkS RY
    refine bodyPost_ret (by simp [results, Try.results17, go_sem, r0, r1, r2, r3, r4, r5, r6, r7]; try rfl) rfl ?_
    exact ⟨gr_from B1.out B1.out.size (Nat.le_succ _) gp, _, rfl, SnVal.nil _ _⟩
end Go.Proofs.Ytkpkgegonfcgnaa
