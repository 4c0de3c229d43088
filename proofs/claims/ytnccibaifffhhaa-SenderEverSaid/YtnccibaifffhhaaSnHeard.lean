/- Contract of package sender: Heard. -/
import Derived.Test.YtnccibaifffhhaaSnGrant
import Derived.Test.YtnccibaifffhhaaSnRefuse
import Derived.Test.YtnccibaifffhhaaRngCut
import Derived.Deep.CutRange
namespace Go.Proofs.Ytnccibaifffhhaa
set_option linter.unusedVariables false
open Go.RowKit P

set_option maxRecDepth 100000 in
set_option maxHeartbeats 2000000 in
theorem snHeard_F (v : Value) (s : Sn) (off n : Int) (fin : Bool) (w : World) (hv : SnVal w w.heap.size v s) (hw : SnWf s) (hn : -9223372036854775808 ≤ n ∧ n ≤ 9223372036854775807) : Calls Try.prog 13 #[v, .int .i64 off, .int .i64 n, .bool fin] w (SnResF (heardS s off n fin) w) := by
  obtain ⟨d, l, a, rfl, hd, hl, ha⟩ := hv.ex
  obtain ⟨g0, g1, g2⟩ := twoX w #[d, .bool s.fin, .int .i64 s.next, .int .i64 s.mx, l, a, .bool s.ended, .bool s.over] #[.slice none 0 0, .bool false, .int .i64 0, .int .i64 0, .slice none 0 0, .slice none 0 0, .bool false, .bool false] 27 27
  have F0 := Lib.hid g0
  have Z0 := Lib.hid g1
  have B0 := Lib.hid g2
  have HF := Lib.hid (fun w' (hb : Below w.heap.size w w') => snRefuse_any _ s off n fin w' (hv.on hb) hw hn)
  have HC := Lib.hid (fun w' (hb : Below w.heap.size w w') => sncopied_any _ s w' (hv.on hb) hw)
  unfold heardS
  by_cases hf : partF s off n fin = 0
  · rw [if_neg (fun e => e hf)]
    have pk := part_ok hf
    have ok := pk.1
    have hb := pk.2.1
    obtain ⟨b1', b2', b3', b4'⟩ := hb
    have kd := ok.1
    have kn := ok.2.1
    have KL := Lib.hid ok.2.2.2.1
    have KA := Lib.hid ok.2.2.2.2.1
    have HRR := Lib.hid (fun h => part_r ok pk.2.1 h)
    have hll := hw.ll
    have hal := hw.al
    rw [hf] at HF
    obtain ⟨L1, hL1⟩ : ∃ x, (if 0 < n then cutL (off, off + n - 1) s.lost else s.lost) = x := ⟨_, rfl⟩
    obtain ⟨A1, hA1⟩ : ∃ x, (if 0 < n then insR (off, off + n - 1) s.acked else s.acked) = x := ⟨_, rfl⟩
    have HL1 := Lib.hid hL1
    have HA1 := Lib.hid hA1
    rw [hL1, hA1]
    clear hv hw hd hl ha g0 g1 g2 hf pk ok hL1 hA1 hn
    obtain ⟨bn, hbn⟩ : ∃ x, decide (0 < n) = x := ⟨_, rfl⟩
    have HBN := Lib.hid hbn
    go_enter Try.func13, Try.ntmps13
    go_wp2_with (first
      | (go_at_call 31; refine (HF.out _ B0.out).mono ?_; rintro e w1 ⟨rfl, b1⟩; have B1 := Lib.hid (B0.out.trans (b1.mono B0.out.size)); have F1 := Lib.hid ((b1.block _ (lt_of_block F0.out)).trans F0.out); have Z1 := Lib.hid ((b1.block _ (lt_of_block Z0.out)).trans Z0.out); clear b1; obtain ⟨q0, q1, q2, q3, q4, q5, q6, q7⟩ := bkS F1.out; obtain ⟨z0, z1, z2, z3, z4, z5, z6, z7⟩ := bkS Z1.out; have zf := fun i => bk_frz Z1.out i))
    refine (HC.out _ B1.out).mono ?_
    rintro e w2 ⟨u2, rfl, o2, b2⟩
    obtain ⟨d2, l2, a2, rfl, od, oby, ol, oa, oap⟩ := o2.ex
    obtain ⟨Ad, cd, hd2, _, _, _, _⟩ := (own_bsl od oby).ex
    obtain ⟨Al, cl, hl2, _, _, _⟩ := ol.slice
    obtain ⟨Aa, ca, ha2, _, _, _⟩ := oa.slice
    have OD := Lib.hid od
    have OL := Lib.hid ol
    have OA := Lib.hid oa
    have OAP := Lib.hid oap
    have HBY := Lib.hid oby
    have B2 := Lib.hid (B1.out.trans (b2.mono B1.out.size))
    have F2 := Lib.hid ((b2.block _ (lt_of_block F1.out)).trans F1.out)
    have Z2 := Lib.hid ((b2.block _ (lt_of_block Z1.out)).trans Z1.out)
    have hw1 := lt_of_block Z1.out
    have hsz12 := b2.size
    subst hd2 hl2 ha2
    clear b2 od oby ol oa oap o2 q0 q1 q2 q3 q4 q5 q6 q7 z0 z1 z2 z3 z4 z5 z6 z7 zf
    obtain ⟨q0, q1, q2, q3, q4, q5, q6, q7⟩ := bkS F2.out
    have qf := fun i => bk_frz F2.out i
    obtain ⟨FX, gx⟩ := bkS_put F2.out (.slice Ad s.data.length cd) (.bool s.fin) (.int .i64 s.next) (.int .i64 s.mx) (.slice Al s.lost.length cl) (.slice Aa s.acked.length ca) (.bool s.ended) (.bool s.over)
    obtain ⟨Y2, hY2⟩ : ∃ x, ((((((((w2.setCell ⟨w.heap.size, 0, none⟩ (.slice Ad s.data.length cd)).setCell ⟨w.heap.size, 1, none⟩ (.bool s.fin)).setCell ⟨w.heap.size, 2, none⟩ (.int .i64 s.next)).setCell ⟨w.heap.size, 3, none⟩ (.int .i64 s.mx)).setCell ⟨w.heap.size, 4, none⟩ (.slice Al s.lost.length cl)).setCell ⟨w.heap.size, 5, none⟩ (.slice Aa s.acked.length ca)).setCell ⟨w.heap.size, 6, none⟩ (.bool s.ended)).setCell ⟨w.heap.size, 7, none⟩ (.bool s.over)) = x := ⟨_, rfl⟩
    rw [hY2] at FX gx
    have FY2 := Lib.hid FX
    have ZY2 := Lib.hid ((gx.block _ (lt_of_block Z2.out) (by simp)).trans Z2.out)
    have ODY := Lib.hid (own_gr OD.out gx (by omega))
    have OLY := Lib.hid (own_gr OL.out gx (by omega))
    have OAY := Lib.hid (own_gr OA.out gx (by omega))
    have BY2 := Lib.hid (gr_from B2.out B2.out.size (Nat.le_refl _) gx)
    have hsz2Y := gx.size
    clear FX gx
    go_upto_region 5 with fail
    have DC := own_bsl ODY.out HBY.out
    have LC := OwnR.slice OLY.out
    have AC := OwnR.slice OAY.out
    go_cut [24] from 23 to 24 (fun u wx => u = .bool bn ∧ wx = Y2)
    case first =>
      have hbn2 := HBN.out
      go_wp2_with fail
      go_meet
      exact ⟨by first | rfl | rw [hbn] | rw [hbn2], rfl⟩
    case rest =>
    obtain ⟨rfl, hwcq⟩ := hcut
    subst wc
    clear hbn hY2
    go_upto_if 24 with fail
    go_cut [11] from 25 to 45 (fun u wx => ∃ Al cl Aa ca, Hid (wx.heap[w.heap.size]? = some (.cells #[.slice Ad s.data.length cd, .bool s.fin, .int .i64 s.next, .int .i64 s.mx, .slice Al L1.length cl, .slice Aa A1.length ca, .bool s.ended, .bool s.over] 27 (0, 0))) ∧ Hid (wx.heap[w.heap.size + 1]? = some (.cells #[.slice none 0 0, .bool false, .int .i64 0, .int .i64 0, .slice none 0 0, .slice none 0 0, .bool false, .bool false] 27 (0, 0))) ∧ Hid (Below w.heap.size w wx) ∧
          Hid (wx.ownsRow w1.heap.size 5 1 (.slice Ad s.data.length cd) s.data.length (s.data.map (.int .u8))) ∧ Hid (OwnR wx w1.heap.size 63 (.slice Al L1.length cl) L1) ∧ Hid (OwnR wx w1.heap.size 63 (.slice Aa A1.length ca) A1))
    case first =>
      cases bn with
      | false =>
        have hn0 : ¬ 0 < n := of_decide_eq_false HBN.out
        have e1 : L1 = s.lost := by rw [← HL1.out, if_neg hn0]
        have e2 : A1 = s.acked := by rw [← HA1.out, if_neg hn0]
        have E1 := Lib.hid e1
        have E2 := Lib.hid e2
        clear hn0 e1 e2
        go_wp2_with fail
        go_meet
        rw [E1.out, E2.out]
        exact ⟨Al, cl, Aa, ca, FY2, ZY2, BY2, ODY, OLY, OAY⟩
      | true =>
        have hn0 : 0 < n := of_decide_eq_true HBN.out
        have hr := HRR.out hn0
        have E1 := Lib.hid (show cutL (off, off + n - 1) s.lost = L1 by rw [← HL1.out, if_pos hn0])
        have E2 := Lib.hid (show insR (off, off + n - 1) s.acked = A1 by rw [← HA1.out, if_pos hn0])
        obtain ⟨_, _, el, hlc, hlm, hlr⟩ := LC
        obtain ⟨_, _, ea, hac, ham, har⟩ := AC
        cases el
        cases ea
        have x1 : IntKind.i64.wrap (off + n) = off + n := by rw [IntKind.wrap_i64]; omega
        have HSP := Lib.hid (fun w' => span_any off (off + n) w' (by omega))
        have HAD := Lib.hid (fun w' (hb : Below Y2.heap.size Y2 w') => add_own Aa s.acked.length ca s.acked off (off + n - 1) w' (har.on hb) rfl KA.out hr (by omega) hac ham)
        rw [E2.out] at HAD
        have HCT := Lib.hid (fun w' (h : RRow w' w'.heap.size Al s.lost) => cut_own Al s.lost.length cl s.lost off (off + n - 1) w' h rfl KL.out hr (by omega))
        rw [E1.out] at HCT
        clear hn0 hr har hlr E1 E2 hlc hlm hac ham DC
        obtain ⟨q0, q1, q2, q3, q4, q5, q6, q7⟩ := bkS FY2.out
        go_wp2_with fail
        refine (HSP.out _).mono ?_
        rintro e w4 ⟨rfl, b4⟩
        have X4 := (Below.refl w4.heap.size w4).alloc (Nat.le_refl _) (.cells #[.int .i64 off, .int .i64 (off + n - 1)] 63)
        have XX := Lib.hid (b4.trans (X4.mono b4.size))
        have V4 := Lib.hid (heap_alloc_new w4 (.cells #[.int .i64 off, .int .i64 (off + n - 1)] 63))
        obtain ⟨Y4, hY4⟩ : ∃ x, w4.alloc (.cells #[.int .i64 off, .int .i64 (off + n - 1)] 63) = x := ⟨_, rfl⟩
        rw [hY4] at XX V4
        have F4 := Lib.hid ((XX.out.block _ (lt_of_block FY2.out)).trans FY2.out)
        have Z4 := Lib.hid ((XX.out.block _ (lt_of_block ZY2.out)).trans ZY2.out)
        have OD4 := Lib.hid (own_later2 ODY.out XX.out)
        have OL4 := Lib.hid (own_later2 OLY.out XX.out)
        have B4 := Lib.hid (BY2.out.trans (XX.out.mono BY2.out.size))
        have hy4 := b4.size
        have hw4 : w.heap.size < w4.heap.size := by have := lt_of_block FY2.out; omega
        clear b4 X4 q0 q1 q2 q3 q4 q5 q6 q7
        obtain ⟨q0, q1, q2, q3, q4, q5, q6, q7⟩ := bkS F4.out
        have m0 := bk_cell V4.out 0
        have m1 := bk_cell V4.out 1
        simp only [List.getElem?_toArray, List.getElem?_cons_zero, List.getElem?_cons_succ] at m0 m1
        go_wp2_with fail
        refine (HAD.out _ XX.out).mono ?_
        rintro e w5 ⟨u5, rfl, o5, b5⟩
        obtain ⟨A5, c5, hu5, _, _, _⟩ := o5.slice
        subst hu5
        have hs4 : w1.heap.size ≤ Y4.heap.size := by have := XX.out.size; omega
        have O5 := Lib.hid (own_lowR o5 hs4)
        have F5 := Lib.hid ((b5.block _ (lt_of_block F4.out)).trans F4.out)
        have Z5 := Lib.hid ((b5.block _ (lt_of_block Z4.out)).trans Z4.out)
        have V5 := Lib.hid ((b5.block _ (lt_of_block V4.out)).trans V4.out)
        have OD5 := Lib.hid (own_later2 OD4.out b5)
        have OL5 := Lib.hid (own_later2 OL4.out b5)
        have B5 := Lib.hid (B4.out.trans (b5.mono B4.out.size))
        have hs5 := b5.size
        clear b5 o5 q0 q1 q2 q3 q4 q5 q6 q7 m0 m1 hY4
        obtain ⟨q0, q1, q2, q3, q4, q5, q6, q7⟩ := bkS F5.out
        have qf := fun i => bk_frz F5.out i
        obtain ⟨Y6, hY6⟩ : ∃ x, w5.setCell ⟨w.heap.size, 5, none⟩ (.slice A5 A1.length c5) = x := ⟨_, rfl⟩
        have gg6 := gr_set w5 w.heap.size 5 (.slice A5 A1.length c5)
        have FX6 := (bkS_set F5.out (.slice A5 A1.length c5)).2.2.2.2.2.1
        rw [hY6] at gg6 FX6
        have FY6 := Lib.hid FX6
        have ZY6 := Lib.hid ((gg6.block _ (lt_of_block Z5.out) (by simp)).trans Z5.out)
        have OD6 := Lib.hid (own_gr OD5.out gg6 (by omega))
        have OL6 := Lib.hid (own_gr OL5.out gg6 (by omega))
        have OA6 := Lib.hid (own_gr O5.out gg6 (by omega))
        have BY6 := Lib.hid (gr_from B5.out B5.out.size (Nat.le_refl _) gg6)
        have V6 := Lib.hid ((gg6.block _ (lt_of_block V5.out) (fun e => by have := Option.some.inj e; omega)).trans V5.out)
        have hsg6 := gg6.size
        clear gg6 FX6
        have m0 := bk_cell V6.out 0
        have m1 := bk_cell V6.out 1
        simp only [List.getElem?_toArray, List.getElem?_cons_zero, List.getElem?_cons_succ] at m0 m1
        obtain ⟨k0, k1, k2, k3, k4, k5, k6, k7⟩ := bkS FY6.out
        obtain ⟨_, _, el, _, _, hlr6⟩ := OwnR.slice OL6.out
        cases el
        have HLR6 := Lib.hid hlr6
        clear hlr6
        go_wp2_with fail
        refine (HCT.out _ HLR6.out).mono ?_
        rintro e w7 ⟨u7, rfl, o7, b7⟩
        obtain ⟨A7, c7, hu7, _, _, _⟩ := o7.slice
        subst hu7
        have hs6 : w1.heap.size ≤ Y6.heap.size := by omega
        have O7 := Lib.hid (own_lowR o7 hs6)
        have F7 := Lib.hid ((b7.block _ (lt_of_block FY6.out)).trans FY6.out)
        have Z7 := Lib.hid ((b7.block _ (lt_of_block ZY6.out)).trans ZY6.out)
        have OD7 := Lib.hid (own_later2 OD6.out b7)
        have OA7 := Lib.hid (own_later2 OA6.out b7)
        have B7 := Lib.hid (BY6.out.trans (b7.mono BY6.out.size))
        clear b7 o7 q0 q1 q2 q3 q4 q5 q6 q7 m0 m1 hY6 k0 k1 k2 k3 k4 k5 k6 k7 qf
        obtain ⟨q0, q1, q2, q3, q4, q5, q6, q7⟩ := bkS F7.out
        have qf := fun i => bk_frz F7.out i
        obtain ⟨Y8, hY8⟩ : ∃ x, w7.setCell ⟨w.heap.size, 4, none⟩ (.slice A7 L1.length c7) = x := ⟨_, rfl⟩
        have gg8 := gr_set w7 w.heap.size 4 (.slice A7 L1.length c7)
        have FX8 := (bkS_set F7.out (.slice A7 L1.length c7)).2.2.2.2.1
        rw [hY8] at gg8 FX8
        have FY8 := Lib.hid FX8
        have ZY8 := Lib.hid ((gg8.block _ (lt_of_block Z7.out) (by simp)).trans Z7.out)
        have OD8 := Lib.hid (own_gr OD7.out gg8 (by omega))
        have OL8 := Lib.hid (own_gr O7.out gg8 (by omega))
        have OA8 := Lib.hid (own_gr OA7.out gg8 (by omega))
        have BY8 := Lib.hid (gr_from B7.out B7.out.size (Nat.le_refl _) gg8)
        clear gg8 FX8
        go_wp2_with fail
        go_meet
        exact ⟨A7, c7, A5, c5, FY8, ZY8, BY8, OD8, OL8, OA8⟩
    case rest =>
    obtain ⟨Al, cl, Aa, ca, F9, Z9, B9, OD9, OL9, OA9⟩ := hcut
    cases fin with
    | false =>
      obtain ⟨z0, z1, z2, z3, z4, z5, z6, z7⟩ := bkS Z9.out
      obtain ⟨k0, k1, k2, k3, k4, k5, k6, k7⟩ := bkS F9.out
      have zf := fun i => bk_frz Z9.out i
      go_wp2_with fail
      obtain ⟨RY, gp⟩ := bkS_put Z9.out (.slice Ad s.data.length cd) (.bool s.fin) (.int .i64 s.next) (.int .i64 s.mx) (.slice Al L1.length cl) (.slice Aa A1.length ca) (.bool s.ended) (.bool s.over)
      obtain ⟨r0, r1, r2, r3, r4, r5, r6, r7⟩ := bkS RY
      refine bodyPost_ret (by simp [results, Try.results13, go_sem, r0, r1, r2, r3, r4, r5, r6, r7]; try rfl) rfl ?_
      have hsn := snf_own (s := { s with lost := L1, acked := A1 }) (own_gr OD9.out gp (by omega)) HBY.out (own_gr OL9.out gp (by omega)) (own_gr OA9.out gp (by omega)) (lo := w.heap.size) (by omega)
      exact ⟨gr_from B9.out B9.out.size (Nat.le_succ _) gp, _, rfl, by simpa using hsn⟩
    | true =>
      obtain ⟨k0, k1, k2, k3, k4, k5, k6, k7⟩ := bkS F9.out
      have kf := fun i => bk_frz F9.out i
      obtain ⟨Y10, hY10⟩ : ∃ x, wc.setCell ⟨w.heap.size, 6, none⟩ (.bool false) = x := ⟨_, rfl⟩
      have gg10 := gr_set wc w.heap.size 6 (.bool false)
      have FX10 := (bkS_set F9.out (.bool false)).2.2.2.2.2.2.1
      rw [hY10] at gg10 FX10
      have FY10 := Lib.hid FX10
      have ZY10 := Lib.hid ((gg10.block _ (lt_of_block Z9.out) (by simp)).trans Z9.out)
      have OD10 := Lib.hid (own_gr OD9.out gg10 (by omega))
      have OL10 := Lib.hid (own_gr OL9.out gg10 (by omega))
      have OA10 := Lib.hid (own_gr OA9.out gg10 (by omega))
      have BY10 := Lib.hid (gr_from B9.out B9.out.size (Nat.le_refl _) gg10)
      clear gg10 FX10
      obtain ⟨t0, t1, t2, t3, t4, t5, t6, t7⟩ := bkS FY10.out
      have tf := fun i => bk_frz FY10.out i
      obtain ⟨Y11, hY11⟩ : ∃ x, Y10.setCell ⟨w.heap.size, 7, none⟩ (.bool true) = x := ⟨_, rfl⟩
      have gg11 := gr_set Y10 w.heap.size 7 (.bool true)
      have FX11 := (bkS_set FY10.out (.bool true)).2.2.2.2.2.2.2
      rw [hY11] at gg11 FX11
      have FY11 := Lib.hid FX11
      have ZY11 := Lib.hid ((gg11.block _ (lt_of_block ZY10.out) (by simp)).trans ZY10.out)
      have OD11 := Lib.hid (own_gr OD10.out gg11 (by omega))
      have OL11 := Lib.hid (own_gr OL10.out gg11 (by omega))
      have OA11 := Lib.hid (own_gr OA10.out gg11 (by omega))
      have BY11 := Lib.hid (gr_from BY10.out BY10.out.size (Nat.le_refl _) gg11)
      clear gg11 FX11
      obtain ⟨u0, u1, u2, u3, u4, u5, u6, u7⟩ := bkS FY11.out
      have zf := fun i => bk_frz ZY11.out i
      obtain ⟨z0, z1, z2, z3, z4, z5, z6, z7⟩ := bkS ZY11.out
      go_wp2_with fail
      obtain ⟨RY, gp⟩ := bkS_put ZY11.out (.slice Ad s.data.length cd) (.bool s.fin) (.int .i64 s.next) (.int .i64 s.mx) (.slice Al L1.length cl) (.slice Aa A1.length ca) (.bool false) (.bool true)
      obtain ⟨r0, r1, r2, r3, r4, r5, r6, r7⟩ := bkS RY
      refine bodyPost_ret (by simp [results, Try.results13, go_sem, r0, r1, r2, r3, r4, r5, r6, r7]; try rfl) rfl ?_
      have hsn := snf_own (s := { s with lost := L1, acked := A1, ended := false, over := true }) (own_gr OD11.out gp (by omega)) HBY.out (own_gr OL11.out gp (by omega)) (own_gr OA11.out gp (by omega)) (lo := w.heap.size) (by omega)
      exact ⟨gr_from BY11.out BY11.out.size (Nat.le_succ _) gp, _, rfl, by simpa using hsn⟩
  · rw [if_pos hf]
    clear hv hw hd hl ha HC g0 g1 g2
    obtain ⟨x, hx⟩ : ∃ x, partF s off n fin = x := ⟨_, rfl⟩
    rw [hx] at HF hf ⊢
    have gx : (x != 0) = true := by simp [hf]
    clear hx hf
    go_enter Try.func13, Try.ntmps13
    go_wp2_with (first
      | (go_at_call 31; refine (HF.out _ B0.out).mono ?_; rintro e w1 ⟨rfl, b1⟩; have B1 := Lib.hid (B0.out.trans (b1.mono B0.out.size)); have F1 := Lib.hid ((b1.block _ (lt_of_block F0.out)).trans F0.out); have Z1 := Lib.hid ((b1.block _ (lt_of_block Z0.out)).trans Z0.out); clear b1; obtain ⟨q0, q1, q2, q3, q4, q5, q6, q7⟩ := bkS F1.out; obtain ⟨z0, z1, z2, z3, z4, z5, z6, z7⟩ := bkS Z1.out; have zf := fun i => bk_frz Z1.out i))
    obtain ⟨RY, gp⟩ := bkS_put Z1.out (.slice none 0 0) (.bool false) (.int .i64 0) (.int .i64 0) (.slice none 0 0) (.slice none 0 0) (.bool false) (.bool false)
    obtain ⟨r0, r1, r2, r3, r4, r5, r6, r7⟩ := bkS RY
    refine bodyPost_ret (by simp [results, Try.results13, go_sem, r0, r1, r2, r3, r4, r5, r6, r7]; try rfl) rfl ?_
    exact ⟨gr_from B1.out B1.out.size (Nat.le_succ _) gp, _, rfl, SnF.nil _ _⟩
theorem snHeard_any : SnHd Try.prog 13 := fun v s off n fin w hv hw hn => (snHeard_F v s off n fin w hv hw hn).mono fun _ _ h => h.toRes
end Go.Proofs.Ytnccibaifffhhaa
