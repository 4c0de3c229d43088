/- Contract of package sender: Lose. -/
import Derived.Test.YtnccibaifffhhaaSnGrant
import Derived.Test.YtnccibaifffhhaaSnRefuse
import Derived.Test.YtnccibaifffhhaaRngHol
import Derived.Test.YtnccibaifffhhaaGrpC
import Derived.Deep.CutRange
namespace Go.Proofs.Ytnccibaifffhhaa.P
set_option linter.unusedVariables false
open Go.RowKit
theorem ready_ne {l : List Nat} (h : l.isEmpty = false) : l ≠ [] := by
  intro e
  rw [e] at h
  cases h
theorem addL_snoc (hs l : List (Int × Int)) (k : Nat) (h : k < hs.length) : addL (hs.take (k + 1)) l = insR (hs.getD k (0, 0)) (addL (hs.take k) l) := by
  rw [takeR_snoc hs k h]
  simp [addL, List.foldl_append]
theorem addL_len : ∀ (hs l : List (Int × Int)), (addL hs l).length ≤ l.length + hs.length
  | [], l => by simp [addL]
  | x :: hs, l => by
    have h1 := addL_len hs (insR x l)
    have h2 := ins_len x l
    show (addL hs (insR x l)).length ≤ _
    simp only [List.length_cons]
    omega
end Go.Proofs.Ytnccibaifffhhaa.P
namespace Go.Proofs.Ytnccibaifffhhaa
set_option linter.unusedVariables false
open Go.RowKit P

structure Lose6 (w0 : World) (W : World) (H1 : List (Int × Int)) (Aa : Option Addr) (na ca : Nat) (off n : Int) (V0 V1 V2 V3 V4 V5 V6 V10 V12 : Value) (b0 b1 b2 b3 b4 b5 b6 b7 b8 b9 b10 b11 b12 : Bool) (x0 x1 x2 x3 x4 x5 x6 x7 x8 x9 x10 x11 x12 : Value) (w : World) : Prop where
  be : Below w0.heap.size w0 w
  d1 : b1 = true → b0 = true
  d5 : b5 = true → b3 = true ∧ b4 = true
  d6 : b6 = true → b2 = true ∧ b5 = true
  d7 : b7 = true → b1 = true ∧ b6 = true
  d8 : b8 = true → b7 = true
  d9 : b9 = true → b8 = true
  d10 : b10 = true → b8 = true
  d11 : b11 = true → b0 = true ∧ b1 = true ∧ b2 = true ∧ b3 = true ∧ b4 = true ∧ b5 = true ∧ b6 = true ∧ b7 = true ∧ b8 = true ∧ b9 = true
  d12 : b12 = true → b0 = true ∧ b1 = true ∧ b2 = true ∧ b3 = true ∧ b4 = true ∧ b5 = true ∧ b6 = true ∧ b7 = true ∧ b8 = true ∧ b9 = true ∧ b10 = true ∧ b11 = true
  t5 : b7 = true → ∃ u, x7 = .tuple #[u, .int .i64 0]
  t6 : b8 = true → ∃ u, x8 = .tuple #[u, .int .i64 0]
  h0 : b0 = true → x0 = V0
  h1 : b1 = true → x1 = V1
  h2 : b2 = true → x2 = V2
  h3 : b3 = true → x3 = V3
  h4 : b4 = true → x4 = V4
  h5 : b5 = true → x5 = V5
  h6 : b6 = true → x6 = V6
  h7 : b7 = true → ∃ u, x7 = .tuple #[u, .int .i64 0] ∧ OwnR w w0.heap.size 63 u H1
  h8 : b8 = true → ∃ u, x8 = .tuple #[u, .int .i64 0] ∧ OwnR w w0.heap.size 63 u H1
  h9 : b9 = true → OwnR w w0.heap.size 63 x9 H1
  h10 : b10 = true → x10 = V10
  h11 : b11 = true → OwnR w w0.heap.size 63 x11 H1
  h12 : b12 = true → x12 = V12
set_option maxRecDepth 100000 in
set_option maxHeartbeats 4000000 in
theorem snLose_F (v : Value) (s : Sn) (off n : Int) (fin : Bool) (w : World) (hv : SnVal w w.heap.size v s) (hw : SnWf s) (hn : -9223372036854775808 ≤ n ∧ n ≤ 9223372036854775807) : Calls Try.prog 12 #[v, .int .i64 off, .int .i64 n, .bool fin] w (SnResF (loseS s off n fin) w) := by
  obtain ⟨d, l, a, rfl, hd, hl, ha⟩ := hv.ex
  obtain ⟨g0, g1, g2⟩ := twoX w #[d, .bool s.fin, .int .i64 s.next, .int .i64 s.mx, l, a, .bool s.ended, .bool s.over] #[.slice none 0 0, .bool false, .int .i64 0, .int .i64 0, .slice none 0 0, .slice none 0 0, .bool false, .bool false] 27 27
  have F0 := Lib.hid g0
  have Z0 := Lib.hid g1
  have B0 := Lib.hid g2
  have HF := Lib.hid (fun w' (hb : Below w.heap.size w w') => snRefuse_any _ s off n fin w' (hv.on hb) hw hn)
  have HC := Lib.hid (fun w' (hb : Below w.heap.size w w') => sncopied_any _ s w' (hv.on hb) hw)
  unfold loseS
  by_cases hf : partF s off n fin = 0
  · rw [if_neg (fun e => e hf)]
    have pk := part_ok hf
    have ok := pk.1
    obtain ⟨b1', b2', b3', b4'⟩ := pk.2.1
    have kd := ok.1
    have kn := ok.2.1
    have KL := Lib.hid ok.2.2.2.1
    have KA := Lib.hid ok.2.2.2.2.1
    have HRR := Lib.hid (fun h => part_r ok pk.2.1 h)
    have hll := hw.ll
    have hal := hw.al
    rw [hf] at HF
    obtain ⟨L1, hL1⟩ : ∃ x, (if 0 < n then addL (holesF (off + n - 1) off s.acked) s.lost else s.lost) = x := ⟨_, rfl⟩
    have HL1 := Lib.hid hL1
    rw [hL1]
    clear hv hw hd hl ha g0 g1 g2 hf pk ok hL1 hn
    obtain ⟨bn, hbn⟩ : ∃ x, decide (0 < n) = x := ⟨_, rfl⟩
    have HBN := Lib.hid hbn
    go_enter Try.func12, Try.ntmps12
    go_wp2_with (first
      | (go_at_call 31; refine (HF.out _ B0.out).mono ?_; rintro e w1 ⟨rfl, b1⟩; have B1 := Lib.hid (B0.out.trans (b1.mono B0.out.size)); have F1 := Lib.hid ((b1.block _ (lt_of_block F0.out)).trans F0.out); have Z1 := Lib.hid ((b1.block _ (lt_of_block Z0.out)).trans Z0.out); clear b1; obtain ⟨q0, q1, q2, q3, q4, q5, q6, q7⟩ := bkS F1.out; obtain ⟨z0, z1, z2, z3, z4, z5, z6, z7⟩ := bkS Z1.out; have zf := fun i => bk_frz Z1.out i))
    refine (HC.out _ B1.out).mono ?_
    rintro e w2 ⟨u2, rfl, o2, b2⟩
    obtain ⟨d2, l2, a2, rfl, od, oby, ol, oa, oap⟩ := o2.ex
    obtain ⟨Ad, cd, hd2, _, _, _, _⟩ := (own_bsl od oby).ex
    obtain ⟨Al, cl, hl2, _, _, _⟩ := ol.slice
    obtain ⟨Aa, ca, ha2, _, _, _⟩ := oa.slice
    have OD := Lib.hid od
    have OL := Lib.hid ol
    have OA := Lib.hid oa
    have OAP := Lib.hid oap
    have HBY := Lib.hid oby
    have B2 := Lib.hid (B1.out.trans (b2.mono B1.out.size))
    have F2 := Lib.hid ((b2.block _ (lt_of_block F1.out)).trans F1.out)
    have Z2 := Lib.hid ((b2.block _ (lt_of_block Z1.out)).trans Z1.out)
    have hw1 := lt_of_block Z1.out
    have hsz12 := b2.size
    subst hd2 hl2 ha2
    clear b2 od oby ol oa oap o2 q0 q1 q2 q3 q4 q5 q6 q7 z0 z1 z2 z3 z4 z5 z6 z7 zf
    obtain ⟨q0, q1, q2, q3, q4, q5, q6, q7⟩ := bkS F2.out
    have qf := fun i => bk_frz F2.out i
    obtain ⟨FX, gx⟩ := bkS_put F2.out (.slice Ad s.data.length cd) (.bool s.fin) (.int .i64 s.next) (.int .i64 s.mx) (.slice Al s.lost.length cl) (.slice Aa s.acked.length ca) (.bool s.ended) (.bool s.over)
    obtain ⟨Y2, hY2⟩ : ∃ x, ((((((((w2.setCell ⟨w.heap.size, 0, none⟩ (.slice Ad s.data.length cd)).setCell ⟨w.heap.size, 1, none⟩ (.bool s.fin)).setCell ⟨w.heap.size, 2, none⟩ (.int .i64 s.next)).setCell ⟨w.heap.size, 3, none⟩ (.int .i64 s.mx)).setCell ⟨w.heap.size, 4, none⟩ (.slice Al s.lost.length cl)).setCell ⟨w.heap.size, 5, none⟩ (.slice Aa s.acked.length ca)).setCell ⟨w.heap.size, 6, none⟩ (.bool s.ended)).setCell ⟨w.heap.size, 7, none⟩ (.bool s.over)) = x := ⟨_, rfl⟩
    rw [hY2] at FX gx
    have FY2 := Lib.hid FX
    have ZY2 := Lib.hid ((gx.block _ (lt_of_block Z2.out) (by simp)).trans Z2.out)
    have ODY := Lib.hid (own_gr OD.out gx (by omega))
    have OLY := Lib.hid (own_gr OL.out gx (by omega))
    have OAY := Lib.hid (own_gr OA.out gx (by omega))
    have BY2 := Lib.hid (gr_from B2.out B2.out.size (Nat.le_refl _) gx)
    have hsz2Y := gx.size
    clear FX gx
    go_upto_region 5 with fail
    go_cut [27] from 26 to 27 (fun u wx => u = .bool bn ∧ wx = Y2)
    case first =>
      have hbn2 := HBN.out
      go_wp2_with fail
      go_meet
      exact ⟨by first | rfl | rw [hbn] | rw [hbn2], rfl⟩
    case rest =>
    obtain ⟨rfl, hwcq⟩ := hcut
    subst wc
    clear hbn hY2
    go_upto_if 27 with fail
    go_cut [11, 12] from 28 to 53 (fun u u2 wx => ∃ Al cl, Hid (wx.heap[w.heap.size]? = some (.cells #[.slice Ad s.data.length cd, .bool s.fin, .int .i64 s.next, .int .i64 s.mx, .slice Al L1.length cl, .slice Aa s.acked.length ca, .bool s.ended, .bool s.over] 27 (0, 0))) ∧ Hid (wx.heap[w.heap.size + 1]? = some (.cells #[.slice none 0 0, .bool false, .int .i64 0, .int .i64 0, .slice none 0 0, .slice none 0 0, .bool false, .bool false] 27 (0, 0))) ∧ Hid (Below w.heap.size w wx) ∧ Hid (wx.ownsRow w1.heap.size 5 1 (.slice Ad s.data.length cd) s.data.length (s.data.map (.int .u8))) ∧ Hid (OwnR wx w1.heap.size 63 (.slice Al L1.length cl) (L1)) ∧ Hid (OwnR wx w1.heap.size 63 (.slice Aa s.acked.length ca) s.acked))
    case first =>
      cases bn with
      | false =>
        have hn0 : ¬ 0 < n := of_decide_eq_false HBN.out
        have E1 := Lib.hid (show L1 = s.lost by rw [← HL1.out, if_neg hn0])
        clear hn0
        go_wp2_with fail
        go_meet
        rw [E1.out]
        exact ⟨Al, cl, FY2, ZY2, BY2, ODY, OLY, OAY⟩
      | true =>
        have hn0 : 0 < n := of_decide_eq_true HBN.out
        have hr := HRR.out hn0
        have HO1 := holes_okR KA.out hr
        have hhl := holes_len (off + n - 1) s.acked off
        obtain ⟨H1, hH1⟩ : ∃ x, holesF (off + n - 1) off s.acked = x := ⟨_, rfl⟩
        have E1 := Lib.hid (show addL H1 s.lost = L1 by rw [← HL1.out, if_pos hn0, hH1])
        simp only at HO1
        rw [hH1] at HO1 hhl
        have HOH := Lib.hid HO1
        obtain ⟨_, _, ea, hac, ham, har⟩ := OwnR.slice OAY.out
        cases ea
        have x1 : IntKind.i64.wrap (off + n) = off + n := by rw [IntKind.wrap_i64]; omega
        have HSP := Lib.hid (fun w' => span_any off (off + n) w' (by omega))
        have HHO := Lib.hid (fun w' (hb : Below Y2.heap.size Y2 w') => holes_own Aa s.acked.length ca s.acked off (off + n - 1) w' (har.on hb) rfl KA.out hr (by omega))
        rw [hH1] at HHO
        obtain ⟨X0, hX0⟩ : ∃ x, x = Y2 := ⟨_, rfl⟩
        subst hX0
        have FX := FY2
        clear hn0 hr har HO1 hH1
        go_upto_region 6 with fail
        go_cut [11, 12] from 28 to 38 (fun u u2 wx => ∃ A c, u = .slice A H1.length c ∧ Hid (OwnR wx X0.heap.size 63 (.slice A H1.length c) H1) ∧ Hid (Below X0.heap.size X0 wx))
        case first =>
          obtain ⟨W, hWW⟩ : ∃ x, x = w := ⟨_, rfl⟩
          subst hWW
          refine wp_region_inv (fun lis_ act_ wld_ => ∃ (b0 b1 b2 b3 b4 b5 b6 b7 b8 b9 b10 b11 b12 : Bool) (x0 x1 x2 x3 x4 x5 x6 x7 x8 x9 x10 x11 x12 : Value), lis_ = #[b0, b1, b2, b3, b4, b5, b6, b7, b8, b9, b10, b11, b12] ∧ act_ = { tmps := #[Value.agg #[d, Value.bool s.fin, Value.int IntKind.i64 s.next, Value.int IntKind.i64 s.mx, l, a, Value.bool s.ended, Value.bool s.over], Value.int IntKind.i64 off, Value.int IntKind.i64 n, Value.bool fin, Value.pointer (some { block := W.heap.size, off := 0 }), undef, undef, undef, Value.pointer (some { block := W.heap.size + 1, off := 0 }), Value.int IntKind.i64 0, Value.int IntKind.i64 0, x11, x12, undef, undef, Value.agg #[d, Value.bool s.fin, Value.int IntKind.i64 s.next, Value.int IntKind.i64 s.mx, l, a, Value.bool s.ended, Value.bool s.over], Value.int IntKind.i64 off, Value.int IntKind.i64 n, Value.bool fin, Value.int IntKind.i64 0, Value.int IntKind.i64 0, Value.bool false, undef, undef, Value.agg #[d, Value.bool s.fin, Value.int IntKind.i64 s.next, Value.int IntKind.i64 s.mx, l, a, Value.bool s.ended, Value.bool s.over], Value.agg #[Value.slice Ad s.data.length cd, Value.bool s.fin, Value.int IntKind.i64 s.next, Value.int IntKind.i64 s.mx, Value.slice Al s.lost.length cl, Value.slice Aa s.acked.length ca, Value.bool s.ended, Value.bool s.over], u26, Value.bool true, x8, x0, x1, x2, x3, x4, x5, x6, x7, x9, x10, undef, undef, undef, undef, undef, undef, undef, undef, undef, undef, undef, undef, undef, undef, undef, undef, undef, undef], defers := [] } ∧ Lose6 X0 W H1 Aa s.acked.length ca off n (.pointer (some ⟨W.heap.size, 5, none⟩)) (.slice Aa s.acked.length ca) (.int .i64 off) (.int .i64 off) (.int .i64 n) (.int .i64 (off + n)) (.agg #[.int .i64 off, .int .i64 (off + n - 1)]) (.int .i64 0) (.int .i64 0) b0 b1 b2 b3 b4 b5 b6 b7 b8 b9 b10 b11 b12 x0 x1 x2 x3 x4 x5 x6 x7 x8 x9 x10 x11 x12 wld_) (by kernel_rfl) ?h0 ?hfin ?hI
          case h0 => exact ⟨_, _, _, _, _, _, _, _, _, _, _, _, _, _, _, _, _, _, _, _, _, _, _, _, _, _, rfl, rfl, ⟨(Below.refl _ _).drew, (fun h => by cases h), (fun h => by cases h), (fun h => by cases h), (fun h => by cases h), (fun h => by cases h), (fun h => by cases h), (fun h => by cases h), (fun h => by cases h), (fun h => by cases h), (fun h => by cases h), (fun h => by cases h), (fun h => by cases h), (fun h => by cases h), (fun h => by cases h), (fun h => by cases h), (fun h => by cases h), (fun h => by cases h), (fun h => by cases h), (fun h => by cases h), (fun h => by cases h), (fun h => by cases h), (fun h => by cases h), (fun h => by cases h), (fun h => by cases h)⟩⟩
          case hI =>
            rintro listed a w ⟨b0, b1, b2, b3, b4, b5, b6, b7, b8, b9, b10, b11, b12, x0, x1, x2, x3, x4, x5, x6, x7, x8, x9, x10, x11, x12, rfl, rfl, H⟩ i hi
            obtain ⟨hun, oj, hoj, hall⟩ := mem_ready.1 hi
            clear hi
            rcases i with _ | _ | _ | _ | _ | _ | _ | _ | _ | _ | _ | _ | _ | i
            · have ho := hoj
              simp only [List.getElem?_toArray, List.getElem?_cons_succ, List.getElem?_cons_zero, Option.some.injEq] at hoj
              subst hoj
              obtain rfl : b0 = false := hun
              clear hall
              obtain rfl : b1 = false := Bool.eq_false_iff.2 fun h => Bool.false_ne_true (H.d1 h)
              obtain rfl : b7 = false := Bool.eq_false_iff.2 fun h => Bool.false_ne_true (H.d7 h).1
              obtain rfl : b8 = false := Bool.eq_false_iff.2 fun h => Bool.false_ne_true (H.d8 h)
              obtain rfl : b9 = false := Bool.eq_false_iff.2 fun h => Bool.false_ne_true (H.d9 h)
              obtain rfl : b10 = false := Bool.eq_false_iff.2 fun h => Bool.false_ne_true (H.d10 h)
              obtain rfl : b11 = false := Bool.eq_false_iff.2 fun h => Bool.false_ne_true (H.d11 h).1
              obtain rfl : b12 = false := Bool.eq_false_iff.2 fun h => Bool.false_ne_true (H.d12 h).1
              have hbe := H.be
              have hx_t5 := H.t5
              have hx_t6 := H.t6
              refine wpOp_step ho (fun K' hK => ?_)
              have HK := Lib.hid hK
              clear hK ho
              go_simp
              exact HK.out _ _ ⟨_, _, _, _, _, _, _, _, _, _, _, _, _, _, _, _, _, _, _, _, _, _, _, _, _, _, rfl, rfl, ⟨hbe, (fun h => by cases h), H.d5, H.d6, H.d7, H.d8, H.d9, H.d10, (fun h => by cases h), (fun h => by cases h), H.t5, H.t6, (fun _ => rfl), H.h1, H.h2, H.h3, H.h4, H.h5, H.h6, (fun h => by cases h), (fun h => by cases h), (fun h => by cases h), H.h10, (fun h => by cases h), H.h12⟩⟩
            · have ho := hoj
              simp only [List.getElem?_toArray, List.getElem?_cons_succ, List.getElem?_cons_zero, Option.some.injEq] at hoj
              subst hoj
              obtain rfl : b1 = false := hun
              obtain rfl : b0 = true := hall ⟨0, .data⟩ (by simp) (by kernel_rfl)
              clear hall
              obtain rfl : b7 = false := Bool.eq_false_iff.2 fun h => Bool.false_ne_true (H.d7 h).1
              obtain rfl : b8 = false := Bool.eq_false_iff.2 fun h => Bool.false_ne_true (H.d8 h)
              obtain rfl : b9 = false := Bool.eq_false_iff.2 fun h => Bool.false_ne_true (H.d9 h)
              obtain rfl : b10 = false := Bool.eq_false_iff.2 fun h => Bool.false_ne_true (H.d10 h)
              obtain rfl : b11 = false := Bool.eq_false_iff.2 fun h => Bool.false_ne_true (H.d11 h).2.1
              obtain rfl : b12 = false := Bool.eq_false_iff.2 fun h => Bool.false_ne_true (H.d12 h).2.1
              have hbe := H.be
              have hx_t5 := H.t5
              have hx_t6 := H.t6
              obtain rfl := H.h0 rfl
              obtain ⟨q0, q1, q2, q3, q4, q5, q6, q7⟩ := bkS ((hbe.block _ (lt_of_block FX.out)).trans FX.out)
              refine wpOp_step ho (fun K' hK => ?_)
              have HK := Lib.hid hK
              clear hK ho
              go_simp
              exact HK.out _ _ ⟨_, _, _, _, _, _, _, _, _, _, _, _, _, _, _, _, _, _, _, _, _, _, _, _, _, _, rfl, rfl, ⟨hbe, (fun _ => rfl), H.d5, H.d6, (fun h => by cases h), H.d8, H.d9, H.d10, (fun h => by cases h), (fun h => by cases h), H.t5, H.t6, H.h0, (fun _ => rfl), H.h2, H.h3, H.h4, H.h5, H.h6, (fun h => by cases h), (fun h => by cases h), (fun h => by cases h), H.h10, (fun h => by cases h), H.h12⟩⟩
            · have ho := hoj
              simp only [List.getElem?_toArray, List.getElem?_cons_succ, List.getElem?_cons_zero, Option.some.injEq] at hoj
              subst hoj
              obtain rfl : b2 = false := hun
              clear hall
              obtain rfl : b6 = false := Bool.eq_false_iff.2 fun h => Bool.false_ne_true (H.d6 h).1
              obtain rfl : b7 = false := Bool.eq_false_iff.2 fun h => Bool.false_ne_true (H.d7 h).2
              obtain rfl : b8 = false := Bool.eq_false_iff.2 fun h => Bool.false_ne_true (H.d8 h)
              obtain rfl : b9 = false := Bool.eq_false_iff.2 fun h => Bool.false_ne_true (H.d9 h)
              obtain rfl : b10 = false := Bool.eq_false_iff.2 fun h => Bool.false_ne_true (H.d10 h)
              obtain rfl : b11 = false := Bool.eq_false_iff.2 fun h => Bool.false_ne_true (H.d11 h).2.2.1
              obtain rfl : b12 = false := Bool.eq_false_iff.2 fun h => Bool.false_ne_true (H.d12 h).2.2.1
              have hbe := H.be
              have hx_t5 := H.t5
              have hx_t6 := H.t6
              refine wpOp_step ho (fun K' hK => ?_)
              have HK := Lib.hid hK
              clear hK ho
              go_simp
              exact HK.out _ _ ⟨_, _, _, _, _, _, _, _, _, _, _, _, _, _, _, _, _, _, _, _, _, _, _, _, _, _, rfl, rfl, ⟨hbe, H.d1, H.d5, (fun h => by cases h), H.d7, H.d8, H.d9, H.d10, (fun h => by cases h), (fun h => by cases h), H.t5, H.t6, H.h0, H.h1, (fun _ => rfl), H.h3, H.h4, H.h5, H.h6, (fun h => by cases h), (fun h => by cases h), (fun h => by cases h), H.h10, (fun h => by cases h), H.h12⟩⟩
            · have ho := hoj
              simp only [List.getElem?_toArray, List.getElem?_cons_succ, List.getElem?_cons_zero, Option.some.injEq] at hoj
              subst hoj
              obtain rfl : b3 = false := hun
              clear hall
              obtain rfl : b5 = false := Bool.eq_false_iff.2 fun h => Bool.false_ne_true (H.d5 h).1
              obtain rfl : b6 = false := Bool.eq_false_iff.2 fun h => Bool.false_ne_true (H.d6 h).2
              obtain rfl : b7 = false := Bool.eq_false_iff.2 fun h => Bool.false_ne_true (H.d7 h).2
              obtain rfl : b8 = false := Bool.eq_false_iff.2 fun h => Bool.false_ne_true (H.d8 h)
              obtain rfl : b9 = false := Bool.eq_false_iff.2 fun h => Bool.false_ne_true (H.d9 h)
              obtain rfl : b10 = false := Bool.eq_false_iff.2 fun h => Bool.false_ne_true (H.d10 h)
              obtain rfl : b11 = false := Bool.eq_false_iff.2 fun h => Bool.false_ne_true (H.d11 h).2.2.2.1
              obtain rfl : b12 = false := Bool.eq_false_iff.2 fun h => Bool.false_ne_true (H.d12 h).2.2.2.1
              have hbe := H.be
              have hx_t5 := H.t5
              have hx_t6 := H.t6
              refine wpOp_step ho (fun K' hK => ?_)
              have HK := Lib.hid hK
              clear hK ho
              go_simp
              exact HK.out _ _ ⟨_, _, _, _, _, _, _, _, _, _, _, _, _, _, _, _, _, _, _, _, _, _, _, _, _, _, rfl, rfl, ⟨hbe, H.d1, (fun h => by cases h), H.d6, H.d7, H.d8, H.d9, H.d10, (fun h => by cases h), (fun h => by cases h), H.t5, H.t6, H.h0, H.h1, H.h2, (fun _ => rfl), H.h4, H.h5, H.h6, (fun h => by cases h), (fun h => by cases h), (fun h => by cases h), H.h10, (fun h => by cases h), H.h12⟩⟩
            · have ho := hoj
              simp only [List.getElem?_toArray, List.getElem?_cons_succ, List.getElem?_cons_zero, Option.some.injEq] at hoj
              subst hoj
              obtain rfl : b4 = false := hun
              clear hall
              obtain rfl : b5 = false := Bool.eq_false_iff.2 fun h => Bool.false_ne_true (H.d5 h).2
              obtain rfl : b6 = false := Bool.eq_false_iff.2 fun h => Bool.false_ne_true (H.d6 h).2
              obtain rfl : b7 = false := Bool.eq_false_iff.2 fun h => Bool.false_ne_true (H.d7 h).2
              obtain rfl : b8 = false := Bool.eq_false_iff.2 fun h => Bool.false_ne_true (H.d8 h)
              obtain rfl : b9 = false := Bool.eq_false_iff.2 fun h => Bool.false_ne_true (H.d9 h)
              obtain rfl : b10 = false := Bool.eq_false_iff.2 fun h => Bool.false_ne_true (H.d10 h)
              obtain rfl : b11 = false := Bool.eq_false_iff.2 fun h => Bool.false_ne_true (H.d11 h).2.2.2.2.1
              obtain rfl : b12 = false := Bool.eq_false_iff.2 fun h => Bool.false_ne_true (H.d12 h).2.2.2.2.1
              have hbe := H.be
              have hx_t5 := H.t5
              have hx_t6 := H.t6
              refine wpOp_step ho (fun K' hK => ?_)
              have HK := Lib.hid hK
              clear hK ho
              go_simp
              exact HK.out _ _ ⟨_, _, _, _, _, _, _, _, _, _, _, _, _, _, _, _, _, _, _, _, _, _, _, _, _, _, rfl, rfl, ⟨hbe, H.d1, (fun h => by cases h), H.d6, H.d7, H.d8, H.d9, H.d10, (fun h => by cases h), (fun h => by cases h), H.t5, H.t6, H.h0, H.h1, H.h2, H.h3, (fun _ => rfl), H.h5, H.h6, (fun h => by cases h), (fun h => by cases h), (fun h => by cases h), H.h10, (fun h => by cases h), H.h12⟩⟩
            · have ho := hoj
              simp only [List.getElem?_toArray, List.getElem?_cons_succ, List.getElem?_cons_zero, Option.some.injEq] at hoj
              subst hoj
              obtain rfl : b5 = false := hun
              obtain rfl : b3 = true := hall ⟨3, .data⟩ (by simp) (by kernel_rfl)
              obtain rfl : b4 = true := hall ⟨4, .data⟩ (by simp) (by kernel_rfl)
              clear hall
              obtain rfl : b6 = false := Bool.eq_false_iff.2 fun h => Bool.false_ne_true (H.d6 h).2
              obtain rfl : b7 = false := Bool.eq_false_iff.2 fun h => Bool.false_ne_true (H.d7 h).2
              obtain rfl : b8 = false := Bool.eq_false_iff.2 fun h => Bool.false_ne_true (H.d8 h)
              obtain rfl : b9 = false := Bool.eq_false_iff.2 fun h => Bool.false_ne_true (H.d9 h)
              obtain rfl : b10 = false := Bool.eq_false_iff.2 fun h => Bool.false_ne_true (H.d10 h)
              obtain rfl : b11 = false := Bool.eq_false_iff.2 fun h => Bool.false_ne_true (H.d11 h).2.2.2.2.2.1
              obtain rfl : b12 = false := Bool.eq_false_iff.2 fun h => Bool.false_ne_true (H.d12 h).2.2.2.2.2.1
              have hbe := H.be
              have hx_t5 := H.t5
              have hx_t6 := H.t6
              obtain rfl := H.h3 rfl
              obtain rfl := H.h4 rfl
              refine wpOp_step ho (fun K' hK => ?_)
              have HK := Lib.hid hK
              clear hK ho
              go_simp
              exact HK.out _ _ ⟨_, _, _, _, _, _, _, _, _, _, _, _, _, _, _, _, _, _, _, _, _, _, _, _, _, _, rfl, rfl, ⟨hbe, H.d1, (fun _ => ⟨rfl, rfl⟩), (fun h => by cases h), H.d7, H.d8, H.d9, H.d10, (fun h => by cases h), (fun h => by cases h), H.t5, H.t6, H.h0, H.h1, H.h2, H.h3, H.h4, (fun _ => rfl), H.h6, (fun h => by cases h), (fun h => by cases h), (fun h => by cases h), H.h10, (fun h => by cases h), H.h12⟩⟩
            · have ho := hoj
              simp only [List.getElem?_toArray, List.getElem?_cons_succ, List.getElem?_cons_zero, Option.some.injEq] at hoj
              subst hoj
              obtain rfl : b6 = false := hun
              obtain rfl : b2 = true := hall ⟨2, .data⟩ (by simp) (by kernel_rfl)
              obtain rfl : b5 = true := hall ⟨5, .data⟩ (by simp) (by kernel_rfl)
              obtain rfl : b3 = true := (H.d5 rfl).1
              obtain rfl : b4 = true := (H.d5 rfl).2
              clear hall
              obtain rfl : b7 = false := Bool.eq_false_iff.2 fun h => Bool.false_ne_true (H.d7 h).2
              obtain rfl : b8 = false := Bool.eq_false_iff.2 fun h => Bool.false_ne_true (H.d8 h)
              obtain rfl : b9 = false := Bool.eq_false_iff.2 fun h => Bool.false_ne_true (H.d9 h)
              obtain rfl : b10 = false := Bool.eq_false_iff.2 fun h => Bool.false_ne_true (H.d10 h)
              obtain rfl : b11 = false := Bool.eq_false_iff.2 fun h => Bool.false_ne_true (H.d11 h).2.2.2.2.2.2.1
              obtain rfl : b12 = false := Bool.eq_false_iff.2 fun h => Bool.false_ne_true (H.d12 h).2.2.2.2.2.2.1
              have hbe := H.be
              have hx_t5 := H.t5
              have hx_t6 := H.t6
              obtain rfl := H.h2 rfl
              obtain rfl := H.h3 rfl
              obtain rfl := H.h4 rfl
              obtain rfl := H.h5 rfl
              refine wpOp_step ho (fun K' hK => ?_)
              have HK := Lib.hid hK
              clear hK ho
              go_wp2_with fail
              refine (HSP.out _).mono ?_
              rintro e w1 ⟨rfl, b1⟩
              have BC := Lib.hid b1
              clear b1
              go_wp2_with fail
              exact HK.out _ _ ⟨_, _, _, _, _, _, _, _, _, _, _, _, _, _, _, _, _, _, _, _, _, _, _, _, _, _, rfl, rfl, ⟨hbe.trans (BC.out.mono hbe.size), H.d1, H.d5, (fun _ => ⟨rfl, rfl⟩), (fun h => by cases h), H.d8, H.d9, H.d10, (fun h => by cases h), (fun h => by cases h), hx_t5, hx_t6, H.h0, H.h1, H.h2, H.h3, H.h4, H.h5, (fun _ => rfl), (fun h => by cases h), (fun h => by cases h), (fun h => by cases h), H.h10, (fun h => by cases h), H.h12⟩⟩
            · have ho := hoj
              simp only [List.getElem?_toArray, List.getElem?_cons_succ, List.getElem?_cons_zero, Option.some.injEq] at hoj
              subst hoj
              obtain rfl : b7 = false := hun
              obtain rfl : b1 = true := hall ⟨1, .data⟩ (by simp) (by kernel_rfl)
              obtain rfl : b6 = true := hall ⟨6, .data⟩ (by simp) (by kernel_rfl)
              obtain rfl : b0 = true := (H.d1 rfl)
              obtain rfl : b2 = true := (H.d6 rfl).1
              obtain rfl : b5 = true := (H.d6 rfl).2
              obtain rfl : b3 = true := (H.d5 rfl).1
              obtain rfl : b4 = true := (H.d5 rfl).2
              clear hall
              obtain rfl : b8 = false := Bool.eq_false_iff.2 fun h => Bool.false_ne_true (H.d8 h)
              obtain rfl : b9 = false := Bool.eq_false_iff.2 fun h => Bool.false_ne_true (H.d9 h)
              obtain rfl : b10 = false := Bool.eq_false_iff.2 fun h => Bool.false_ne_true (H.d10 h)
              obtain rfl : b11 = false := Bool.eq_false_iff.2 fun h => Bool.false_ne_true (H.d11 h).2.2.2.2.2.2.2.1
              obtain rfl : b12 = false := Bool.eq_false_iff.2 fun h => Bool.false_ne_true (H.d12 h).2.2.2.2.2.2.2.1
              have hbe := H.be
              have hx_t5 := H.t5
              have hx_t6 := H.t6
              obtain rfl := H.h0 rfl
              obtain rfl := H.h1 rfl
              obtain rfl := H.h2 rfl
              obtain rfl := H.h3 rfl
              obtain rfl := H.h4 rfl
              obtain rfl := H.h5 rfl
              obtain rfl := H.h6 rfl
              refine wpOp_step ho (fun K' hK => ?_)
              have HK := Lib.hid hK
              clear hK ho
              go_wp2_with fail
              refine (HHO.out _ hbe).mono ?_
              rintro e w1 ⟨u1, rfl, o1, b1⟩
              have BC := Lib.hid b1
              have OC := Lib.hid (own_lowR o1 hbe.size)
              clear b1 o1
              go_wp2_with fail
              exact HK.out _ _ ⟨_, _, _, _, _, _, _, _, _, _, _, _, _, _, _, _, _, _, _, _, _, _, _, _, _, _, rfl, rfl, ⟨hbe.trans (BC.out.mono hbe.size), H.d1, H.d5, H.d6, (fun _ => ⟨rfl, rfl⟩), (fun h => by cases h), H.d9, H.d10, (fun h => by cases h), (fun h => by cases h), fun _ => ⟨_, rfl⟩, hx_t6, H.h0, H.h1, H.h2, H.h3, H.h4, H.h5, H.h6, (fun _ => ⟨_, rfl, OC.out⟩), (fun h => by cases h), (fun h => by cases h), H.h10, (fun h => by cases h), H.h12⟩⟩
            · have ho := hoj
              simp only [List.getElem?_toArray, List.getElem?_cons_succ, List.getElem?_cons_zero, Option.some.injEq] at hoj
              subst hoj
              obtain rfl : b8 = false := hun
              obtain rfl : b7 = true := hall ⟨7, .data⟩ (by simp) (by kernel_rfl)
              obtain rfl : b1 = true := (H.d7 rfl).1
              obtain rfl : b6 = true := (H.d7 rfl).2
              obtain rfl : b0 = true := (H.d1 rfl)
              obtain rfl : b2 = true := (H.d6 rfl).1
              obtain rfl : b5 = true := (H.d6 rfl).2
              obtain rfl : b3 = true := (H.d5 rfl).1
              obtain rfl : b4 = true := (H.d5 rfl).2
              clear hall
              obtain rfl : b9 = false := Bool.eq_false_iff.2 fun h => Bool.false_ne_true (H.d9 h)
              obtain rfl : b10 = false := Bool.eq_false_iff.2 fun h => Bool.false_ne_true (H.d10 h)
              obtain rfl : b11 = false := Bool.eq_false_iff.2 fun h => Bool.false_ne_true (H.d11 h).2.2.2.2.2.2.2.2.1
              obtain rfl : b12 = false := Bool.eq_false_iff.2 fun h => Bool.false_ne_true (H.d12 h).2.2.2.2.2.2.2.2.1
              have hbe := H.be
              have hx_t5 := H.t5
              have hx_t6 := H.t6
              obtain rfl := H.h0 rfl
              obtain rfl := H.h1 rfl
              obtain rfl := H.h2 rfl
              obtain rfl := H.h3 rfl
              obtain rfl := H.h4 rfl
              obtain rfl := H.h5 rfl
              obtain rfl := H.h6 rfl
              have P7 := H.h7 rfl
              have PT := Lib.hid P7
              have TT := Lib.hid (H.t5 rfl)
              clear P7
              refine wpOp_step ho (fun K' hK => ?_)
              have HK := Lib.hid hK
              clear hK ho
              go_simp
              exact HK.out _ _ ⟨_, _, _, _, _, _, _, _, _, _, _, _, _, _, _, _, _, _, _, _, _, _, _, _, _, _, rfl, rfl, ⟨hbe, H.d1, H.d5, H.d6, H.d7, (fun _ => rfl), (fun h => by cases h), (fun h => by cases h), (fun h => by cases h), (fun h => by cases h), H.t5, fun _ => TT.out, H.h0, H.h1, H.h2, H.h3, H.h4, H.h5, H.h6, H.h7, (fun _ => PT.out), (fun h => by cases h), H.h10, (fun h => by cases h), H.h12⟩⟩
            · have ho := hoj
              simp only [List.getElem?_toArray, List.getElem?_cons_succ, List.getElem?_cons_zero, Option.some.injEq] at hoj
              subst hoj
              obtain rfl : b9 = false := hun
              obtain rfl : b8 = true := hall ⟨8, .data⟩ (by simp) (by kernel_rfl)
              obtain rfl : b7 = true := (H.d8 rfl)
              obtain rfl : b1 = true := (H.d7 rfl).1
              obtain rfl : b6 = true := (H.d7 rfl).2
              obtain rfl : b0 = true := (H.d1 rfl)
              obtain rfl : b2 = true := (H.d6 rfl).1
              obtain rfl : b5 = true := (H.d6 rfl).2
              obtain rfl : b3 = true := (H.d5 rfl).1
              obtain rfl : b4 = true := (H.d5 rfl).2
              clear hall
              obtain rfl : b11 = false := Bool.eq_false_iff.2 fun h => Bool.false_ne_true (H.d11 h).2.2.2.2.2.2.2.2.2
              obtain rfl : b12 = false := Bool.eq_false_iff.2 fun h => Bool.false_ne_true (H.d12 h).2.2.2.2.2.2.2.2.2.1
              have hbe := H.be
              have hx_t5 := H.t5
              have hx_t6 := H.t6
              obtain rfl := H.h0 rfl
              obtain rfl := H.h1 rfl
              obtain rfl := H.h2 rfl
              obtain rfl := H.h3 rfl
              obtain rfl := H.h4 rfl
              obtain rfl := H.h5 rfl
              obtain rfl := H.h6 rfl
              have P7 := H.h7 rfl
              have P8 := H.h8 rfl
              obtain ⟨u, rfl, hu⟩ := P8
              have HU := Lib.hid hu
              clear hu
              refine wpOp_step ho (fun K' hK => ?_)
              have HK := Lib.hid hK
              clear hK ho
              go_simp
              exact HK.out _ _ ⟨_, _, _, _, _, _, _, _, _, _, _, _, _, _, _, _, _, _, _, _, _, _, _, _, _, _, rfl, rfl, ⟨hbe, H.d1, H.d5, H.d6, H.d7, H.d8, (fun _ => rfl), H.d10, (fun h => by cases h), (fun h => by cases h), H.t5, H.t6, H.h0, H.h1, H.h2, H.h3, H.h4, H.h5, H.h6, H.h7, H.h8, (fun _ => HU.out), H.h10, (fun h => by cases h), H.h12⟩⟩
            · have ho := hoj
              simp only [List.getElem?_toArray, List.getElem?_cons_succ, List.getElem?_cons_zero, Option.some.injEq] at hoj
              subst hoj
              obtain rfl : b10 = false := hun
              obtain rfl : b8 = true := hall ⟨8, .data⟩ (by simp) (by kernel_rfl)
              obtain rfl : b7 = true := (H.d8 rfl)
              obtain rfl : b1 = true := (H.d7 rfl).1
              obtain rfl : b6 = true := (H.d7 rfl).2
              obtain rfl : b0 = true := (H.d1 rfl)
              obtain rfl : b2 = true := (H.d6 rfl).1
              obtain rfl : b5 = true := (H.d6 rfl).2
              obtain rfl : b3 = true := (H.d5 rfl).1
              obtain rfl : b4 = true := (H.d5 rfl).2
              clear hall
              obtain rfl : b12 = false := Bool.eq_false_iff.2 fun h => Bool.false_ne_true (H.d12 h).2.2.2.2.2.2.2.2.2.2.1
              have hbe := H.be
              have hx_t5 := H.t5
              have hx_t6 := H.t6
              obtain rfl := H.h0 rfl
              obtain rfl := H.h1 rfl
              obtain rfl := H.h2 rfl
              obtain rfl := H.h3 rfl
              obtain rfl := H.h4 rfl
              obtain rfl := H.h5 rfl
              obtain rfl := H.h6 rfl
              have P7 := H.h7 rfl
              have P8 := H.h8 rfl
              obtain ⟨u, rfl⟩ := H.t6 rfl
              refine wpOp_step ho (fun K' hK => ?_)
              have HK := Lib.hid hK
              clear hK ho
              go_simp
              exact HK.out _ _ ⟨_, _, _, _, _, _, _, _, _, _, _, _, _, _, _, _, _, _, _, _, _, _, _, _, _, _, rfl, rfl, ⟨hbe, H.d1, H.d5, H.d6, H.d7, H.d8, H.d9, (fun _ => rfl), H.d11, (fun h => by cases h), H.t5, H.t6, H.h0, H.h1, H.h2, H.h3, H.h4, H.h5, H.h6, H.h7, H.h8, H.h9, (fun _ => rfl), H.h11, H.h12⟩⟩
            · have ho := hoj
              simp only [List.getElem?_toArray, List.getElem?_cons_succ, List.getElem?_cons_zero, Option.some.injEq] at hoj
              subst hoj
              obtain rfl : b11 = false := hun
              obtain rfl : b0 = true := hall ⟨0, .phase⟩ (by simp) (by kernel_rfl)
              obtain rfl : b1 = true := hall ⟨1, .phase⟩ (by simp) (by kernel_rfl)
              obtain rfl : b2 = true := hall ⟨2, .phase⟩ (by simp) (by kernel_rfl)
              obtain rfl : b3 = true := hall ⟨3, .phase⟩ (by simp) (by kernel_rfl)
              obtain rfl : b4 = true := hall ⟨4, .phase⟩ (by simp) (by kernel_rfl)
              obtain rfl : b5 = true := hall ⟨5, .phase⟩ (by simp) (by kernel_rfl)
              obtain rfl : b6 = true := hall ⟨6, .phase⟩ (by simp) (by kernel_rfl)
              obtain rfl : b7 = true := hall ⟨7, .chain⟩ (by simp) (by kernel_rfl)
              obtain rfl : b8 = true := hall ⟨8, .phase⟩ (by simp) (by kernel_rfl)
              obtain rfl : b9 = true := hall ⟨9, .data⟩ (by simp) (by kernel_rfl)
              clear hall
              obtain rfl : b12 = false := Bool.eq_false_iff.2 fun h => Bool.false_ne_true (H.d12 h).2.2.2.2.2.2.2.2.2.2.2
              have hbe := H.be
              have hx_t5 := H.t5
              have hx_t6 := H.t6
              obtain rfl := H.h0 rfl
              obtain rfl := H.h1 rfl
              obtain rfl := H.h2 rfl
              obtain rfl := H.h3 rfl
              obtain rfl := H.h4 rfl
              obtain rfl := H.h5 rfl
              obtain rfl := H.h6 rfl
              have P7 := H.h7 rfl
              have P8 := H.h8 rfl
              have P9 := H.h9 rfl
              have PU := Lib.hid P9
              refine wpOp_step ho (fun K' hK => ?_)
              have HK := Lib.hid hK
              clear hK ho
              go_simp
              exact HK.out _ _ ⟨_, _, _, _, _, _, _, _, _, _, _, _, _, _, _, _, _, _, _, _, _, _, _, _, _, _, rfl, rfl, ⟨hbe, H.d1, H.d5, H.d6, H.d7, H.d8, H.d9, H.d10, (fun _ => ⟨rfl, rfl, rfl, rfl, rfl, rfl, rfl, rfl, rfl, rfl⟩), (fun h => by cases h), H.t5, H.t6, H.h0, H.h1, H.h2, H.h3, H.h4, H.h5, H.h6, H.h7, H.h8, H.h9, H.h10, (fun _ => PU.out), H.h12⟩⟩
            · have ho := hoj
              simp only [List.getElem?_toArray, List.getElem?_cons_succ, List.getElem?_cons_zero, Option.some.injEq] at hoj
              subst hoj
              obtain rfl : b12 = false := hun
              obtain rfl : b0 = true := hall ⟨0, .phase⟩ (by simp) (by kernel_rfl)
              obtain rfl : b1 = true := hall ⟨1, .phase⟩ (by simp) (by kernel_rfl)
              obtain rfl : b2 = true := hall ⟨2, .phase⟩ (by simp) (by kernel_rfl)
              obtain rfl : b3 = true := hall ⟨3, .phase⟩ (by simp) (by kernel_rfl)
              obtain rfl : b4 = true := hall ⟨4, .phase⟩ (by simp) (by kernel_rfl)
              obtain rfl : b5 = true := hall ⟨5, .phase⟩ (by simp) (by kernel_rfl)
              obtain rfl : b6 = true := hall ⟨6, .phase⟩ (by simp) (by kernel_rfl)
              obtain rfl : b7 = true := hall ⟨7, .phase⟩ (by simp) (by kernel_rfl)
              obtain rfl : b8 = true := hall ⟨8, .phase⟩ (by simp) (by kernel_rfl)
              obtain rfl : b9 = true := hall ⟨9, .phase⟩ (by simp) (by kernel_rfl)
              obtain rfl : b10 = true := hall ⟨10, .data⟩ (by simp) (by kernel_rfl)
              obtain rfl : b11 = true := hall ⟨11, .chain⟩ (by simp) (by kernel_rfl)
              clear hall
              have hbe := H.be
              have hx_t5 := H.t5
              have hx_t6 := H.t6
              obtain rfl := H.h0 rfl
              obtain rfl := H.h1 rfl
              obtain rfl := H.h2 rfl
              obtain rfl := H.h3 rfl
              obtain rfl := H.h4 rfl
              obtain rfl := H.h5 rfl
              obtain rfl := H.h6 rfl
              have P7 := H.h7 rfl
              have P8 := H.h8 rfl
              have P9 := H.h9 rfl
              obtain rfl := H.h10 rfl
              have P11 := H.h11 rfl
              refine wpOp_step ho (fun K' hK => ?_)
              have HK := Lib.hid hK
              clear hK ho
              go_simp
              exact HK.out _ _ ⟨_, _, _, _, _, _, _, _, _, _, _, _, _, _, _, _, _, _, _, _, _, _, _, _, _, _, rfl, rfl, ⟨hbe, H.d1, H.d5, H.d6, H.d7, H.d8, H.d9, H.d10, H.d11, (fun _ => ⟨rfl, rfl, rfl, rfl, rfl, rfl, rfl, rfl, rfl, rfl, rfl, rfl⟩), H.t5, H.t6, H.h0, H.h1, H.h2, H.h3, H.h4, H.h5, H.h6, H.h7, H.h8, H.h9, H.h10, H.h11, (fun _ => rfl)⟩⟩
            · have ho := hoj
              simp at ho
          case hfin =>
            rintro listed a w ⟨b0, b1, b2, b3, b4, b5, b6, b7, b8, b9, b10, b11, b12, x0, x1, x2, x3, x4, x5, x6, x7, x8, x9, x10, x11, x12, rfl, rfl, H⟩ hr
            have hb : b12 = true := by
              clear H
              obtain rfl : b0 = true := by
                cases b0
                · exact absurd hr (ready_ne (by kernel_rfl))
                · rfl
              obtain rfl : b1 = true := by
                cases b1
                · exact absurd hr (ready_ne (by kernel_rfl))
                · rfl
              obtain rfl : b2 = true := by
                cases b2
                · exact absurd hr (ready_ne (by kernel_rfl))
                · rfl
              obtain rfl : b3 = true := by
                cases b3
                · exact absurd hr (ready_ne (by kernel_rfl))
                · rfl
              obtain rfl : b4 = true := by
                cases b4
                · exact absurd hr (ready_ne (by kernel_rfl))
                · rfl
              obtain rfl : b5 = true := by
                cases b5
                · exact absurd hr (ready_ne (by kernel_rfl))
                · rfl
              obtain rfl : b6 = true := by
                cases b6
                · exact absurd hr (ready_ne (by kernel_rfl))
                · rfl
              obtain rfl : b7 = true := by
                cases b7
                · exact absurd hr (ready_ne (by kernel_rfl))
                · rfl
              obtain rfl : b8 = true := by
                cases b8
                · exact absurd hr (ready_ne (by kernel_rfl))
                · rfl
              obtain rfl : b9 = true := by
                cases b9
                · exact absurd hr (ready_ne (by kernel_rfl))
                · rfl
              obtain rfl : b10 = true := by
                cases b10
                · exact absurd hr (ready_ne (by kernel_rfl))
                · rfl
              obtain rfl : b11 = true := by
                cases b11
                · exact absurd hr (ready_ne (by kernel_rfl))
                · rfl
              obtain rfl : b12 = true := by
                cases b12
                · exact absurd hr (ready_ne (by kernel_rfl))
                · rfl
              rfl
            subst hb
            clear hr
            obtain rfl : b0 = true := (H.d12 rfl).1
            obtain rfl : b1 = true := (H.d12 rfl).2.1
            obtain rfl : b2 = true := (H.d12 rfl).2.2.1
            obtain rfl : b3 = true := (H.d12 rfl).2.2.2.1
            obtain rfl : b4 = true := (H.d12 rfl).2.2.2.2.1
            obtain rfl : b5 = true := (H.d12 rfl).2.2.2.2.2.1
            obtain rfl : b6 = true := (H.d12 rfl).2.2.2.2.2.2.1
            obtain rfl : b7 = true := (H.d12 rfl).2.2.2.2.2.2.2.1
            obtain rfl : b8 = true := (H.d12 rfl).2.2.2.2.2.2.2.2.1
            obtain rfl : b9 = true := (H.d12 rfl).2.2.2.2.2.2.2.2.2.1
            obtain rfl : b10 = true := (H.d12 rfl).2.2.2.2.2.2.2.2.2.2.1
            obtain rfl : b11 = true := (H.d12 rfl).2.2.2.2.2.2.2.2.2.2.2
            have o1 := H.h11 rfl
            have h12 := H.h12 rfl
            have hb := H.be
            clear H
            obtain ⟨A7, c7, e7, _, _, r7⟩ := id o1.slice
            subst e7
            go_wp2_with fail
            go_meet
            exact ⟨A7, c7, rfl, Lib.hid o1, Lib.hid hb⟩
        case rest =>
        obtain ⟨AH, cH, rfl, RH, BH⟩ := hcut
        obtain ⟨X1, hX1⟩ : ∃ x, x = wc := ⟨_, rfl⟩
        subst wc
        obtain ⟨nh, hnh⟩ : ∃ x, H1.length = x := ⟨_, rfl⟩
        have HNH := Lib.hid hnh
        rw [hnh] at hhl RH ⊢
        clear hnh
        have F3 := Lib.hid ((BH.out.block _ (lt_of_block FY2.out)).trans FY2.out)
        have Z3 := Lib.hid ((BH.out.block _ (lt_of_block ZY2.out)).trans ZY2.out)
        have OD3 := Lib.hid (own_later2 ODY.out BH.out)
        have OL3 := Lib.hid (own_later2 OLY.out BH.out)
        have OA3 := Lib.hid (own_later2 OAY.out BH.out)
        have B3 := Lib.hid (BY2.out.trans (BH.out.mono BY2.out.size))
        have hsX := BH.out.size
        have hwX : w.heap.size < X1.heap.size := lt_of_block F3.out
        have hwX0 : w.heap.size < X0.heap.size := lt_of_block FY2.out
        have hwX1 : w1.heap.size ≤ X1.heap.size := by omega
        clear hac ham HHO HSP FX
        go_wp2_with fail
        go_loopg [41] nh (fun g i wr => ∃ (k : Nat) (Al : Option Addr) (cl : Nat), k + g = nh ∧ i = .int .i64 k ∧ X1.heap.size ≤ wr.heap.size ∧ Hid (OwnR wr X0.heap.size 63 (.slice AH nh cH) H1) ∧ Hid (wr.heap[w.heap.size]? = some (.cells #[.slice Ad s.data.length cd, .bool s.fin, .int .i64 s.next, .int .i64 s.mx, .slice Al (addL (H1.take k) s.lost).length cl, .slice Aa s.acked.length ca, .bool s.ended, .bool s.over] 27 (0, 0))) ∧ Hid (wr.heap[w.heap.size + 1]? = some (.cells #[.slice none 0 0, .bool false, .int .i64 0, .int .i64 0, .slice none 0 0, .slice none 0 0, .bool false, .bool false] 27 (0, 0))) ∧ Hid (Below w.heap.size w wr) ∧ Hid (wr.ownsRow w1.heap.size 5 1 (.slice Ad s.data.length cd) s.data.length (s.data.map (.int .u8))) ∧ Hid (OwnR wr w1.heap.size 63 (.slice Al (addL (H1.take k) s.lost).length cl) ((addL (H1.take k) s.lost))) ∧ Hid (OwnR wr w1.heap.size 63 (.slice Aa s.acked.length ca) s.acked))
        case atStart => exact ⟨0, Al, cl, by omega, rfl, Nat.le_refl _, RH, F3, Z3, B3, OD3, OL3, OA3⟩
        case round =>
          obtain ⟨k, Ak, ck, hk, rfl, hsz, RK, FK, ZK, BK, ODK, OLK, OAK⟩ := hrel
          by_cases hlt : k < nh
          · have rRK : RRow wr wr.heap.size AH H1 := by
              obtain ⟨A', c', e', _, _, r'⟩ := OwnR.slice RK.out
              injection e' with e1 e2 e3
              rw [e1]; exact r'
            obtain ⟨b, o, rfl, hbb, hc⟩ := rRK (by rw [HNH.out]; omega)
            obtain ⟨c0, c1⟩ := hc k (by rw [HNH.out]; omega)
            have pk := HOH.out _ (getR_mem H1 k (by rw [HNH.out]; omega))
            have HSN := Lib.hid (addL_snoc H1 s.lost k (by rw [HNH.out]; omega))
            have ka := addL_ok (H1.take k) KL.out (fun x hx => HOH.out x (List.mem_of_mem_take hx))
            have kl := addL_len (H1.take k) s.lost
            rw [List.length_take, HNH.out] at kl
            have KOK := Lib.hid ka.1
            obtain ⟨Lk, hLk⟩ : ∃ x, addL (H1.take k) s.lost = x := ⟨_, rfl⟩
            rw [hLk] at FK OLK HSN KOK kl
            obtain ⟨⟨plo, phi⟩, hp⟩ : ∃ p, H1.getD k (0, 0) = p := ⟨_, rfl⟩
            rw [hp] at c0 c1 HSN pk
            simp only at c0 c1
            have i1 : (k : Int) < (nh : Int) := by omega
            have X4 := (Below.refl wr.heap.size wr).alloc (Nat.le_refl _) (.cells #[.int .i64 plo, .int .i64 phi] 63)
            have V4 := Lib.hid (heap_alloc_new wr (.cells #[.int .i64 plo, .int .i64 phi] 63))
            obtain ⟨Y4, hY4⟩ : ∃ x, wr.alloc (.cells #[.int .i64 plo, .int .i64 phi] 63) = x := ⟨_, rfl⟩
            rw [hY4] at X4 V4
            have XX := Lib.hid X4
            have F4 := Lib.hid ((XX.out.block _ (lt_of_block FK.out)).trans FK.out)
            have Z4 := Lib.hid ((XX.out.block _ (lt_of_block ZK.out)).trans ZK.out)
            have OD4 := Lib.hid (own_later2 ODK.out XX.out)
            have OL4 := Lib.hid (own_later2 OLK.out XX.out)
            have OA4 := Lib.hid (own_later2 OAK.out XX.out)
            have B4 := Lib.hid (BK.out.trans (XX.out.mono BK.out.size))
            have RK4 := Lib.hid (own_later2 RK.out XX.out)
            obtain ⟨_, _, el, hlc, hlm, hlr⟩ := OwnR.slice OL4.out
            cases el
            have HAD := Lib.hid (add_own Ak Lk.length ck Lk plo phi Y4 hlr rfl KOK.out pk (by omega) hlc hlm)
            rw [← HSN.out] at HAD
            have hs4 : w1.heap.size ≤ Y4.heap.size := by have := XX.out.size; omega
            have hsY4 := XX.out.size
            have hwr : w.heap.size < wr.heap.size := lt_of_block FK.out
            clear hc hp hLk ka kl X4 pk hlr hlc hlm
            obtain ⟨q0, q1, q2, q3, q4, q5, q6, q7⟩ := bkS F4.out
            have m0 := bk_cell V4.out 0
            have m1 := bk_cell V4.out 1
            simp only [List.getElem?_toArray, List.getElem?_cons_zero, List.getElem?_cons_succ] at m0 m1
            go_wp2_with fail
            refine HAD.out.mono ?_
            rintro e w5 ⟨u5, rfl, o5, b5⟩
            obtain ⟨Lm, hLm⟩ : ∃ x, addL (H1.take (k + 1)) s.lost = x := ⟨_, rfl⟩
            rw [hLm] at o5
            obtain ⟨A5, c5, hu5, _, _, _⟩ := o5.slice
            subst hu5
            have O5 := Lib.hid (own_lowR o5 hs4)
            have F5 := Lib.hid ((b5.block _ (lt_of_block F4.out)).trans F4.out)
            have Z5 := Lib.hid ((b5.block _ (lt_of_block Z4.out)).trans Z4.out)
            have OD5 := Lib.hid (own_later2 OD4.out b5)
            have OA5 := Lib.hid (own_later2 OA4.out b5)
            have B5 := Lib.hid (B4.out.trans (b5.mono B4.out.size))
            have RK5 := Lib.hid (own_later2 RK4.out b5)
            have hs5 := b5.size
            clear b5 o5 q0 q1 q2 q3 q4 q5 q6 q7 m0 m1 hY4 c0 c1
            obtain ⟨q0, q1, q2, q3, q4, q5, q6, q7⟩ := bkS F5.out
            have qf := fun i => bk_frz F5.out i
            obtain ⟨Y6, hY6⟩ : ∃ x, w5.setCell ⟨w.heap.size, 4, none⟩ (.slice A5 Lm.length c5) = x := ⟨_, rfl⟩
            have gg6 := gr_set w5 w.heap.size 4 (.slice A5 Lm.length c5)
            have FX6 := (bkS_set F5.out (.slice A5 Lm.length c5)).2.2.2.2.1
            rw [hY6] at gg6 FX6
            have FY6 := Lib.hid FX6
            have ZY6 := Lib.hid ((gg6.block _ (lt_of_block Z5.out) (by simp)).trans Z5.out)
            have OD6 := Lib.hid (own_gr OD5.out gg6 (by omega))
            have OL6 := Lib.hid (own_gr O5.out gg6 (by omega))
            have OA6 := Lib.hid (own_gr OA5.out gg6 (by omega))
            have BY6 := Lib.hid (gr_from B5.out B5.out.size (Nat.le_refl _) gg6)
            have RK6 := Lib.hid (own_gr RK5.out gg6 hwX0)
            have hsg6 := gg6.size
            clear gg6 FX6
            go_wp2_with fail
            go_roundg (gk - 1)
            case measure => omega
            case rel =>
              subst hLm
              exact ⟨k + 1, A5, c5, by omega, by first | rfl | go_num, by omega, RK6, FY6, ZY6, BY6, OD6, OL6, OA6⟩
          · have e : H1.take k = H1 := List.take_of_length_le (by rw [HNH.out]; omega)
            rw [e, E1.out] at FK OLK
            clear e
            obtain ⟨q0, q1, q2, q3, q4, q5, q6, q7⟩ := bkS FK.out
            have i1 : ¬ (k : Int) < (nh : Int) := by omega
            go_wp2_with fail
            go_meet
            exact ⟨Ak, ck, FK, ZK, BK, ODK, OLK, OAK⟩
    case rest =>
    obtain ⟨Al, cl, F9, Z9, B9, OD9, OL9, OA9⟩ := hcut
    cases fin with
    | false =>
      obtain ⟨z0, z1, z2, z3, z4, z5, z6, z7⟩ := bkS Z9.out
      obtain ⟨k0, k1, k2, k3, k4, k5, k6, k7⟩ := bkS F9.out
      have zf := fun i => bk_frz Z9.out i
      go_wp2_with fail
      obtain ⟨RY, gp⟩ := bkS_put Z9.out (.slice Ad s.data.length cd) (.bool s.fin) (.int .i64 s.next) (.int .i64 s.mx) (.slice Al L1.length cl) (.slice Aa s.acked.length ca) (.bool s.ended) (.bool s.over)
      obtain ⟨r0, r1, r2, r3, r4, r5, r6, r7⟩ := bkS RY
      refine bodyPost_ret (by simp [results, Try.results12, go_sem, r0, r1, r2, r3, r4, r5, r6, r7]; try rfl) rfl ?_
      have hsn := snf_own (s := { s with lost := L1 }) (own_gr OD9.out gp (by omega)) HBY.out (own_gr OL9.out gp (by omega)) (own_gr OA9.out gp (by omega)) (lo := w.heap.size) (by omega)
      exact ⟨gr_from B9.out B9.out.size (Nat.le_succ _) gp, _, rfl, by simpa using hsn⟩
    | true =>
      obtain ⟨k0, k1, k2, k3, k4, k5, k6, k7⟩ := bkS F9.out
      have kf := fun i => bk_frz F9.out i
      obtain ⟨Y10, hY10⟩ : ∃ x, wc.setCell ⟨w.heap.size, 6, none⟩ (.bool false) = x := ⟨_, rfl⟩
      have gg10 := gr_set wc w.heap.size 6 (.bool false)
      have FX10 := (bkS_set F9.out (.bool false)).2.2.2.2.2.2.1
      rw [hY10] at gg10 FX10
      have FY10 := Lib.hid FX10
      have ZY10 := Lib.hid ((gg10.block _ (lt_of_block Z9.out) (by simp)).trans Z9.out)
      have OD10 := Lib.hid (own_gr OD9.out gg10 (by omega))
      have OL10 := Lib.hid (own_gr OL9.out gg10 (by omega))
      have OA10 := Lib.hid (own_gr OA9.out gg10 (by omega))
      have BY10 := Lib.hid (gr_from B9.out B9.out.size (Nat.le_refl _) gg10)
      clear gg10 FX10
      obtain ⟨u0, u1, u2, u3, u4, u5, u6, u7⟩ := bkS FY10.out
      have zf := fun i => bk_frz ZY10.out i
      obtain ⟨z0, z1, z2, z3, z4, z5, z6, z7⟩ := bkS ZY10.out
      go_wp2_with fail
      obtain ⟨RY, gp⟩ := bkS_put ZY10.out (.slice Ad s.data.length cd) (.bool s.fin) (.int .i64 s.next) (.int .i64 s.mx) (.slice Al L1.length cl) (.slice Aa s.acked.length ca) (.bool false) (.bool s.over)
      obtain ⟨r0, r1, r2, r3, r4, r5, r6, r7⟩ := bkS RY
      refine bodyPost_ret (by simp [results, Try.results12, go_sem, r0, r1, r2, r3, r4, r5, r6, r7]; try rfl) rfl ?_
      have hsn := snf_own (s := { s with lost := L1, ended := false, over := s.over }) (own_gr OD10.out gp (by omega)) HBY.out (own_gr OL10.out gp (by omega)) (own_gr OA10.out gp (by omega)) (lo := w.heap.size) (by omega)
      exact ⟨gr_from BY10.out BY10.out.size (Nat.le_succ _) gp, _, rfl, by simpa using hsn⟩
  · rw [if_pos hf]
    clear hv hw hd hl ha HC g0 g1 g2
    obtain ⟨x, hx⟩ : ∃ x, partF s off n fin = x := ⟨_, rfl⟩
    rw [hx] at HF hf ⊢
    have gx : (x != 0) = true := by simp [hf]
    clear hx hf
    go_enter Try.func12, Try.ntmps12
    go_wp2_with (first
      | (go_at_call 31; refine (HF.out _ B0.out).mono ?_; rintro e w1 ⟨rfl, b1⟩; have B1 := Lib.hid (B0.out.trans (b1.mono B0.out.size)); have F1 := Lib.hid ((b1.block _ (lt_of_block F0.out)).trans F0.out); have Z1 := Lib.hid ((b1.block _ (lt_of_block Z0.out)).trans Z0.out); clear b1; obtain ⟨q0, q1, q2, q3, q4, q5, q6, q7⟩ := bkS F1.out; obtain ⟨z0, z1, z2, z3, z4, z5, z6, z7⟩ := bkS Z1.out; have zf := fun i => bk_frz Z1.out i))
    obtain ⟨RY, gp⟩ := bkS_put Z1.out (.slice none 0 0) (.bool false) (.int .i64 0) (.int .i64 0) (.slice none 0 0) (.slice none 0 0) (.bool false) (.bool false)
    obtain ⟨r0, r1, r2, r3, r4, r5, r6, r7⟩ := bkS RY
    refine bodyPost_ret (by simp [results, Try.results12, go_sem, r0, r1, r2, r3, r4, r5, r6, r7]; try rfl) rfl ?_
    exact ⟨gr_from B1.out B1.out.size (Nat.le_succ _) gp, _, rfl, SnF.nil _ _⟩
theorem snLose_any : SnLs Try.prog 12 := fun v s off n fin w hv hw hn => (snLose_F v s off n fin w hv hw hn).mono fun _ _ h => h.toRes
end Go.Proofs.Ytnccibaifffhhaa
