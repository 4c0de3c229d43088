/- Contract of package sender: Write. -/
import Derived.Test.YtnccibaifffhhaaSnGrant
namespace Go.Proofs.Ytnccibaifffhhaa
set_option linter.unusedVariables false
open Go.RowKit P

set_option maxRecDepth 100000 in
set_option maxHeartbeats 1000000 in
theorem snWrite_F (v v2 : Value) (s : Sn) (b : List Int) (fin : Bool) (w : World) (hv : SnVal w w.heap.size v s) (hw : SnWf s) (hv2 : BSl w w.heap.size v2 b) (hbl : b.length ≤ 1048576) : Calls Try.prog 9 #[v, v2, .bool fin] w (SnResF (wrS s b fin) w) := by
  obtain ⟨d, l, a, rfl, hd, hl, ha⟩ := hv.ex
  obtain ⟨A0, c0, rfl, _, _, _, _⟩ := id hd.ex
  obtain ⟨g0, g1, g2⟩ := twoX w #[.slice A0 s.data.length c0, .bool s.fin, .int .i64 s.next, .int .i64 s.mx, l, a, .bool s.ended, .bool s.over] #[.slice none 0 0, .bool false, .int .i64 0, .int .i64 0, .slice none 0 0, .slice none 0 0, .bool false, .bool false] 27 27
  have F0 := Lib.hid g0
  have Z0 := Lib.hid g1
  have B0 := Lib.hid g2
  have HF := Lib.hid (fun w' (hb : Below w.heap.size w w') => snChk_any _ s w' (hv.on hb) hw)
  have HC := Lib.hid (fun w' (hb : Below w.heap.size w w') => sncopied_any _ s w' (hv.on hb) hw)
  obtain ⟨Ab, cb, rfl, hbc, hbm, hbn, hbr⟩ := hv2.ex
  have HB2 := Lib.hid hbr
  have HBN := Lib.hid hbn
  unfold wrS
  by_cases hf : faultSn s = 0
  · have hdl := ((fault_iff s).1 hf).1
    obtain ⟨fi, hfi⟩ : ∃ x, s.fin = x := ⟨_, rfl⟩
    have HFI := Lib.hid hfi
    obtain ⟨nb, hnb⟩ : ∃ n, b.length = n := ⟨_, rfl⟩
    have HNB := Lib.hid hnb
    rw [hnb] at hbl hbc ⊢
    rw [hfi] at HF HC F0 Z0 B0 ⊢
    clear hv hw hd hl ha g0 g1 g2 hv2 hbr hbn hfi hnb hbc
    rw [if_neg (fun e => e hf)]
    rw [hf] at HF
    clear hf
    cases fi with
    | true =>
      rw [if_pos rfl]
      clear HC
      go_enter Try.func9, Try.ntmps9
      go_wp2_with (first
        | (go_at_call 14; refine (HF.out _ B0.out).mono ?_; rintro e w1 ⟨rfl, b1⟩; have B1 := Lib.hid (B0.out.trans (b1.mono B0.out.size)); have F1 := Lib.hid ((b1.block _ (lt_of_block F0.out)).trans F0.out); have Z1 := Lib.hid ((b1.block _ (lt_of_block Z0.out)).trans Z0.out); clear b1; obtain ⟨q0, q1, q2, q3, q4, q5, q6, q7⟩ := bkS F1.out; obtain ⟨z0, z1, z2, z3, z4, z5, z6, z7⟩ := bkS Z1.out; have zf := fun i => bk_frz Z1.out i))
      obtain ⟨RY, gp⟩ := bkS_put Z1.out (.slice none 0 0) (.bool false) (.int .i64 0) (.int .i64 0) (.slice none 0 0) (.slice none 0 0) (.bool false) (.bool false)
      obtain ⟨r0, r1, r2, r3, r4, r5, r6, r7⟩ := bkS RY
      refine bodyPost_ret (by simp [results, Try.results9, go_sem, r0, r1, r2, r3, r4, r5, r6, r7]; try rfl) rfl ?_
      exact ⟨gr_from B1.out B1.out.size (Nat.le_succ _) gp, _, rfl, SnF.nil _ _⟩
    | false =>
      rw [if_neg (by decide)]
      have hwr : IntKind.i64.wrap (600 - (s.data.length : Int)) = 600 - (s.data.length : Int) := by rw [IntKind.wrap_i64]; omega
      by_cases a1 : 600 < s.data.length + nb
      · rw [if_pos a1]
        have a2 : 600 - (s.data.length : Int) < (nb : Int) := by omega
        clear HC
        go_enter Try.func9, Try.ntmps9
        go_wp2_with (first
          | (go_at_call 14; refine (HF.out _ B0.out).mono ?_; rintro e w1 ⟨rfl, b1⟩; have B1 := Lib.hid (B0.out.trans (b1.mono B0.out.size)); have F1 := Lib.hid ((b1.block _ (lt_of_block F0.out)).trans F0.out); have Z1 := Lib.hid ((b1.block _ (lt_of_block Z0.out)).trans Z0.out); clear b1; obtain ⟨q0, q1, q2, q3, q4, q5, q6, q7⟩ := bkS F1.out; obtain ⟨z0, z1, z2, z3, z4, z5, z6, z7⟩ := bkS Z1.out; have zf := fun i => bk_frz Z1.out i))
        obtain ⟨RY, gp⟩ := bkS_put Z1.out (.slice none 0 0) (.bool false) (.int .i64 0) (.int .i64 0) (.slice none 0 0) (.slice none 0 0) (.bool false) (.bool false)
        obtain ⟨r0, r1, r2, r3, r4, r5, r6, r7⟩ := bkS RY
        refine bodyPost_ret (by simp [results, Try.results9, go_sem, r0, r1, r2, r3, r4, r5, r6, r7]; try rfl) rfl ?_
        exact ⟨gr_from B1.out B1.out.size (Nat.le_succ _) gp, _, rfl, SnF.nil _ _⟩
      · rw [if_neg a1]
        have a2 : ¬ 600 - (s.data.length : Int) < (nb : Int) := by omega
        obtain ⟨i0, hi0, hz0, hz1, hz2⟩ := info_parts infoB1
        have HI := Lib.hid hi0
        have HZ := Lib.hid hz0
        have HZ1 := Lib.hid hz1
        have HZ2 := Lib.hid hz2
        clear hi0 hz0 hz1 hz2
        go_enter Try.func9, Try.ntmps9
        go_wp2_with (first
          | (go_at_call 14; refine (HF.out _ B0.out).mono ?_; rintro e w1 ⟨rfl, b1⟩; have B1 := Lib.hid (B0.out.trans (b1.mono B0.out.size)); have F1 := Lib.hid ((b1.block _ (lt_of_block F0.out)).trans F0.out); have Z1 := Lib.hid ((b1.block _ (lt_of_block Z0.out)).trans Z0.out); clear b1; obtain ⟨q0, q1, q2, q3, q4, q5, q6, q7⟩ := bkS F1.out; obtain ⟨z0, z1, z2, z3, z4, z5, z6, z7⟩ := bkS Z1.out; have zf := fun i => bk_frz Z1.out i))
        refine (HC.out _ B1.out).mono ?_
        rintro e w2 ⟨u2, rfl, o2, b2⟩
        obtain ⟨d2, l2, a2, rfl, od, oby, ol, oa, oap⟩ := o2.ex
        obtain ⟨Ad, cd, hd2, _, _, _, _⟩ := (own_bsl od oby).ex
        obtain ⟨Al, cl, hl2, _, _, _⟩ := ol.slice
        obtain ⟨Aa, ca, ha2, _, _, _⟩ := oa.slice
        have OD := Lib.hid od
        have OL := Lib.hid ol
        have OA := Lib.hid oa
        have OAP := Lib.hid oap
        have HBY := Lib.hid oby
        have B2 := Lib.hid (B1.out.trans (b2.mono B1.out.size))
        have F2 := Lib.hid ((b2.block _ (lt_of_block F1.out)).trans F1.out)
        have Z2 := Lib.hid ((b2.block _ (lt_of_block Z1.out)).trans Z1.out)
        have hw1 := lt_of_block Z1.out
        have hsz12 := b2.size
        subst hd2 hl2 ha2
        clear b2 od oby ol oa oap o2 q0 q1 q2 q3 q4 q5 q6 q7 z0 z1 z2 z3 z4 z5 z6 z7 zf
        obtain ⟨q0, q1, q2, q3, q4, q5, q6, q7⟩ := bkS F2.out
        have qf := fun i => bk_frz F2.out i
        obtain ⟨FX, gx⟩ := bkS_put F2.out (.slice Ad s.data.length cd) (.bool s.fin) (.int .i64 s.next) (.int .i64 s.mx) (.slice Al s.lost.length cl) (.slice Aa s.acked.length ca) (.bool s.ended) (.bool s.over)
        obtain ⟨Y2, hY2⟩ : ∃ x, ((((((((w2.setCell ⟨w.heap.size, 0, none⟩ (.slice Ad s.data.length cd)).setCell ⟨w.heap.size, 1, none⟩ (.bool s.fin)).setCell ⟨w.heap.size, 2, none⟩ (.int .i64 s.next)).setCell ⟨w.heap.size, 3, none⟩ (.int .i64 s.mx)).setCell ⟨w.heap.size, 4, none⟩ (.slice Al s.lost.length cl)).setCell ⟨w.heap.size, 5, none⟩ (.slice Aa s.acked.length ca)).setCell ⟨w.heap.size, 6, none⟩ (.bool s.ended)).setCell ⟨w.heap.size, 7, none⟩ (.bool s.over)) = x := ⟨_, rfl⟩
        rw [hY2] at FX gx
        have FY2 := Lib.hid FX
        have ZY2 := Lib.hid ((gx.block _ (lt_of_block Z2.out) (by simp)).trans Z2.out)
        have ODY := Lib.hid (own_gr OD.out gx (by omega))
        have OLY := Lib.hid (own_gr OL.out gx (by omega))
        have OAY := Lib.hid (own_gr OA.out gx (by omega))
        have BY2 := Lib.hid (gr_from B2.out B2.out.size (Nat.le_refl _) gx)
        have hsz2Y := gx.size
        clear FX gx
        obtain ⟨p0, p1, p2, p3, p4, p5, p6, p7⟩ := bkS FY2.out
        have pf := fun i => bk_frz FY2.out i
        go_wp2_with (first
          | (at_builtin
             refine wpList_app _ rfl (.tmp 31) (.tmp 32) _ rfl w1.heap.size 5 i0 Try.underlying23 HI.out HZ.out HZ1.out HZ2.out (.slice Ad s.data.length cd) s.data.length (s.data.map (.int .u8)) rfl ODY.out w.heap.size Ab nb cb b rfl (HB2.out.below BY2.out) HNB.out HBN.out (by omega) (Nat.le_trans hsz12 hsz2Y) ?_
             intro v3 w3 own3 g3 _
             have L3 := Lib.hid (fun k hk => (ODY.out.lt k hk).1)
             have F3 := Lib.hid ((g3.block _ (lt_of_block FY2.out) (fun e => by have := L3.out _ e.symm; omega)).trans FY2.out)
             have Z3 := Lib.hid ((g3.block _ (lt_of_block ZY2.out) (fun e => by have := L3.out _ e.symm; omega)).trans ZY2.out)
             have OL3 := Lib.hid (World.ownsRow.kept OLY.out g3 (by
               cases hq : (Value.slice Al s.lost.length cl).ownBlock with
               | none => exact .inl rfl
               | some k => exact .inr fun e2 => (OAP.out k e2.symm).1 hq))
             have OA3 := Lib.hid (World.ownsRow.kept OAY.out g3 (by
               cases hq : (Value.slice Aa s.acked.length ca).ownBlock with
               | none => exact .inl rfl
               | some k => exact .inr fun e2 => (OAP.out k e2.symm).2 hq))
             have B3 := Lib.hid (BY2.out.grown g3 BY2.out.size (fun k hk => by have := L3.out k hk; omega))
             rw [← List.map_append] at own3
             have HBZ := Lib.hid (HBY.out.append HB2.out.1)
             obtain ⟨zz, hzz⟩ : ∃ x, s.data ++ b = x := ⟨_, rfl⟩
             rw [hzz] at own3 HBZ
             have hzl : zz.length = s.data.length + nb := by rw [← hzz, List.length_append, HNB.out]
             rw [← hzl] at own3
             obtain ⟨A3, c3, hv3, _, _, _, _⟩ := (own_bsl own3 HBZ.out).ex
             subst hv3
             have OD3 := Lib.hid own3
             have HZZ := Lib.hid hzz
             clear own3 g3 hzz hzl p0 p1 p2 p3 p4 p5 p6 p7 pf hY2 qf q0 q1 q2 q3 q4 q5 q6 q7
             obtain ⟨p0, p1, p2, p3, p4, p5, p6, p7⟩ := bkS F3.out
             have pf := fun i => bk_frz F3.out i
             obtain ⟨Y3, hY3⟩ : ∃ x, w3.setCell ⟨w.heap.size, 0, none⟩ (.slice A3 zz.length c3) = x := ⟨_, rfl⟩
             have g3 := gr_set w3 w.heap.size 0 (.slice A3 zz.length c3)
             have FY3 := Lib.hid ((bkS_set F3.out (.slice A3 zz.length c3)).1)
             rw [hY3] at g3 FY3
             have ZY3 := Lib.hid ((g3.block _ (lt_of_block Z3.out) (by simp)).trans Z3.out)
             have ODY3 := Lib.hid (own_gr OD3.out g3 (by omega))
             have OLY3 := Lib.hid (own_gr OL3.out g3 (by omega))
             have OAY3 := Lib.hid (own_gr OA3.out g3 (by omega))
             have BY3 := Lib.hid (gr_from B3.out B3.out.size (Nat.le_refl _) g3)
             obtain ⟨t0, t1, t2, t3, t4, t5, t6, t7⟩ := bkS FY3.out
             have tf := fun i => bk_frz FY3.out i
             obtain ⟨Y4, hY4⟩ : ∃ x, Y3.setCell ⟨w.heap.size, 1, none⟩ (.bool fin) = x := ⟨_, rfl⟩
             have g4 := gr_set Y3 w.heap.size 1 (.bool fin)
             have FY4 := Lib.hid ((bkS_set FY3.out (.bool fin)).2.1)
             rw [hY4] at g4 FY4
             have ZY4 := Lib.hid ((g4.block _ (lt_of_block ZY3.out) (by simp)).trans ZY3.out)
             have OD4 := Lib.hid (own_gr ODY3.out g4 (by omega))
             have OL4 := Lib.hid (own_gr OLY3.out g4 (by omega))
             have OA4 := Lib.hid (own_gr OAY3.out g4 (by omega))
             have BY4 := Lib.hid (gr_from BY3.out BY3.out.size (Nat.le_refl _) g4)
             clear g3 g4
             obtain ⟨q0, q1, q2, q3, q4, q5, q6, q7⟩ := bkS FY4.out
             obtain ⟨z0, z1, z2, z3, z4, z5, z6, z7⟩ := bkS ZY4.out
             have zf := fun i => bk_frz ZY4.out i))
        obtain ⟨RY, gp⟩ := bkS_put ZY4.out (.slice A3 zz.length c3) (.bool fin) (.int .i64 s.next) (.int .i64 s.mx) (.slice Al s.lost.length cl) (.slice Aa s.acked.length ca) (.bool s.ended) (.bool s.over)
        obtain ⟨r0, r1, r2, r3, r4, r5, r6, r7⟩ := bkS RY
        refine bodyPost_ret (by simp [results, Try.results9, go_sem, r0, r1, r2, r3, r4, r5, r6, r7]; try rfl) rfl ?_
        have hsn := snf_own (s := { s with data := zz, fin := fin }) (own_gr OD4.out gp (by omega)) HBZ.out (own_gr OL4.out gp (by omega)) (own_gr OA4.out gp (by omega)) (lo := w.heap.size) (by omega)
        obtain rfl := HZZ.out
        exact ⟨gr_from BY4.out BY4.out.size (Nat.le_succ _) gp, _, rfl, hsn⟩
  · rw [if_pos hf]
    clear hv hw hd hl ha HC g0 g1 g2
    obtain ⟨x, hx⟩ : ∃ x, faultSn s = x := ⟨_, rfl⟩
    rw [hx] at HF hf ⊢
    have gx : (x != 0) = true := by simp [hf]
    clear hx hf
    go_enter Try.func9, Try.ntmps9
    go_wp2_with (first
      | (go_at_call 14; refine (HF.out _ B0.out).mono ?_; rintro e w1 ⟨rfl, b1⟩; have B1 := Lib.hid (B0.out.trans (b1.mono B0.out.size)); have F1 := Lib.hid ((b1.block _ (lt_of_block F0.out)).trans F0.out); have Z1 := Lib.hid ((b1.block _ (lt_of_block Z0.out)).trans Z0.out); clear b1; obtain ⟨q0, q1, q2, q3, q4, q5, q6, q7⟩ := bkS F1.out; obtain ⟨z0, z1, z2, z3, z4, z5, z6, z7⟩ := bkS Z1.out; have zf := fun i => bk_frz Z1.out i))
    obtain ⟨RY, gp⟩ := bkS_put Z1.out (.slice none 0 0) (.bool false) (.int .i64 0) (.int .i64 0) (.slice none 0 0) (.slice none 0 0) (.bool false) (.bool false)
    obtain ⟨r0, r1, r2, r3, r4, r5, r6, r7⟩ := bkS RY
    refine bodyPost_ret (by simp [results, Try.results9, go_sem, r0, r1, r2, r3, r4, r5, r6, r7]; try rfl) rfl ?_
    exact ⟨gr_from B1.out B1.out.size (Nat.le_succ _) gp, _, rfl, SnF.nil _ _⟩
theorem snWrite_any : SnWr Try.prog 9 := fun v v2 s b fin w hv hw hv2 hb => (snWrite_F v v2 s b fin w hv hw hv2 hb).mono fun _ _ h => h.toRes
end Go.Proofs.Ytnccibaifffhhaa
