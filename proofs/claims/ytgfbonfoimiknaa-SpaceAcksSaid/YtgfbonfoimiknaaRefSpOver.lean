/- The document's answers on spaces: SpaceOverdue. -/
import Derived.Test.YtgfbonfoimiknaaRefSpQuiet
import Derived.Test.YtgfbonfoimiknaaSpOver
namespace Go.Proofs.Ytgfbonfoimiknaa
set_option linter.unusedVariables false
open Go.RowKit P

theorem pl_fin {w : World} {base n c : Nat} {A : Option Addr} {css : List (Cells 4)} {ps : List Pcl} (h : OwnE pc4 w base 77 (.slice A n c) css) (ha : All2 (PcC w w.heap.size) css ps) : PlSl w w.heap.size (.slice A n c) ps := by
  obtain ⟨A', c', e, h1, h2, hr⟩ := h.slice
  injection e with e1 e2 e3
  subst e1 e3
  exact ⟨A, c, css, by rw [e2, ha.len], by rw [← ha.len]; exact h1, h2, hr, ha⟩
set_option maxRecDepth 100000 in
set_option maxHeartbeats 2000000 in
theorem refSpOver_any (v : Value) (s : Sp) (now age : Int) (w : World) (hv : SpVal w w.heap.size v s) (hw : SpWf s) : Calls Try.prog 45 #[v, .int .i64 now, .int .i64 age] w (SpOverR (overSp s now age) w) := by
  have HCK := Lib.hid (fun w' (hb : Below w.heap.size w w') => refSpFault_any v s w' ((hv.below hb).more hb.size) hw)
  obtain ⟨a, h, kk, rfl, ha, hh, hk⟩ := hv.ex
  have HH := Lib.hid hh
  have HK := Lib.hid hk
  obtain ⟨Aa, ca, csa, rfl, _, _, hrw, hp⟩ := ha.ex
  have HRW := Lib.hid hrw
  have HP := Lib.hid hp
  obtain ⟨Ah, ch, rfl, _, _, _⟩ := hh.ex
  obtain ⟨Ak, ck, rfl, _, _, _⟩ := hk.ex
  obtain ⟨g0, g1, g2⟩ := twoX w #[.int .i64 s.next, .slice Aa s.sent.length ca, .int .i64 s.top, .slice Ah s.heard.length ch, .slice Ak s.skip.length ck] #[.int .i64 0, .slice none 0 0, .int .i64 0, .slice none 0 0, .slice none 0 0] 48 48
  have F0 := Lib.hid g0
  have Z0 := Lib.hid g1
  have B0 := Lib.hid g2
  clear g0 g1 g2
  clear hv ha hh hk hrw hp
  obtain ⟨i0, hi0, hz0, hz1, hz2⟩ := info_partsE infoP4
  have HI := Lib.hid hi0
  have HZ := Lib.hid hz0
  have HZ1 := Lib.hid hz1
  have HZ2 := Lib.hid hz2
  clear hi0 hz0 hz1 hz2
  obtain ⟨na, hna⟩ : ∃ x, s.sent.length = x := ⟨_, rfl⟩
  have HNA := Lib.hid hna
  rw [hna] at F0 B0 Z0 HCK ⊢
  clear hna
  obtain ⟨q0, q1, q2, q3, q4⟩ := sp5 F0.out
  go_enter Try.func45, Try.ntmps45
  go_wp2_with fail
  refine (HCK.out _ B0.out).mono ?_
  rintro e w1 ⟨rfl, b1⟩
  have B1 := Lib.hid (B0.out.trans (b1.mono B0.out.size))
  have F1 := Lib.hid ((b1.block _ (lt_of_block F0.out)).trans F0.out)
  have Z1 := Lib.hid ((b1.block _ (lt_of_block Z0.out)).trans Z0.out)
  clear b1
  clear q0 q1 q2 q3 q4
  obtain ⟨q0, q1, q2, q3, q4⟩ := sp5 F1.out
  obtain ⟨z0, z1, z2, z3, z4⟩ := sp5 Z1.out
  have zf := fun i => bk_frz Z1.out i
  rcases faultSp_two s with f | f
  · by_cases c1 : 0 ≤ now ∧ now ≤ 1099511627776
    · have d1 : upB2 now 1099511627776 = true := upB2_yes c1.1 c1.2
      by_cases c2 : 0 ≤ age ∧ age ≤ 1099511627776
      · have d2 : upB2 age 1099511627776 = true := upB2_yes c2.1 c2.2
        rw [f]
        go_wp2_with fail
        refine (upTo_any _ _ _).mono ?_
        rintro e w9 ⟨rfl, rfl⟩
        rw [d1]
        go_wp2_with fail
        refine (upTo_any _ _ _).mono ?_
        rintro e w9 ⟨rfl, rfl⟩
        rw [d2]
        have ok := (faultSp_iff s).1 f
        have HR := Lib.hid (show overSp s now age = ({ s with sent := s.sent.filter fun p => !decide (p.time ≤ now - age) }, s.sent.filter fun p => decide (p.time ≤ now - age), 0) from by unfold overSp; rw [if_neg (by simp [f]), if_neg (by simp only [Decidable.not_not]; exact ⟨c1, c2⟩)])
        have HS24 := Lib.hid (show na ≤ 24 from by rw [← HNA.out]; exact ok.2.2.1)
        have HTM := Lib.hid (fun i (hi : i < s.sent.length) => (ok.2.2.2.1 _ (List.getElem_mem hi)).1)
        obtain ⟨pd, hpd⟩ : ∃ p : Pcl → Bool, p = fun p => decide (p.time ≤ now - age) := ⟨_, rfl⟩
        have HPD := Lib.hid hpd
        have HLC := Lib.hid (show csa.length = na from by rw [HP.out.len, HNA.out])
        have K0 := Lib.hid (show SplI w1 w1 (.slice none 0 0) (.slice none 0 0) (sel pd (csa.take 0) (s.sent.take 0)) (sel (fun q => !pd q) (csa.take 0) (s.sent.take 0)) from ⟨OwnE.nil _ _ _, OwnE.nil _ _ _, Below.refl _ _, fun j h => by cases h⟩)
        clear ok hpd z0 z1 z2 z3 z4 zf
        go_wp2_with fail
        go_loopg [32, 10, 11] na (fun gq iv v1 v2 wr => ∃ k : Nat, iv = .int .i64 k ∧ k + gq = na ∧ Hid (SplI w1 wr v1 v2 (sel pd (csa.take k) (s.sent.take k)) (sel (fun q => !pd q) (csa.take k) (s.sent.take k))))
        case atStart => exact ⟨0, rfl, by omega, K0⟩
        case round =>
          obtain ⟨k, rfl, hkg, KI⟩ := hrel
          obtain ⟨X, hX⟩ : ∃ X, X = wr := ⟨_, rfl⟩
          subst hX
          clear K0 q0 q1 q2 q3 q4
          by_cases hlt : k < na
          · have hkp : k < s.sent.length := by rw [HNA.out]; exact hlt
            have hkc : k < csa.length := by rw [HLC.out]; exact hlt
            obtain ⟨b, off, v, hA, hbl, hF, c0, c1', c2', c3, hcl⟩ := pc_cells2 (HRW.out.on B1.out) (HP.out.imp fun _ _ q => (q.below B1.out).more B1.out.size) k hkc hkp
            subst hA
            obtain ⟨Af, cf, cf2, hvf, hf1, hf2, hf3, hf4⟩ := hF.ex
            obtain ⟨nf, hnf⟩ : ∃ n, (s.sent[k]).frs.length = n := ⟨_, rfl⟩
            rw [hnf] at hvf
            subst hvf
            clear hnf hF hf1 hf2 hf3 hf4 cf2
            have y0 := (KI.out.b.cell (p := ⟨b, off + k * 4, none⟩) hbl).trans c0
            have y1 := (KI.out.b.cell (p := ⟨b, off + k * 4 + 1, none⟩) hbl).trans c1'
            have y2 := (KI.out.b.cell (p := ⟨b, off + k * 4 + 2, none⟩) hbl).trans c2'
            have y3 := (KI.out.b.cell (p := ⟨b, off + k * 4 + 3, none⟩) hbl).trans c3
            have htm := HTM.out k hkp
            have HS1 := Lib.hid (sel_snoc pd csa s.sent k hkc hkp)
            have HS2 := Lib.hid (sel_snoc (fun q => !pd q) csa s.sent k hkc hkp)
            have HL1 := Lib.hid (sel_le pd (csa.take k) (s.sent.take k) k (by rw [List.length_take]; omega))
            have HL2 := Lib.hid (sel_le (fun q => !pd q) (csa.take k) (s.sent.take k) k (by rw [List.length_take]; omega))
            clear c0 c1' c2' c3
            obtain ⟨L1, hL1⟩ : ∃ x, sel pd (csa.take k) (s.sent.take k) = x := ⟨_, rfl⟩
            obtain ⟨L2, hL2⟩ : ∃ x, sel (fun q => !pd q) (csa.take k) (s.sent.take k) = x := ⟨_, rfl⟩
            rw [hL1] at HL1 HS1 KI
            rw [hL2] at HL2 HS2 KI
            obtain ⟨ck_, hck⟩ : ∃ x, csa[k] = x := ⟨_, rfl⟩
            obtain ⟨q, hq⟩ : ∃ x, s.sent[k] = x := ⟨_, rfl⟩
            rw [hck] at hcl HS1 HS2
            rw [hq] at y0 y1 y2 hcl HS1 HS2 htm
            have hpq : pd q = decide (q.time + age ≤ now) := by
              rw [HPD.out]
              have : q.time ≤ now - age ↔ q.time + age ≤ now := by omega
              simp only [this]
            obtain ⟨num, hnum⟩ : ∃ x, q.num = x := ⟨_, rfl⟩
            obtain ⟨time, htime⟩ : ∃ x, q.time = x := ⟨_, rfl⟩
            obtain ⟨size, hsize⟩ : ∃ x, q.size = x := ⟨_, rfl⟩
            rw [hnum, htime, hsize] at hcl
            rw [hnum] at y0
            rw [htime] at y1 hpq htm
            rw [hsize] at y2
            have HCL := Lib.hid hcl
            obtain ⟨A1, c1_, hv1, _, _, _⟩ := KI.out.o1.slice
            obtain ⟨A2, c2_, hv2, _, _, _⟩ := KI.out.o2.slice
            obtain ⟨n1, hn1⟩ : ∃ x, L1.length = x := ⟨_, rfl⟩
            obtain ⟨n2, hn2⟩ : ∃ x, L2.length = x := ⟨_, rfl⟩
            rw [hn1] at hv1
            rw [hn2] at hv2
            have HN1 := Lib.hid (show L1.length ≤ 24 from Nat.le_trans HL1.out (by have := HS24.out; omega))
            have HN2 := Lib.hid (show L2.length ≤ 24 from Nat.le_trans HL2.out (by have := HS24.out; omega))
            subst hv1
            subst hv2
            obtain ⟨ok, hok⟩ : ∃ x, decide (time + age ≤ now) = x := ⟨_, rfl⟩
            rw [hpq, hok] at HS1 HS2
            have hwr : IntKind.i64.wrap (time + age) = time + age := by rw [IntKind.wrap_i64]; omega
            have hki : (k : Int) < (na : Int) := by omega
            have hn48 : na ≤ 24 := HS24.out
            have AB := Lib.hid ((Below.refl X.heap.size X).alloc (Nat.le_refl _) (.cells #[.int .i64 num, .int .i64 time, .int .i64 size, .slice Af nf cf] 77))
            have P4 := Lib.hid (heap_alloc_new X (.cells #[.int .i64 num, .int .i64 time, .int .i64 size, .slice Af nf cf] 77))
            have K4 := Lib.hid (KI.out.on AB.out)
            clear hL1 hL2 hck hq hnum htime hsize hcl hn1 hn2 hpq
            go_upto_region 10 with fail
            clear y0 y1 y2 y3
            obtain ⟨w4, hw4⟩ : ∃ x, X.alloc (.cells #[.int .i64 num, .int .i64 time, .int .i64 size, .slice Af nf cf] 77) = x := ⟨_, rfl⟩
            rw [hw4] at P4 K4
            try rw [hw4]
            clear hw4 AB
            obtain ⟨z0, z1, z2, z3⟩ := pc4D P4.out
            cases ok with
            | true =>
              simp only [Bool.not_true, Bool.false_eq_true, if_false, if_true, List.append_nil] at HS1 HS2
              have NB := Lib.hid (RowE.one (E := pc4) w4 ck_ #[.int .i64 num, .int .i64 time, .int .i64 size, .slice Af nf cf] 77 w4.heap.size rfl HCL.out.symm)
              have BN := Lib.hid ((Below.refl w4.heap.size w4).alloc (Nat.le_refl _) (.cells #[.int .i64 num, .int .i64 time, .int .i64 size, .slice Af nf cf] 77))
              go_wp2_with (at_builtin; (refine wpList_appE3 _ rfl (.tmp 42) (.tmp 44) _ rfl w1.heap.size 77 i0 _ 48 Try.underlying45 HI.out HZ.out HZ1.out HZ2.out rfl (by decide) (.slice A1 n1 c1_) _ rfl (OwnE.later K4.out.o1 BN.out) _ (some ⟨w4.heap.size, 0, none⟩) 1 1 [ck_] rfl NB.out rfl (by have := HN1.out; omega) (Nat.le_trans K4.out.b.size BN.out.size) ?_; intro v9 w9 own9 gr9 nb9; have O9 := Lib.hid own9; have G9 := Lib.hid gr9; have NB9 := Lib.hid nb9; clear own9 gr9 nb9))
              have K4B := Lib.hid (K4.out.on BN.out)
              have KN := (K4B.out.put1 O9.out G9.out (w4 := w4) (by rcases NB9.out with q | q; exact .inl q; exact .inr (fun j hj => Nat.le_trans BN.out.size (q j hj))) K4.out.lt)
              rw [← HS1.out, ← HS2.out] at KN
              have KN := Lib.hid KN
              go_roundg (gk - 1)
              case measure => omega
              case rel => exact ⟨k + 1, by first | rfl | go_num, by omega, KN⟩
            | false =>
              simp only [Bool.not_false, Bool.false_eq_true, if_false, if_true, List.append_nil] at HS1 HS2
              have NB := Lib.hid (RowE.one (E := pc4) w4 ck_ #[.int .i64 num, .int .i64 time, .int .i64 size, .slice Af nf cf] 77 w4.heap.size rfl HCL.out.symm)
              have BN := Lib.hid ((Below.refl w4.heap.size w4).alloc (Nat.le_refl _) (.cells #[.int .i64 num, .int .i64 time, .int .i64 size, .slice Af nf cf] 77))
              go_wp2_with (at_builtin; (refine wpList_appE3 _ rfl (.tmp 46) (.tmp 48) _ rfl w1.heap.size 77 i0 _ 48 Try.underlying45 HI.out HZ.out HZ1.out HZ2.out rfl (by decide) (.slice A2 n2 c2_) _ rfl (OwnE.later K4.out.o2 BN.out) _ (some ⟨w4.heap.size, 0, none⟩) 1 1 [ck_] rfl NB.out rfl (by have := HN2.out; omega) (Nat.le_trans K4.out.b.size BN.out.size) ?_; intro v9 w9 own9 gr9 nb9; have O9 := Lib.hid own9; have G9 := Lib.hid gr9; have NB9 := Lib.hid nb9; clear own9 gr9 nb9))
              have K4B := Lib.hid (K4.out.on BN.out)
              have KN := (K4B.out.put2 O9.out G9.out (w4 := w4) (by rcases NB9.out with q | q; exact .inl q; exact .inr (fun j hj => Nat.le_trans BN.out.size (q j hj))) K4.out.lt)
              rw [← HS1.out, ← HS2.out] at KN
              have KN := Lib.hid KN
              go_roundg (gk - 1)
              case measure => omega
              case rel => exact ⟨k + 1, by first | rfl | go_num, by omega, KN⟩
          · have hkn : k = na := by omega
            subst k
            have SI := KI.out
            rw [List.take_of_length_le (by rw [HLC.out]; exact Nat.le_refl _), List.take_of_length_le (by rw [HNA.out]; exact Nat.le_refl _)] at SI
            have BX := Lib.hid SI.b
            have OL := Lib.hid SI.o1
            have OF := Lib.hid SI.o2
            have AL := Lib.hid (fun (R : Cells 4 → Pcl → Prop) (h : All2 R csa s.sent) => sel_all pd h)
            have AF := Lib.hid (fun (R : Cells 4 → Pcl → Prop) (h : All2 R csa s.sent) => sel_all (fun q => !pd q) h)
            obtain ⟨L1, hL1⟩ : ∃ x, sel pd csa s.sent = x := ⟨_, rfl⟩
            obtain ⟨L2, hL2⟩ : ∃ x, sel (fun q => !pd q) csa s.sent = x := ⟨_, rfl⟩
            rw [hL1] at OL AL
            rw [hL2] at OF AF
            obtain ⟨P1, hP1⟩ : ∃ x, s.sent.filter pd = x := ⟨_, rfl⟩
            obtain ⟨P2, hP2⟩ : ∃ x, (s.sent.filter fun q => !pd q) = x := ⟨_, rfl⟩
            rw [hP1] at AL
            rw [hP2] at AF
            have HR2 := Lib.hid (show overSp s now age = ({ s with sent := P2 }, P1, 0) from by rw [HR.out, ← hP1, ← hP2, HPD.out])
            have hl1 := (AL.out _ HP.out).len
            have hl2 := (AF.out _ HP.out).len
            clear hL1 hL2 hP1 hP2 SI
            obtain ⟨A4, c4, hv1, _, _, _⟩ := OL.out.slice
            obtain ⟨A5, c5, hv2, _, _, _⟩ := OF.out.slice
            rw [hl1] at hv1
            rw [hl2] at hv2
            subst hv1
            subst hv2
            have HL1 := Lib.hid hl1
            have HL2 := Lib.hid hl2
            have F4 := Lib.hid ((BX.out.block _ (lt_of_block F1.out)).trans F1.out)
            have Z4 := Lib.hid ((BX.out.block _ (lt_of_block Z1.out)).trans Z1.out)
            have B4 := Lib.hid (B1.out.trans (BX.out.mono B1.out.size))
            have hz1 := lt_of_block Z1.out
            clear hl1 hl2 KI
            obtain ⟨p0, p1, p2, p3, p4⟩ := sp5 F4.out
            have pf := fun i => bk_frz F4.out i
            obtain ⟨W5, hW5⟩ : ∃ x, X.setCell ⟨w.heap.size, 1, none⟩ (.slice A5 P2.length c5) = x := ⟨_, rfl⟩
            have f5 := (sp5_set F4.out (.slice A5 P2.length c5)).2.1
            have g5 := gr_set X w.heap.size 1 (.slice A5 P2.length c5)
            rw [hW5] at f5 g5
            have F5 := Lib.hid f5
            have Z5 := Lib.hid ((g5.block _ (lt_of_block Z4.out) (by simp)).trans Z4.out)
            have B5 := Lib.hid (gr_from B4.out B4.out.size (Nat.le_refl _) g5)
            have OL5 := Lib.hid (OwnE.kept OL.out g5 (fun e => by have := (OwnE.lt OL.out _ e).1; omega))
            have OF5 := Lib.hid (OwnE.kept OF.out g5 (fun e => by have := (OwnE.lt OF.out _ e).1; omega))
            clear f5 g5
            obtain ⟨q0, q1, q2, q3, q4⟩ := sp5 F5.out
            obtain ⟨z0, z1, z2, z3, z4⟩ := sp5 Z5.out
            have zf := fun i => bk_frz Z5.out i
            go_wp2_with fail
            obtain ⟨RY, gp⟩ := sp5_put Z5.out (.int .i64 s.next) (.slice A5 P2.length c5) (.int .i64 s.top) (.slice Ah s.heard.length ch) (.slice Ak s.skip.length ck)
            obtain ⟨y0, y1, y2, y3, y4⟩ := sp5 RY
            refine bodyPost_ret (by simp [results, Try.results45, go_sem, y0, y1, y2, y3, y4]; try rfl) rfl ?_
            rw [HR2.out]
            have BE := gr_from B5.out B5.out.size (Nat.le_succ _) gp
            have OL6 := OwnE.kept OL5.out gp (fun e => by have := (OwnE.lt OL5.out _ e).1; omega)
            have OF6 := OwnE.kept OF5.out gp (fun e => by have := (OwnE.lt OF5.out _ e).1; omega)
            exact ⟨BE, _, _, rfl, ⟨_, _, _, rfl, pl_fin OF6 (AF.out _ (HP.out.imp fun _ _ q => (q.below BE).more BE.size)), (HH.out.below BE).more BE.size, HK.out.on BE⟩, pl_fin OL6 (AL.out _ (HP.out.imp fun _ _ q => (q.below BE).more BE.size))⟩
      · have d2 : upB2 age 1099511627776 = false := upB2_no (by omega)
        have HR := Lib.hid (show overSp s now age = (sp0, [], 6) from by unfold overSp; rw [if_neg (by simp [f]), if_pos (fun q => c2 q.2)])
        rw [f]
        go_wp2_with fail
        refine (upTo_any _ _ _).mono ?_
        rintro e w9 ⟨rfl, rfl⟩
        rw [d1]
        go_wp2_with fail
        refine (upTo_any _ _ _).mono ?_
        rintro e w9 ⟨rfl, rfl⟩
        rw [d2]
        go_wp2_with fail
        obtain ⟨RY, gp⟩ := sp5_put Z1.out (.int .i64 0) (.slice none 0 0) (.int .i64 0) (.slice none 0 0) (.slice none 0 0)
        obtain ⟨y0, y1, y2, y3, y4⟩ := sp5 RY
        refine bodyPost_ret (by simp [results, Try.results45, go_sem, y0, y1, y2, y3, y4]; try rfl) rfl ?_
        rw [HR.out]
        exact ⟨gr_from B1.out B1.out.size (Nat.le_succ _) gp, _, _, rfl, SpVal.nil _ _, PlSl.nil _ _⟩
    · have d1 : upB2 now 1099511627776 = false := upB2_no (by omega)
      have HR := Lib.hid (show overSp s now age = (sp0, [], 6) from by unfold overSp; rw [if_neg (by simp [f]), if_pos (fun q => c1 q.1)])
      rw [f]
      go_wp2_with fail
      refine (upTo_any _ _ _).mono ?_
      rintro e w9 ⟨rfl, rfl⟩
      rw [d1]
      go_wp2_with fail
      obtain ⟨RY, gp⟩ := sp5_put Z1.out (.int .i64 0) (.slice none 0 0) (.int .i64 0) (.slice none 0 0) (.slice none 0 0)
      obtain ⟨y0, y1, y2, y3, y4⟩ := sp5 RY
      refine bodyPost_ret (by simp [results, Try.results45, go_sem, y0, y1, y2, y3, y4]; try rfl) rfl ?_
      rw [HR.out]
      exact ⟨gr_from B1.out B1.out.size (Nat.le_succ _) gp, _, _, rfl, SpVal.nil _ _, PlSl.nil _ _⟩
  · have HR := Lib.hid (show overSp s now age = (sp0, [], 9) from by unfold overSp; rw [f]; rfl)
    rw [f]
    go_wp2_with fail
    obtain ⟨RY, gp⟩ := sp5_put Z1.out (.int .i64 0) (.slice none 0 0) (.int .i64 0) (.slice none 0 0) (.slice none 0 0)
    obtain ⟨y0, y1, y2, y3, y4⟩ := sp5 RY
    refine bodyPost_ret (by simp [results, Try.results45, go_sem, y0, y1, y2, y3, y4]; try rfl) rfl ?_
    rw [HR.out]
    exact ⟨gr_from B1.out B1.out.size (Nat.le_succ _) gp, _, _, rfl, SpVal.nil _ _, PlSl.nil _ _⟩
end Go.Proofs.Ytgfbonfoimiknaa
