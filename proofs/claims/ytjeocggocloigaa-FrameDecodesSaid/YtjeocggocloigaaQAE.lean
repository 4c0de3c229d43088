/- Texts of the proofs, joined. -/
import Derived.Test.YtjeocggocloigaaQAD
/- The document's answer on bytes that a frame begins with: FrameOf (a Stream). -/
namespace Go.Proofs.Ytjeocggocloigaa
set_option linter.unusedVariables false
open Go.RowKit P

set_option maxRecDepth 100000 in
set_option maxHeartbeats 8000000 in
theorem refFrO_n14 (zs : List Int) (hy : Byt zs) (hl : zs.length ≤ 140737488351232) (w : World) (n e1 : Int) (t1 : List Int) (hN : numS (0, zs) = (n, (e1, t1))) (he1 : e1 = 0) (hn : n = 14) (ps : List Int) (hp : partsOf 8 = some ps) :
    Calls Try.prog 9 #[.string (strOfNums zs)] w (RefDec zs w) := by
  have hmf : ∀ (fn : Fn) (first cap : Array Value) (w : World), (Instr.makeFunc fn first cap).run Try.prog w = .ok (.func fn first cap) w := fun fn first cap w => rfl
  obtain ⟨S, hS⟩ : ∃ S, strOfNums zs = S := ⟨_, rfl⟩
  have hsz : S.size = zs.length := by rw [← hS]; exact strOfNums_size zs
  have HSZ := Lib.hid hsz
  rw [hS]
  obtain ⟨f0, f1, f2⟩ := three_blocks w #[.string S] #[.int .i64 0, .int .i64 0, .int .i64 0, .bool false, .int .i64 0, .slice none 0 0, .slice none 0 0] #[.int .i64 0] 9 25 26
  have FZ := Lib.hid f1
  have HA := Lib.hid (show RefAt (((w.alloc (.cells #[.string S] 9)).alloc (.cells #[.int .i64 0, .int .i64 0, .int .i64 0, .bool false, .int .i64 0, .slice none 0 0, .slice none 0 0] 25)).alloc (.cells #[.int .i64 0] 26)) w.heap.size (w.heap.size + 1 + 1) (0, zs) from ⟨by rw [hS]; exact f0, f2, by omega⟩)
  have HW := Lib.hid ((((Below.refl w.heap.size w).alloc (Nat.le_refl _) (.cells #[.string S] 9)).alloc (by simp) (.cells #[.int .i64 0, .int .i64 0, .int .i64 0, .bool false, .int .i64 0, .slice none 0 0, .slice none 0 0] 25)).alloc (by simp; omega) (.cells #[.int .i64 0] 26))
  have hs0 : (S.size : Int) ≤ 140737488351232 := by omega
  clear hS hsz f0 f1 f2
  have bN := numS_bd (σ := (0, zs)) hy
  rw [hN] at bN
  obtain ⟨n0, n1, hy1, hl1⟩ := bN
  simp only at n0 n1 hy1 hl1
  have HN := Lib.hid hN
  clear hN
  go_enter Try.func9, Try.ntmps9
  go_wp2_with fail
  refine (numC_any _ _ (0, zs) _ HA.out hy (by simp only; omega)).mono ?_
  rintro e w1 ⟨rfl, ha1, m1⟩
  rw [HN.out] at ha1 ⊢
  simp only at ha1 ⊢
  have hw3 : (((w.alloc (.cells #[.string S] 9)).alloc (.cells #[.int .i64 0, .int .i64 0, .int .i64 0, .bool false, .int .i64 0, .slice none 0 0, .slice none 0 0] 25)).alloc (.cells #[.int .i64 0] 26)).heap.size = w.heap.size + 1 + 1 + 1 := by simp
  have HA1 := Lib.hid ha1
  have BW1 := Lib.hid (m1.below HW.out (by omega) (by omega) (by rw [hw3]; omega))
  have FZ1 := Lib.hid ((m1.block (w.heap.size + 1) (by rw [hw3]; omega) (by omega) (by omega)).trans FZ.out)
  have SZ1 := Lib.hid (show w.heap.size + 1 + 1 + 1 ≤ w1.heap.size from hw3 ▸ m1.size)
  clear ha1 m1 hw3
  have HX := Lib.hid ((Below.refl w1.heap.size w1).alloc (Nat.le_refl _) (.cells #[.int .i64 n, .int .i64 0, .int .i64 0, .bool false, .int .i64 0, .slice none 0 0, .slice none 0 0] 25))
  have FF := Lib.hid (heap_alloc_new w1 (.cells #[.int .i64 n, .int .i64 0, .int .i64 0, .bool false, .int .i64 0, .slice none 0 0, .slice none 0 0] 25))
  have FZ2 := Lib.hid ((HX.out.block _ (lt_of_block FZ1.out)).trans FZ1.out)
  have FB2 := Lib.hid ((HX.out.block _ (lt_of_block HA1.out.b)).trans HA1.out.b)
  have b0 : (w1.alloc (.cells #[.int .i64 n, .int .i64 0, .int .i64 0, .bool false, .int .i64 0, .slice none 0 0, .slice none 0 0] 25)).cell? ⟨w.heap.size + 1 + 1, 0, none⟩ = some (.int .i64 e1) := blk_cell FB2.out 0
  subst he1
  subst hn
  have DEC0 := Lib.hid (show decF zs = finF (decPsS (ps.drop 0) ⟨8, 0, 0, false, 0, [], []⟩ (0, t1)) from decF_at (rd_ok' HN.out) (by decide) hp)
  obtain ⟨q0, q1, q2, q3, q4, q5, q6, qf⟩ := blk7 FF.out
  have HHAS := Lib.hid (refHas_some hp (wf_kind (n := 8) (by decide) (by decide)))
  obtain ⟨pb, pl9⟩ := parts_byt hp
  have HIN := Lib.hid (parts8 hp)
  have HONE := Lib.hid (parts_one hp)
  clear hp
  have HX8 := Lib.hid ((Below.refl w1.heap.size w1).alloc (Nat.le_refl _) (.cells #[.int .i64 8, .int .i64 0, .int .i64 0, .bool false, .int .i64 0, .slice none 0 0, .slice none 0 0] 25))
  have FF8 := Lib.hid (heap_alloc_new w1 (.cells #[.int .i64 8, .int .i64 0, .int .i64 0, .bool false, .int .i64 0, .slice none 0 0, .slice none 0 0] 25))
  have FZ8 := Lib.hid ((HX8.out.block _ (lt_of_block FZ1.out)).trans FZ1.out)
  go_wp2_with (go_at_call 17; refine (HHAS.out _).mono ?_; rintro e w2 ⟨rfl, b2⟩; have B2 := Lib.hid (HX8.out.trans (b2.mono HX8.out.size)); have HA2 := Lib.hid ((HA1.out.on HX8.out).on b2); have FZ3 := Lib.hid ((b2.block _ (lt_of_block FZ8.out)).trans FZ8.out); have FF3 := Lib.hid ((b2.block _ (lt_of_block FF8.out)).trans FF8.out); clear b2 q0 q1 q2 q3 q4 q5 q6 qf b0)
  have HO0 := Lib.hid (show FoAt w w1.heap.size (0, t1) ⟨8, 0, 0, false, 0, [], []⟩ (.slice none 0 0) (.slice none 0 0) zs.length w2 from ⟨HA2.out, FZ3.out, FF3.out, by have := SZ1.out; omega, BW1.out.trans (B2.out.mono BW1.out.size), hy1, hl1, OwnR.nil _ _ _, BSl.nil _ _, SlFrom.nil⟩)
  obtain ⟨T, hT⟩ : ∃ T, strOfNums ps = T := ⟨_, rfl⟩
  have hTs : T.size = ps.length := by rw [← hT]; exact strOfNums_size ps
  have HG := Lib.hid (show ∀ k (h : k < T.size), ((T[k]'h).toNat : Int) = ps.getD k 0 from fun k h => by subst hT; exact str_get pb k h)
  rw [hT]
  clear hT
  go_loopg [11] ps.length (fun g i wr => ∃ (j : Nat) (F : Fr) (r d : Value) (σ : St), j + g = ps.length ∧ i = .int .i64 j ∧ Hid (FoAt w w1.heap.size σ F r d zs.length wr) ∧ Hid (F.kind = 8) ∧ Hid (j = 0 → F.data = [] ∧ F.rs = []) ∧ Hid (decF zs = finF (decPsS (ps.drop j) F σ)))
  case atStart => exact ⟨0, ⟨8, 0, 0, false, 0, [], []⟩, _, _, (0, t1), by omega, rfl, HO0, Lib.hid rfl, Lib.hid (fun _ => ⟨rfl, rfl⟩), DEC0⟩
  case round =>
    obtain ⟨j, F, r, d, ⟨e, t⟩, hj, rfl, HO, HK, HZ0, HD⟩ := hrel
    obtain ⟨b2, s2, bf, sf⟩ := HO.out.cells
    simp only at b2 s2
    by_cases hlt : j < ps.length
    · by_cases he : e = 0
      · subst he
        have hlt3 : j < T.size := by omega
        have hx := HG.out j hlt3
        have hin := HIN.out j hlt
        have hdj := drop_i ps j hlt
        obtain ⟨z, hz⟩ : ∃ z, ps.getD j 0 = z := ⟨_, rfl⟩
        rw [hz] at hx hin
        rcases hin with rfl | rfl | rfl | rfl
        · obtain ⟨⟨v, σ1⟩, hN1⟩ : ∃ x, numS (0, t) = x := ⟨_, rfl⟩
          have bN1 := numS_bd (σ := (0, t)) HO.out.yt
          rw [hN1] at bN1
          obtain ⟨_, _, hy5, hl5⟩ := bN1
          have HN1 := Lib.hid hN1
          have HNX := Lib.hid (HD.out.trans (congrArg finF (show decPsS (ps.drop j) F (0, t) = decPsS (ps.drop (j + 1)) { F with id := v } σ1 by rw [hdj, hz]; exact stepS_i hN1)))
          clear hN1 hz hdj HD
          go_wp2_with (go_at_call 22; refine (numC_any _ _ (0, t) _ HO.out.ra HO.out.yt (Nat.le_trans HO.out.ln (by omega))).mono ?_; rintro e w5 ⟨rfl, ha5, m5⟩; rw [HN1.out] at ha5 ⊢; simp only; have H5 := Lib.hid (HO.out.num ha5 m5 hy5 (Nat.le_trans hl5 HO.out.ln)); clear b2 s2 bf sf ha5 m5; obtain ⟨q0, q1, q2, q3, q4, q5, q6, qf⟩ := blk7 H5.out.fb)
          go_roundg (gk - 1)
          case measure => omega
          case rel => exact ⟨j + 1, { F with id := v }, r, d, σ1, by omega, by go_num, Lib.hid (H5.out.set 1 (.int .i64 v) rfl rfl rfl), Lib.hid HK.out, Lib.hid (fun h => absurd h (Nat.succ_ne_zero _)), HNX⟩
        · obtain ⟨⟨v, σ1⟩, hN1⟩ : ∃ x, numS (0, t) = x := ⟨_, rfl⟩
          have bN1 := numS_bd (σ := (0, t)) HO.out.yt
          rw [hN1] at bN1
          obtain ⟨_, _, hy5, hl5⟩ := bN1
          have HN1 := Lib.hid hN1
          have HNX := Lib.hid (HD.out.trans (congrArg finF (show decPsS (ps.drop j) F (0, t) = decPsS (ps.drop (j + 1)) { F with off := v } σ1 by rw [hdj, hz]; exact stepS_o hN1)))
          clear hN1 hz hdj HD
          go_wp2_with (go_at_call 22; refine (numC_any _ _ (0, t) _ HO.out.ra HO.out.yt (Nat.le_trans HO.out.ln (by omega))).mono ?_; rintro e w5 ⟨rfl, ha5, m5⟩; rw [HN1.out] at ha5 ⊢; simp only; have H5 := Lib.hid (HO.out.num ha5 m5 hy5 (Nat.le_trans hl5 HO.out.ln)); clear b2 s2 bf sf ha5 m5; obtain ⟨q0, q1, q2, q3, q4, q5, q6, qf⟩ := blk7 H5.out.fb)
          go_roundg (gk - 1)
          case measure => omega
          case rel => exact ⟨j + 1, { F with off := v }, r, d, σ1, by omega, by go_num, Lib.hid (H5.out.set 2 (.int .i64 v) rfl rfl rfl), Lib.hid HK.out, Lib.hid (fun h => absurd h (Nat.succ_ne_zero _)), HNX⟩
        · obtain ⟨⟨v, e5, t5⟩, hN1⟩ : ∃ x, numS (0, t) = x := ⟨_, rfl⟩
          have bN1 := numS_bd (σ := (0, t)) HO.out.yt
          rw [hN1] at bN1
          obtain ⟨v0, v1, hy5, hl5⟩ := bN1
          simp only at v0 v1 hy5 hl5
          have HN1 := Lib.hid hN1
          have hts : (strOfNums t5).size = t5.length := strOfNums_size t5
          have ltl : t5.length ≤ 140737488351232 := Nat.le_trans (Nat.le_trans hl5 HO.out.ln) hl
          have HSTEP := Lib.hid (fun (x : Int) (hx : x ≠ 0) (hd : dataS (0, t) = ([], (x, t5))) => HD.out.trans (congrArg finF (show decPsS (ps.drop j) F (0, t) = decPsS (ps.drop (j + 1)) F (x, t5) by rw [hdj, hz, stepS_d hd, decPsS_bad (σ := (x, t5)) hx, decPsS_bad (σ := (x, t5)) hx])))
          have HSTOK := Lib.hid (fun (ys u : List Int) (hd : dataS (0, t) = (ys, (0, u))) => HD.out.trans (congrArg finF (show decPsS (ps.drop j) F (0, t) = decPsS (ps.drop (j + 1)) { F with data := ys } (0, u) by rw [hdj, hz]; exact stepS_d hd)))
          clear hz hdj HD
          by_cases c5 : e5 = 0
          · subst c5
            by_cases cb : 120 < v
            · have NX := Lib.hid (HSTEP.out 1 (by decide) (data_big HN1.out cb))
              go_wp2_with (go_at_call 22; refine (numC_any _ _ (0, t) _ HO.out.ra HO.out.yt (Nat.le_trans HO.out.ln (by omega))).mono ?_; rintro e w5 ⟨rfl, ha5, m5⟩; rw [HN1.out] at ha5 ⊢; simp only; have H5 := Lib.hid (HO.out.num ha5 m5 hy5 (Nat.le_trans hl5 HO.out.ln)); clear b2 s2 bf sf ha5 m5; obtain ⟨b2, s2, bf, sf⟩ := H5.out.cells; simp only at b2 s2)
              go_roundg (gk - 1)
              case measure => omega
              case rel => exact ⟨j + 1, F, r, d, (1, t5), by omega, by go_num, Lib.hid (H5.out.bad 1), HK, Lib.hid (fun h => absurd h (Nat.succ_ne_zero _)), NX⟩
            · by_cases cs5 : (t5.length : Int) < v
              · have NX := Lib.hid (HSTEP.out 4 (by decide) (data_short HN1.out cb cs5))
                go_wp2_with (go_at_call 22; refine (numC_any _ _ (0, t) _ HO.out.ra HO.out.yt (Nat.le_trans HO.out.ln (by omega))).mono ?_; rintro e w5 ⟨rfl, ha5, m5⟩; rw [HN1.out] at ha5 ⊢; simp only; have H5 := Lib.hid (HO.out.num ha5 m5 hy5 (Nat.le_trans hl5 HO.out.ln)); clear b2 s2 bf sf ha5 m5; obtain ⟨b2, s2, bf, sf⟩ := H5.out.cells; simp only at b2 s2)
                go_roundg (gk - 1)
                case measure => omega
                case rel => exact ⟨j + 1, F, r, d, (4, t5), by omega, by go_num, Lib.hid (H5.out.bad 4), HK, Lib.hid (fun h => absurd h (Nat.succ_ne_zero _)), NX⟩
              · obtain ⟨m, rfl⟩ : ∃ m : Nat, v = (m : Int) := ⟨v.toNat, by omega⟩
                have NX := Lib.hid (HSTOK.out (t5.take m) (t5.drop m) (data_ok HN1.out cb cs5))
                have hm5 : m ≤ t5.length := by omega
                have hm120 : (t5.take m).length ≤ 120 := by rw [List.length_take]; omega
                have hcut : (strOfNums t5).extract 0 m = strOfNums (t5.take m) := str_cut t5 m
                have hrest : (strOfNums t5).extract m t5.length = strOfNums (t5.drop m) := by rw [← hts]; exact str_drop t5 m
                have hlm := Lib.hid (show (t5.take m).length = m by rw [List.length_take]; omega)
                have hms : (m : Int) ≤ (t5.length : Int) := by omega
                have m0 : (0 : Int) ≤ (m : Int) := by omega
                go_wp2_with (go_at_call 22; refine (numC_any _ _ (0, t) _ HO.out.ra HO.out.yt (Nat.le_trans HO.out.ln (by omega))).mono ?_; rintro e w5 ⟨rfl, ha5, m5⟩; rw [HN1.out] at ha5 ⊢; simp only; have H5 := Lib.hid (HO.out.num ha5 m5 hy5 (Nat.le_trans hl5 HO.out.ln)); clear b2 s2 bf sf ha5 m5; obtain ⟨b2, s2, bf, sf⟩ := H5.out.cells; simp only at b2 s2; obtain ⟨C, w6, hrun, hb6, hd6⟩ := conv_any (t5.take m) (hy5.take m) hm120 w5; rw [hlm.out] at hrun hd6; have H6 := Lib.hid (H5.out.on hb6); obtain ⟨q0, q1, q2, q3, q4, q5, q6, qf⟩ := blk7 H6.out.fb; have hpf := (lt_of_block H5.out.fb); have H7 := Lib.hid (H6.out.setD hd6 (SlFrom.at hpf)); have H8 := Lib.hid (H7.out.left (hy5.drop m) (by rw [List.length_drop]; omega)); obtain ⟨_, s7, _, sf7⟩ := H7.out.cells; simp only at s7; clear hb6 hd6)
                go_roundg (gk - 1)
                case measure => omega
                case rel => exact ⟨j + 1, { F with data := t5.take m }, r, _, (0, t5.drop m), by omega, by go_num, H8, Lib.hid HK.out, Lib.hid (fun h => absurd h (Nat.succ_ne_zero _)), NX⟩
          · have NX := Lib.hid (HSTEP.out e5 c5 (data_bad HN1.out c5))
            have ge5 : (e5 != 0) = true := by simp [c5]
            go_wp2_with (go_at_call 22; refine (numC_any _ _ (0, t) _ HO.out.ra HO.out.yt (Nat.le_trans HO.out.ln (by omega))).mono ?_; rintro e w5 ⟨rfl, ha5, m5⟩; rw [HN1.out] at ha5 ⊢; simp only; have H5 := Lib.hid (HO.out.num ha5 m5 hy5 (Nat.le_trans hl5 HO.out.ln)); clear b2 s2 bf sf ha5 m5; obtain ⟨b2, s2, bf, sf⟩ := H5.out.cells; simp only at b2 s2)
            go_roundg (gk - 1)
            case measure => omega
            case rel => exact ⟨j + 1, F, r, d, (e5, t5), by omega, by go_num, H5, HK, Lib.hid (fun h => absurd h (Nat.succ_ne_zero _)), NX⟩
        · have HNX := Lib.hid (HD.out.trans (congrArg finF (show decPsS (ps.drop j) F (0, t) = decPsS (ps.drop (j + 1)) F (0, t) by rw [hdj, hz]; rfl)))
          clear hz hdj HD
          go_wp2_with fail
          go_roundg (gk - 1)
          case measure => omega
          case rel => exact ⟨j + 1, F, r, d, (0, t), by omega, by go_num, HO, HK, Lib.hid (fun h => absurd h (Nat.succ_ne_zero _)), HNX⟩
      · have ge : (e == 0) = false := by simp [he]
        have ge2 : (e != 0) = true := by simp [he]
        have HDE := Lib.hid (HD.out.trans (congrArg finF (decPsS_bad (σ := (e, t)) he)))
        obtain ⟨z0, z1, z2, z3, z4, z5, z6, zf⟩ := blk7 HO.out.fz
        go_wp2_with fail
        go_region
        go_wp2
        obtain ⟨u0, u1, u2, u3, u4, u5, u6, _, gput⟩ := blk7_put HO.out.fz (.int .i64 0) (.int .i64 0) (.int .i64 0) (.bool false) (.int .i64 0) (.slice none 0 0) (.slice none 0 0)
        have GP := Lib.hid gput
        clear gput z0 z1 z2 z3 z4 z5 z6 zf
        (try simp only [Exit.inBlock, Exit.then])
        refine bodyPost_ret (by simp [results, Try.results9, go_sem, u0, u1, u2, u3, u4, u5, u6]; try rfl) rfl ?_
        exact refDec_er (grown_from (HO.out.be) (Nat.le_succ _) GP.out).drew (HDE.out) rfl
    · have hjl : j = ps.length := by omega
      by_cases he : e = 0
      · subst he
        obtain ⟨Ar, cr, hr1, _, _, _⟩ := (OwnR.slice HO.out.rs)
        subst hr1
        obtain ⟨Ad, cd, hd1, _, _, _, _⟩ := HO.out.da.ex
        subst hd1
        have HRA := Lib.hid (show RowsAt wr (w1.heap.size + 1) (.slice Ar F.rs.length cr) (.slice Ad F.data.length cd) F from ⟨HO.out.rs, HO.out.da, HO.out.dn⟩)
        have HDE := Lib.hid (show decF zs = finF (.ok (F, t)) by rw [HD.out, hjl, List.drop_of_length_le (Nat.le_refl _)]; rfl)
        have HWF := Lib.hid (show (Lit.int .i64 F.kind).wf = true by rw [HK.out]; exact wf_kind (by decide) (by decide))
        obtain ⟨x, hx⟩ : ∃ x, faultF F = x := ⟨_, rfl⟩
        have HFX := Lib.hid hx
        obtain ⟨q0, q1, q2, q3, q4, q5, q6, qf⟩ := blk7 HO.out.fb
        have ltl : t.length ≤ 140737488351232 := Nat.le_trans HO.out.ln hl
        clear hx HD
        by_cases hx0 : x = 0
        · subst hx0
          go_wp2_with (go_at_call 7; refine (refFault_any _ F _ HRA.out.val HWF.out).mono ?_; rintro e w6 ⟨rfl, b6⟩; rw [HFX.out]; have H6 := Lib.hid (HO.out.on b6); have R6 := Lib.hid (HRA.out.on b6); have H7 := Lib.hid (H6.out.bad 0); have R7 := Lib.hid (R6.out.other (grown_set w6 (w.heap.size + 1 + 1) 0 (.int .i64 0)) (by have := SZ1.out; omega)); clear b6 b2 s2 bf sf q0 q1 q2 q3 q4 q5 q6 qf; obtain ⟨b2, s2, bf, sf⟩ := H6.out.cells; obtain ⟨b3, s3, _, _⟩ := H7.out.cells; simp only at b2 s2 b3 s3; obtain ⟨q0, q1, q2, q3, q4, q5, q6, _⟩ := blk7 H7.out.fb; obtain ⟨z0, z1, z2, z3, z4, z5, z6, zf⟩ := blk7 H7.out.fz)
          have hts : (strOfNums t).size = t.length := strOfNums_size t
          go_region
          go_wp2
          obtain ⟨u0, u1, u2, u3, u4, u5, u6, _, gput⟩ := blk7_put H7.out.fz (.int .i64 F.kind) (.int .i64 F.id) (.int .i64 F.off) (.bool F.fin) (.int .i64 F.code) (.slice Ar F.rs.length cr) (.slice Ad F.data.length cd)
          have GP := Lib.hid gput
          clear gput z0 z1 z2 z3 z4 z5 z6 zf
          (try simp only [Exit.inBlock, Exit.then])
          refine bodyPost_ret (by simp [results, Try.results9, go_sem, u0, u1, u2, u3, u4, u5, u6]; try rfl) rfl ?_
          exact refDec_ok (grown_from H7.out.be (Nat.le_succ _) GP.out).drew (HDE.out.trans (if_pos HFX.out)) (by rw [HSZ.out]) ((R7.out.other GP.out (by have := SZ1.out; omega)).on (Below.refl _ _).drew).val
        · have gx : (x == 0) = false := by simp [hx0]
          have gx2 : (x != 0) = true := by simp [hx0]
          go_wp2_with (go_at_call 7; refine (refFault_any _ F _ HRA.out.val HWF.out).mono ?_; rintro e w6 ⟨rfl, b6⟩; rw [HFX.out]; have H6 := Lib.hid (HO.out.on b6); have R6 := Lib.hid (HRA.out.on b6); have H7 := Lib.hid (H6.out.bad x); have R7 := Lib.hid (R6.out.other (grown_set w6 (w.heap.size + 1 + 1) 0 (.int .i64 x)) (by have := SZ1.out; omega)); clear b6 b2 s2 bf sf q0 q1 q2 q3 q4 q5 q6 qf; obtain ⟨b2, s2, bf, sf⟩ := H6.out.cells; obtain ⟨b3, s3, _, _⟩ := H7.out.cells; simp only at b2 s2 b3 s3; obtain ⟨q0, q1, q2, q3, q4, q5, q6, _⟩ := blk7 H7.out.fb; obtain ⟨z0, z1, z2, z3, z4, z5, z6, zf⟩ := blk7 H7.out.fz)
          go_region
          go_wp2
          obtain ⟨u0, u1, u2, u3, u4, u5, u6, _, gput⟩ := blk7_put H7.out.fz (.int .i64 0) (.int .i64 0) (.int .i64 0) (.bool false) (.int .i64 0) (.slice none 0 0) (.slice none 0 0)
          have GP := Lib.hid gput
          clear gput z0 z1 z2 z3 z4 z5 z6 zf
          (try simp only [Exit.inBlock, Exit.then])
          refine bodyPost_ret (by simp [results, Try.results9, go_sem, u0, u1, u2, u3, u4, u5, u6]; try rfl) rfl ?_
          exact refDec_er (grown_from (H7.out.be) (Nat.le_succ _) GP.out).drew (HDE.out.trans (show (if faultF F = 0 then _ else _) = _ by rw [if_neg (by rw [HFX.out]; exact hx0), HFX.out])) rfl
      · have ge : (e == 0) = false := by simp [he]
        have ge2 : (e != 0) = true := by simp [he]
        have HDE := Lib.hid (HD.out.trans (congrArg finF (decPsS_bad (σ := (e, t)) he)))
        obtain ⟨z0, z1, z2, z3, z4, z5, z6, zf⟩ := blk7 HO.out.fz
        go_wp2_with fail
        go_region
        go_wp2
        obtain ⟨u0, u1, u2, u3, u4, u5, u6, _, gput⟩ := blk7_put HO.out.fz (.int .i64 0) (.int .i64 0) (.int .i64 0) (.bool false) (.int .i64 0) (.slice none 0 0) (.slice none 0 0)
        have GP := Lib.hid gput
        clear gput z0 z1 z2 z3 z4 z5 z6 zf
        (try simp only [Exit.inBlock, Exit.then])
        refine bodyPost_ret (by simp [results, Try.results9, go_sem, u0, u1, u2, u3, u4, u5, u6]; try rfl) rfl ?_
        exact refDec_er (grown_from (HO.out.be) (Nat.le_succ _) GP.out).drew (HDE.out) rfl

set_option maxRecDepth 100000 in
set_option maxHeartbeats 8000000 in
theorem refFrO_n15 (zs : List Int) (hy : Byt zs) (hl : zs.length ≤ 140737488351232) (w : World) (n e1 : Int) (t1 : List Int) (hN : numS (0, zs) = (n, (e1, t1))) (he1 : e1 = 0) (hn : n = 15) (ps : List Int) (hp : partsOf 8 = some ps) :
    Calls Try.prog 9 #[.string (strOfNums zs)] w (RefDec zs w) := by
  have hmf : ∀ (fn : Fn) (first cap : Array Value) (w : World), (Instr.makeFunc fn first cap).run Try.prog w = .ok (.func fn first cap) w := fun fn first cap w => rfl
  obtain ⟨S, hS⟩ : ∃ S, strOfNums zs = S := ⟨_, rfl⟩
  have hsz : S.size = zs.length := by rw [← hS]; exact strOfNums_size zs
  have HSZ := Lib.hid hsz
  rw [hS]
  obtain ⟨f0, f1, f2⟩ := three_blocks w #[.string S] #[.int .i64 0, .int .i64 0, .int .i64 0, .bool false, .int .i64 0, .slice none 0 0, .slice none 0 0] #[.int .i64 0] 9 25 26
  have FZ := Lib.hid f1
  have HA := Lib.hid (show RefAt (((w.alloc (.cells #[.string S] 9)).alloc (.cells #[.int .i64 0, .int .i64 0, .int .i64 0, .bool false, .int .i64 0, .slice none 0 0, .slice none 0 0] 25)).alloc (.cells #[.int .i64 0] 26)) w.heap.size (w.heap.size + 1 + 1) (0, zs) from ⟨by rw [hS]; exact f0, f2, by omega⟩)
  have HW := Lib.hid ((((Below.refl w.heap.size w).alloc (Nat.le_refl _) (.cells #[.string S] 9)).alloc (by simp) (.cells #[.int .i64 0, .int .i64 0, .int .i64 0, .bool false, .int .i64 0, .slice none 0 0, .slice none 0 0] 25)).alloc (by simp; omega) (.cells #[.int .i64 0] 26))
  have hs0 : (S.size : Int) ≤ 140737488351232 := by omega
  clear hS hsz f0 f1 f2
  have bN := numS_bd (σ := (0, zs)) hy
  rw [hN] at bN
  obtain ⟨n0, n1, hy1, hl1⟩ := bN
  simp only at n0 n1 hy1 hl1
  have HN := Lib.hid hN
  clear hN
  go_enter Try.func9, Try.ntmps9
  go_wp2_with fail
  refine (numC_any _ _ (0, zs) _ HA.out hy (by simp only; omega)).mono ?_
  rintro e w1 ⟨rfl, ha1, m1⟩
  rw [HN.out] at ha1 ⊢
  simp only at ha1 ⊢
  have hw3 : (((w.alloc (.cells #[.string S] 9)).alloc (.cells #[.int .i64 0, .int .i64 0, .int .i64 0, .bool false, .int .i64 0, .slice none 0 0, .slice none 0 0] 25)).alloc (.cells #[.int .i64 0] 26)).heap.size = w.heap.size + 1 + 1 + 1 := by simp
  have HA1 := Lib.hid ha1
  have BW1 := Lib.hid (m1.below HW.out (by omega) (by omega) (by rw [hw3]; omega))
  have FZ1 := Lib.hid ((m1.block (w.heap.size + 1) (by rw [hw3]; omega) (by omega) (by omega)).trans FZ.out)
  have SZ1 := Lib.hid (show w.heap.size + 1 + 1 + 1 ≤ w1.heap.size from hw3 ▸ m1.size)
  clear ha1 m1 hw3
  have HX := Lib.hid ((Below.refl w1.heap.size w1).alloc (Nat.le_refl _) (.cells #[.int .i64 n, .int .i64 0, .int .i64 0, .bool false, .int .i64 0, .slice none 0 0, .slice none 0 0] 25))
  have FF := Lib.hid (heap_alloc_new w1 (.cells #[.int .i64 n, .int .i64 0, .int .i64 0, .bool false, .int .i64 0, .slice none 0 0, .slice none 0 0] 25))
  have FZ2 := Lib.hid ((HX.out.block _ (lt_of_block FZ1.out)).trans FZ1.out)
  have FB2 := Lib.hid ((HX.out.block _ (lt_of_block HA1.out.b)).trans HA1.out.b)
  have b0 : (w1.alloc (.cells #[.int .i64 n, .int .i64 0, .int .i64 0, .bool false, .int .i64 0, .slice none 0 0, .slice none 0 0] 25)).cell? ⟨w.heap.size + 1 + 1, 0, none⟩ = some (.int .i64 e1) := blk_cell FB2.out 0
  subst he1
  subst hn
  have DEC0 := Lib.hid (show decF zs = finF (decPsS (ps.drop 0) ⟨8, 0, 0, true, 0, [], []⟩ (0, t1)) from decF_at (rd_ok' HN.out) (by decide) hp)
  obtain ⟨q0, q1, q2, q3, q4, q5, q6, qf⟩ := blk7 FF.out
  have HHAS := Lib.hid (refHas_some hp (wf_kind (n := 8) (by decide) (by decide)))
  obtain ⟨pb, pl9⟩ := parts_byt hp
  have HIN := Lib.hid (parts8 hp)
  have HONE := Lib.hid (parts_one hp)
  clear hp
  have HX8 := Lib.hid ((Below.refl w1.heap.size w1).alloc (Nat.le_refl _) (.cells #[.int .i64 8, .int .i64 0, .int .i64 0, .bool true, .int .i64 0, .slice none 0 0, .slice none 0 0] 25))
  have FF8 := Lib.hid (heap_alloc_new w1 (.cells #[.int .i64 8, .int .i64 0, .int .i64 0, .bool true, .int .i64 0, .slice none 0 0, .slice none 0 0] 25))
  have FZ8 := Lib.hid ((HX8.out.block _ (lt_of_block FZ1.out)).trans FZ1.out)
  go_wp2_with (go_at_call 17; refine (HHAS.out _).mono ?_; rintro e w2 ⟨rfl, b2⟩; have B2 := Lib.hid (HX8.out.trans (b2.mono HX8.out.size)); have HA2 := Lib.hid ((HA1.out.on HX8.out).on b2); have FZ3 := Lib.hid ((b2.block _ (lt_of_block FZ8.out)).trans FZ8.out); have FF3 := Lib.hid ((b2.block _ (lt_of_block FF8.out)).trans FF8.out); clear b2 q0 q1 q2 q3 q4 q5 q6 qf b0)
  have HO0 := Lib.hid (show FoAt w w1.heap.size (0, t1) ⟨8, 0, 0, true, 0, [], []⟩ (.slice none 0 0) (.slice none 0 0) zs.length w2 from ⟨HA2.out, FZ3.out, FF3.out, by have := SZ1.out; omega, BW1.out.trans (B2.out.mono BW1.out.size), hy1, hl1, OwnR.nil _ _ _, BSl.nil _ _, SlFrom.nil⟩)
  obtain ⟨T, hT⟩ : ∃ T, strOfNums ps = T := ⟨_, rfl⟩
  have hTs : T.size = ps.length := by rw [← hT]; exact strOfNums_size ps
  have HG := Lib.hid (show ∀ k (h : k < T.size), ((T[k]'h).toNat : Int) = ps.getD k 0 from fun k h => by subst hT; exact str_get pb k h)
  rw [hT]
  clear hT
  go_loopg [11] ps.length (fun g i wr => ∃ (j : Nat) (F : Fr) (r d : Value) (σ : St), j + g = ps.length ∧ i = .int .i64 j ∧ Hid (FoAt w w1.heap.size σ F r d zs.length wr) ∧ Hid (F.kind = 8) ∧ Hid (j = 0 → F.data = [] ∧ F.rs = []) ∧ Hid (decF zs = finF (decPsS (ps.drop j) F σ)))
  case atStart => exact ⟨0, ⟨8, 0, 0, true, 0, [], []⟩, _, _, (0, t1), by omega, rfl, HO0, Lib.hid rfl, Lib.hid (fun _ => ⟨rfl, rfl⟩), DEC0⟩
  case round =>
    obtain ⟨j, F, r, d, ⟨e, t⟩, hj, rfl, HO, HK, HZ0, HD⟩ := hrel
    obtain ⟨b2, s2, bf, sf⟩ := HO.out.cells
    simp only at b2 s2
    by_cases hlt : j < ps.length
    · by_cases he : e = 0
      · subst he
        have hlt3 : j < T.size := by omega
        have hx := HG.out j hlt3
        have hin := HIN.out j hlt
        have hdj := drop_i ps j hlt
        obtain ⟨z, hz⟩ : ∃ z, ps.getD j 0 = z := ⟨_, rfl⟩
        rw [hz] at hx hin
        rcases hin with rfl | rfl | rfl | rfl
        · obtain ⟨⟨v, σ1⟩, hN1⟩ : ∃ x, numS (0, t) = x := ⟨_, rfl⟩
          have bN1 := numS_bd (σ := (0, t)) HO.out.yt
          rw [hN1] at bN1
          obtain ⟨_, _, hy5, hl5⟩ := bN1
          have HN1 := Lib.hid hN1
          have HNX := Lib.hid (HD.out.trans (congrArg finF (show decPsS (ps.drop j) F (0, t) = decPsS (ps.drop (j + 1)) { F with id := v } σ1 by rw [hdj, hz]; exact stepS_i hN1)))
          clear hN1 hz hdj HD
          go_wp2_with (go_at_call 22; refine (numC_any _ _ (0, t) _ HO.out.ra HO.out.yt (Nat.le_trans HO.out.ln (by omega))).mono ?_; rintro e w5 ⟨rfl, ha5, m5⟩; rw [HN1.out] at ha5 ⊢; simp only; have H5 := Lib.hid (HO.out.num ha5 m5 hy5 (Nat.le_trans hl5 HO.out.ln)); clear b2 s2 bf sf ha5 m5; obtain ⟨q0, q1, q2, q3, q4, q5, q6, qf⟩ := blk7 H5.out.fb)
          go_roundg (gk - 1)
          case measure => omega
          case rel => exact ⟨j + 1, { F with id := v }, r, d, σ1, by omega, by go_num, Lib.hid (H5.out.set 1 (.int .i64 v) rfl rfl rfl), Lib.hid HK.out, Lib.hid (fun h => absurd h (Nat.succ_ne_zero _)), HNX⟩
        · obtain ⟨⟨v, σ1⟩, hN1⟩ : ∃ x, numS (0, t) = x := ⟨_, rfl⟩
          have bN1 := numS_bd (σ := (0, t)) HO.out.yt
          rw [hN1] at bN1
          obtain ⟨_, _, hy5, hl5⟩ := bN1
          have HN1 := Lib.hid hN1
          have HNX := Lib.hid (HD.out.trans (congrArg finF (show decPsS (ps.drop j) F (0, t) = decPsS (ps.drop (j + 1)) { F with off := v } σ1 by rw [hdj, hz]; exact stepS_o hN1)))
          clear hN1 hz hdj HD
          go_wp2_with (go_at_call 22; refine (numC_any _ _ (0, t) _ HO.out.ra HO.out.yt (Nat.le_trans HO.out.ln (by omega))).mono ?_; rintro e w5 ⟨rfl, ha5, m5⟩; rw [HN1.out] at ha5 ⊢; simp only; have H5 := Lib.hid (HO.out.num ha5 m5 hy5 (Nat.le_trans hl5 HO.out.ln)); clear b2 s2 bf sf ha5 m5; obtain ⟨q0, q1, q2, q3, q4, q5, q6, qf⟩ := blk7 H5.out.fb)
          go_roundg (gk - 1)
          case measure => omega
          case rel => exact ⟨j + 1, { F with off := v }, r, d, σ1, by omega, by go_num, Lib.hid (H5.out.set 2 (.int .i64 v) rfl rfl rfl), Lib.hid HK.out, Lib.hid (fun h => absurd h (Nat.succ_ne_zero _)), HNX⟩
        · obtain ⟨⟨v, e5, t5⟩, hN1⟩ : ∃ x, numS (0, t) = x := ⟨_, rfl⟩
          have bN1 := numS_bd (σ := (0, t)) HO.out.yt
          rw [hN1] at bN1
          obtain ⟨v0, v1, hy5, hl5⟩ := bN1
          simp only at v0 v1 hy5 hl5
          have HN1 := Lib.hid hN1
          have hts : (strOfNums t5).size = t5.length := strOfNums_size t5
          have ltl : t5.length ≤ 140737488351232 := Nat.le_trans (Nat.le_trans hl5 HO.out.ln) hl
          have HSTEP := Lib.hid (fun (x : Int) (hx : x ≠ 0) (hd : dataS (0, t) = ([], (x, t5))) => HD.out.trans (congrArg finF (show decPsS (ps.drop j) F (0, t) = decPsS (ps.drop (j + 1)) F (x, t5) by rw [hdj, hz, stepS_d hd, decPsS_bad (σ := (x, t5)) hx, decPsS_bad (σ := (x, t5)) hx])))
          have HSTOK := Lib.hid (fun (ys u : List Int) (hd : dataS (0, t) = (ys, (0, u))) => HD.out.trans (congrArg finF (show decPsS (ps.drop j) F (0, t) = decPsS (ps.drop (j + 1)) { F with data := ys } (0, u) by rw [hdj, hz]; exact stepS_d hd)))
          clear hz hdj HD
          by_cases c5 : e5 = 0
          · subst c5
            by_cases cb : 120 < v
            · have NX := Lib.hid (HSTEP.out 1 (by decide) (data_big HN1.out cb))
              go_wp2_with (go_at_call 22; refine (numC_any _ _ (0, t) _ HO.out.ra HO.out.yt (Nat.le_trans HO.out.ln (by omega))).mono ?_; rintro e w5 ⟨rfl, ha5, m5⟩; rw [HN1.out] at ha5 ⊢; simp only; have H5 := Lib.hid (HO.out.num ha5 m5 hy5 (Nat.le_trans hl5 HO.out.ln)); clear b2 s2 bf sf ha5 m5; obtain ⟨b2, s2, bf, sf⟩ := H5.out.cells; simp only at b2 s2)
              go_roundg (gk - 1)
              case measure => omega
              case rel => exact ⟨j + 1, F, r, d, (1, t5), by omega, by go_num, Lib.hid (H5.out.bad 1), HK, Lib.hid (fun h => absurd h (Nat.succ_ne_zero _)), NX⟩
            · by_cases cs5 : (t5.length : Int) < v
              · have NX := Lib.hid (HSTEP.out 4 (by decide) (data_short HN1.out cb cs5))
                go_wp2_with (go_at_call 22; refine (numC_any _ _ (0, t) _ HO.out.ra HO.out.yt (Nat.le_trans HO.out.ln (by omega))).mono ?_; rintro e w5 ⟨rfl, ha5, m5⟩; rw [HN1.out] at ha5 ⊢; simp only; have H5 := Lib.hid (HO.out.num ha5 m5 hy5 (Nat.le_trans hl5 HO.out.ln)); clear b2 s2 bf sf ha5 m5; obtain ⟨b2, s2, bf, sf⟩ := H5.out.cells; simp only at b2 s2)
                go_roundg (gk - 1)
                case measure => omega
                case rel => exact ⟨j + 1, F, r, d, (4, t5), by omega, by go_num, Lib.hid (H5.out.bad 4), HK, Lib.hid (fun h => absurd h (Nat.succ_ne_zero _)), NX⟩
              · obtain ⟨m, rfl⟩ : ∃ m : Nat, v = (m : Int) := ⟨v.toNat, by omega⟩
                have NX := Lib.hid (HSTOK.out (t5.take m) (t5.drop m) (data_ok HN1.out cb cs5))
                have hm5 : m ≤ t5.length := by omega
                have hm120 : (t5.take m).length ≤ 120 := by rw [List.length_take]; omega
                have hcut : (strOfNums t5).extract 0 m = strOfNums (t5.take m) := str_cut t5 m
                have hrest : (strOfNums t5).extract m t5.length = strOfNums (t5.drop m) := by rw [← hts]; exact str_drop t5 m
                have hlm := Lib.hid (show (t5.take m).length = m by rw [List.length_take]; omega)
                have hms : (m : Int) ≤ (t5.length : Int) := by omega
                have m0 : (0 : Int) ≤ (m : Int) := by omega
                go_wp2_with (go_at_call 22; refine (numC_any _ _ (0, t) _ HO.out.ra HO.out.yt (Nat.le_trans HO.out.ln (by omega))).mono ?_; rintro e w5 ⟨rfl, ha5, m5⟩; rw [HN1.out] at ha5 ⊢; simp only; have H5 := Lib.hid (HO.out.num ha5 m5 hy5 (Nat.le_trans hl5 HO.out.ln)); clear b2 s2 bf sf ha5 m5; obtain ⟨b2, s2, bf, sf⟩ := H5.out.cells; simp only at b2 s2; obtain ⟨C, w6, hrun, hb6, hd6⟩ := conv_any (t5.take m) (hy5.take m) hm120 w5; rw [hlm.out] at hrun hd6; have H6 := Lib.hid (H5.out.on hb6); obtain ⟨q0, q1, q2, q3, q4, q5, q6, qf⟩ := blk7 H6.out.fb; have hpf := (lt_of_block H5.out.fb); have H7 := Lib.hid (H6.out.setD hd6 (SlFrom.at hpf)); have H8 := Lib.hid (H7.out.left (hy5.drop m) (by rw [List.length_drop]; omega)); obtain ⟨_, s7, _, sf7⟩ := H7.out.cells; simp only at s7; clear hb6 hd6)
                go_roundg (gk - 1)
                case measure => omega
                case rel => exact ⟨j + 1, { F with data := t5.take m }, r, _, (0, t5.drop m), by omega, by go_num, H8, Lib.hid HK.out, Lib.hid (fun h => absurd h (Nat.succ_ne_zero _)), NX⟩
          · have NX := Lib.hid (HSTEP.out e5 c5 (data_bad HN1.out c5))
            have ge5 : (e5 != 0) = true := by simp [c5]
            go_wp2_with (go_at_call 22; refine (numC_any _ _ (0, t) _ HO.out.ra HO.out.yt (Nat.le_trans HO.out.ln (by omega))).mono ?_; rintro e w5 ⟨rfl, ha5, m5⟩; rw [HN1.out] at ha5 ⊢; simp only; have H5 := Lib.hid (HO.out.num ha5 m5 hy5 (Nat.le_trans hl5 HO.out.ln)); clear b2 s2 bf sf ha5 m5; obtain ⟨b2, s2, bf, sf⟩ := H5.out.cells; simp only at b2 s2)
            go_roundg (gk - 1)
            case measure => omega
            case rel => exact ⟨j + 1, F, r, d, (e5, t5), by omega, by go_num, H5, HK, Lib.hid (fun h => absurd h (Nat.succ_ne_zero _)), NX⟩
        · have HNX := Lib.hid (HD.out.trans (congrArg finF (show decPsS (ps.drop j) F (0, t) = decPsS (ps.drop (j + 1)) F (0, t) by rw [hdj, hz]; rfl)))
          clear hz hdj HD
          go_wp2_with fail
          go_roundg (gk - 1)
          case measure => omega
          case rel => exact ⟨j + 1, F, r, d, (0, t), by omega, by go_num, HO, HK, Lib.hid (fun h => absurd h (Nat.succ_ne_zero _)), HNX⟩
      · have ge : (e == 0) = false := by simp [he]
        have ge2 : (e != 0) = true := by simp [he]
        have HDE := Lib.hid (HD.out.trans (congrArg finF (decPsS_bad (σ := (e, t)) he)))
        obtain ⟨z0, z1, z2, z3, z4, z5, z6, zf⟩ := blk7 HO.out.fz
        go_wp2_with fail
        go_region
        go_wp2
        obtain ⟨u0, u1, u2, u3, u4, u5, u6, _, gput⟩ := blk7_put HO.out.fz (.int .i64 0) (.int .i64 0) (.int .i64 0) (.bool false) (.int .i64 0) (.slice none 0 0) (.slice none 0 0)
        have GP := Lib.hid gput
        clear gput z0 z1 z2 z3 z4 z5 z6 zf
        (try simp only [Exit.inBlock, Exit.then])
        refine bodyPost_ret (by simp [results, Try.results9, go_sem, u0, u1, u2, u3, u4, u5, u6]; try rfl) rfl ?_
        exact refDec_er (grown_from (HO.out.be) (Nat.le_succ _) GP.out).drew (HDE.out) rfl
    · have hjl : j = ps.length := by omega
      by_cases he : e = 0
      · subst he
        obtain ⟨Ar, cr, hr1, _, _, _⟩ := (OwnR.slice HO.out.rs)
        subst hr1
        obtain ⟨Ad, cd, hd1, _, _, _, _⟩ := HO.out.da.ex
        subst hd1
        have HRA := Lib.hid (show RowsAt wr (w1.heap.size + 1) (.slice Ar F.rs.length cr) (.slice Ad F.data.length cd) F from ⟨HO.out.rs, HO.out.da, HO.out.dn⟩)
        have HDE := Lib.hid (show decF zs = finF (.ok (F, t)) by rw [HD.out, hjl, List.drop_of_length_le (Nat.le_refl _)]; rfl)
        have HWF := Lib.hid (show (Lit.int .i64 F.kind).wf = true by rw [HK.out]; exact wf_kind (by decide) (by decide))
        obtain ⟨x, hx⟩ : ∃ x, faultF F = x := ⟨_, rfl⟩
        have HFX := Lib.hid hx
        obtain ⟨q0, q1, q2, q3, q4, q5, q6, qf⟩ := blk7 HO.out.fb
        have ltl : t.length ≤ 140737488351232 := Nat.le_trans HO.out.ln hl
        clear hx HD
        by_cases hx0 : x = 0
        · subst hx0
          go_wp2_with (go_at_call 7; refine (refFault_any _ F _ HRA.out.val HWF.out).mono ?_; rintro e w6 ⟨rfl, b6⟩; rw [HFX.out]; have H6 := Lib.hid (HO.out.on b6); have R6 := Lib.hid (HRA.out.on b6); have H7 := Lib.hid (H6.out.bad 0); have R7 := Lib.hid (R6.out.other (grown_set w6 (w.heap.size + 1 + 1) 0 (.int .i64 0)) (by have := SZ1.out; omega)); clear b6 b2 s2 bf sf q0 q1 q2 q3 q4 q5 q6 qf; obtain ⟨b2, s2, bf, sf⟩ := H6.out.cells; obtain ⟨b3, s3, _, _⟩ := H7.out.cells; simp only at b2 s2 b3 s3; obtain ⟨q0, q1, q2, q3, q4, q5, q6, _⟩ := blk7 H7.out.fb; obtain ⟨z0, z1, z2, z3, z4, z5, z6, zf⟩ := blk7 H7.out.fz)
          have hts : (strOfNums t).size = t.length := strOfNums_size t
          go_region
          go_wp2
          obtain ⟨u0, u1, u2, u3, u4, u5, u6, _, gput⟩ := blk7_put H7.out.fz (.int .i64 F.kind) (.int .i64 F.id) (.int .i64 F.off) (.bool F.fin) (.int .i64 F.code) (.slice Ar F.rs.length cr) (.slice Ad F.data.length cd)
          have GP := Lib.hid gput
          clear gput z0 z1 z2 z3 z4 z5 z6 zf
          (try simp only [Exit.inBlock, Exit.then])
          refine bodyPost_ret (by simp [results, Try.results9, go_sem, u0, u1, u2, u3, u4, u5, u6]; try rfl) rfl ?_
          exact refDec_ok (grown_from H7.out.be (Nat.le_succ _) GP.out).drew (HDE.out.trans (if_pos HFX.out)) (by rw [HSZ.out]) ((R7.out.other GP.out (by have := SZ1.out; omega)).on (Below.refl _ _).drew).val
        · have gx : (x == 0) = false := by simp [hx0]
          have gx2 : (x != 0) = true := by simp [hx0]
          go_wp2_with (go_at_call 7; refine (refFault_any _ F _ HRA.out.val HWF.out).mono ?_; rintro e w6 ⟨rfl, b6⟩; rw [HFX.out]; have H6 := Lib.hid (HO.out.on b6); have R6 := Lib.hid (HRA.out.on b6); have H7 := Lib.hid (H6.out.bad x); have R7 := Lib.hid (R6.out.other (grown_set w6 (w.heap.size + 1 + 1) 0 (.int .i64 x)) (by have := SZ1.out; omega)); clear b6 b2 s2 bf sf q0 q1 q2 q3 q4 q5 q6 qf; obtain ⟨b2, s2, bf, sf⟩ := H6.out.cells; obtain ⟨b3, s3, _, _⟩ := H7.out.cells; simp only at b2 s2 b3 s3; obtain ⟨q0, q1, q2, q3, q4, q5, q6, _⟩ := blk7 H7.out.fb; obtain ⟨z0, z1, z2, z3, z4, z5, z6, zf⟩ := blk7 H7.out.fz)
          go_region
          go_wp2
          obtain ⟨u0, u1, u2, u3, u4, u5, u6, _, gput⟩ := blk7_put H7.out.fz (.int .i64 0) (.int .i64 0) (.int .i64 0) (.bool false) (.int .i64 0) (.slice none 0 0) (.slice none 0 0)
          have GP := Lib.hid gput
          clear gput z0 z1 z2 z3 z4 z5 z6 zf
          (try simp only [Exit.inBlock, Exit.then])
          refine bodyPost_ret (by simp [results, Try.results9, go_sem, u0, u1, u2, u3, u4, u5, u6]; try rfl) rfl ?_
          exact refDec_er (grown_from (H7.out.be) (Nat.le_succ _) GP.out).drew (HDE.out.trans (show (if faultF F = 0 then _ else _) = _ by rw [if_neg (by rw [HFX.out]; exact hx0), HFX.out])) rfl
      · have ge : (e == 0) = false := by simp [he]
        have ge2 : (e != 0) = true := by simp [he]
        have HDE := Lib.hid (HD.out.trans (congrArg finF (decPsS_bad (σ := (e, t)) he)))
        obtain ⟨z0, z1, z2, z3, z4, z5, z6, zf⟩ := blk7 HO.out.fz
        go_wp2_with fail
        go_region
        go_wp2
        obtain ⟨u0, u1, u2, u3, u4, u5, u6, _, gput⟩ := blk7_put HO.out.fz (.int .i64 0) (.int .i64 0) (.int .i64 0) (.bool false) (.int .i64 0) (.slice none 0 0) (.slice none 0 0)
        have GP := Lib.hid gput
        clear gput z0 z1 z2 z3 z4 z5 z6 zf
        (try simp only [Exit.inBlock, Exit.then])
        refine bodyPost_ret (by simp [results, Try.results9, go_sem, u0, u1, u2, u3, u4, u5, u6]; try rfl) rfl ?_
        exact refDec_er (grown_from (HO.out.be) (Nat.le_succ _) GP.out).drew (HDE.out) rfl
end Go.Proofs.Ytjeocggocloigaa
