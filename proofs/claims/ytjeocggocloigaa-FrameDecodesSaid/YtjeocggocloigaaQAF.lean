/- Texts of the proofs, joined. -/
import Derived.Test.YtjeocggocloigaaQAD
/- The document's answer on bytes that a frame begins with: FrameOf (any kind but a Stream). -/
namespace Go.Proofs.Ytjeocggocloigaa
set_option linter.unusedVariables false
open Go.RowKit P

set_option maxRecDepth 100000 in
set_option maxHeartbeats 8000000 in
theorem refFrO_x (zs : List Int) (hy : Byt zs) (hl : zs.length ≤ 140737488351232) (w : World) (n e1 : Int) (t1 : List Int) (hN : numS (0, zs) = (n, (e1, t1))) (he1 : e1 = 0) (n8 : n ≠ 8) (n14 : n ≠ 14) (n15 : n ≠ 15) (ps : List Int) (hp : partsOf n = some ps) :
    Calls Try.prog 9 #[.string (strOfNums zs)] w (RefDec zs w) := by
  have hmf : ∀ (fn : Fn) (first cap : Array Value) (w : World), (Instr.makeFunc fn first cap).run Try.prog w = .ok (.func fn first cap) w := fun fn first cap w => rfl
  obtain ⟨S, hS⟩ : ∃ S, strOfNums zs = S := ⟨_, rfl⟩
  have hsz : S.size = zs.length := by rw [← hS]; exact strOfNums_size zs
  have HSZ := Lib.hid hsz
  rw [hS]
  obtain ⟨f0, f1, f2⟩ := three_blocks w #[.string S] #[.int .i64 0, .int .i64 0, .int .i64 0, .bool false, .int .i64 0, .slice none 0 0, .slice none 0 0] #[.int .i64 0] 9 25 26
  have FZ := Lib.hid f1
  have HA := Lib.hid (show RefAt (((w.alloc (.cells #[.string S] 9)).alloc (.cells #[.int .i64 0, .int .i64 0, .int .i64 0, .bool false, .int .i64 0, .slice none 0 0, .slice none 0 0] 25)).alloc (.cells #[.int .i64 0] 26)) w.heap.size (w.heap.size + 1 + 1) (0, zs) from ⟨by rw [hS]; exact f0, f2, by omega⟩)
  have HW := Lib.hid ((((Below.refl w.heap.size w).alloc (Nat.le_refl _) (.cells #[.string S] 9)).alloc (by simp) (.cells #[.int .i64 0, .int .i64 0, .int .i64 0, .bool false, .int .i64 0, .slice none 0 0, .slice none 0 0] 25)).alloc (by simp; omega) (.cells #[.int .i64 0] 26))
  have hs0 : (S.size : Int) ≤ 140737488351232 := by omega
  clear hS hsz f0 f1 f2
  have bN := numS_bd (σ := (0, zs)) hy
  rw [hN] at bN
  obtain ⟨n0, n1, hy1, hl1⟩ := bN
  simp only at n0 n1 hy1 hl1
  have HN := Lib.hid hN
  clear hN
  go_enter Try.func9, Try.ntmps9
  go_wp2_with fail
  refine (numC_any _ _ (0, zs) _ HA.out hy (by simp only; omega)).mono ?_
  rintro e w1 ⟨rfl, ha1, m1⟩
  rw [HN.out] at ha1 ⊢
  simp only at ha1 ⊢
  have hw3 : (((w.alloc (.cells #[.string S] 9)).alloc (.cells #[.int .i64 0, .int .i64 0, .int .i64 0, .bool false, .int .i64 0, .slice none 0 0, .slice none 0 0] 25)).alloc (.cells #[.int .i64 0] 26)).heap.size = w.heap.size + 1 + 1 + 1 := by simp
  have HA1 := Lib.hid ha1
  have BW1 := Lib.hid (m1.below HW.out (by omega) (by omega) (by rw [hw3]; omega))
  have FZ1 := Lib.hid ((m1.block (w.heap.size + 1) (by rw [hw3]; omega) (by omega) (by omega)).trans FZ.out)
  have SZ1 := Lib.hid (show w.heap.size + 1 + 1 + 1 ≤ w1.heap.size from hw3 ▸ m1.size)
  clear ha1 m1 hw3
  have HX := Lib.hid ((Below.refl w1.heap.size w1).alloc (Nat.le_refl _) (.cells #[.int .i64 n, .int .i64 0, .int .i64 0, .bool false, .int .i64 0, .slice none 0 0, .slice none 0 0] 25))
  have FF := Lib.hid (heap_alloc_new w1 (.cells #[.int .i64 n, .int .i64 0, .int .i64 0, .bool false, .int .i64 0, .slice none 0 0, .slice none 0 0] 25))
  have FZ2 := Lib.hid ((HX.out.block _ (lt_of_block FZ1.out)).trans FZ1.out)
  have FB2 := Lib.hid ((HX.out.block _ (lt_of_block HA1.out.b)).trans HA1.out.b)
  have b0 : (w1.alloc (.cells #[.int .i64 n, .int .i64 0, .int .i64 0, .bool false, .int .i64 0, .slice none 0 0, .slice none 0 0] 25)).cell? ⟨w.heap.size + 1 + 1, 0, none⟩ = some (.int .i64 e1) := blk_cell FB2.out 0
  subst he1
  have DEC0 := Lib.hid (show decF zs = finF (decPsS (ps.drop 0) ⟨n, 0, 0, false, 0, [], []⟩ (0, t1)) by
    have e : (if n = 14 ∨ n = 15 then (8 : Int) else n) = n := if_neg (by omega)
    have := decF_at (rd_ok' HN.out) n8 (by rw [e]; exact hp)
    rw [e, show decide (n = 15) = false by simp [n15]] at this
    exact this)
  obtain ⟨q0, q1, q2, q3, q4, q5, q6, qf⟩ := blk7 FF.out
  have HHAS := Lib.hid (refHas_some hp (wf_kind n0 n1))
  obtain ⟨pb, pl9⟩ := parts_byt hp
  have HIN := Lib.hid (parts_in hp)
  have HONE := Lib.hid (parts_one hp)
  have g8 : (n == 8) = false := by simp [n8]
  have g14 : (n == 14) = false := by simp [n14]
  have g15 : (n == 15) = false := by simp [n15]
  clear n8 n14 n15 hp
  go_wp2_with (go_at_call 17; refine (HHAS.out _).mono ?_; rintro e w2 ⟨rfl, b2⟩; have B2 := Lib.hid (HX.out.trans (b2.mono HX.out.size)); have HA2 := Lib.hid ((HA1.out.on HX.out).on b2); have FZ3 := Lib.hid ((b2.block _ (lt_of_block FZ2.out)).trans FZ2.out); have FF3 := Lib.hid ((b2.block _ (lt_of_block FF.out)).trans FF.out); clear b2 q0 q1 q2 q3 q4 q5 q6 qf b0)
  clear g8 g14 g15
  have HO0 := Lib.hid (show FoAt w w1.heap.size (0, t1) ⟨n, 0, 0, false, 0, [], []⟩ (.slice none 0 0) (.slice none 0 0) zs.length w2 from ⟨HA2.out, FZ3.out, FF3.out, by have := SZ1.out; omega, BW1.out.trans (B2.out.mono BW1.out.size), hy1, hl1, OwnR.nil _ _ _, BSl.nil _ _, SlFrom.nil⟩)
  obtain ⟨T, hT⟩ : ∃ T, strOfNums ps = T := ⟨_, rfl⟩
  have hTs : T.size = ps.length := by rw [← hT]; exact strOfNums_size ps
  have HG := Lib.hid (show ∀ k (h : k < T.size), ((T[k]'h).toNat : Int) = ps.getD k 0 from fun k h => by subst hT; exact str_get pb k h)
  rw [hT]
  clear hT
  go_loopg [11] ps.length (fun g i wr => ∃ (j : Nat) (F : Fr) (r d : Value) (σ : St), j + g = ps.length ∧ i = .int .i64 j ∧ Hid (FoAt w w1.heap.size σ F r d zs.length wr) ∧ Hid (F.kind = n) ∧ Hid (j = 0 → F.data = [] ∧ F.rs = []) ∧ Hid (decF zs = finF (decPsS (ps.drop j) F σ)))
  case atStart => exact ⟨0, ⟨n, 0, 0, false, 0, [], []⟩, _, _, (0, t1), by omega, rfl, HO0, Lib.hid rfl, Lib.hid (fun _ => ⟨rfl, rfl⟩), DEC0⟩
  case round =>
    obtain ⟨j, F, r, d, ⟨e, t⟩, hj, rfl, HO, HK, HZ0, HD⟩ := hrel
    obtain ⟨b2, s2, bf, sf⟩ := HO.out.cells
    simp only at b2 s2
    by_cases hlt : j < ps.length
    · by_cases he : e = 0
      · subst he
        have hlt3 : j < T.size := by omega
        have hx := HG.out j hlt3
        have hin := HIN.out j hlt
        have hdj := drop_i ps j hlt
        obtain ⟨z, hz⟩ : ∃ z, ps.getD j 0 = z := ⟨_, rfl⟩
        rw [hz] at hx hin
        rcases hin with rfl | rfl | rfl | rfl | rfl | rfl | rfl
        · obtain ⟨⟨v, σ1⟩, hN1⟩ : ∃ x, numS (0, t) = x := ⟨_, rfl⟩
          have bN1 := numS_bd (σ := (0, t)) HO.out.yt
          rw [hN1] at bN1
          obtain ⟨_, _, hy5, hl5⟩ := bN1
          have HN1 := Lib.hid hN1
          have HNX := Lib.hid (HD.out.trans (congrArg finF (show decPsS (ps.drop j) F (0, t) = decPsS (ps.drop (j + 1)) { F with id := v } σ1 by rw [hdj, hz]; exact stepS_i hN1)))
          clear hN1 hz hdj HD
          go_wp2_with (go_at_call 22; refine (numC_any _ _ (0, t) _ HO.out.ra HO.out.yt (Nat.le_trans HO.out.ln (by omega))).mono ?_; rintro e w5 ⟨rfl, ha5, m5⟩; rw [HN1.out] at ha5 ⊢; simp only; have H5 := Lib.hid (HO.out.num ha5 m5 hy5 (Nat.le_trans hl5 HO.out.ln)); clear b2 s2 bf sf ha5 m5; obtain ⟨q0, q1, q2, q3, q4, q5, q6, qf⟩ := blk7 H5.out.fb)
          go_roundg (gk - 1)
          case measure => omega
          case rel => exact ⟨j + 1, { F with id := v }, r, d, σ1, by omega, by go_num, Lib.hid (H5.out.set 1 (.int .i64 v) rfl rfl rfl), Lib.hid HK.out, Lib.hid (fun h => absurd h (Nat.succ_ne_zero _)), HNX⟩
        · obtain ⟨⟨v, σ1⟩, hN1⟩ : ∃ x, numS (0, t) = x := ⟨_, rfl⟩
          have bN1 := numS_bd (σ := (0, t)) HO.out.yt
          rw [hN1] at bN1
          obtain ⟨_, _, hy5, hl5⟩ := bN1
          have HN1 := Lib.hid hN1
          have HNX := Lib.hid (HD.out.trans (congrArg finF (show decPsS (ps.drop j) F (0, t) = decPsS (ps.drop (j + 1)) { F with off := v } σ1 by rw [hdj, hz]; exact stepS_o hN1)))
          clear hN1 hz hdj HD
          go_wp2_with (go_at_call 22; refine (numC_any _ _ (0, t) _ HO.out.ra HO.out.yt (Nat.le_trans HO.out.ln (by omega))).mono ?_; rintro e w5 ⟨rfl, ha5, m5⟩; rw [HN1.out] at ha5 ⊢; simp only; have H5 := Lib.hid (HO.out.num ha5 m5 hy5 (Nat.le_trans hl5 HO.out.ln)); clear b2 s2 bf sf ha5 m5; obtain ⟨q0, q1, q2, q3, q4, q5, q6, qf⟩ := blk7 H5.out.fb)
          go_roundg (gk - 1)
          case measure => omega
          case rel => exact ⟨j + 1, { F with off := v }, r, d, σ1, by omega, by go_num, Lib.hid (H5.out.set 2 (.int .i64 v) rfl rfl rfl), Lib.hid HK.out, Lib.hid (fun h => absurd h (Nat.succ_ne_zero _)), HNX⟩
        · obtain ⟨⟨v, σ1⟩, hN1⟩ : ∃ x, numS (0, t) = x := ⟨_, rfl⟩
          have bN1 := numS_bd (σ := (0, t)) HO.out.yt
          rw [hN1] at bN1
          obtain ⟨_, _, hy5, hl5⟩ := bN1
          have HN1 := Lib.hid hN1
          have HNX := Lib.hid (HD.out.trans (congrArg finF (show decPsS (ps.drop j) F (0, t) = decPsS (ps.drop (j + 1)) { F with code := v } σ1 by rw [hdj, hz]; exact stepS_c hN1)))
          clear hN1 hz hdj HD
          go_wp2_with (go_at_call 22; refine (numC_any _ _ (0, t) _ HO.out.ra HO.out.yt (Nat.le_trans HO.out.ln (by omega))).mono ?_; rintro e w5 ⟨rfl, ha5, m5⟩; rw [HN1.out] at ha5 ⊢; simp only; have H5 := Lib.hid (HO.out.num ha5 m5 hy5 (Nat.le_trans hl5 HO.out.ln)); clear b2 s2 bf sf ha5 m5; obtain ⟨q0, q1, q2, q3, q4, q5, q6, qf⟩ := blk7 H5.out.fb)
          go_roundg (gk - 1)
          case measure => omega
          case rel => exact ⟨j + 1, { F with code := v }, r, d, σ1, by omega, by go_num, Lib.hid (H5.out.set 4 (.int .i64 v) rfl rfl rfl), Lib.hid HK.out, Lib.hid (fun h => absurd h (Nat.succ_ne_zero _)), HNX⟩
        · have hts : (strOfNums t).size = t.length := strOfNums_size t
          have ltl : t.length ≤ 140737488351232 := Nat.le_trans HO.out.ln hl
          obtain ⟨q0, q1, q2, q3, q4, q5, q6, qf⟩ := blk7 HO.out.fb
          by_cases h8 : t.length < 8
          · have HNX := Lib.hid (HD.out.trans (congrArg finF (show decPsS (ps.drop j) F (0, t) = decPsS (ps.drop (j + 1)) F (4, t) by rw [hdj, hz, stepS_w (word_short h8), decPsS_bad (by show (4 : Int) ≠ 0; decide), decPsS_bad (by show (4 : Int) ≠ 0; decide)])))
            have h8' : (t.length : Int) < 8 := by omega
            have H5 := Lib.hid (HO.out.bad 4)
            clear hz hdj HD
            go_wp2_with fail
            go_roundg (gk - 1)
            case measure => omega
            case rel => exact ⟨j + 1, F, r, d, (4, t), by omega, by go_num, H5, HK, Lib.hid (fun h => absurd h (Nat.succ_ne_zero _)), HNX⟩
          · have h8' : ¬ (t.length : Int) < 8 := by omega
            have h8'' : (8 : Int) ≤ (t.length : Int) := by omega
            have hyt : Byt t := HO.out.yt
            obtain ⟨v, hv⟩ : ∃ v, beFrom 0 (t.take 8) = v := ⟨_, rfl⟩
            have hvb := beFrom_bd 0 t hyt (by omega) 8 (by omega)
            rw [hv] at hvb
            have HNX := Lib.hid (HD.out.trans (congrArg finF (show decPsS (ps.drop j) F (0, t) = decPsS (ps.drop (j + 1)) { F with code := i64Of v } (0, t.drop 8) by rw [hdj, hz]; exact stepS_w (hv ▸ word_long (by omega)))))
            have hcut : (strOfNums t).extract 0 8 = strOfNums (t.take 8) := str_cut t 8
            have hrest : (strOfNums t).extract 8 t.length = strOfNums (t.drop 8) := by rw [← hts]; exact str_drop t 8
            have HNU := Lib.hid (fun w => hv ▸ refnum_any _ (t.take 8) rfl (hyt.take 8) (by rw [List.length_take]; omega) w)
            have hwr : IntKind.i64.wrap v = i64Of v := i64Of_wrap v (by omega) (by omega)
            have H5 := Lib.hid (HO.out.set (F' := { F with code := i64Of v }) 4 (.int .i64 (i64Of v)) rfl rfl rfl)
            have H6 := Lib.hid (H5.out.left (hyt.drop 8) (by rw [List.length_drop]; omega))
            obtain ⟨_, s5, _, sf5⟩ := H5.out.cells
            simp only at s5
            clear hz hdj HD hv hvb hyt
            go_wp2_with (go_at_call 24; refine (HNU.out _).mono ?_; rintro e w5 ⟨rfl, rfl⟩)
            go_roundg (gk - 1)
            case measure => omega
            case rel => exact ⟨j + 1, { F with code := i64Of v }, r, d, (0, t.drop 8), by omega, by go_num, H6, Lib.hid HK.out, Lib.hid (fun h => absurd h (Nat.succ_ne_zero _)), HNX⟩
        · obtain ⟨⟨v, e5, t5⟩, hN1⟩ : ∃ x, numS (0, t) = x := ⟨_, rfl⟩
          have bN1 := numS_bd (σ := (0, t)) HO.out.yt
          rw [hN1] at bN1
          obtain ⟨v0, v1, hy5, hl5⟩ := bN1
          simp only at v0 v1 hy5 hl5
          have HN1 := Lib.hid hN1
          have hts : (strOfNums t5).size = t5.length := strOfNums_size t5
          have ltl : t5.length ≤ 140737488351232 := Nat.le_trans (Nat.le_trans hl5 HO.out.ln) hl
          have HSTEP := Lib.hid (fun (x : Int) (hx : x ≠ 0) (hd : dataS (0, t) = ([], (x, t5))) => HD.out.trans (congrArg finF (show decPsS (ps.drop j) F (0, t) = decPsS (ps.drop (j + 1)) F (x, t5) by rw [hdj, hz, stepS_d hd, decPsS_bad (σ := (x, t5)) hx, decPsS_bad (σ := (x, t5)) hx])))
          have HSTOK := Lib.hid (fun (ys u : List Int) (hd : dataS (0, t) = (ys, (0, u))) => HD.out.trans (congrArg finF (show decPsS (ps.drop j) F (0, t) = decPsS (ps.drop (j + 1)) { F with data := ys } (0, u) by rw [hdj, hz]; exact stepS_d hd)))
          clear hz hdj HD
          by_cases c5 : e5 = 0
          · subst c5
            by_cases cb : 120 < v
            · have NX := Lib.hid (HSTEP.out 1 (by decide) (data_big HN1.out cb))
              go_wp2_with (go_at_call 22; refine (numC_any _ _ (0, t) _ HO.out.ra HO.out.yt (Nat.le_trans HO.out.ln (by omega))).mono ?_; rintro e w5 ⟨rfl, ha5, m5⟩; rw [HN1.out] at ha5 ⊢; simp only; have H5 := Lib.hid (HO.out.num ha5 m5 hy5 (Nat.le_trans hl5 HO.out.ln)); clear b2 s2 bf sf ha5 m5; obtain ⟨b2, s2, bf, sf⟩ := H5.out.cells; simp only at b2 s2)
              go_roundg (gk - 1)
              case measure => omega
              case rel => exact ⟨j + 1, F, r, d, (1, t5), by omega, by go_num, Lib.hid (H5.out.bad 1), HK, Lib.hid (fun h => absurd h (Nat.succ_ne_zero _)), NX⟩
            · by_cases cs5 : (t5.length : Int) < v
              · have NX := Lib.hid (HSTEP.out 4 (by decide) (data_short HN1.out cb cs5))
                go_wp2_with (go_at_call 22; refine (numC_any _ _ (0, t) _ HO.out.ra HO.out.yt (Nat.le_trans HO.out.ln (by omega))).mono ?_; rintro e w5 ⟨rfl, ha5, m5⟩; rw [HN1.out] at ha5 ⊢; simp only; have H5 := Lib.hid (HO.out.num ha5 m5 hy5 (Nat.le_trans hl5 HO.out.ln)); clear b2 s2 bf sf ha5 m5; obtain ⟨b2, s2, bf, sf⟩ := H5.out.cells; simp only at b2 s2)
                go_roundg (gk - 1)
                case measure => omega
                case rel => exact ⟨j + 1, F, r, d, (4, t5), by omega, by go_num, Lib.hid (H5.out.bad 4), HK, Lib.hid (fun h => absurd h (Nat.succ_ne_zero _)), NX⟩
              · obtain ⟨m, rfl⟩ : ∃ m : Nat, v = (m : Int) := ⟨v.toNat, by omega⟩
                have NX := Lib.hid (HSTOK.out (t5.take m) (t5.drop m) (data_ok HN1.out cb cs5))
                have hm5 : m ≤ t5.length := by omega
                have hm120 : (t5.take m).length ≤ 120 := by rw [List.length_take]; omega
                have hcut : (strOfNums t5).extract 0 m = strOfNums (t5.take m) := str_cut t5 m
                have hrest : (strOfNums t5).extract m t5.length = strOfNums (t5.drop m) := by rw [← hts]; exact str_drop t5 m
                have hlm := Lib.hid (show (t5.take m).length = m by rw [List.length_take]; omega)
                have hms : (m : Int) ≤ (t5.length : Int) := by omega
                have m0 : (0 : Int) ≤ (m : Int) := by omega
                go_wp2_with (go_at_call 22; refine (numC_any _ _ (0, t) _ HO.out.ra HO.out.yt (Nat.le_trans HO.out.ln (by omega))).mono ?_; rintro e w5 ⟨rfl, ha5, m5⟩; rw [HN1.out] at ha5 ⊢; simp only; have H5 := Lib.hid (HO.out.num ha5 m5 hy5 (Nat.le_trans hl5 HO.out.ln)); clear b2 s2 bf sf ha5 m5; obtain ⟨b2, s2, bf, sf⟩ := H5.out.cells; simp only at b2 s2; obtain ⟨C, w6, hrun, hb6, hd6⟩ := conv_any (t5.take m) (hy5.take m) hm120 w5; rw [hlm.out] at hrun hd6; have H6 := Lib.hid (H5.out.on hb6); obtain ⟨q0, q1, q2, q3, q4, q5, q6, qf⟩ := blk7 H6.out.fb; have hpf := (lt_of_block H5.out.fb); have H7 := Lib.hid (H6.out.setD hd6 (SlFrom.at hpf)); have H8 := Lib.hid (H7.out.left (hy5.drop m) (by rw [List.length_drop]; omega)); obtain ⟨_, s7, _, sf7⟩ := H7.out.cells; simp only at s7; clear hb6 hd6)
                go_roundg (gk - 1)
                case measure => omega
                case rel => exact ⟨j + 1, { F with data := t5.take m }, r, _, (0, t5.drop m), by omega, by go_num, H8, Lib.hid HK.out, Lib.hid (fun h => absurd h (Nat.succ_ne_zero _)), NX⟩
          · have NX := Lib.hid (HSTEP.out e5 c5 (data_bad HN1.out c5))
            have ge5 : (e5 != 0) = true := by simp [c5]
            go_wp2_with (go_at_call 22; refine (numC_any _ _ (0, t) _ HO.out.ra HO.out.yt (Nat.le_trans HO.out.ln (by omega))).mono ?_; rintro e w5 ⟨rfl, ha5, m5⟩; rw [HN1.out] at ha5 ⊢; simp only; have H5 := Lib.hid (HO.out.num ha5 m5 hy5 (Nat.le_trans hl5 HO.out.ln)); clear b2 s2 bf sf ha5 m5; obtain ⟨b2, s2, bf, sf⟩ := H5.out.cells; simp only at b2 s2)
            go_roundg (gk - 1)
            case measure => omega
            case rel => exact ⟨j + 1, F, r, d, (e5, t5), by omega, by go_num, H5, HK, Lib.hid (fun h => absurd h (Nat.succ_ne_zero _)), NX⟩
        · obtain ⟨⟨hi0, σ1⟩, hN1⟩ : ∃ x, numS (0, t) = x := ⟨_, rfl⟩
          obtain ⟨⟨v, e5, t5⟩, hN2⟩ : ∃ x, numS σ1 = x := ⟨_, rfl⟩
          have bN1 := numS_bd (σ := (0, t)) HO.out.yt
          rw [hN1] at bN1
          obtain ⟨hb0, hb1, hy1', hl1'⟩ := bN1
          have bN2 := numS_bd (σ := σ1) hy1'
          rw [hN2] at bN2
          obtain ⟨v0, v1, hy5, hl5⟩ := bN2
          simp only at hb0 hb1 hy1' hl1' v0 v1 hy5 hl5
          have HN1 := Lib.hid hN1
          have HN2 := Lib.hid hN2
          obtain ⟨hd0, hr0⟩ := HZ0.out (HONE.out j hlt hz)
          have HD0 := Lib.hid hd0
          have HNXF := Lib.hid (fun (l : List (Int × Int)) (σ' : St) (hr : decRs t = toE σ' l) => HD.out.trans (congrArg finF (show decPsS (ps.drop j) F (0, t) = decPsS (ps.drop (j + 1)) { F with rs := l } σ' by rw [hdj, hz]; exact stepS_r hr)))
          have HFR := Lib.hid (show { F with rs := [] } = F by rw [← hr0])
          obtain ⟨i0, hi0', hiz, hi1, hi2⟩ := info_parts infoR2
          have HI0 := Lib.hid hi0'
          have HIZ := Lib.hid hiz
          have HI1 := Lib.hid hi1
          have HI2 := Lib.hid hi2
          have HY3 := Lib.hid (show Byt (refS (decide (6 ≤ v)) 1 (e5, t5)).2 by rw [refS_left]; exact hy5)
          clear hN1 hN2 hz hdj HD hd0 hi0' hiz hi1 hi2
          by_cases c5 : e5 = 0
          · subst c5
            by_cases c6v : 6 ≤ v
            · go_wp2_with (first
                | (go_at_call 22; have gg := H5.out; refine (numC_any _ _ σ1 _ H5.out.ra H5.out.yt (Nat.le_trans H5.out.ln (by omega))).mono ?_; rintro e w6 ⟨rfl, ha6, m6⟩; rw [HN2.out] at ha6 ⊢; simp only; have H6 := Lib.hid (H5.out.num ha6 m6 hy5 (Nat.le_trans hl5 (Nat.le_trans hl1' HO.out.ln))); clear ha6 m6; obtain ⟨b2, s2, bf, sf⟩ := H6.out.cells; simp only at b2 s2)
                | (go_at_call 22; refine (numC_any _ _ (0, t) _ HO.out.ra HO.out.yt (Nat.le_trans HO.out.ln (by omega))).mono ?_; rintro e w5 ⟨rfl, ha5, m5⟩; rw [HN1.out] at ha5 ⊢; simp only; have H5 := Lib.hid (HO.out.num ha5 m5 hy1' (Nat.le_trans hl1' HO.out.ln)); clear b2 s2 bf sf ha5 m5))
              have H7 := Lib.hid (H6.out.bad 1)
              have HRS := Lib.hid (show decRs t = toE (1, t5) [] from (show RI t v hi0 (refS (decide (6 ≤ v)) 1 (0, t5)) 0 [] hi0 (1, t5) from ⟨rfl, fun _ => ⟨by unfold refS; simp [c6v], rfl⟩, fun h => absurd h (by omega)⟩).done HN1.out HN2.out v0 (.inl (by show (1 : Int) ≠ 0; decide)))
              clear b2 s2 bf sf
              obtain ⟨b2, s2, bf, sf⟩ := H7.out.cells
              simp only at b2 s2
              obtain ⟨qk, hqk⟩ : ∃ q, q = gk := ⟨_, rfl⟩
              subst hqk
              go_loopg [12, 14] 1 (fun g hv kv wq => hv = .int .i64 hi0 ∧ kv = .int .i64 0 ∧ wq = w6.setCell ⟨w.heap.size + 1 + 1, 0, none⟩ (.int .i64 1))
              case atStart => exact ⟨rfl, rfl, rfl⟩
              case round =>
                obtain ⟨rfl, rfl, rfl⟩ := hrel
                go_wp2_with fail
                go_roundg (qk - 1)
                case measure => omega
                case rel => exact ⟨j + 1, F, r, d, (1, t5), by omega, by go_num, H7, HK, Lib.hid (fun h => absurd h (Nat.succ_ne_zero _)), Lib.hid (HFR.out ▸ HNXF.out [] (1, t5) HRS.out)⟩
            · have hq : refS (decide (6 ≤ v)) 1 (0, t5) = (0, t5) := by unfold refS; simp [c6v]
              have HQ0 := Lib.hid hq
              go_wp2_with (first
                | (go_at_call 22; have gg := H5.out; refine (numC_any _ _ σ1 _ H5.out.ra H5.out.yt (Nat.le_trans H5.out.ln (by omega))).mono ?_; rintro e w6 ⟨rfl, ha6, m6⟩; rw [HN2.out] at ha6 ⊢; simp only; have H6 := Lib.hid (H5.out.num ha6 m6 hy5 (Nat.le_trans hl5 (Nat.le_trans hl1' HO.out.ln))); clear ha6 m6; obtain ⟨b2, s2, bf, sf⟩ := H6.out.cells; simp only at b2 s2)
                | (go_at_call 22; refine (numC_any _ _ (0, t) _ HO.out.ra HO.out.yt (Nat.le_trans HO.out.ln (by omega))).mono ?_; rintro e w5 ⟨rfl, ha5, m5⟩; rw [HN1.out] at ha5 ⊢; simp only; have H5 := Lib.hid (HO.out.num ha5 m5 hy1' (Nat.le_trans hl1' HO.out.ln)); clear b2 s2 bf sf ha5 m5))
              clear b2 s2 bf sf hq
              obtain ⟨qk, hqk⟩ : ∃ q, q = gk := ⟨_, rfl⟩
              subst hqk
              go_loopg [12, 14] (v.toNat + 1) (fun g hv kv wq => ∃ (k : Nat) (l : List (Int × Int)) (rv : Value) (σ' : St) (hi' : Int), k + g = v.toNat + 1 ∧ hv = .int .i64 hi' ∧ kv = .int .i64 k ∧ Hid (FoAt w w1.heap.size σ' { F with rs := l } rv d zs.length wq) ∧ Hid (RI t v hi0 (refS (decide (6 ≤ v)) 1 (0, t5)) k l hi' σ'))
              case atStart => exact ⟨0, [], r, (0, t5), hi0, by omega, rfl, rfl, Lib.hid (HFR.out.symm ▸ H6.out), Lib.hid ⟨rfl, fun _ => ⟨HQ0.out.symm, rfl⟩, fun h => absurd h (by omega)⟩⟩
              case round =>
                obtain ⟨k, l, rv, ⟨e, s⟩, hi', hkg, rfl, rfl, HQ, HI⟩ := hrel
                obtain ⟨b2, s2, bf, sf⟩ := HQ.out.cells
                simp only at b2 s2
                by_cases hkv : (k : Int) ≤ v
                · by_cases he : e = 0
                  · subst he
                    by_cases hk : k = 0
                    · subst hk
                      obtain ⟨⟨m, e6, t6⟩, hNM⟩ : ∃ x, numS (0, s) = x := ⟨_, rfl⟩
                      have bNM := numS_bd (σ := (0, s)) HQ.out.yt
                      rw [hNM] at bNM
                      obtain ⟨m0, m1, hy6, hl6⟩ := bNM
                      simp only at m0 m1 hy6 hl6
                      have HNM := Lib.hid hNM
                      obtain ⟨hs3, rfl⟩ := HI.out.at0 rfl
                      have HS3 := Lib.hid hs3
                      have hl0 : l = [] := List.eq_nil_of_length_eq_zero HI.out.len
                      subst hl0
                      have hdown : downS hi' (refS (decide (6 ≤ v)) 1 (0, t5)) = ((hi' - m, hi'), refS (decide (hi' - m < 0)) 6 (e6, t6)) := by rw [← hs3]; unfold downS; rw [hNM]
                      have HLN := Lib.hid (show ([] : List (Int × Int)).length ≤ 6 by simp)
                      have hw1 : IntKind.i64.wrap (hi' - m) = hi' - m := by rw [IntKind.wrap_i64]; omega
                      clear hs3 hNM
                      by_cases c6 : e6 = 0
                      · subst c6
                        by_cases cn : hi' - m < 0
                        · have HDN := Lib.hid (hdown.trans (by rw [show refS (decide (hi' - m < 0)) 6 (0, t6) = (6, t6) by unfold refS; simp [cn]]))
                          clear hdown
                          go_wp2_with (first
                            | (at_builtin; refine wpList_appR _ rfl (.tmp 109) (.tmp 115) _ rfl (w1.heap.size + 1) 51 i0 _ Try.underlying22 HI0.out HIZ.out HI1.out HI2.out rfl rv [] rfl (OwnR.alloc H7.out.rs _) _ _ 1 1 [(hi' - m, hi')] rfl (RRow.oneAt (by simp)) rfl (by have := HLN.out; omega) (by have := lt_of_block H6.out.fb; simp; omega) ?_; intro v7 w7 ho7 hg7; obtain ⟨A7, c7, hv7, _, _, _⟩ := OwnR.slice ho7; subst hv7; obtain ⟨fb7, h8⟩ := H7.out.app HD0.out (.cells #[.int .i64 (hi' - m), .int .i64 hi'] 51) ho7 hg7; have H8 := Lib.hid h8; clear y0 y1 y2 y3 y4 y5 y6 yf; obtain ⟨y0, y1, y2, y3, y4, y5, y6, yf⟩ := blk7 fb7; clear ho7 hg7 fb7 h8)
                            | (go_at_call 22; refine (numC_any _ _ (0, s) _ HQ.out.ra HQ.out.yt (Nat.le_trans HQ.out.ln (by omega))).mono ?_; rintro e w6 ⟨rfl, ha5, m5⟩; rw [HNM.out] at ha5 ⊢; simp only; have H6 := Lib.hid (HQ.out.num ha5 m5 hy6 (Nat.le_trans hl6 HQ.out.ln)); clear ha5 m5; clear b2 s2 bf sf; have H7 := Lib.hid (H6.out.bad 6); obtain ⟨b2, s2, bf, sf⟩ := H6.out.cells; simp only at b2 s2; obtain ⟨y0, y1, y2, y3, y4, y5, y6, yf⟩ := blk7 H7.out.fb))
                          go_roundg (gk - 1)
                          case measure => omega
                          case rel => exact ⟨0 + 1, [] ++ [(hi' - m, hi')], _, (6, t6), hi', by omega, rfl, by go_num, H8, Lib.hid (RI.one HN1.out HN2.out HY3.out hb1 HDN.out)⟩
                        · have HDN := Lib.hid (hdown.trans (by rw [show refS (decide (hi' - m < 0)) 6 (0, t6) = (0, t6) by unfold refS; simp [cn]]))
                          clear hdown
                          go_wp2_with (first
                            | (at_builtin; refine wpList_appR _ rfl (.tmp 109) (.tmp 115) _ rfl (w1.heap.size + 1) 51 i0 _ Try.underlying22 HI0.out HIZ.out HI1.out HI2.out rfl rv [] rfl (OwnR.alloc H6.out.rs _) _ _ 1 1 [(hi' - m, hi')] rfl (RRow.oneAt (by simp)) rfl (by have := HLN.out; omega) (by have := lt_of_block H6.out.fb; simp; omega) ?_; intro v7 w7 ho7 hg7; obtain ⟨A7, c7, hv7, _, _, _⟩ := OwnR.slice ho7; subst hv7; obtain ⟨fb7, h8⟩ := H6.out.app HD0.out (.cells #[.int .i64 (hi' - m), .int .i64 hi'] 51) ho7 hg7; have H8 := Lib.hid h8; clear y0 y1 y2 y3 y4 y5 y6 yf; obtain ⟨y0, y1, y2, y3, y4, y5, y6, yf⟩ := blk7 fb7; clear ho7 hg7 fb7 h8)
                            | (go_at_call 22; refine (numC_any _ _ (0, s) _ HQ.out.ra HQ.out.yt (Nat.le_trans HQ.out.ln (by omega))).mono ?_; rintro e w6 ⟨rfl, ha5, m5⟩; rw [HNM.out] at ha5 ⊢; simp only; have H6 := Lib.hid (HQ.out.num ha5 m5 hy6 (Nat.le_trans hl6 HQ.out.ln)); clear ha5 m5; clear b2 s2 bf sf; obtain ⟨b2, s2, bf, sf⟩ := H6.out.cells; simp only at b2 s2; obtain ⟨y0, y1, y2, y3, y4, y5, y6, yf⟩ := blk7 H6.out.fb))
                          go_roundg (gk - 1)
                          case measure => omega
                          case rel => exact ⟨0 + 1, [] ++ [(hi' - m, hi')], _, (0, t6), hi', by omega, rfl, by go_num, H8, Lib.hid (RI.one HN1.out HN2.out HY3.out hb1 HDN.out)⟩
                      · have HDN := Lib.hid (hdown.trans (by rw [refS_bad (σ := (e6, t6)) c6]))
                        have gc6 : (e6 == 0) = false := by simp [c6]
                        clear hdown
                        go_wp2_with (first
                          | (at_builtin; refine wpList_appR _ rfl (.tmp 109) (.tmp 115) _ rfl (w1.heap.size + 1) 51 i0 _ Try.underlying22 HI0.out HIZ.out HI1.out HI2.out rfl rv [] rfl (OwnR.alloc H6.out.rs _) _ _ 1 1 [(hi' - m, hi')] rfl (RRow.oneAt (by simp)) rfl (by have := HLN.out; omega) (by have := lt_of_block H6.out.fb; simp; omega) ?_; intro v7 w7 ho7 hg7; obtain ⟨A7, c7, hv7, _, _, _⟩ := OwnR.slice ho7; subst hv7; obtain ⟨fb7, h8⟩ := H6.out.app HD0.out (.cells #[.int .i64 (hi' - m), .int .i64 hi'] 51) ho7 hg7; have H8 := Lib.hid h8; clear y0 y1 y2 y3 y4 y5 y6 yf; obtain ⟨y0, y1, y2, y3, y4, y5, y6, yf⟩ := blk7 fb7; clear ho7 hg7 fb7 h8)
                          | (go_at_call 22; refine (numC_any _ _ (0, s) _ HQ.out.ra HQ.out.yt (Nat.le_trans HQ.out.ln (by omega))).mono ?_; rintro e w6 ⟨rfl, ha5, m5⟩; rw [HNM.out] at ha5 ⊢; simp only; have H6 := Lib.hid (HQ.out.num ha5 m5 hy6 (Nat.le_trans hl6 HQ.out.ln)); clear ha5 m5; clear b2 s2 bf sf; obtain ⟨b2, s2, bf, sf⟩ := H6.out.cells; simp only at b2 s2; obtain ⟨y0, y1, y2, y3, y4, y5, y6, yf⟩ := blk7 H6.out.fb))
                        go_roundg (gk - 1)
                        case measure => omega
                        case rel => exact ⟨0 + 1, [] ++ [(hi' - m, hi')], _, (e6, t6), hi', by omega, rfl, by go_num, H8, Lib.hid (RI.one HN1.out HN2.out HY3.out hb1 HDN.out)⟩
                    · have hk0 : 0 < k := by omega
                      obtain ⟨⟨g, ea, ta⟩, hNG⟩ : ∃ x, numS (0, s) = x := ⟨_, rfl⟩
                      have bNG := numS_bd (σ := (0, s)) HQ.out.yt
                      rw [hNG] at bNG
                      obtain ⟨g0, g1, hya, hla⟩ := bNG
                      simp only at g0 g1 hya hla
                      have HNG := Lib.hid hNG
                      obtain ⟨⟨m, e6, t6⟩, hNM⟩ : ∃ x, numS (ea, ta) = x := ⟨_, rfl⟩
                      have bNM := numS_bd (σ := (ea, ta)) hya
                      rw [hNM] at bNM
                      obtain ⟨m0, m1, hy6, hl6⟩ := bNM
                      simp only at m0 m1 hy6 hl6
                      have HNM := Lib.hid hNM
                      obtain ⟨_, a2, a3⟩ := HI.out.atK hk0
                      obtain ⟨lo, hlo'⟩ : ∃ lo, (l.getD (k - 1) (0, 0)).1 = lo := ⟨_, rfl⟩
                      have hlo := Lib.hid hlo'
                      rw [hlo'] at a2 a3
                      have a2' := a2 rfl
                      have hlk : l.length = k := HI.out.len
                      have HLN := Lib.hid (show l.length ≤ 6 by omega)
                      obtain ⟨Ar, cr, hrv, hrc, hrm, hrr⟩ := OwnR.slice HQ.out.rs
                      subst hrv
                      obtain ⟨bb, oo, hAr, hbb, hcc⟩ := hrr (show 0 < l.length by omega)
                      subst hAr
                      have hw0 : IntKind.i64.wrap ((k : Int) - 1) = (k : Int) - 1 := by rw [IntKind.wrap_i64]; omega
                      have hwa : IntKind.i64.wrap (lo - g) = lo - g := by rw [IntKind.wrap_i64]; omega
                      have hwb : IntKind.i64.wrap (lo - g - 2) = lo - g - 2 := by rw [IntKind.wrap_i64]; omega
                      have hwc : IntKind.i64.wrap (lo - g - 2 - m) = lo - g - 2 - m := by rw [IntKind.wrap_i64]; omega
                      have gk0 : (0 : Int) < (k : Int) := by omega
                      have j0 : (0 : Int) ≤ (k : Int) - 1 := by omega
                      have j1 : (k : Int) - 1 < (l.length : Int) := by omega
                      have j2 : ((k : Int) - 1).toNat = k - 1 := by omega
                      have hlk' := Lib.hid hlk
                      clear hlo' hcc hrr a2 hlk
                      have hdown : downS (lo - g - 2) (ea, ta) = ((lo - g - 2 - m, lo - g - 2), refS (decide (lo - g - 2 - m < 0)) 6 (e6, t6)) := by unfold downS; rw [hNM]
                      by_cases c6 : e6 = 0
                      · subst c6
                        by_cases cn : (lo - g - 2) - m < 0
                        · have HDN := Lib.hid (hdown.trans (by rw [show refS (decide ((lo - g - 2) - m < 0)) 6 (0, t6) = (6, t6) by unfold refS; simp [cn]]))
                          clear hdown
                          go_wp2_with (first
                            | (at_builtin; refine wpList_appR _ rfl (.tmp 109) (.tmp 115) _ rfl (w1.heap.size + 1) 51 i0 _ Try.underlying22 HI0.out HIZ.out HI1.out HI2.out rfl (.slice (some ⟨bb, oo, none⟩) l.length cr) l rfl (OwnR.alloc H7.out.rs _) _ _ 1 1 [((lo - g - 2) - m, (lo - g - 2))] rfl (RRow.oneAt (by simp)) rfl (by have := HLN.out; omega) (by have := lt_of_block H6.out.fb; simp; omega) ?_; intro v7 w7 ho7 hg7; obtain ⟨A7, c7, hv7, _, _, _⟩ := OwnR.slice ho7; subst hv7; obtain ⟨fb7, h8⟩ := H7.out.app HD0.out (.cells #[.int .i64 ((lo - g - 2) - m), .int .i64 (lo - g - 2)] 51) ho7 hg7; rw [List.length_append, List.length_singleton] at h8; have H8 := Lib.hid h8; clear y0 y1 y2 y3 y4 y5 y6 yf; obtain ⟨y0, y1, y2, y3, y4, y5, y6, yf⟩ := blk7 fb7; clear ho7 hg7 fb7 h8)
                            | (go_at_call 22; have gg := H4.out; refine (numC_any _ _ (ea, ta) _ H4.out.ra H4.out.yt (Nat.le_trans H4.out.ln (by omega))).mono ?_; rintro e w6 ⟨rfl, ha5, m5⟩; rw [HNM.out] at ha5 ⊢; simp only; have H6 := Lib.hid (H4.out.num ha5 m5 hy6 (Nat.le_trans hl6 (Nat.le_trans hla HQ.out.ln))); clear ha5 m5; clear b2 s2 bf sf x0 x1 x2 x3 x4 x5 x6 xf; have H7 := Lib.hid (H6.out.bad 6); obtain ⟨b2, s2, bf, sf⟩ := H6.out.cells; simp only at b2 s2; obtain ⟨y0, y1, y2, y3, y4, y5, y6, yf⟩ := blk7 H7.out.fb)
                            | (go_at_call 22; refine (numC_any _ _ (0, s) _ HQ.out.ra HQ.out.yt (Nat.le_trans HQ.out.ln (by omega))).mono ?_; rintro e w4 ⟨rfl, ha5, m5⟩; rw [HNG.out] at ha5 ⊢; simp only; have H4 := Lib.hid (HQ.out.num ha5 m5 hya (Nat.le_trans hla HQ.out.ln)); clear ha5 m5; clear b2 s2 bf sf; obtain ⟨x0, x1, x2, x3, x4, x5, x6, xf⟩ := blk7 H4.out.fb; obtain ⟨b2, s2, bf, sf⟩ := H4.out.cells; simp only at b2 s2; obtain ⟨A4, c4', hv4, _, _, hrr4⟩ := OwnR.slice H4.out.rs; cases hv4; obtain ⟨b4, o4, e4, _, hcc4⟩ := hrr4 (show 0 < l.length by have := hlk'.out; omega); cases e4; have c4 := (hcc4 (k - 1) (show k - 1 < l.length by have := hlk'.out; omega)).1; rw [hlo.out] at c4; clear hcc4 hrr4))
                          go_roundg (gk - 1)
                          case measure => omega
                          case rel => exact ⟨k + 1, l ++ [((lo - g - 2) - m, (lo - g - 2))], _, (6, t6), (lo - g - 2), by omega, rfl, by go_num, H8, Lib.hid (HI.out.next hk0 hkv rfl HQ.out.yt HNG.out (hlo.out ▸ HDN.out) _)⟩
                        · have HDN := Lib.hid (hdown.trans (by rw [show refS (decide ((lo - g - 2) - m < 0)) 6 (0, t6) = (0, t6) by unfold refS; simp [cn]]))
                          clear hdown
                          go_wp2_with (first
                            | (at_builtin; refine wpList_appR _ rfl (.tmp 109) (.tmp 115) _ rfl (w1.heap.size + 1) 51 i0 _ Try.underlying22 HI0.out HIZ.out HI1.out HI2.out rfl (.slice (some ⟨bb, oo, none⟩) l.length cr) l rfl (OwnR.alloc H6.out.rs _) _ _ 1 1 [((lo - g - 2) - m, (lo - g - 2))] rfl (RRow.oneAt (by simp)) rfl (by have := HLN.out; omega) (by have := lt_of_block H6.out.fb; simp; omega) ?_; intro v7 w7 ho7 hg7; obtain ⟨A7, c7, hv7, _, _, _⟩ := OwnR.slice ho7; subst hv7; obtain ⟨fb7, h8⟩ := H6.out.app HD0.out (.cells #[.int .i64 ((lo - g - 2) - m), .int .i64 (lo - g - 2)] 51) ho7 hg7; rw [List.length_append, List.length_singleton] at h8; have H8 := Lib.hid h8; clear y0 y1 y2 y3 y4 y5 y6 yf; obtain ⟨y0, y1, y2, y3, y4, y5, y6, yf⟩ := blk7 fb7; clear ho7 hg7 fb7 h8)
                            | (go_at_call 22; have gg := H4.out; refine (numC_any _ _ (ea, ta) _ H4.out.ra H4.out.yt (Nat.le_trans H4.out.ln (by omega))).mono ?_; rintro e w6 ⟨rfl, ha5, m5⟩; rw [HNM.out] at ha5 ⊢; simp only; have H6 := Lib.hid (H4.out.num ha5 m5 hy6 (Nat.le_trans hl6 (Nat.le_trans hla HQ.out.ln))); clear ha5 m5; clear b2 s2 bf sf x0 x1 x2 x3 x4 x5 x6 xf; obtain ⟨b2, s2, bf, sf⟩ := H6.out.cells; simp only at b2 s2; obtain ⟨y0, y1, y2, y3, y4, y5, y6, yf⟩ := blk7 H6.out.fb)
                            | (go_at_call 22; refine (numC_any _ _ (0, s) _ HQ.out.ra HQ.out.yt (Nat.le_trans HQ.out.ln (by omega))).mono ?_; rintro e w4 ⟨rfl, ha5, m5⟩; rw [HNG.out] at ha5 ⊢; simp only; have H4 := Lib.hid (HQ.out.num ha5 m5 hya (Nat.le_trans hla HQ.out.ln)); clear ha5 m5; clear b2 s2 bf sf; obtain ⟨x0, x1, x2, x3, x4, x5, x6, xf⟩ := blk7 H4.out.fb; obtain ⟨b2, s2, bf, sf⟩ := H4.out.cells; simp only at b2 s2; obtain ⟨A4, c4', hv4, _, _, hrr4⟩ := OwnR.slice H4.out.rs; cases hv4; obtain ⟨b4, o4, e4, _, hcc4⟩ := hrr4 (show 0 < l.length by have := hlk'.out; omega); cases e4; have c4 := (hcc4 (k - 1) (show k - 1 < l.length by have := hlk'.out; omega)).1; rw [hlo.out] at c4; clear hcc4 hrr4))
                          go_roundg (gk - 1)
                          case measure => omega
                          case rel => exact ⟨k + 1, l ++ [((lo - g - 2) - m, (lo - g - 2))], _, (0, t6), (lo - g - 2), by omega, rfl, by go_num, H8, Lib.hid (HI.out.next hk0 hkv rfl HQ.out.yt HNG.out (hlo.out ▸ HDN.out) _)⟩
                      · have HDN := Lib.hid (hdown.trans (by rw [refS_bad (σ := (e6, t6)) c6]))
                        have gc6 : (e6 == 0) = false := by simp [c6]
                        clear hdown
                        go_wp2_with (first
                          | (at_builtin; refine wpList_appR _ rfl (.tmp 109) (.tmp 115) _ rfl (w1.heap.size + 1) 51 i0 _ Try.underlying22 HI0.out HIZ.out HI1.out HI2.out rfl (.slice (some ⟨bb, oo, none⟩) l.length cr) l rfl (OwnR.alloc H6.out.rs _) _ _ 1 1 [((lo - g - 2) - m, (lo - g - 2))] rfl (RRow.oneAt (by simp)) rfl (by have := HLN.out; omega) (by have := lt_of_block H6.out.fb; simp; omega) ?_; intro v7 w7 ho7 hg7; obtain ⟨A7, c7, hv7, _, _, _⟩ := OwnR.slice ho7; subst hv7; obtain ⟨fb7, h8⟩ := H6.out.app HD0.out (.cells #[.int .i64 ((lo - g - 2) - m), .int .i64 (lo - g - 2)] 51) ho7 hg7; rw [List.length_append, List.length_singleton] at h8; have H8 := Lib.hid h8; clear y0 y1 y2 y3 y4 y5 y6 yf; obtain ⟨y0, y1, y2, y3, y4, y5, y6, yf⟩ := blk7 fb7; clear ho7 hg7 fb7 h8)
                          | (go_at_call 22; have gg := H4.out; refine (numC_any _ _ (ea, ta) _ H4.out.ra H4.out.yt (Nat.le_trans H4.out.ln (by omega))).mono ?_; rintro e w6 ⟨rfl, ha5, m5⟩; rw [HNM.out] at ha5 ⊢; simp only; have H6 := Lib.hid (H4.out.num ha5 m5 hy6 (Nat.le_trans hl6 (Nat.le_trans hla HQ.out.ln))); clear ha5 m5; clear b2 s2 bf sf x0 x1 x2 x3 x4 x5 x6 xf; obtain ⟨b2, s2, bf, sf⟩ := H6.out.cells; simp only at b2 s2; obtain ⟨y0, y1, y2, y3, y4, y5, y6, yf⟩ := blk7 H6.out.fb)
                          | (go_at_call 22; refine (numC_any _ _ (0, s) _ HQ.out.ra HQ.out.yt (Nat.le_trans HQ.out.ln (by omega))).mono ?_; rintro e w4 ⟨rfl, ha5, m5⟩; rw [HNG.out] at ha5 ⊢; simp only; have H4 := Lib.hid (HQ.out.num ha5 m5 hya (Nat.le_trans hla HQ.out.ln)); clear ha5 m5; clear b2 s2 bf sf; obtain ⟨x0, x1, x2, x3, x4, x5, x6, xf⟩ := blk7 H4.out.fb; obtain ⟨b2, s2, bf, sf⟩ := H4.out.cells; simp only at b2 s2; obtain ⟨A4, c4', hv4, _, _, hrr4⟩ := OwnR.slice H4.out.rs; cases hv4; obtain ⟨b4, o4, e4, _, hcc4⟩ := hrr4 (show 0 < l.length by have := hlk'.out; omega); cases e4; have c4 := (hcc4 (k - 1) (show k - 1 < l.length by have := hlk'.out; omega)).1; rw [hlo.out] at c4; clear hcc4 hrr4))
                        go_roundg (gk - 1)
                        case measure => omega
                        case rel => exact ⟨k + 1, l ++ [((lo - g - 2) - m, (lo - g - 2))], _, (e6, t6), (lo - g - 2), by omega, rfl, by go_num, H8, Lib.hid (HI.out.next hk0 hkv rfl HQ.out.yt HNG.out (hlo.out ▸ HDN.out) _)⟩
                  · have ge : (e == 0) = false := by simp [he]
                    go_wp2_with fail
                    go_roundg (qk - 1)
                    case measure => omega
                    case rel => exact ⟨j + 1, { F with rs := l }, rv, d, (e, s), by omega, by go_num, HQ, Lib.hid HK.out, Lib.hid (fun h => absurd h (Nat.succ_ne_zero _)), Lib.hid (HNXF.out l (e, s) (HI.out.done HN1.out HN2.out v0 (.inl he)))⟩
                · go_wp2_with fail
                  go_roundg (qk - 1)
                  case measure => omega
                  case rel => exact ⟨j + 1, { F with rs := l }, rv, d, (e, s), by omega, by go_num, HQ, Lib.hid HK.out, Lib.hid (fun h => absurd h (Nat.succ_ne_zero _)), Lib.hid (HNXF.out l (e, s) (HI.out.done HN1.out HN2.out v0 (.inr (by omega))))⟩
          · have ge5 : (e5 == 0) = false := by simp [c5]
            have hq : refS (decide (6 ≤ v)) 1 (e5, t5) = (e5, t5) := refS_bad (σ := (e5, t5)) c5 _ _
            have HRS := Lib.hid (show decRs t = toE (e5, t5) [] from (show RI t v hi0 (refS (decide (6 ≤ v)) 1 (e5, t5)) 0 [] hi0 (e5, t5) from ⟨rfl, fun _ => ⟨hq.symm, rfl⟩, fun h => absurd h (by omega)⟩).done HN1.out HN2.out v0 (.inl c5))
            clear hq
            go_wp2_with (first
              | (go_at_call 22; have gg := H5.out; refine (numC_any _ _ σ1 _ H5.out.ra H5.out.yt (Nat.le_trans H5.out.ln (by omega))).mono ?_; rintro e w6 ⟨rfl, ha6, m6⟩; rw [HN2.out] at ha6 ⊢; simp only; have H6 := Lib.hid (H5.out.num ha6 m6 hy5 (Nat.le_trans hl5 (Nat.le_trans hl1' HO.out.ln))); clear ha6 m6; obtain ⟨b2, s2, bf, sf⟩ := H6.out.cells; simp only at b2 s2)
              | (go_at_call 22; refine (numC_any _ _ (0, t) _ HO.out.ra HO.out.yt (Nat.le_trans HO.out.ln (by omega))).mono ?_; rintro e w5 ⟨rfl, ha5, m5⟩; rw [HN1.out] at ha5 ⊢; simp only; have H5 := Lib.hid (HO.out.num ha5 m5 hy1' (Nat.le_trans hl1' HO.out.ln)); clear b2 s2 bf sf ha5 m5))
            obtain ⟨qk, hqk⟩ : ∃ q, q = gk := ⟨_, rfl⟩
            subst hqk
            go_loopg [12, 14] 1 (fun g hv kv wq => hv = .int .i64 hi0 ∧ kv = .int .i64 0 ∧ wq = w6)
            case atStart => exact ⟨rfl, rfl, rfl⟩
            case round =>
              obtain ⟨rfl, rfl, rfl⟩ := hrel
              go_wp2_with fail
              go_roundg (qk - 1)
              case measure => omega
              case rel => exact ⟨j + 1, F, r, d, (e5, t5), by omega, by go_num, H6, HK, Lib.hid (fun h => absurd h (Nat.succ_ne_zero _)), Lib.hid (HFR.out ▸ HNXF.out [] (e5, t5) HRS.out)⟩
        · have HNX := Lib.hid (HD.out.trans (congrArg finF (show decPsS (ps.drop j) F (0, t) = decPsS (ps.drop (j + 1)) F (0, t) by rw [hdj, hz]; rfl)))
          clear hz hdj HD
          go_wp2_with fail
          go_roundg (gk - 1)
          case measure => omega
          case rel => exact ⟨j + 1, F, r, d, (0, t), by omega, by go_num, HO, HK, Lib.hid (fun h => absurd h (Nat.succ_ne_zero _)), HNX⟩
      · have ge : (e == 0) = false := by simp [he]
        have ge2 : (e != 0) = true := by simp [he]
        have HDE := Lib.hid (HD.out.trans (congrArg finF (decPsS_bad (σ := (e, t)) he)))
        obtain ⟨z0, z1, z2, z3, z4, z5, z6, zf⟩ := blk7 HO.out.fz
        go_wp2_with fail
        go_region
        go_wp2
        obtain ⟨u0, u1, u2, u3, u4, u5, u6, _, gput⟩ := blk7_put HO.out.fz (.int .i64 0) (.int .i64 0) (.int .i64 0) (.bool false) (.int .i64 0) (.slice none 0 0) (.slice none 0 0)
        have GP := Lib.hid gput
        clear gput z0 z1 z2 z3 z4 z5 z6 zf
        (try simp only [Exit.inBlock, Exit.then])
        refine bodyPost_ret (by simp [results, Try.results9, go_sem, u0, u1, u2, u3, u4, u5, u6]; try rfl) rfl ?_
        exact refDec_er (grown_from (HO.out.be) (Nat.le_succ _) GP.out).drew (HDE.out) rfl
    · have hjl : j = ps.length := by omega
      by_cases he : e = 0
      · subst he
        obtain ⟨Ar, cr, hr1, _, _, _⟩ := (OwnR.slice HO.out.rs)
        subst hr1
        obtain ⟨Ad, cd, hd1, _, _, _, _⟩ := HO.out.da.ex
        subst hd1
        have HRA := Lib.hid (show RowsAt wr (w1.heap.size + 1) (.slice Ar F.rs.length cr) (.slice Ad F.data.length cd) F from ⟨HO.out.rs, HO.out.da, HO.out.dn⟩)
        have HDE := Lib.hid (show decF zs = finF (.ok (F, t)) by rw [HD.out, hjl, List.drop_of_length_le (Nat.le_refl _)]; rfl)
        have HWF := Lib.hid (show (Lit.int .i64 F.kind).wf = true by rw [HK.out]; exact wf_kind n0 n1)
        obtain ⟨x, hx⟩ : ∃ x, faultF F = x := ⟨_, rfl⟩
        have HFX := Lib.hid hx
        obtain ⟨q0, q1, q2, q3, q4, q5, q6, qf⟩ := blk7 HO.out.fb
        have ltl : t.length ≤ 140737488351232 := Nat.le_trans HO.out.ln hl
        clear hx HD
        by_cases hx0 : x = 0
        · subst hx0
          go_wp2_with (go_at_call 7; refine (refFault_any _ F _ HRA.out.val HWF.out).mono ?_; rintro e w6 ⟨rfl, b6⟩; rw [HFX.out]; have H6 := Lib.hid (HO.out.on b6); have R6 := Lib.hid (HRA.out.on b6); have H7 := Lib.hid (H6.out.bad 0); have R7 := Lib.hid (R6.out.other (grown_set w6 (w.heap.size + 1 + 1) 0 (.int .i64 0)) (by have := SZ1.out; omega)); clear b6 b2 s2 bf sf q0 q1 q2 q3 q4 q5 q6 qf; obtain ⟨b2, s2, bf, sf⟩ := H6.out.cells; obtain ⟨b3, s3, _, _⟩ := H7.out.cells; simp only at b2 s2 b3 s3; obtain ⟨q0, q1, q2, q3, q4, q5, q6, _⟩ := blk7 H7.out.fb; obtain ⟨z0, z1, z2, z3, z4, z5, z6, zf⟩ := blk7 H7.out.fz)
          have hts : (strOfNums t).size = t.length := strOfNums_size t
          go_region
          go_wp2
          obtain ⟨u0, u1, u2, u3, u4, u5, u6, _, gput⟩ := blk7_put H7.out.fz (.int .i64 F.kind) (.int .i64 F.id) (.int .i64 F.off) (.bool F.fin) (.int .i64 F.code) (.slice Ar F.rs.length cr) (.slice Ad F.data.length cd)
          have GP := Lib.hid gput
          clear gput z0 z1 z2 z3 z4 z5 z6 zf
          (try simp only [Exit.inBlock, Exit.then])
          refine bodyPost_ret (by simp [results, Try.results9, go_sem, u0, u1, u2, u3, u4, u5, u6]; try rfl) rfl ?_
          exact refDec_ok (grown_from H7.out.be (Nat.le_succ _) GP.out).drew (HDE.out.trans (if_pos HFX.out)) (by rw [HSZ.out]) ((R7.out.other GP.out (by have := SZ1.out; omega)).on (Below.refl _ _).drew).val
        · have gx : (x == 0) = false := by simp [hx0]
          have gx2 : (x != 0) = true := by simp [hx0]
          go_wp2_with (go_at_call 7; refine (refFault_any _ F _ HRA.out.val HWF.out).mono ?_; rintro e w6 ⟨rfl, b6⟩; rw [HFX.out]; have H6 := Lib.hid (HO.out.on b6); have R6 := Lib.hid (HRA.out.on b6); have H7 := Lib.hid (H6.out.bad x); have R7 := Lib.hid (R6.out.other (grown_set w6 (w.heap.size + 1 + 1) 0 (.int .i64 x)) (by have := SZ1.out; omega)); clear b6 b2 s2 bf sf q0 q1 q2 q3 q4 q5 q6 qf; obtain ⟨b2, s2, bf, sf⟩ := H6.out.cells; obtain ⟨b3, s3, _, _⟩ := H7.out.cells; simp only at b2 s2 b3 s3; obtain ⟨q0, q1, q2, q3, q4, q5, q6, _⟩ := blk7 H7.out.fb; obtain ⟨z0, z1, z2, z3, z4, z5, z6, zf⟩ := blk7 H7.out.fz)
          go_region
          go_wp2
          obtain ⟨u0, u1, u2, u3, u4, u5, u6, _, gput⟩ := blk7_put H7.out.fz (.int .i64 0) (.int .i64 0) (.int .i64 0) (.bool false) (.int .i64 0) (.slice none 0 0) (.slice none 0 0)
          have GP := Lib.hid gput
          clear gput z0 z1 z2 z3 z4 z5 z6 zf
          (try simp only [Exit.inBlock, Exit.then])
          refine bodyPost_ret (by simp [results, Try.results9, go_sem, u0, u1, u2, u3, u4, u5, u6]; try rfl) rfl ?_
          exact refDec_er (grown_from (H7.out.be) (Nat.le_succ _) GP.out).drew (HDE.out.trans (show (if faultF F = 0 then _ else _) = _ by rw [if_neg (by rw [HFX.out]; exact hx0), HFX.out])) rfl
      · have ge : (e == 0) = false := by simp [he]
        have ge2 : (e != 0) = true := by simp [he]
        have HDE := Lib.hid (HD.out.trans (congrArg finF (decPsS_bad (σ := (e, t)) he)))
        obtain ⟨z0, z1, z2, z3, z4, z5, z6, zf⟩ := blk7 HO.out.fz
        go_wp2_with fail
        go_region
        go_wp2
        obtain ⟨u0, u1, u2, u3, u4, u5, u6, _, gput⟩ := blk7_put HO.out.fz (.int .i64 0) (.int .i64 0) (.int .i64 0) (.bool false) (.int .i64 0) (.slice none 0 0) (.slice none 0 0)
        have GP := Lib.hid gput
        clear gput z0 z1 z2 z3 z4 z5 z6 zf
        (try simp only [Exit.inBlock, Exit.then])
        refine bodyPost_ret (by simp [results, Try.results9, go_sem, u0, u1, u2, u3, u4, u5, u6]; try rfl) rfl ?_
        exact refDec_er (grown_from (HO.out.be) (Nat.le_succ _) GP.out).drew (HDE.out) rfl
end Go.Proofs.Ytjeocggocloigaa
