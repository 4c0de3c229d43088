/- The document's answers on fields: FieldsBytes. -/
import Derived.Test.YtfoagelemjdglaaDoorRefFd7
import Derived.Test.YtfoagelemjdglaaDoorGrpL
namespace Go.Proofs.YtfoagelemjdglaaDoor
set_option linter.unusedVariables false
open Go.RowKit P

theorem lineT_a {need : Int} {f : Fld} {r : Option Int} (h : 0 ≤ kpL f true) : lineT need f r = pxT 192 63 (kpL f true) := if_pos h
theorem lineT_b {need : Int} {f : Fld} {n : Int} (h : ¬ 0 ≤ kpL f true) : lineT need f (some n) = pxT 128 63 (need - 1 - n) := by unfold lineT; rw [if_neg h]
theorem lineT_c {need : Int} {f : Fld} (h : ¬ 0 ≤ kpL f true) (k : 0 ≤ kpL f false) : lineT need f none = pxT 64 15 (kpL f false) ++ valT f := by unfold lineT; rw [if_neg h]; exact if_pos k
theorem lineT_d {need : Int} {f : Fld} (h : ¬ 0 ≤ kpL f true) (k : ¬ 0 ≤ kpL f false) : lineT need f none = pxT 32 7 (f.name.length : Int) ++ f.name ++ valT f := by unfold lineT; rw [if_neg h]; exact if_neg k
theorem weight_tab {w : World} {r1 p1 : Int} {A1 : Option Addr} {n1 c1 : Nat} {t : Tb} (hv : TbVal w w.heap.size (.agg #[.int .i64 r1, .int .i64 p1, .slice A1 n1 c1]) t) (hw : TbWf t) (h0 : faultTb t = 0) :
    Calls Tryd.prog 49 #[.slice A1 n1 c1] w fun e w' => e = .returned (.int .i64 (wtL t.rows : Int)) ∧ Below w.heap.size w w' := by
  obtain ⟨s, e, hs⟩ := hv.ex
  obtain ⟨A', c', ea, h1, h2, h3⟩ := hs.ex
  subst ea
  have e2 : (Value.slice A1 n1 c1) = .slice A' t.rows.length c' := by
    injection e with e1
    exact (by simpa using e1 : _ ∧ _ ∧ _).2.2
  injection e2 with a1 a2 a3
  subst a1 a2 a3
  have okt := (faultTb_iff _).1 h0
  exact weight_small A1 _ c1 t.rows w h3 rfl hw.len hw.rows (by have := okt.2.2.2.1; have := okt.1; omega)
set_option maxRecDepth 100000 in
set_option maxHeartbeats 8000000 in
theorem refFlB_any (v : Value) (t : Tb) (A : Option Addr) (n c : Nat) (l : List Fld) (ahead : Bool) (W : World) (hv : TbVal W W.heap.size v t) (hw : TbWf t) (h : RowE FdE W W.heap.size A l) (hn : l.length = n) (hnc : n ≤ c) (hwf : ∀ x ∈ l, FdWf x) (hm : n ≤ 8796093022208) :
    Calls Tryd.prog 26 #[v, .slice A n c, .bool ahead] W fun e w' => Below W.heap.size W w' ∧ ∃ v', e = .returned (.tuple #[v', .string (strOfNums (encFl t l ahead).2.1), .string (strOfNums (encFl t l ahead).2.2.1), .int .i64 (encFl t l ahead).2.2.2]) ∧ TbVal w' w'.heap.size v' (encFl t l ahead).1 := by
  have HFT := Lib.hid (fun w (hb : Below W.heap.size W w) => refTabF_any v t w (hv.on hb) hw)
  have HFL := Lib.hid (fun w (hb : Below W.heap.size W w) => refFlF_any A n c l w (h.on hb) hn hwf hm)
  have hE : encFl t l ahead = if faultTb t ≠ 0 then (tb0, [], [], faultTb t) else if faultFl l ≠ 0 then (tb0, [], [], faultFl l) else ((encAll ahead t l).t, (encAll ahead t l).tell, linesT (encAll ahead t l).need l (encAll ahead t l).refs, 0) := rfl
  rw [hE]
  have hmm := @run_makeMap Tryd.prog
  have HOK := Lib.hid (fun (h : faultFl l = 0) => show (∀ f ∈ l, okFd f) ∧ n ≤ 8 from hn ▸ (by
    unfold faultFl at h
    by_cases c : 8 < l.length
    · rw [if_pos c] at h; simp at h
    · rw [if_neg c] at h
      by_cases d : ∀ f ∈ l, okFd f
      · exact ⟨d, by omega⟩
      · rw [if_neg d] at h; simp at h : (∀ f ∈ l, okFd f) ∧ l.length ≤ 8))
  have HPU := Lib.hid (fun h0 => ((faultTb_iff t).1 h0).2.1.1)
  have HE0 := Lib.hid (fun (hput : 0 ≤ t.put) => (⟨rfl, Int.le_refl _, (by decide : (0 : Int) ≤ 4611686018427387903), hput, fun n hn => by simp at hn, hw⟩ : EncOk 0 (⟨t, [], [], 0⟩ : EncS)))
  have HR := Lib.hid h
  have HN := Lib.hid hn
  have HNC := Lib.hid hnc
  have HWF := Lib.hid hwf
  have HFF := Lib.hid (fun (h : faultTb t = 0) => h)
  obtain ⟨At, N0, cp, room, put, rfl, hv'⟩ := tb_partsR hv
  obtain ⟨g1, g2, g3⟩ := two_bk W #[.int .i64 room, .int .i64 put, .slice At N0 cp] #[.int .i64 0, .int .i64 0, .slice none 0 0] 24 24
  have TK0 : Hid (TKA _ _ _ _ _ _) := Lib.hid ⟨g1, g2, g3, hv'.on g3⟩
  have B0 := Lib.hid g3
  obtain ⟨x, hx⟩ : ∃ x, faultTb t = x := ⟨_, rfl⟩
  have HXX := Lib.hid hx
  rw [hx] at HFT HPU ⊢
  obtain ⟨y, hy⟩ : ∃ y, faultFl l = y := ⟨_, rfl⟩
  rw [hy] at HFL HOK ⊢
  obtain ⟨q0, q1, q2⟩ := bk3T TK0.out.z
  obtain ⟨y0, y1, y2⟩ := bk3T TK0.out.y
  have yf := fun j => bk_frz TK0.out.y j
  clear hx hy hv hv' hw h hn hnc hwf g1 g2 g3 hE
  by_cases h0 : x = 0
  · subst h0
    rw [if_neg (fun k => k rfl)]
    by_cases h1 : y = 0
    · subst h1
      rw [if_neg (fun k => k rfl)]
      obtain ⟨hok, h8⟩ := HOK.out rfl
      have HE1 := Lib.hid (HE0.out (HPU.out rfl))
      have HF0 := Lib.hid HXX.out
      have HWO := Lib.hid (fun x hx => And.intro (HWF.out x hx) (hok x hx))
      clear HE0 HPU HOK hok
      obtain ⟨RS, hRS⟩ : ∃ r, ((encAll ahead t l).t, (encAll ahead t l).tell, linesT (encAll ahead t l).need l (encAll ahead t l).refs, (0 : Int)) = r := ⟨_, rfl⟩
      rw [hRS]
      have HRS := Lib.hid hRS
      clear hRS
      go_enter Tryd.func26, Tryd.ntmps26
      go_wp2_with fail
      refine (HFT.out _ B0.out).mono ?_
      clear q0 q1 q2 y0 y1 y2 yf
      rintro e w1 ⟨rfl, b1⟩
      have TK1 := Lib.hid (TK0.out.later b1)
      clear b1
      obtain ⟨y0, y1, y2⟩ := bk3T TK1.out.y
      have yf := fun j => bk_frz TK1.out.y j
      go_wp2_with fail
      refine (HFL.out _ TK1.out.b).mono ?_
      clear y0 y1 y2 yf
      rintro e w2 ⟨rfl, b2⟩
      have TK2 := Lib.hid (TK1.out.later b2)
      clear b2
      obtain ⟨y0, y1, y2⟩ := bk3T TK2.out.y
      have yf := fun j => bk_frz TK2.out.y j
      clear y0 y1 y2 yf
      go_upto_region 9 with fail
      have hkz := (Below.refl w2.heap.size w2).alloc (Nat.le_refl _) (.map #[] 0)
      have K0 : Hid (RbK W w2.heap.size 0 _ _ _ t [] (w2.alloc (.map #[] 0))) := Lib.hid ⟨TK2.out.later hkz, ⟨_, World.ownsMap_made w2 Tryd.prog 3 (plainElem Tryd.prog 3), MapN.empty.congr (fun x => (fR_nil x).symm)⟩, (fun j => by have := heap_alloc_new w2 (.map #[] 0); simp only [World.cell?, this]), (by have := lt_of_block TK2.out.y; omega)⟩
      obtain ⟨w4, hw4⟩ : ∃ x, w2.alloc (.map #[] 0) = x := ⟨_, rfl⟩
      rw [hw4] at K0 ⊢
      obtain ⟨M, hM⟩ : ∃ q, w2.heap.size = q := ⟨_, rfl⟩
      rw [hM] at K0 ⊢
      clear hkz hw4 hM hmm TK1 TK2 TK0 B0 HFL HFT
      go_wp2_with fail
      go_loopg [12, 14, 41] n (fun gq tv nv iv wr => ∃ (i : Nat) (s : EncS) (r1 p1 : Int) (A1 : Option Addr) (n1 c1 : Nat), tv = .string (strOfNums s.tell) ∧ nv = .int .i64 s.need ∧ iv = .int .i64 i ∧ i + gq = n ∧ Hid (encAll ahead t (l.take i) = s) ∧ Hid (EncOk i s) ∧ Hid (faultTb s.t = 0) ∧ Hid (s.tell.length ≤ 200 * i) ∧ Hid (RbK W M i (.cells #[.int .i64 r1, .int .i64 p1, .slice A1 n1 c1] 24 (0, 0)) (.cells #[.int .i64 0, .int .i64 0, .slice none 0 0] 24 (0, 0)) (.agg #[.int .i64 r1, .int .i64 p1, .slice A1 n1 c1]) s.t s.refs wr))
      case atStart => exact ⟨0, ⟨t, [], [], 0⟩, room, put, At, N0, cp, rfl, rfl, rfl, by omega, Lib.hid rfl, HE1, HF0, Lib.hid (Nat.zero_le _), K0⟩
      case round =>
        obtain ⟨i, s, r1, p1, A1, n1, c1, rfl, rfl, rfl, hig, HSE, HEO, HFT, HTL, K⟩ := hrel
        by_cases hlt : i < n
        · have HFB := Lib.hid (lt_of_block K.out.k.z)
          have hin := hlt
          have hil : i < l.length := by rw [HN.out]; exact hlt
          obtain ⟨b, off, hA, hbl, x0, x1⟩ := fd_cells HR.out hil
          have hmem : l.getD i fd0 ∈ l := by rw [List.getD_eq_getElem?_getD, List.getElem?_eq_getElem hil]; exact List.getElem_mem hil
          have HFO := Lib.hid (HWO.out _ hmem)
          have HST := Lib.hid (show encAll ahead t (l.take (i + 1)) = encStep ahead s (l.getD i fd0) by rw [List.take_succ_eq_append_getElem hil, encAll_snoc, HSE.out, List.getD_eq_getElem?_getD, List.getElem?_eq_getElem hil]; rfl)
          have HEO2 := Lib.hid (encStep_ok (ahead := ahead) HEO.out HFO.out.1)
          obtain ⟨f, hf⟩ : ∃ f, l.getD i fd0 = f := ⟨_, rfl⟩
          rw [hf] at x0 x1 HFO HST HEO2
          have HW2 := Lib.hid (fun w (hb : Below W.heap.size W w) => weight_small (some ⟨b, off + i * 2, none⟩) 1 (c - i) [f] w ((row_one hbl x0 x1).on hb) rfl (by decide) (fun y hy => by rw [List.mem_singleton.1 hy]; exact HFO.out.1) (by rw [wtL_cons, wtL_nil]; have := HFO.out.2; unfold okFd at this; unfold szF; omega))
          rw [show wtL [f] = szF f from by rw [wtL_cons, wtL_nil]; rfl] at HW2
          have HKP := Lib.hid (fun w => refKp_any f HFO.out.1 true w)
          have HFI := Lib.hid (fun w (hv : TbVal w w.heap.size (.agg #[.int .i64 r1, .int .i64 p1, .slice A1 n1 c1]) s.t) => refTabN_any _ s.t f w hv HEO.out.wf HFO.out.1)
          have HIN := Lib.hid (fun w (hv : TbVal w w.heap.size (.agg #[.int .i64 r1, .int .i64 p1, .slice A1 n1 c1]) s.t) => refTabI_any _ s.t f w hv HEO.out.wf HFO.out.1)
          have HW1 := Lib.hid (fun w (hv : TbVal w w.heap.size (.agg #[.int .i64 r1, .int .i64 p1, .slice A1 n1 c1]) s.t) => weight_tab hv HEO.out.wf HFT.out)
          have HTT := Lib.hid ((tellT_len HFO.out.1 HFO.out.2).2.2)
          have HMY := Lib.hid (fun h => insT_may HFT.out HFO.out.2 true h)
          have HSM := Lib.hid (finT_in (t := s.t) (f := f))
          have HRL := Lib.hid HEO.out.len
          have HN0 := HEO.out.n0
          have HN1 := HEO.out.n1
          have HSZW := Lib.hid (show szF f ≤ 92 by have := HFO.out.2; unfold okFd at this; unfold szF; omega)
          have hzn : (strOfNums f.name).size = f.name.length := strOfNums_size _
          have hzv : (strOfNums f.val).size = f.val.length := strOfNums_size _
          obtain ⟨P1, HP1, zP1, HC1⟩ := ptx 64 31 (f.name.length : Int) (by decide) (by decide) (by decide) (by omega) (by have := HFO.out.2; unfold okFd at this; omega)
          obtain ⟨P2, HP2, zP2, HC2⟩ := ptx 0 127 (f.val.length : Int) (by decide) (by decide) (by decide) (by omega) (by have := HFO.out.2; unfold okFd at this; omega)
          obtain ⟨kp, hkp⟩ : ∃ b, kpL f true = b := ⟨_, rfl⟩
          rw [hkp] at HKP
          have HKPE := Lib.hid hkp
          unfold fdV at HKP HFI HIN
          obtain ⟨S1, hS1⟩ : ∃ S, strOfNums f.name = S := ⟨_, rfl⟩
          obtain ⟨S2, hS2⟩ : ∃ S, strOfNums f.val = S := ⟨_, rfl⟩
          have HS1 := Lib.hid hS1
          have HS2 := Lib.hid hS2
          rw [hS1] at hzn
          rw [hS2] at hzv
          rw [hS1, hS2] at HKP HFI HIN
          rw [hS1] at x0
          rw [hS2] at x1
          have hok20 := HFO.out.2
          unfold okFd at hok20
          have zS1 : S1.size ≤ 20 := by omega
          have zS2 : S2.size ≤ 40 := by omega
          rw [← hzn] at HC1
          rw [← hzv] at HC2
          subst hA
          have y0 := (K.out.k.b.cell (p := ⟨b, off + i * 2, none⟩) hbl).trans x0
          have y1 := (K.out.k.b.cell (p := ⟨b, off + i * 2 + 1, none⟩) hbl).trans x1
          have b1 := (Below.refl wr.heap.size wr).alloc (Nat.le_refl _) (.cells #[.string S1, .string S2] 54)
          have F1 := Lib.hid (heap_alloc_new wr (.cells #[.string S1, .string S2] 54))
          have K1 := Lib.hid (K.out.later b1)
          have hnk : (i : Int) < (n : Int) := by omega
          have hnk0 : (0 : Int) ≤ (i : Int) := by omega
          have hzt : (strOfNums s.tell).size = s.tell.length := strOfNums_size _
          obtain ⟨ST, hST⟩ : ∃ S, strOfNums s.tell = S := ⟨_, rfl⟩
          have HTS := Lib.hid hST
          rw [hST] at hzt ⊢
          have htl := HTL.out
          have zST : ST.size ≤ 1600 := by omega
          clear x0 x1 hf hS1 hS2 hmem hil b1 hkp hST hzn hzv hok20 hzt htl
          go_upto_region 13 with fail
          obtain ⟨w1, hw1⟩ : ∃ x, wr.alloc (.cells #[.string S1, .string S2] 54) = x := ⟨_, rfl⟩
          rw [hw1] at F1 K1 ⊢
          clear hw1 y0 y1
          obtain ⟨y0, y1⟩ := bk2F F1.out
          go_wp2_with fail
          refine (HKP.out _).mono ?_
          clear y0 y1
          rintro e w2 ⟨rfl, b2⟩
          have K2 := Lib.hid (K1.out.later b2)
          have F2 := Lib.hid ((b2.block _ (lt_of_block F1.out)).trans F1.out)
          clear b2
          by_cases hk : 0 ≤ kp
          · have hkd : decide (0 ≤ kp) = true := decide_eq_true hk
            have HS := Lib.hid (show encStep ahead s f = ⟨s.t, s.tell, s.refs ++ [none], s.need⟩ by unfold encStep; rw [if_pos (by rw [HKPE.out]; exact hk)])
            have K3 := Lib.hid K2.out.none
            go_wp2_with fail
            go_roundg (gk - 1)
            case measure => omega
            case rel => exact ⟨i + 1, encStep ahead s f, r1, p1, A1, n1, c1, (by rw [HS.out, ← HTS.out]), (by rw [HS.out]), by first | rfl | go_num, by omega, HST, HEO2, Lib.hid (by rw [HS.out]; exact HFT.out), Lib.hid (by rw [HS.out]; exact (show s.tell.length ≤ 200 * (i + 1) by have := HTL.out; omega)), Lib.hid (by rw [HS.out]; exact K3.out)⟩
          · have hkd : decide (0 ≤ kp) = false := decide_eq_false hk
            have HNK := Lib.hid (show ¬ 0 ≤ kpL f true by rw [HKPE.out]; exact hk)
            clear hk
            obtain ⟨z0, z1, z2⟩ := bk3T K2.out.k.z
            have zf := fun j => bk_frz K2.out.k.z j
            obtain ⟨y0, y1⟩ := bk2F F2.out
            go_wp2_with fail
            refine (HFI.out _ K2.out.k.v).mono ?_
            clear z0 z1 z2 zf y0 y1
            rintro e w3 ⟨b3, rfl⟩
            have K3 := Lib.hid (K2.out.later b3)
            have F3 := Lib.hid ((b3.block _ (lt_of_block F2.out)).trans F2.out)
            clear b3
            have HHA := Lib.hid (show hasT s.t f = (decide ((finT s.t f).2.2 = 0) && (finT s.t f).2.1) from rfl)
            obtain ⟨⟨fn, fs, fe⟩, hfin⟩ : ∃ r, finT s.t f = r := ⟨_, rfl⟩
            have HFN := Lib.hid (congrArg (·.1) hfin)
            rw [hfin] at HHA HSM ⊢
            dsimp only at HHA HSM ⊢
            clear hfin
            by_cases hh : hasT s.t f = true
            · obtain ⟨f0, f1, f2, _⟩ := HSM.out hh
              have hhd := HHA.out.symm.trans hh
              rw [Bool.and_eq_true, decide_eq_true_iff] at hhd
              obtain ⟨rfl, rfl⟩ := hhd
              have HS := Lib.hid (show encStep ahead s f = ⟨s.t, s.tell, s.refs ++ [some fn], max s.need (fn + 1)⟩ by unfold encStep; rw [if_neg (by have := HNK.out; omega), if_pos hh, show (finT s.t f).1 = fn from HFN.out])
              have hwr : IntKind.i64.wrap (fn + 1) = fn + 1 := by rw [IntKind.wrap_i64]; omega
              clear hh
              obtain ⟨D, OO, MM⟩ := K3.out.m
              have OH := Lib.hid OO
              have MH := Lib.hid MM
              clear OO MM
              go_wp2_with (at_mapUpdate
                           go_loud (refine wpList_mapUpdate_own _ rfl _ _ _ 85 rfl 3 3 (Maps.int_keyed Tryd.underlying3) Tryd.underlying85 _ M i D rfl OH.out (by unfold maxLen; omega) _ _ (kyN (i : Int)) rfl rfl (Maps.keyOf_int_mk Tryd.underlying3 (wfN (by omega) (by omega))) _ [] (plainElem_int Tryd.underlying3 (wfN (by omega) (by omega))) ?_)
                           intro w4 own4 gr4
                           have K4 := Lib.hid (K3.out.store HRL.out MH.out own4 gr4)
                           clear own4 gr4)
              all_goals
                go_roundg (gk - 1)
                case measure => omega
                case rel => exact ⟨i + 1, encStep ahead s f, r1, p1, A1, n1, c1, (by rw [HS.out, ← HTS.out]), (by rw [HS.out]; show Value.int .i64 _ = Value.int .i64 (max _ _); congr 1; omega), by first | rfl | go_num, by omega, HST, HEO2, Lib.hid (by rw [HS.out]; exact HFT.out), Lib.hid (by rw [HS.out]; exact (show s.tell.length ≤ 200 * (i + 1) by have := HTL.out; omega)), Lib.hid (by rw [HS.out]; exact K4.out)⟩
            · have hhf : hasT s.t f = false := Bool.eq_false_iff.2 hh
              have hcond : (fe = 0 ∧ fs = false) ∨ ¬ fe = 0 := by
                by_cases q : fe = 0
                · refine .inl ⟨q, ?_⟩
                  have := HHA.out.symm.trans hhf
                  rw [decide_eq_true q, Bool.true_and] at this
                  exact this
                · exact .inr q
              have HHF := Lib.hid hhf
              clear hh hhf HHA HSM HFN
              have HGO : ∀ Z : Prop, Z → Z := fun _ h => h
              go_upto_region 15 with fail
              go_cut [61] from 56 to 61 (fun s61 wx => s61 = .bool true ∧ w3 = wx)
              case first =>
                rcases hcond with ⟨rfl, rfl⟩ | hne
                · go_wp2_with fail
                  go_meet
                  exact ⟨rfl, rfl⟩
                · have hneb : (fe != 0) = true := by simp [hne]
                  clear hne
                  go_wp2_with fail
                  go_meet
                  exact ⟨rfl, rfl⟩
              case rest =>
                obtain ⟨rfl, rfl⟩ := hcut
                clear hcond
                obtain ⟨nb, hnb⟩ : ∃ b, (!mayT s.t f ahead) = b := ⟨_, rfl⟩
                have HNB := Lib.hid hnb
                clear hnb
                have okt := (faultTb_iff _).1 HFT.out
                have hrp : r1 = s.t.room ∧ p1 = s.t.put := by
                  obtain ⟨_, hvv, _⟩ := K3.out.k.v.ex
                  injection hvv with e1
                  exact ⟨(by simpa using e1 : r1 = s.t.room ∧ p1 = s.t.put ∧ _ = _).1, (by simpa using e1 : r1 = s.t.room ∧ p1 = s.t.put ∧ _ = _).2.1⟩
                have HRP := Lib.hid hrp
                have HOKT := Lib.hid okt
                clear okt hrp
                go_upto_region 16 with fail
                go_cut [83] from 62 to 83 (fun s83 wx => s83 = .bool nb ∧ Hid (Below w3.heap.size w3 wx))
                case first =>
                  cases ahead with
                  | false =>
                    have HNBE := Lib.hid (show nb = true by rw [← HNB.out]; unfold mayT; simp)
                    refine wp_region_ext (by kernel_rfl) (by kernel_rfl) ?_
                    repeat (go_big_quiet_step (fail))
                    refine wpQuiet_nil ?_
                    intro w4 b4
                    go_wp2_with fail
                    go_meet
                    exact ⟨by rw [HNBE.out], Lib.hid b4⟩
                  | true =>
                    have HWA := Lib.hid (fun w (hb : Below w3.heap.size w3 w) => HW1.out w (K3.out.k.v.on hb))
                    have HWB := Lib.hid (fun w (hb : Below w3.heap.size w3 w) => HW2.out w (K3.out.k.b.trans (hb.mono K3.out.k.b.size)))
                    have okt := HOKT.out
                    have hrp := HRP.out
                    have hrm := okt.1
                    have hpt := okt.2.1
                    have hwl := okt.2.2.2.1
                    have hsz := HSZW.out
                    have HMD := Lib.hid (show mayT s.t f true = (!(decide (s.t.room < (wtL s.t.rows : Int) + (szF f : Int))) && !(decide (4611686018427387903 ≤ s.t.put))) by unfold mayT; rw [Bool.true_and])
                    rw [← hrp.1, ← hrp.2] at HMD
                    rw [← hrp.1] at hrm hwl
                    rw [← hrp.2] at hpt
                    obtain ⟨wa, hwa⟩ : ∃ x, wtL s.t.rows = x := ⟨_, rfl⟩
                    obtain ⟨wb, hwb⟩ : ∃ x, szF f = x := ⟨_, rfl⟩
                    rw [hwa] at HWA HMD hwl
                    rw [hwb] at HWB HMD hsz
                    have hsum : IntKind.i64.wrap ((wa : Int) + (wb : Int)) = (wa : Int) + (wb : Int) := by rw [IntKind.wrap_i64]; omega
                    have hUT : ((i : Int) + 1).toNat = i + 1 := by omega
                    have hU0 : (0 : Int) ≤ (i : Int) + 1 := by omega
                    have hU1 : (i : Int) ≤ (i : Int) + 1 := by omega
                    have hU2 : (i : Int) + 1 ≤ (c : Int) := by have := HNC.out; omega
                    have hU3 : ¬ c = i := by have := HNC.out; omega
                    have hU4 : i + 1 - i = 1 := by omega
                    clear okt hrp hwa hwb HW1 HW2 hrm hwl hsz
                    by_cases hc1 : r1 < (wa : Int) + (wb : Int)
                    · have hd1 : decide (r1 < (wa : Int) + (wb : Int)) = true := decide_eq_true hc1
                      have HNBE := Lib.hid (show nb = true by rw [← HNB.out, HMD.out, hd1]; rfl)
                      clear hc1
                      obtain ⟨z0, z1, z2⟩ := bk3T K3.out.k.z
                      replace z0 := Ext.cell z0
                      replace z1 := Ext.cell z1
                      replace z2 := Ext.cell z2
                      refine wp_region_ext (by kernel_rfl) (by kernel_rfl) ?_
                      repeat (go_big_quiet_step (first | (go_at_call 49; with_reducible exact Ext.call (HWA.out _ (Ext.h _))) | (go_at_call 49; with_reducible exact Ext.call (HWB.out _ (Ext.h _)))))
                      refine wpQuiet_nil ?_
                      intro w4 b4
                      clear z0 z1 z2
                      go_wp2_with fail
                      go_meet
                      exact ⟨by rw [HNBE.out], Lib.hid b4⟩
                    · have hd1 : decide (r1 < (wa : Int) + (wb : Int)) = false := decide_eq_false hc1
                      clear hc1
                      by_cases hc2 : 4611686018427387903 ≤ p1
                      · have hd2 : decide (4611686018427387903 ≤ p1) = true := decide_eq_true hc2
                        have HNBE := Lib.hid (show nb = true by rw [← HNB.out, HMD.out, hd2, Bool.not_true, Bool.and_false, Bool.not_false])
                        clear hc2
                        obtain ⟨z0, z1, z2⟩ := bk3T K3.out.k.z
                        replace z0 := Ext.cell z0
                        replace z1 := Ext.cell z1
                        replace z2 := Ext.cell z2
                        refine wp_region_ext (by kernel_rfl) (by kernel_rfl) ?_
                        repeat (go_big_quiet_step (first | (go_at_call 49; with_reducible exact Ext.call (HWA.out _ (Ext.h _))) | (go_at_call 49; with_reducible exact Ext.call (HWB.out _ (Ext.h _)))))
                        refine wpQuiet_nil ?_
                        intro w4 b4
                        clear z0 z1 z2
                        go_wp2_with fail
                        go_meet
                        exact ⟨by rw [HNBE.out], Lib.hid b4⟩
                      · have hd2 : decide (4611686018427387903 ≤ p1) = false := decide_eq_false hc2
                        have HNBE := Lib.hid (show nb = false by rw [← HNB.out, HMD.out, hd1, hd2]; rfl)
                        clear hc2
                        obtain ⟨z0, z1, z2⟩ := bk3T K3.out.k.z
                        replace z0 := Ext.cell z0
                        replace z1 := Ext.cell z1
                        replace z2 := Ext.cell z2
                        refine wp_region_ext (by kernel_rfl) (by kernel_rfl) ?_
                        repeat (go_big_quiet_step (first | (go_at_call 49; with_reducible exact Ext.call (HWA.out _ (Ext.h _))) | (go_at_call 49; with_reducible exact Ext.call (HWB.out _ (Ext.h _)))))
                        refine wpQuiet_nil ?_
                        intro w4 b4
                        clear z0 z1 z2
                        go_wp2_with fail
                        go_meet
                        exact ⟨by rw [HNBE.out], Lib.hid b4⟩
                case rest =>
                  obtain ⟨rfl, B4⟩ := hcut
                  have b4 := B4.out
                  have K4 := Lib.hid (K3.out.later b4)
                  have F4 := Lib.hid ((b4.block _ (lt_of_block F3.out)).trans F3.out)
                  clear b4
                  cases nb with
                  | true =>
                    have HMF := Lib.hid (show mayT s.t f ahead = false by have := HNB.out; rwa [Bool.not_eq_true'] at this)
                    have HS := Lib.hid (show encStep ahead s f = ⟨s.t, s.tell, s.refs ++ [none], s.need⟩ by unfold encStep; rw [if_neg (by have := HNK.out; omega), if_neg (by rw [HHF.out]; decide), if_neg (by rw [HMF.out]; decide)])
                    have K5 := Lib.hid K4.out.none
                    go_wp2_with fail
                    go_roundg (gk - 1)
                    case measure => omega
                    case rel => exact ⟨i + 1, encStep ahead s f, r1, p1, A1, n1, c1, (by rw [HS.out, ← HTS.out]), (by rw [HS.out]), by first | rfl | go_num, by omega, HST, HEO2, Lib.hid (by rw [HS.out]; exact HFT.out), Lib.hid (by rw [HS.out]; exact (show s.tell.length ≤ 200 * (i + 1) by have := HTL.out; omega)), Lib.hid (by rw [HS.out]; exact K5.out)⟩
                  | false =>
                    have hmt : mayT s.t f ahead = true := by have := HNB.out; rwa [Bool.not_eq_false'] at this
                    have hat : ahead = true := by
                      cases ahead with
                      | true => rfl
                      | false => unfold mayT at hmt; simp at hmt
                    subst hat
                    have HMF := Lib.hid hmt
                    obtain ⟨hi2, hif⟩ := HMY.out hmt
                    have hpt := HOKT.out.2.1
                    rw [← HRP.out.2] at hpt
                    have hp1m : p1 < 4611686018427387903 := by
                      unfold mayT at hmt
                      rw [Bool.and_eq_true, Bool.not_eq_true', decide_eq_false_iff_not, ← HRP.out.2] at hmt
                      omega
                    clear hmt
                    have HS := Lib.hid (show encStep true s f = ⟨(insT s.t f).1, s.tell ++ tellT f, s.refs ++ [some p1], max s.need (p1 + 1)⟩ by unfold encStep; rw [if_neg (by have := HNK.out; omega), if_neg (by rw [HHF.out]; decide), if_pos HMF.out, HRP.out.2])
                    obtain ⟨z0, z1, z2⟩ := bk3T K4.out.k.z
                    have zf := fun j => bk_frz K4.out.k.z j
                    obtain ⟨y0, y1⟩ := bk2F F4.out
                    obtain ⟨⟨T9, x9⟩, hins⟩ : ∃ r, insT s.t f = r := ⟨_, rfl⟩
                    rw [hins] at HIN HS hi2 hif
                    unfold TbRes at HIN
                    dsimp only at HIN HS hi2 hif
                    subst hi2
                    have HIF := Lib.hid hif
                    clear hins hif HFI HKP HW1 HW2
                    go_wp2_with fail
                    refine (HIN.out _ K4.out.k.v).mono ?_
                    clear z0 z1 z2 zf y0 y1
                    rintro e w5 ⟨b5, v5, rfl, hv5⟩
                    obtain ⟨A9, N9, c9, r9, p9, rfl, hv5⟩ := tb_partsR hv5
                    have HV5 := Lib.hid hv5
                    have K5 := Lib.hid (K4.out.later b5)
                    have F5 := Lib.hid ((b5.block _ (lt_of_block F4.out)).trans F4.out)
                    clear b5
                    obtain ⟨z0, z1, z2⟩ := bk3T K5.out.k.z
                    have zf := fun j => bk_frz K5.out.k.z j
                    clear hv5
                    go_upto_region 19 with fail
                    obtain ⟨kz, gz⟩ := bk3_blk K5.out.k.z (.int .i64 r9) (.int .i64 p9) (.slice A9 N9 c9)
                    obtain ⟨w6, hw6⟩ : ∃ x, ((w5.setCell ⟨W.heap.size, 0, none⟩ (.int .i64 r9)).setCell ⟨W.heap.size, 1, none⟩ (.int .i64 p9)).setCell ⟨W.heap.size, 2, none⟩ (.slice A9 N9 c9) = x := ⟨_, rfl⟩
                    rw [hw6] at kz gz ⊢
                    have K6 := Lib.hid (K5.out.setZ kz gz HV5.out)
                    have F6 := Lib.hid ((gz.block _ (lt_of_block F5.out) (by have := HFB.out; simp; omega)).trans F5.out)
                    clear hw6 kz gz z0 z1 z2 zf
                    obtain ⟨y0, y1⟩ := bk2F F6.out
                    replace y0 := Ext.cell y0
                    replace y1 := Ext.cell y1
                    refine wp_region_ext (by kernel_rfl) (by kernel_rfl) ?_
                    repeat (go_big_quiet_step (first | (go_at_call 51; with_reducible exact Ext.call (HC1.out _)) | (go_at_call 51; with_reducible exact Ext.call (HC2.out _))))
                    refine wpQuiet_nil ?_
                    intro w7 b7
                    clear y0 y1
                    have K7 := Lib.hid (K6.out.later b7)
                    have F7 := Lib.hid ((b7.block _ (lt_of_block F6.out)).trans F6.out)
                    clear b7
                    have hwr : IntKind.i64.wrap (p1 + 1) = p1 + 1 := by rw [IntKind.wrap_i64]; omega
                    have HSTR := Lib.hid (show ST ++ (P1 ++ S1 ++ P2 ++ S2) = strOfNums (s.tell ++ tellT f) by rw [← HTS.out, ← HP1.out, ← HP2.out, ← HS1.out, ← HS2.out]; simp only [str_cat]; rfl)
                    obtain ⟨STN, hSTN⟩ : ∃ S, ST ++ (P1 ++ S1 ++ P2 ++ S2) = S := ⟨_, rfl⟩
                    rw [hSTN] at HSTR
                    obtain ⟨D, OO, MM⟩ := K7.out.m
                    have OH := Lib.hid OO
                    have MH := Lib.hid MM
                    clear OO MM
                    go_wp2_with (at_mapUpdate
                                 go_loud (refine wpList_mapUpdate_own _ rfl _ _ _ 85 rfl 3 3 (Maps.int_keyed Tryd.underlying3) Tryd.underlying85 _ M i D rfl OH.out (by unfold maxLen; omega) _ _ (kyN (i : Int)) rfl rfl (Maps.keyOf_int_mk Tryd.underlying3 (wfN (by omega) (by omega))) _ [] (plainElem_int Tryd.underlying3 (wfN (by omega) (by omega))) ?_)
                                 intro w8 own8 gr8
                                 have K8 := Lib.hid (K7.out.store HRL.out MH.out own8 gr8)
                                 clear own8 gr8)
                    all_goals
                      try rw [hSTN]
                      go_roundg (gk - 1)
                      case measure => omega
                      case rel => exact ⟨i + 1, encStep true s f, r9, p9, A9, N9, c9, (by rw [HS.out, HSTR.out]), (by rw [HS.out]; show Value.int .i64 _ = Value.int .i64 (max _ _); congr 1; omega), by first | rfl | go_num, by omega, HST, HEO2, Lib.hid (by rw [HS.out]; exact HIF.out), Lib.hid (by rw [HS.out]; exact (by show (s.tell ++ tellT f).length ≤ 200 * (i + 1); rw [List.length_append]; have := HTT.out; have := HTL.out; omega)), Lib.hid (by rw [HS.out]; exact K8.out)⟩
        · obtain rfl : i = n := by omega
          have htk : l.take i = l := List.take_of_length_le (by rw [HN.out]; exact Nat.le_refl _)
          have HSE2 := Lib.hid (show encAll ahead t l = s by rw [← HSE.out, htk])
          have HRQ := Lib.hid (show RS = (s.t, s.tell, linesT s.need l s.refs, 0) by rw [← HRS.out, HSE2.out])
          have HRLN := Lib.hid HEO.out.len
          obtain ⟨PN, HPN, zPN, HCN⟩ := ptx 0 255 s.need (by decide) (by decide) (by decide) HEO.out.n0 HEO.out.n1
          have hpl := strOfNums_size (pxT 0 255 s.need)
          rw [HPN.out] at hpl
          have HND0 := And.intro HEO.out.n0 HEO.out.n1
          obtain ⟨need, hneed⟩ : ∃ m, s.need = m := ⟨_, rfl⟩
          have HND := Lib.hid (show s.need = need ∧ (0 ≤ need ∧ need ≤ 4611686018427387903) from ⟨hneed, by rw [← hneed]; exact HND0⟩)
          rw [hneed] at HPN HCN HRQ hpl ⊢
          have HLL := Lib.hid (show (pxT 0 255 need).length ≤ 11 by omega)
          obtain ⟨R, hR⟩ : ∃ R, linesT need l s.refs = R := ⟨_, rfl⟩
          rw [hR] at HRQ
          have HRR := Lib.hid (show pxT 0 255 need ++ (((l.drop 0).zip (s.refs.drop 0)).map (fun q => lineT need q.1 q.2)).flatten = R by rw [← hR, List.drop_zero, List.drop_zero]; rfl)
          obtain ⟨STL, hSTL⟩ : ∃ S, strOfNums s.tell = S := ⟨_, rfl⟩
          have HTLS := Lib.hid hSTL
          rw [hSTL]
          clear htk hneed HND0 hpl hR hSTL
          go_wp2_with fail
          refine (HCN.out _).mono ?_
          rintro e w5 ⟨rfl, b5⟩
          have K5 := Lib.hid (K.out.later b5)
          clear b5
          go_wp2_with fail
          go_loopg [20, 121] i (fun gq sv iv wr => ∃ (k : Nat) (acc : List Int), sv = .string (strOfNums acc) ∧ iv = .int .i64 k ∧ k + gq = i ∧ Hid (acc ++ (((l.drop k).zip (s.refs.drop k)).map (fun q => lineT need q.1 q.2)).flatten = R) ∧ Hid (acc.length ≤ 11 + 300 * k) ∧ Hid (RbK W M i (.cells #[.int .i64 r1, .int .i64 p1, .slice A1 n1 c1] 24 (0, 0)) (.cells #[.int .i64 0, .int .i64 0, .slice none 0 0] 24 (0, 0)) (.agg #[.int .i64 r1, .int .i64 p1, .slice A1 n1 c1]) s.t s.refs wr))
          case atStart => exact ⟨0, pxT 0 255 need, by rw [HPN.out], rfl, by omega, HRR, Lib.hid (by have := HLL.out; omega), K5⟩
          case round =>
            obtain ⟨k, acc, rfl, rfl, hkg, HAC, HAL, K⟩ := hrel
            by_cases hlt2 : k < i
            · have hin := hlt2
              have hil : k < l.length := by rw [HN.out]; exact hlt2
              have hjl : k < s.refs.length := by rw [HRLN.out]; exact hlt2
              obtain ⟨b, off, hA, hbl, x0, x1⟩ := fd_cells HR.out hil
              have hmem : l.getD k fd0 ∈ l := by rw [List.getD_eq_getElem?_getD, List.getElem?_eq_getElem hil]; exact List.getElem_mem hil
              have hmr : s.refs.getD k none ∈ s.refs := by rw [List.getD_eq_getElem?_getD, List.getElem?_eq_getElem hjl]; exact List.getElem_mem hjl
              have HFO := Lib.hid (HWO.out _ hmem)
              have HDR := Lib.hid (HAC.out.symm.trans (by rw [zip_drop need hil hjl, ← List.append_assoc] : _ = (acc ++ lineT need (l.getD k fd0) (s.refs.getD k none)) ++ (((l.drop (k + 1)).zip (s.refs.drop (k + 1))).map (fun q => lineT need q.1 q.2)).flatten)).symm
              have HRS := Lib.hid (fun n (e : s.refs.getD k none = some n) => HEO.out.rs n (e ▸ hmr))
              have HFR := fR_at s.refs k
              obtain ⟨f, hf⟩ : ∃ f, l.getD k fd0 = f := ⟨_, rfl⟩
              obtain ⟨r, hr⟩ : ∃ r, s.refs.getD k none = r := ⟨_, rfl⟩
              rw [hf] at x0 x1 HFO
              rw [hf, hr] at HDR
              rw [hr] at HFR HRS
              have hrn : r = none ∨ ∃ n, r = some n ∧ 0 ≤ n ∧ n < s.need := by
                cases r with
                | none => exact .inl rfl
                | some n => exact .inr ⟨n, rfl, HRS.out n rfl⟩
              have hnd := HND.out
              have hlen : (lineT need f r).length ≤ 300 := by
                have := (lineP_len (need := need) (n := match r with | none => -1 | some n => n) HFO.out.1 HFO.out.2 (by
                  rcases hrn with rfl | ⟨n, rfl, h0, h1⟩
                  · exact .inl rfl
                  · exact .inr ⟨h0, by rw [hnd.1] at h1; exact h1, by omega⟩)).2.2
                rcases hrn with rfl | ⟨n, rfl, h0, h1⟩
                · exact this
                · unfold lineP at this
                  dsimp only at this
                  rwa [if_neg (by omega)] at this
              have HACL := Lib.hid (show (acc ++ lineT need f r).length ≤ 11 + 300 * (k + 1) by rw [List.length_append]; have := HAL.out; omega)
              have HKP := Lib.hid (fun w => refKp_any f HFO.out.1 true w)
              have HKQ := Lib.hid (fun w => refKp_any f HFO.out.1 false w)
              have i1 := kpL_in f true
              have i2 := kpL_in f false
              have hzn : (strOfNums f.name).size = f.name.length := strOfNums_size _
              have hzv : (strOfNums f.val).size = f.val.length := strOfNums_size _
              obtain ⟨P1, HP1, zP1, HC1⟩ := ptx 32 7 (f.name.length : Int) (by decide) (by decide) (by decide) (by omega) (by have := HFO.out.2; unfold okFd at this; omega)
              obtain ⟨P2, HP2, zP2, HC2⟩ := ptx 0 127 (f.val.length : Int) (by decide) (by decide) (by decide) (by omega) (by have := HFO.out.2; unfold okFd at this; omega)
              have HLA := Lib.hid (fun h => lineT_a (need := need) (f := f) (r := r) h)
              have HLB := Lib.hid (fun h n => lineT_b (need := need) (f := f) (n := n) h)
              have HLC := Lib.hid (fun h k => lineT_c (need := need) (f := f) h k)
              have HLD := Lib.hid (fun h k => lineT_d (need := need) (f := f) h k)
              obtain ⟨kp, hkp⟩ : ∃ b, kpL f true = b := ⟨_, rfl⟩
              obtain ⟨kq, hkq⟩ : ∃ b, kpL f false = b := ⟨_, rfl⟩
              rw [hkp] at HKP i1 HLA HLB HLC HLD
              rw [hkq] at HKQ i2 HLC HLD
              unfold fdV at HKP HKQ
              obtain ⟨S1, hS1⟩ : ∃ S, strOfNums f.name = S := ⟨_, rfl⟩
              obtain ⟨S2, hS2⟩ : ∃ S, strOfNums f.val = S := ⟨_, rfl⟩
              have HS1 := Lib.hid hS1
              have HS2 := Lib.hid hS2
              rw [hS1] at hzn x0
              rw [hS2] at hzv x1
              rw [hS1, hS2] at HKP HKQ
              have hok20 := HFO.out.2
              unfold okFd at hok20
              have zS1 : S1.size ≤ 20 := by omega
              have zS2 : S2.size ≤ 40 := by omega
              rw [← hzn] at HC1
              rw [← hzv] at HC2
              subst hA
              have y0 := (K.out.k.b.cell (p := ⟨b, off + k * 2, none⟩) hbl).trans x0
              have y1 := (K.out.k.b.cell (p := ⟨b, off + k * 2 + 1, none⟩) hbl).trans x1
              have b1 := (Below.refl wr.heap.size wr).alloc (Nat.le_refl _) (.cells #[.string S1, .string S2] 54)
              have F1 := Lib.hid (heap_alloc_new wr (.cells #[.string S1, .string S2] 54))
              have K1 := Lib.hid (K.out.later b1)
              have hnk : (k : Int) < (i : Int) := by omega
              have hnk0 : (0 : Int) ≤ (k : Int) := by omega
              have hza : (strOfNums acc).size = acc.length := strOfNums_size _
              obtain ⟨SA, hSA⟩ : ∃ S, strOfNums acc = S := ⟨_, rfl⟩
              have HAS := Lib.hid hSA
              rw [hSA] at hza ⊢
              have hal := HAL.out
              have zSA : SA.size ≤ 2411 := by omega
              have HSV := Lib.hid (show valT f = pxT 0 127 (f.val.length : Int) ++ f.val from rfl)
              have HND1 := Lib.hid hnd.1
              have HND2 := Lib.hid hnd.2
              clear x0 x1 hf hr hS1 hS2 hmem hmr hil hjl b1 hkp hkq hSA hzn hzv hok20 hza hal hlen hnd HAC
              go_upto_region 27 with fail
              obtain ⟨w1, hw1⟩ : ∃ x, wr.alloc (.cells #[.string S1, .string S2] 54) = x := ⟨_, rfl⟩
              rw [hw1] at F1 K1 ⊢
              clear hw1 y0 y1
              obtain ⟨D, OO, MM⟩ := K1.out.m
              have OH := Lib.hid OO
              have hhas := MM.has (k : Int)
              rw [HFR] at hhas
              have HYES := Lib.hid (fun n (e : r = some n) => (MM.yes (k : Int) n (HFR.trans e)).2 (.lit (.int .i64 0)))
              clear OO MM HFR
              obtain ⟨ob, hob⟩ : ∃ b, Maps.has D (kyN (k : Int)) = b := ⟨_, rfl⟩
              have HOB := Lib.hid hob
              rw [hob] at hhas
              have HHAS := Lib.hid hhas
              clear hob hhas
              go_upto_region 28 with (at_lookup; refine wpList_lookup_own_ok_int _ rfl _ _ 85 rfl 3 3 .i64 (Maps.int_keyed Tryd.underlying3) Tryd.underlying85 Tryd.underlying3 (zeroIN _) M i D rfl OH.out _ (kyN (k : Int)) rfl (Maps.keyOf_int_mk Tryd.underlying3 (wfN (by omega) (by omega))) ?_; intro z hat hwz; have HAT := Lib.hid hat; rw [HOB.out]; clear hat hwz)
              obtain ⟨y0, y1⟩ := bk2F F1.out
              replace y0 := Ext.cell y0
              replace y1 := Ext.cell y1
              refine wp_region_ext (by kernel_rfl) (by kernel_rfl) ?_
              repeat (go_big_quiet_step (first | (go_at_call 51; with_reducible exact Ext.call (HC2.out _))))
              refine wpQuiet_nil ?_
              intro w2 b2
              clear y0 y1
              have K2 := Lib.hid (K1.out.later b2)
              have F2 := Lib.hid ((b2.block _ (lt_of_block F1.out)).trans F1.out)
              clear b2
              obtain ⟨y0, y1⟩ := bk2F F2.out
              go_wp2_with fail
              refine (HKP.out _).mono ?_
              clear y0 y1
              rintro e w3 ⟨rfl, b3⟩
              have K3 := Lib.hid (K2.out.later b3)
              have F3 := Lib.hid ((b3.block _ (lt_of_block F2.out)).trans F2.out)
              clear b3
              by_cases hk : 0 ≤ kp
              · have hkd : decide (0 ≤ kp) = true := decide_eq_true hk
                obtain ⟨P3, HP3, zP3, HC3⟩ := ptx 192 63 kp (by decide) (by decide) (by decide) hk (by omega)
                have HL := HLA.out (by omega)
                clear hk
                obtain ⟨y0, y1⟩ := bk2F F3.out
                go_wp2_with fail
                refine (HKP.out _).mono ?_
                clear y0 y1
                rintro e w4 ⟨rfl, b4⟩
                have K4 := Lib.hid (K3.out.later b4)
                have F4 := Lib.hid ((b4.block _ (lt_of_block F3.out)).trans F3.out)
                clear b4
                go_wp2_with fail
                refine (HC3.out _).mono ?_
                rintro e w5 ⟨rfl, b5⟩
                have K5 := Lib.hid (K4.out.later b5)
                have F5 := Lib.hid ((b5.block _ (lt_of_block F4.out)).trans F4.out)
                clear b5
                go_wp2_with fail
                have HLN := Lib.hid (show SA ++ P3 = strOfNums (acc ++ lineT need f r) by rw [← HAS.out, HL, ← HP3.out]; simp only [str_cat])
                obtain ⟨SN, hSN⟩ : ∃ S, SA ++ P3 = S := ⟨_, rfl⟩
                rw [hSN] at HLN
                try rw [hSN]
                go_roundg (gk - 1)
                case measure => omega
                case rel => exact ⟨k + 1, acc ++ lineT need f r, (by rw [HLN.out]), by first | rfl | go_num, by omega, HDR, HACL, K5⟩
              · have hkd : decide (0 ≤ kp) = false := decide_eq_false hk
                have HLB2 := Lib.hid (HLB.out (by omega))
                have HLC2 := Lib.hid (HLC.out (by omega))
                have HLD2 := Lib.hid (HLD.out (by omega))
                clear HLA HLB HLC HLD
                clear hk
                rcases hrn with rfl | ⟨n, rfl, hn0, hn1⟩
                · obtain rfl : ob = false := HHAS.out
                  obtain ⟨y0, y1⟩ := bk2F F3.out
                  go_wp2_with fail
                  refine (HKQ.out _).mono ?_
                  clear y0 y1
                  rintro e w4 ⟨rfl, b4⟩
                  have K4 := Lib.hid (K3.out.later b4)
                  have F4 := Lib.hid ((b4.block _ (lt_of_block F3.out)).trans F3.out)
                  clear b4
                  by_cases hq : 0 ≤ kq
                  · have hqd : decide (0 ≤ kq) = true := decide_eq_true hq
                    obtain ⟨P3, HP3, zP3, HC3⟩ := ptx 64 15 kq (by decide) (by decide) (by decide) hq (by omega)
                    have HL2 := HLC2.out (by omega)
                    clear hq
                    obtain ⟨y0, y1⟩ := bk2F F4.out
                    go_wp2_with fail
                    refine (HKQ.out _).mono ?_
                    clear y0 y1
                    rintro e w5 ⟨rfl, b5⟩
                    have K5 := Lib.hid (K4.out.later b5)
                    have F5 := Lib.hid ((b5.block _ (lt_of_block F4.out)).trans F4.out)
                    clear b5
                    go_wp2_with fail
                    refine (HC3.out _).mono ?_
                    rintro e w6 ⟨rfl, b6⟩
                    have K6 := Lib.hid (K5.out.later b6)
                    have F6 := Lib.hid ((b6.block _ (lt_of_block F5.out)).trans F5.out)
                    clear b6
                    go_wp2_with fail
                    have HLN := Lib.hid (show SA ++ (P3 ++ (P2 ++ S2)) = strOfNums (acc ++ lineT need f none) by rw [← HAS.out, HL2, HSV.out, ← HP3.out, ← HP2.out, ← HS2.out]; simp only [str_cat])
                    obtain ⟨SN, hSN⟩ : ∃ S, SA ++ (P3 ++ (P2 ++ S2)) = S := ⟨_, rfl⟩
                    rw [hSN] at HLN
                    try rw [hSN]
                    go_roundg (gk - 1)
                    case measure => omega
                    case rel => exact ⟨k + 1, acc ++ lineT need f none, (by rw [HLN.out]), by first | rfl | go_num, by omega, HDR, HACL, K6⟩
                  · have hqd : decide (0 ≤ kq) = false := decide_eq_false hq
                    have HL2 := HLD2.out (by omega)
                    clear hq
                    obtain ⟨y0, y1⟩ := bk2F F4.out
                    replace y0 := Ext.cell y0
                    replace y1 := Ext.cell y1
                    go_wp2_with fail
                    refine wp_region_ext (by kernel_rfl) (by kernel_rfl) ?_
                    repeat (go_big_quiet_step (first | (go_at_call 51; with_reducible exact Ext.call (HC1.out _))))
                    refine wpQuiet_nil ?_
                    intro w5 b5
                    clear y0 y1
                    have K5 := Lib.hid (K4.out.later b5)
                    have F5 := Lib.hid ((b5.block _ (lt_of_block F4.out)).trans F4.out)
                    clear b5
                    go_wp2_with fail
                    have HLN := Lib.hid (show SA ++ (P1 ++ S1 ++ (P2 ++ S2)) = strOfNums (acc ++ lineT need f none) by rw [← HAS.out, HL2, HSV.out, ← HP1.out, ← HS1.out, ← HP2.out, ← HS2.out]; simp only [str_cat, List.append_assoc])
                    obtain ⟨SN, hSN⟩ : ∃ S, SA ++ (P1 ++ S1 ++ (P2 ++ S2)) = S := ⟨_, rfl⟩
                    rw [hSN] at HLN
                    try rw [hSN]
                    go_roundg (gk - 1)
                    case measure => omega
                    case rel => exact ⟨k + 1, acc ++ lineT need f none, (by rw [HLN.out]), by first | rfl | go_num, by omega, HDR, HACL, K5⟩
                · obtain rfl : ob = true := HHAS.out
                  have hzn2 : z = n := by
                    have := HYES.out n rfl
                    rw [HAT.out] at this
                    cases this
                    rfl
                  subst hzn2
                  have hn1' := hn1
                  rw [HND1.out] at hn1'
                  have hn2' := HND2.out
                  have hsub0 : IntKind.i64.wrap (need - 1) = need - 1 := by rw [IntKind.wrap_i64]; omega
                  have hsub : IntKind.i64.wrap (need - 1 - z) = need - 1 - z := by rw [IntKind.wrap_i64]; omega
                  obtain ⟨P3, HP3, zP3, HC3⟩ := ptx 128 63 (need - 1 - z) (by decide) (by decide) (by decide) (by omega) (by omega)
                  have HL2 : lineT need f (some z) = pxT 128 63 (need - 1 - z) := HLB2.out z
                  clear hn1 hn1' hn2'
                  go_wp2_with fail
                  refine (HC3.out _).mono ?_
                  rintro e w4 ⟨rfl, b4⟩
                  have K4 := Lib.hid (K3.out.later b4)
                  have F4 := Lib.hid ((b4.block _ (lt_of_block F3.out)).trans F3.out)
                  clear b4
                  go_wp2_with fail
                  have HLN := Lib.hid (show SA ++ P3 = strOfNums (acc ++ lineT need f (some z)) by rw [← HAS.out, HL2, ← HP3.out]; simp only [str_cat])
                  obtain ⟨SN, hSN⟩ : ∃ S, SA ++ P3 = S := ⟨_, rfl⟩
                  rw [hSN] at HLN
                  try rw [hSN]
                  go_roundg (gk - 1)
                  case measure => omega
                  case rel => exact ⟨k + 1, acc ++ lineT need f (some z), (by rw [HLN.out]), by first | rfl | go_num, by omega, HDR, HACL, K4⟩
            · obtain rfl : k = i := by omega
              have hd : l.drop k = [] := List.drop_eq_nil_of_le (by rw [HN.out]; exact Nat.le_refl _)
              have hRe : acc = R := by
                have := HAC.out
                rw [hd] at this
                simpa using this
              obtain rfl : RS = (s.t, s.tell, R, 0) := HRQ.out
              have HRE := Lib.hid hRe
              obtain ⟨SA, hSA⟩ : ∃ S, strOfNums acc = S := ⟨_, rfl⟩
              have HAS := Lib.hid hSA
              rw [hSA]
              obtain ⟨z0, z1, z2⟩ := bk3T K.out.k.z
              obtain ⟨k1, gp⟩ := bk3_blk K.out.k.y (.int .i64 r1) (.int .i64 p1) (.slice A1 n1 c1)
              have yf := fun j => bk_frz K.out.k.y j
              obtain ⟨y0, y1, y2⟩ := bk3T K.out.k.y
              clear hd hRe hSA
              go_wp2_with fail
              obtain ⟨u0, u1, u2⟩ := bk3T k1
              refine bodyPost_ret (by simp [results, Tryd.results26, go_sem, u0, u1, u2]; try rfl) rfl ?_
              exact ⟨gr_from K.out.k.b K.out.k.b.size (Nat.le_succ _) gp, _, by rw [HTLS.out, ← HRE.out, HAS.out], (K.out.k.v.gr K.out.k.y gp).more gp.size⟩
    · rw [if_pos h1]
      have g : (y != 0) = true := by simp [h1]
      clear h1 HOK hmm HPU HE0
      go_enter Tryd.func26, Tryd.ntmps26
      go_wp2_with fail
      refine (HFT.out _ B0.out).mono ?_
      clear q0 q1 q2 y0 y1 y2 yf
      rintro e w1 ⟨rfl, b1⟩
      have TK1 := Lib.hid (TK0.out.later b1)
      clear b1
      obtain ⟨y0, y1, y2⟩ := bk3T TK1.out.y
      have yf := fun j => bk_frz TK1.out.y j
      go_wp2_with fail
      refine (HFL.out _ TK1.out.b).mono ?_
      clear y0 y1 y2 yf
      rintro e w2 ⟨rfl, b2⟩
      have TK2 := Lib.hid (TK1.out.later b2)
      clear b2
      obtain ⟨y0, y1, y2⟩ := bk3T TK2.out.y
      have yf := fun j => bk_frz TK2.out.y j
      go_wp2_with fail
      obtain ⟨k1, gp⟩ := bk3_blk TK2.out.y (.int .i64 0) (.int .i64 0) (.slice none 0 0)
      obtain ⟨r0, r1', r2⟩ := bk3T k1
      refine bodyPost_ret (by simp [results, Tryd.results26, go_sem, r0, r1', r2]; try rfl) rfl ?_
      exact ⟨gr_from TK2.out.b TK2.out.b.size (Nat.le_succ _) gp, _, rfl, TbVal.zero _ _⟩
  · rw [if_pos h0]
    have g : (x != 0) = true := by simp [h0]
    clear h0 hmm HPU HE0 HOK
    go_enter Tryd.func26, Tryd.ntmps26
    go_wp2_with fail
    refine (HFT.out _ B0.out).mono ?_
    clear q0 q1 q2 y0 y1 y2 yf
    rintro e w1 ⟨rfl, b1⟩
    have TK1 := Lib.hid (TK0.out.later b1)
    clear b1
    obtain ⟨y0, y1, y2⟩ := bk3T TK1.out.y
    have yf := fun j => bk_frz TK1.out.y j
    go_wp2_with fail
    obtain ⟨k1, gp⟩ := bk3_blk TK1.out.y (.int .i64 0) (.int .i64 0) (.slice none 0 0)
    obtain ⟨r0, r1', r2⟩ := bk3T k1
    refine bodyPost_ret (by simp [results, Tryd.results26, go_sem, r0, r1', r2]; try rfl) rfl ?_
    exact ⟨gr_from TK1.out.b TK1.out.b.size (Nat.le_succ _) gp, _, rfl, TbVal.zero _ _⟩
end Go.Proofs.YtfoagelemjdglaaDoor
