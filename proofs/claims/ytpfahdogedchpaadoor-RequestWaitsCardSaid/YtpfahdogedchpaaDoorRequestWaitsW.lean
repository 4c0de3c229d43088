/- The walk of RequestWaits. -/
import Derived.Test.YtpfahdogedchpaaDoorGrpZe
import Derived.Test.YtpfahdogedchpaaDoorGrpZh
import Derived.Test.YtpfahdogedchpaaDoorRqF7
import Derived.Test.YtpfahdogedchpaaDoorGrpZf
import Derived.Test.YtpfahdogedchpaaDoorGrpA
import Derived.Test.YtpfahdogedchpaaDoorGrpD
namespace Go.Proofs.YtpfahdogedchpaaDoor
set_option linter.unusedVariables false
open Go.RowKit P
def tbH : Tb := ⟨100, 0, []⟩
theorem tbH_ok : faultTb tbH = 0 := by decide
theorem tbH_wf : TbWf tbH := ⟨by decide, by decide, by decide, fun x hx => by cases hx⟩
theorem tbH_val (w : World) (B : Nat) : TbVal w B (.agg #[.int .i64 100, .int .i64 0, .slice none 0 0]) tbH := ⟨_, rfl, none, 0, rfl, Nat.le_refl _, by unfold maxLen; omega, RowE.nil _ _ _⟩
theorem fsl_nil (w : World) (B : Nat) : FSl w B (.slice none 0 0) [] := ⟨none, 0, rfl, Nat.le_refl _, by unfold maxLen; omega, RowE.nil _ _ _⟩
set_option maxRecDepth 100000 in
set_option maxHeartbeats 8000000 in
theorem requestWaits_walk (A : Option Addr) (n c : Nat) (rs : List RawT) (s : ByteArray) (k : Int) (W : World) (T : Tab W) (hrow : RawRow W W.heap.size A rs) (hn : rs.length = n) (hnc : n ≤ c) (hc : c ≤ maxLen) (hbt : ∀ i, i < n → (rs.getD i raw0).text.size ≤ maxLen) (hs : s.size ≤ maxLen) :
    Calls Tryd.prog 5 #[.slice A n c, .string s, .int .i64 k] W fun e w' => e = .returned (.bool true) ∧ Below W.heap.size W w' := by
  have HRO := Lib.hid (requestOf_any A n c rs s k W hrow hn hnc hc hbt hs)
  have HTL := Lib.hid (fun w => requestTells_any w)
  have HT := Lib.hid T
  have hlw : ∀ f ∈ rqFs s rs, FdWf f := fun f hf => (rqFs_ok hf).2.1
  have hl0 := rqFs_faultFl s rs
  have hl7 : (rqFs s rs).length ≤ 7 := by rw [rqFs_len]; omega
  have hWR := fun (body : List Int) (hb : body.length ≤ 200) => rqOf_wr (t := tbH) (s := s) (rs := rs) (body := body) (ahead := true) tbH_ok hb
  have hWT := fun (body : List Int) (hb : body.length ≤ 200) => rqWait_core (t := tbH) (s := s) (rs := rs) (body := body) (ahead := true) tbH_ok hb
  have hHE := encFl_heard (ahead := true) tbH_ok hl0
  have hTB := tell_byt (ahead := true) (t := tbH) (rqFs s rs) hlw ((faultFl_iff _).1 hl0).2
  have hTLn := rq_tell_len (ahead := true) (t := tbH) hl0 hlw
  have hUW : TbWf (encAll true tbH (rqFs s rs)).t := by have := appAll_wf tbH_wf hTB (by omega); rwa [hHE] at this
  have hSL := (secR_of (t := tbH) (s := s) (rs := rs) (ahead := true) tbH_ok).1
  change ∀ (body : List Int), body.length ≤ 200 → wrRq tbH (rqFs s rs) body true = ((encAll true tbH (rqFs s rs)).t, (encAll true tbH (rqFs s rs)).tell, reqT (secR true tbH (rqFs s rs)) body, 0) at hWR
  obtain ⟨sec, hsec⟩ : ∃ x, secR true tbH (rqFs s rs) = x := ⟨_, rfl⟩
  obtain ⟨U, hU⟩ : ∃ x, (encAll true tbH (rqFs s rs)).t = x := ⟨_, rfl⟩
  obtain ⟨tell, htell⟩ : ∃ x, (encAll true tbH (rqFs s rs)).tell = x := ⟨_, rfl⟩
  rw [hsec, hU] at hWT
  rw [hsec, hU, htell] at hWR
  rw [hsec] at hSL
  rw [hU] at hUW
  obtain ⟨l, hl⟩ : ∃ l, rqFs s rs = l := ⟨_, rfl⟩
  rw [hl] at HRO hlw hWR hWT hl7
  obtain ⟨nl, hnl⟩ : ∃ x, l.length = x := ⟨_, rfl⟩
  rw [hnl] at HRO hl7
  have HNL := Lib.hid hnl
  have HN8 := Lib.hid (show nl ≤ 8796093022208 by omega)
  have HLW := Lib.hid hlw
  have HUW := Lib.hid hUW
  have HWR := Lib.hid hWR
  have HWT := Lib.hid hWT
  have HSL := Lib.hid hSL
  have HN7 := Lib.hid hl7
  clear hlw hl0 hl7 hWR hWT hHE hTB hTLn hUW hSL hsec hU htell hl hnl hrow hn hnc hc hbt hs T
  go_enter Tryd.func5, Tryd.ntmps5
  go_wp2_with fail
  refine (HRO.out).mono ?_
  rintro e w1 ⟨b1, Af, cf, zs, Ab, cb, rfl, hF, hzl, hZ⟩
  have HZL := Lib.hid (show zs.length ≤ 200 by omega)
  obtain ⟨nb, hnb⟩ : ∃ x, zs.length = x := ⟨_, rfl⟩
  rw [hnb] at hZ ⊢
  have HZB := Lib.hid hnb
  have X1 := (Below.refl w1.heap.size w1).alloc (Nat.le_refl _) (.cells #[.slice Af nl cf, .slice Ab nb cb] 27)
  have F1 := heap_alloc_new w1 (.cells #[.slice Af nl cf, .slice Ab nb cb] 27)
  have BB := b1.trans (X1.mono b1.size)
  have FF := hF.on X1
  have ZZ := bsl_onF hZ X1
  obtain ⟨k1, hk1⟩ : ∃ k, w1.heap.size = k := ⟨_, rfl⟩
  rw [hk1] at F1
  clear b1 hF hZ hzl hnb
  go_upto_region 2 with fail
  obtain ⟨w2, hw2⟩ : ∃ w9, w1.alloc (.cells #[.slice Af nl cf, .slice Ab nb cb] 27) = w9 := ⟨_, rfl⟩
  rw [hw2] at X1 F1 BB FF ZZ ⊢
  have X2 := (Below.refl w2.heap.size w2).alloc (Nat.le_refl _) (.cells #[.int .i64 100, .int .i64 0, .slice none 0 0] 24)
  have G1 := heap_alloc_new w2 (.cells #[.int .i64 100, .int .i64 0, .slice none 0 0] 24)
  have B3 := Lib.hid (BB.trans (X2.mono BB.size))
  have R3 := Lib.hid (FF.on X2)
  have Z3 := Lib.hid (bsl_onF ZZ X2)
  have F3 := Lib.hid ((X2.block _ (lt_of_block F1)).trans F1)
  obtain ⟨k2, hk2⟩ : ∃ k, w2.heap.size = k := ⟨_, rfl⟩
  rw [hk2] at G1
  clear hw2 hk1 BB FF ZZ F1 X1
  go_upto_region 3 with fail
  obtain ⟨w3, hw3⟩ : ∃ w9, w2.alloc (.cells #[.int .i64 100, .int .i64 0, .slice none 0 0] 24) = w9 := ⟨_, rfl⟩
  rw [hw3] at X2 G1 B3 R3 Z3 F3 ⊢
  have G3 := Lib.hid G1
  clear hw3 hk2 G1 X2
  obtain ⟨A', c', e', l1, l2, hr3⟩ := R3.out.ex
  injection e' with e1 e2 e3
  subst e1 e3
  rw [HNL.out] at l1
  have HE := Lib.hid (rqwr_any _ tbH Af nl cf l Ab nb cb zs true w3 (HT.out.below B3.out) (tbH_val w3 w3.heap.size) tbH_wf hr3 HNL.out l1 l2 HLW.out HN8.out Z3.out)
  rw [HWR.out zs HZL.out] at HE
  dsimp only at HE
  have HF1 := Lib.hid (HWT.out zs HZL.out)
  clear HWR HWT l1 l2 hr3 e2
  obtain ⟨all, hall⟩ : ∃ x, reqT sec zs = x := ⟨_, rfl⟩
  have hAL := all_len (sec := sec) (body := zs) HSL.out HZL.out
  rw [hall] at HE HF1 hAL
  have HAL := Lib.hid hAL
  clear hAL hall
  obtain ⟨q0, q1, q2⟩ := bk3T G3.out
  obtain ⟨u0, u1⟩ := bk2F F3.out
  go_wp2_with fail
  refine (HE.out).mono ?_
  clear q0 q1 q2 u0 u1
  rintro e w4 ⟨b4, v4, d1, d2, rfl, hv4, hd1, hd2⟩
  obtain ⟨s4, rfl, hs4⟩ := hv4.ex
  obtain ⟨A4, c4, rfl, _, _, ru4⟩ := hs4.ex
  obtain ⟨Ad, cd, rfl, _, _, _, _⟩ := id hd1
  obtain ⟨Ae, ce, rfl, _, _, _, _⟩ := id hd2
  obtain ⟨ur, hur⟩ : ∃ x, U.room = x := ⟨_, rfl⟩
  obtain ⟨up, hup⟩ : ∃ x, U.put = x := ⟨_, rfl⟩
  obtain ⟨un, hun⟩ : ∃ x, U.rows.length = x := ⟨_, rfl⟩
  obtain ⟨tn, htn⟩ : ∃ x, tell.length = x := ⟨_, rfl⟩
  obtain ⟨an, han⟩ : ∃ x, all.length = x := ⟨_, rfl⟩
  rw [htn] at hd1 ⊢
  rw [han] at hd2 ⊢
  rw [hur, hup, hun] at hv4 ⊢
  have HUp := Lib.hid hup
  have X4 := (Below.refl w4.heap.size w4).alloc (Nat.le_refl _) (.cells #[.int .i64 ur, .int .i64 up, .slice A4 un c4] 24)
  have HH := heap_alloc_new w4 (.cells #[.int .i64 ur, .int .i64 up, .slice A4 un c4] 24)
  have bb := b4.trans (X4.mono b4.size)
  have F5 := Lib.hid ((bb.block _ (lt_of_block F3.out)).trans F3.out)
  have G5 := Lib.hid ((bb.block _ (lt_of_block G3.out)).trans G3.out)
  have B5 := Lib.hid (B3.out.trans (bb.mono B3.out.size))
  have R5 := Lib.hid (R3.out.on bb)
  have Z5 := Lib.hid (bsl_onF Z3.out bb)
  have V5 := Lib.hid (hv4.on X4)
  have S5 := Lib.hid (bsl_onF hd2 X4)
  obtain ⟨k4, hk4⟩ : ∃ k, w4.heap.size = k := ⟨_, rfl⟩
  rw [hk4] at HH
  have HAN := Lib.hid han
  clear b4 bb hv4 hs4 hd1 hd2 ru4 X4 hur hup hun htn han HE
  go_upto_region 4 with fail
  obtain ⟨w5, hw5⟩ : ∃ w9, w4.alloc (.cells #[.int .i64 ur, .int .i64 up, .slice A4 un c4] 24) = w9 := ⟨_, rfl⟩
  rw [hw5] at HH F5 G5 B5 R5 Z5 V5 S5 ⊢
  have H5 := Lib.hid HH
  clear hw5 hk4 HH F3 G3 B3 R3 Z3
  have HFD := Lib.hid (feed_any none none none Ae 0 0 0 0 0 0 an ce true rd0 all _ tbH w5 (bslN0 _ _) (fsl_nil _ _) (bslN0 _ _) S5.out (tbH_val _ _) tbH_wf (by decide))
  obtain ⟨q0, q1, q2⟩ := bk3T G5.out
  go_wp2_with fail
  refine (HFD.out).mono ?_
  clear q0 q1 q2
  rintro e w6 ⟨b6, v6, rfl, hr6⟩
  by_cases hlt : 0 < up
  · have e1 := HF1.out.1 (by rw [HUp.out]; exact hlt)
    rw [e1] at hr6 ⊢
    obtain ⟨Bh, dh, Bf, df, Bb, cz, rfl, h1, h2, h3⟩ := hr6.ex
    dsimp only [List.length_nil] at h1 h2 h3 ⊢
    rw [HAN.out] at h1 ⊢
    have X6 := (Below.refl w6.heap.size w6).alloc (Nat.le_refl _) (.cells #[.slice Bh an dh, .slice Bf 0 df, .bool false, .slice Bb 0 cz, .bool false] 40)
    have J6 := heap_alloc_new w6 (.cells #[.slice Bh an dh, .slice Bf 0 df, .bool false, .slice Bb 0 cz, .bool false] 40)
    have bb := b6.trans (X6.mono b6.size)
    have F7 := Lib.hid ((bb.block _ (lt_of_block F5.out)).trans F5.out)
    have H7 := Lib.hid ((bb.block _ (lt_of_block H5.out)).trans H5.out)
    have B7 := Lib.hid (B5.out.trans (bb.mono B5.out.size))
    have R7 := Lib.hid (R5.out.on bb)
    have Z7 := Lib.hid (bsl_onF Z5.out bb)
    have V7 := Lib.hid (V5.out.on bb)
    have M1 := Lib.hid (bsl_onF h1 X6)
    have M2 := Lib.hid (h2.on X6)
    have M3 := Lib.hid (bsl_onF h3 X6)
    obtain ⟨k6, hk6⟩ : ∃ k, w6.heap.size = k := ⟨_, rfl⟩
    rw [hk6] at J6
    have HK6 := Lib.hid (show W.heap.size ≤ k6 by have := B5.out.size; have := b6.size; omega)
    have HNE := Lib.hid (show k1 ≠ k6 by have := lt_of_block F5.out; have := b6.size; omega)
    clear b6 bb hr6 h1 h2 h3 X6 F5 G5 B5 R5 Z5 V5 S5 H5 HFD hlt e1
    go_upto_region 5 with fail
    obtain ⟨w7, hw7⟩ : ∃ w9, w6.alloc (.cells #[.slice Bh an dh, .slice Bf 0 df, .bool false, .slice Bb 0 cz, .bool false] 40) = w9 := ⟨_, rfl⟩
    rw [hw7] at J6 F7 H7 B7 R7 Z7 V7 M1 M2 M3 ⊢
    have J7 := Lib.hid J6
    clear hw7 hk6 J6
    have HFE := Lib.hid (feed_any Bh Bf Bb none an dh 0 df 0 cz 0 0 true ⟨all, [], false, [], false⟩ [] _ U w7 M1.out M2.out M3.out (bslN0 _ _) V7.out HUW.out (by decide))
    rw [HF1.out.2.2] at HFE
    clear M1 M2 M3 V7
    obtain ⟨x0, x1, x2, x3, x4⟩ := bk5T J7.out
    obtain ⟨q0, q1, q2⟩ := bk3T H7.out
    go_wp2_with fail
    refine (HFE.out).mono ?_
    clear x0 x1 x2 x3 x4 q0 q1 q2
    rintro e w8 ⟨b8, v8, rfl, hr8⟩
    obtain ⟨Ch, eh, Cf, ef, Cb, ez, rfl, _, h2, h3⟩ := hr8.ex
    dsimp only [List.length_nil] at h2 h3 ⊢
    rw [HNL.out] at h2 ⊢
    rw [HZB.out] at h3 ⊢
    have J8 := (b8.block _ (lt_of_block J7.out)).trans J7.out
    have F8 := (b8.block _ (lt_of_block F7.out)).trans F7.out
    have B8 := B7.out.trans (b8.mono B7.out.size)
    have R8 := R7.out.on b8
    have Z8 := bsl_onF Z7.out b8
    obtain ⟨x0, x1, x2, x3, x4⟩ := bk5T J8
    have xf := fun i => bk_frz J8 i
    go_upto_region 9 with fail
    obtain ⟨k9, g9⟩ := bk5_blk J8 (.slice Ch 0 eh) (.slice Cf nl ef) (.bool true) (.slice Cb nb ez) (.bool true)
    obtain ⟨w9, hw9⟩ : ∃ q, ((((w8.setCell ⟨k6, 0, none⟩ (.slice Ch 0 eh)).setCell ⟨k6, 1, none⟩ (.slice Cf nl ef)).setCell ⟨k6, 2, none⟩ (.bool true)).setCell ⟨k6, 3, none⟩ (.slice Cb nb ez)).setCell ⟨k6, 4, none⟩ (.bool true) = q := ⟨_, rfl⟩
    rw [hw9] at k9 g9 ⊢
    have GX := Lib.hid k9
    have FX := Lib.hid ((g9.block _ (lt_of_block F8) (fun e => HNE.out (by injection e))).trans F8)
    have BX := Lib.hid (gr_from B8 B8.size HK6.out g9)
    have fr := (R8.grX J8 plain5 g9).more g9.size
    have fl2 := (h2.grX J8 plain5 g9).more g9.size
    obtain ⟨_, _, er, _, _, rr⟩ := fr.ex
    obtain ⟨_, _, el, _, _, rl⟩ := fl2.ex
    injection er with er1 er2 er3
    injection el with el1 el2 el3
    subst er1 er3 el1 el3
    have RX := Lib.hid rr
    have LX := Lib.hid rl
    have SX := Lib.hid ((Z8.grX J8 plain5 g9).more g9.size)
    have ZX := Lib.hid ((h3.grX J8 plain5 g9).more g9.size)
    clear x0 x1 x2 x3 x4 xf k9 g9 hw9 b8 hr8 h2 h3 J8 F8 B8 R8 Z8 fr fl2 rr rl er2 el2 F7 H7 B7 R7 Z7 J7
    obtain ⟨x0, x1, x2, x3, x4⟩ := bk5T GX.out
    obtain ⟨u0, u1⟩ := bk2F FX.out
    go_wp2_with fail
    refine (HTL.out _).mono ?_
    clear x0 x1 x2 x3 x4 u0 u1
    rintro e v1 ⟨rfl, c1'⟩
    have F9 := Lib.hid ((c1'.block _ (lt_of_block FX.out)).trans FX.out)
    have G9 := Lib.hid ((c1'.block _ (lt_of_block GX.out)).trans GX.out)
    have B9 := Lib.hid (BX.out.trans (c1'.mono BX.out.size))
    have R9 := Lib.hid (RX.out.on c1')
    have L9 := Lib.hid (LX.out.on c1')
    have S9 := Lib.hid (bsl_onF SX.out c1')
    have Z9 := Lib.hid (bsl_onF ZX.out c1')
    clear c1' FX GX BX RX LX SX ZX
    obtain ⟨x0, x1, x2, x3, x4⟩ := bk5T G9.out
    obtain ⟨u0, u1⟩ := bk2F F9.out
    go_wp2_with fail
    refine (ksameFd_eq _ _ _ _ _ l v1 L9.out R9.out HNL.out HN8.out).mono ?_
    clear x0 x1 x2 x3 x4 u0 u1
    rintro e v2 ⟨rfl, c2'⟩
    have Fa := Lib.hid ((c2'.block _ (lt_of_block F9.out)).trans F9.out)
    have Ga := Lib.hid ((c2'.block _ (lt_of_block G9.out)).trans G9.out)
    have Ba := Lib.hid (B9.out.trans (c2'.mono B9.out.size))
    obtain ⟨_, _, ez, _, _, _, rz⟩ := (bsl_onF Z9.out c2').ex
    obtain ⟨_, _, es, _, _, _, rs'⟩ := (bsl_onF S9.out c2').ex
    injection ez with ez1 ez2 ez3
    injection es with es1 es2 es3
    subst ez1 ez3 es1 es3
    have hc1 := run_str (P := Tryd.prog) (w := v2) rz HZB.out 25 9 5 ez Tryd.underlying25 Tryd.underlying5 Tryd.underlying9
    have hc2 := run_str (P := Tryd.prog) (w := v2) rs' HZB.out 25 9 5 cb Tryd.underlying25 Tryd.underlying5 Tryd.underlying9
    obtain ⟨x0, x1, x2, x3, x4⟩ := bk5T Ga.out
    obtain ⟨u0, u1⟩ := bk2F Fa.out
    clear c2' rz rs' ez2 es2 F9 G9 B9 R9 L9 S9 Z9
    go_wp2_with fail
    go_ret
    exact ⟨by first | rfl | simp, Ba.out⟩
  · have e1 := HF1.out.2.1 (by rw [HUp.out]; exact Int.not_lt.1 hlt)
    rw [e1] at hr6 ⊢
    obtain ⟨Ch, eh, Cf, ef, Cb, ez, rfl, _, h2, h3⟩ := hr6.ex
    dsimp only [List.length_nil] at h2 h3 ⊢
    rw [HNL.out] at h2 ⊢
    rw [HZB.out] at h3 ⊢
    have X6 := (Below.refl w6.heap.size w6).alloc (Nat.le_refl _) (.cells #[.slice Ch 0 eh, .slice Cf nl ef, .bool true, .slice Cb nb ez, .bool true] 40)
    have J6 := heap_alloc_new w6 (.cells #[.slice Ch 0 eh, .slice Cf nl ef, .bool true, .slice Cb nb ez, .bool true] 40)
    have bb := b6.trans (X6.mono b6.size)
    have FX := Lib.hid ((bb.block _ (lt_of_block F5.out)).trans F5.out)
    have HX := Lib.hid ((bb.block _ (lt_of_block H5.out)).trans H5.out)
    have TX := Lib.hid ((bb.block _ (lt_of_block G5.out)).trans G5.out)
    have BX := Lib.hid (B5.out.trans (bb.mono B5.out.size))
    have fr := R5.out.on bb
    have fl2 := h2.on X6
    have SX := Lib.hid (bsl_onF Z5.out bb)
    have ZX := Lib.hid (bsl_onF h3 X6)
    obtain ⟨_, _, er, _, _, rr⟩ := fr.ex
    obtain ⟨_, _, el, _, _, rl⟩ := fl2.ex
    injection er with er1 er2 er3
    injection el with el1 el2 el3
    subst er1 er3 el1 el3
    have RX := Lib.hid rr
    have LX := Lib.hid rl
    obtain ⟨k6, hk6⟩ : ∃ k, w6.heap.size = k := ⟨_, rfl⟩
    rw [hk6] at J6
    have e2 : decide (0 < up) = false := by simp; omega
    clear b6 bb hr6 h2 h3 X6 F5 G5 B5 R5 Z5 V5 S5 H5 HFD e1 fr fl2 rr rl er2 el2
    go_upto_region 5 with fail
    obtain ⟨w7, hw7⟩ : ∃ w9, w6.alloc (.cells #[.slice Ch 0 eh, .slice Cf nl ef, .bool true, .slice Cb nb ez, .bool true] 40) = w9 := ⟨_, rfl⟩
    rw [hw7] at J6 FX HX TX BX RX LX SX ZX ⊢
    have GX := Lib.hid J6
    clear hw7 hk6 J6
    obtain ⟨x0, x1, x2, x3, x4⟩ := bk5T GX.out
    obtain ⟨u0, u1⟩ := bk2F FX.out
    obtain ⟨q0, q1, q2⟩ := bk3T HX.out
    obtain ⟨p0, p1, p2⟩ := bk3T TX.out
    go_upto_region 9 with fail
    clear q0 q1 q2 p0 p1 p2 HX TX
    go_wp2_with fail
    refine (HTL.out _).mono ?_
    clear x0 x1 x2 x3 x4 u0 u1
    rintro e v1 ⟨rfl, c1'⟩
    have F9 := Lib.hid ((c1'.block _ (lt_of_block FX.out)).trans FX.out)
    have G9 := Lib.hid ((c1'.block _ (lt_of_block GX.out)).trans GX.out)
    have B9 := Lib.hid (BX.out.trans (c1'.mono BX.out.size))
    have R9 := Lib.hid (RX.out.on c1')
    have L9 := Lib.hid (LX.out.on c1')
    have S9 := Lib.hid (bsl_onF SX.out c1')
    have Z9 := Lib.hid (bsl_onF ZX.out c1')
    clear c1' FX GX BX RX LX SX ZX
    obtain ⟨x0, x1, x2, x3, x4⟩ := bk5T G9.out
    obtain ⟨u0, u1⟩ := bk2F F9.out
    go_wp2_with fail
    refine (ksameFd_eq _ _ _ _ _ l v1 L9.out R9.out HNL.out HN8.out).mono ?_
    clear x0 x1 x2 x3 x4 u0 u1
    rintro e v2 ⟨rfl, c2'⟩
    have Fa := Lib.hid ((c2'.block _ (lt_of_block F9.out)).trans F9.out)
    have Ga := Lib.hid ((c2'.block _ (lt_of_block G9.out)).trans G9.out)
    have Ba := Lib.hid (B9.out.trans (c2'.mono B9.out.size))
    obtain ⟨_, _, ez, _, _, _, rz⟩ := (bsl_onF Z9.out c2').ex
    obtain ⟨_, _, es, _, _, _, rs'⟩ := (bsl_onF S9.out c2').ex
    injection ez with ez1 ez2 ez3
    injection es with es1 es2 es3
    subst ez1 ez3 es1 es3
    have hc1 := run_str (P := Tryd.prog) (w := v2) rz HZB.out 25 9 5 ez Tryd.underlying25 Tryd.underlying5 Tryd.underlying9
    have hc2 := run_str (P := Tryd.prog) (w := v2) rs' HZB.out 25 9 5 cb Tryd.underlying25 Tryd.underlying5 Tryd.underlying9
    obtain ⟨x0, x1, x2, x3, x4⟩ := bk5T Ga.out
    obtain ⟨u0, u1⟩ := bk2F Fa.out
    clear c2' rz rs' ez2 es2 F9 G9 B9 R9 L9 S9 Z9
    go_wp2_with fail
    go_ret
    exact ⟨by first | rfl | simp, Ba.out⟩
end Go.Proofs.YtpfahdogedchpaaDoor
