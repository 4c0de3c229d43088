/- The walk of RequestForm. -/
import Derived.Test.YtpfahdogedchpaaDoorGrpZe
import Derived.Test.YtpfahdogedchpaaDoorGrpZh
import Derived.Test.YtpfahdogedchpaaDoorRqF7
import Derived.Test.YtpfahdogedchpaaDoorGrpZf
import Derived.Test.YtpfahdogedchpaaDoorGrpA
import Derived.Test.YtpfahdogedchpaaDoorGrpD
import Derived.Test.YtpfahdogedchpaaDoorRdOn
import Derived.Test.YtpfahdogedchpaaDoorAppNew
namespace Go.Proofs.YtpfahdogedchpaaDoor
set_option linter.unusedVariables false
open Go.RowKit P
theorem tb0_ok : faultTb tb0 = 0 := by decide
theorem tb0_wf : TbWf tb0 := ⟨by decide, by decide, by decide, fun x hx => by cases hx⟩
theorem tb0_val (w : World) (B : Nat) : TbVal w B (.agg #[.int .i64 0, .int .i64 0, .slice none 0 0]) tb0 := ⟨_, rfl, none, 0, rfl, Nat.le_refl _, by unfold maxLen; omega, RowE.nil _ _ _⟩
theorem fsl_nil (w : World) (B : Nat) : FSl w B (.slice none 0 0) [] := ⟨none, 0, rfl, Nat.le_refl _, by unfold maxLen; omega, RowE.nil _ _ _⟩
theorem encAll_false (t : Tb) (l : List Fld) : (encAll false t l).t = t := by
  have key : ∀ (l : List Fld) (s : EncS), (l.foldl (encStep false) s).t = s.t := by
    intro l
    induction l with
    | nil => intro s; rfl
    | cons x l ih =>
      intro s
      rw [List.foldl_cons, ih]
      unfold encStep
      split
      · rfl
      · split
        · rfl
        · split
          · rename_i h
            simp [mayT] at h
          · rfl
  exact key l _
theorem rqFs_drop (s : ByteArray) (rs : List RawT) : faultRq ((rqFs s rs).drop 1) = 3 := by
  have e : (rqFs s rs).drop 1 = ⟨nmP, 47 :: (numsOf s).take 9⟩ :: (rs.take 5).map fldOf := rfl
  have hin : ∀ f ∈ (rqFs s rs).drop 1, f ∈ rqFs s rs := fun f hf => List.mem_of_mem_drop hf
  have hf : faultFl ((rqFs s rs).drop 1) = 0 := by
    unfold faultFl
    rw [if_neg (by rw [List.length_drop, rqFs_len]; omega), if_pos (fun f hf => (rqFs_ok (hin f hf)).1)]
  rw [faultRq_good hf, if_neg]
  rintro ⟨_, _, h, _⟩
  have o2 : isOwnF ⟨nmP, 47 :: (numsOf s).take 9⟩ = true := by show decide (nmP.getD 0 0 = 58) = true; decide
  rw [e, List.takeWhile_cons, if_pos o2, (others_drop _).2] at h
  have e1 : decide (nmP = nmM) = false := by decide
  unfold cntN at h
  simp [e1] at h
/-- the four rows of bytes that are fed -/
def rfRow (all : List Int) (am kk : Nat) : List Int := ([([0, 1, 65] : List Int) ++ all, all ++ all, all.take am, []] : List (List Int)).getD kk []
def rfErr (kk : Nat) : Int := ([3, 3, 4, 4] : List Int).getD kk 0
/-- a row of the four -/
structure Rf4 (w : World) (q : Nat) (V2 V7 V13 : Value) (all : List Int) : Prop where
  c : ∃ T, w.heap[q]? = some (.cells #[V2, V7, V13, .slice none 0 0] T (0, 0))
  a : BSl w w.heap.size V2 (([0, 1, 65] : List Int) ++ all)
  b : BSl w w.heap.size V7 (all ++ all)
theorem Rf4.on {w w' : World} {q : Nat} {V2 V7 V13 : Value} {all : List Int} (h : Rf4 w q V2 V7 V13 all) (b : Below w.heap.size w w') : Rf4 w' q V2 V7 V13 all := by
  obtain ⟨T, hc⟩ := h.c
  exact ⟨⟨T, (b.block _ (lt_of_block hc)).trans hc⟩, bsl_onF h.a b, bsl_onF h.b b⟩
theorem Rf4.get {w : World} {q : Nat} {V2 V7 V13 : Value} {all : List Int} {am kk : Nat} (h : Rf4 w q V2 V7 V13 all) (hk : kk < 4) (ht : BSl w w.heap.size V13 (all.take am)) : ∃ v, w.cell? ⟨q, kk, none⟩ = some v ∧ BSl w w.heap.size v (rfRow all am kk) := by
  obtain ⟨T, hc⟩ := h.c
  rw [bk_cell hc]
  rcases kk with _ | _ | _ | _ | kk
  · exact ⟨_, rfl, h.a⟩
  · exact ⟨_, rfl, h.b⟩
  · exact ⟨_, rfl, ht⟩
  · exact ⟨_, rfl, bslN0 _ _⟩
  · omega
theorem bsl_at {w w' : World} {B : Nat} {v : Value} {zs : List Int} {r : Option Nat} (h : BSl w B v zs) (g : w.grownBy w' r) (hr : ∀ k, r = some k → B ≤ k) (hB : B ≤ w.heap.size) : BSl w' B v zs := by
  obtain ⟨A, c, rfl, h1, h2, h3, h4⟩ := h.ex
  refine ⟨A, c, rfl, h1, h2, h3, h4.1, fun hz => ?_⟩
  obtain ⟨b, off, e, hb, hc⟩ := h4.2 hz
  subst e
  have k := g.block b (by omega) (fun e => by have := hr _ e.symm; omega)
  exact ⟨b, off, rfl, hb, fun j hj => (by simp only [World.cell?, k]; exact hc j hj)⟩
structure RfA (w0 : World) (Ae : Option Addr) (an am ce kk : Nat) (all : List Int) (V1 V4 V6 V8 V9 V10 V11 V12 V13 V15 : Value) (sb0 sb1 sb2 sb3 sb4 sb5 sb6 sb7 sb8 sb9 sb10 sb11 sb12 sb13 sb14 sb15 sb16 sb17 sb18 : Bool) (sx0 sx1 sx2 sx3 sx4 sx5 sx6 sx7 sx8 sx9 sx10 sx11 sx12 sx13 sx14 sx15 sx16 sx17 sx18 : Value) (w : World) : Prop where
  be : Below w0.heap.size w0 w
  d2 : sb2 = true → sb0 = true ∧ sb1 = true
  d5 : sb5 = true → sb2 = true ∧ sb3 = true ∧ sb4 = true
  d7 : sb7 = true → sb5 = true ∧ sb6 = true
  d10 : sb10 = true → sb9 = true
  d11 : sb11 = true → sb10 = true
  d12 : sb12 = true → sb11 = true
  d13 : sb13 = true → sb8 = true ∧ sb12 = true
  d14 : sb14 = true → sb2 = true ∧ sb7 = true ∧ sb13 = true
  d16 : sb16 = true → sb14 = true ∧ sb15 = true
  d17 : sb17 = true → sb16 = true
  d18 : sb18 = true → sb0 = true ∧ sb1 = true ∧ sb2 = true ∧ sb3 = true ∧ sb4 = true ∧ sb5 = true ∧ sb6 = true ∧ sb7 = true ∧ sb8 = true ∧ sb9 = true ∧ sb10 = true ∧ sb11 = true ∧ sb12 = true ∧ sb13 = true ∧ sb14 = true ∧ sb15 = true ∧ sb16 = true ∧ sb17 = true
  h0 : sb0 = true → sb7 = false → ∃ q, sx0 = .slice (some ⟨q, 0, none⟩) 3 3 ∧ WRow w w0.heap.size 5 sx0 [0, 1, 65]
  h1 : sb1 = true → sx1 = V1
  h2 : sb2 = true → sb7 = false → BSl w w.heap.size sx2 (([0, 1, 65] : List Int) ++ all)
  h3 : sb3 = true → sb7 = false → ∃ q, sx3 = .slice (some ⟨q, 0, none⟩) 0 0 ∧ WRow w w0.heap.size 5 sx3 []
  h4 : sb4 = true → sx4 = V4
  h5 : sb5 = true → sb7 = false → ∃ g, sx5.ownBlock = some g ∧ w0.heap.size ≤ g ∧ g < w.heap.size ∧ WRow w w0.heap.size 5 sx5 all ∧ BSl w g sx2 (([0, 1, 65] : List Int) ++ all)
  h6 : sb6 = true → sx6 = V6
  h7 : sb7 = true → BSl w w.heap.size sx2 (([0, 1, 65] : List Int) ++ all) ∧ BSl w w.heap.size sx7 (all ++ all)
  h8 : sb8 = true → sx8 = V8
  h9 : sb9 = true → sx9 = V9
  h10 : sb10 = true → sx10 = V10
  h11 : sb11 = true → sx11 = V11
  h12 : sb12 = true → sx12 = V12
  h13 : sb13 = true → sx13 = V13
  h14 : sb14 = true → ∃ q, sx14 = .slice (some ⟨q, 0, none⟩) 4 4 ∧ Rf4 w q sx2 sx7 (.slice Ae am ce) all
  h15 : sb15 = true → sx15 = V15
  h16 : sb16 = true → ∃ q, sx16 = .pointer (some ⟨q, kk, none⟩) ∧ Rf4 w q sx2 sx7 (.slice Ae am ce) all
  h17 : sb17 = true → BSl w w.heap.size sx17 (rfRow all am kk)
  h18 : sb18 = true → BSl w w.heap.size sx18 (rfRow all am kk)
set_option maxRecDepth 100000 in
set_option maxHeartbeats 8000000 in
theorem requestForm_walk (A : Option Addr) (n c : Nat) (rs : List RawT) (s : ByteArray) (k a4 : Int) (W : World) (T : Tab W) (hrow : RawRow W W.heap.size A rs) (hn : rs.length = n) (hnc : n ≤ c) (hc : c ≤ maxLen) (hbt : ∀ i, i < n → (rs.getD i raw0).text.size ≤ maxLen) (hs : s.size ≤ maxLen) :
    Calls Tryd.prog 6 #[.slice A n c, .string s, .int .i64 k, .int .i64 a4] W fun e w' => e = .returned (.bool true) ∧ Below W.heap.size W w' := by
  have HRO := Lib.hid (requestOf_any A n c rs s k W hrow hn hnc hc hbt hs)
  have HTL := Lib.hid (fun w => requestTells_any w)
  have HT := Lib.hid T
  have hlw : ∀ f ∈ rqFs s rs, FdWf f := fun f hf => (rqFs_ok hf).2.1
  have hl0 := rqFs_faultFl s rs
  have hl7 : (rqFs s rs).length ≤ 7 := by rw [rqFs_len]; omega
  have hl2 : 2 ≤ (rqFs s rs).length := by rw [rqFs_len]; omega
  have hWR := fun (body : List Int) (hb : body.length ≤ 200) => rqOf_wr (t := tb0) (s := s) (rs := rs) (body := body) (ahead := false) tb0_ok hb
  have hWT := (secR_of (t := tb0) (s := s) (rs := rs) (ahead := false) tb0_ok).2
  rw [encAll_false] at hWT
  have hRF := rqFs_fault s rs
  have hRD := rqFs_drop s rs
  have hHE := encFl_heard (ahead := false) tb0_ok hl0
  have hTB := tell_byt (ahead := false) (t := tb0) (rqFs s rs) hlw ((faultFl_iff _).1 hl0).2
  have hTLn := rq_tell_len (ahead := false) (t := tb0) hl0 hlw
  have hUW : TbWf (encAll false tb0 (rqFs s rs)).t := by have := appAll_wf tb0_wf hTB (by omega); rwa [hHE] at this
  have hSL := (secR_of (t := tb0) (s := s) (rs := rs) (ahead := false) tb0_ok).1
  change ∀ (body : List Int), body.length ≤ 200 → wrRq tb0 (rqFs s rs) body false = ((encAll false tb0 (rqFs s rs)).t, (encAll false tb0 (rqFs s rs)).tell, reqT (secR false tb0 (rqFs s rs)) body, 0) at hWR
  obtain ⟨sec, hsec⟩ : ∃ x, secR false tb0 (rqFs s rs) = x := ⟨_, rfl⟩
  obtain ⟨U, hU⟩ : ∃ x, (encAll false tb0 (rqFs s rs)).t = x := ⟨_, rfl⟩
  obtain ⟨tell, htell⟩ : ∃ x, (encAll false tb0 (rqFs s rs)).tell = x := ⟨_, rfl⟩
  rw [hsec] at hWT
  rw [hsec, hU, htell] at hWR
  rw [hsec] at hSL
  rw [hU] at hUW
  obtain ⟨l, hl⟩ : ∃ l, rqFs s rs = l := ⟨_, rfl⟩
  rw [hl] at HRO hlw hWR hWT hl7 hl2 hRF hRD
  obtain ⟨nl, hnl⟩ : ∃ x, l.length = x := ⟨_, rfl⟩
  rw [hnl] at HRO hl7 hl2
  have HN2 := Lib.hid hl2
  have HNL := Lib.hid hnl
  have HN8 := Lib.hid (show nl ≤ 8796093022208 by omega)
  have HLW := Lib.hid hlw
  have HUW := Lib.hid hUW
  have HWR := Lib.hid hWR
  have HWT := Lib.hid hWT
  have HRF := Lib.hid hRF
  have HRD := Lib.hid hRD
  have HSL := Lib.hid hSL
  have HN7 := Lib.hid hl7
  clear hl2 hlw hl0 hl7 hWR hWT hHE hTB hTLn hUW hSL hsec hU htell hl hnl hrow hn hnc hc hbt hs T
  go_enter Tryd.func6, Tryd.ntmps6
  go_wp2_with fail
  refine (HRO.out).mono ?_
  rintro e w1 ⟨b1, Af, cf, zs, Ab, cb, rfl, hF, hzl, hZ⟩
  have HZL := Lib.hid (show zs.length ≤ 200 by omega)
  obtain ⟨nb, hnb⟩ : ∃ x, zs.length = x := ⟨_, rfl⟩
  rw [hnb] at hZ ⊢
  have HZB := Lib.hid hnb
  have X1 := (Below.refl w1.heap.size w1).alloc (Nat.le_refl _) (.cells #[.slice Af nl cf, .slice Ab nb cb] 27)
  have F1 := heap_alloc_new w1 (.cells #[.slice Af nl cf, .slice Ab nb cb] 27)
  have BB := b1.trans (X1.mono b1.size)
  have FF := hF.on X1
  have ZZ := bsl_onF hZ X1
  obtain ⟨k1, hk1⟩ : ∃ k, w1.heap.size = k := ⟨_, rfl⟩
  rw [hk1] at F1
  clear b1 hF hZ hzl hnb
  go_upto_region 2 with fail
  obtain ⟨w2, hw2⟩ : ∃ w9, w1.alloc (.cells #[.slice Af nl cf, .slice Ab nb cb] 27) = w9 := ⟨_, rfl⟩
  rw [hw2] at X1 F1 BB FF ZZ ⊢
  have B3 := Lib.hid BB
  have R3 := Lib.hid FF
  have Z3 := Lib.hid ZZ
  have F3 := Lib.hid F1
  clear hw2 hk1 BB FF ZZ F1 X1
  obtain ⟨A', c', e', l1, l2, hr3⟩ := R3.out.ex
  injection e' with e1 e2 e3
  subst e1 e3
  rw [HNL.out] at l1
  have HE := Lib.hid (rqwr_any _ tb0 Af nl cf l Ab nb cb zs false w2 (HT.out.below B3.out) (tb0_val w2 w2.heap.size) tb0_wf hr3 HNL.out l1 l2 HLW.out HN8.out Z3.out)
  rw [HWR.out zs HZL.out] at HE
  dsimp only at HE
  have hF0 := rqForm_0 (t := tb0) (all := reqT sec zs) (all_len (sec := sec) (body := zs) HSL.out HZL.out)
  have hF1 := rqForm_1 (t := tb0) (sec := sec) (body := zs) (l := l) HWT.out.2 HRF.out HSL.out HZL.out
  have hF2 := rqForm_2 (t := tb0) (sec := sec) (body := zs) (l := l) HWT.out.2 HRF.out HSL.out HWT.out.1 HZL.out
  have hF3 := rqForm_3 tb0
  have hne := reqT_ne sec zs
  clear HWR l1 l2 hr3 e2
  obtain ⟨all, hall⟩ : ∃ x, reqT sec zs = x := ⟨_, rfl⟩
  have hAL := all_len (sec := sec) (body := zs) HSL.out HZL.out
  rw [hall] at HE hF0 hF1 hF2 hAL hne
  have HF0 := Lib.hid hF0
  have HF1 := Lib.hid hF1
  have HF2 := Lib.hid hF2
  have HF3 := Lib.hid hF3
  have HAL := Lib.hid hAL
  have HNE := Lib.hid (len_pos hne)
  clear hAL hall hF0 hF1 hF2 hF3 hne
  obtain ⟨u0, u1⟩ := bk2F F3.out
  go_wp2_with fail
  refine (HE.out).mono ?_
  clear u0 u1
  rintro e w4 ⟨b4, v4, d1, d2, rfl, hv4, hd1, hd2⟩
  obtain ⟨s4, rfl, hs4⟩ := hv4.ex
  obtain ⟨A4, c4, rfl, _, _, ru4⟩ := hs4.ex
  obtain ⟨Ad, cd, rfl, _, _, _, _⟩ := id hd1
  obtain ⟨Ae, ce, rfl, _, _, _, _⟩ := id hd2
  obtain ⟨ur, hur⟩ : ∃ x, U.room = x := ⟨_, rfl⟩
  obtain ⟨up, hup⟩ : ∃ x, U.put = x := ⟨_, rfl⟩
  obtain ⟨un, hun⟩ : ∃ x, U.rows.length = x := ⟨_, rfl⟩
  obtain ⟨tn, htn⟩ : ∃ x, tell.length = x := ⟨_, rfl⟩
  obtain ⟨an, han⟩ : ∃ x, all.length = x := ⟨_, rfl⟩
  rw [htn] at hd1 ⊢
  rw [han] at hd2 ⊢
  rw [hur, hup, hun] at hv4 ⊢
  have X4 := (Below.refl w4.heap.size w4).alloc (Nat.le_refl _) (.cells #[.int .i64 ur, .int .i64 up, .slice A4 un c4] 24)
  have bb := b4.trans (X4.mono b4.size)
  have F5 := Lib.hid ((bb.block _ (lt_of_block F3.out)).trans F3.out)
  have B5 := Lib.hid (B3.out.trans (bb.mono B3.out.size))
  have R5 := Lib.hid (R3.out.on bb)
  have S5 := Lib.hid (bsl_onF hd2 X4)
  have HAN := Lib.hid han
  have HAL2 := Lib.hid (show an ≤ 367 by have := HAL.out; omega)
  have HN1 := Lib.hid (show 0 < an by have := HNE.out; omega)
  clear b4 bb hv4 hs4 hd1 hd2 ru4 X4 hur hup hun htn han HE F3 B3 R3 Z3
  go_upto_region 3 with fail
  obtain ⟨w5, hw5⟩ : ∃ w9, w4.alloc (.cells #[.int .i64 ur, .int .i64 up, .slice A4 un c4] 24) = w9 := ⟨_, rfl⟩
  rw [hw5] at F5 B5 R5 S5 ⊢
  clear hw5
  obtain ⟨kk, hkk⟩ : ∃ q : Nat, a4 % 4 = q := ⟨(a4 % 4).toNat, by omega⟩
  have hk4 : kk < 4 := by omega
  have HP := Lib.hid (fun w => hkk ▸ picked_any a4 4 (by omega) (by omega) w)
  clear hkk
  have HK4 := Lib.hid hk4
  obtain ⟨am, ham⟩ : ∃ m, an - 1 = m := ⟨_, rfl⟩
  have hce : an ≤ ce := by
    obtain ⟨_, _, e0, hcd0, _, _, _⟩ := S5.out.ex
    injection e0 with e1 e2 e3
    rw [HAN.out] at hcd0
    omega
  have HTK := Lib.hid (bsl_takeR S5.out am (by rw [HAN.out]; omega))
  have HWM := Lib.hid (show IntKind.i64.wrap ((an : Int) - 1) = (am : Int) by rw [IntKind.wrap_i64]; have := HAL2.out; have := HN1.out; omega)
  have HMX := Lib.hid (show ¬ ((am : Int) < 0) by omega)
  have HAM := Lib.hid (show (0 : Int) ≤ (am : Int) ∧ (am : Int) ≤ (ce : Int) ∧ (am : Int) ≤ (an : Int) by omega)
  have HKK := Lib.hid (show (0 : Int) ≤ (kk : Int) ∧ (kk : Int) < 4 by omega)
  have hby : Byt all := by obtain ⟨_, _, _, _, _, _, h⟩ := S5.out.ex; exact h.1
  have HB365 := Lib.hid (Byt.append (xs := [0, 1, 65]) (byt_all (by decide)) hby)
  have HB2 := Lib.hid (Byt.append hby hby)
  have HFK : feedR rd0 tb0 (rfRow all am kk) true = (rd0, rfErr kk) := by
    rw [← ham, ← HAN.out]
    have := HK4.out
    rcases kk with _ | _ | _ | _ | kk
    · exact HF0.out
    · exact HF1.out
    · exact HF2.out
    · exact HF3.out
    · omega
  have HFQ := Lib.hid HFK
  clear hk4 ham hce hby HFK HF0 HF1 HF2 HF3
  go_upto_region 4 with (go_at_call 13; refine (HP.out _).mono ?_; rintro e w' ⟨rfl, rfl⟩)
  refine wp_region_inv (fun lis_ act_ wld_ => ∃ (sb0 sb1 sb2 sb3 sb4 sb5 sb6 sb7 sb8 sb9 sb10 sb11 sb12 sb13 sb14 sb15 sb16 sb17 sb18 : Bool) (sx0 sx1 sx2 sx3 sx4 sx5 sx6 sx7 sx8 sx9 sx10 sx11 sx12 sx13 sx14 sx15 sx16 sx17 sx18 : Value), lis_ = #[sb0, sb1, sb2, sb3, sb4, sb5, sb6, sb7, sb8, sb9, sb10, sb11, sb12, sb13, sb14, sb15, sb16, sb17, sb18] ∧ act_ = { tmps := #[Value.slice A n c, Value.string s, Value.int IntKind.i64 k, Value.int IntKind.i64 a4, undef, undef, undef, undef, Value.bool false, Value.pointer (some { block := k1, off := 0 }), Value.pointer (some { block := w4.heap.size, off := 0 }), Value.slice Ad tn cd, Value.slice Ae an ce, Value.int IntKind.i64 0, Value.int IntKind.i64 ↑kk, sx18, undef, undef, undef, Value.slice A n c, Value.string s, Value.int IntKind.i64 k, Value.agg #[Value.slice Af nl cf, Value.slice Ab nb cb], Value.tuple #[Value.agg #[Value.int IntKind.i64 ur, Value.int IntKind.i64 up, Value.slice A4 un c4], Value.slice Ad tn cd, Value.slice Ae an ce, Value.int IntKind.i64 0], Value.agg #[Value.int IntKind.i64 0, Value.int IntKind.i64 0, Value.slice none 0 0], Value.agg #[Value.slice Af nl cf, Value.slice Ab nb cb], Value.tuple #[Value.agg #[Value.int IntKind.i64 ur, Value.int IntKind.i64 up, Value.slice A4 un c4], Value.slice Ad tn cd, Value.slice Ae an ce, Value.int IntKind.i64 0], Value.agg #[Value.int IntKind.i64 ur, Value.int IntKind.i64 up, Value.slice A4 un c4], Value.slice Ad tn cd, Value.slice Ae an ce, Value.int IntKind.i64 0, Value.int IntKind.i64 a4, Value.int IntKind.i64 ↑kk, sx0, sx1, sx2, sx3, sx4, sx5, sx6, sx7, sx8, sx9, sx10, sx11, sx12, sx13, sx14, sx15, sx16, sx17, undef, undef, undef, undef, undef, undef, undef, undef, undef, undef, undef, undef, undef, undef, undef, undef, undef, undef, undef, undef, undef, undef, undef, undef, undef, undef, undef, undef, undef, undef, undef, undef, undef, undef], defers := [] } ∧ RfA w5 Ae an am ce kk all (.slice Ae an ce) (.slice Ae an ce) (.slice Ae an ce) (.slice Ae an ce) (.slice Ae an ce) (.int .i64 (an : Int)) (.int .i64 (am : Int)) (.int .i64 (am : Int)) (.slice Ae am ce) (.int .i64 (kk : Int)) sb0 sb1 sb2 sb3 sb4 sb5 sb6 sb7 sb8 sb9 sb10 sb11 sb12 sb13 sb14 sb15 sb16 sb17 sb18 sx0 sx1 sx2 sx3 sx4 sx5 sx6 sx7 sx8 sx9 sx10 sx11 sx12 sx13 sx14 sx15 sx16 sx17 sx18 wld_) (by kernel_rfl) ?h0 ?hfin ?hI
  case h0 => exact ⟨_, _, _, _, _, _, _, _, _, _, _, _, _, _, _, _, _, _, _, _, _, _, _, _, _, _, _, _, _, _, _, _, _, _, _, _, _, _, rfl, rfl, ⟨(Below.refl _ _).drew, (fun h => by cases h), (fun h => by cases h), (fun h => by cases h), (fun h => by cases h), (fun h => by cases h), (fun h => by cases h), (fun h => by cases h), (fun h => by cases h), (fun h => by cases h), (fun h => by cases h), (fun h => by cases h), (fun h => by cases h), (fun h => by cases h), (fun h => by cases h), (fun h => by cases h), (fun h => by cases h), (fun h => by cases h), (fun h => by cases h), (fun h => by cases h), (fun h => by cases h), (fun h => by cases h), (fun h => by cases h), (fun h => by cases h), (fun h => by cases h), (fun h => by cases h), (fun h => by cases h), (fun h => by cases h), (fun h => by cases h), (fun h => by cases h), (fun h => by cases h)⟩⟩
  case hI =>
    rintro listed a w ⟨sb0, sb1, sb2, sb3, sb4, sb5, sb6, sb7, sb8, sb9, sb10, sb11, sb12, sb13, sb14, sb15, sb16, sb17, sb18, sx0, sx1, sx2, sx3, sx4, sx5, sx6, sx7, sx8, sx9, sx10, sx11, sx12, sx13, sx14, sx15, sx16, sx17, sx18, rfl, rfl, H⟩ i hi
    obtain ⟨hun, oj, hoj, hall⟩ := mem_ready.1 hi
    clear hi
    rcases i with _ | _ | _ | _ | _ | _ | _ | _ | _ | _ | _ | _ | _ | _ | _ | _ | _ | _ | _ | i
    · have ho := hoj
      simp only [List.getElem?_toArray, List.getElem?_cons_zero, Option.some.injEq] at hoj
      subst hoj
      obtain rfl : sb0 = false := hun
      clear hall
      obtain rfl : sb2 = false := Bool.eq_false_iff.2 fun h => Bool.false_ne_true (H.d2 h).1
      obtain rfl : sb5 = false := Bool.eq_false_iff.2 fun h => Bool.false_ne_true (H.d5 h).1
      obtain rfl : sb7 = false := Bool.eq_false_iff.2 fun h => Bool.false_ne_true (H.d7 h).1
      obtain rfl : sb14 = false := Bool.eq_false_iff.2 fun h => Bool.false_ne_true (H.d14 h).1
      obtain rfl : sb16 = false := Bool.eq_false_iff.2 fun h => Bool.false_ne_true (H.d16 h).1
      obtain rfl : sb17 = false := Bool.eq_false_iff.2 fun h => Bool.false_ne_true (H.d17 h)
      obtain rfl : sb18 = false := Bool.eq_false_iff.2 fun h => Bool.false_ne_true (H.d18 h).1
      have hbe := H.be
      have BA := Lib.hid ((Below.refl w.heap.size w).alloc (Nat.le_refl _) (.cells #[.int .u8 0, .int .u8 1, .int .u8 65] 5))
      have NA := Lib.hid (wrow_base (wrow_three w 0 1 65) hbe.size)
      refine wpOp_step ho (fun K' hK => ?_)
      have HK := Lib.hid hK
      clear hK ho
      go_simp
      exact HK.out _ _ ⟨_, _, _, _, _, _, _, _, _, _, _, _, _, _, _, _, _, _, _, _, _, _, _, _, _, _, _, _, _, _, _, _, _, _, _, _, _, _, rfl, rfl, ⟨hbe.trans (BA.out.mono hbe.size), (fun h => by cases h), H.d5, H.d7, H.d10, H.d11, H.d12, H.d13, H.d14, H.d16, H.d17, (fun h => by cases h), (fun _ _ => ⟨_, rfl, NA.out⟩), H.h1, (fun h => by cases h), (fun e f => let ⟨q, e1, e2⟩ := (H.h3 e f); ⟨q, e1, wrow_below e2 BA.out⟩), H.h4, (fun h => by cases h), H.h6, (fun h => by cases h), H.h8, H.h9, H.h10, H.h11, H.h12, H.h13, (fun h => by cases h), H.h15, (fun h => by cases h), (fun h => by cases h), (fun h => by cases h)⟩⟩
    · have ho := hoj
      simp only [List.getElem?_toArray, List.getElem?_cons_succ, List.getElem?_cons_zero, Option.some.injEq] at hoj
      subst hoj
      obtain rfl : sb1 = false := hun
      clear hall
      obtain rfl : sb2 = false := Bool.eq_false_iff.2 fun h => Bool.false_ne_true (H.d2 h).2
      obtain rfl : sb5 = false := Bool.eq_false_iff.2 fun h => Bool.false_ne_true (H.d5 h).1
      obtain rfl : sb7 = false := Bool.eq_false_iff.2 fun h => Bool.false_ne_true (H.d7 h).1
      obtain rfl : sb14 = false := Bool.eq_false_iff.2 fun h => Bool.false_ne_true (H.d14 h).1
      obtain rfl : sb16 = false := Bool.eq_false_iff.2 fun h => Bool.false_ne_true (H.d16 h).1
      obtain rfl : sb17 = false := Bool.eq_false_iff.2 fun h => Bool.false_ne_true (H.d17 h)
      obtain rfl : sb18 = false := Bool.eq_false_iff.2 fun h => Bool.false_ne_true (H.d18 h).2.1
      have hbe := H.be
      refine wpOp_step ho (fun K' hK => ?_)
      have HK := Lib.hid hK
      clear hK ho
      go_simp
      exact HK.out _ _ ⟨_, _, _, _, _, _, _, _, _, _, _, _, _, _, _, _, _, _, _, _, _, _, _, _, _, _, _, _, _, _, _, _, _, _, _, _, _, _, rfl, rfl, ⟨hbe, (fun h => by cases h), H.d5, H.d7, H.d10, H.d11, H.d12, H.d13, H.d14, H.d16, H.d17, (fun h => by cases h), H.h0, (fun _ => rfl), (fun h => by cases h), H.h3, H.h4, (fun h => by cases h), H.h6, (fun h => by cases h), H.h8, H.h9, H.h10, H.h11, H.h12, H.h13, (fun h => by cases h), H.h15, (fun h => by cases h), (fun h => by cases h), (fun h => by cases h)⟩⟩
    · have ho := hoj
      simp only [List.getElem?_toArray, List.getElem?_cons_succ, List.getElem?_cons_zero, Option.some.injEq] at hoj
      subst hoj
      obtain rfl : sb2 = false := hun
      obtain rfl : sb0 = true := hall ⟨0, .data⟩ (by simp) (by kernel_rfl)
      obtain rfl : sb1 = true := hall ⟨1, .data⟩ (by simp) (by kernel_rfl)
      clear hall
      obtain rfl : sb5 = false := Bool.eq_false_iff.2 fun h => Bool.false_ne_true (H.d5 h).1
      obtain rfl : sb7 = false := Bool.eq_false_iff.2 fun h => Bool.false_ne_true (H.d7 h).1
      obtain rfl : sb14 = false := Bool.eq_false_iff.2 fun h => Bool.false_ne_true (H.d14 h).1
      obtain rfl : sb16 = false := Bool.eq_false_iff.2 fun h => Bool.false_ne_true (H.d16 h).1
      obtain rfl : sb17 = false := Bool.eq_false_iff.2 fun h => Bool.false_ne_true (H.d17 h)
      obtain rfl : sb18 = false := Bool.eq_false_iff.2 fun h => Bool.false_ne_true (H.d18 h).2.2.1
      have hbe := H.be
      have P0 := H.h0 rfl rfl
      obtain rfl := H.h1 rfl
      obtain ⟨q3, rfl, hw3⟩ := P0
      have HW3 := Lib.hid hw3
      have hsrc := src_bsl (bsl_onF S5.out hbe)
      rw [HAN.out] at hsrc
      have SR := Lib.hid hsrc
      have hn1 := HN1.out
      have hal := HAL2.out
      clear hw3 hsrc
      refine wpOp_step ho (fun K' hK => ?_)
      have HK := Lib.hid hK
      clear hK ho
      refine step_app_new w rfl (.tmp 33) (.tmp 34) _ rfl w5.heap.size 3 3 _ _ [0, 1, 65] all rfl rfl (by rw [HAN.out]; exact SR.out) HW3.out (by rw [HAN.out]; simp only [List.length_cons, List.length_nil]; omega) (by rw [HAN.out]; simp only [List.length_cons, List.length_nil]; omega) ?_
      intro v9 u9 h9 sb9 _
      have BC := Lib.hid sb9
      have NC := Lib.hid (wrow_bsl h9 HB365.out)
      clear h9 sb9
      exact HK.out _ _ ⟨_, _, _, _, _, _, _, _, _, _, _, _, _, _, _, _, _, _, _, _, _, _, _, _, _, _, _, _, _, _, _, _, _, _, _, _, _, _, rfl, rfl, ⟨hbe.trans (BC.out.mono hbe.size), (fun _ => ⟨rfl, rfl⟩), (fun h => by cases h), H.d7, H.d10, H.d11, H.d12, H.d13, (fun h => by cases h), H.d16, H.d17, (fun h => by cases h), (fun e f => let ⟨q, e1, e2⟩ := (H.h0 e f); ⟨q, e1, wrow_below e2 BC.out⟩), H.h1, (fun _ _ => NC.out), (fun e f => let ⟨q, e1, e2⟩ := (H.h3 e f); ⟨q, e1, wrow_below e2 BC.out⟩), H.h4, (fun h => by cases h), H.h6, (fun h => by cases h), H.h8, H.h9, H.h10, H.h11, H.h12, H.h13, (fun h => by cases h), H.h15, (fun h => by cases h), (fun h => by cases h), (fun h => by cases h)⟩⟩
    · have ho := hoj
      simp only [List.getElem?_toArray, List.getElem?_cons_succ, List.getElem?_cons_zero, Option.some.injEq] at hoj
      subst hoj
      obtain rfl : sb3 = false := hun
      clear hall
      obtain rfl : sb5 = false := Bool.eq_false_iff.2 fun h => Bool.false_ne_true (H.d5 h).2.1
      obtain rfl : sb7 = false := Bool.eq_false_iff.2 fun h => Bool.false_ne_true (H.d7 h).1
      obtain rfl : sb14 = false := Bool.eq_false_iff.2 fun h => Bool.false_ne_true (H.d14 h).2.1
      obtain rfl : sb16 = false := Bool.eq_false_iff.2 fun h => Bool.false_ne_true (H.d16 h).1
      obtain rfl : sb17 = false := Bool.eq_false_iff.2 fun h => Bool.false_ne_true (H.d17 h)
      obtain rfl : sb18 = false := Bool.eq_false_iff.2 fun h => Bool.false_ne_true (H.d18 h).2.2.2.1
      have hbe := H.be
      have BA := Lib.hid ((Below.refl w.heap.size w).alloc (Nat.le_refl _) (.cells #[] 5))
      have NA := Lib.hid (wrow_base (wrow_zero w) hbe.size)
      refine wpOp_step ho (fun K' hK => ?_)
      have HK := Lib.hid hK
      clear hK ho
      go_simp
      exact HK.out _ _ ⟨_, _, _, _, _, _, _, _, _, _, _, _, _, _, _, _, _, _, _, _, _, _, _, _, _, _, _, _, _, _, _, _, _, _, _, _, _, _, rfl, rfl, ⟨hbe.trans (BA.out.mono hbe.size), H.d2, (fun h => by cases h), H.d7, H.d10, H.d11, H.d12, H.d13, H.d14, H.d16, H.d17, (fun h => by cases h), (fun e f => let ⟨q, e1, e2⟩ := (H.h0 e f); ⟨q, e1, wrow_below e2 BA.out⟩), H.h1, (fun e f => bsl_onF (H.h2 e f) BA.out), (fun _ _ => ⟨_, rfl, NA.out⟩), H.h4, (fun h => by cases h), H.h6, (fun h => by cases h), H.h8, H.h9, H.h10, H.h11, H.h12, H.h13, (fun h => by cases h), H.h15, (fun h => by cases h), (fun h => by cases h), (fun h => by cases h)⟩⟩
    · have ho := hoj
      simp only [List.getElem?_toArray, List.getElem?_cons_succ, List.getElem?_cons_zero, Option.some.injEq] at hoj
      subst hoj
      obtain rfl : sb4 = false := hun
      clear hall
      obtain rfl : sb5 = false := Bool.eq_false_iff.2 fun h => Bool.false_ne_true (H.d5 h).2.2
      obtain rfl : sb7 = false := Bool.eq_false_iff.2 fun h => Bool.false_ne_true (H.d7 h).1
      obtain rfl : sb14 = false := Bool.eq_false_iff.2 fun h => Bool.false_ne_true (H.d14 h).2.1
      obtain rfl : sb16 = false := Bool.eq_false_iff.2 fun h => Bool.false_ne_true (H.d16 h).1
      obtain rfl : sb17 = false := Bool.eq_false_iff.2 fun h => Bool.false_ne_true (H.d17 h)
      obtain rfl : sb18 = false := Bool.eq_false_iff.2 fun h => Bool.false_ne_true (H.d18 h).2.2.2.2.1
      have hbe := H.be
      refine wpOp_step ho (fun K' hK => ?_)
      have HK := Lib.hid hK
      clear hK ho
      go_simp
      exact HK.out _ _ ⟨_, _, _, _, _, _, _, _, _, _, _, _, _, _, _, _, _, _, _, _, _, _, _, _, _, _, _, _, _, _, _, _, _, _, _, _, _, _, rfl, rfl, ⟨hbe, H.d2, (fun h => by cases h), H.d7, H.d10, H.d11, H.d12, H.d13, H.d14, H.d16, H.d17, (fun h => by cases h), H.h0, H.h1, H.h2, H.h3, (fun _ => rfl), (fun h => by cases h), H.h6, (fun h => by cases h), H.h8, H.h9, H.h10, H.h11, H.h12, H.h13, (fun h => by cases h), H.h15, (fun h => by cases h), (fun h => by cases h), (fun h => by cases h)⟩⟩
    · have ho := hoj
      simp only [List.getElem?_toArray, List.getElem?_cons_succ, List.getElem?_cons_zero, Option.some.injEq] at hoj
      subst hoj
      obtain rfl : sb5 = false := hun
      obtain rfl : sb2 = true := hall ⟨2, .chain⟩ (by simp) (by kernel_rfl)
      obtain rfl : sb3 = true := hall ⟨3, .data⟩ (by simp) (by kernel_rfl)
      obtain rfl : sb4 = true := hall ⟨4, .data⟩ (by simp) (by kernel_rfl)
      obtain rfl : sb0 = true := (H.d2 rfl).1
      obtain rfl : sb1 = true := (H.d2 rfl).2
      clear hall
      obtain rfl : sb7 = false := Bool.eq_false_iff.2 fun h => Bool.false_ne_true (H.d7 h).1
      obtain rfl : sb14 = false := Bool.eq_false_iff.2 fun h => Bool.false_ne_true (H.d14 h).2.1
      obtain rfl : sb16 = false := Bool.eq_false_iff.2 fun h => Bool.false_ne_true (H.d16 h).1
      obtain rfl : sb17 = false := Bool.eq_false_iff.2 fun h => Bool.false_ne_true (H.d17 h)
      obtain rfl : sb18 = false := Bool.eq_false_iff.2 fun h => Bool.false_ne_true (H.d18 h).2.2.2.2.2.1
      have hbe := H.be
      have P0 := H.h0 rfl rfl
      obtain rfl := H.h1 rfl
      have P2 := H.h2 rfl rfl
      have P3 := H.h3 rfl rfl
      obtain rfl := H.h4 rfl
      obtain ⟨q3, rfl, hw3⟩ := P3
      have HW3 := Lib.hid hw3
      have HP2 := Lib.hid P2
      have hsrc := src_bsl (bsl_onF S5.out hbe)
      rw [HAN.out] at hsrc
      have SR := Lib.hid hsrc
      have hn1 := HN1.out
      have hal := HAL2.out
      clear hw3 hsrc P2
      refine wpOp_step ho (fun K' hK => ?_)
      have HK := Lib.hid hK
      clear hK ho
      refine step_app_new w rfl (.tmp 36) (.tmp 37) _ rfl w5.heap.size 0 0 _ _ [] all rfl rfl (by rw [HAN.out]; exact SR.out) HW3.out (by rw [HAN.out]; simp only [List.length_nil]; omega) (by rw [HAN.out]; simp only [List.length_nil]; omega) ?_
      intro v9 u9 h9 sb9 k9
      have BC := Lib.hid sb9
      have NC := Lib.hid (wrow_base h9 hbe.size)
      have NL := Lib.hid (show w.heap.size < u9.heap.size by obtain ⟨q, e, h1, h2⟩ := wrow_lt h9; omega)
      have NE := Lib.hid k9
      have N2 := Lib.hid (HP2.out.below sb9)
      have NB := Lib.hid hbe.size
      clear h9 sb9 k9
      exact HK.out _ _ ⟨_, _, _, _, _, _, _, _, _, _, _, _, _, _, _, _, _, _, _, _, _, _, _, _, _, _, _, _, _, _, _, _, _, _, _, _, _, _, rfl, rfl, ⟨hbe.trans (BC.out.mono hbe.size), H.d2, (fun _ => ⟨rfl, rfl, rfl⟩), (fun h => by cases h), H.d10, H.d11, H.d12, H.d13, H.d14, H.d16, H.d17, (fun h => by cases h), (fun e f => let ⟨q, e1, e2⟩ := (H.h0 e f); ⟨q, e1, wrow_below e2 BC.out⟩), H.h1, (fun e f => bsl_onF (H.h2 e f) BC.out), (fun e f => let ⟨q, e1, e2⟩ := (H.h3 e f); ⟨q, e1, wrow_below e2 BC.out⟩), H.h4, (fun _ _ => ⟨_, NE.out, NB.out, NL.out, NC.out, N2.out⟩), H.h6, (fun h => by cases h), H.h8, H.h9, H.h10, H.h11, H.h12, H.h13, (fun h => by cases h), H.h15, (fun h => by cases h), (fun h => by cases h), (fun h => by cases h)⟩⟩
    · have ho := hoj
      simp only [List.getElem?_toArray, List.getElem?_cons_succ, List.getElem?_cons_zero, Option.some.injEq] at hoj
      subst hoj
      obtain rfl : sb6 = false := hun
      clear hall
      obtain rfl : sb7 = false := Bool.eq_false_iff.2 fun h => Bool.false_ne_true (H.d7 h).2
      obtain rfl : sb14 = false := Bool.eq_false_iff.2 fun h => Bool.false_ne_true (H.d14 h).2.1
      obtain rfl : sb16 = false := Bool.eq_false_iff.2 fun h => Bool.false_ne_true (H.d16 h).1
      obtain rfl : sb17 = false := Bool.eq_false_iff.2 fun h => Bool.false_ne_true (H.d17 h)
      obtain rfl : sb18 = false := Bool.eq_false_iff.2 fun h => Bool.false_ne_true (H.d18 h).2.2.2.2.2.2.1
      have hbe := H.be
      refine wpOp_step ho (fun K' hK => ?_)
      have HK := Lib.hid hK
      clear hK ho
      go_simp
      exact HK.out _ _ ⟨_, _, _, _, _, _, _, _, _, _, _, _, _, _, _, _, _, _, _, _, _, _, _, _, _, _, _, _, _, _, _, _, _, _, _, _, _, _, rfl, rfl, ⟨hbe, H.d2, H.d5, (fun h => by cases h), H.d10, H.d11, H.d12, H.d13, H.d14, H.d16, H.d17, (fun h => by cases h), H.h0, H.h1, H.h2, H.h3, H.h4, H.h5, (fun _ => rfl), (fun h => by cases h), H.h8, H.h9, H.h10, H.h11, H.h12, H.h13, (fun h => by cases h), H.h15, (fun h => by cases h), (fun h => by cases h), (fun h => by cases h)⟩⟩
    · have ho := hoj
      simp only [List.getElem?_toArray, List.getElem?_cons_succ, List.getElem?_cons_zero, Option.some.injEq] at hoj
      subst hoj
      obtain rfl : sb7 = false := hun
      obtain rfl : sb5 = true := hall ⟨5, .data⟩ (by simp) (by kernel_rfl)
      obtain rfl : sb6 = true := hall ⟨6, .data⟩ (by simp) (by kernel_rfl)
      obtain rfl : sb2 = true := (H.d5 rfl).1
      obtain rfl : sb3 = true := (H.d5 rfl).2.1
      obtain rfl : sb4 = true := (H.d5 rfl).2.2
      obtain rfl : sb0 = true := (H.d2 rfl).1
      obtain rfl : sb1 = true := (H.d2 rfl).2
      clear hall
      obtain rfl : sb14 = false := Bool.eq_false_iff.2 fun h => Bool.false_ne_true (H.d14 h).2.1
      obtain rfl : sb16 = false := Bool.eq_false_iff.2 fun h => Bool.false_ne_true (H.d16 h).1
      obtain rfl : sb17 = false := Bool.eq_false_iff.2 fun h => Bool.false_ne_true (H.d17 h)
      obtain rfl : sb18 = false := Bool.eq_false_iff.2 fun h => Bool.false_ne_true (H.d18 h).2.2.2.2.2.2.2.1
      have hbe := H.be
      have P0 := H.h0 rfl rfl
      obtain rfl := H.h1 rfl
      have P2 := H.h2 rfl rfl
      have P3 := H.h3 rfl rfl
      obtain rfl := H.h4 rfl
      have P5 := H.h5 rfl rfl
      obtain rfl := H.h6 rfl
      obtain ⟨g5, hg5, hw5, hl5, hr5, h25⟩ := P5
      have HG5 := Lib.hid hg5
      have HW5 := Lib.hid hw5
      have HR5 := Lib.hid hr5
      have H25 := Lib.hid h25
      have HL5 := Lib.hid hl5
      obtain ⟨g6, c6, _, _, rfl, _⟩ := hr5
      have hsrc := src_bsl (bsl_onF S5.out hbe)
      rw [HAN.out] at hsrc
      have SR := Lib.hid hsrc
      have hn1 := HN1.out
      have hal := HAL2.out
      clear hg5 hw5 h25 hsrc hl5
      refine wpOp_step ho (fun K' hK => ?_)
      have HK := Lib.hid hK
      clear hK ho
      refine step_appT w rfl (.tmp 38) (.tmp 39) _ rfl w5.heap.size (.slice (some ⟨g6, 0, none⟩) all.length c6) _ all all rfl rfl (by rw [HAN.out]; exact SR.out) (.inr HR5.out) (by rw [HAN.out]; omega) (by rw [HAN.out]; omega) hbe.size ?_
      intro v9 u9 h9 g9 k9
      have hg6 := HG5.out
      have NC := Lib.hid (wrow_bsl h9 HB2.out)
      have BV := Lib.hid (hbe.grown g9 hbe.size (fun k e => by rw [hg6] at e; cases e; exact HW5.out))
      have N2 := Lib.hid ((bsl_at H25.out g9 (fun k e => by rw [hg6] at e; cases e; exact Nat.le_refl _) (Nat.le_of_lt HL5.out)).more (Nat.le_trans (Nat.le_of_lt HL5.out) g9.size))
      clear h9 g9 k9
      exact HK.out _ _ ⟨_, _, _, _, _, _, _, _, _, _, _, _, _, _, _, _, _, _, _, _, _, _, _, _, _, _, _, _, _, _, _, _, _, _, _, _, _, _, rfl, rfl, ⟨BV.out, H.d2, H.d5, (fun _ => ⟨rfl, rfl⟩), H.d10, H.d11, H.d12, H.d13, (fun h => by cases h), H.d16, H.d17, (fun h => by cases h), (fun _ h => by cases h), H.h1, (fun _ h => by cases h), (fun _ h => by cases h), H.h4, (fun _ h => by cases h), H.h6, (fun _ => ⟨N2.out, NC.out⟩), H.h8, H.h9, H.h10, H.h11, H.h12, H.h13, (fun h => by cases h), H.h15, (fun h => by cases h), (fun h => by cases h), (fun h => by cases h)⟩⟩
    · have ho := hoj
      simp only [List.getElem?_toArray, List.getElem?_cons_succ, List.getElem?_cons_zero, Option.some.injEq] at hoj
      subst hoj
      obtain rfl : sb8 = false := hun
      clear hall
      obtain rfl : sb13 = false := Bool.eq_false_iff.2 fun h => Bool.false_ne_true (H.d13 h).1
      obtain rfl : sb14 = false := Bool.eq_false_iff.2 fun h => Bool.false_ne_true (H.d14 h).2.2
      obtain rfl : sb16 = false := Bool.eq_false_iff.2 fun h => Bool.false_ne_true (H.d16 h).1
      obtain rfl : sb17 = false := Bool.eq_false_iff.2 fun h => Bool.false_ne_true (H.d17 h)
      obtain rfl : sb18 = false := Bool.eq_false_iff.2 fun h => Bool.false_ne_true (H.d18 h).2.2.2.2.2.2.2.2.1
      have hbe := H.be
      refine wpOp_step ho (fun K' hK => ?_)
      have HK := Lib.hid hK
      clear hK ho
      go_simp
      exact HK.out _ _ ⟨_, _, _, _, _, _, _, _, _, _, _, _, _, _, _, _, _, _, _, _, _, _, _, _, _, _, _, _, _, _, _, _, _, _, _, _, _, _, rfl, rfl, ⟨hbe, H.d2, H.d5, H.d7, H.d10, H.d11, H.d12, (fun h => by cases h), H.d14, H.d16, H.d17, (fun h => by cases h), H.h0, H.h1, H.h2, H.h3, H.h4, H.h5, H.h6, H.h7, (fun _ => rfl), H.h9, H.h10, H.h11, H.h12, H.h13, (fun h => by cases h), H.h15, (fun h => by cases h), (fun h => by cases h), (fun h => by cases h)⟩⟩
    · have ho := hoj
      simp only [List.getElem?_toArray, List.getElem?_cons_succ, List.getElem?_cons_zero, Option.some.injEq] at hoj
      subst hoj
      obtain rfl : sb9 = false := hun
      clear hall
      obtain rfl : sb10 = false := Bool.eq_false_iff.2 fun h => Bool.false_ne_true (H.d10 h)
      obtain rfl : sb11 = false := Bool.eq_false_iff.2 fun h => Bool.false_ne_true (H.d11 h)
      obtain rfl : sb12 = false := Bool.eq_false_iff.2 fun h => Bool.false_ne_true (H.d12 h)
      obtain rfl : sb13 = false := Bool.eq_false_iff.2 fun h => Bool.false_ne_true (H.d13 h).2
      obtain rfl : sb14 = false := Bool.eq_false_iff.2 fun h => Bool.false_ne_true (H.d14 h).2.2
      obtain rfl : sb16 = false := Bool.eq_false_iff.2 fun h => Bool.false_ne_true (H.d16 h).1
      obtain rfl : sb17 = false := Bool.eq_false_iff.2 fun h => Bool.false_ne_true (H.d17 h)
      obtain rfl : sb18 = false := Bool.eq_false_iff.2 fun h => Bool.false_ne_true (H.d18 h).2.2.2.2.2.2.2.2.2.1
      have hbe := H.be
      refine wpOp_step ho (fun K' hK => ?_)
      have HK := Lib.hid hK
      clear hK ho
      go_simp
      exact HK.out _ _ ⟨_, _, _, _, _, _, _, _, _, _, _, _, _, _, _, _, _, _, _, _, _, _, _, _, _, _, _, _, _, _, _, _, _, _, _, _, _, _, rfl, rfl, ⟨hbe, H.d2, H.d5, H.d7, (fun h => by cases h), H.d11, H.d12, H.d13, H.d14, H.d16, H.d17, (fun h => by cases h), H.h0, H.h1, H.h2, H.h3, H.h4, H.h5, H.h6, H.h7, H.h8, (fun _ => rfl), H.h10, H.h11, H.h12, H.h13, (fun h => by cases h), H.h15, (fun h => by cases h), (fun h => by cases h), (fun h => by cases h)⟩⟩
    · have ho := hoj
      simp only [List.getElem?_toArray, List.getElem?_cons_succ, List.getElem?_cons_zero, Option.some.injEq] at hoj
      subst hoj
      obtain rfl : sb10 = false := hun
      obtain rfl : sb9 = true := hall ⟨9, .data⟩ (by simp) (by kernel_rfl)
      clear hall
      obtain rfl : sb11 = false := Bool.eq_false_iff.2 fun h => Bool.false_ne_true (H.d11 h)
      obtain rfl : sb12 = false := Bool.eq_false_iff.2 fun h => Bool.false_ne_true (H.d12 h)
      obtain rfl : sb13 = false := Bool.eq_false_iff.2 fun h => Bool.false_ne_true (H.d13 h).2
      obtain rfl : sb14 = false := Bool.eq_false_iff.2 fun h => Bool.false_ne_true (H.d14 h).2.2
      obtain rfl : sb16 = false := Bool.eq_false_iff.2 fun h => Bool.false_ne_true (H.d16 h).1
      obtain rfl : sb17 = false := Bool.eq_false_iff.2 fun h => Bool.false_ne_true (H.d17 h)
      obtain rfl : sb18 = false := Bool.eq_false_iff.2 fun h => Bool.false_ne_true (H.d18 h).2.2.2.2.2.2.2.2.2.2.1
      have hbe := H.be
      obtain rfl := H.h9 rfl
      refine wpOp_step ho (fun K' hK => ?_)
      have HK := Lib.hid hK
      clear hK ho
      go_simp
      exact HK.out _ _ ⟨_, _, _, _, _, _, _, _, _, _, _, _, _, _, _, _, _, _, _, _, _, _, _, _, _, _, _, _, _, _, _, _, _, _, _, _, _, _, rfl, rfl, ⟨hbe, H.d2, H.d5, H.d7, (fun _ => rfl), (fun h => by cases h), H.d12, H.d13, H.d14, H.d16, H.d17, (fun h => by cases h), H.h0, H.h1, H.h2, H.h3, H.h4, H.h5, H.h6, H.h7, H.h8, H.h9, (fun _ => rfl), H.h11, H.h12, H.h13, (fun h => by cases h), H.h15, (fun h => by cases h), (fun h => by cases h), (fun h => by cases h)⟩⟩
    · have ho := hoj
      simp only [List.getElem?_toArray, List.getElem?_cons_succ, List.getElem?_cons_zero, Option.some.injEq] at hoj
      subst hoj
      obtain rfl : sb11 = false := hun
      obtain rfl : sb10 = true := hall ⟨10, .data⟩ (by simp) (by kernel_rfl)
      obtain rfl : sb9 = true := (H.d10 rfl)
      clear hall
      obtain rfl : sb12 = false := Bool.eq_false_iff.2 fun h => Bool.false_ne_true (H.d12 h)
      obtain rfl : sb13 = false := Bool.eq_false_iff.2 fun h => Bool.false_ne_true (H.d13 h).2
      obtain rfl : sb14 = false := Bool.eq_false_iff.2 fun h => Bool.false_ne_true (H.d14 h).2.2
      obtain rfl : sb16 = false := Bool.eq_false_iff.2 fun h => Bool.false_ne_true (H.d16 h).1
      obtain rfl : sb17 = false := Bool.eq_false_iff.2 fun h => Bool.false_ne_true (H.d17 h)
      obtain rfl : sb18 = false := Bool.eq_false_iff.2 fun h => Bool.false_ne_true (H.d18 h).2.2.2.2.2.2.2.2.2.2.2.1
      have hbe := H.be
      obtain rfl := H.h9 rfl
      obtain rfl := H.h10 rfl
      have hwm := HWM.out
      refine wpOp_step ho (fun K' hK => ?_)
      have HK := Lib.hid hK
      clear hK ho
      go_simp
      exact HK.out _ _ ⟨_, _, _, _, _, _, _, _, _, _, _, _, _, _, _, _, _, _, _, _, _, _, _, _, _, _, _, _, _, _, _, _, _, _, _, _, _, _, rfl, rfl, ⟨hbe, H.d2, H.d5, H.d7, H.d10, (fun _ => rfl), (fun h => by cases h), H.d13, H.d14, H.d16, H.d17, (fun h => by cases h), H.h0, H.h1, H.h2, H.h3, H.h4, H.h5, H.h6, H.h7, H.h8, H.h9, H.h10, (fun _ => rfl), H.h12, H.h13, (fun h => by cases h), H.h15, (fun h => by cases h), (fun h => by cases h), (fun h => by cases h)⟩⟩
    · have ho := hoj
      simp only [List.getElem?_toArray, List.getElem?_cons_succ, List.getElem?_cons_zero, Option.some.injEq] at hoj
      subst hoj
      obtain rfl : sb12 = false := hun
      obtain rfl : sb11 = true := hall ⟨11, .data⟩ (by simp) (by kernel_rfl)
      obtain rfl : sb10 = true := (H.d11 rfl)
      obtain rfl : sb9 = true := (H.d10 rfl)
      clear hall
      obtain rfl : sb13 = false := Bool.eq_false_iff.2 fun h => Bool.false_ne_true (H.d13 h).2
      obtain rfl : sb14 = false := Bool.eq_false_iff.2 fun h => Bool.false_ne_true (H.d14 h).2.2
      obtain rfl : sb16 = false := Bool.eq_false_iff.2 fun h => Bool.false_ne_true (H.d16 h).1
      obtain rfl : sb17 = false := Bool.eq_false_iff.2 fun h => Bool.false_ne_true (H.d17 h)
      obtain rfl : sb18 = false := Bool.eq_false_iff.2 fun h => Bool.false_ne_true (H.d18 h).2.2.2.2.2.2.2.2.2.2.2.2.1
      have hbe := H.be
      obtain rfl := H.h9 rfl
      obtain rfl := H.h10 rfl
      obtain rfl := H.h11 rfl
      have hmx := HMX.out
      refine wpOp_step ho (fun K' hK => ?_)
      have HK := Lib.hid hK
      clear hK ho
      go_simp
      exact HK.out _ _ ⟨_, _, _, _, _, _, _, _, _, _, _, _, _, _, _, _, _, _, _, _, _, _, _, _, _, _, _, _, _, _, _, _, _, _, _, _, _, _, rfl, rfl, ⟨hbe, H.d2, H.d5, H.d7, H.d10, H.d11, (fun _ => rfl), (fun h => by cases h), H.d14, H.d16, H.d17, (fun h => by cases h), H.h0, H.h1, H.h2, H.h3, H.h4, H.h5, H.h6, H.h7, H.h8, H.h9, H.h10, H.h11, (fun _ => rfl), H.h13, (fun h => by cases h), H.h15, (fun h => by cases h), (fun h => by cases h), (fun h => by cases h)⟩⟩
    · have ho := hoj
      simp only [List.getElem?_toArray, List.getElem?_cons_succ, List.getElem?_cons_zero, Option.some.injEq] at hoj
      subst hoj
      obtain rfl : sb13 = false := hun
      obtain rfl : sb8 = true := hall ⟨8, .data⟩ (by simp) (by kernel_rfl)
      obtain rfl : sb12 = true := hall ⟨12, .data⟩ (by simp) (by kernel_rfl)
      obtain rfl : sb11 = true := (H.d12 rfl)
      obtain rfl : sb10 = true := (H.d11 rfl)
      obtain rfl : sb9 = true := (H.d10 rfl)
      clear hall
      obtain rfl : sb14 = false := Bool.eq_false_iff.2 fun h => Bool.false_ne_true (H.d14 h).2.2
      obtain rfl : sb16 = false := Bool.eq_false_iff.2 fun h => Bool.false_ne_true (H.d16 h).1
      obtain rfl : sb17 = false := Bool.eq_false_iff.2 fun h => Bool.false_ne_true (H.d17 h)
      obtain rfl : sb18 = false := Bool.eq_false_iff.2 fun h => Bool.false_ne_true (H.d18 h).2.2.2.2.2.2.2.2.2.2.2.2.2.1
      have hbe := H.be
      obtain rfl := H.h8 rfl
      obtain rfl := H.h9 rfl
      obtain rfl := H.h10 rfl
      obtain rfl := H.h11 rfl
      obtain rfl := H.h12 rfl
      obtain ⟨hk0, hk1, hk2⟩ := HAM.out
      refine wpOp_step ho (fun K' hK => ?_)
      have HK := Lib.hid hK
      clear hK ho
      go_simp
      exact HK.out _ _ ⟨_, _, _, _, _, _, _, _, _, _, _, _, _, _, _, _, _, _, _, _, _, _, _, _, _, _, _, _, _, _, _, _, _, _, _, _, _, _, rfl, rfl, ⟨hbe, H.d2, H.d5, H.d7, H.d10, H.d11, H.d12, (fun _ => ⟨rfl, rfl⟩), (fun h => by cases h), H.d16, H.d17, (fun h => by cases h), H.h0, H.h1, H.h2, H.h3, H.h4, H.h5, H.h6, H.h7, H.h8, H.h9, H.h10, H.h11, H.h12, (fun _ => rfl), (fun h => by cases h), H.h15, (fun h => by cases h), (fun h => by cases h), (fun h => by cases h)⟩⟩
    · have ho := hoj
      simp only [List.getElem?_toArray, List.getElem?_cons_succ, List.getElem?_cons_zero, Option.some.injEq] at hoj
      subst hoj
      obtain rfl : sb14 = false := hun
      obtain rfl : sb2 = true := hall ⟨2, .data⟩ (by simp) (by kernel_rfl)
      obtain rfl : sb7 = true := hall ⟨7, .data⟩ (by simp) (by kernel_rfl)
      obtain rfl : sb13 = true := hall ⟨13, .data⟩ (by simp) (by kernel_rfl)
      obtain rfl : sb0 = true := (H.d2 rfl).1
      obtain rfl : sb1 = true := (H.d2 rfl).2
      obtain rfl : sb5 = true := (H.d7 rfl).1
      obtain rfl : sb6 = true := (H.d7 rfl).2
      obtain rfl : sb8 = true := (H.d13 rfl).1
      obtain rfl : sb12 = true := (H.d13 rfl).2
      obtain rfl : sb3 = true := (H.d5 rfl).2.1
      obtain rfl : sb4 = true := (H.d5 rfl).2.2
      obtain rfl : sb11 = true := (H.d12 rfl)
      obtain rfl : sb10 = true := (H.d11 rfl)
      obtain rfl : sb9 = true := (H.d10 rfl)
      clear hall
      obtain rfl : sb16 = false := Bool.eq_false_iff.2 fun h => Bool.false_ne_true (H.d16 h).1
      obtain rfl : sb17 = false := Bool.eq_false_iff.2 fun h => Bool.false_ne_true (H.d17 h)
      obtain rfl : sb18 = false := Bool.eq_false_iff.2 fun h => Bool.false_ne_true (H.d18 h).2.2.2.2.2.2.2.2.2.2.2.2.2.2.1
      have hbe := H.be
      obtain rfl := H.h1 rfl
      obtain rfl := H.h4 rfl
      obtain rfl := H.h6 rfl
      have P7 := H.h7 rfl
      obtain rfl := H.h8 rfl
      obtain rfl := H.h9 rfl
      obtain rfl := H.h10 rfl
      obtain rfl := H.h11 rfl
      obtain rfl := H.h12 rfl
      obtain rfl := H.h13 rfl
      obtain ⟨p71, p72⟩ := P7
      have HP1 := Lib.hid p71
      have HP2 := Lib.hid p72
      obtain ⟨A2, c2, e2, _⟩ := p71.ex
      obtain ⟨A7, c7, e7, _⟩ := p72.ex
      obtain ⟨n2, hn2⟩ : ∃ q, (([0, 1, 65] : List Int) ++ all).length = q := ⟨_, rfl⟩
      obtain ⟨n7, hn7⟩ : ∃ q, (all ++ all).length = q := ⟨_, rfl⟩
      rw [hn2] at e2
      rw [hn7] at e7
      subst e2 e7
      clear hn2 hn7
      have BA := Lib.hid ((Below.refl w.heap.size w).alloc (Nat.le_refl _) (.cells #[.slice A2 n2 c2, .slice A7 n7 c7, .slice Ae am ce, .slice none 0 0] 25))
      have NA := Lib.hid (heap_alloc_new w (.cells #[.slice A2 n2 c2, .slice A7 n7 c7, .slice Ae am ce, .slice none 0 0] 25))
      have N1 := Lib.hid (bsl_onF HP1.out BA.out)
      have N2 := Lib.hid (bsl_onF HP2.out BA.out)
      clear p71 p72
      refine wpOp_step ho (fun K' hK => ?_)
      have HK := Lib.hid hK
      clear hK ho
      go_simp
      exact HK.out _ _ ⟨_, _, _, _, _, _, _, _, _, _, _, _, _, _, _, _, _, _, _, _, _, _, _, _, _, _, _, _, _, _, _, _, _, _, _, _, _, _, rfl, rfl, ⟨hbe.trans (BA.out.mono hbe.size), H.d2, H.d5, H.d7, H.d10, H.d11, H.d12, H.d13, (fun _ => ⟨rfl, rfl, rfl⟩), (fun h => by cases h), H.d17, (fun h => by cases h), (fun _ h => by cases h), H.h1, (fun _ h => by cases h), (fun _ h => by cases h), H.h4, (fun _ h => by cases h), H.h6, (fun e => ⟨bsl_onF (H.h7 e).1 BA.out, bsl_onF (H.h7 e).2 BA.out⟩), H.h8, H.h9, H.h10, H.h11, H.h12, H.h13, (fun _ => ⟨_, rfl, ⟨⟨_, NA.out⟩, N1.out, N2.out⟩⟩), H.h15, (fun h => by cases h), (fun h => by cases h), (fun h => by cases h)⟩⟩
    · have ho := hoj
      simp only [List.getElem?_toArray, List.getElem?_cons_succ, List.getElem?_cons_zero, Option.some.injEq] at hoj
      subst hoj
      obtain rfl : sb15 = false := hun
      clear hall
      obtain rfl : sb16 = false := Bool.eq_false_iff.2 fun h => Bool.false_ne_true (H.d16 h).2
      obtain rfl : sb17 = false := Bool.eq_false_iff.2 fun h => Bool.false_ne_true (H.d17 h)
      obtain rfl : sb18 = false := Bool.eq_false_iff.2 fun h => Bool.false_ne_true (H.d18 h).2.2.2.2.2.2.2.2.2.2.2.2.2.2.2.1
      have hbe := H.be
      refine wpOp_step ho (fun K' hK => ?_)
      have HK := Lib.hid hK
      clear hK ho
      go_simp
      exact HK.out _ _ ⟨_, _, _, _, _, _, _, _, _, _, _, _, _, _, _, _, _, _, _, _, _, _, _, _, _, _, _, _, _, _, _, _, _, _, _, _, _, _, rfl, rfl, ⟨hbe, H.d2, H.d5, H.d7, H.d10, H.d11, H.d12, H.d13, H.d14, (fun h => by cases h), H.d17, (fun h => by cases h), H.h0, H.h1, H.h2, H.h3, H.h4, H.h5, H.h6, H.h7, H.h8, H.h9, H.h10, H.h11, H.h12, H.h13, H.h14, (fun _ => rfl), (fun h => by cases h), (fun h => by cases h), (fun h => by cases h)⟩⟩
    · have ho := hoj
      simp only [List.getElem?_toArray, List.getElem?_cons_succ, List.getElem?_cons_zero, Option.some.injEq] at hoj
      subst hoj
      obtain rfl : sb16 = false := hun
      obtain rfl : sb14 = true := hall ⟨14, .data⟩ (by simp) (by kernel_rfl)
      obtain rfl : sb15 = true := hall ⟨15, .data⟩ (by simp) (by kernel_rfl)
      obtain rfl : sb2 = true := (H.d14 rfl).1
      obtain rfl : sb7 = true := (H.d14 rfl).2.1
      obtain rfl : sb13 = true := (H.d14 rfl).2.2
      obtain rfl : sb0 = true := (H.d2 rfl).1
      obtain rfl : sb1 = true := (H.d2 rfl).2
      obtain rfl : sb5 = true := (H.d7 rfl).1
      obtain rfl : sb6 = true := (H.d7 rfl).2
      obtain rfl : sb8 = true := (H.d13 rfl).1
      obtain rfl : sb12 = true := (H.d13 rfl).2
      obtain rfl : sb3 = true := (H.d5 rfl).2.1
      obtain rfl : sb4 = true := (H.d5 rfl).2.2
      obtain rfl : sb11 = true := (H.d12 rfl)
      obtain rfl : sb10 = true := (H.d11 rfl)
      obtain rfl : sb9 = true := (H.d10 rfl)
      clear hall
      obtain rfl : sb17 = false := Bool.eq_false_iff.2 fun h => Bool.false_ne_true (H.d17 h)
      obtain rfl : sb18 = false := Bool.eq_false_iff.2 fun h => Bool.false_ne_true (H.d18 h).2.2.2.2.2.2.2.2.2.2.2.2.2.2.2.2.1
      have hbe := H.be
      obtain rfl := H.h1 rfl
      obtain rfl := H.h4 rfl
      obtain rfl := H.h6 rfl
      have P7 := H.h7 rfl
      obtain rfl := H.h8 rfl
      obtain rfl := H.h9 rfl
      obtain rfl := H.h10 rfl
      obtain rfl := H.h11 rfl
      obtain rfl := H.h12 rfl
      obtain rfl := H.h13 rfl
      have P14 := H.h14 rfl
      obtain rfl := H.h15 rfl
      obtain ⟨q4, rfl, hr4⟩ := P14
      have HR4 := Lib.hid hr4
      obtain ⟨hk0, hk1⟩ := HKK.out
      clear hr4
      refine wpOp_step ho (fun K' hK => ?_)
      have HK := Lib.hid hK
      clear hK ho
      go_simp
      exact HK.out _ _ ⟨_, _, _, _, _, _, _, _, _, _, _, _, _, _, _, _, _, _, _, _, _, _, _, _, _, _, _, _, _, _, _, _, _, _, _, _, _, _, rfl, rfl, ⟨hbe, H.d2, H.d5, H.d7, H.d10, H.d11, H.d12, H.d13, H.d14, (fun _ => ⟨rfl, rfl⟩), (fun h => by cases h), (fun h => by cases h), (fun _ h => by cases h), H.h1, (fun _ h => by cases h), (fun _ h => by cases h), H.h4, (fun _ h => by cases h), H.h6, H.h7, H.h8, H.h9, H.h10, H.h11, H.h12, H.h13, H.h14, H.h15, (fun _ => ⟨_, by first | rfl | simp, HR4.out⟩), (fun h => by cases h), (fun h => by cases h)⟩⟩
    · have ho := hoj
      simp only [List.getElem?_toArray, List.getElem?_cons_succ, List.getElem?_cons_zero, Option.some.injEq] at hoj
      subst hoj
      obtain rfl : sb17 = false := hun
      obtain rfl : sb16 = true := hall ⟨16, .data⟩ (by simp) (by kernel_rfl)
      obtain rfl : sb14 = true := (H.d16 rfl).1
      obtain rfl : sb15 = true := (H.d16 rfl).2
      obtain rfl : sb2 = true := (H.d14 rfl).1
      obtain rfl : sb7 = true := (H.d14 rfl).2.1
      obtain rfl : sb13 = true := (H.d14 rfl).2.2
      obtain rfl : sb0 = true := (H.d2 rfl).1
      obtain rfl : sb1 = true := (H.d2 rfl).2
      obtain rfl : sb5 = true := (H.d7 rfl).1
      obtain rfl : sb6 = true := (H.d7 rfl).2
      obtain rfl : sb8 = true := (H.d13 rfl).1
      obtain rfl : sb12 = true := (H.d13 rfl).2
      obtain rfl : sb3 = true := (H.d5 rfl).2.1
      obtain rfl : sb4 = true := (H.d5 rfl).2.2
      obtain rfl : sb11 = true := (H.d12 rfl)
      obtain rfl : sb10 = true := (H.d11 rfl)
      obtain rfl : sb9 = true := (H.d10 rfl)
      clear hall
      obtain rfl : sb18 = false := Bool.eq_false_iff.2 fun h => Bool.false_ne_true (H.d18 h).2.2.2.2.2.2.2.2.2.2.2.2.2.2.2.2.2
      have hbe := H.be
      obtain rfl := H.h1 rfl
      obtain rfl := H.h4 rfl
      obtain rfl := H.h6 rfl
      have P7 := H.h7 rfl
      obtain rfl := H.h8 rfl
      obtain rfl := H.h9 rfl
      obtain rfl := H.h10 rfl
      obtain rfl := H.h11 rfl
      obtain rfl := H.h12 rfl
      obtain rfl := H.h13 rfl
      have P14 := H.h14 rfl
      obtain rfl := H.h15 rfl
      have P16 := H.h16 rfl
      obtain ⟨q4, rfl, hr4⟩ := P16
      obtain ⟨v9, hv9, hb9⟩ := hr4.get HK4.out (bsl_onF HTK.out hbe)
      obtain ⟨A9, c9, rfl, _⟩ := hb9.ex
      have HV9 := Lib.hid hv9
      have HB9 := Lib.hid hb9
      have hv9' := HV9.out
      clear hr4 hb9 hv9
      refine wpOp_step ho (fun K' hK => ?_)
      have HK := Lib.hid hK
      clear hK ho
      go_simp
      exact HK.out _ _ ⟨_, _, _, _, _, _, _, _, _, _, _, _, _, _, _, _, _, _, _, _, _, _, _, _, _, _, _, _, _, _, _, _, _, _, _, _, _, _, rfl, rfl, ⟨hbe, H.d2, H.d5, H.d7, H.d10, H.d11, H.d12, H.d13, H.d14, H.d16, (fun _ => rfl), (fun h => by cases h), (fun _ h => by cases h), H.h1, (fun _ h => by cases h), (fun _ h => by cases h), H.h4, (fun _ h => by cases h), H.h6, H.h7, H.h8, H.h9, H.h10, H.h11, H.h12, H.h13, H.h14, H.h15, H.h16, (fun _ => HB9.out), (fun h => by cases h)⟩⟩
    · have ho := hoj
      simp only [List.getElem?_toArray, List.getElem?_cons_succ, List.getElem?_cons_zero, Option.some.injEq] at hoj
      subst hoj
      obtain rfl : sb18 = false := hun
      obtain rfl : sb0 = true := hall ⟨0, .phase⟩ (by simp) (by kernel_rfl)
      obtain rfl : sb1 = true := hall ⟨1, .phase⟩ (by simp) (by kernel_rfl)
      obtain rfl : sb2 = true := hall ⟨2, .phase⟩ (by simp) (by kernel_rfl)
      obtain rfl : sb3 = true := hall ⟨3, .phase⟩ (by simp) (by kernel_rfl)
      obtain rfl : sb4 = true := hall ⟨4, .phase⟩ (by simp) (by kernel_rfl)
      obtain rfl : sb5 = true := hall ⟨5, .phase⟩ (by simp) (by kernel_rfl)
      obtain rfl : sb6 = true := hall ⟨6, .phase⟩ (by simp) (by kernel_rfl)
      obtain rfl : sb7 = true := hall ⟨7, .chain⟩ (by simp) (by kernel_rfl)
      obtain rfl : sb8 = true := hall ⟨8, .phase⟩ (by simp) (by kernel_rfl)
      obtain rfl : sb9 = true := hall ⟨9, .phase⟩ (by simp) (by kernel_rfl)
      obtain rfl : sb10 = true := hall ⟨10, .phase⟩ (by simp) (by kernel_rfl)
      obtain rfl : sb11 = true := hall ⟨11, .phase⟩ (by simp) (by kernel_rfl)
      obtain rfl : sb12 = true := hall ⟨12, .phase⟩ (by simp) (by kernel_rfl)
      obtain rfl : sb13 = true := hall ⟨13, .phase⟩ (by simp) (by kernel_rfl)
      obtain rfl : sb14 = true := hall ⟨14, .phase⟩ (by simp) (by kernel_rfl)
      obtain rfl : sb15 = true := hall ⟨15, .phase⟩ (by simp) (by kernel_rfl)
      obtain rfl : sb16 = true := hall ⟨16, .phase⟩ (by simp) (by kernel_rfl)
      obtain rfl : sb17 = true := hall ⟨17, .data⟩ (by simp) (by kernel_rfl)
      clear hall
      have hbe := H.be
      obtain rfl := H.h1 rfl
      obtain rfl := H.h4 rfl
      obtain rfl := H.h6 rfl
      have P7 := H.h7 rfl
      obtain rfl := H.h8 rfl
      obtain rfl := H.h9 rfl
      obtain rfl := H.h10 rfl
      obtain rfl := H.h11 rfl
      obtain rfl := H.h12 rfl
      obtain rfl := H.h13 rfl
      have P14 := H.h14 rfl
      obtain rfl := H.h15 rfl
      have P16 := H.h16 rfl
      have P17 := H.h17 rfl
      obtain ⟨A9, c9, rfl, _⟩ := P17.ex
      have HB9 := Lib.hid P17
      clear P17
      refine wpOp_step ho (fun K' hK => ?_)
      have HK := Lib.hid hK
      clear hK ho
      go_simp
      exact HK.out _ _ ⟨_, _, _, _, _, _, _, _, _, _, _, _, _, _, _, _, _, _, _, _, _, _, _, _, _, _, _, _, _, _, _, _, _, _, _, _, _, _, rfl, rfl, ⟨hbe, H.d2, H.d5, H.d7, H.d10, H.d11, H.d12, H.d13, H.d14, H.d16, H.d17, (fun _ => ⟨rfl, rfl, rfl, rfl, rfl, rfl, rfl, rfl, rfl, rfl, rfl, rfl, rfl, rfl, rfl, rfl, rfl, rfl⟩), (fun _ h => by cases h), H.h1, (fun _ h => by cases h), (fun _ h => by cases h), H.h4, (fun _ h => by cases h), H.h6, H.h7, H.h8, H.h9, H.h10, H.h11, H.h12, H.h13, H.h14, H.h15, H.h16, H.h17, (fun _ => HB9.out)⟩⟩
    · have ho := hoj
      simp at ho
  case hfin =>
    rintro listed a w ⟨sb0, sb1, sb2, sb3, sb4, sb5, sb6, sb7, sb8, sb9, sb10, sb11, sb12, sb13, sb14, sb15, sb16, sb17, sb18, sx0, sx1, sx2, sx3, sx4, sx5, sx6, sx7, sx8, sx9, sx10, sx11, sx12, sx13, sx14, sx15, sx16, sx17, sx18, rfl, rfl, H⟩ hr
    have hb : sb18 = true := by
      clear H
      obtain rfl : sb0 = true := by
        cases sb0
        · exact absurd hr (ready_ne4 (by kernel_rfl))
        · rfl
      obtain rfl : sb1 = true := by
        cases sb1
        · exact absurd hr (ready_ne4 (by kernel_rfl))
        · rfl
      obtain rfl : sb2 = true := by
        cases sb2
        · exact absurd hr (ready_ne4 (by kernel_rfl))
        · rfl
      obtain rfl : sb3 = true := by
        cases sb3
        · exact absurd hr (ready_ne4 (by kernel_rfl))
        · rfl
      obtain rfl : sb4 = true := by
        cases sb4
        · exact absurd hr (ready_ne4 (by kernel_rfl))
        · rfl
      obtain rfl : sb5 = true := by
        cases sb5
        · exact absurd hr (ready_ne4 (by kernel_rfl))
        · rfl
      obtain rfl : sb6 = true := by
        cases sb6
        · exact absurd hr (ready_ne4 (by kernel_rfl))
        · rfl
      obtain rfl : sb7 = true := by
        cases sb7
        · exact absurd hr (ready_ne4 (by kernel_rfl))
        · rfl
      obtain rfl : sb8 = true := by
        cases sb8
        · exact absurd hr (ready_ne4 (by kernel_rfl))
        · rfl
      obtain rfl : sb9 = true := by
        cases sb9
        · exact absurd hr (ready_ne4 (by kernel_rfl))
        · rfl
      obtain rfl : sb10 = true := by
        cases sb10
        · exact absurd hr (ready_ne4 (by kernel_rfl))
        · rfl
      obtain rfl : sb11 = true := by
        cases sb11
        · exact absurd hr (ready_ne4 (by kernel_rfl))
        · rfl
      obtain rfl : sb12 = true := by
        cases sb12
        · exact absurd hr (ready_ne4 (by kernel_rfl))
        · rfl
      obtain rfl : sb13 = true := by
        cases sb13
        · exact absurd hr (ready_ne4 (by kernel_rfl))
        · rfl
      obtain rfl : sb14 = true := by
        cases sb14
        · exact absurd hr (ready_ne4 (by kernel_rfl))
        · rfl
      obtain rfl : sb15 = true := by
        cases sb15
        · exact absurd hr (ready_ne4 (by kernel_rfl))
        · rfl
      obtain rfl : sb16 = true := by
        cases sb16
        · exact absurd hr (ready_ne4 (by kernel_rfl))
        · rfl
      obtain rfl : sb17 = true := by
        cases sb17
        · exact absurd hr (ready_ne4 (by kernel_rfl))
        · rfl
      obtain rfl : sb18 = true := by
        cases sb18
        · exact absurd hr (ready_ne4 (by kernel_rfl))
        · rfl
      rfl
    subst hb
    clear hr
    obtain rfl : sb0 = true := (H.d18 rfl).1
    obtain rfl : sb1 = true := (H.d18 rfl).2.1
    obtain rfl : sb2 = true := (H.d18 rfl).2.2.1
    obtain rfl : sb3 = true := (H.d18 rfl).2.2.2.1
    obtain rfl : sb4 = true := (H.d18 rfl).2.2.2.2.1
    obtain rfl : sb5 = true := (H.d18 rfl).2.2.2.2.2.1
    obtain rfl : sb6 = true := (H.d18 rfl).2.2.2.2.2.2.1
    obtain rfl : sb7 = true := (H.d18 rfl).2.2.2.2.2.2.2.1
    obtain rfl : sb8 = true := (H.d18 rfl).2.2.2.2.2.2.2.2.1
    obtain rfl : sb9 = true := (H.d18 rfl).2.2.2.2.2.2.2.2.2.1
    obtain rfl : sb10 = true := (H.d18 rfl).2.2.2.2.2.2.2.2.2.2.1
    obtain rfl : sb11 = true := (H.d18 rfl).2.2.2.2.2.2.2.2.2.2.2.1
    obtain rfl : sb12 = true := (H.d18 rfl).2.2.2.2.2.2.2.2.2.2.2.2.1
    obtain rfl : sb13 = true := (H.d18 rfl).2.2.2.2.2.2.2.2.2.2.2.2.2.1
    obtain rfl : sb14 = true := (H.d18 rfl).2.2.2.2.2.2.2.2.2.2.2.2.2.2.1
    obtain rfl : sb15 = true := (H.d18 rfl).2.2.2.2.2.2.2.2.2.2.2.2.2.2.2.1
    obtain rfl : sb16 = true := (H.d18 rfl).2.2.2.2.2.2.2.2.2.2.2.2.2.2.2.2.1
    obtain rfl : sb17 = true := (H.d18 rfl).2.2.2.2.2.2.2.2.2.2.2.2.2.2.2.2.2
    have hb9 := H.be
    have hp9 := H.h18 rfl
    have HB6 := Lib.hid hb9
    have HP6 := Lib.hid hp9
    obtain ⟨A6, c6, e9, _⟩ := hp9.ex
    clear hb9 hp9 H
    obtain ⟨w6, hw6⟩ : ∃ x, x = w := ⟨_, rfl⟩
    subst w
    subst e9
    obtain ⟨ro, hro⟩ : ∃ r, rfRow all am kk = r := ⟨_, rfl⟩
    rw [hro] at HP6 HFQ ⊢
    obtain ⟨n6, hn6⟩ : ∃ r, ro.length = r := ⟨_, rfl⟩
    rw [hn6] at HP6 ⊢
    have F6 := Lib.hid ((HB6.out.block _ (lt_of_block F5.out)).trans F5.out)
    have B6 := Lib.hid (B5.out.trans (HB6.out.mono B5.out.size))
    have R6 := Lib.hid (R5.out.on HB6.out)
    have HFD := Lib.hid (feed_any none none none A6 0 0 0 0 0 0 n6 c6 true rd0 ro _ tb0 w6 (bslN0 _ _) (fsl_nil _ _) (bslN0 _ _) HP6.out (tb0_val _ _) tb0_wf (by decide))
    rw [HFQ.out] at HFD
    dsimp only [rd0] at HFD
    clear hro hn6 HFQ F5 B5 R5 S5 HTK HB6 HP6
    go_wp2_with fail
    refine (HFD.out).mono ?_
    rintro e w7 ⟨b7, v7, rfl, hr7⟩
    obtain ⟨Ch, eh, Cf, ef, Cb, ez, rfl, _, _, _⟩ := hr7.ex
    dsimp only [rd0, List.length_nil]
    have X7 := (Below.refl w7.heap.size w7).alloc (Nat.le_refl _) (.cells #[.slice Ch 0 eh, .slice Cf 0 ef, .bool false, .slice Cb 0 ez, .bool false] 40)
    have J7 := heap_alloc_new w7 (.cells #[.slice Ch 0 eh, .slice Cf 0 ef, .bool false, .slice Cb 0 ez, .bool false] 40)
    have bb := b7.trans (X7.mono b7.size)
    have F8 := Lib.hid ((bb.block _ (lt_of_block F6.out)).trans F6.out)
    have B8 := Lib.hid (B6.out.trans (bb.mono B6.out.size))
    have R8 := Lib.hid (R6.out.on bb)
    obtain ⟨k7, hk7⟩ : ∃ k, w7.heap.size = k := ⟨_, rfl⟩
    rw [hk7] at J7
    clear b7 bb hr7 X7 F6 B6 R6 HFD
    go_upto_region 6 with fail
    obtain ⟨w8, hw8⟩ : ∃ w9, w7.alloc (.cells #[.slice Ch 0 eh, .slice Cf 0 ef, .bool false, .slice Cb 0 ez, .bool false] 40) = w9 := ⟨_, rfl⟩
    rw [hw8] at J7 F8 B8 R8 ⊢
    have J8 := Lib.hid J7
    clear hw8 hk7 J7
    have X8 := (Below.refl w8.heap.size w8).alloc (Nat.le_refl _) (.cells #[.int .i64 3, .int .i64 3, .int .i64 4, .int .i64 4] 28)
    have hcell : (w8.alloc (.cells #[.int .i64 3, .int .i64 3, .int .i64 4, .int .i64 4] 28)).cell? ⟨w8.heap.size, kk, none⟩ = some (.int .i64 (rfErr kk)) := by
      rw [bk_cell (heap_alloc_new w8 _)]
      have := HK4.out
      rcases kk with _ | _ | _ | _ | kk
      · rfl
      · rfl
      · rfl
      · rfl
      · omega
    have F9 := Lib.hid ((X8.block _ (lt_of_block F8.out)).trans F8.out)
    have J9 := Lib.hid ((X8.block _ (lt_of_block J8.out)).trans J8.out)
    have B9 := Lib.hid (B8.out.trans (X8.mono B8.out.size))
    have R9 := Lib.hid (R8.out.on X8)
    obtain ⟨hk0, hk1⟩ := HKK.out
    have hk4n := HK4.out
    clear X8 F8 J8 B8 R8
    go_upto_region 7 with fail
    obtain ⟨w9, hw9⟩ : ∃ w9, w8.alloc (.cells #[.int .i64 3, .int .i64 3, .int .i64 4, .int .i64 4] 28) = w9 := ⟨_, rfl⟩
    rw [hw9] at F9 J9 B9 R9 ⊢
    clear hw9 hcell hk0 hk1 hk4n
    obtain ⟨E, hE⟩ : ∃ e, rfErr kk = e := ⟨_, rfl⟩
    rw [hE]
    clear hE
    go_wp2_with fail
    refine (HTL.out _).mono ?_
    rintro e v1 ⟨rfl, c1'⟩
    have Fa := Lib.hid ((c1'.block _ (lt_of_block F9.out)).trans F9.out)
    have Ja := Lib.hid ((c1'.block _ (lt_of_block J9.out)).trans J9.out)
    have Ba := Lib.hid (B9.out.trans (c1'.mono B9.out.size))
    have Ra := Lib.hid (R9.out.on c1')
    clear c1' F9 J9 B9 R9
    obtain ⟨_, _, er, hl1, hl2, rr⟩ := Ra.out.ex
    injection er with er1 er2 er3
    subst er1 er3
    rw [HNL.out] at hl1
    have hn2 := HN2.out
    have hn7 := HN7.out
    obtain ⟨fb, fo, hAf, _, _⟩ := rr (by rw [HNL.out]; omega)
    subst hAf
    have hcut := RowE.cut rr 1 cf (by rw [HNL.out]; exact hl1)
    rw [if_neg (by omega)] at hcut
    have hcut2 : RowE FdE v1 v1.heap.size (some ⟨fb, fo + 2, none⟩) (l.drop 1) := hcut
    have HCK := Lib.hid (rqchk_any (some ⟨fb, fo + 2, none⟩) (nl - 1) (cf - 1) (l.drop 1) v1 hcut2 (by rw [List.length_drop, HNL.out]) (by omega) (by omega) (fun x hx => HLW.out x (List.mem_of_mem_drop hx)) (by omega))
    rw [HRD.out] at HCK
    have HCF := Lib.hid hl1
    clear er2 rr hcut hcut2
    have hi1 : (1 : Int) ≤ (nl : Int) := by omega
    have hi2 : (1 : Int) ≤ (cf : Int) := by omega
    obtain ⟨x0, x1, x2, x3, x4⟩ := bk5T Ja.out
    obtain ⟨u0, u1⟩ := bk2F Fa.out
    go_wp2_with fail
    refine (HCK.out).mono ?_
    clear x0 x1 x2 x3 x4 u0 u1
    rintro e v2 ⟨rfl, c2'⟩
    have Bb := Lib.hid (Ba.out.trans (c2'.mono Ba.out.size))
    clear c2'
    go_wp2_with fail
    go_ret
    exact ⟨by first | rfl | simp, Bb.out⟩
end Go.Proofs.YtpfahdogedchpaaDoor
