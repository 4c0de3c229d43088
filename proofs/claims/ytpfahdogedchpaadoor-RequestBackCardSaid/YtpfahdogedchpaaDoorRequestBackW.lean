/- The walk of RequestBack. -/
import Derived.Test.YtpfahdogedchpaaDoorGrpZe
import Derived.Test.YtpfahdogedchpaaDoorGrpZh
import Derived.Test.YtpfahdogedchpaaDoorRqF7
import Derived.Test.YtpfahdogedchpaaDoorGrpZf
import Derived.Test.YtpfahdogedchpaaDoorGrpA
import Derived.Test.YtpfahdogedchpaaDoorGrpD
import Derived.Test.YtpfahdogedchpaaDoorRdOn
namespace Go.Proofs.YtpfahdogedchpaaDoor
set_option linter.unusedVariables false
open Go.RowKit P
def tbH : Tb := ⟨100, 0, []⟩
theorem tbH_ok : faultTb tbH = 0 := by decide
theorem tbH_wf : TbWf tbH := ⟨by decide, by decide, by decide, fun x hx => by cases hx⟩
theorem tbH_val (w : World) (B : Nat) : TbVal w B (.agg #[.int .i64 100, .int .i64 0, .slice none 0 0]) tbH := ⟨_, rfl, none, 0, rfl, Nat.le_refl _, by unfold maxLen; omega, RowE.nil _ _ _⟩
theorem fsl_nil (w : World) (B : Nat) : FSl w B (.slice none 0 0) [] := ⟨none, 0, rfl, Nat.le_refl _, by unfold maxLen; omega, RowE.nil _ _ _⟩
/-- what stays as it is while a request is fed: the request, the table, its bytes -/
structure RbI (W0 : World) (k1 k4 nl cf nb cb : Nat) (ur up : Int) (un c4 an ce : Nat) (Af Ab A4 Ae : Option Addr) (l : List Fld) (zs all : List Int) (U : Tb) (w : World) : Prop where
  f : w.heap[k1]? = some (.cells #[.slice Af nl cf, .slice Ab nb cb] 27 (0, 0))
  h : w.heap[k4]? = some (.cells #[.int .i64 ur, .int .i64 up, .slice A4 un c4] 24 (0, 0))
  b : Below W0.heap.size W0 w
  r : FSl w w.heap.size (.slice Af nl cf) l
  z : BSl w w.heap.size (.slice Ab nb cb) zs
  v : TbVal w w.heap.size (.agg #[.int .i64 ur, .int .i64 up, .slice A4 un c4]) U
  s : BSl w w.heap.size (.slice Ae an ce) all
theorem RbI.on {W0 : World} {k1 k4 nl cf nb cb : Nat} {ur up : Int} {un c4 an ce : Nat} {Af Ab A4 Ae : Option Addr} {l : List Fld} {zs all : List Int} {U : Tb} {w w' : World} (h : RbI W0 k1 k4 nl cf nb cb ur up un c4 an ce Af Ab A4 Ae l zs all U w) (b : Below w.heap.size w w') : RbI W0 k1 k4 nl cf nb cb ur up un c4 an ce Af Ab A4 Ae l zs all U w' :=
  ⟨(b.block _ (lt_of_block h.f)).trans h.f, (b.block _ (lt_of_block h.h)).trans h.h, h.b.trans (b.mono h.b.size), h.r.on b, bsl_onF h.z b, h.v.on b, bsl_onF h.s b⟩
theorem RbI.put {W0 : World} {k1 k4 nl cf nb cb : Nat} {ur up : Int} {un c4 an ce : Nat} {Af Ab A4 Ae : Option Addr} {l : List Fld} {zs all : List Int} {U : Tb} {w w' : World} {k : Nat} {cs : Array Value} {T : TypeId} (h : RbI W0 k1 k4 nl cf nb cb ur up un c4 an ce Af Ab A4 Ae l zs all U w) (hk : w.heap[k]? = some (.cells cs T (0, 0))) (hi : ∀ (j : Nat) (u : Value), cs[j]? = some u → Plain u) (g : w.grownBy w' (some k)) (hW : W0.heap.size ≤ k) (hk1 : k1 ≠ k) (hk4 : k4 ≠ k) : RbI W0 k1 k4 nl cf nb cb ur up un c4 an ce Af Ab A4 Ae l zs all U w' :=
  ⟨(g.block _ (lt_of_block h.f) (fun e => hk1 (by injection e))).trans h.f, (g.block _ (lt_of_block h.h) (fun e => hk4 (by injection e))).trans h.h, gr_from h.b h.b.size hW g, (h.r.grX hk hi g).more g.size, (h.z.grX hk hi g).more g.size, (h.v.grX hk hi g).more g.size, (h.s.grX hk hi g).more g.size⟩
structure RbA (w0 : World) (ur up : Int) (A4 : Option Addr) (un c4 : Nat) (Ae : Option Addr) (an ce i : Nat) (x1r : Rd) (V0 V1 V2 V3 V4 V8 V11 : Value) (sb0 sb1 sb2 sb3 sb4 sb5 sb6 sb7 sb8 sb9 sb10 sb11 : Bool) (sx0 sx1 sx2 sx3 sx4 sx5 sx6 sx7 sx8 sx9 sx10 sx11 : Value) (w : World) : Prop where
  be : sb10 = false → Below w0.heap.size w0 w
  d4 : sb4 = true → sb2 = true ∧ sb3 = true
  d5 : sb5 = true → sb0 = true ∧ sb1 = true ∧ sb4 = true
  d6 : sb6 = true → sb5 = true
  d7 : sb7 = true → sb6 = true
  d8 : sb8 = true → sb6 = true
  d10 : sb10 = true → sb0 = true ∧ sb1 = true ∧ sb2 = true ∧ sb3 = true ∧ sb4 = true ∧ sb5 = true ∧ sb6 = true ∧ sb7 = true ∧ sb9 = true
  d11 : sb11 = true → sb0 = true ∧ sb1 = true ∧ sb2 = true ∧ sb3 = true ∧ sb4 = true ∧ sb5 = true ∧ sb6 = true ∧ sb7 = true ∧ sb8 = true ∧ sb9 = true ∧ sb10 = true
  t4 : sb5 = true → ∃ u, sx5 = .tuple #[u, .int .i64 0]
  t5 : sb6 = true → ∃ u, sx6 = .tuple #[u, .int .i64 0]
  h0 : sb0 = true → sx0 = V0
  h1 : sb1 = true → sx1 = V1
  h2 : sb2 = true → sx2 = V2
  h3 : sb3 = true → sx3 = V3
  h4 : sb4 = true → sx4 = V4
  h5 : sb5 = true → sb10 = false → ∃ u, sx5 = .tuple #[u, .int .i64 0] ∧ RdVal w u x1r
  h6 : sb6 = true → sb10 = false → ∃ u, sx6 = .tuple #[u, .int .i64 0] ∧ RdVal w u x1r
  h7 : sb7 = true → sb10 = false → RdVal w sx7 x1r
  h8 : sb8 = true → sx8 = V8
  h9 : sb9 = true → sb10 = false → ∃ q, sx9 = .pointer (some ⟨q, 0, none⟩) ∧ w0.heap.size ≤ q ∧ w.heap[q]? = some (.cells #[.slice none 0 0, .slice none 0 0, .bool false, .slice none 0 0, .bool false] 40 (0, 0))
  h10 : sb10 = true → ∃ q Bh cBh Bf cBf Bb cBb, sx9 = .pointer (some ⟨q, 0, none⟩) ∧ w0.heap.size ≤ q ∧ w.heap[q]? = some (.cells #[.slice Bh x1r.held.length cBh, .slice Bf x1r.flds.length cBf, .bool x1r.begun, .slice Bb x1r.body.length cBb, .bool x1r.ended] 40 (0, 0)) ∧ RdVal w (.agg #[.slice Bh x1r.held.length cBh, .slice Bf x1r.flds.length cBf, .bool x1r.begun, .slice Bb x1r.body.length cBb, .bool x1r.ended]) x1r ∧ Below w0.heap.size w0 w
  h11 : sb11 = true → sx11 = V11
structure RbB (w0 : World) (W0 : World) (k1 k4 nl cf nb cb : Nat) (ur up : Int) (un c4 an ce : Nat) (Af Ab A4 Ae : Option Addr) (l : List Fld) (zs all : List Int) (U : Tb) (kq : Nat) (Bh Bf Bb : Option Addr) (cBh cBf cBb : Nat) (x1r x2r : Rd) (i j m : Nat) (SA : Option Addr) (V0 V1 V2 V3 V4 V5 V9 V11 : Value) (tb0 tb1 tb2 tb3 tb4 tb5 tb6 tb7 tb8 tb9 tb10 tb11 : Bool) (tx0 tx1 tx2 tx3 tx4 tx5 tx6 tx7 tx8 tx9 tx10 tx11 : Value) (w : World) : Prop where
  be : tb10 = false → Below w0.heap.size w0 w
  d5 : tb5 = true → tb2 = true ∧ tb3 = true ∧ tb4 = true
  d6 : tb6 = true → tb0 = true ∧ tb1 = true ∧ tb5 = true
  d7 : tb7 = true → tb6 = true
  d8 : tb8 = true → tb7 = true
  d9 : tb9 = true → tb7 = true
  d10 : tb10 = true → tb0 = true ∧ tb1 = true ∧ tb2 = true ∧ tb3 = true ∧ tb4 = true ∧ tb5 = true ∧ tb6 = true ∧ tb7 = true ∧ tb8 = true
  d11 : tb11 = true → tb0 = true ∧ tb1 = true ∧ tb2 = true ∧ tb3 = true ∧ tb4 = true ∧ tb5 = true ∧ tb6 = true ∧ tb7 = true ∧ tb8 = true ∧ tb9 = true ∧ tb10 = true
  t4 : tb6 = true → ∃ u, tx6 = .tuple #[u, .int .i64 0]
  t5 : tb7 = true → ∃ u, tx7 = .tuple #[u, .int .i64 0]
  h0 : tb0 = true → tx0 = V0
  h1 : tb1 = true → tx1 = V1
  h2 : tb2 = true → tx2 = V2
  h3 : tb3 = true → tx3 = V3
  h4 : tb4 = true → tx4 = V4
  h5 : tb5 = true → tx5 = V5
  h6 : tb6 = true → tb10 = false → ∃ u, tx6 = .tuple #[u, .int .i64 0] ∧ RdVal w u x2r
  h7 : tb7 = true → tb10 = false → ∃ u, tx7 = .tuple #[u, .int .i64 0] ∧ RdVal w u x2r
  h8 : tb8 = true → tb10 = false → RdVal w tx8 x2r
  h9 : tb9 = true → tx9 = V9
  h10 : tb10 = true → ∃ Ch cCh Cf cCf Cb cCb, w.heap[kq]? = some (.cells #[.slice Ch x2r.held.length cCh, .slice Cf x2r.flds.length cCf, .bool x2r.begun, .slice Cb x2r.body.length cCb, .bool x2r.ended] 40 (0, 0)) ∧ RdVal w (.agg #[.slice Ch x2r.held.length cCh, .slice Cf x2r.flds.length cCf, .bool x2r.begun, .slice Cb x2r.body.length cCb, .bool x2r.ended]) x2r ∧ RbI W0 k1 k4 nl cf nb cb ur up un c4 an ce Af Ab A4 Ae l zs all U w
  h11 : tb11 = true → tx11 = V11
structure RbC (w0 : World) (W0 : World) (k1 k4 nl cf nb cb : Nat) (ur up : Int) (un c4 an ce : Nat) (Af Ab A4 Ae : Option Addr) (l : List Fld) (zs all : List Int) (U : Tb) (kq : Nat) (Ch Cf Cb : Option Addr) (cCh cCf cCb : Nat) (x2r x3r : Rd) (j m2 : Nat) (SB : Option Addr) (V0 V1 V2 V3 V4 V8 V10 : Value) (ub0 ub1 ub2 ub3 ub4 ub5 ub6 ub7 ub8 ub9 ub10 : Bool) (ux0 ux1 ux2 ux3 ux4 ux5 ux6 ux7 ux8 ux9 ux10 : Value) (w : World) : Prop where
  be : ub9 = false → Below w0.heap.size w0 w
  d4 : ub4 = true → ub2 = true ∧ ub3 = true
  d5 : ub5 = true → ub0 = true ∧ ub1 = true ∧ ub4 = true
  d6 : ub6 = true → ub5 = true
  d7 : ub7 = true → ub6 = true
  d8 : ub8 = true → ub6 = true
  d9 : ub9 = true → ub0 = true ∧ ub1 = true ∧ ub2 = true ∧ ub3 = true ∧ ub4 = true ∧ ub5 = true ∧ ub6 = true ∧ ub7 = true
  d10 : ub10 = true → ub0 = true ∧ ub1 = true ∧ ub2 = true ∧ ub3 = true ∧ ub4 = true ∧ ub5 = true ∧ ub6 = true ∧ ub7 = true ∧ ub8 = true ∧ ub9 = true
  t4 : ub5 = true → ∃ u, ux5 = .tuple #[u, .int .i64 0]
  t5 : ub6 = true → ∃ u, ux6 = .tuple #[u, .int .i64 0]
  h0 : ub0 = true → ux0 = V0
  h1 : ub1 = true → ux1 = V1
  h2 : ub2 = true → ux2 = V2
  h3 : ub3 = true → ux3 = V3
  h4 : ub4 = true → ux4 = V4
  h5 : ub5 = true → ub9 = false → ∃ u, ux5 = .tuple #[u, .int .i64 0] ∧ RdVal w u x3r
  h6 : ub6 = true → ub9 = false → ∃ u, ux6 = .tuple #[u, .int .i64 0] ∧ RdVal w u x3r
  h7 : ub7 = true → ub9 = false → RdVal w ux7 x3r
  h8 : ub8 = true → ux8 = V8
  h9 : ub9 = true → ∃ Dh cDh Df cDf Db cDb, w.heap[kq]? = some (.cells #[.slice Dh x3r.held.length cDh, .slice Df x3r.flds.length cDf, .bool x3r.begun, .slice Db x3r.body.length cDb, .bool x3r.ended] 40 (0, 0)) ∧ RdVal w (.agg #[.slice Dh x3r.held.length cDh, .slice Df x3r.flds.length cDf, .bool x3r.begun, .slice Db x3r.body.length cDb, .bool x3r.ended]) x3r ∧ RbI W0 k1 k4 nl cf nb cb ur up un c4 an ce Af Ab A4 Ae l zs all U w
  h10 : ub10 = true → ux10 = V10
set_option maxRecDepth 100000 in
set_option maxHeartbeats 8000000 in
theorem requestBack_walk (A : Option Addr) (n c : Nat) (rs : List RawT) (s : ByteArray) (k a5 b5 : Int) (W : World) (T : Tab W) (hrow : RawRow W W.heap.size A rs) (hn : rs.length = n) (hnc : n ≤ c) (hc : c ≤ maxLen) (hbt : ∀ i, i < n → (rs.getD i raw0).text.size ≤ maxLen) (hs : s.size ≤ maxLen) :
    Calls Tryd.prog 4 #[.slice A n c, .string s, .int .i64 k, .int .i64 a5, .int .i64 b5] W fun e w' => e = .returned (.bool true) ∧ Below W.heap.size W w' := by
  have HRO := Lib.hid (requestOf_any A n c rs s k W hrow hn hnc hc hbt hs)
  have HTL := Lib.hid (fun w => requestTells_any w)
  have HT := Lib.hid T
  have hlw : ∀ f ∈ rqFs s rs, FdWf f := fun f hf => (rqFs_ok hf).2.1
  have hl0 := rqFs_faultFl s rs
  have hl7 : (rqFs s rs).length ≤ 7 := by rw [rqFs_len]; omega
  have hWR := fun (body : List Int) (hb : body.length ≤ 200) => rqOf_wr (t := tbH) (s := s) (rs := rs) (body := body) (ahead := true) tbH_ok hb
  have hWT := fun (body : List Int) (hb : body.length ≤ 200) (i j : Nat) (hij : i ≤ j) (hj : j ≤ (reqT (secR true tbH (rqFs s rs)) body).length) => rqBack_core (t := tbH) (s := s) (rs := rs) (body := body) (ahead := true) tbH_ok hb i j hij hj
  have hHE := encFl_heard (ahead := true) tbH_ok hl0
  have hTB := tell_byt (ahead := true) (t := tbH) (rqFs s rs) hlw ((faultFl_iff _).1 hl0).2
  have hTLn := rq_tell_len (ahead := true) (t := tbH) hl0 hlw
  have hUW : TbWf (encAll true tbH (rqFs s rs)).t := by have := appAll_wf tbH_wf hTB (by omega); rwa [hHE] at this
  have hSL := (secR_of (t := tbH) (s := s) (rs := rs) (ahead := true) tbH_ok).1
  change ∀ (body : List Int), body.length ≤ 200 → wrRq tbH (rqFs s rs) body true = ((encAll true tbH (rqFs s rs)).t, (encAll true tbH (rqFs s rs)).tell, reqT (secR true tbH (rqFs s rs)) body, 0) at hWR
  obtain ⟨sec, hsec⟩ : ∃ x, secR true tbH (rqFs s rs) = x := ⟨_, rfl⟩
  obtain ⟨U, hU⟩ : ∃ x, (encAll true tbH (rqFs s rs)).t = x := ⟨_, rfl⟩
  obtain ⟨tell, htell⟩ : ∃ x, (encAll true tbH (rqFs s rs)).tell = x := ⟨_, rfl⟩
  rw [hsec, hU] at hWT
  rw [hsec, hU, htell] at hWR
  rw [hsec] at hSL
  rw [hU] at hUW
  obtain ⟨l, hl⟩ : ∃ l, rqFs s rs = l := ⟨_, rfl⟩
  rw [hl] at HRO hlw hWR hWT hl7
  obtain ⟨nl, hnl⟩ : ∃ x, l.length = x := ⟨_, rfl⟩
  rw [hnl] at HRO hl7
  have HNL := Lib.hid hnl
  have HN8 := Lib.hid (show nl ≤ 8796093022208 by omega)
  have HLW := Lib.hid hlw
  have HUW := Lib.hid hUW
  have HWR := Lib.hid hWR
  have HWT := Lib.hid hWT
  have HSL := Lib.hid hSL
  have HN7 := Lib.hid hl7
  clear hlw hl0 hl7 hWR hWT hHE hTB hTLn hUW hSL hsec hU htell hl hnl hrow hn hnc hc hbt hs T
  go_enter Tryd.func4, Tryd.ntmps4
  go_wp2_with fail
  refine (HRO.out).mono ?_
  rintro e w1 ⟨b1, Af, cf, zs, Ab, cb, rfl, hF, hzl, hZ⟩
  have HZL := Lib.hid (show zs.length ≤ 200 by omega)
  obtain ⟨nb, hnb⟩ : ∃ x, zs.length = x := ⟨_, rfl⟩
  rw [hnb] at hZ ⊢
  have HZB := Lib.hid hnb
  have X1 := (Below.refl w1.heap.size w1).alloc (Nat.le_refl _) (.cells #[.slice Af nl cf, .slice Ab nb cb] 27)
  have F1 := heap_alloc_new w1 (.cells #[.slice Af nl cf, .slice Ab nb cb] 27)
  have BB := b1.trans (X1.mono b1.size)
  have FF := hF.on X1
  have ZZ := bsl_onF hZ X1
  obtain ⟨k1, hk1⟩ : ∃ k, w1.heap.size = k := ⟨_, rfl⟩
  rw [hk1] at F1
  clear b1 hF hZ hzl hnb
  go_upto_region 2 with fail
  obtain ⟨w2, hw2⟩ : ∃ w9, w1.alloc (.cells #[.slice Af nl cf, .slice Ab nb cb] 27) = w9 := ⟨_, rfl⟩
  rw [hw2] at X1 F1 BB FF ZZ ⊢
  have X2 := (Below.refl w2.heap.size w2).alloc (Nat.le_refl _) (.cells #[.int .i64 100, .int .i64 0, .slice none 0 0] 24)
  have G1 := heap_alloc_new w2 (.cells #[.int .i64 100, .int .i64 0, .slice none 0 0] 24)
  have B3 := Lib.hid (BB.trans (X2.mono BB.size))
  have R3 := Lib.hid (FF.on X2)
  have Z3 := Lib.hid (bsl_onF ZZ X2)
  have F3 := Lib.hid ((X2.block _ (lt_of_block F1)).trans F1)
  obtain ⟨k2, hk2⟩ : ∃ k, w2.heap.size = k := ⟨_, rfl⟩
  rw [hk2] at G1
  clear hw2 hk1 BB FF ZZ F1 X1
  go_upto_region 3 with fail
  obtain ⟨w3, hw3⟩ : ∃ w9, w2.alloc (.cells #[.int .i64 100, .int .i64 0, .slice none 0 0] 24) = w9 := ⟨_, rfl⟩
  rw [hw3] at X2 G1 B3 R3 Z3 F3 ⊢
  have G3 := Lib.hid G1
  clear hw3 hk2 G1 X2
  obtain ⟨A', c', e', l1, l2, hr3⟩ := R3.out.ex
  injection e' with e1 e2 e3
  subst e1 e3
  rw [HNL.out] at l1
  have HE := Lib.hid (rqwr_any _ tbH Af nl cf l Ab nb cb zs true w3 (HT.out.below B3.out) (tbH_val w3 w3.heap.size) tbH_wf hr3 HNL.out l1 l2 HLW.out HN8.out Z3.out)
  rw [HWR.out zs HZL.out] at HE
  dsimp only at HE
  have HF1 := Lib.hid (HWT.out zs HZL.out)
  have HDN := Lib.hid (fun t => rqDone_core (t := t) (l := l) (body := zs) HZL.out)
  clear HWR HWT l1 l2 hr3 e2
  obtain ⟨all, hall⟩ : ∃ x, reqT sec zs = x := ⟨_, rfl⟩
  have hAL := all_len (sec := sec) (body := zs) HSL.out HZL.out
  rw [hall] at HE HF1 hAL
  have HAL := Lib.hid hAL
  clear hAL hall
  obtain ⟨q0, q1, q2⟩ := bk3T G3.out
  obtain ⟨u0, u1⟩ := bk2F F3.out
  go_wp2_with fail
  refine (HE.out).mono ?_
  clear q0 q1 q2 u0 u1
  rintro e w4 ⟨b4, v4, d1, d2, rfl, hv4, hd1, hd2⟩
  obtain ⟨s4, rfl, hs4⟩ := hv4.ex
  obtain ⟨A4, c4, rfl, _, _, ru4⟩ := hs4.ex
  obtain ⟨Ad, cd, rfl, _, _, _, _⟩ := id hd1
  obtain ⟨Ae, ce, rfl, _, _, _, _⟩ := id hd2
  obtain ⟨ur, hur⟩ : ∃ x, U.room = x := ⟨_, rfl⟩
  obtain ⟨up, hup⟩ : ∃ x, U.put = x := ⟨_, rfl⟩
  obtain ⟨un, hun⟩ : ∃ x, U.rows.length = x := ⟨_, rfl⟩
  obtain ⟨tn, htn⟩ : ∃ x, tell.length = x := ⟨_, rfl⟩
  obtain ⟨an, han⟩ : ∃ x, all.length = x := ⟨_, rfl⟩
  rw [htn] at hd1 ⊢
  rw [han] at hd2 ⊢
  rw [hur, hup, hun] at hv4 ⊢
  have HUp := Lib.hid hup
  have X4 := (Below.refl w4.heap.size w4).alloc (Nat.le_refl _) (.cells #[.int .i64 ur, .int .i64 up, .slice A4 un c4] 24)
  have HH := heap_alloc_new w4 (.cells #[.int .i64 ur, .int .i64 up, .slice A4 un c4] 24)
  have bb := b4.trans (X4.mono b4.size)
  have F5 := Lib.hid ((bb.block _ (lt_of_block F3.out)).trans F3.out)
  have G5 := Lib.hid ((bb.block _ (lt_of_block G3.out)).trans G3.out)
  have B5 := Lib.hid (B3.out.trans (bb.mono B3.out.size))
  have R5 := Lib.hid (R3.out.on bb)
  have Z5 := Lib.hid (bsl_onF Z3.out bb)
  have V5 := Lib.hid (hv4.on X4)
  have S5 := Lib.hid (bsl_onF hd2 X4)
  obtain ⟨k4, hk4⟩ : ∃ k, w4.heap.size = k := ⟨_, rfl⟩
  rw [hk4] at HH
  have HAN := Lib.hid han
  have HAL2 := Lib.hid (show an ≤ 367 by have := HAL.out; omega)
  clear b4 bb hv4 hs4 hd1 hd2 ru4 X4 hur hup hun htn han HE
  go_upto_region 4 with fail
  obtain ⟨w5, hw5⟩ : ∃ w9, w4.alloc (.cells #[.int .i64 ur, .int .i64 up, .slice A4 un c4] 24) = w9 := ⟨_, rfl⟩
  rw [hw5] at HH F5 G5 B5 R5 Z5 V5 S5 ⊢
  have H5 := Lib.hid HH
  clear hw5 hk4 HH F3 G3 B3 R3 Z3
  obtain ⟨i, hi⟩ : ∃ k : Nat, a5 % ((an : Int) + 1) = k := ⟨(a5 % ((an : Int) + 1)).toNat, by have := Int.emod_nonneg a5 (show ((an : Int) + 1) ≠ 0 by omega); omega⟩
  have hia : i ≤ an := by have := Int.emod_lt_of_pos a5 (show (0 : Int) < (an : Int) + 1 by omega); omega
  have HP1 := Lib.hid (fun w => hi ▸ picked_any a5 ((an : Int) + 1) (by omega) (by have := HAL2.out; omega) w)
  obtain ⟨m, hm⟩ : ∃ k : Nat, b5 % ((an : Int) - (i : Int) + 1) = k := ⟨(b5 % ((an : Int) - (i : Int) + 1)).toNat, by have := Int.emod_nonneg b5 (show ((an : Int) - (i : Int) + 1) ≠ 0 by omega); omega⟩
  have hma : i + m ≤ an := by have := Int.emod_lt_of_pos b5 (show (0 : Int) < (an : Int) - (i : Int) + 1 by omega); omega
  have HP2 := Lib.hid (fun w => hm ▸ picked_any b5 ((an : Int) - (i : Int) + 1) (by omega) (by have := HAL2.out; omega) w)
  clear hi hm
  obtain ⟨x1r, x2r, hx1, hx2, hx3⟩ := HF1.out i (i + m) (by omega) (by rw [HAN.out]; exact hma)
  rw [show i + m - i = m by omega] at hx2
  obtain ⟨j, hj⟩ : ∃ j, i + m = j := ⟨_, rfl⟩
  rw [hj] at hx3 hma
  have hf1 : x1r.flds.length ≤ 8 := by have := feedR_flds (t := U) (r := rd0) (b := all.take i) (fin := false) (by simp [rd0]); rw [hx1] at this; exact this
  have hf2 : x2r.flds.length ≤ 8 := by have := feedR_flds (t := U) (r := x1r) (b := (all.drop i).take m) (fin := false) hf1; rw [hx2] at this; exact this
  have HX1 := Lib.hid hx1
  have HX2 := Lib.hid hx2
  have HX3 := Lib.hid hx3
  have HFL1 := Lib.hid hf1
  have HFL2 := Lib.hid hf2
  have hce : an ≤ ce := by
    obtain ⟨_, _, e0, hcd0, _, _, _⟩ := S5.out.ex
    injection e0 with e1 e2 e3
    rw [HAN.out] at hcd0
    omega
  have HI1 := Lib.hid (show (0 : Int) ≤ (i : Int) ∧ (i : Int) ≤ (ce : Int) ∧ (i : Int) ≤ (an : Int) by omega)
  obtain ⟨m2, hm2⟩ : ∃ q, an - j = q := ⟨_, rfl⟩
  have HM2 := Lib.hid hm2
  have HJ := Lib.hid hj
  have hwj : IntKind.i64.wrap ((i : Int) + (m : Int)) = (j : Int) := by rw [IntKind.wrap_i64]; have := HAL2.out; omega
  have hw1 : IntKind.i64.wrap ((an : Int) + 1) = (an : Int) + 1 := by rw [IntKind.wrap_i64]; have := HAL2.out; omega
  have hw2 : IntKind.i64.wrap ((an : Int) - (i : Int)) = (an : Int) - (i : Int) := by rw [IntKind.wrap_i64]; have := HAL2.out; omega
  have hw3 : IntKind.i64.wrap ((an : Int) - (i : Int) + 1) = (an : Int) - (i : Int) + 1 := by rw [IntKind.wrap_i64]; have := HAL2.out; omega
  have HCE := Lib.hid hce
  have HIJ := Lib.hid (show i ≤ j by omega)
  have HJA := Lib.hid hma
  have HA1 := Lib.hid (fun w (hb : Below w5.heap.size w5 w) => feed_any none none none Ae 0 0 0 0 0 0 i ce false rd0 (all.take i) _ U w (bslN0 _ _) (fsl_nil _ _) (bslN0 _ _) (bsl_onF (bsl_takeR S5.out i (by rw [HAN.out]; exact hia)) hb) (V5.out.on hb) HUW.out (by decide))
  rw [HX1.out] at HA1
  dsimp only [rd0] at HA1
  clear hx1 hx2 hx3 hf1 hf2 hce hm2 hj hma hia HF1
  go_upto_region 5 with (go_at_call 13; refine (HP1.out _).mono ?_; rintro e w' ⟨rfl, rfl⟩)
  go_upto_region 6 with (go_at_call 13; refine (HP2.out _).mono ?_; rintro e w' ⟨rfl, rfl⟩)
  clear hwj hw1 hw2 hw3
  refine wp_region_inv (fun lis_ act_ wld_ => ∃ (sb0 sb1 sb2 sb3 sb4 sb5 sb6 sb7 sb8 sb9 sb10 sb11 : Bool) (sx0 sx1 sx2 sx3 sx4 sx5 sx6 sx7 sx8 sx9 sx10 sx11 : Value), lis_ = #[sb0, sb1, sb2, sb3, sb4, sb5, sb6, sb7, sb8, sb9, sb10, sb11] ∧ act_ = { tmps := #[Value.slice A n c, Value.string s, Value.int IntKind.i64 k, Value.int IntKind.i64 a5, Value.int IntKind.i64 b5, undef, undef, undef, undef, undef, Value.bool false, Value.pointer (some { block := k1, off := 0 }), Value.pointer (some { block := k2, off := 0 }), Value.pointer (some { block := k4, off := 0 }), Value.slice Ad tn cd, Value.slice Ae an ce, Value.int IntKind.i64 0, Value.int IntKind.i64 ↑i, Value.int IntKind.i64 ↑j, sx9, sx11, undef, undef, undef, undef, Value.slice A n c, Value.string s, Value.int IntKind.i64 k, Value.agg #[Value.slice Af nl cf, Value.slice Ab nb cb], Value.agg #[Value.int IntKind.i64 100, Value.int IntKind.i64 0, Value.slice none 0 0], Value.tuple #[Value.agg #[Value.int IntKind.i64 ur, Value.int IntKind.i64 up, Value.slice A4 un c4], Value.slice Ad tn cd, Value.slice Ae an ce, Value.int IntKind.i64 0], Value.agg #[Value.int IntKind.i64 100, Value.int IntKind.i64 0, Value.slice none 0 0], Value.agg #[Value.slice Af nl cf, Value.slice Ab nb cb], Value.tuple #[Value.agg #[Value.int IntKind.i64 ur, Value.int IntKind.i64 up, Value.slice A4 un c4], Value.slice Ad tn cd, Value.slice Ae an ce, Value.int IntKind.i64 0], Value.agg #[Value.int IntKind.i64 ur, Value.int IntKind.i64 up, Value.slice A4 un c4], Value.slice Ad tn cd, Value.slice Ae an ce, Value.int IntKind.i64 0, Value.int IntKind.i64 a5, Value.slice Ae an ce, Value.int IntKind.i64 ↑an, Value.int IntKind.i64 (↑an + 1), Value.int IntKind.i64 ↑i, Value.int IntKind.i64 ↑i, Value.int IntKind.i64 b5, Value.slice Ae an ce, Value.int IntKind.i64 ↑an, Value.int IntKind.i64 ↑i, Value.int IntKind.i64 (↑an - ↑i), Value.int IntKind.i64 (↑an - ↑i + 1), Value.int IntKind.i64 ↑m, Value.int IntKind.i64 ↑j, sx6, sx0, sx1, sx2, sx3, sx4, sx5, sx7, sx8, undef, undef, undef, undef, undef, undef, undef, undef, undef, undef, undef, undef, undef, undef, undef, undef, undef, undef, undef, undef, undef, undef, undef, undef, undef, undef, undef, undef, undef, undef, undef, undef, undef, undef, undef, undef, undef, undef, undef, undef, undef, undef, undef, undef, undef, undef, undef, undef, undef, undef, undef, undef, undef, undef, undef, undef, undef, undef, undef, undef, undef, undef, undef, undef, undef, undef], defers := [] } ∧ RbA w5 ur up A4 un c4 Ae an ce i x1r (.agg #[.slice none 0 0, .slice none 0 0, .bool false, .slice none 0 0, .bool false]) (.agg #[.int .i64 ur, .int .i64 up, .slice A4 un c4]) (.slice Ae an ce) (.int .i64 (i : Int)) (.slice Ae i ce) (.int .i64 0) (.int .i64 0) sb0 sb1 sb2 sb3 sb4 sb5 sb6 sb7 sb8 sb9 sb10 sb11 sx0 sx1 sx2 sx3 sx4 sx5 sx6 sx7 sx8 sx9 sx10 sx11 wld_) (by kernel_rfl) ?h0 ?hfin ?hI
  case h0 => exact ⟨_, _, _, _, _, _, _, _, _, _, _, _, _, _, _, _, _, _, _, _, _, _, undef, _, rfl, rfl, ⟨(fun _ => (Below.refl _ _).drew), (fun h => by cases h), (fun h => by cases h), (fun h => by cases h), (fun h => by cases h), (fun h => by cases h), (fun h => by cases h), (fun h => by cases h), (fun h => by cases h), (fun h => by cases h), (fun h => by cases h), (fun h => by cases h), (fun h => by cases h), (fun h => by cases h), (fun h => by cases h), (fun h => by cases h), (fun h => by cases h), (fun h => by cases h), (fun h => by cases h), (fun h => by cases h), (fun h => by cases h), (fun h => by cases h)⟩⟩
  case hI =>
    rintro listed a w ⟨sb0, sb1, sb2, sb3, sb4, sb5, sb6, sb7, sb8, sb9, sb10, sb11, sx0, sx1, sx2, sx3, sx4, sx5, sx6, sx7, sx8, sx9, sx10, sx11, rfl, rfl, H⟩ i hi
    obtain ⟨hun, oj, hoj, hall⟩ := mem_ready.1 hi
    clear hi
    rcases i with _ | _ | _ | _ | _ | _ | _ | _ | _ | _ | _ | _ | i
    · have ho := hoj
      simp only [List.getElem?_toArray, List.getElem?_cons_zero, Option.some.injEq] at hoj
      subst hoj
      obtain rfl : sb0 = false := hun
      clear hall
      obtain rfl : sb5 = false := Bool.eq_false_iff.2 fun h => Bool.false_ne_true (H.d5 h).1
      obtain rfl : sb6 = false := Bool.eq_false_iff.2 fun h => Bool.false_ne_true (H.d6 h)
      obtain rfl : sb7 = false := Bool.eq_false_iff.2 fun h => Bool.false_ne_true (H.d7 h)
      obtain rfl : sb8 = false := Bool.eq_false_iff.2 fun h => Bool.false_ne_true (H.d8 h)
      obtain rfl : sb10 = false := Bool.eq_false_iff.2 fun h => Bool.false_ne_true (H.d10 h).1
      obtain rfl : sb11 = false := Bool.eq_false_iff.2 fun h => Bool.false_ne_true (H.d11 h).1
      have hbe := H.be rfl
      have hx_t4 := H.t4
      have hx_t5 := H.t5
      refine wpOp_step ho (fun K' hK => ?_)
      have HK := Lib.hid hK
      clear hK ho
      go_simp
      exact HK.out _ _ ⟨_, _, _, _, _, _, _, _, _, _, _, _, _, _, _, _, _, _, _, _, _, _, sx10, _, rfl, rfl, ⟨(fun _ => hbe), H.d4, (fun h => by cases h), H.d6, H.d7, H.d8, (fun h => by cases h), (fun h => by cases h), H.t4, H.t5, (fun _ => rfl), H.h1, H.h2, H.h3, H.h4, (fun h => by cases h), (fun h => by cases h), (fun h => by cases h), H.h8, H.h9, (fun h => by cases h), H.h11⟩⟩
    · have ho := hoj
      simp only [List.getElem?_toArray, List.getElem?_cons_succ, List.getElem?_cons_zero, Option.some.injEq] at hoj
      subst hoj
      obtain rfl : sb1 = false := hun
      clear hall
      obtain rfl : sb5 = false := Bool.eq_false_iff.2 fun h => Bool.false_ne_true (H.d5 h).2.1
      obtain rfl : sb6 = false := Bool.eq_false_iff.2 fun h => Bool.false_ne_true (H.d6 h)
      obtain rfl : sb7 = false := Bool.eq_false_iff.2 fun h => Bool.false_ne_true (H.d7 h)
      obtain rfl : sb8 = false := Bool.eq_false_iff.2 fun h => Bool.false_ne_true (H.d8 h)
      obtain rfl : sb10 = false := Bool.eq_false_iff.2 fun h => Bool.false_ne_true (H.d10 h).2.1
      obtain rfl : sb11 = false := Bool.eq_false_iff.2 fun h => Bool.false_ne_true (H.d11 h).2.1
      have hbe := H.be rfl
      have hx_t4 := H.t4
      have hx_t5 := H.t5
      obtain ⟨q0, q1, q2⟩ := bk3T ((hbe.block _ (lt_of_block H5.out)).trans H5.out)
      refine wpOp_step ho (fun K' hK => ?_)
      have HK := Lib.hid hK
      clear hK ho
      go_simp
      exact HK.out _ _ ⟨_, _, _, _, _, _, _, _, _, _, _, _, _, _, _, _, _, _, _, _, _, _, sx10, _, rfl, rfl, ⟨(fun _ => hbe), H.d4, (fun h => by cases h), H.d6, H.d7, H.d8, (fun h => by cases h), (fun h => by cases h), H.t4, H.t5, H.h0, (fun _ => rfl), H.h2, H.h3, H.h4, (fun h => by cases h), (fun h => by cases h), (fun h => by cases h), H.h8, H.h9, (fun h => by cases h), H.h11⟩⟩
    · have ho := hoj
      simp only [List.getElem?_toArray, List.getElem?_cons_succ, List.getElem?_cons_zero, Option.some.injEq] at hoj
      subst hoj
      obtain rfl : sb2 = false := hun
      clear hall
      obtain rfl : sb4 = false := Bool.eq_false_iff.2 fun h => Bool.false_ne_true (H.d4 h).1
      obtain rfl : sb5 = false := Bool.eq_false_iff.2 fun h => Bool.false_ne_true (H.d5 h).2.2
      obtain rfl : sb6 = false := Bool.eq_false_iff.2 fun h => Bool.false_ne_true (H.d6 h)
      obtain rfl : sb7 = false := Bool.eq_false_iff.2 fun h => Bool.false_ne_true (H.d7 h)
      obtain rfl : sb8 = false := Bool.eq_false_iff.2 fun h => Bool.false_ne_true (H.d8 h)
      obtain rfl : sb10 = false := Bool.eq_false_iff.2 fun h => Bool.false_ne_true (H.d10 h).2.2.1
      obtain rfl : sb11 = false := Bool.eq_false_iff.2 fun h => Bool.false_ne_true (H.d11 h).2.2.1
      have hbe := H.be rfl
      have hx_t4 := H.t4
      have hx_t5 := H.t5
      refine wpOp_step ho (fun K' hK => ?_)
      have HK := Lib.hid hK
      clear hK ho
      go_simp
      exact HK.out _ _ ⟨_, _, _, _, _, _, _, _, _, _, _, _, _, _, _, _, _, _, _, _, _, _, sx10, _, rfl, rfl, ⟨(fun _ => hbe), (fun h => by cases h), H.d5, H.d6, H.d7, H.d8, (fun h => by cases h), (fun h => by cases h), H.t4, H.t5, H.h0, H.h1, (fun _ => rfl), H.h3, H.h4, (fun h => by cases h), (fun h => by cases h), (fun h => by cases h), H.h8, H.h9, (fun h => by cases h), H.h11⟩⟩
    · have ho := hoj
      simp only [List.getElem?_toArray, List.getElem?_cons_succ, List.getElem?_cons_zero, Option.some.injEq] at hoj
      subst hoj
      obtain rfl : sb3 = false := hun
      clear hall
      obtain rfl : sb4 = false := Bool.eq_false_iff.2 fun h => Bool.false_ne_true (H.d4 h).2
      obtain rfl : sb5 = false := Bool.eq_false_iff.2 fun h => Bool.false_ne_true (H.d5 h).2.2
      obtain rfl : sb6 = false := Bool.eq_false_iff.2 fun h => Bool.false_ne_true (H.d6 h)
      obtain rfl : sb7 = false := Bool.eq_false_iff.2 fun h => Bool.false_ne_true (H.d7 h)
      obtain rfl : sb8 = false := Bool.eq_false_iff.2 fun h => Bool.false_ne_true (H.d8 h)
      obtain rfl : sb10 = false := Bool.eq_false_iff.2 fun h => Bool.false_ne_true (H.d10 h).2.2.2.1
      obtain rfl : sb11 = false := Bool.eq_false_iff.2 fun h => Bool.false_ne_true (H.d11 h).2.2.2.1
      have hbe := H.be rfl
      have hx_t4 := H.t4
      have hx_t5 := H.t5
      refine wpOp_step ho (fun K' hK => ?_)
      have HK := Lib.hid hK
      clear hK ho
      go_simp
      exact HK.out _ _ ⟨_, _, _, _, _, _, _, _, _, _, _, _, _, _, _, _, _, _, _, _, _, _, sx10, _, rfl, rfl, ⟨(fun _ => hbe), (fun h => by cases h), H.d5, H.d6, H.d7, H.d8, (fun h => by cases h), (fun h => by cases h), H.t4, H.t5, H.h0, H.h1, H.h2, (fun _ => rfl), H.h4, (fun h => by cases h), (fun h => by cases h), (fun h => by cases h), H.h8, H.h9, (fun h => by cases h), H.h11⟩⟩
    · have ho := hoj
      simp only [List.getElem?_toArray, List.getElem?_cons_succ, List.getElem?_cons_zero, Option.some.injEq] at hoj
      subst hoj
      obtain rfl : sb4 = false := hun
      obtain rfl : sb2 = true := hall ⟨2, .data⟩ (by simp) (by kernel_rfl)
      obtain rfl : sb3 = true := hall ⟨3, .data⟩ (by simp) (by kernel_rfl)
      clear hall
      obtain rfl : sb5 = false := Bool.eq_false_iff.2 fun h => Bool.false_ne_true (H.d5 h).2.2
      obtain rfl : sb6 = false := Bool.eq_false_iff.2 fun h => Bool.false_ne_true (H.d6 h)
      obtain rfl : sb7 = false := Bool.eq_false_iff.2 fun h => Bool.false_ne_true (H.d7 h)
      obtain rfl : sb8 = false := Bool.eq_false_iff.2 fun h => Bool.false_ne_true (H.d8 h)
      obtain rfl : sb10 = false := Bool.eq_false_iff.2 fun h => Bool.false_ne_true (H.d10 h).2.2.2.2.1
      obtain rfl : sb11 = false := Bool.eq_false_iff.2 fun h => Bool.false_ne_true (H.d11 h).2.2.2.2.1
      have hbe := H.be rfl
      have hx_t4 := H.t4
      have hx_t5 := H.t5
      obtain rfl := H.h2 rfl
      obtain rfl := H.h3 rfl
      obtain ⟨hk0, hk1, hk2⟩ := HI1.out
      refine wpOp_step ho (fun K' hK => ?_)
      have HK := Lib.hid hK
      clear hK ho
      go_simp
      exact HK.out _ _ ⟨_, _, _, _, _, _, _, _, _, _, _, _, _, _, _, _, _, _, _, _, _, _, sx10, _, rfl, rfl, ⟨(fun _ => hbe), (fun _ => ⟨rfl, rfl⟩), (fun h => by cases h), H.d6, H.d7, H.d8, (fun h => by cases h), (fun h => by cases h), H.t4, H.t5, H.h0, H.h1, H.h2, H.h3, (fun _ => rfl), (fun h => by cases h), (fun h => by cases h), (fun h => by cases h), H.h8, H.h9, (fun h => by cases h), H.h11⟩⟩
    · have ho := hoj
      simp only [List.getElem?_toArray, List.getElem?_cons_succ, List.getElem?_cons_zero, Option.some.injEq] at hoj
      subst hoj
      obtain rfl : sb5 = false := hun
      obtain rfl : sb0 = true := hall ⟨0, .data⟩ (by simp) (by kernel_rfl)
      obtain rfl : sb1 = true := hall ⟨1, .data⟩ (by simp) (by kernel_rfl)
      obtain rfl : sb4 = true := hall ⟨4, .data⟩ (by simp) (by kernel_rfl)
      obtain rfl : sb2 = true := (H.d4 rfl).1
      obtain rfl : sb3 = true := (H.d4 rfl).2
      clear hall
      obtain rfl : sb6 = false := Bool.eq_false_iff.2 fun h => Bool.false_ne_true (H.d6 h)
      obtain rfl : sb7 = false := Bool.eq_false_iff.2 fun h => Bool.false_ne_true (H.d7 h)
      obtain rfl : sb8 = false := Bool.eq_false_iff.2 fun h => Bool.false_ne_true (H.d8 h)
      obtain rfl : sb10 = false := Bool.eq_false_iff.2 fun h => Bool.false_ne_true (H.d10 h).2.2.2.2.2.1
      obtain rfl : sb11 = false := Bool.eq_false_iff.2 fun h => Bool.false_ne_true (H.d11 h).2.2.2.2.2.1
      have hbe := H.be rfl
      have hx_t4 := H.t4
      have hx_t5 := H.t5
      obtain rfl := H.h0 rfl
      obtain rfl := H.h1 rfl
      obtain rfl := H.h2 rfl
      obtain rfl := H.h3 rfl
      obtain rfl := H.h4 rfl
      refine wpOp_step ho (fun K' hK => ?_)
      have HK := Lib.hid hK
      clear hK ho
      go_wp2_with fail
      refine (HA1.out _ hbe).mono ?_
      rintro e w9 ⟨sb9, v9, rfl, hv9⟩
      have BC := Lib.hid sb9
      have VC := Lib.hid hv9
      clear sb9 hv9
      go_wp2_with fail
      exact HK.out _ _ ⟨_, _, _, _, _, _, _, _, _, _, _, _, _, _, _, _, _, _, _, _, _, _, sx10, _, rfl, rfl, ⟨(fun _ => hbe.trans (BC.out.mono hbe.size)), H.d4, (fun _ => ⟨rfl, rfl, rfl⟩), (fun h => by cases h), H.d7, H.d8, (fun h => by cases h), (fun h => by cases h), fun _ => ⟨_, rfl⟩, hx_t5, H.h0, H.h1, H.h2, H.h3, H.h4, (fun _ _ => ⟨_, rfl, VC.out⟩), (fun h => by cases h), (fun h => by cases h), H.h8, (fun e f => let ⟨q, e1, e2, e3⟩ := (H.h9 e f); ⟨q, e1, e2, (BC.out.block _ (lt_of_block e3)).trans e3⟩), (fun h => by cases h), H.h11⟩⟩
    · have ho := hoj
      simp only [List.getElem?_toArray, List.getElem?_cons_succ, List.getElem?_cons_zero, Option.some.injEq] at hoj
      subst hoj
      obtain rfl : sb6 = false := hun
      obtain rfl : sb5 = true := hall ⟨5, .data⟩ (by simp) (by kernel_rfl)
      obtain rfl : sb0 = true := (H.d5 rfl).1
      obtain rfl : sb1 = true := (H.d5 rfl).2.1
      obtain rfl : sb4 = true := (H.d5 rfl).2.2
      obtain rfl : sb2 = true := (H.d4 rfl).1
      obtain rfl : sb3 = true := (H.d4 rfl).2
      clear hall
      obtain rfl : sb7 = false := Bool.eq_false_iff.2 fun h => Bool.false_ne_true (H.d7 h)
      obtain rfl : sb8 = false := Bool.eq_false_iff.2 fun h => Bool.false_ne_true (H.d8 h)
      obtain rfl : sb10 = false := Bool.eq_false_iff.2 fun h => Bool.false_ne_true (H.d10 h).2.2.2.2.2.2.1
      obtain rfl : sb11 = false := Bool.eq_false_iff.2 fun h => Bool.false_ne_true (H.d11 h).2.2.2.2.2.2.1
      have hbe := H.be rfl
      have hx_t4 := H.t4
      have hx_t5 := H.t5
      obtain rfl := H.h0 rfl
      obtain rfl := H.h1 rfl
      obtain rfl := H.h2 rfl
      obtain rfl := H.h3 rfl
      obtain rfl := H.h4 rfl
      have P5 := H.h5 rfl rfl
      have PT := Lib.hid P5
      have TT := Lib.hid (H.t4 rfl)
      clear P5
      refine wpOp_step ho (fun K' hK => ?_)
      have HK := Lib.hid hK
      clear hK ho
      go_simp
      exact HK.out _ _ ⟨_, _, _, _, _, _, _, _, _, _, _, _, _, _, _, _, _, _, _, _, _, _, sx10, _, rfl, rfl, ⟨(fun _ => hbe), H.d4, H.d5, (fun _ => rfl), (fun h => by cases h), (fun h => by cases h), (fun h => by cases h), (fun h => by cases h), H.t4, fun _ => TT.out, H.h0, H.h1, H.h2, H.h3, H.h4, H.h5, (fun _ _ => PT.out), (fun h => by cases h), H.h8, H.h9, (fun h => by cases h), H.h11⟩⟩
    · have ho := hoj
      simp only [List.getElem?_toArray, List.getElem?_cons_succ, List.getElem?_cons_zero, Option.some.injEq] at hoj
      subst hoj
      obtain rfl : sb7 = false := hun
      obtain rfl : sb6 = true := hall ⟨6, .data⟩ (by simp) (by kernel_rfl)
      obtain rfl : sb5 = true := (H.d6 rfl)
      obtain rfl : sb0 = true := (H.d5 rfl).1
      obtain rfl : sb1 = true := (H.d5 rfl).2.1
      obtain rfl : sb4 = true := (H.d5 rfl).2.2
      obtain rfl : sb2 = true := (H.d4 rfl).1
      obtain rfl : sb3 = true := (H.d4 rfl).2
      clear hall
      obtain rfl : sb10 = false := Bool.eq_false_iff.2 fun h => Bool.false_ne_true (H.d10 h).2.2.2.2.2.2.2.1
      obtain rfl : sb11 = false := Bool.eq_false_iff.2 fun h => Bool.false_ne_true (H.d11 h).2.2.2.2.2.2.2.1
      have hbe := H.be rfl
      have hx_t4 := H.t4
      have hx_t5 := H.t5
      obtain rfl := H.h0 rfl
      obtain rfl := H.h1 rfl
      obtain rfl := H.h2 rfl
      obtain rfl := H.h3 rfl
      obtain rfl := H.h4 rfl
      have P5 := H.h5 rfl rfl
      have P6 := H.h6 rfl rfl
      obtain ⟨u, rfl, hu⟩ := P6
      have HU := Lib.hid hu
      clear hu
      refine wpOp_step ho (fun K' hK => ?_)
      have HK := Lib.hid hK
      clear hK ho
      go_simp
      exact HK.out _ _ ⟨_, _, _, _, _, _, _, _, _, _, _, _, _, _, _, _, _, _, _, _, _, _, sx10, _, rfl, rfl, ⟨(fun _ => hbe), H.d4, H.d5, H.d6, (fun _ => rfl), H.d8, (fun h => by cases h), (fun h => by cases h), H.t4, H.t5, H.h0, H.h1, H.h2, H.h3, H.h4, H.h5, H.h6, (fun _ _ => HU.out), H.h8, H.h9, (fun h => by cases h), H.h11⟩⟩
    · have ho := hoj
      simp only [List.getElem?_toArray, List.getElem?_cons_succ, List.getElem?_cons_zero, Option.some.injEq] at hoj
      subst hoj
      obtain rfl : sb8 = false := hun
      obtain rfl : sb6 = true := hall ⟨6, .data⟩ (by simp) (by kernel_rfl)
      obtain rfl : sb5 = true := (H.d6 rfl)
      obtain rfl : sb0 = true := (H.d5 rfl).1
      obtain rfl : sb1 = true := (H.d5 rfl).2.1
      obtain rfl : sb4 = true := (H.d5 rfl).2.2
      obtain rfl : sb2 = true := (H.d4 rfl).1
      obtain rfl : sb3 = true := (H.d4 rfl).2
      clear hall
      obtain rfl : sb11 = false := Bool.eq_false_iff.2 fun h => Bool.false_ne_true (H.d11 h).2.2.2.2.2.2.2.2.1
      have hx_t4 := H.t4
      have hx_t5 := H.t5
      obtain rfl := H.h0 rfl
      obtain rfl := H.h1 rfl
      obtain rfl := H.h2 rfl
      obtain rfl := H.h3 rfl
      obtain rfl := H.h4 rfl
      obtain ⟨u, rfl⟩ := H.t5 rfl
      refine wpOp_step ho (fun K' hK => ?_)
      have HK := Lib.hid hK
      clear hK ho
      go_simp
      exact HK.out _ _ ⟨_, _, _, _, _, _, _, _, _, _, _, _, _, _, _, _, _, _, _, _, _, _, sx10, _, rfl, rfl, ⟨H.be, H.d4, H.d5, H.d6, H.d7, (fun _ => rfl), H.d10, (fun h => by cases h), H.t4, H.t5, H.h0, H.h1, H.h2, H.h3, H.h4, H.h5, H.h6, H.h7, (fun _ => rfl), H.h9, H.h10, H.h11⟩⟩
    · have ho := hoj
      simp only [List.getElem?_toArray, List.getElem?_cons_succ, List.getElem?_cons_zero, Option.some.injEq] at hoj
      subst hoj
      obtain rfl : sb9 = false := hun
      clear hall
      obtain rfl : sb10 = false := Bool.eq_false_iff.2 fun h => Bool.false_ne_true (H.d10 h).2.2.2.2.2.2.2.2
      obtain rfl : sb11 = false := Bool.eq_false_iff.2 fun h => Bool.false_ne_true (H.d11 h).2.2.2.2.2.2.2.2.2.1
      have hbe := H.be rfl
      have hx_t4 := H.t4
      have hx_t5 := H.t5
      have BA := Lib.hid ((Below.refl w.heap.size w).alloc (Nat.le_refl _) (.cells #[.slice none 0 0, .slice none 0 0, .bool false, .slice none 0 0, .bool false] 40))
      have NA := Lib.hid (heap_alloc_new w (.cells #[.slice none 0 0, .slice none 0 0, .bool false, .slice none 0 0, .bool false] 40))
      have hsz := hbe.size
      refine wpOp_step ho (fun K' hK => ?_)
      have HK := Lib.hid hK
      clear hK ho
      go_simp
      exact HK.out _ _ ⟨_, _, _, _, _, _, _, _, _, _, _, _, _, _, _, _, _, _, _, _, _, _, sx10, _, rfl, rfl, ⟨(fun _ => hbe.trans (BA.out.mono hbe.size)), H.d4, H.d5, H.d6, H.d7, H.d8, (fun h => by cases h), (fun h => by cases h), hx_t4, hx_t5, H.h0, H.h1, H.h2, H.h3, H.h4, (fun e f => let ⟨u, e1, e2⟩ := (H.h5 e f); ⟨u, e1, e2.on BA.out⟩), (fun e f => let ⟨u, e1, e2⟩ := (H.h6 e f); ⟨u, e1, e2.on BA.out⟩), (fun e f => (H.h7 e f).on BA.out), H.h8, (fun _ _ => ⟨_, rfl, hsz, NA.out⟩), (fun h => by cases h), H.h11⟩⟩
    · have ho := hoj
      simp only [List.getElem?_toArray, List.getElem?_cons_succ, List.getElem?_cons_zero, Option.some.injEq] at hoj
      subst hoj
      obtain rfl : sb10 = false := hun
      obtain rfl : sb0 = true := hall ⟨0, .phase⟩ (by simp) (by kernel_rfl)
      obtain rfl : sb1 = true := hall ⟨1, .phase⟩ (by simp) (by kernel_rfl)
      obtain rfl : sb2 = true := hall ⟨2, .phase⟩ (by simp) (by kernel_rfl)
      obtain rfl : sb3 = true := hall ⟨3, .phase⟩ (by simp) (by kernel_rfl)
      obtain rfl : sb4 = true := hall ⟨4, .phase⟩ (by simp) (by kernel_rfl)
      obtain rfl : sb5 = true := hall ⟨5, .chain⟩ (by simp) (by kernel_rfl)
      obtain rfl : sb6 = true := hall ⟨6, .phase⟩ (by simp) (by kernel_rfl)
      obtain rfl : sb7 = true := hall ⟨7, .data⟩ (by simp) (by kernel_rfl)
      obtain rfl : sb9 = true := hall ⟨9, .data⟩ (by simp) (by kernel_rfl)
      clear hall
      obtain rfl : sb11 = false := Bool.eq_false_iff.2 fun h => Bool.false_ne_true (H.d11 h).2.2.2.2.2.2.2.2.2.2
      have hbe := H.be rfl
      have hx_t4 := H.t4
      have hx_t5 := H.t5
      obtain rfl := H.h0 rfl
      obtain rfl := H.h1 rfl
      obtain rfl := H.h2 rfl
      obtain rfl := H.h3 rfl
      obtain rfl := H.h4 rfl
      have P5 := H.h5 rfl rfl
      have P6 := H.h6 rfl rfl
      have P7 := H.h7 rfl rfl
      have P9 := H.h9 rfl rfl
      obtain ⟨q, rfl, hq0, hq⟩ := P9
      obtain ⟨Bh, cBh, Bf, cBf, Bb, cBb, rfl, hv9⟩ := P7.split
      obtain ⟨k1, gp⟩ := bk5_blk hq (.slice Bh x1r.held.length cBh) (.slice Bf x1r.flds.length cBf) (.bool x1r.begun) (.slice Bb x1r.body.length cBb) (.bool x1r.ended)
      have KQ := Lib.hid k1
      have VQ := Lib.hid (hv9.grX hq plain5 gp)
      have BQ := Lib.hid (hbe.grown gp hbe.size (fun k e => by cases e; exact hq0))
      obtain ⟨q0, q1, q2, q3, q4⟩ := bk5T hq
      have qf := fun i => bk_frz hq i
      clear hq hv9 k1 gp
      refine wpOp_step ho (fun K' hK => ?_)
      have HK := Lib.hid hK
      clear hK ho
      go_simp
      exact HK.out _ _ ⟨_, _, _, _, _, _, _, _, _, _, _, _, _, _, _, _, _, _, _, _, _, _, sx10, _, rfl, rfl, ⟨(fun h => by cases h), H.d4, H.d5, H.d6, H.d7, H.d8, (fun _ => ⟨rfl, rfl, rfl, rfl, rfl, rfl, rfl, rfl, rfl⟩), (fun h => by cases h), H.t4, H.t5, H.h0, H.h1, H.h2, H.h3, H.h4, (fun _ h => by cases h), (fun _ h => by cases h), (fun _ h => by cases h), H.h8, (fun _ h => by cases h), (fun _ => ⟨_, _, _, _, _, _, _, rfl, hq0, KQ.out, VQ.out, BQ.out⟩), H.h11⟩⟩
    · have ho := hoj
      simp only [List.getElem?_toArray, List.getElem?_cons_succ, List.getElem?_cons_zero, Option.some.injEq] at hoj
      subst hoj
      obtain rfl : sb11 = false := hun
      obtain rfl : sb0 = true := hall ⟨0, .phase⟩ (by simp) (by kernel_rfl)
      obtain rfl : sb1 = true := hall ⟨1, .phase⟩ (by simp) (by kernel_rfl)
      obtain rfl : sb2 = true := hall ⟨2, .phase⟩ (by simp) (by kernel_rfl)
      obtain rfl : sb3 = true := hall ⟨3, .phase⟩ (by simp) (by kernel_rfl)
      obtain rfl : sb4 = true := hall ⟨4, .phase⟩ (by simp) (by kernel_rfl)
      obtain rfl : sb5 = true := hall ⟨5, .phase⟩ (by simp) (by kernel_rfl)
      obtain rfl : sb6 = true := hall ⟨6, .phase⟩ (by simp) (by kernel_rfl)
      obtain rfl : sb7 = true := hall ⟨7, .phase⟩ (by simp) (by kernel_rfl)
      obtain rfl : sb8 = true := hall ⟨8, .data⟩ (by simp) (by kernel_rfl)
      obtain rfl : sb9 = true := hall ⟨9, .phase⟩ (by simp) (by kernel_rfl)
      obtain rfl : sb10 = true := hall ⟨10, .chain⟩ (by simp) (by kernel_rfl)
      clear hall
      have hx_t4 := H.t4
      have hx_t5 := H.t5
      obtain rfl := H.h0 rfl
      obtain rfl := H.h1 rfl
      obtain rfl := H.h2 rfl
      obtain rfl := H.h3 rfl
      obtain rfl := H.h4 rfl
      obtain rfl := H.h8 rfl
      have P10 := H.h10 rfl
      refine wpOp_step ho (fun K' hK => ?_)
      have HK := Lib.hid hK
      clear hK ho
      go_simp
      exact HK.out _ _ ⟨_, _, _, _, _, _, _, _, _, _, _, _, _, _, _, _, _, _, _, _, _, _, sx10, _, rfl, rfl, ⟨(fun h => by cases h), H.d4, H.d5, H.d6, H.d7, H.d8, H.d10, (fun _ => ⟨rfl, rfl, rfl, rfl, rfl, rfl, rfl, rfl, rfl, rfl, rfl⟩), H.t4, H.t5, H.h0, H.h1, H.h2, H.h3, H.h4, (fun _ h => by cases h), (fun _ h => by cases h), (fun _ h => by cases h), H.h8, (fun _ h => by cases h), H.h10, (fun _ => rfl)⟩⟩
    · have ho := hoj
      simp at ho
  case hfin =>
    rintro listed a w ⟨sb0, sb1, sb2, sb3, sb4, sb5, sb6, sb7, sb8, sb9, sb10, sb11, sx0, sx1, sx2, sx3, sx4, sx5, sx6, sx7, sx8, sx9, sx10, sx11, rfl, rfl, H⟩ hr
    have hb : sb11 = true := by
      clear H
      revert sb0 sb1 sb2 sb3 sb4 sb5 sb6 sb7 sb8 sb9 sb10 sb11
      decide +kernel
    subst hb
    clear hr
    obtain rfl : sb0 = true := (H.d11 rfl).1
    obtain rfl : sb1 = true := (H.d11 rfl).2.1
    obtain rfl : sb2 = true := (H.d11 rfl).2.2.1
    obtain rfl : sb3 = true := (H.d11 rfl).2.2.2.1
    obtain rfl : sb4 = true := (H.d11 rfl).2.2.2.2.1
    obtain rfl : sb5 = true := (H.d11 rfl).2.2.2.2.2.1
    obtain rfl : sb6 = true := (H.d11 rfl).2.2.2.2.2.2.1
    obtain rfl : sb7 = true := (H.d11 rfl).2.2.2.2.2.2.2.1
    obtain rfl : sb8 = true := (H.d11 rfl).2.2.2.2.2.2.2.2.1
    obtain rfl : sb9 = true := (H.d11 rfl).2.2.2.2.2.2.2.2.2.1
    obtain rfl : sb10 = true := (H.d11 rfl).2.2.2.2.2.2.2.2.2.2
    obtain ⟨kq, Bh, cBh, Bf, cBf, Bb, cBb, e9, hq0, hq, hv9, hb9⟩ := H.h10 rfl
    have e7 := H.h11 rfl
    have J6 := Lib.hid hq
    have HV6 := Lib.hid hv9
    have HB6 := Lib.hid hb9
    have HQ0 := Lib.hid hq0
    clear hq hv9 hb9 H hq0
    obtain ⟨w6, hw6⟩ : ∃ x, x = w := ⟨_, rfl⟩
    subst w
    subst e7 e9
    have RI5 : RbI W k1 k4 nl cf nb cb ur up un c4 an ce Af Ab A4 Ae l zs all U w5 := ⟨F5.out, H5.out, B5.out, R5.out, Z5.out, V5.out, S5.out⟩
    have RI6 := Lib.hid (RI5.on HB6.out)
    have HQW := Lib.hid (show W.heap.size ≤ kq by have := B5.out.size; have := HQ0.out; omega)
    have HQ1 := Lib.hid (show k1 ≠ kq by have := lt_of_block F5.out; have := HQ0.out; omega)
    have HQ4 := Lib.hid (show k4 ≠ kq by have := lt_of_block H5.out; have := HQ0.out; omega)
    clear RI5 F5 G5 B5 R5 Z5 V5 S5 H5 HA1 HB6 HI1
    obtain ⟨SA, hSA⟩ : ∃ SA, (if ce = i then Ae else Option.map (fun x => x.add i) Ae) = SA := ⟨_, rfl⟩
    have HSA := Lib.hid hSA
    have HM := Lib.hid (show j - i = m by have := HJ.out; omega)
    have HI2 := Lib.hid (show (0 : Int) ≤ (i : Int) ∧ (i : Int) ≤ (ce : Int) ∧ (i : Int) ≤ (j : Int) ∧ (j : Int) ≤ (ce : Int) ∧ (j : Int) ≤ (an : Int) by have := HIJ.out; have := HCE.out; have := HJA.out; omega)
    have HS2 := Lib.hid (bsl_takeR (bsl_drop RI6.out.s i (by rw [HAN.out]; have := HIJ.out; have := HJA.out; omega)) m (by rw [List.length_drop, HAN.out]; have := HJ.out; have := HJA.out; omega))
    rw [hSA] at HS2
    have HA2 := Lib.hid (fun w (hb : Below w6.heap.size w6 w) => feed_any Bh Bf Bb SA _ cBh _ cBf _ cBb m (ce - i) false x1r ((all.drop i).take m) _ U w (bsl_onF HV6.out.parts.1 hb) (HV6.out.parts.2.1.on hb) (bsl_onF HV6.out.parts.2.2 hb) (bsl_onF HS2.out hb) (RI6.out.v.on hb) HUW.out (by have := HFL1.out; omega))
    rw [HX2.out] at HA2
    dsimp only at HA2
    clear hSA HS2
    go_upto_region 7 with fail
    refine wp_region_inv (fun lis_ act_ wld_ => ∃ (tb0 tb1 tb2 tb3 tb4 tb5 tb6 tb7 tb8 tb9 tb10 tb11 : Bool) (tx0 tx1 tx2 tx3 tx4 tx5 tx6 tx7 tx8 tx9 tx10 tx11 : Value), lis_ = #[tb0, tb1, tb2, tb3, tb4, tb5, tb6, tb7, tb8, tb9, tb10, tb11] ∧ act_ = { tmps := #[Value.slice A n c, Value.string s, Value.int IntKind.i64 k, Value.int IntKind.i64 a5, Value.int IntKind.i64 b5, undef, undef, undef, undef, undef, Value.bool false, Value.pointer (some { block := k1, off := 0 }), Value.pointer (some { block := k2, off := 0 }), Value.pointer (some { block := k4, off := 0 }), Value.slice Ad tn cd, Value.slice Ae an ce, Value.int IntKind.i64 0, Value.int IntKind.i64 ↑i, Value.int IntKind.i64 ↑j, Value.pointer (some { block := kq, off := 0 }), Value.int IntKind.i64 0, tx11, undef, undef, undef, Value.slice A n c, Value.string s, Value.int IntKind.i64 k, Value.agg #[Value.slice Af nl cf, Value.slice Ab nb cb], Value.agg #[Value.int IntKind.i64 100, Value.int IntKind.i64 0, Value.slice none 0 0], Value.tuple #[Value.agg #[Value.int IntKind.i64 ur, Value.int IntKind.i64 up, Value.slice A4 un c4], Value.slice Ad tn cd, Value.slice Ae an ce, Value.int IntKind.i64 0], Value.agg #[Value.int IntKind.i64 100, Value.int IntKind.i64 0, Value.slice none 0 0], Value.agg #[Value.slice Af nl cf, Value.slice Ab nb cb], Value.tuple #[Value.agg #[Value.int IntKind.i64 ur, Value.int IntKind.i64 up, Value.slice A4 un c4], Value.slice Ad tn cd, Value.slice Ae an ce, Value.int IntKind.i64 0], Value.agg #[Value.int IntKind.i64 ur, Value.int IntKind.i64 up, Value.slice A4 un c4], Value.slice Ad tn cd, Value.slice Ae an ce, Value.int IntKind.i64 0, Value.int IntKind.i64 a5, Value.slice Ae an ce, Value.int IntKind.i64 ↑an, Value.int IntKind.i64 (↑an + 1), Value.int IntKind.i64 ↑i, Value.int IntKind.i64 ↑i, Value.int IntKind.i64 b5, Value.slice Ae an ce, Value.int IntKind.i64 ↑an, Value.int IntKind.i64 ↑i, Value.int IntKind.i64 (↑an - ↑i), Value.int IntKind.i64 (↑an - ↑i + 1), Value.int IntKind.i64 ↑m, Value.int IntKind.i64 ↑j, sx6, sx0, sx1, sx2, sx3, sx4, sx5, sx7, sx8, tx7, tx0, tx1, tx2, tx3, tx4, tx5, tx6, tx8, tx9, undef, undef, undef, undef, undef, undef, undef, undef, undef, undef, undef, undef, undef, undef, undef, undef, undef, undef, undef, undef, undef, undef, undef, undef, undef, undef, undef, undef, undef, undef, undef, undef, undef, undef, undef, undef, undef, undef, undef, undef, undef, undef, undef, undef, undef, undef, undef, undef, undef, undef, undef, undef, undef, undef, undef, undef], defers := [] } ∧ RbB w6 W k1 k4 nl cf nb cb ur up un c4 an ce Af Ab A4 Ae l zs all U kq Bh Bf Bb cBh cBf cBb x1r x2r i j m SA (.agg #[.slice Bh x1r.held.length cBh, .slice Bf x1r.flds.length cBf, .bool x1r.begun, .slice Bb x1r.body.length cBb, .bool x1r.ended]) (.agg #[.int .i64 ur, .int .i64 up, .slice A4 un c4]) (.slice Ae an ce) (.int .i64 (i : Int)) (.int .i64 (j : Int)) (.slice SA m (ce - i)) (.int .i64 0) (.int .i64 0) tb0 tb1 tb2 tb3 tb4 tb5 tb6 tb7 tb8 tb9 tb10 tb11 tx0 tx1 tx2 tx3 tx4 tx5 tx6 tx7 tx8 tx9 tx10 tx11 wld_) (by kernel_rfl) ?h0 ?hfin ?hI
    case h0 => exact ⟨_, _, _, _, _, _, _, _, _, _, _, _, _, _, _, _, _, _, _, _, _, _, undef, _, rfl, rfl, ⟨(fun _ => (Below.refl _ _).drew), (fun h => by cases h), (fun h => by cases h), (fun h => by cases h), (fun h => by cases h), (fun h => by cases h), (fun h => by cases h), (fun h => by cases h), (fun h => by cases h), (fun h => by cases h), (fun h => by cases h), (fun h => by cases h), (fun h => by cases h), (fun h => by cases h), (fun h => by cases h), (fun h => by cases h), (fun h => by cases h), (fun h => by cases h), (fun h => by cases h), (fun h => by cases h), (fun h => by cases h), (fun h => by cases h)⟩⟩
    case hI =>
      rintro listed a w ⟨tb0, tb1, tb2, tb3, tb4, tb5, tb6, tb7, tb8, tb9, tb10, tb11, tx0, tx1, tx2, tx3, tx4, tx5, tx6, tx7, tx8, tx9, tx10, tx11, rfl, rfl, H⟩ i hi
      obtain ⟨hun, oj, hoj, hall⟩ := mem_ready.1 hi
      clear hi
      rcases i with _ | _ | _ | _ | _ | _ | _ | _ | _ | _ | _ | _ | i
      · have ho := hoj
        simp only [List.getElem?_toArray, List.getElem?_cons_zero, Option.some.injEq] at hoj
        subst hoj
        obtain rfl : tb0 = false := hun
        clear hall
        obtain rfl : tb6 = false := Bool.eq_false_iff.2 fun h => Bool.false_ne_true (H.d6 h).1
        obtain rfl : tb7 = false := Bool.eq_false_iff.2 fun h => Bool.false_ne_true (H.d7 h)
        obtain rfl : tb8 = false := Bool.eq_false_iff.2 fun h => Bool.false_ne_true (H.d8 h)
        obtain rfl : tb9 = false := Bool.eq_false_iff.2 fun h => Bool.false_ne_true (H.d9 h)
        obtain rfl : tb10 = false := Bool.eq_false_iff.2 fun h => Bool.false_ne_true (H.d10 h).1
        obtain rfl : tb11 = false := Bool.eq_false_iff.2 fun h => Bool.false_ne_true (H.d11 h).1
        have hbe := H.be rfl
        have hx_t4 := H.t4
        have hx_t5 := H.t5
        obtain ⟨y0, y1, y2, y3, y4⟩ := bk5T ((hbe.block _ (lt_of_block J6.out)).trans J6.out)
        refine wpOp_step ho (fun K' hK => ?_)
        have HK := Lib.hid hK
        clear hK ho
        go_simp
        exact HK.out _ _ ⟨_, _, _, _, _, _, _, _, _, _, _, _, _, _, _, _, _, _, _, _, _, _, tx10, _, rfl, rfl, ⟨(fun _ => hbe), H.d5, (fun h => by cases h), H.d7, H.d8, H.d9, (fun h => by cases h), (fun h => by cases h), H.t4, H.t5, (fun _ => rfl), H.h1, H.h2, H.h3, H.h4, H.h5, (fun h => by cases h), (fun h => by cases h), (fun h => by cases h), H.h9, (fun h => by cases h), H.h11⟩⟩
      · have ho := hoj
        simp only [List.getElem?_toArray, List.getElem?_cons_succ, List.getElem?_cons_zero, Option.some.injEq] at hoj
        subst hoj
        obtain rfl : tb1 = false := hun
        clear hall
        obtain rfl : tb6 = false := Bool.eq_false_iff.2 fun h => Bool.false_ne_true (H.d6 h).2.1
        obtain rfl : tb7 = false := Bool.eq_false_iff.2 fun h => Bool.false_ne_true (H.d7 h)
        obtain rfl : tb8 = false := Bool.eq_false_iff.2 fun h => Bool.false_ne_true (H.d8 h)
        obtain rfl : tb9 = false := Bool.eq_false_iff.2 fun h => Bool.false_ne_true (H.d9 h)
        obtain rfl : tb10 = false := Bool.eq_false_iff.2 fun h => Bool.false_ne_true (H.d10 h).2.1
        obtain rfl : tb11 = false := Bool.eq_false_iff.2 fun h => Bool.false_ne_true (H.d11 h).2.1
        have hbe := H.be rfl
        have hx_t4 := H.t4
        have hx_t5 := H.t5
        obtain ⟨q0, q1, q2⟩ := bk3T ((hbe.block _ (lt_of_block RI6.out.h)).trans RI6.out.h)
        refine wpOp_step ho (fun K' hK => ?_)
        have HK := Lib.hid hK
        clear hK ho
        go_simp
        exact HK.out _ _ ⟨_, _, _, _, _, _, _, _, _, _, _, _, _, _, _, _, _, _, _, _, _, _, tx10, _, rfl, rfl, ⟨(fun _ => hbe), H.d5, (fun h => by cases h), H.d7, H.d8, H.d9, (fun h => by cases h), (fun h => by cases h), H.t4, H.t5, H.h0, (fun _ => rfl), H.h2, H.h3, H.h4, H.h5, (fun h => by cases h), (fun h => by cases h), (fun h => by cases h), H.h9, (fun h => by cases h), H.h11⟩⟩
      · have ho := hoj
        simp only [List.getElem?_toArray, List.getElem?_cons_succ, List.getElem?_cons_zero, Option.some.injEq] at hoj
        subst hoj
        obtain rfl : tb2 = false := hun
        clear hall
        obtain rfl : tb5 = false := Bool.eq_false_iff.2 fun h => Bool.false_ne_true (H.d5 h).1
        obtain rfl : tb6 = false := Bool.eq_false_iff.2 fun h => Bool.false_ne_true (H.d6 h).2.2
        obtain rfl : tb7 = false := Bool.eq_false_iff.2 fun h => Bool.false_ne_true (H.d7 h)
        obtain rfl : tb8 = false := Bool.eq_false_iff.2 fun h => Bool.false_ne_true (H.d8 h)
        obtain rfl : tb9 = false := Bool.eq_false_iff.2 fun h => Bool.false_ne_true (H.d9 h)
        obtain rfl : tb10 = false := Bool.eq_false_iff.2 fun h => Bool.false_ne_true (H.d10 h).2.2.1
        obtain rfl : tb11 = false := Bool.eq_false_iff.2 fun h => Bool.false_ne_true (H.d11 h).2.2.1
        have hbe := H.be rfl
        have hx_t4 := H.t4
        have hx_t5 := H.t5
        refine wpOp_step ho (fun K' hK => ?_)
        have HK := Lib.hid hK
        clear hK ho
        go_simp
        exact HK.out _ _ ⟨_, _, _, _, _, _, _, _, _, _, _, _, _, _, _, _, _, _, _, _, _, _, tx10, _, rfl, rfl, ⟨(fun _ => hbe), (fun h => by cases h), H.d6, H.d7, H.d8, H.d9, (fun h => by cases h), (fun h => by cases h), H.t4, H.t5, H.h0, H.h1, (fun _ => rfl), H.h3, H.h4, H.h5, (fun h => by cases h), (fun h => by cases h), (fun h => by cases h), H.h9, (fun h => by cases h), H.h11⟩⟩
      · have ho := hoj
        simp only [List.getElem?_toArray, List.getElem?_cons_succ, List.getElem?_cons_zero, Option.some.injEq] at hoj
        subst hoj
        obtain rfl : tb3 = false := hun
        clear hall
        obtain rfl : tb5 = false := Bool.eq_false_iff.2 fun h => Bool.false_ne_true (H.d5 h).2.1
        obtain rfl : tb6 = false := Bool.eq_false_iff.2 fun h => Bool.false_ne_true (H.d6 h).2.2
        obtain rfl : tb7 = false := Bool.eq_false_iff.2 fun h => Bool.false_ne_true (H.d7 h)
        obtain rfl : tb8 = false := Bool.eq_false_iff.2 fun h => Bool.false_ne_true (H.d8 h)
        obtain rfl : tb9 = false := Bool.eq_false_iff.2 fun h => Bool.false_ne_true (H.d9 h)
        obtain rfl : tb10 = false := Bool.eq_false_iff.2 fun h => Bool.false_ne_true (H.d10 h).2.2.2.1
        obtain rfl : tb11 = false := Bool.eq_false_iff.2 fun h => Bool.false_ne_true (H.d11 h).2.2.2.1
        have hbe := H.be rfl
        have hx_t4 := H.t4
        have hx_t5 := H.t5
        refine wpOp_step ho (fun K' hK => ?_)
        have HK := Lib.hid hK
        clear hK ho
        go_simp
        exact HK.out _ _ ⟨_, _, _, _, _, _, _, _, _, _, _, _, _, _, _, _, _, _, _, _, _, _, tx10, _, rfl, rfl, ⟨(fun _ => hbe), (fun h => by cases h), H.d6, H.d7, H.d8, H.d9, (fun h => by cases h), (fun h => by cases h), H.t4, H.t5, H.h0, H.h1, H.h2, (fun _ => rfl), H.h4, H.h5, (fun h => by cases h), (fun h => by cases h), (fun h => by cases h), H.h9, (fun h => by cases h), H.h11⟩⟩
      · have ho := hoj
        simp only [List.getElem?_toArray, List.getElem?_cons_succ, List.getElem?_cons_zero, Option.some.injEq] at hoj
        subst hoj
        obtain rfl : tb4 = false := hun
        clear hall
        obtain rfl : tb5 = false := Bool.eq_false_iff.2 fun h => Bool.false_ne_true (H.d5 h).2.2
        obtain rfl : tb6 = false := Bool.eq_false_iff.2 fun h => Bool.false_ne_true (H.d6 h).2.2
        obtain rfl : tb7 = false := Bool.eq_false_iff.2 fun h => Bool.false_ne_true (H.d7 h)
        obtain rfl : tb8 = false := Bool.eq_false_iff.2 fun h => Bool.false_ne_true (H.d8 h)
        obtain rfl : tb9 = false := Bool.eq_false_iff.2 fun h => Bool.false_ne_true (H.d9 h)
        obtain rfl : tb10 = false := Bool.eq_false_iff.2 fun h => Bool.false_ne_true (H.d10 h).2.2.2.2.1
        obtain rfl : tb11 = false := Bool.eq_false_iff.2 fun h => Bool.false_ne_true (H.d11 h).2.2.2.2.1
        have hbe := H.be rfl
        have hx_t4 := H.t4
        have hx_t5 := H.t5
        refine wpOp_step ho (fun K' hK => ?_)
        have HK := Lib.hid hK
        clear hK ho
        go_simp
        exact HK.out _ _ ⟨_, _, _, _, _, _, _, _, _, _, _, _, _, _, _, _, _, _, _, _, _, _, tx10, _, rfl, rfl, ⟨(fun _ => hbe), (fun h => by cases h), H.d6, H.d7, H.d8, H.d9, (fun h => by cases h), (fun h => by cases h), H.t4, H.t5, H.h0, H.h1, H.h2, H.h3, (fun _ => rfl), H.h5, (fun h => by cases h), (fun h => by cases h), (fun h => by cases h), H.h9, (fun h => by cases h), H.h11⟩⟩
      · have ho := hoj
        simp only [List.getElem?_toArray, List.getElem?_cons_succ, List.getElem?_cons_zero, Option.some.injEq] at hoj
        subst hoj
        obtain rfl : tb5 = false := hun
        obtain rfl : tb2 = true := hall ⟨2, .data⟩ (by simp) (by kernel_rfl)
        obtain rfl : tb3 = true := hall ⟨3, .data⟩ (by simp) (by kernel_rfl)
        obtain rfl : tb4 = true := hall ⟨4, .data⟩ (by simp) (by kernel_rfl)
        clear hall
        obtain rfl : tb6 = false := Bool.eq_false_iff.2 fun h => Bool.false_ne_true (H.d6 h).2.2
        obtain rfl : tb7 = false := Bool.eq_false_iff.2 fun h => Bool.false_ne_true (H.d7 h)
        obtain rfl : tb8 = false := Bool.eq_false_iff.2 fun h => Bool.false_ne_true (H.d8 h)
        obtain rfl : tb9 = false := Bool.eq_false_iff.2 fun h => Bool.false_ne_true (H.d9 h)
        obtain rfl : tb10 = false := Bool.eq_false_iff.2 fun h => Bool.false_ne_true (H.d10 h).2.2.2.2.2.1
        obtain rfl : tb11 = false := Bool.eq_false_iff.2 fun h => Bool.false_ne_true (H.d11 h).2.2.2.2.2.1
        have hbe := H.be rfl
        have hx_t4 := H.t4
        have hx_t5 := H.t5
        obtain rfl := H.h2 rfl
        obtain rfl := H.h3 rfl
        obtain rfl := H.h4 rfl
        obtain ⟨hk0, hk1, hk2, hk3, hk4⟩ := HI2.out
        have hSA := HSA.out
        have hMM := HM.out
        refine wpOp_step ho (fun K' hK => ?_)
        have HK := Lib.hid hK
        clear hK ho
        go_simp
        exact HK.out _ _ ⟨_, _, _, _, _, _, _, _, _, _, _, _, _, _, _, _, _, _, _, _, _, _, tx10, _, rfl, rfl, ⟨(fun _ => hbe), (fun _ => ⟨rfl, rfl, rfl⟩), (fun h => by cases h), H.d7, H.d8, H.d9, (fun h => by cases h), (fun h => by cases h), H.t4, H.t5, H.h0, H.h1, H.h2, H.h3, H.h4, (fun _ => rfl), (fun h => by cases h), (fun h => by cases h), (fun h => by cases h), H.h9, (fun h => by cases h), H.h11⟩⟩
      · have ho := hoj
        simp only [List.getElem?_toArray, List.getElem?_cons_succ, List.getElem?_cons_zero, Option.some.injEq] at hoj
        subst hoj
        obtain rfl : tb6 = false := hun
        obtain rfl : tb0 = true := hall ⟨0, .data⟩ (by simp) (by kernel_rfl)
        obtain rfl : tb1 = true := hall ⟨1, .data⟩ (by simp) (by kernel_rfl)
        obtain rfl : tb5 = true := hall ⟨5, .data⟩ (by simp) (by kernel_rfl)
        obtain rfl : tb2 = true := (H.d5 rfl).1
        obtain rfl : tb3 = true := (H.d5 rfl).2.1
        obtain rfl : tb4 = true := (H.d5 rfl).2.2
        clear hall
        obtain rfl : tb7 = false := Bool.eq_false_iff.2 fun h => Bool.false_ne_true (H.d7 h)
        obtain rfl : tb8 = false := Bool.eq_false_iff.2 fun h => Bool.false_ne_true (H.d8 h)
        obtain rfl : tb9 = false := Bool.eq_false_iff.2 fun h => Bool.false_ne_true (H.d9 h)
        obtain rfl : tb10 = false := Bool.eq_false_iff.2 fun h => Bool.false_ne_true (H.d10 h).2.2.2.2.2.2.1
        obtain rfl : tb11 = false := Bool.eq_false_iff.2 fun h => Bool.false_ne_true (H.d11 h).2.2.2.2.2.2.1
        have hbe := H.be rfl
        have hx_t4 := H.t4
        have hx_t5 := H.t5
        obtain rfl := H.h0 rfl
        obtain rfl := H.h1 rfl
        obtain rfl := H.h2 rfl
        obtain rfl := H.h3 rfl
        obtain rfl := H.h4 rfl
        obtain rfl := H.h5 rfl
        refine wpOp_step ho (fun K' hK => ?_)
        have HK := Lib.hid hK
        clear hK ho
        go_wp2_with fail
        refine (HA2.out _ hbe).mono ?_
        rintro e w9 ⟨tb9, v9, rfl, hv9⟩
        have BC := Lib.hid tb9
        have VC := Lib.hid hv9
        clear tb9 hv9
        go_wp2_with fail
        exact HK.out _ _ ⟨_, _, _, _, _, _, _, _, _, _, _, _, _, _, _, _, _, _, _, _, _, _, tx10, _, rfl, rfl, ⟨(fun _ => hbe.trans (BC.out.mono hbe.size)), H.d5, (fun _ => ⟨rfl, rfl, rfl⟩), (fun h => by cases h), H.d8, H.d9, (fun h => by cases h), (fun h => by cases h), fun _ => ⟨_, rfl⟩, hx_t5, H.h0, H.h1, H.h2, H.h3, H.h4, H.h5, (fun _ _ => ⟨_, rfl, VC.out⟩), (fun h => by cases h), (fun h => by cases h), H.h9, (fun h => by cases h), H.h11⟩⟩
      · have ho := hoj
        simp only [List.getElem?_toArray, List.getElem?_cons_succ, List.getElem?_cons_zero, Option.some.injEq] at hoj
        subst hoj
        obtain rfl : tb7 = false := hun
        obtain rfl : tb6 = true := hall ⟨6, .data⟩ (by simp) (by kernel_rfl)
        obtain rfl : tb0 = true := (H.d6 rfl).1
        obtain rfl : tb1 = true := (H.d6 rfl).2.1
        obtain rfl : tb5 = true := (H.d6 rfl).2.2
        obtain rfl : tb2 = true := (H.d5 rfl).1
        obtain rfl : tb3 = true := (H.d5 rfl).2.1
        obtain rfl : tb4 = true := (H.d5 rfl).2.2
        clear hall
        obtain rfl : tb8 = false := Bool.eq_false_iff.2 fun h => Bool.false_ne_true (H.d8 h)
        obtain rfl : tb9 = false := Bool.eq_false_iff.2 fun h => Bool.false_ne_true (H.d9 h)
        obtain rfl : tb10 = false := Bool.eq_false_iff.2 fun h => Bool.false_ne_true (H.d10 h).2.2.2.2.2.2.2.1
        obtain rfl : tb11 = false := Bool.eq_false_iff.2 fun h => Bool.false_ne_true (H.d11 h).2.2.2.2.2.2.2.1
        have hbe := H.be rfl
        have hx_t4 := H.t4
        have hx_t5 := H.t5
        obtain rfl := H.h0 rfl
        obtain rfl := H.h1 rfl
        obtain rfl := H.h2 rfl
        obtain rfl := H.h3 rfl
        obtain rfl := H.h4 rfl
        obtain rfl := H.h5 rfl
        have P6 := H.h6 rfl rfl
        have PT := Lib.hid P6
        have TT := Lib.hid (H.t4 rfl)
        clear P6
        refine wpOp_step ho (fun K' hK => ?_)
        have HK := Lib.hid hK
        clear hK ho
        go_simp
        exact HK.out _ _ ⟨_, _, _, _, _, _, _, _, _, _, _, _, _, _, _, _, _, _, _, _, _, _, tx10, _, rfl, rfl, ⟨(fun _ => hbe), H.d5, H.d6, (fun _ => rfl), (fun h => by cases h), (fun h => by cases h), (fun h => by cases h), (fun h => by cases h), H.t4, fun _ => TT.out, H.h0, H.h1, H.h2, H.h3, H.h4, H.h5, H.h6, (fun _ _ => PT.out), (fun h => by cases h), H.h9, (fun h => by cases h), H.h11⟩⟩
      · have ho := hoj
        simp only [List.getElem?_toArray, List.getElem?_cons_succ, List.getElem?_cons_zero, Option.some.injEq] at hoj
        subst hoj
        obtain rfl : tb8 = false := hun
        obtain rfl : tb7 = true := hall ⟨7, .data⟩ (by simp) (by kernel_rfl)
        obtain rfl : tb6 = true := (H.d7 rfl)
        obtain rfl : tb0 = true := (H.d6 rfl).1
        obtain rfl : tb1 = true := (H.d6 rfl).2.1
        obtain rfl : tb5 = true := (H.d6 rfl).2.2
        obtain rfl : tb2 = true := (H.d5 rfl).1
        obtain rfl : tb3 = true := (H.d5 rfl).2.1
        obtain rfl : tb4 = true := (H.d5 rfl).2.2
        clear hall
        obtain rfl : tb10 = false := Bool.eq_false_iff.2 fun h => Bool.false_ne_true (H.d10 h).2.2.2.2.2.2.2.2
        obtain rfl : tb11 = false := Bool.eq_false_iff.2 fun h => Bool.false_ne_true (H.d11 h).2.2.2.2.2.2.2.2.1
        have hbe := H.be rfl
        have hx_t4 := H.t4
        have hx_t5 := H.t5
        obtain rfl := H.h0 rfl
        obtain rfl := H.h1 rfl
        obtain rfl := H.h2 rfl
        obtain rfl := H.h3 rfl
        obtain rfl := H.h4 rfl
        obtain rfl := H.h5 rfl
        have P6 := H.h6 rfl rfl
        have P7 := H.h7 rfl rfl
        obtain ⟨u, rfl, hu⟩ := P7
        have HU := Lib.hid hu
        clear hu
        refine wpOp_step ho (fun K' hK => ?_)
        have HK := Lib.hid hK
        clear hK ho
        go_simp
        exact HK.out _ _ ⟨_, _, _, _, _, _, _, _, _, _, _, _, _, _, _, _, _, _, _, _, _, _, tx10, _, rfl, rfl, ⟨(fun _ => hbe), H.d5, H.d6, H.d7, (fun _ => rfl), H.d9, (fun h => by cases h), (fun h => by cases h), H.t4, H.t5, H.h0, H.h1, H.h2, H.h3, H.h4, H.h5, H.h6, H.h7, (fun _ _ => HU.out), H.h9, (fun h => by cases h), H.h11⟩⟩
      · have ho := hoj
        simp only [List.getElem?_toArray, List.getElem?_cons_succ, List.getElem?_cons_zero, Option.some.injEq] at hoj
        subst hoj
        obtain rfl : tb9 = false := hun
        obtain rfl : tb7 = true := hall ⟨7, .data⟩ (by simp) (by kernel_rfl)
        obtain rfl : tb6 = true := (H.d7 rfl)
        obtain rfl : tb0 = true := (H.d6 rfl).1
        obtain rfl : tb1 = true := (H.d6 rfl).2.1
        obtain rfl : tb5 = true := (H.d6 rfl).2.2
        obtain rfl : tb2 = true := (H.d5 rfl).1
        obtain rfl : tb3 = true := (H.d5 rfl).2.1
        obtain rfl : tb4 = true := (H.d5 rfl).2.2
        clear hall
        obtain rfl : tb11 = false := Bool.eq_false_iff.2 fun h => Bool.false_ne_true (H.d11 h).2.2.2.2.2.2.2.2.2.1
        have hx_t4 := H.t4
        have hx_t5 := H.t5
        obtain rfl := H.h0 rfl
        obtain rfl := H.h1 rfl
        obtain rfl := H.h2 rfl
        obtain rfl := H.h3 rfl
        obtain rfl := H.h4 rfl
        obtain rfl := H.h5 rfl
        obtain ⟨u, rfl⟩ := H.t5 rfl
        refine wpOp_step ho (fun K' hK => ?_)
        have HK := Lib.hid hK
        clear hK ho
        go_simp
        exact HK.out _ _ ⟨_, _, _, _, _, _, _, _, _, _, _, _, _, _, _, _, _, _, _, _, _, _, tx10, _, rfl, rfl, ⟨H.be, H.d5, H.d6, H.d7, H.d8, (fun _ => rfl), H.d10, (fun h => by cases h), H.t4, H.t5, H.h0, H.h1, H.h2, H.h3, H.h4, H.h5, H.h6, H.h7, H.h8, (fun _ => rfl), H.h10, H.h11⟩⟩
      · have ho := hoj
        simp only [List.getElem?_toArray, List.getElem?_cons_succ, List.getElem?_cons_zero, Option.some.injEq] at hoj
        subst hoj
        obtain rfl : tb10 = false := hun
        obtain rfl : tb0 = true := hall ⟨0, .phase⟩ (by simp) (by kernel_rfl)
        obtain rfl : tb1 = true := hall ⟨1, .phase⟩ (by simp) (by kernel_rfl)
        obtain rfl : tb2 = true := hall ⟨2, .phase⟩ (by simp) (by kernel_rfl)
        obtain rfl : tb3 = true := hall ⟨3, .phase⟩ (by simp) (by kernel_rfl)
        obtain rfl : tb4 = true := hall ⟨4, .phase⟩ (by simp) (by kernel_rfl)
        obtain rfl : tb5 = true := hall ⟨5, .phase⟩ (by simp) (by kernel_rfl)
        obtain rfl : tb6 = true := hall ⟨6, .chain⟩ (by simp) (by kernel_rfl)
        obtain rfl : tb7 = true := hall ⟨7, .phase⟩ (by simp) (by kernel_rfl)
        obtain rfl : tb8 = true := hall ⟨8, .data⟩ (by simp) (by kernel_rfl)
        clear hall
        obtain rfl : tb11 = false := Bool.eq_false_iff.2 fun h => Bool.false_ne_true (H.d11 h).2.2.2.2.2.2.2.2.2.2
        have hbe := H.be rfl
        have hx_t4 := H.t4
        have hx_t5 := H.t5
        obtain rfl := H.h0 rfl
        obtain rfl := H.h1 rfl
        obtain rfl := H.h2 rfl
        obtain rfl := H.h3 rfl
        obtain rfl := H.h4 rfl
        obtain rfl := H.h5 rfl
        have P6 := H.h6 rfl rfl
        have P7 := H.h7 rfl rfl
        have P8 := H.h8 rfl rfl
        have hq := (hbe.block _ (lt_of_block J6.out)).trans J6.out
        obtain ⟨Ch, cCh, Cf, cCf, Cb, cCb, rfl, hv9⟩ := P8.split
        obtain ⟨k1', gp⟩ := bk5_blk hq (.slice Ch x2r.held.length cCh) (.slice Cf x2r.flds.length cCf) (.bool x2r.begun) (.slice Cb x2r.body.length cCb) (.bool x2r.ended)
        have KQ := Lib.hid k1'
        have VQ := Lib.hid (hv9.grX hq plain5 gp)
        have RQ9 := Lib.hid ((RI6.out.on hbe).put hq plain5 gp HQW.out HQ1.out HQ4.out)
        obtain ⟨q0, q1, q2, q3, q4⟩ := bk5T hq
        have qf := fun i => bk_frz hq i
        clear hq hv9 k1' gp
        refine wpOp_step ho (fun K' hK => ?_)
        have HK := Lib.hid hK
        clear hK ho
        go_simp
        exact HK.out _ _ ⟨_, _, _, _, _, _, _, _, _, _, _, _, _, _, _, _, _, _, _, _, _, _, tx10, _, rfl, rfl, ⟨(fun h => by cases h), H.d5, H.d6, H.d7, H.d8, H.d9, (fun _ => ⟨rfl, rfl, rfl, rfl, rfl, rfl, rfl, rfl, rfl⟩), (fun h => by cases h), H.t4, H.t5, H.h0, H.h1, H.h2, H.h3, H.h4, H.h5, (fun _ h => by cases h), (fun _ h => by cases h), (fun _ h => by cases h), H.h9, (fun _ => ⟨_, _, _, _, _, _, KQ.out, VQ.out, RQ9.out⟩), H.h11⟩⟩
      · have ho := hoj
        simp only [List.getElem?_toArray, List.getElem?_cons_succ, List.getElem?_cons_zero, Option.some.injEq] at hoj
        subst hoj
        obtain rfl : tb11 = false := hun
        obtain rfl : tb0 = true := hall ⟨0, .phase⟩ (by simp) (by kernel_rfl)
        obtain rfl : tb1 = true := hall ⟨1, .phase⟩ (by simp) (by kernel_rfl)
        obtain rfl : tb2 = true := hall ⟨2, .phase⟩ (by simp) (by kernel_rfl)
        obtain rfl : tb3 = true := hall ⟨3, .phase⟩ (by simp) (by kernel_rfl)
        obtain rfl : tb4 = true := hall ⟨4, .phase⟩ (by simp) (by kernel_rfl)
        obtain rfl : tb5 = true := hall ⟨5, .phase⟩ (by simp) (by kernel_rfl)
        obtain rfl : tb6 = true := hall ⟨6, .phase⟩ (by simp) (by kernel_rfl)
        obtain rfl : tb7 = true := hall ⟨7, .phase⟩ (by simp) (by kernel_rfl)
        obtain rfl : tb8 = true := hall ⟨8, .phase⟩ (by simp) (by kernel_rfl)
        obtain rfl : tb9 = true := hall ⟨9, .data⟩ (by simp) (by kernel_rfl)
        obtain rfl : tb10 = true := hall ⟨10, .chain⟩ (by simp) (by kernel_rfl)
        clear hall
        have hx_t4 := H.t4
        have hx_t5 := H.t5
        obtain rfl := H.h0 rfl
        obtain rfl := H.h1 rfl
        obtain rfl := H.h2 rfl
        obtain rfl := H.h3 rfl
        obtain rfl := H.h4 rfl
        obtain rfl := H.h5 rfl
        obtain rfl := H.h9 rfl
        have P10 := H.h10 rfl
        refine wpOp_step ho (fun K' hK => ?_)
        have HK := Lib.hid hK
        clear hK ho
        go_simp
        exact HK.out _ _ ⟨_, _, _, _, _, _, _, _, _, _, _, _, _, _, _, _, _, _, _, _, _, _, tx10, _, rfl, rfl, ⟨(fun h => by cases h), H.d5, H.d6, H.d7, H.d8, H.d9, H.d10, (fun _ => ⟨rfl, rfl, rfl, rfl, rfl, rfl, rfl, rfl, rfl, rfl, rfl⟩), H.t4, H.t5, H.h0, H.h1, H.h2, H.h3, H.h4, H.h5, (fun _ h => by cases h), (fun _ h => by cases h), (fun _ h => by cases h), H.h9, H.h10, (fun _ => rfl)⟩⟩
      · have ho := hoj
        simp at ho
    case hfin =>
      rintro listed a w ⟨tb0, tb1, tb2, tb3, tb4, tb5, tb6, tb7, tb8, tb9, tb10, tb11, tx0, tx1, tx2, tx3, tx4, tx5, tx6, tx7, tx8, tx9, tx10, tx11, rfl, rfl, H⟩ hr
      have hb : tb11 = true := by
        clear H
        revert tb0 tb1 tb2 tb3 tb4 tb5 tb6 tb7 tb8 tb9 tb10 tb11
        decide +kernel
      subst hb
      clear hr
      obtain rfl : tb0 = true := (H.d11 rfl).1
      obtain rfl : tb1 = true := (H.d11 rfl).2.1
      obtain rfl : tb2 = true := (H.d11 rfl).2.2.1
      obtain rfl : tb3 = true := (H.d11 rfl).2.2.2.1
      obtain rfl : tb4 = true := (H.d11 rfl).2.2.2.2.1
      obtain rfl : tb5 = true := (H.d11 rfl).2.2.2.2.2.1
      obtain rfl : tb6 = true := (H.d11 rfl).2.2.2.2.2.2.1
      obtain rfl : tb7 = true := (H.d11 rfl).2.2.2.2.2.2.2.1
      obtain rfl : tb8 = true := (H.d11 rfl).2.2.2.2.2.2.2.2.1
      obtain rfl : tb9 = true := (H.d11 rfl).2.2.2.2.2.2.2.2.2.1
      obtain rfl : tb10 = true := (H.d11 rfl).2.2.2.2.2.2.2.2.2.2
      obtain ⟨Ch, cCh, Cf, cCf, Cb, cCb, hq, hv9, hb9⟩ := H.h10 rfl
      have e7 := H.h11 rfl
      have J7 := Lib.hid hq
      have HV7 := Lib.hid hv9
      have RI7 := Lib.hid hb9
      clear hq hv9 hb9 H
      obtain ⟨w7, hw9⟩ : ∃ x, x = w := ⟨_, rfl⟩
      subst w
      subst e7
      clear HA2 HI2 HSA HM RI6 J6 HV6
      obtain ⟨SB, hSB⟩ : ∃ SA, (if ce = j then Ae else Option.map (fun x => x.add j) Ae) = SA := ⟨_, rfl⟩
      have HSB := Lib.hid hSB
      have HI3 := Lib.hid (show (0 : Int) ≤ (j : Int) ∧ (j : Int) ≤ (an : Int) ∧ (j : Int) ≤ (ce : Int) by have := HCE.out; have := HJA.out; omega)
      have HS3 := Lib.hid (bsl_drop RI7.out.s j (by rw [HAN.out]; exact HJA.out))
      rw [HM2.out, hSB] at HS3
      obtain ⟨x3r, hx3r⟩ : ∃ x, (⟨[], l, true, zs, true⟩ : Rd) = x := ⟨_, rfl⟩
      have HX3R := Lib.hid hx3r
      have HA3 := Lib.hid (fun w (hb : Below w7.heap.size w7 w) => feed_any Ch Cf Cb SB _ cCh _ cCf _ cCb m2 (ce - j) true x2r (all.drop j) _ U w (bsl_onF HV7.out.parts.1 hb) (HV7.out.parts.2.1.on hb) (bsl_onF HV7.out.parts.2.2 hb) (bsl_onF HS3.out hb) (RI7.out.v.on hb) HUW.out (by have := HFL2.out; omega))
      rw [HX3.out, hx3r] at HA3
      dsimp only at HA3
      clear hSB HS3 hx3r
      go_upto_region 8 with fail
      refine wp_region_inv (fun lis_ act_ wld_ => ∃ (ub0 ub1 ub2 ub3 ub4 ub5 ub6 ub7 ub8 ub9 ub10 : Bool) (ux0 ux1 ux2 ux3 ux4 ux5 ux6 ux7 ux8 ux9 ux10 : Value), lis_ = #[ub0, ub1, ub2, ub3, ub4, ub5, ub6, ub7, ub8, ub9, ub10] ∧ act_ = { tmps := #[Value.slice A n c, Value.string s, Value.int IntKind.i64 k, Value.int IntKind.i64 a5, Value.int IntKind.i64 b5, undef, undef, undef, undef, undef, Value.bool false, Value.pointer (some { block := k1, off := 0 }), Value.pointer (some { block := k2, off := 0 }), Value.pointer (some { block := k4, off := 0 }), Value.slice Ad tn cd, Value.slice Ae an ce, Value.int IntKind.i64 0, Value.int IntKind.i64 ↑i, Value.int IntKind.i64 ↑j, Value.pointer (some { block := kq, off := 0 }), Value.int IntKind.i64 0, Value.int IntKind.i64 0, ux10, undef, undef, Value.slice A n c, Value.string s, Value.int IntKind.i64 k, Value.agg #[Value.slice Af nl cf, Value.slice Ab nb cb], Value.agg #[Value.int IntKind.i64 100, Value.int IntKind.i64 0, Value.slice none 0 0], Value.tuple #[Value.agg #[Value.int IntKind.i64 ur, Value.int IntKind.i64 up, Value.slice A4 un c4], Value.slice Ad tn cd, Value.slice Ae an ce, Value.int IntKind.i64 0], Value.agg #[Value.int IntKind.i64 100, Value.int IntKind.i64 0, Value.slice none 0 0], Value.agg #[Value.slice Af nl cf, Value.slice Ab nb cb], Value.tuple #[Value.agg #[Value.int IntKind.i64 ur, Value.int IntKind.i64 up, Value.slice A4 un c4], Value.slice Ad tn cd, Value.slice Ae an ce, Value.int IntKind.i64 0], Value.agg #[Value.int IntKind.i64 ur, Value.int IntKind.i64 up, Value.slice A4 un c4], Value.slice Ad tn cd, Value.slice Ae an ce, Value.int IntKind.i64 0, Value.int IntKind.i64 a5, Value.slice Ae an ce, Value.int IntKind.i64 ↑an, Value.int IntKind.i64 (↑an + 1), Value.int IntKind.i64 ↑i, Value.int IntKind.i64 ↑i, Value.int IntKind.i64 b5, Value.slice Ae an ce, Value.int IntKind.i64 ↑an, Value.int IntKind.i64 ↑i, Value.int IntKind.i64 (↑an - ↑i), Value.int IntKind.i64 (↑an - ↑i + 1), Value.int IntKind.i64 ↑m, Value.int IntKind.i64 ↑j, sx6, sx0, sx1, sx2, sx3, sx4, sx5, sx7, sx8, tx7, tx0, tx1, tx2, tx3, tx4, tx5, tx6, tx8, tx9, ux6, ux0, ux1, ux2, ux3, ux4, ux5, ux7, ux8, undef, undef, undef, undef, undef, undef, undef, undef, undef, undef, undef, undef, undef, undef, undef, undef, undef, undef, undef, undef, undef, undef, undef, undef, undef, undef, undef, undef, undef, undef, undef, undef, undef, undef, undef, undef, undef, undef, undef, undef, undef, undef, undef, undef, undef, undef, undef], defers := [] } ∧ RbC w7 W k1 k4 nl cf nb cb ur up un c4 an ce Af Ab A4 Ae l zs all U kq Ch Cf Cb cCh cCf cCb x2r x3r j m2 SB (.agg #[.slice Ch x2r.held.length cCh, .slice Cf x2r.flds.length cCf, .bool x2r.begun, .slice Cb x2r.body.length cCb, .bool x2r.ended]) (.agg #[.int .i64 ur, .int .i64 up, .slice A4 un c4]) (.slice Ae an ce) (.int .i64 (j : Int)) (.slice SB m2 (ce - j)) (.int .i64 0) (.int .i64 0) ub0 ub1 ub2 ub3 ub4 ub5 ub6 ub7 ub8 ub9 ub10 ux0 ux1 ux2 ux3 ux4 ux5 ux6 ux7 ux8 ux9 ux10 wld_) (by kernel_rfl) ?h0 ?hfin ?hI
      case h0 => exact ⟨_, _, _, _, _, _, _, _, _, _, _, _, _, _, _, _, _, _, _, _, undef, _, rfl, rfl, ⟨(fun _ => (Below.refl _ _).drew), (fun h => by cases h), (fun h => by cases h), (fun h => by cases h), (fun h => by cases h), (fun h => by cases h), (fun h => by cases h), (fun h => by cases h), (fun h => by cases h), (fun h => by cases h), (fun h => by cases h), (fun h => by cases h), (fun h => by cases h), (fun h => by cases h), (fun h => by cases h), (fun h => by cases h), (fun h => by cases h), (fun h => by cases h), (fun h => by cases h), (fun h => by cases h), (fun h => by cases h)⟩⟩
      case hI =>
        rintro listed a w ⟨ub0, ub1, ub2, ub3, ub4, ub5, ub6, ub7, ub8, ub9, ub10, ux0, ux1, ux2, ux3, ux4, ux5, ux6, ux7, ux8, ux9, ux10, rfl, rfl, H⟩ i hi
        obtain ⟨hun, oj, hoj, hall⟩ := mem_ready.1 hi
        clear hi
        rcases i with _ | _ | _ | _ | _ | _ | _ | _ | _ | _ | _ | i
        · have ho := hoj
          simp only [List.getElem?_toArray, List.getElem?_cons_zero, Option.some.injEq] at hoj
          subst hoj
          obtain rfl : ub0 = false := hun
          clear hall
          obtain rfl : ub5 = false := Bool.eq_false_iff.2 fun h => Bool.false_ne_true (H.d5 h).1
          obtain rfl : ub6 = false := Bool.eq_false_iff.2 fun h => Bool.false_ne_true (H.d6 h)
          obtain rfl : ub7 = false := Bool.eq_false_iff.2 fun h => Bool.false_ne_true (H.d7 h)
          obtain rfl : ub8 = false := Bool.eq_false_iff.2 fun h => Bool.false_ne_true (H.d8 h)
          obtain rfl : ub9 = false := Bool.eq_false_iff.2 fun h => Bool.false_ne_true (H.d9 h).1
          obtain rfl : ub10 = false := Bool.eq_false_iff.2 fun h => Bool.false_ne_true (H.d10 h).1
          have hbe := H.be rfl
          have hx_t4 := H.t4
          have hx_t5 := H.t5
          obtain ⟨y0, y1, y2, y3, y4⟩ := bk5T ((hbe.block _ (lt_of_block J7.out)).trans J7.out)
          refine wpOp_step ho (fun K' hK => ?_)
          have HK := Lib.hid hK
          clear hK ho
          go_simp
          exact HK.out _ _ ⟨_, _, _, _, _, _, _, _, _, _, _, _, _, _, _, _, _, _, _, _, ux9, _, rfl, rfl, ⟨(fun _ => hbe), H.d4, (fun h => by cases h), H.d6, H.d7, H.d8, (fun h => by cases h), (fun h => by cases h), H.t4, H.t5, (fun _ => rfl), H.h1, H.h2, H.h3, H.h4, (fun h => by cases h), (fun h => by cases h), (fun h => by cases h), H.h8, (fun h => by cases h), H.h10⟩⟩
        · have ho := hoj
          simp only [List.getElem?_toArray, List.getElem?_cons_succ, List.getElem?_cons_zero, Option.some.injEq] at hoj
          subst hoj
          obtain rfl : ub1 = false := hun
          clear hall
          obtain rfl : ub5 = false := Bool.eq_false_iff.2 fun h => Bool.false_ne_true (H.d5 h).2.1
          obtain rfl : ub6 = false := Bool.eq_false_iff.2 fun h => Bool.false_ne_true (H.d6 h)
          obtain rfl : ub7 = false := Bool.eq_false_iff.2 fun h => Bool.false_ne_true (H.d7 h)
          obtain rfl : ub8 = false := Bool.eq_false_iff.2 fun h => Bool.false_ne_true (H.d8 h)
          obtain rfl : ub9 = false := Bool.eq_false_iff.2 fun h => Bool.false_ne_true (H.d9 h).2.1
          obtain rfl : ub10 = false := Bool.eq_false_iff.2 fun h => Bool.false_ne_true (H.d10 h).2.1
          have hbe := H.be rfl
          have hx_t4 := H.t4
          have hx_t5 := H.t5
          obtain ⟨q0, q1, q2⟩ := bk3T ((hbe.block _ (lt_of_block RI7.out.h)).trans RI7.out.h)
          refine wpOp_step ho (fun K' hK => ?_)
          have HK := Lib.hid hK
          clear hK ho
          go_simp
          exact HK.out _ _ ⟨_, _, _, _, _, _, _, _, _, _, _, _, _, _, _, _, _, _, _, _, ux9, _, rfl, rfl, ⟨(fun _ => hbe), H.d4, (fun h => by cases h), H.d6, H.d7, H.d8, (fun h => by cases h), (fun h => by cases h), H.t4, H.t5, H.h0, (fun _ => rfl), H.h2, H.h3, H.h4, (fun h => by cases h), (fun h => by cases h), (fun h => by cases h), H.h8, (fun h => by cases h), H.h10⟩⟩
        · have ho := hoj
          simp only [List.getElem?_toArray, List.getElem?_cons_succ, List.getElem?_cons_zero, Option.some.injEq] at hoj
          subst hoj
          obtain rfl : ub2 = false := hun
          clear hall
          obtain rfl : ub4 = false := Bool.eq_false_iff.2 fun h => Bool.false_ne_true (H.d4 h).1
          obtain rfl : ub5 = false := Bool.eq_false_iff.2 fun h => Bool.false_ne_true (H.d5 h).2.2
          obtain rfl : ub6 = false := Bool.eq_false_iff.2 fun h => Bool.false_ne_true (H.d6 h)
          obtain rfl : ub7 = false := Bool.eq_false_iff.2 fun h => Bool.false_ne_true (H.d7 h)
          obtain rfl : ub8 = false := Bool.eq_false_iff.2 fun h => Bool.false_ne_true (H.d8 h)
          obtain rfl : ub9 = false := Bool.eq_false_iff.2 fun h => Bool.false_ne_true (H.d9 h).2.2.1
          obtain rfl : ub10 = false := Bool.eq_false_iff.2 fun h => Bool.false_ne_true (H.d10 h).2.2.1
          have hbe := H.be rfl
          have hx_t4 := H.t4
          have hx_t5 := H.t5
          refine wpOp_step ho (fun K' hK => ?_)
          have HK := Lib.hid hK
          clear hK ho
          go_simp
          exact HK.out _ _ ⟨_, _, _, _, _, _, _, _, _, _, _, _, _, _, _, _, _, _, _, _, ux9, _, rfl, rfl, ⟨(fun _ => hbe), (fun h => by cases h), H.d5, H.d6, H.d7, H.d8, (fun h => by cases h), (fun h => by cases h), H.t4, H.t5, H.h0, H.h1, (fun _ => rfl), H.h3, H.h4, (fun h => by cases h), (fun h => by cases h), (fun h => by cases h), H.h8, (fun h => by cases h), H.h10⟩⟩
        · have ho := hoj
          simp only [List.getElem?_toArray, List.getElem?_cons_succ, List.getElem?_cons_zero, Option.some.injEq] at hoj
          subst hoj
          obtain rfl : ub3 = false := hun
          clear hall
          obtain rfl : ub4 = false := Bool.eq_false_iff.2 fun h => Bool.false_ne_true (H.d4 h).2
          obtain rfl : ub5 = false := Bool.eq_false_iff.2 fun h => Bool.false_ne_true (H.d5 h).2.2
          obtain rfl : ub6 = false := Bool.eq_false_iff.2 fun h => Bool.false_ne_true (H.d6 h)
          obtain rfl : ub7 = false := Bool.eq_false_iff.2 fun h => Bool.false_ne_true (H.d7 h)
          obtain rfl : ub8 = false := Bool.eq_false_iff.2 fun h => Bool.false_ne_true (H.d8 h)
          obtain rfl : ub9 = false := Bool.eq_false_iff.2 fun h => Bool.false_ne_true (H.d9 h).2.2.2.1
          obtain rfl : ub10 = false := Bool.eq_false_iff.2 fun h => Bool.false_ne_true (H.d10 h).2.2.2.1
          have hbe := H.be rfl
          have hx_t4 := H.t4
          have hx_t5 := H.t5
          refine wpOp_step ho (fun K' hK => ?_)
          have HK := Lib.hid hK
          clear hK ho
          go_simp
          exact HK.out _ _ ⟨_, _, _, _, _, _, _, _, _, _, _, _, _, _, _, _, _, _, _, _, ux9, _, rfl, rfl, ⟨(fun _ => hbe), (fun h => by cases h), H.d5, H.d6, H.d7, H.d8, (fun h => by cases h), (fun h => by cases h), H.t4, H.t5, H.h0, H.h1, H.h2, (fun _ => rfl), H.h4, (fun h => by cases h), (fun h => by cases h), (fun h => by cases h), H.h8, (fun h => by cases h), H.h10⟩⟩
        · have ho := hoj
          simp only [List.getElem?_toArray, List.getElem?_cons_succ, List.getElem?_cons_zero, Option.some.injEq] at hoj
          subst hoj
          obtain rfl : ub4 = false := hun
          obtain rfl : ub2 = true := hall ⟨2, .data⟩ (by simp) (by kernel_rfl)
          obtain rfl : ub3 = true := hall ⟨3, .data⟩ (by simp) (by kernel_rfl)
          clear hall
          obtain rfl : ub5 = false := Bool.eq_false_iff.2 fun h => Bool.false_ne_true (H.d5 h).2.2
          obtain rfl : ub6 = false := Bool.eq_false_iff.2 fun h => Bool.false_ne_true (H.d6 h)
          obtain rfl : ub7 = false := Bool.eq_false_iff.2 fun h => Bool.false_ne_true (H.d7 h)
          obtain rfl : ub8 = false := Bool.eq_false_iff.2 fun h => Bool.false_ne_true (H.d8 h)
          obtain rfl : ub9 = false := Bool.eq_false_iff.2 fun h => Bool.false_ne_true (H.d9 h).2.2.2.2.1
          obtain rfl : ub10 = false := Bool.eq_false_iff.2 fun h => Bool.false_ne_true (H.d10 h).2.2.2.2.1
          have hbe := H.be rfl
          have hx_t4 := H.t4
          have hx_t5 := H.t5
          obtain rfl := H.h2 rfl
          obtain rfl := H.h3 rfl
          obtain ⟨hk0, hk1, hk2⟩ := HI3.out
          have hSB := HSB.out
          have hMM := HM2.out
          refine wpOp_step ho (fun K' hK => ?_)
          have HK := Lib.hid hK
          clear hK ho
          go_simp
          exact HK.out _ _ ⟨_, _, _, _, _, _, _, _, _, _, _, _, _, _, _, _, _, _, _, _, ux9, _, rfl, rfl, ⟨(fun _ => hbe), (fun _ => ⟨rfl, rfl⟩), (fun h => by cases h), H.d6, H.d7, H.d8, (fun h => by cases h), (fun h => by cases h), H.t4, H.t5, H.h0, H.h1, H.h2, H.h3, (fun _ => rfl), (fun h => by cases h), (fun h => by cases h), (fun h => by cases h), H.h8, (fun h => by cases h), H.h10⟩⟩
        · have ho := hoj
          simp only [List.getElem?_toArray, List.getElem?_cons_succ, List.getElem?_cons_zero, Option.some.injEq] at hoj
          subst hoj
          obtain rfl : ub5 = false := hun
          obtain rfl : ub0 = true := hall ⟨0, .data⟩ (by simp) (by kernel_rfl)
          obtain rfl : ub1 = true := hall ⟨1, .data⟩ (by simp) (by kernel_rfl)
          obtain rfl : ub4 = true := hall ⟨4, .data⟩ (by simp) (by kernel_rfl)
          obtain rfl : ub2 = true := (H.d4 rfl).1
          obtain rfl : ub3 = true := (H.d4 rfl).2
          clear hall
          obtain rfl : ub6 = false := Bool.eq_false_iff.2 fun h => Bool.false_ne_true (H.d6 h)
          obtain rfl : ub7 = false := Bool.eq_false_iff.2 fun h => Bool.false_ne_true (H.d7 h)
          obtain rfl : ub8 = false := Bool.eq_false_iff.2 fun h => Bool.false_ne_true (H.d8 h)
          obtain rfl : ub9 = false := Bool.eq_false_iff.2 fun h => Bool.false_ne_true (H.d9 h).2.2.2.2.2.1
          obtain rfl : ub10 = false := Bool.eq_false_iff.2 fun h => Bool.false_ne_true (H.d10 h).2.2.2.2.2.1
          have hbe := H.be rfl
          have hx_t4 := H.t4
          have hx_t5 := H.t5
          obtain rfl := H.h0 rfl
          obtain rfl := H.h1 rfl
          obtain rfl := H.h2 rfl
          obtain rfl := H.h3 rfl
          obtain rfl := H.h4 rfl
          refine wpOp_step ho (fun K' hK => ?_)
          have HK := Lib.hid hK
          clear hK ho
          go_wp2_with fail
          refine (HA3.out _ hbe).mono ?_
          rintro e w9 ⟨ub9, v9, rfl, hv9⟩
          have BC := Lib.hid ub9
          have VC := Lib.hid hv9
          clear ub9 hv9
          go_wp2_with fail
          exact HK.out _ _ ⟨_, _, _, _, _, _, _, _, _, _, _, _, _, _, _, _, _, _, _, _, ux9, _, rfl, rfl, ⟨(fun _ => hbe.trans (BC.out.mono hbe.size)), H.d4, (fun _ => ⟨rfl, rfl, rfl⟩), (fun h => by cases h), H.d7, H.d8, (fun h => by cases h), (fun h => by cases h), fun _ => ⟨_, rfl⟩, hx_t5, H.h0, H.h1, H.h2, H.h3, H.h4, (fun _ _ => ⟨_, rfl, VC.out⟩), (fun h => by cases h), (fun h => by cases h), H.h8, (fun h => by cases h), H.h10⟩⟩
        · have ho := hoj
          simp only [List.getElem?_toArray, List.getElem?_cons_succ, List.getElem?_cons_zero, Option.some.injEq] at hoj
          subst hoj
          obtain rfl : ub6 = false := hun
          obtain rfl : ub5 = true := hall ⟨5, .data⟩ (by simp) (by kernel_rfl)
          obtain rfl : ub0 = true := (H.d5 rfl).1
          obtain rfl : ub1 = true := (H.d5 rfl).2.1
          obtain rfl : ub4 = true := (H.d5 rfl).2.2
          obtain rfl : ub2 = true := (H.d4 rfl).1
          obtain rfl : ub3 = true := (H.d4 rfl).2
          clear hall
          obtain rfl : ub7 = false := Bool.eq_false_iff.2 fun h => Bool.false_ne_true (H.d7 h)
          obtain rfl : ub8 = false := Bool.eq_false_iff.2 fun h => Bool.false_ne_true (H.d8 h)
          obtain rfl : ub9 = false := Bool.eq_false_iff.2 fun h => Bool.false_ne_true (H.d9 h).2.2.2.2.2.2.1
          obtain rfl : ub10 = false := Bool.eq_false_iff.2 fun h => Bool.false_ne_true (H.d10 h).2.2.2.2.2.2.1
          have hbe := H.be rfl
          have hx_t4 := H.t4
          have hx_t5 := H.t5
          obtain rfl := H.h0 rfl
          obtain rfl := H.h1 rfl
          obtain rfl := H.h2 rfl
          obtain rfl := H.h3 rfl
          obtain rfl := H.h4 rfl
          have P5 := H.h5 rfl rfl
          have PT := Lib.hid P5
          have TT := Lib.hid (H.t4 rfl)
          clear P5
          refine wpOp_step ho (fun K' hK => ?_)
          have HK := Lib.hid hK
          clear hK ho
          go_simp
          exact HK.out _ _ ⟨_, _, _, _, _, _, _, _, _, _, _, _, _, _, _, _, _, _, _, _, ux9, _, rfl, rfl, ⟨(fun _ => hbe), H.d4, H.d5, (fun _ => rfl), (fun h => by cases h), (fun h => by cases h), (fun h => by cases h), (fun h => by cases h), H.t4, fun _ => TT.out, H.h0, H.h1, H.h2, H.h3, H.h4, H.h5, (fun _ _ => PT.out), (fun h => by cases h), H.h8, (fun h => by cases h), H.h10⟩⟩
        · have ho := hoj
          simp only [List.getElem?_toArray, List.getElem?_cons_succ, List.getElem?_cons_zero, Option.some.injEq] at hoj
          subst hoj
          obtain rfl : ub7 = false := hun
          obtain rfl : ub6 = true := hall ⟨6, .data⟩ (by simp) (by kernel_rfl)
          obtain rfl : ub5 = true := (H.d6 rfl)
          obtain rfl : ub0 = true := (H.d5 rfl).1
          obtain rfl : ub1 = true := (H.d5 rfl).2.1
          obtain rfl : ub4 = true := (H.d5 rfl).2.2
          obtain rfl : ub2 = true := (H.d4 rfl).1
          obtain rfl : ub3 = true := (H.d4 rfl).2
          clear hall
          obtain rfl : ub9 = false := Bool.eq_false_iff.2 fun h => Bool.false_ne_true (H.d9 h).2.2.2.2.2.2.2
          obtain rfl : ub10 = false := Bool.eq_false_iff.2 fun h => Bool.false_ne_true (H.d10 h).2.2.2.2.2.2.2.1
          have hbe := H.be rfl
          have hx_t4 := H.t4
          have hx_t5 := H.t5
          obtain rfl := H.h0 rfl
          obtain rfl := H.h1 rfl
          obtain rfl := H.h2 rfl
          obtain rfl := H.h3 rfl
          obtain rfl := H.h4 rfl
          have P5 := H.h5 rfl rfl
          have P6 := H.h6 rfl rfl
          obtain ⟨u, rfl, hu⟩ := P6
          have HU := Lib.hid hu
          clear hu
          refine wpOp_step ho (fun K' hK => ?_)
          have HK := Lib.hid hK
          clear hK ho
          go_simp
          exact HK.out _ _ ⟨_, _, _, _, _, _, _, _, _, _, _, _, _, _, _, _, _, _, _, _, ux9, _, rfl, rfl, ⟨(fun _ => hbe), H.d4, H.d5, H.d6, (fun _ => rfl), H.d8, (fun h => by cases h), (fun h => by cases h), H.t4, H.t5, H.h0, H.h1, H.h2, H.h3, H.h4, H.h5, H.h6, (fun _ _ => HU.out), H.h8, (fun h => by cases h), H.h10⟩⟩
        · have ho := hoj
          simp only [List.getElem?_toArray, List.getElem?_cons_succ, List.getElem?_cons_zero, Option.some.injEq] at hoj
          subst hoj
          obtain rfl : ub8 = false := hun
          obtain rfl : ub6 = true := hall ⟨6, .data⟩ (by simp) (by kernel_rfl)
          obtain rfl : ub5 = true := (H.d6 rfl)
          obtain rfl : ub0 = true := (H.d5 rfl).1
          obtain rfl : ub1 = true := (H.d5 rfl).2.1
          obtain rfl : ub4 = true := (H.d5 rfl).2.2
          obtain rfl : ub2 = true := (H.d4 rfl).1
          obtain rfl : ub3 = true := (H.d4 rfl).2
          clear hall
          obtain rfl : ub10 = false := Bool.eq_false_iff.2 fun h => Bool.false_ne_true (H.d10 h).2.2.2.2.2.2.2.2.1
          have hx_t4 := H.t4
          have hx_t5 := H.t5
          obtain rfl := H.h0 rfl
          obtain rfl := H.h1 rfl
          obtain rfl := H.h2 rfl
          obtain rfl := H.h3 rfl
          obtain rfl := H.h4 rfl
          obtain ⟨u, rfl⟩ := H.t5 rfl
          refine wpOp_step ho (fun K' hK => ?_)
          have HK := Lib.hid hK
          clear hK ho
          go_simp
          exact HK.out _ _ ⟨_, _, _, _, _, _, _, _, _, _, _, _, _, _, _, _, _, _, _, _, ux9, _, rfl, rfl, ⟨H.be, H.d4, H.d5, H.d6, H.d7, (fun _ => rfl), H.d9, (fun h => by cases h), H.t4, H.t5, H.h0, H.h1, H.h2, H.h3, H.h4, H.h5, H.h6, H.h7, (fun _ => rfl), H.h9, H.h10⟩⟩
        · have ho := hoj
          simp only [List.getElem?_toArray, List.getElem?_cons_succ, List.getElem?_cons_zero, Option.some.injEq] at hoj
          subst hoj
          obtain rfl : ub9 = false := hun
          obtain rfl : ub0 = true := hall ⟨0, .phase⟩ (by simp) (by kernel_rfl)
          obtain rfl : ub1 = true := hall ⟨1, .phase⟩ (by simp) (by kernel_rfl)
          obtain rfl : ub2 = true := hall ⟨2, .phase⟩ (by simp) (by kernel_rfl)
          obtain rfl : ub3 = true := hall ⟨3, .phase⟩ (by simp) (by kernel_rfl)
          obtain rfl : ub4 = true := hall ⟨4, .phase⟩ (by simp) (by kernel_rfl)
          obtain rfl : ub5 = true := hall ⟨5, .chain⟩ (by simp) (by kernel_rfl)
          obtain rfl : ub6 = true := hall ⟨6, .phase⟩ (by simp) (by kernel_rfl)
          obtain rfl : ub7 = true := hall ⟨7, .data⟩ (by simp) (by kernel_rfl)
          clear hall
          obtain rfl : ub10 = false := Bool.eq_false_iff.2 fun h => Bool.false_ne_true (H.d10 h).2.2.2.2.2.2.2.2.2
          have hbe := H.be rfl
          have hx_t4 := H.t4
          have hx_t5 := H.t5
          obtain rfl := H.h0 rfl
          obtain rfl := H.h1 rfl
          obtain rfl := H.h2 rfl
          obtain rfl := H.h3 rfl
          obtain rfl := H.h4 rfl
          have P5 := H.h5 rfl rfl
          have P6 := H.h6 rfl rfl
          have P7 := H.h7 rfl rfl
          have hq := (hbe.block _ (lt_of_block J7.out)).trans J7.out
          obtain ⟨Dh, cDh, Df, cDf, Db, cDb, rfl, hv9⟩ := P7.split
          obtain ⟨k1', gp⟩ := bk5_blk hq (.slice Dh x3r.held.length cDh) (.slice Df x3r.flds.length cDf) (.bool x3r.begun) (.slice Db x3r.body.length cDb) (.bool x3r.ended)
          have KQ := Lib.hid k1'
          have VQ := Lib.hid (hv9.grX hq plain5 gp)
          have RQ9 := Lib.hid ((RI7.out.on hbe).put hq plain5 gp HQW.out HQ1.out HQ4.out)
          obtain ⟨q0, q1, q2, q3, q4⟩ := bk5T hq
          have qf := fun i => bk_frz hq i
          clear hq hv9 k1' gp
          refine wpOp_step ho (fun K' hK => ?_)
          have HK := Lib.hid hK
          clear hK ho
          go_simp
          exact HK.out _ _ ⟨_, _, _, _, _, _, _, _, _, _, _, _, _, _, _, _, _, _, _, _, ux9, _, rfl, rfl, ⟨(fun h => by cases h), H.d4, H.d5, H.d6, H.d7, H.d8, (fun _ => ⟨rfl, rfl, rfl, rfl, rfl, rfl, rfl, rfl⟩), (fun h => by cases h), H.t4, H.t5, H.h0, H.h1, H.h2, H.h3, H.h4, (fun _ h => by cases h), (fun _ h => by cases h), (fun _ h => by cases h), H.h8, (fun _ => ⟨_, _, _, _, _, _, KQ.out, VQ.out, RQ9.out⟩), H.h10⟩⟩
        · have ho := hoj
          simp only [List.getElem?_toArray, List.getElem?_cons_succ, List.getElem?_cons_zero, Option.some.injEq] at hoj
          subst hoj
          obtain rfl : ub10 = false := hun
          obtain rfl : ub0 = true := hall ⟨0, .phase⟩ (by simp) (by kernel_rfl)
          obtain rfl : ub1 = true := hall ⟨1, .phase⟩ (by simp) (by kernel_rfl)
          obtain rfl : ub2 = true := hall ⟨2, .phase⟩ (by simp) (by kernel_rfl)
          obtain rfl : ub3 = true := hall ⟨3, .phase⟩ (by simp) (by kernel_rfl)
          obtain rfl : ub4 = true := hall ⟨4, .phase⟩ (by simp) (by kernel_rfl)
          obtain rfl : ub5 = true := hall ⟨5, .phase⟩ (by simp) (by kernel_rfl)
          obtain rfl : ub6 = true := hall ⟨6, .phase⟩ (by simp) (by kernel_rfl)
          obtain rfl : ub7 = true := hall ⟨7, .phase⟩ (by simp) (by kernel_rfl)
          obtain rfl : ub8 = true := hall ⟨8, .data⟩ (by simp) (by kernel_rfl)
          obtain rfl : ub9 = true := hall ⟨9, .chain⟩ (by simp) (by kernel_rfl)
          clear hall
          have hx_t4 := H.t4
          have hx_t5 := H.t5
          obtain rfl := H.h0 rfl
          obtain rfl := H.h1 rfl
          obtain rfl := H.h2 rfl
          obtain rfl := H.h3 rfl
          obtain rfl := H.h4 rfl
          obtain rfl := H.h8 rfl
          have P9 := H.h9 rfl
          refine wpOp_step ho (fun K' hK => ?_)
          have HK := Lib.hid hK
          clear hK ho
          go_simp
          exact HK.out _ _ ⟨_, _, _, _, _, _, _, _, _, _, _, _, _, _, _, _, _, _, _, _, ux9, _, rfl, rfl, ⟨(fun h => by cases h), H.d4, H.d5, H.d6, H.d7, H.d8, H.d9, (fun _ => ⟨rfl, rfl, rfl, rfl, rfl, rfl, rfl, rfl, rfl, rfl⟩), H.t4, H.t5, H.h0, H.h1, H.h2, H.h3, H.h4, (fun _ h => by cases h), (fun _ h => by cases h), (fun _ h => by cases h), H.h8, H.h9, (fun _ => rfl)⟩⟩
        · have ho := hoj
          simp at ho
      case hfin =>
        rintro listed a w ⟨ub0, ub1, ub2, ub3, ub4, ub5, ub6, ub7, ub8, ub9, ub10, ux0, ux1, ux2, ux3, ux4, ux5, ux6, ux7, ux8, ux9, ux10, rfl, rfl, H⟩ hr
        have hb : ub10 = true := by
          clear H
          revert ub0 ub1 ub2 ub3 ub4 ub5 ub6 ub7 ub8 ub9 ub10
          decide +kernel
        subst hb
        clear hr
        obtain rfl : ub0 = true := (H.d10 rfl).1
        obtain rfl : ub1 = true := (H.d10 rfl).2.1
        obtain rfl : ub2 = true := (H.d10 rfl).2.2.1
        obtain rfl : ub3 = true := (H.d10 rfl).2.2.2.1
        obtain rfl : ub4 = true := (H.d10 rfl).2.2.2.2.1
        obtain rfl : ub5 = true := (H.d10 rfl).2.2.2.2.2.1
        obtain rfl : ub6 = true := (H.d10 rfl).2.2.2.2.2.2.1
        obtain rfl : ub7 = true := (H.d10 rfl).2.2.2.2.2.2.2.1
        obtain rfl : ub8 = true := (H.d10 rfl).2.2.2.2.2.2.2.2.1
        obtain rfl : ub9 = true := (H.d10 rfl).2.2.2.2.2.2.2.2.2
        obtain ⟨Dh, cDh, Df, cDf, Db, cDb, hq, hv9, hb9⟩ := H.h9 rfl
        have e7 := H.h10 rfl
        have J8 := Lib.hid hq
        have HV8 := Lib.hid hv9
        have RI8 := Lib.hid hb9
        clear hq hv9 hb9 H
        obtain ⟨w8, hw9⟩ : ∃ x, x = w := ⟨_, rfl⟩
        subst w
        subst e7
        obtain rfl := HX3R.out
        have J8' := J8.out
        obtain ⟨hh3, hf3, hb3⟩ := HV8.out.parts
        dsimp only [List.length_nil] at J8' hh3 hf3 hb3
        rw [HNL.out] at J8' hf3
        rw [HZB.out] at J8' hb3
        have HD := Lib.hid (feed_any Dh Df Db none 0 cDh nl cDf nb cDb 0 0 true ⟨[], l, true, zs, true⟩ [] _ U w8 hh3 hf3 hb3 (bslN0 _ _) RI8.out.v HUW.out (by have := HN7.out; omega))
        rw [HDN.out U] at HD
        dsimp only [rd0] at HD
        have HL3 := Lib.hid hf3
        have HZ3 := Lib.hid hb3
        have J8a := Lib.hid J8'
        clear HA3 HI3 HSB HM2 RI7 J7 HV7 J8 HV8 J8' hh3 hf3 hb3
        obtain ⟨y0, y1, y2, y3, y4⟩ := bk5T J8a.out
        obtain ⟨q0, q1, q2⟩ := bk3T RI8.out.h
        go_wp2_with fail
        refine (HD.out).mono ?_
        clear y0 y1 y2 y3 y4 q0 q1 q2
        rintro e w9 ⟨b9, v9, rfl, hr9⟩
        obtain ⟨Eh, eh, Ef, ef, Eb, eb, rfl, _, _, _⟩ := hr9.ex
        dsimp only [rd0, List.length_nil]
        have XB := (Below.refl w9.heap.size w9).alloc (Nat.le_refl _) (.cells #[.slice Eh 0 eh, .slice Ef 0 ef, .bool false, .slice Eb 0 eb, .bool false] 40)
        have bb := b9.trans (XB.mono b9.size)
        have RI9 := Lib.hid (RI8.out.on bb)
        have J9 := Lib.hid ((bb.block _ (lt_of_block J8a.out)).trans J8a.out)
        have LX := Lib.hid (HL3.out.on bb)
        have ZX := Lib.hid (bsl_onF HZ3.out bb)
        clear b9 bb XB hr9 RI8 J8a HL3 HZ3 HD
        go_upto_region 10 with fail
        obtain ⟨wA, hwA⟩ : ∃ q, w9.alloc (.cells #[.slice Eh 0 eh, .slice Ef 0 ef, .bool false, .slice Eb 0 eb, .bool false] 40) = q := ⟨_, rfl⟩
        rw [hwA] at RI9 J9 LX ZX ⊢
        clear hwA
        obtain ⟨y0, y1, y2, y3, y4⟩ := bk5T J9.out
        go_wp2_with fail
        refine (HTL.out _).mono ?_
        clear y0 y1 y2 y3 y4
        rintro e v1 ⟨rfl, c1'⟩
        have R9 := Lib.hid (RI9.out.on c1')
        have G9 := Lib.hid ((c1'.block _ (lt_of_block J9.out)).trans J9.out)
        have L9 := Lib.hid (LX.out.on c1')
        have Z9 := Lib.hid (bsl_onF ZX.out c1')
        clear c1' RI9 J9 LX ZX
        obtain ⟨y0, y1, y2, y3, y4⟩ := bk5T G9.out
        obtain ⟨u0, u1⟩ := bk2F R9.out.f
        obtain ⟨_, _, er, _, _, rr⟩ := R9.out.r.ex
        injection er with er1 er2 er3
        subst er1 er3
        obtain ⟨_, _, el, _, _, rl⟩ := L9.out.ex
        injection el with el1 el2 el3
        subst el1 el3
        clear er2 el2
        go_wp2_with fail
        refine (ksameFd_eq _ _ _ _ _ l v1 rl rr HNL.out HN8.out).mono ?_
        clear y0 y1 y2 y3 y4 u0 u1 rr rl L9
        rintro e v2 ⟨rfl, c2'⟩
        have Ra := Lib.hid (R9.out.on c2')
        have Ga := Lib.hid ((c2'.block _ (lt_of_block G9.out)).trans G9.out)
        obtain ⟨_, _, ez, _, _, _, rz⟩ := (bsl_onF Z9.out c2').ex
        obtain ⟨_, _, es, _, _, _, rs'⟩ := Ra.out.z.ex
        injection ez with ez1 ez2 ez3
        injection es with es1 es2 es3
        subst ez1 ez3 es1 es3
        have hc1 := run_str (P := Tryd.prog) (w := v2) rz HZB.out 25 9 5 cDb Tryd.underlying25 Tryd.underlying5 Tryd.underlying9
        have hc2 := run_str (P := Tryd.prog) (w := v2) rs' HZB.out 25 9 5 cb Tryd.underlying25 Tryd.underlying5 Tryd.underlying9
        obtain ⟨y0, y1, y2, y3, y4⟩ := bk5T Ga.out
        obtain ⟨u0, u1⟩ := bk2F Ra.out.f
        clear c2' rz rs' ez2 es2 G9 R9 Z9
        go_wp2_with fail
        go_ret
        exact ⟨by first | rfl | simp, Ra.out.b⟩
end Go.Proofs.YtpfahdogedchpaaDoor
