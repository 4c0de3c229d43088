/- The document's RequestBytes. -/
import Derived.Test.YtfoagelemjdglaaDoorRqP5
import Derived.Test.YtfoagelemjdglaaDoorRqRef1
import Derived.Test.YtfoagelemjdglaaDoorGrpS
import Derived.Test.YtfoagelemjdglaaDoorGrpC
namespace Go.Proofs.YtfoagelemjdglaaDoor.P
set_option linter.unusedVariables false
open Go.RowKit
/-- what the document's FieldsBytes says -/
def FdEncS (P : Program) (f : FuncId) : Prop := ∀ (v : Value) (t : Tb) (A : Option Addr) (n c : Nat) (l : List Fld) (ahead : Bool) (W : World), TbVal W W.heap.size v t → TbWf t → RowE FdE W W.heap.size A l → l.length = n → n ≤ c → (∀ x ∈ l, FdWf x) → n ≤ 8796093022208 →
  Calls P f #[v, .slice A n c, .bool ahead] W fun e w' => Below W.heap.size W w' ∧ ∃ v', e = .returned (.tuple #[v', .string (strOfNums (encFl t l ahead).2.1), .string (strOfNums (encFl t l ahead).2.2.1), .int .i64 (encFl t l ahead).2.2.2]) ∧ TbVal w' w'.heap.size v' (encFl t l ahead).1
def RqWrS (P : Program) (f : FuncId) : Prop := ∀ (v : Value) (t : Tb) (A : Option Addr) (n c : Nat) (l : List Fld) (Ab : Option Addr) (nb cb : Nat) (body : List Int) (ahead : Bool) (W : World), TbVal W W.heap.size v t → TbWf t → RowE FdE W W.heap.size A l → l.length = n → n ≤ c → c ≤ maxLen → (∀ x ∈ l, FdWf x) → n ≤ 8796093022208 → BSl W W.heap.size (.slice Ab nb cb) body →
  Calls P f #[v, .agg #[.slice A n c, .slice Ab nb cb], .bool ahead] W fun e w' => Below W.heap.size W w' ∧ ∃ v', e = .returned (.tuple #[v', .string (strOfNums (wrRq t l body ahead).2.1), .string (strOfNums (wrRq t l body ahead).2.2.1), .int .i64 (wrRq t l body ahead).2.2.2]) ∧ TbVal w' w'.heap.size v' (wrRq t l body ahead).1
end Go.Proofs.YtfoagelemjdglaaDoor.P
namespace Go.Proofs.YtfoagelemjdglaaDoor
set_option linter.unusedVariables false
open Go.RowKit P

structure RqB (w0 : World) (W : World) (SA SV SB : ByteArray) (Ab : Option Addr) (nb cb : Nat) (V0 V1 V2 V3 V4 V5 V6 V7 V8 V9 V10 V11 : Value) (sb0 sb1 sb2 sb3 sb4 sb5 sb6 sb7 sb8 sb9 sb10 sb11 : Bool) (sx0 sx1 sx2 sx3 sx4 sx5 sx6 sx7 sx8 sx9 sx10 sx11 : Value) (w : World) : Prop where
  be : Below w0.heap.size w0 w
  d2 : sb2 = true → sb1 = true
  d3 : sb3 = true → sb2 = true
  d4 : sb4 = true → sb3 = true
  d5 : sb5 = true → sb4 = true
  d7 : sb7 = true → sb6 = true
  d8 : sb8 = true → sb7 = true
  d9 : sb9 = true → sb5 = true ∧ sb8 = true
  d10 : sb10 = true → sb0 = true ∧ sb9 = true
  d11 : sb11 = true → sb0 = true ∧ sb1 = true ∧ sb2 = true ∧ sb3 = true ∧ sb4 = true ∧ sb5 = true ∧ sb6 = true ∧ sb7 = true ∧ sb8 = true ∧ sb9 = true ∧ sb10 = true
  s12 : sb11 = false → sx11 = .string SA
  h0 : sb0 = true → sx0 = V0
  h1 : sb1 = true → sx1 = V1
  h2 : sb2 = true → sx2 = V2
  h3 : sb3 = true → sx3 = V3
  h4 : sb4 = true → sx4 = V4
  h5 : sb5 = true → sx5 = V5
  h6 : sb6 = true → sx6 = V6
  h7 : sb7 = true → sx7 = V7
  h8 : sb8 = true → sx8 = V8
  h9 : sb9 = true → sx9 = V9
  h10 : sb10 = true → sx10 = V10
  h11 : sb11 = true → sx11 = V11
set_option maxRecDepth 100000 in
set_option maxHeartbeats 8000000 in
theorem refRqB_core (hFB : FdEncS Tryd.prog 26) : RqWrS Tryd.prog 10 := fun v t A n c l Ab nb cb body ahead W hv hw h hn hnc hc hwf hm hb => by
  have HCK := Lib.hid (fun w (b : Below W.heap.size W w) => refRqF_any A n c l w (h.on b) hn hnc hc hwf hm)
  have HEN := Lib.hid (fun w v (hv : TbVal w w.heap.size v t) (b : Below W.heap.size W w) => hFB v t A n c l ahead w hv hw (h.on b) hn hnc hwf hm)
  have HSL := Lib.hid (encFl_secs (t := t) (ahead := ahead) hwf)
  have HBB := Lib.hid hb
  have hnb : body.length = nb := by obtain ⟨_, _, e, _⟩ := hb.ex; cases e; rfl
  have HNB := Lib.hid hnb
  have HV := Lib.hid hv
  obtain ⟨At, nt, ct, room, put, rfl, hv'⟩ := tb_partsR hv
  have I0 := Lib.hid (Bx3.new W #[.int .i64 room, .int .i64 put, .slice At nt ct] #[.slice A n c, .slice Ab nb cb] #[.int .i64 0, .int .i64 0, .slice none 0 0] 24 27 24)
  obtain ⟨V0, hV0⟩ : ∃ V, ((W.alloc (.cells #[.int .i64 room, .int .i64 put, .slice At nt ct] 24)).alloc (.cells #[.slice A n c, .slice Ab nb cb] 27)).alloc (.cells #[.int .i64 0, .int .i64 0, .slice none 0 0] 24) = V := ⟨_, rfl⟩
  rw [hV0] at I0
  have hR : wrRq t l body ahead = if faultRq l ≠ 0 then (tb0, [], [], faultRq l) else if 200 < body.length then (tb0, [], [], 1) else if (encFl t l ahead).2.2.2 ≠ 0 then (tb0, [], [], (encFl t l ahead).2.2.2) else ((encFl t l ahead).1, (encFl t l ahead).2.1, reqT (encFl t l ahead).2.2.1 body, 0) := rfl
  rw [hR, hnb]
  obtain ⟨x, hx⟩ : ∃ x, faultRq l = x := ⟨_, rfl⟩
  rw [hx] at HCK ⊢
  obtain ⟨⟨T2, TL, SEC, y⟩, hy⟩ : ∃ r, encFl t l ahead = r := ⟨_, rfl⟩
  rw [hy] at HEN HSL ⊢
  dsimp only at HEN HSL
  obtain ⟨SS, hSS⟩ : ∃ S, strOfNums SEC = S := ⟨_, rfl⟩
  have HSS := Lib.hid hSS
  obtain ⟨ST, hST⟩ : ∃ S, strOfNums TL = S := ⟨_, rfl⟩
  have HSTT := Lib.hid hST
  rw [hSS, hST] at HEN
  have hmty : strOfNums [] = ({ data := #[] } : ByteArray) := by rfl
  have HMT := Lib.hid hmty
  clear hv h hn hnc hc hwf hm hb hx hy hR hnb hw hv' hSS hST hmty
  by_cases hx0 : x = 0
  · subst hx0
    rw [if_neg (fun k => k rfl)]
    by_cases h2 : 200 < nb
    · rw [if_pos h2]
      have h2' : (200 : Int) < (nb : Int) := by omega
      go_enter Tryd.func10, Tryd.ntmps10
      obtain ⟨q0, q1⟩ := bk2F I0.out.y
      go_wp2_with fail
      refine (HCK.out _ I0.out.b).mono ?_
      rintro e w1 ⟨rfl, b1⟩
      have I1 := Lib.hid (I0.out.later b1)
      clear b1 q0 q1
      obtain ⟨y0, y1⟩ := bk2F I1.out.y
      obtain ⟨z0, z1, z2⟩ := bk3T I1.out.z
      have zf := fun i => bk_frz I1.out.z i
      go_wp2_with fail
      obtain ⟨k1, gp⟩ := bk3_blk I1.out.z (.int .i64 0) (.int .i64 0) (.slice none 0 0)
      obtain ⟨r0, r1, r2⟩ := bk3T k1
      refine bodyPost_ret (by simp [results, Tryd.results10, go_sem, r0, r1, r2]; try rfl) rfl ?_
      exact ⟨(I1.out.setZ k1 gp).b, _, rfl, TbVal.zero _ _⟩
    · rw [if_neg h2]
      have h2' : ¬ (200 : Int) < (nb : Int) := by omega
      by_cases hy0 : y = 0
      · subst hy0
        rw [if_neg (fun k => k rfl)]
        go_enter Tryd.func10, Tryd.ntmps10
        obtain ⟨q0, q1⟩ := bk2F I0.out.y
        go_wp2_with fail
        refine (HCK.out _ I0.out.b).mono ?_
        rintro e w1 ⟨rfl, b1⟩
        have I1 := Lib.hid (I0.out.later b1)
        clear b1 q0 q1
        obtain ⟨y0, y1⟩ := bk2F I1.out.y
        obtain ⟨x0, x1, x2⟩ := bk3T I1.out.x
        go_wp2_with fail
        refine (HEN.out _ _ (HV.out.on I1.out.b) I1.out.b).mono ?_
        clear x0 x1 x2 y0 y1
        rintro e w2 ⟨b2, v2, rfl, hv2⟩
        obtain ⟨A2, n2, c2, ur, up, rfl, hv3⟩ := tb_partsR hv2
        have I2 := Lib.hid (I1.out.later b2)
        obtain ⟨k2, g2⟩ := bk3_blk I2.out.x (.int .i64 ur) (.int .i64 up) (.slice A2 n2 c2)
        have I3 := I2.out.setX k2 g2
        have V3 := (hv3.gr I2.out.x g2).more g2.size
        obtain ⟨x0, x1, x2⟩ := bk3T I2.out.x
        have xf := fun i => bk_frz I2.out.x i
        clear b2 hv2 hv3 k2 g2
        go_upto_region 7 with fail
        obtain ⟨w3, hw3⟩ : ∃ w9, ((w2.setCell ⟨W.heap.size, 0, none⟩ (.int .i64 ur)).setCell ⟨W.heap.size, 1, none⟩ (.int .i64 up)).setCell ⟨W.heap.size, 2, none⟩ (.slice A2 n2 c2) = w9 := ⟨_, rfl⟩
        rw [hw3] at I3 V3 ⊢
        have J2 := Lib.hid I3
        have T2 := Lib.hid V3
        clear hw3 I3 V3 x0 x1 x2 xf
        have HLE := Lib.hid (fun w => varText_in (SEC.length : Int) (by omega) (by have := HSL.out; omega) w)
        have zS : SS.size ≤ 3000 := by rw [← HSS.out, strOfNums_size]; exact HSL.out
        have hSn : SS.size = SEC.length := by rw [← HSS.out, strOfNums_size]
        obtain ⟨SL, hSL⟩ : ∃ S, strOfNums (enc (SEC.length : Int)) = S := ⟨_, rfl⟩
        have HSLL := Lib.hid hSL
        have zL : SL.size ≤ 2 := by rw [← hSL, strOfNums_size]; exact enc_len2 (by have := HSL.out; omega)
        rw [hSL] at HLE
        rw [← hSn] at HLE
        have zc : ({ data := #[1] } : ByteArray).size = 1 := by rfl
        clear hSL hSn
        go_wp2_with fail
        refine (HLE.out _).mono ?_
        rintro e w4 ⟨rfl, b4⟩
        have J3 := Lib.hid (J2.out.later b4)
        have T3 := Lib.hid (T2.out.on b4)
        obtain ⟨S43, h43⟩ : ∃ S, ({ data := #[1] } : ByteArray) ++ SL = S := ⟨_, rfl⟩
        have z43 : S43.size ≤ 3 := by rw [← h43, ByteArray.size_append]; omega
        obtain ⟨SA, hSA⟩ : ∃ S, S43 ++ SS = S := ⟨_, rfl⟩
        have ZA := Lib.hid (show SA.size ≤ 3003 by rw [← hSA, ByteArray.size_append]; omega)
        have HSA := Lib.hid (show SA = strOfNums (enc 1 ++ (enc (SEC.length : Int) ++ SEC)) by
          rw [← hSA, ← h43, ← HSS.out, ← HSLL.out, show ({ data := #[1] } : ByteArray) = strOfNums (enc 1) by rfl]
          simp only [str_cat, List.append_assoc])
        have H43 := Lib.hid h43
        have HSA2 := Lib.hid hSA
        clear b4 h43 hSA
        obtain ⟨y0, y1⟩ := bk2F J3.out.y
        by_cases hb0 : nb = 0
        · subst hb0
          have HB0 := Lib.hid (show body = [] from List.eq_nil_of_length_eq_zero HNB.out)
          go_upto_region 12 with fail
          rw [H43.out, HSA2.out]
          clear y0 y1
          obtain ⟨z0, z1, z2⟩ := bk3T J3.out.z
          have zf := fun i => bk_frz J3.out.z i
          obtain ⟨x0, x1, x2⟩ := bk3T J3.out.x
          go_wp2_with fail
          obtain ⟨k1, gp⟩ := bk3_blk J3.out.z (.int .i64 ur) (.int .i64 up) (.slice A2 n2 c2)
          obtain ⟨r0, r1, r2⟩ := bk3T k1
          refine bodyPost_ret (by simp [results, Tryd.results10, go_sem, r0, r1, r2]; try rfl) rfl ?_
          exact ⟨(J3.out.setZ k1 gp).b, _, by rw [HSTT.out, show strOfNums (reqT SEC body) = SA by rw [HSA.out, HB0.out]; unfold reqT bodT; simp], (T3.out.gr J3.out.z gp).more gp.size⟩
        · have hb1 : (0 : Int) < (nb : Int) := by omega
          have HVT := Lib.hid (fun w => varText_in (nb : Int) (by omega) (by omega) w)
          obtain ⟨SV, hSV⟩ : ∃ S, strOfNums (enc (nb : Int)) = S := ⟨_, rfl⟩
          rw [hSV] at HVT
          have ZV := Lib.hid (show SV.size ≤ 2 by rw [← hSV, strOfNums_size]; exact enc_len2 (by omega))
          obtain ⟨SB, hSB⟩ : ∃ S, strOfNums body = S := ⟨_, rfl⟩
          have ZB := Lib.hid (show SB.size ≤ 200 by rw [← hSB, strOfNums_size]; have := HNB.out; omega)
          have zc0 : ({ data := #[0] } : ByteArray).size = 1 := by rfl
          have ZQ := Lib.hid (show (({ data := #[0] } : ByteArray) ++ SV).size ≤ 3 by rw [ByteArray.size_append, zc0]; have := ZV.out; omega)
          have Z59 := Lib.hid (show (({ data := #[0] } : ByteArray) ++ SV ++ SB).size ≤ 203 by rw [ByteArray.size_append]; have := ZQ.out; have := ZB.out; omega)
          have hne : body ≠ [] := fun e => by have := HNB.out; rw [e] at this; simp at this; omega
          have HFIN := Lib.hid (show strOfNums (reqT SEC body) = SA ++ (({ data := #[0] } : ByteArray) ++ SV ++ SB) by
            rw [HSA.out, ← hSV, ← hSB, show ({ data := #[0] } : ByteArray) = strOfNums (enc 0) by rfl]
            simp only [str_cat, List.append_assoc]
            unfold reqT bodT
            rw [if_neg hne, HNB.out]
            simp)
          clear hne zc0
          go_upto_region 11 with fail
          rw [H43.out, HSA2.out]
          clear y0 y1
          obtain ⟨w5, hw5⟩ : ∃ q, q = w4 := ⟨_, rfl⟩
          subst hw5
          have HCV := Lib.hid (fun w (b : Below w5.heap.size w5 w) => hSB ▸ run_str (P := Tryd.prog) (w := w) (B := w.heap.size) (by obtain ⟨A', c', e, _, _, _, q⟩ := (bsl_onF (bsl_onF HBB.out J3.out.b) b).ex; cases e; exact q) HNB.out 25 9 5 cb Tryd.underlying25 Tryd.underlying5 Tryd.underlying9)
          obtain ⟨bz, hbz⟩ : ∃ b, decide (0 < nb) = b := ⟨_, rfl⟩
          obtain ⟨by2, hby⟩ : ∃ b, decide ((200 : Int) < (nb : Int)) = b := ⟨_, rfl⟩
          rw [hbz, hby]
          clear hSV hSB hb0 hb1 hbz hby
          refine wp_region_inv (fun lis_ act_ wld_ => ∃ (sb0 sb1 sb2 sb3 sb4 sb5 sb6 sb7 sb8 sb9 sb10 sb11 : Bool) (sx0 sx1 sx2 sx3 sx4 sx5 sx6 sx7 sx8 sx9 sx10 sx11 : Value), lis_ = #[sb0, sb1, sb2, sb3, sb4, sb5, sb6, sb7, sb8, sb9, sb10, sb11] ∧ act_ = { tmps := #[Value.agg #[Value.int IntKind.i64 room, Value.int IntKind.i64 put, Value.slice At nt ct], Value.agg #[Value.slice A n c, Value.slice Ab nb cb], Value.bool ahead, Value.pointer (some { block := W.heap.size, off := 0 }), Value.pointer (some { block := W.heap.size + 1, off := 0 }), undef, Value.pointer (some { block := W.heap.size + 1 + 1, off := 0 }), Value.string { data := #[] }, Value.string { data := #[] }, Value.int IntKind.i64 0, Value.int IntKind.i64 0, Value.string ST, sx11, Value.int IntKind.i64 0, Value.pointer (some { block := W.heap.size + 1, off := 0 }), Value.slice A n c, Value.int IntKind.i64 0, Value.int IntKind.i64 0, Value.bool false, undef, undef, Value.pointer (some { block := W.heap.size + 1, off := 1 }), Value.slice Ab nb cb, Value.int IntKind.i64 ↑nb, Value.bool by2, undef, Value.tuple #[Value.agg #[Value.int IntKind.i64 ur, Value.int IntKind.i64 up, Value.slice A2 n2 c2], Value.string ST, Value.string SS, Value.int IntKind.i64 0], Value.agg #[Value.int IntKind.i64 room, Value.int IntKind.i64 put, Value.slice At nt ct], Value.pointer (some { block := W.heap.size + 1, off := 0 }), Value.slice A n c, Value.bool ahead, Value.tuple #[Value.agg #[Value.int IntKind.i64 ur, Value.int IntKind.i64 up, Value.slice A2 n2 c2], Value.string ST, Value.string SS, Value.int IntKind.i64 0], Value.agg #[Value.int IntKind.i64 ur, Value.int IntKind.i64 up, Value.slice A2 n2 c2], Value.string ST, Value.string SS, Value.int IntKind.i64 0, Value.int IntKind.i64 0, Value.bool false, undef, undef, Value.string SS, Value.int IntKind.i64 ↑SS.size, Value.string SL, Value.string S43, Value.string SS, Value.string SA, Value.pointer (some { block := W.heap.size + 1, off := 1 }), Value.slice Ab nb cb, Value.int IntKind.i64 ↑nb, Value.bool bz, sx0, sx1, sx2, sx3, sx4, sx5, sx6, sx7, sx8, sx9, sx10, undef, undef, undef], defers := [] } ∧ RqB w5 W SA SV SB Ab nb cb (.string SA) (.pointer (some ⟨W.heap.size + 1, 1, none⟩)) (.slice Ab nb cb) (.int .i64 (nb : Int)) (.string SV) (.string (({ data := #[0] } : ByteArray) ++ SV)) (.pointer (some ⟨W.heap.size + 1, 1, none⟩)) (.slice Ab nb cb) (.string SB) (.string (({ data := #[0] } : ByteArray) ++ SV ++ SB)) (.string (SA ++ (({ data := #[0] } : ByteArray) ++ SV ++ SB))) (.string (SA ++ (({ data := #[0] } : ByteArray) ++ SV ++ SB))) sb0 sb1 sb2 sb3 sb4 sb5 sb6 sb7 sb8 sb9 sb10 sb11 sx0 sx1 sx2 sx3 sx4 sx5 sx6 sx7 sx8 sx9 sx10 sx11 wld_) (by kernel_rfl) ?h0 ?hfin ?hI
          case h0 => exact ⟨_, _, _, _, _, _, _, _, _, _, _, _, _, _, _, _, _, _, _, _, _, _, _, _, rfl, rfl, ⟨(Below.refl _ _).drew, (fun h => by cases h), (fun h => by cases h), (fun h => by cases h), (fun h => by cases h), (fun h => by cases h), (fun h => by cases h), (fun h => by cases h), (fun h => by cases h), (fun h => by cases h), (fun _ => rfl), (fun h => by cases h), (fun h => by cases h), (fun h => by cases h), (fun h => by cases h), (fun h => by cases h), (fun h => by cases h), (fun h => by cases h), (fun h => by cases h), (fun h => by cases h), (fun h => by cases h), (fun h => by cases h), (fun h => by cases h)⟩⟩
          case hI =>
            rintro listed a w ⟨sb0, sb1, sb2, sb3, sb4, sb5, sb6, sb7, sb8, sb9, sb10, sb11, sx0, sx1, sx2, sx3, sx4, sx5, sx6, sx7, sx8, sx9, sx10, sx11, rfl, rfl, H⟩ i hi
            obtain ⟨hun, oj, hoj, hall⟩ := mem_ready.1 hi
            clear hi
            rcases i with _ | _ | _ | _ | _ | _ | _ | _ | _ | _ | _ | _ | i
            · have ho := hoj
              simp only [List.getElem?_toArray, List.getElem?_cons_zero, Option.some.injEq] at hoj
              subst hoj
              obtain rfl : sb0 = false := hun
              clear hall
              obtain rfl : sb10 = false := Bool.eq_false_iff.2 fun h => Bool.false_ne_true (H.d10 h).1
              obtain rfl : sb11 = false := Bool.eq_false_iff.2 fun h => Bool.false_ne_true (H.d11 h).1
              have hbe := H.be
              have hx_s12 := H.s12 rfl
              subst hx_s12
              refine wpOp_step ho (fun K' hK => ?_)
              have HK := Lib.hid hK
              clear hK ho
              go_simp
              exact HK.out _ _ ⟨_, _, _, _, _, _, _, _, _, _, _, _, _, _, _, _, _, _, _, _, _, _, _, _, rfl, rfl, ⟨hbe, H.d2, H.d3, H.d4, H.d5, H.d7, H.d8, H.d9, (fun h => by cases h), (fun h => by cases h), H.s12, (fun _ => rfl), H.h1, H.h2, H.h3, H.h4, H.h5, H.h6, H.h7, H.h8, H.h9, H.h10, H.h11⟩⟩
            · have ho := hoj
              simp only [List.getElem?_toArray, List.getElem?_cons_succ, List.getElem?_cons_zero, Option.some.injEq] at hoj
              subst hoj
              obtain rfl : sb1 = false := hun
              clear hall
              obtain rfl : sb2 = false := Bool.eq_false_iff.2 fun h => Bool.false_ne_true (H.d2 h)
              obtain rfl : sb3 = false := Bool.eq_false_iff.2 fun h => Bool.false_ne_true (H.d3 h)
              obtain rfl : sb4 = false := Bool.eq_false_iff.2 fun h => Bool.false_ne_true (H.d4 h)
              obtain rfl : sb5 = false := Bool.eq_false_iff.2 fun h => Bool.false_ne_true (H.d5 h)
              obtain rfl : sb9 = false := Bool.eq_false_iff.2 fun h => Bool.false_ne_true (H.d9 h).1
              obtain rfl : sb10 = false := Bool.eq_false_iff.2 fun h => Bool.false_ne_true (H.d10 h).2
              obtain rfl : sb11 = false := Bool.eq_false_iff.2 fun h => Bool.false_ne_true (H.d11 h).2.1
              have hbe := H.be
              have hx_s12 := H.s12 rfl
              subst hx_s12
              refine wpOp_step ho (fun K' hK => ?_)
              have HK := Lib.hid hK
              clear hK ho
              go_simp
              exact HK.out _ _ ⟨_, _, _, _, _, _, _, _, _, _, _, _, _, _, _, _, _, _, _, _, _, _, _, _, rfl, rfl, ⟨hbe, (fun h => by cases h), H.d3, H.d4, H.d5, H.d7, H.d8, H.d9, H.d10, (fun h => by cases h), H.s12, H.h0, (fun _ => rfl), H.h2, H.h3, H.h4, H.h5, H.h6, H.h7, H.h8, H.h9, H.h10, H.h11⟩⟩
            · have ho := hoj
              simp only [List.getElem?_toArray, List.getElem?_cons_succ, List.getElem?_cons_zero, Option.some.injEq] at hoj
              subst hoj
              obtain rfl : sb2 = false := hun
              obtain rfl : sb1 = true := hall ⟨1, .data⟩ (by simp) (by kernel_rfl)
              clear hall
              obtain rfl : sb3 = false := Bool.eq_false_iff.2 fun h => Bool.false_ne_true (H.d3 h)
              obtain rfl : sb4 = false := Bool.eq_false_iff.2 fun h => Bool.false_ne_true (H.d4 h)
              obtain rfl : sb5 = false := Bool.eq_false_iff.2 fun h => Bool.false_ne_true (H.d5 h)
              obtain rfl : sb9 = false := Bool.eq_false_iff.2 fun h => Bool.false_ne_true (H.d9 h).1
              obtain rfl : sb10 = false := Bool.eq_false_iff.2 fun h => Bool.false_ne_true (H.d10 h).2
              obtain rfl : sb11 = false := Bool.eq_false_iff.2 fun h => Bool.false_ne_true (H.d11 h).2.2.1
              have hbe := H.be
              have hx_s12 := H.s12 rfl
              obtain rfl := H.h1 rfl
              subst hx_s12
              obtain ⟨y0, y1⟩ := bk2F ((hbe.block _ (lt_of_block J3.out.y)).trans J3.out.y)
              refine wpOp_step ho (fun K' hK => ?_)
              have HK := Lib.hid hK
              clear hK ho
              go_simp
              exact HK.out _ _ ⟨_, _, _, _, _, _, _, _, _, _, _, _, _, _, _, _, _, _, _, _, _, _, _, _, rfl, rfl, ⟨hbe, (fun _ => rfl), (fun h => by cases h), H.d4, H.d5, H.d7, H.d8, H.d9, H.d10, (fun h => by cases h), H.s12, H.h0, H.h1, (fun _ => rfl), H.h3, H.h4, H.h5, H.h6, H.h7, H.h8, H.h9, H.h10, H.h11⟩⟩
            · have ho := hoj
              simp only [List.getElem?_toArray, List.getElem?_cons_succ, List.getElem?_cons_zero, Option.some.injEq] at hoj
              subst hoj
              obtain rfl : sb3 = false := hun
              obtain rfl : sb2 = true := hall ⟨2, .data⟩ (by simp) (by kernel_rfl)
              obtain rfl : sb1 = true := (H.d2 rfl)
              clear hall
              obtain rfl : sb4 = false := Bool.eq_false_iff.2 fun h => Bool.false_ne_true (H.d4 h)
              obtain rfl : sb5 = false := Bool.eq_false_iff.2 fun h => Bool.false_ne_true (H.d5 h)
              obtain rfl : sb9 = false := Bool.eq_false_iff.2 fun h => Bool.false_ne_true (H.d9 h).1
              obtain rfl : sb10 = false := Bool.eq_false_iff.2 fun h => Bool.false_ne_true (H.d10 h).2
              obtain rfl : sb11 = false := Bool.eq_false_iff.2 fun h => Bool.false_ne_true (H.d11 h).2.2.2.1
              have hbe := H.be
              have hx_s12 := H.s12 rfl
              obtain rfl := H.h1 rfl
              obtain rfl := H.h2 rfl
              subst hx_s12
              refine wpOp_step ho (fun K' hK => ?_)
              have HK := Lib.hid hK
              clear hK ho
              go_simp
              exact HK.out _ _ ⟨_, _, _, _, _, _, _, _, _, _, _, _, _, _, _, _, _, _, _, _, _, _, _, _, rfl, rfl, ⟨hbe, H.d2, (fun _ => rfl), (fun h => by cases h), H.d5, H.d7, H.d8, H.d9, H.d10, (fun h => by cases h), H.s12, H.h0, H.h1, H.h2, (fun _ => rfl), H.h4, H.h5, H.h6, H.h7, H.h8, H.h9, H.h10, H.h11⟩⟩
            · have ho := hoj
              simp only [List.getElem?_toArray, List.getElem?_cons_succ, List.getElem?_cons_zero, Option.some.injEq] at hoj
              subst hoj
              obtain rfl : sb4 = false := hun
              obtain rfl : sb3 = true := hall ⟨3, .data⟩ (by simp) (by kernel_rfl)
              obtain rfl : sb2 = true := (H.d3 rfl)
              obtain rfl : sb1 = true := (H.d2 rfl)
              clear hall
              obtain rfl : sb5 = false := Bool.eq_false_iff.2 fun h => Bool.false_ne_true (H.d5 h)
              obtain rfl : sb9 = false := Bool.eq_false_iff.2 fun h => Bool.false_ne_true (H.d9 h).1
              obtain rfl : sb10 = false := Bool.eq_false_iff.2 fun h => Bool.false_ne_true (H.d10 h).2
              obtain rfl : sb11 = false := Bool.eq_false_iff.2 fun h => Bool.false_ne_true (H.d11 h).2.2.2.2.1
              have hbe := H.be
              have hx_s12 := H.s12 rfl
              obtain rfl := H.h1 rfl
              obtain rfl := H.h2 rfl
              obtain rfl := H.h3 rfl
              subst hx_s12
              refine wpOp_step ho (fun K' hK => ?_)
              have HK := Lib.hid hK
              clear hK ho
              go_wp2_with fail
              refine (HVT.out _).mono ?_
              rintro e w9 ⟨rfl, sb9⟩
              have BC := Lib.hid sb9
              clear sb9
              go_wp2_with fail
              exact HK.out _ _ ⟨_, _, _, _, _, _, _, _, _, _, _, _, _, _, _, _, _, _, _, _, _, _, _, _, rfl, rfl, ⟨hbe.trans (BC.out.mono hbe.size), H.d2, H.d3, (fun _ => rfl), (fun h => by cases h), H.d7, H.d8, H.d9, H.d10, (fun h => by cases h), (fun _ => rfl), H.h0, H.h1, H.h2, H.h3, (fun _ => rfl), H.h5, H.h6, H.h7, H.h8, H.h9, H.h10, H.h11⟩⟩
            · have ho := hoj
              simp only [List.getElem?_toArray, List.getElem?_cons_succ, List.getElem?_cons_zero, Option.some.injEq] at hoj
              subst hoj
              obtain rfl : sb5 = false := hun
              obtain rfl : sb4 = true := hall ⟨4, .data⟩ (by simp) (by kernel_rfl)
              obtain rfl : sb3 = true := (H.d4 rfl)
              obtain rfl : sb2 = true := (H.d3 rfl)
              obtain rfl : sb1 = true := (H.d2 rfl)
              clear hall
              obtain rfl : sb9 = false := Bool.eq_false_iff.2 fun h => Bool.false_ne_true (H.d9 h).1
              obtain rfl : sb10 = false := Bool.eq_false_iff.2 fun h => Bool.false_ne_true (H.d10 h).2
              obtain rfl : sb11 = false := Bool.eq_false_iff.2 fun h => Bool.false_ne_true (H.d11 h).2.2.2.2.2.1
              have hbe := H.be
              have hx_s12 := H.s12 rfl
              obtain rfl := H.h1 rfl
              obtain rfl := H.h2 rfl
              obtain rfl := H.h3 rfl
              obtain rfl := H.h4 rfl
              subst hx_s12
              have zV := ZV.out
              have zc : ({ data := #[0] } : ByteArray).size = 1 := by rfl
              refine wpOp_step ho (fun K' hK => ?_)
              have HK := Lib.hid hK
              clear hK ho
              go_simp
              rw [if_neg (by omega)]
              try go_simp
              exact HK.out _ _ ⟨_, _, _, _, _, _, _, _, _, _, _, _, _, _, _, _, _, _, _, _, _, _, _, _, rfl, rfl, ⟨hbe, H.d2, H.d3, H.d4, (fun _ => rfl), H.d7, H.d8, (fun h => by cases h), H.d10, (fun h => by cases h), H.s12, H.h0, H.h1, H.h2, H.h3, H.h4, (fun _ => rfl), H.h6, H.h7, H.h8, H.h9, H.h10, H.h11⟩⟩
            · have ho := hoj
              simp only [List.getElem?_toArray, List.getElem?_cons_succ, List.getElem?_cons_zero, Option.some.injEq] at hoj
              subst hoj
              obtain rfl : sb6 = false := hun
              clear hall
              obtain rfl : sb7 = false := Bool.eq_false_iff.2 fun h => Bool.false_ne_true (H.d7 h)
              obtain rfl : sb8 = false := Bool.eq_false_iff.2 fun h => Bool.false_ne_true (H.d8 h)
              obtain rfl : sb9 = false := Bool.eq_false_iff.2 fun h => Bool.false_ne_true (H.d9 h).2
              obtain rfl : sb10 = false := Bool.eq_false_iff.2 fun h => Bool.false_ne_true (H.d10 h).2
              obtain rfl : sb11 = false := Bool.eq_false_iff.2 fun h => Bool.false_ne_true (H.d11 h).2.2.2.2.2.2.1
              have hbe := H.be
              have hx_s12 := H.s12 rfl
              subst hx_s12
              refine wpOp_step ho (fun K' hK => ?_)
              have HK := Lib.hid hK
              clear hK ho
              go_simp
              exact HK.out _ _ ⟨_, _, _, _, _, _, _, _, _, _, _, _, _, _, _, _, _, _, _, _, _, _, _, _, rfl, rfl, ⟨hbe, H.d2, H.d3, H.d4, H.d5, (fun h => by cases h), H.d8, H.d9, H.d10, (fun h => by cases h), H.s12, H.h0, H.h1, H.h2, H.h3, H.h4, H.h5, (fun _ => rfl), H.h7, H.h8, H.h9, H.h10, H.h11⟩⟩
            · have ho := hoj
              simp only [List.getElem?_toArray, List.getElem?_cons_succ, List.getElem?_cons_zero, Option.some.injEq] at hoj
              subst hoj
              obtain rfl : sb7 = false := hun
              obtain rfl : sb6 = true := hall ⟨6, .data⟩ (by simp) (by kernel_rfl)
              clear hall
              obtain rfl : sb8 = false := Bool.eq_false_iff.2 fun h => Bool.false_ne_true (H.d8 h)
              obtain rfl : sb9 = false := Bool.eq_false_iff.2 fun h => Bool.false_ne_true (H.d9 h).2
              obtain rfl : sb10 = false := Bool.eq_false_iff.2 fun h => Bool.false_ne_true (H.d10 h).2
              obtain rfl : sb11 = false := Bool.eq_false_iff.2 fun h => Bool.false_ne_true (H.d11 h).2.2.2.2.2.2.2.1
              have hbe := H.be
              have hx_s12 := H.s12 rfl
              obtain rfl := H.h6 rfl
              subst hx_s12
              obtain ⟨y0, y1⟩ := bk2F ((hbe.block _ (lt_of_block J3.out.y)).trans J3.out.y)
              refine wpOp_step ho (fun K' hK => ?_)
              have HK := Lib.hid hK
              clear hK ho
              go_simp
              exact HK.out _ _ ⟨_, _, _, _, _, _, _, _, _, _, _, _, _, _, _, _, _, _, _, _, _, _, _, _, rfl, rfl, ⟨hbe, H.d2, H.d3, H.d4, H.d5, (fun _ => rfl), (fun h => by cases h), H.d9, H.d10, (fun h => by cases h), H.s12, H.h0, H.h1, H.h2, H.h3, H.h4, H.h5, H.h6, (fun _ => rfl), H.h8, H.h9, H.h10, H.h11⟩⟩
            · have ho := hoj
              simp only [List.getElem?_toArray, List.getElem?_cons_succ, List.getElem?_cons_zero, Option.some.injEq] at hoj
              subst hoj
              obtain rfl : sb8 = false := hun
              obtain rfl : sb7 = true := hall ⟨7, .data⟩ (by simp) (by kernel_rfl)
              obtain rfl : sb6 = true := (H.d7 rfl)
              clear hall
              obtain rfl : sb9 = false := Bool.eq_false_iff.2 fun h => Bool.false_ne_true (H.d9 h).2
              obtain rfl : sb10 = false := Bool.eq_false_iff.2 fun h => Bool.false_ne_true (H.d10 h).2
              obtain rfl : sb11 = false := Bool.eq_false_iff.2 fun h => Bool.false_ne_true (H.d11 h).2.2.2.2.2.2.2.2.1
              have hbe := H.be
              have hx_s12 := H.s12 rfl
              obtain rfl := H.h6 rfl
              obtain rfl := H.h7 rfl
              subst hx_s12
              have hcv := HCV.out w hbe
              refine wpOp_step ho (fun K' hK => ?_)
              have HK := Lib.hid hK
              clear hK ho
              go_simp
              exact HK.out _ _ ⟨_, _, _, _, _, _, _, _, _, _, _, _, _, _, _, _, _, _, _, _, _, _, _, _, rfl, rfl, ⟨hbe, H.d2, H.d3, H.d4, H.d5, H.d7, (fun _ => rfl), (fun h => by cases h), H.d10, (fun h => by cases h), H.s12, H.h0, H.h1, H.h2, H.h3, H.h4, H.h5, H.h6, H.h7, (fun _ => rfl), H.h9, H.h10, H.h11⟩⟩
            · have ho := hoj
              simp only [List.getElem?_toArray, List.getElem?_cons_succ, List.getElem?_cons_zero, Option.some.injEq] at hoj
              subst hoj
              obtain rfl : sb9 = false := hun
              obtain rfl : sb5 = true := hall ⟨5, .data⟩ (by simp) (by kernel_rfl)
              obtain rfl : sb8 = true := hall ⟨8, .data⟩ (by simp) (by kernel_rfl)
              obtain rfl : sb4 = true := (H.d5 rfl)
              obtain rfl : sb7 = true := (H.d8 rfl)
              obtain rfl : sb3 = true := (H.d4 rfl)
              obtain rfl : sb6 = true := (H.d7 rfl)
              obtain rfl : sb2 = true := (H.d3 rfl)
              obtain rfl : sb1 = true := (H.d2 rfl)
              clear hall
              obtain rfl : sb10 = false := Bool.eq_false_iff.2 fun h => Bool.false_ne_true (H.d10 h).2
              obtain rfl : sb11 = false := Bool.eq_false_iff.2 fun h => Bool.false_ne_true (H.d11 h).2.2.2.2.2.2.2.2.2.1
              have hbe := H.be
              have hx_s12 := H.s12 rfl
              obtain rfl := H.h1 rfl
              obtain rfl := H.h2 rfl
              obtain rfl := H.h3 rfl
              obtain rfl := H.h4 rfl
              obtain rfl := H.h5 rfl
              obtain rfl := H.h6 rfl
              obtain rfl := H.h7 rfl
              obtain rfl := H.h8 rfl
              subst hx_s12
              have zq := ZQ.out
              have zB := ZB.out
              have zV := ZV.out
              rw [ByteArray.size_append] at zq
              have zc : ({ data := #[0] } : ByteArray).size = 1 := by rfl
              refine wpOp_step ho (fun K' hK => ?_)
              have HK := Lib.hid hK
              clear hK ho
              go_simp
              rw [if_neg (by omega)]
              try go_simp
              exact HK.out _ _ ⟨_, _, _, _, _, _, _, _, _, _, _, _, _, _, _, _, _, _, _, _, _, _, _, _, rfl, rfl, ⟨hbe, H.d2, H.d3, H.d4, H.d5, H.d7, H.d8, (fun _ => ⟨rfl, rfl⟩), (fun h => by cases h), (fun h => by cases h), H.s12, H.h0, H.h1, H.h2, H.h3, H.h4, H.h5, H.h6, H.h7, H.h8, (fun _ => rfl), H.h10, H.h11⟩⟩
            · have ho := hoj
              simp only [List.getElem?_toArray, List.getElem?_cons_succ, List.getElem?_cons_zero, Option.some.injEq] at hoj
              subst hoj
              obtain rfl : sb10 = false := hun
              obtain rfl : sb0 = true := hall ⟨0, .data⟩ (by simp) (by kernel_rfl)
              obtain rfl : sb9 = true := hall ⟨9, .data⟩ (by simp) (by kernel_rfl)
              obtain rfl : sb5 = true := (H.d9 rfl).1
              obtain rfl : sb8 = true := (H.d9 rfl).2
              obtain rfl : sb4 = true := (H.d5 rfl)
              obtain rfl : sb7 = true := (H.d8 rfl)
              obtain rfl : sb3 = true := (H.d4 rfl)
              obtain rfl : sb6 = true := (H.d7 rfl)
              obtain rfl : sb2 = true := (H.d3 rfl)
              obtain rfl : sb1 = true := (H.d2 rfl)
              clear hall
              obtain rfl : sb11 = false := Bool.eq_false_iff.2 fun h => Bool.false_ne_true (H.d11 h).2.2.2.2.2.2.2.2.2.2
              have hbe := H.be
              have hx_s12 := H.s12 rfl
              obtain rfl := H.h0 rfl
              obtain rfl := H.h1 rfl
              obtain rfl := H.h2 rfl
              obtain rfl := H.h3 rfl
              obtain rfl := H.h4 rfl
              obtain rfl := H.h5 rfl
              obtain rfl := H.h6 rfl
              obtain rfl := H.h7 rfl
              obtain rfl := H.h8 rfl
              obtain rfl := H.h9 rfl
              subst hx_s12
              have zA := ZA.out
              have zB := ZB.out
              have zV := ZV.out
              have zc : ({ data := #[0] } : ByteArray).size = 1 := by rfl
              refine wpOp_step ho (fun K' hK => ?_)
              have HK := Lib.hid hK
              clear hK ho
              go_simp
              rw [if_neg (by omega)]
              try go_simp
              exact HK.out _ _ ⟨_, _, _, _, _, _, _, _, _, _, _, _, _, _, _, _, _, _, _, _, _, _, _, _, rfl, rfl, ⟨hbe, H.d2, H.d3, H.d4, H.d5, H.d7, H.d8, H.d9, (fun _ => ⟨rfl, rfl⟩), (fun h => by cases h), H.s12, H.h0, H.h1, H.h2, H.h3, H.h4, H.h5, H.h6, H.h7, H.h8, H.h9, (fun _ => rfl), H.h11⟩⟩
            · have ho := hoj
              simp only [List.getElem?_toArray, List.getElem?_cons_succ, List.getElem?_cons_zero, Option.some.injEq] at hoj
              subst hoj
              obtain rfl : sb11 = false := hun
              obtain rfl : sb0 = true := hall ⟨0, .phase⟩ (by simp) (by kernel_rfl)
              obtain rfl : sb1 = true := hall ⟨1, .phase⟩ (by simp) (by kernel_rfl)
              obtain rfl : sb2 = true := hall ⟨2, .phase⟩ (by simp) (by kernel_rfl)
              obtain rfl : sb3 = true := hall ⟨3, .phase⟩ (by simp) (by kernel_rfl)
              obtain rfl : sb4 = true := hall ⟨4, .chain⟩ (by simp) (by kernel_rfl)
              obtain rfl : sb5 = true := hall ⟨5, .phase⟩ (by simp) (by kernel_rfl)
              obtain rfl : sb6 = true := hall ⟨6, .phase⟩ (by simp) (by kernel_rfl)
              obtain rfl : sb7 = true := hall ⟨7, .phase⟩ (by simp) (by kernel_rfl)
              obtain rfl : sb8 = true := hall ⟨8, .phase⟩ (by simp) (by kernel_rfl)
              obtain rfl : sb9 = true := hall ⟨9, .phase⟩ (by simp) (by kernel_rfl)
              obtain rfl : sb10 = true := hall ⟨10, .data⟩ (by simp) (by kernel_rfl)
              clear hall
              have hbe := H.be
              have hx_s12 := H.s12 rfl
              obtain rfl := H.h0 rfl
              obtain rfl := H.h1 rfl
              obtain rfl := H.h2 rfl
              obtain rfl := H.h3 rfl
              obtain rfl := H.h4 rfl
              obtain rfl := H.h5 rfl
              obtain rfl := H.h6 rfl
              obtain rfl := H.h7 rfl
              obtain rfl := H.h8 rfl
              obtain rfl := H.h9 rfl
              obtain rfl := H.h10 rfl
              refine wpOp_step ho (fun K' hK => ?_)
              have HK := Lib.hid hK
              clear hK ho
              go_simp
              exact HK.out _ _ ⟨_, _, _, _, _, _, _, _, _, _, _, _, _, _, _, _, _, _, _, _, _, _, _, _, rfl, rfl, ⟨hbe, H.d2, H.d3, H.d4, H.d5, H.d7, H.d8, H.d9, H.d10, (fun _ => ⟨rfl, rfl, rfl, rfl, rfl, rfl, rfl, rfl, rfl, rfl, rfl⟩), (fun h => by cases h), H.h0, H.h1, H.h2, H.h3, H.h4, H.h5, H.h6, H.h7, H.h8, H.h9, H.h10, (fun _ => rfl)⟩⟩
            · have ho := hoj
              simp at ho
          case hfin =>
            rintro listed a w ⟨sb0, sb1, sb2, sb3, sb4, sb5, sb6, sb7, sb8, sb9, sb10, sb11, sx0, sx1, sx2, sx3, sx4, sx5, sx6, sx7, sx8, sx9, sx10, sx11, rfl, rfl, H⟩ hr
            have hb : sb11 = true := by
              clear H
              revert sb0 sb1 sb2 sb3 sb4 sb5 sb6 sb7 sb8 sb9 sb10 sb11
              decide +kernel
            subst hb
            clear hr
            obtain rfl : sb0 = true := (H.d11 rfl).1
            obtain rfl : sb1 = true := (H.d11 rfl).2.1
            obtain rfl : sb2 = true := (H.d11 rfl).2.2.1
            obtain rfl : sb3 = true := (H.d11 rfl).2.2.2.1
            obtain rfl : sb4 = true := (H.d11 rfl).2.2.2.2.1
            obtain rfl : sb5 = true := (H.d11 rfl).2.2.2.2.2.1
            obtain rfl : sb6 = true := (H.d11 rfl).2.2.2.2.2.2.1
            obtain rfl : sb7 = true := (H.d11 rfl).2.2.2.2.2.2.2.1
            obtain rfl : sb8 = true := (H.d11 rfl).2.2.2.2.2.2.2.2.1
            obtain rfl : sb9 = true := (H.d11 rfl).2.2.2.2.2.2.2.2.2.1
            obtain rfl : sb10 = true := (H.d11 rfl).2.2.2.2.2.2.2.2.2.2
            have e12 := H.h11 rfl
            have HBE := Lib.hid H.be
            clear H
            obtain ⟨w6, hw9⟩ : ∃ x, x = w := ⟨_, rfl⟩
            subst w
            subst e12
            have J6 := Lib.hid (J3.out.later HBE.out)
            have T6 := Lib.hid (T3.out.on HBE.out)
            obtain ⟨z0, z1, z2⟩ := bk3T J6.out.z
            have zf := fun i => bk_frz J6.out.z i
            obtain ⟨x0, x1, x2⟩ := bk3T J6.out.x
            go_wp2_with fail
            obtain ⟨k1, gp⟩ := bk3_blk J6.out.z (.int .i64 ur) (.int .i64 up) (.slice A2 n2 c2)
            obtain ⟨r0, r1, r2⟩ := bk3T k1
            refine bodyPost_ret (by simp [results, Tryd.results10, go_sem, r0, r1, r2]; try rfl) rfl ?_
            exact ⟨(J6.out.setZ k1 gp).b, _, by rw [HSTT.out, HFIN.out], (T6.out.gr J6.out.z gp).more gp.size⟩
      · rw [if_pos hy0]
        have gy : (y != 0) = true := by simp [hy0]
        go_enter Tryd.func10, Tryd.ntmps10
        obtain ⟨q0, q1⟩ := bk2F I0.out.y
        go_wp2_with fail
        refine (HCK.out _ I0.out.b).mono ?_
        rintro e w1 ⟨rfl, b1⟩
        have I1 := Lib.hid (I0.out.later b1)
        clear b1 q0 q1
        obtain ⟨y0, y1⟩ := bk2F I1.out.y
        obtain ⟨x0, x1, x2⟩ := bk3T I1.out.x
        go_wp2_with fail
        refine (HEN.out _ _ (HV.out.on I1.out.b) I1.out.b).mono ?_
        clear x0 x1 x2 y0 y1
        rintro e w2 ⟨b2, v2, rfl, hv2⟩
        obtain ⟨A2, n2, c2, ur, up, rfl, hv3⟩ := tb_partsR hv2
        have I2 := Lib.hid (I1.out.later b2)
        obtain ⟨k2, g2⟩ := bk3_blk I2.out.x (.int .i64 ur) (.int .i64 up) (.slice A2 n2 c2)
        have I3 := I2.out.setX k2 g2
        have V3 := (hv3.gr I2.out.x g2).more g2.size
        obtain ⟨x0, x1, x2⟩ := bk3T I2.out.x
        have xf := fun i => bk_frz I2.out.x i
        clear b2 hv2 hv3 k2 g2
        go_upto_region 7 with fail
        obtain ⟨w3, hw3⟩ : ∃ w9, ((w2.setCell ⟨W.heap.size, 0, none⟩ (.int .i64 ur)).setCell ⟨W.heap.size, 1, none⟩ (.int .i64 up)).setCell ⟨W.heap.size, 2, none⟩ (.slice A2 n2 c2) = w9 := ⟨_, rfl⟩
        rw [hw3] at I3 V3 ⊢
        have J2 := Lib.hid I3
        have T2 := Lib.hid V3
        clear hw3 I3 V3 x0 x1 x2 xf
        obtain ⟨z0, z1, z2⟩ := bk3T J2.out.z
        have zf := fun i => bk_frz J2.out.z i
        go_wp2_with fail
        obtain ⟨k1, gp⟩ := bk3_blk J2.out.z (.int .i64 0) (.int .i64 0) (.slice none 0 0)
        obtain ⟨r0, r1, r2⟩ := bk3T k1
        refine bodyPost_ret (by simp [results, Tryd.results10, go_sem, r0, r1, r2]; try rfl) rfl ?_
        exact ⟨(J2.out.setZ k1 gp).b, _, rfl, TbVal.zero _ _⟩
  · rw [if_pos hx0]
    have g : (x != 0) = true := by simp [hx0]
    go_enter Tryd.func10, Tryd.ntmps10
    obtain ⟨q0, q1⟩ := bk2F I0.out.y
    go_wp2_with fail
    refine (HCK.out _ I0.out.b).mono ?_
    rintro e w1 ⟨rfl, b1⟩
    have I1 := Lib.hid (I0.out.later b1)
    clear b1 q0 q1
    obtain ⟨z0, z1, z2⟩ := bk3T I1.out.z
    have zf := fun i => bk_frz I1.out.z i
    go_wp2_with fail
    obtain ⟨k1, gp⟩ := bk3_blk I1.out.z (.int .i64 0) (.int .i64 0) (.slice none 0 0)
    obtain ⟨r0, r1, r2⟩ := bk3T k1
    refine bodyPost_ret (by simp [results, Tryd.results10, go_sem, r0, r1, r2]; try rfl) rfl ?_
    exact ⟨(I1.out.setZ k1 gp).b, _, rfl, TbVal.zero _ _⟩
end Go.Proofs.YtfoagelemjdglaaDoor
