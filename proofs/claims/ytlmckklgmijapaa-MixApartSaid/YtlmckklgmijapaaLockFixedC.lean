/- The walk of LockFixed, over what is asked of Seal and Open. -/
import Derived.Test.YtlmckklgmijapaaLockBackC
import Derived.Lib.SmallJoins
import Derived.Test.YtlmckklgmijapaaRegInv
import Derived.Test.YtlmckklgmijapaaMem
namespace Go.Proofs.Ytlmckklgmijapaa
set_option linter.unusedVariables false
open Go.RowKit P

structure FixInv (w0 : World) (X' : List Int) (V0 V1 V2 V3 V4 V5 V6 V8 V9 V10 V11 V12 V13 : Value) (b0 b1 b2 b3 b4 b5 b6 b7 b8 b9 b10 b11 b12 b13 : Bool) (x0 x1 x2 x3 x4 x5 x6 x7 x8 x9 x10 x11 x12 x13 : Value) (w : World) : Prop where
  be : Below w0.heap.size w0 w
  h0 : b0 = true → x0 = V0
  h1 : b1 = true → x1 = V1
  h2 : b2 = true → x2 = V2
  h3 : b3 = true → x3 = V3
  h4 : b4 = true → x4 = V4
  h5 : b5 = true → x5 = V5
  h6 : b6 = true → x6 = V6
  h7 : b7 = true → BSl w w.heap.size x7 X'
  h8 : b8 = true → x8 = V8
  h9 : b9 = true → x9 = V9
  h10 : b10 = true → x10 = V10
  h11 : b11 = true → x11 = V11
  h12 : b12 = true → x12 = V12
  h13 : b13 = true → x13 = V13
set_option maxRecDepth 100000 in
set_option maxHeartbeats 2000000 in
theorem lockFixed_core (hS : SealDoes Try.prog 13 5) (hO : OpenDoes Try.prog 15)
    (x n at_ y : Int) (y0 : 0 ≤ y) (y1 : y ≤ 255) (A1 A2 : Option Addr) (n1 c1 n2 c2 : Nat) (z1 z2 : List Int) (W : World) (h1 : IsRow .u8 W A1 n1 c1 z1) (r1 : c1 * 1 ≤ 140737488351232) (h2 : IsRow .u8 W A2 n2 c2 z2) (r2 : c2 * 1 ≤ 140737488351232) :
    Calls Try.prog 7 #[.int .i64 x, .int .i64 n, .slice A1 n1 c1, .slice A2 n2 c2, .int .i64 at_, .int .u8 y] W fun e w' => e = .returned (.bool true) ∧ Below W.heap.size W w' := by
  have hw : IntKind.u64.wrap x = (wd x : Int) := by rw [IntKind.wrap_u64]; unfold wd; omega
  have hk := wd_lt x
  obtain ⟨key, hkey⟩ : ∃ key, wd x = key := ⟨_, rfl⟩
  rw [hkey] at hw hk
  obtain ⟨hb1, hl1, hc1, hm1⟩ := InRow.brow (show InRow W A1 n1 c1 z1 from h1)
  obtain ⟨hb2, hl2, hc2, hm2⟩ := InRow.brow (show InRow W A2 n2 c2 z2 from h2)
  have hn1 : A1 = none → c1 = 0 := fun e => by subst e; rcases h1 with ⟨_, _, e, _⟩ | ⟨x, e, _⟩ <;> first | exact e | cases e
  have hn2 : A2 = none → c2 = 0 := fun e => by subst e; rcases h2 with ⟨_, _, e, _⟩ | ⟨x, e, _⟩ <;> first | exact e | cases e
  obtain ⟨hd, hz1⟩ : ∃ zs, z1.take n1 = zs := ⟨_, rfl⟩
  obtain ⟨tx, hz2⟩ : ∃ zs, z2.take n2 = zs := ⟨_, rfl⟩
  rw [hz1] at hb1 hl1
  rw [hz2] at hb2 hl2
  have V1 := Lib.hid (show BSl W W.heap.size (.slice A1 n1 c1) hd from ⟨A1, c1, by rw [hl1], by rw [hl1]; exact hc1, hm1, hn1, hb1⟩)
  have V2 := Lib.hid (show BSl W W.heap.size (.slice A2 n2 c2) tx from ⟨A2, c2, by rw [hl2], by rw [hl2]; exact hc2, hm2, hn2, hb2⟩)
  have hsl := seal_len key n hd tx
  have hsb := seal_byt key n hd tx hb2.1
  have hop := open_seal key n hd tx hb2.1
  have HS := Lib.hid (hS key n _ _ hd tx W hk V1.out (by omega) V2.out (by omega))
  obtain ⟨X, hX⟩ : ∃ X, sealL key n hd tx = X := ⟨_, rfl⟩
  rw [hX] at HS hsl hsb hop
  have HSB := Lib.hid hsb
  have hxl : X.length = n2 + 8 := by omega
  obtain ⟨i, hi⟩ : ∃ i : Nat, at_ % (X.length : Int) = (i : Int) := ⟨(at_ % (X.length : Int)).toNat, by have := Int.emod_nonneg at_ (b := (X.length : Int)) (by omega); omega⟩
  have hil : i < X.length := by have := Int.emod_lt_of_pos at_ (b := (X.length : Int)) (by omega); omega
  have hzb := hsb i
  obtain ⟨z, hz⟩ : ∃ z, X.getD i 0 = z := ⟨_, rfl⟩
  rw [hz] at hzb
  obtain ⟨hu0, hu1, hu2⟩ := xor8 z y hzb.1 hzb.2 y0 y1
  obtain ⟨u, hu⟩ : ∃ u, bits .xor .u8 z y = u := ⟨_, rfl⟩
  rw [hu] at hu0 hu1 hu2
  have hX'b := byt_set hsb i ⟨hu0, hu1⟩
  obtain ⟨X', hX'⟩ : ∃ X', X.set i u = X' := ⟨_, rfl⟩
  have hX'l : X'.length = X.length := by rw [← hX', List.length_set]
  rw [hX'] at hX'b
  have HXB := Lib.hid hX'b
  have HMAP := Lib.hid (show (X.map (Value.int .u8)).set i (.int .u8 u) = X'.map (.int .u8) by rw [← hX', List.map_set])
  have HO : Hid (∀ v w, BSl w w.heap.size v X' → BSl w w.heap.size (.slice A1 n1 c1) hd → Calls Try.prog 15 #[.int .u64 key, .int .i64 n, .slice A1 n1 c1, v] w (LkOpen key n hd X' w)) := Lib.hid (fun v w hv hh => hO key n _ v hd X' w hk hh (by omega) hv (by omega))
  have HCELL := Lib.hid (show (X.map (Value.int .u8))[i]? = some (.int .u8 z) by
    rw [List.getElem?_map, List.getElem?_eq_getElem hil]
    simp only [Option.map_some, Option.some.injEq, Value.int.injEq, true_and]
    rw [← hz, List.getD_eq_getElem?_getD, List.getElem?_eq_getElem hil]; rfl)
  have HLT := Lib.hid (fun w => lockTells_any hS w)
  have hx0 : ((X.length : Int) == 0) = false := beq_eq_false_iff_ne.2 (by omega)
  have hgt : 0 < X.length := by omega
  have hle : X.length ≤ 140737488351240 := by omega
  have HXL' := Lib.hid hX'l
  have HGT := Lib.hid hgt
  have HI := Lib.hid hi
  have HXL := Lib.hid hxl
  clear hkey h1 h2 hb1 hb2 hn1 hn2 hz1 hz2 hsl hsb hX'b hX'l hxl hX
  cases ho : openL key n hd X' with
  | error e =>
    have he : e = 10 := by
      rcases open_err ho with h | h
      · have q1 := HXL'.out; have q2 := HXL.out; omega
      · exact h.1
    subst he
    have hy : (y != 0) = true := by
      simp only [bne_iff_ne, ne_eq]
      intro e
      have e1 := hu2 e
      rw [e1, ← hz, set_same X i hil] at hX'
      rw [← hX', hop] at ho
      cases ho
    have HO1 : Hid (∀ v w, BSl w w.heap.size v X' → BSl w w.heap.size (.slice A1 n1 c1) hd → Calls Try.prog 15 #[.int .u64 key, .int .i64 n, .slice A1 n1 c1, v] w fun e w' => Below w.heap.size w w' ∧ ∃ d, e = .returned (.tuple #[d, .int .i64 10]) ∧ BSl w' w'.heap.size d []) := Lib.hid (fun v w hv hh => (HO.out v w hv hh).mono fun e w' h => by
      unfold LkOpen at h
      rw [ho] at h
      obtain ⟨hb, d, h1, h2⟩ := h
      exact ⟨hb, d, h1, h2⟩)
    clear hS hO ho hop hX' hz hi HO
    go_enter Try.func7, Try.ntmps7
    go_wp2_with fail
    refine HS.out.mono ?_
    rintro e w1 ⟨b1, d, rfl, o1⟩
    obtain ⟨g, c3, rfl⟩ := Joins.ownsRow_form o1 HGT.out
    obtain ⟨_, h33, h34⟩ := own_bd o1
    have O1 := Lib.hid o1
    have hcell := (o1.cellAt i (by omega)).trans HCELL.out
    have hfrz := o1.frozenAt i
    obtain ⟨hst, hgr⟩ := o1.stored i (.int .u8 u)
    rw [HMAP.out] at hst
    have R1 := Lib.hid (own_bsl hst HXB.out)
    have B1 := Lib.hid (gr_from b1 b1.size ((World.ownsRow.lt o1 g rfl).1) hgr)
    clear b1 o1 hst hgr
    go_wp2_with fail
    refine (picked_any _ _ (by omega) (by omega) _).mono ?_
    rintro e w' ⟨rfl, rfl⟩
    rw [HI.out]
    go_wp2_with fail
    refine (HO1.out _ _ R1.out (V1.out.on B1.out)).mono ?_
    rintro e w2 ⟨b2, d2, rfl, hd2⟩
    obtain ⟨A4, c4, rfl, _, _, _, _⟩ := hd2.ex
    have B2 := Lib.hid (B1.out.trans (b2.mono B1.out.size))
    clear b2 hd2 hcell hfrz
    go_wp2_with fail
    refine (HLT.out _).mono ?_
    rintro e w3 ⟨rfl, b3⟩
    have B3 := Lib.hid (B2.out.trans (b3.mono B2.out.size))
    clear b3
    go_wp2_with fail
    go_ret
    exact ⟨by first | rfl | simp, B3.out⟩
  | ok c =>
    have hon := open_only ho
    have hcl : c.length = n2 := by
      have h1 := seal_len key n hd c
      have q1 := HXL'.out
      have q2 := HXL.out
      rw [hon] at h1
      omega
    have HO1 : Hid (∀ v w, BSl w w.heap.size v X' → BSl w w.heap.size (.slice A1 n1 c1) hd → Calls Try.prog 15 #[.int .u64 key, .int .i64 n, .slice A1 n1 c1, v] w fun e w' => Below w.heap.size w w' ∧ ∃ d, e = .returned (.tuple #[d, .int .i64 0]) ∧ BSl w' w'.heap.size d c) := Lib.hid (fun v w hv hh => (HO.out v w hv hh).mono fun e w' h => by
      unfold LkOpen at h
      rw [ho] at h
      obtain ⟨hb, d, h1, h2⟩ := h
      exact ⟨hb, d, h1, h2⟩)
    have HS2 : Hid (∀ v w, BSl w w.heap.size v c → BSl w w.heap.size (.slice A1 n1 c1) hd → Calls Try.prog 13 #[.int .u64 key, .int .i64 n, .slice A1 n1 c1, v] w fun e w' => Below w.heap.size w w' ∧ ∃ d, e = .returned d ∧ BSl w' w'.heap.size d X') := Lib.hid (fun v w hv hh => (hS key n _ v hd c w hk hh (by omega) hv (by omega)).mono fun e w' h => by
      rw [hon] at h
      obtain ⟨hb, d, h1, h2⟩ := h
      exact ⟨hb, d, h1, own_bsl h2 HXB.out⟩)
    have hcle : c.length ≤ 140737488351240 := by omega
    clear hS hO ho hop hX' hz hi HO hon hcl
    go_enter Try.func7, Try.ntmps7
    go_wp2_with fail
    refine HS.out.mono ?_
    rintro e w1 ⟨b1, d, rfl, o1⟩
    obtain ⟨g, c3, rfl⟩ := Joins.ownsRow_form o1 HGT.out
    obtain ⟨_, h33, h34⟩ := own_bd o1
    have O1 := Lib.hid o1
    have hcell := (o1.cellAt i (by omega)).trans HCELL.out
    have hfrz := o1.frozenAt i
    obtain ⟨hst, hgr⟩ := o1.stored i (.int .u8 u)
    rw [HMAP.out] at hst
    have R1 := Lib.hid (own_bsl hst HXB.out)
    have B1 := Lib.hid (gr_from b1 b1.size ((World.ownsRow.lt o1 g rfl).1) hgr)
    clear b1 o1 hst hgr
    go_wp2_with fail
    refine (picked_any _ _ (by omega) (by omega) _).mono ?_
    rintro e w' ⟨rfl, rfl⟩
    rw [HI.out]
    go_wp2_with fail
    refine (HO1.out _ _ R1.out (V1.out.on B1.out)).mono ?_
    rintro e w2 ⟨b2, d2, rfl, hd2⟩
    obtain ⟨A4, c4, rfl, _, _, _, _⟩ := id hd2.ex
    have D2 := Lib.hid hd2
    have B2 := Lib.hid (B1.out.trans (b2.mono B1.out.size))
    have R2 := Lib.hid (R1.out.on b2)
    clear b2 hd2 hcell hfrz
    go_wp2_with fail
    obtain ⟨_, _, e5, _, _, _, hr5⟩ := R2.out.ex
    injection e5 with e6 e7 e8
    subst e6 e8
    have R5 := Lib.hid hr5
    clear hr5 e7
    refine wp_region_inv (fun listed a w => ∃ (b0 b1 b2 b3 b4 b5 b6 b7 b8 b9 b10 b11 b12 b13 : Bool) (x0 x1 x2 x3 x4 x5 x6 x7 x8 x9 x10 x11 x12 x13 : Value), listed = #[b0, b1, b2, b3, b4, b5, b6, b7, b8, b9, b10, b11, b12, b13] ∧ a = { tmps := #[(.int .i64 x), (.int .i64 n), (.slice A1 n1 c1), (.slice A2 n2 c2), (.int .i64 at_), (.int .u8 y), undef, undef, undef, undef, undef, undef, x13, (.slice (some { block := g, off := 0 }) X.length c3), (.slice A4 c.length c4), (.int .i64 0), (.int .i64 x), (.int .u64 ↑key), (.int .i64 n), (.slice A1 n1 c1), (.slice A2 n2 c2), (.slice (some { block := g, off := 0 }) X.length c3), (.slice (some { block := g, off := 0 }) X.length c3), (.int .i64 ↑X.length), (.bool false), (.slice (some { block := g, off := 0 }) X.length c3), (.int .i64 at_), (.slice (some { block := g, off := 0 }) X.length c3), (.int .i64 ↑X.length), (.int .i64 ↑i), (.pointer (some { block := g, off := i })), (.int .u8 z), (.int .u8 y), (.int .u8 u), (.pointer (some { block := g, off := i })), (.tuple #[.slice A4 c.length c4, .int .i64 0]), (.int .i64 x), (.int .u64 ↑key), (.int .i64 n), (.slice A1 n1 c1), (.slice (some { block := g, off := 0 }) X.length c3), (.tuple #[.slice A4 c.length c4, .int .i64 0]), (.slice A4 c.length c4), (.int .i64 0), (.int .i64 0), (.bool false), undef, undef, undef, undef, undef, undef, undef, undef, undef, x0, x1, x2, x3, x4, x5, x6, x7, x8, x9, x10, x11, x12], defers := [] } ∧ FixInv w2 X' (.bool true) (.bool true) (.int .i64 x) (.int .u64 key) (.int .i64 n) (.slice A1 n1 c1) (.slice A4 c.length c4) ((.string (strOfNums X'))) (.slice (some ⟨g, 0, none⟩) X.length c3) ((.string (strOfNums X'))) (.bool true) (.bool true) (.bool true) b0 b1 b2 b3 b4 b5 b6 b7 b8 b9 b10 b11 b12 b13 x0 x1 x2 x3 x4 x5 x6 x7 x8 x9 x10 x11 x12 x13 w) (by kernel_rfl) ?h0 ?hfin ?hI
    case h0 => exact ⟨_, _, _, _, _, _, _, _, _, _, _, _, _, _, _, _, _, _, _, _, _, _, _, _, _, _, _, _, rfl, rfl, ⟨(Below.refl _ _).drew, (fun h => by cases h), (fun h => by cases h), (fun h => by cases h), (fun h => by cases h), (fun h => by cases h), (fun h => by cases h), (fun h => by cases h), (fun h => by cases h), (fun h => by cases h), (fun h => by cases h), (fun h => by cases h), (fun h => by cases h), (fun h => by cases h), (fun h => by cases h)⟩⟩
    case hI =>
      rintro listed a w ⟨b0, b1, b2, b3, b4, b5, b6, b7, b8, b9, b10, b11, b12, b13, x0, x1, x2, x3, x4, x5, x6, x7, x8, x9, x10, x11, x12, x13, rfl, rfl, H⟩ i hi
      obtain ⟨hun, oj, hoj, hall⟩ := mem_ready.1 hi
      clear hi
      rcases i with _ | _ | _ | _ | _ | _ | _ | _ | _ | _ | _ | _ | _ | _ | i
      · have ho := hoj
        simp only [List.getElem?_toArray, List.getElem?_cons_succ, List.getElem?_cons_zero, Option.some.injEq] at hoj
        subst hoj
        obtain rfl : b0 = false := hun
        clear hall
        refine wpOp_step ho (fun K' hK => ?_)
        have HK := Lib.hid hK
        clear hK ho
        go_wp2_with (go_at_call 18; refine (HLT.out _).mono ?_; rintro e w3 ⟨rfl, b3⟩; have BB3 := Lib.hid b3; clear b3)
        exact HK.out _ _ ⟨_, _, _, _, _, _, _, _, _, _, _, _, _, _, _, _, _, _, _, _, _, _, _, _, _, _, _, _, rfl, rfl, ⟨H.be.trans (BB3.out.mono H.be.size), (fun _ => rfl), H.h1, H.h2, H.h3, H.h4, H.h5, H.h6, (fun e => (H.h7 e).on BB3.out), H.h8, H.h9, H.h10, H.h11, H.h12, H.h13⟩⟩
      · have ho := hoj
        simp only [List.getElem?_toArray, List.getElem?_cons_succ, List.getElem?_cons_zero, Option.some.injEq] at hoj
        subst hoj
        obtain rfl : b1 = false := hun
        obtain rfl : b0 = true := hall ⟨0, .data⟩ (by simp) (by kernel_rfl)
        obtain rfl := H.h0 rfl
        clear hall
        refine wpOp_step ho (fun K' hK => ?_)
        have HK := Lib.hid hK
        clear hK ho
        go_simp
        exact HK.out _ _ ⟨_, _, _, _, _, _, _, _, _, _, _, _, _, _, _, _, _, _, _, _, _, _, _, _, _, _, _, _, rfl, rfl, ⟨H.be, H.h0, (fun _ => rfl), H.h2, H.h3, H.h4, H.h5, H.h6, H.h7, H.h8, H.h9, H.h10, H.h11, H.h12, H.h13⟩⟩
      · have ho := hoj
        simp only [List.getElem?_toArray, List.getElem?_cons_succ, List.getElem?_cons_zero, Option.some.injEq] at hoj
        subst hoj
        obtain rfl : b2 = false := hun
        obtain rfl : b1 = true := hall ⟨1, .guard⟩ (by simp) (by kernel_rfl)
        obtain rfl := H.h1 rfl
        clear hall
        refine wpOp_step ho (fun K' hK => ?_)
        have HK := Lib.hid hK
        clear hK ho
        go_simp
        exact HK.out _ _ ⟨_, _, _, _, _, _, _, _, _, _, _, _, _, _, _, _, _, _, _, _, _, _, _, _, _, _, _, _, rfl, rfl, ⟨H.be, H.h0, H.h1, (fun _ => rfl), H.h3, H.h4, H.h5, H.h6, H.h7, H.h8, H.h9, H.h10, H.h11, H.h12, H.h13⟩⟩
      · have ho := hoj
        simp only [List.getElem?_toArray, List.getElem?_cons_succ, List.getElem?_cons_zero, Option.some.injEq] at hoj
        subst hoj
        obtain rfl : b3 = false := hun
        obtain rfl : b2 = true := hall ⟨2, .data⟩ (by simp) (by kernel_rfl)
        obtain rfl := H.h2 rfl
        obtain rfl : b1 = true := hall ⟨1, .guard⟩ (by simp) (by kernel_rfl)
        obtain rfl := H.h1 rfl
        clear hall
        refine wpOp_step ho (fun K' hK => ?_)
        have HK := Lib.hid hK
        clear hK ho
        go_simp
        exact HK.out _ _ ⟨_, _, _, _, _, _, _, _, _, _, _, _, _, _, _, _, _, _, _, _, _, _, _, _, _, _, _, _, rfl, rfl, ⟨H.be, H.h0, H.h1, H.h2, (fun _ => rfl), H.h4, H.h5, H.h6, H.h7, H.h8, H.h9, H.h10, H.h11, H.h12, H.h13⟩⟩
      · have ho := hoj
        simp only [List.getElem?_toArray, List.getElem?_cons_succ, List.getElem?_cons_zero, Option.some.injEq] at hoj
        subst hoj
        obtain rfl : b4 = false := hun
        obtain rfl : b1 = true := hall ⟨1, .guard⟩ (by simp) (by kernel_rfl)
        obtain rfl := H.h1 rfl
        clear hall
        refine wpOp_step ho (fun K' hK => ?_)
        have HK := Lib.hid hK
        clear hK ho
        go_simp
        exact HK.out _ _ ⟨_, _, _, _, _, _, _, _, _, _, _, _, _, _, _, _, _, _, _, _, _, _, _, _, _, _, _, _, rfl, rfl, ⟨H.be, H.h0, H.h1, H.h2, H.h3, (fun _ => rfl), H.h5, H.h6, H.h7, H.h8, H.h9, H.h10, H.h11, H.h12, H.h13⟩⟩
      · have ho := hoj
        simp only [List.getElem?_toArray, List.getElem?_cons_succ, List.getElem?_cons_zero, Option.some.injEq] at hoj
        subst hoj
        obtain rfl : b5 = false := hun
        obtain rfl : b1 = true := hall ⟨1, .guard⟩ (by simp) (by kernel_rfl)
        obtain rfl := H.h1 rfl
        clear hall
        refine wpOp_step ho (fun K' hK => ?_)
        have HK := Lib.hid hK
        clear hK ho
        go_simp
        exact HK.out _ _ ⟨_, _, _, _, _, _, _, _, _, _, _, _, _, _, _, _, _, _, _, _, _, _, _, _, _, _, _, _, rfl, rfl, ⟨H.be, H.h0, H.h1, H.h2, H.h3, H.h4, (fun _ => rfl), H.h6, H.h7, H.h8, H.h9, H.h10, H.h11, H.h12, H.h13⟩⟩
      · have ho := hoj
        simp only [List.getElem?_toArray, List.getElem?_cons_succ, List.getElem?_cons_zero, Option.some.injEq] at hoj
        subst hoj
        obtain rfl : b6 = false := hun
        obtain rfl : b1 = true := hall ⟨1, .guard⟩ (by simp) (by kernel_rfl)
        obtain rfl := H.h1 rfl
        clear hall
        refine wpOp_step ho (fun K' hK => ?_)
        have HK := Lib.hid hK
        clear hK ho
        go_simp
        exact HK.out _ _ ⟨_, _, _, _, _, _, _, _, _, _, _, _, _, _, _, _, _, _, _, _, _, _, _, _, _, _, _, _, rfl, rfl, ⟨H.be, H.h0, H.h1, H.h2, H.h3, H.h4, H.h5, (fun _ => rfl), H.h7, H.h8, H.h9, H.h10, H.h11, H.h12, H.h13⟩⟩
      · have ho := hoj
        simp only [List.getElem?_toArray, List.getElem?_cons_succ, List.getElem?_cons_zero, Option.some.injEq] at hoj
        subst hoj
        obtain rfl : b7 = false := hun
        obtain rfl : b3 = true := hall ⟨3, .data⟩ (by simp) (by kernel_rfl)
        obtain rfl := H.h3 rfl
        obtain rfl : b4 = true := hall ⟨4, .data⟩ (by simp) (by kernel_rfl)
        obtain rfl := H.h4 rfl
        obtain rfl : b5 = true := hall ⟨5, .data⟩ (by simp) (by kernel_rfl)
        obtain rfl := H.h5 rfl
        obtain rfl : b6 = true := hall ⟨6, .data⟩ (by simp) (by kernel_rfl)
        obtain rfl := H.h6 rfl
        obtain rfl : b1 = true := hall ⟨1, .guard⟩ (by simp) (by kernel_rfl)
        obtain rfl := H.h1 rfl
        clear hall
        have BW := Lib.hid (B2.out.trans (H.be.mono B2.out.size))
        have D3 := Lib.hid (D2.out.on H.be)
        refine wpOp_step ho (fun K' hK => ?_)
        have HK := Lib.hid hK
        clear hK ho
        go_wp2_with (go_at_call 13; have hd3 := D3.out; refine (HS2.out _ _ D3.out (V1.out.on BW.out)).mono ?_; rintro e w4 ⟨b4, d4, rfl, hd4⟩; have BB4 := Lib.hid b4; have DD4 := Lib.hid hd4; clear b4 hd4 hd3)
        exact HK.out _ _ ⟨_, _, _, _, _, _, _, _, _, _, _, _, _, _, _, _, _, _, _, _, _, _, _, _, _, _, _, _, rfl, rfl, ⟨H.be.trans (BB4.out.mono H.be.size), H.h0, H.h1, H.h2, H.h3, H.h4, H.h5, H.h6, (fun _ => DD4.out), H.h8, H.h9, H.h10, H.h11, H.h12, H.h13⟩⟩
      · have ho := hoj
        simp only [List.getElem?_toArray, List.getElem?_cons_succ, List.getElem?_cons_zero, Option.some.injEq] at hoj
        subst hoj
        obtain rfl : b8 = false := hun
        obtain rfl : b7 = true := hall ⟨7, .data⟩ (by simp) (by kernel_rfl)
        have P7 := H.h7 rfl
        obtain rfl : b1 = true := hall ⟨1, .guard⟩ (by simp) (by kernel_rfl)
        obtain rfl := H.h1 rfl
        clear hall
        obtain ⟨A6, c6, e6, _, _, _, hr6⟩ := P7.ex
        subst e6
        have s2 := run_str (P := Try.prog) hr6 rfl 26 9 5 c6 Try.underlying26 Try.underlying5 Try.underlying9
        refine wpOp_step ho (fun K' hK => ?_)
        have HK := Lib.hid hK
        clear hK ho
        go_simp
        exact HK.out _ _ ⟨_, _, _, _, _, _, _, _, _, _, _, _, _, _, _, _, _, _, _, _, _, _, _, _, _, _, _, _, rfl, rfl, ⟨H.be, H.h0, H.h1, H.h2, H.h3, H.h4, H.h5, H.h6, H.h7, (fun _ => rfl), H.h9, H.h10, H.h11, H.h12, H.h13⟩⟩
      · have ho := hoj
        simp only [List.getElem?_toArray, List.getElem?_cons_succ, List.getElem?_cons_zero, Option.some.injEq] at hoj
        subst hoj
        obtain rfl : b9 = false := hun
        obtain rfl : b1 = true := hall ⟨1, .guard⟩ (by simp) (by kernel_rfl)
        obtain rfl := H.h1 rfl
        clear hall
        refine wpOp_step ho (fun K' hK => ?_)
        have HK := Lib.hid hK
        clear hK ho
        go_simp
        exact HK.out _ _ ⟨_, _, _, _, _, _, _, _, _, _, _, _, _, _, _, _, _, _, _, _, _, _, _, _, _, _, _, _, rfl, rfl, ⟨H.be, H.h0, H.h1, H.h2, H.h3, H.h4, H.h5, H.h6, H.h7, H.h8, (fun _ => rfl), H.h10, H.h11, H.h12, H.h13⟩⟩
      · have ho := hoj
        simp only [List.getElem?_toArray, List.getElem?_cons_succ, List.getElem?_cons_zero, Option.some.injEq] at hoj
        subst hoj
        obtain rfl : b10 = false := hun
        obtain rfl : b9 = true := hall ⟨9, .data⟩ (by simp) (by kernel_rfl)
        obtain rfl := H.h9 rfl
        obtain rfl : b1 = true := hall ⟨1, .guard⟩ (by simp) (by kernel_rfl)
        obtain rfl := H.h1 rfl
        clear hall
        have s3 := run_str (P := Try.prog) (R5.out.below H.be) HXL'.out 26 9 5 c3 Try.underlying26 Try.underlying5 Try.underlying9
        refine wpOp_step ho (fun K' hK => ?_)
        have HK := Lib.hid hK
        clear hK ho
        go_simp
        exact HK.out _ _ ⟨_, _, _, _, _, _, _, _, _, _, _, _, _, _, _, _, _, _, _, _, _, _, _, _, _, _, _, _, rfl, rfl, ⟨H.be, H.h0, H.h1, H.h2, H.h3, H.h4, H.h5, H.h6, H.h7, H.h8, H.h9, (fun _ => rfl), H.h11, H.h12, H.h13⟩⟩
      · have ho := hoj
        simp only [List.getElem?_toArray, List.getElem?_cons_succ, List.getElem?_cons_zero, Option.some.injEq] at hoj
        subst hoj
        obtain rfl : b11 = false := hun
        obtain rfl : b8 = true := hall ⟨8, .data⟩ (by simp) (by kernel_rfl)
        obtain rfl := H.h8 rfl
        obtain rfl : b10 = true := hall ⟨10, .data⟩ (by simp) (by kernel_rfl)
        obtain rfl := H.h10 rfl
        obtain rfl : b1 = true := hall ⟨1, .guard⟩ (by simp) (by kernel_rfl)
        obtain rfl := H.h1 rfl
        clear hall
        refine wpOp_step ho (fun K' hK => ?_)
        have HK := Lib.hid hK
        clear hK ho
        go_simp
        exact HK.out _ _ ⟨_, _, _, _, _, _, _, _, _, _, _, _, _, _, _, _, _, _, _, _, _, _, _, _, _, _, _, _, rfl, rfl, ⟨H.be, H.h0, H.h1, H.h2, H.h3, H.h4, H.h5, H.h6, H.h7, H.h8, H.h9, H.h10, (fun _ => rfl), H.h12, H.h13⟩⟩
      · have ho := hoj
        simp only [List.getElem?_toArray, List.getElem?_cons_succ, List.getElem?_cons_zero, Option.some.injEq] at hoj
        subst hoj
        obtain rfl : b12 = false := hun
        obtain rfl : b1 = true := hall ⟨1, .data⟩ (by simp) (by kernel_rfl)
        obtain rfl := H.h1 rfl
        obtain rfl : b11 = true := hall ⟨11, .data⟩ (by simp) (by kernel_rfl)
        obtain rfl := H.h11 rfl
        clear hall
        refine wpOp_step ho (fun K' hK => ?_)
        have HK := Lib.hid hK
        clear hK ho
        go_simp
        exact HK.out _ _ ⟨_, _, _, _, _, _, _, _, _, _, _, _, _, _, _, _, _, _, _, _, _, _, _, _, _, _, _, _, rfl, rfl, ⟨H.be, H.h0, H.h1, H.h2, H.h3, H.h4, H.h5, H.h6, H.h7, H.h8, H.h9, H.h10, H.h11, (fun _ => rfl), H.h13⟩⟩
      · have ho := hoj
        simp only [List.getElem?_toArray, List.getElem?_cons_succ, List.getElem?_cons_zero, Option.some.injEq] at hoj
        subst hoj
        obtain rfl : b13 = false := hun
        obtain rfl : b12 = true := hall ⟨12, .data⟩ (by simp) (by kernel_rfl)
        obtain rfl := H.h12 rfl
        clear hall
        refine wpOp_step ho (fun K' hK => ?_)
        have HK := Lib.hid hK
        clear hK ho
        go_simp
        exact HK.out _ _ ⟨_, _, _, _, _, _, _, _, _, _, _, _, _, _, _, _, _, _, _, _, _, _, _, _, _, _, _, _, rfl, rfl, ⟨H.be, H.h0, H.h1, H.h2, H.h3, H.h4, H.h5, H.h6, H.h7, H.h8, H.h9, H.h10, H.h11, H.h12, (fun _ => rfl)⟩⟩
      · have ho := hoj
        simp at ho
    case hfin =>
      rintro listed a w ⟨b0, b1, b2, b3, b4, b5, b6, b7, b8, b9, b10, b11, b12, b13, x0, x1, x2, x3, x4, x5, x6, x7, x8, x9, x10, x11, x12, x13, rfl, rfl, H⟩ hr
      have hb : b13 = true := by
        clear H
        revert b0 b1 b2 b3 b4 b5 b6 b7 b8 b9 b10 b11 b12 b13
        decide +kernel
      subst hb
      clear hr
      obtain rfl := H.h13 rfl
      have BW := Lib.hid (B2.out.trans (H.be.mono B2.out.size))
      go_wp2
      go_ret
      exact ⟨rfl, BW.out⟩
end Go.Proofs.Ytlmckklgmijapaa
