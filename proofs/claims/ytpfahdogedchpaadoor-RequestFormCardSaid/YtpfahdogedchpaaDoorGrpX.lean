/- Several texts in one. -/
import Derived.Test.YtpfahdogedchpaaDoorGrpI
import Derived.Test.YtpfahdogedchpaaDoorGrpC
import Derived.Test.YtpfahdogedchpaaDoorTabN
/- The project's tables: Insert. -/
namespace Go.Proofs.YtpfahdogedchpaaDoor
set_option linter.unusedVariables false
open Go.RowKit P

theorem ready_ne {l : List Nat} (h : l.isEmpty = false) : l ≠ [] := by
  intro e
  rw [e] at h
  cases h
structure PIns (w0 : World) (W : World) (S1 S2 : ByteArray) (f : Fld) (q : Nat) (room put : Int) (A : Option Addr) (N c : Nat) (Y0 : List Fld) (N0 : Nat) (V0 V1 V2 V3 V4 V5 V6 V8 V11 : Value) (b0 b1 b2 b3 b4 b5 b6 b7 b8 b9 b10 b11 b12 : Bool) (x0 x1 x2 x3 x4 x5 x6 x7 x8 x9 x10 x11 x12 : Value) (w : World) : Prop where
  be : b12 = false → Below w0.heap.size w0 w
  d1 : b1 = true → b0 = true
  d3 : b3 = true → b2 = true
  d5 : b5 = true → b4 = true
  d6 : b6 = true → b3 = true ∧ b5 = true
  d7 : b7 = true → b1 = true ∧ b5 = true ∧ b6 = true
  d9 : b9 = true → b8 = true
  d10 : b10 = true → b7 = true ∧ b9 = true
  d11 : b11 = true → b0 = true ∧ b1 = true ∧ b2 = true ∧ b3 = true ∧ b4 = true ∧ b5 = true ∧ b6 = true ∧ b7 = true ∧ b8 = true ∧ b9 = true ∧ b10 = true
  d12 : b12 = true → b0 = true ∧ b1 = true ∧ b2 = true ∧ b3 = true ∧ b4 = true ∧ b5 = true ∧ b6 = true ∧ b7 = true ∧ b8 = true ∧ b9 = true ∧ b10 = true ∧ b11 = true
  ap : b10 = false → b7 = true → b9 = true → ∀ k, x7.ownBlock = some k → x9.ownBlock ≠ some k
  h0 : b0 = true → x0 = V0
  h1 : b1 = true → x1 = V1
  h2 : b2 = true → x2 = V2
  h3 : b3 = true → x3 = V3
  h4 : b4 = true → x4 = V4
  h5 : b5 = true → x5 = V5
  h6 : b6 = true → x6 = V6
  h7 : b7 = true → b10 = false → OwnE FdE w w0.heap.size 54 x7 Y0
  h8 : b8 = true → x8 = V8
  h9 : b9 = true → b10 = false → ∃ k, x9 = .slice (some ⟨k, 0, none⟩) 1 1 ∧ RowE FdE w w.heap.size (some ⟨k, 0, none⟩) [f]
  h10 : b10 = true → b12 = false → OwnE FdE w w0.heap.size 54 x10 (Y0 ++ [f])
  h11 : b11 = true → x11 = V11
  h12 : b12 = true → ∃ Aq cq, w.heap[W.heap.size]? = some (.cells #[.int .i64 room, .int .i64 put, .slice Aq (N0 + 1) cq] 24 (0, 0)) ∧ OwnE FdE w w0.heap.size 54 (.slice Aq (N0 + 1) cq) (Y0 ++ [f]) ∧ Below W.heap.size W w ∧ w.heap[W.heap.size + 2]? = some (.cells #[.int .i64 0, .int .i64 0, .slice none 0 0] 24 (0, 0))
set_option maxRecDepth 100000 in
set_option maxHeartbeats 4000000 in
theorem tinsN_any : TbInsN Tryd.prog 66 := by
  intro v t f W hv hw hfw
  have HRF := Lib.hid (fun w (hb : Below W.heap.size W w) => refuse_any v t f w (hv.on hb) hw hfw)
  have HT := Lib.hid (fun w => tsize_any f w hfw)
  have hG := insT_ref t f
  have hok := fun h : refT t f = 0 => (show okTb t ∧ okFd f ∧ (szF f : Int) ≤ t.room ∧ t.put ≠ 4611686018427387903 by
    unfold refT at h
    by_cases c : faultTb t ≠ 0
    · rw [if_pos c] at h; exact absurd h c
    · rw [if_neg c] at h
      by_cases c2 : ¬ okFd f
      · rw [if_pos c2] at h; cases h
      · rw [if_neg c2] at h
        by_cases c3 : t.room < (szF f : Int)
        · rw [if_pos c3] at h; cases h
        · rw [if_neg c3] at h
          by_cases c4 : t.put = 4611686018427387903
          · rw [if_pos c4] at h; cases h
          · exact ⟨(faultTb_iff t).1 (Decidable.byContradiction c), Decidable.byContradiction c2, by omega, c4⟩)
  obtain ⟨sv, rfl, hs⟩ := hv.ex
  obtain ⟨A, c, rfl, hlc, hcm, hr⟩ := hs.ex
  have HR := Lib.hid hr
  have pb := hw.put
  have HRW := Lib.hid hw.rows
  rw [hG]
  unfold TbResN
  unfold fdV at HRF HT ⊢
  obtain ⟨S1, hS1⟩ : ∃ S, strOfNums f.name = S := ⟨_, rfl⟩
  obtain ⟨S2, hS2⟩ : ∃ S, strOfNums f.val = S := ⟨_, rfl⟩
  have HFX := Lib.hid (show FdE.f f = [.string S1, .string S2] by rw [← hS1, ← hS2]; rfl)
  rw [hS1, hS2] at HRF HT ⊢
  obtain ⟨g0, g1, g2, g3⟩ := three_bk W #[.int .i64 t.room, .int .i64 t.put, .slice A t.rows.length c] #[.string S1, .string S2] #[.int .i64 0, .int .i64 0, .slice none 0 0] 24 54 24
  have F0 := Lib.hid g0
  have G0 := Lib.hid g1
  have Z0 := Lib.hid g2
  have B0 := Lib.hid g3
  clear g0 g1 g2 g3 hS1 hS2
  obtain ⟨x, hx⟩ : ∃ x, refT t f = x := ⟨_, rfl⟩
  rw [hx] at HRF hok ⊢
  obtain ⟨room, put, rows⟩ := t
  simp only at *
  obtain ⟨N, hN⟩ : ∃ N, rows.length = N := ⟨_, rfl⟩
  have HN := Lib.hid hN
  rw [hN] at HRF F0 G0 Z0 B0 hlc ⊢
  have hcm' : c ≤ maxLen := hcm
  unfold maxLen at hcm
  clear hv hs hr hw hx hG
  by_cases h0 : x = 0
  · subst h0
    obtain ⟨⟨k1, k2, k3, k4, k5⟩, k6, k7, k8⟩ := hok rfl
    simp only at k1 k2 k3 k4
    rw [hN] at k3
    have hw32 := wtL_len rows
    rw [hN] at hw32
    rw [if_neg (fun k => k rfl)]
    clear hok k5 hN
    obtain ⟨i0, hi0, hz0, hz1, hz2⟩ := info_partsE infoFd
    have HI := Lib.hid hi0
    have HZ := Lib.hid hz0
    have HZ1 := Lib.hid hz1
    have HZ2 := Lib.hid hz2
    have hq92 : szF f ≤ 92 := by unfold szF; unfold okFd at k6; omega
    obtain ⟨Y0, hY⟩ : ∃ Y, young (room - (szF f : Int)) rows = Y := ⟨_, rfl⟩
    have HY0 := Lib.hid (show Y0.length ≤ 1000 by obtain ⟨k, h1, h2⟩ := young_suffix (room - (szF f : Int)) rows; rw [← hY, h2, List.length_drop, HN.out]; omega)
    obtain ⟨N0, hN0⟩ : ∃ N0, Y0.length = N0 := ⟨_, rfl⟩
    have HN1 := Lib.hid (show (Y0 ++ [f]).length = N0 + 1 by rw [List.length_append, hN0]; rfl)
    have HLL := Lib.hid (fun w' (hr : RowE FdE w' w'.heap.size A rows) => hY ▸ last_any A N c rows (room - (szF f : Int)) w' hr HN.out hlc hcm' (by omega) HRW.out (by omega) (by omega))
    rw [hY]
    obtain ⟨q, hq⟩ : ∃ q, szF f = q := ⟨_, rfl⟩
    rw [hq] at HT HLL hq92 k7
    have HSUB := Lib.hid (show IntKind.i64.wrap (room - (q : Int)) = room - (q : Int) by rw [IntKind.wrap_i64]; omega)
    clear hY hq hi0 hz0 hz1 hz2 k6 hN0
    go_enter Tryd.func66, Tryd.ntmps66
    go_upto_region 4 with (go_at_call 85; refine (HRF.out _ B0.out).mono ?_; rintro e w1 ⟨rfl, b1⟩; have B1 := Lib.hid (B0.out.trans (b1.mono B0.out.size)); have F1 := Lib.hid ((b1.block _ (lt_of_block F0.out)).trans F0.out); have G1 := Lib.hid ((b1.block _ (lt_of_block G0.out)).trans G0.out); have Z1 := Lib.hid ((b1.block _ (lt_of_block Z0.out)).trans Z0.out); clear b1; obtain ⟨q0, q1, q2⟩ := bk3T F1.out; obtain ⟨y0, y1⟩ := bk2F G1.out; obtain ⟨z0, z1, z2⟩ := bk3T Z1.out; have zf := fun i => bk_frz Z1.out i)
    clear q0 q1 q2 y0 y1 z0 z1 z2 zf
    have HLA := Lib.hid (fun w' (hb : Below w1.heap.size w1 w') => HLL.out w' (HR.out.on (B1.out.trans (hb.mono B1.out.size))))
    clear HLL
    refine wp_region_inv (fun lis_ act_ wld_ => ∃ (b0 b1 b2 b3 b4 b5 b6 b7 b8 b9 b10 b11 b12 : Bool) (x0 x1 x2 x3 x4 x5 x6 x7 x8 x9 x10 x11 x12 : Value), lis_ = #[b0, b1, b2, b3, b4, b5, b6, b7, b8, b9, b10, b11, b12] ∧ act_ = { tmps := #[Value.agg #[Value.int IntKind.i64 room, Value.int IntKind.i64 put, Value.slice A N c], Value.agg #[Value.string S1, Value.string S2], Value.pointer (some { block := W.heap.size, off := 0 }), Value.pointer (some { block := W.heap.size + 1, off := 0 }), Value.pointer (some { block := W.heap.size + 1 + 1, off := 0 }), Value.int IntKind.i64 0, Value.int IntKind.i64 0, Value.agg #[Value.int IntKind.i64 room, Value.int IntKind.i64 put, Value.slice A N c], Value.agg #[Value.string S1, Value.string S2], Value.int IntKind.i64 0, Value.int IntKind.i64 0, Value.bool false, undef, undef, x0, x1, x2, x3, x4, x5, x6, x7, x8, x9, x10, x11, undef, undef, undef, undef, undef], defers := [] } ∧ PIns w1 W S1 S2 f q room put A N c Y0 N0 (.pointer (some ⟨W.heap.size, 2, none⟩)) (.slice A N c) (.pointer (some ⟨W.heap.size, 0, none⟩)) (.int .i64 room) (.agg #[.string S1, .string S2]) (.int .i64 (q : Int)) (.int .i64 (room - (q : Int))) (.agg #[.string S1, .string S2]) (.pointer (some ⟨W.heap.size, 2, none⟩)) b0 b1 b2 b3 b4 b5 b6 b7 b8 b9 b10 b11 b12 x0 x1 x2 x3 x4 x5 x6 x7 x8 x9 x10 x11 x12 wld_) (by kernel_rfl) ?h0 ?hfin ?hI
    case h0 => exact ⟨_, _, _, _, _, _, _, _, _, _, _, _, _, _, _, _, _, _, _, _, _, _, _, _, _, undef, rfl, rfl, ⟨(fun _ => (Below.refl _ _).drew), (fun h => by cases h), (fun h => by cases h), (fun h => by cases h), (fun h => by cases h), (fun h => by cases h), (fun h => by cases h), (fun h => by cases h), (fun h => by cases h), (fun h => by cases h), (fun _ => (fun h => by cases h)), (fun h => by cases h), (fun h => by cases h), (fun h => by cases h), (fun h => by cases h), (fun h => by cases h), (fun h => by cases h), (fun h => by cases h), (fun h => by cases h), (fun h => by cases h), (fun h => by cases h), (fun h => by cases h), (fun h => by cases h), (fun h => by cases h)⟩⟩
    case hI =>
      rintro listed a w ⟨b0, b1, b2, b3, b4, b5, b6, b7, b8, b9, b10, b11, b12, x0, x1, x2, x3, x4, x5, x6, x7, x8, x9, x10, x11, x12, rfl, rfl, H⟩ i hi
      obtain ⟨hun, oj, hoj, hall⟩ := mem_ready.1 hi
      clear hi
      rcases i with _ | _ | _ | _ | _ | _ | _ | _ | _ | _ | _ | _ | _ | i
      · have ho := hoj
        simp only [List.getElem?_toArray, List.getElem?_cons_succ, List.getElem?_cons_zero, Option.some.injEq] at hoj
        subst hoj
        obtain rfl : b0 = false := hun
        clear hall
        obtain rfl : b1 = false := Bool.eq_false_iff.2 fun h => Bool.false_ne_true (H.d1 h)
        obtain rfl : b7 = false := Bool.eq_false_iff.2 fun h => Bool.false_ne_true (H.d7 h).1
        obtain rfl : b10 = false := Bool.eq_false_iff.2 fun h => Bool.false_ne_true (H.d10 h).1
        obtain rfl : b11 = false := Bool.eq_false_iff.2 fun h => Bool.false_ne_true (H.d11 h).1
        obtain rfl : b12 = false := Bool.eq_false_iff.2 fun h => Bool.false_ne_true (H.d12 h).1
        have hbe := H.be rfl
        have hx_ap := H.ap rfl
        refine wpOp_step ho (fun K' hK => ?_)
        have HK := Lib.hid hK
        clear hK ho
        go_simp
        exact HK.out _ _ ⟨_, _, _, _, _, _, _, _, _, _, _, _, _, _, _, _, _, _, _, _, _, _, _, _, _, x12, rfl, rfl, ⟨(fun _ => hbe), (fun h => by cases h), H.d3, H.d5, H.d6, H.d7, H.d9, H.d10, (fun h => by cases h), (fun h => by cases h), H.ap, (fun _ => rfl), H.h1, H.h2, H.h3, H.h4, H.h5, H.h6, (fun h => by cases h), H.h8, H.h9, (fun h => by cases h), H.h11, (fun h => by cases h)⟩⟩
      · have ho := hoj
        simp only [List.getElem?_toArray, List.getElem?_cons_succ, List.getElem?_cons_zero, Option.some.injEq] at hoj
        subst hoj
        obtain rfl : b1 = false := hun
        obtain rfl : b0 = true := hall ⟨0, .data⟩ (by simp) (by kernel_rfl)
        clear hall
        obtain rfl : b7 = false := Bool.eq_false_iff.2 fun h => Bool.false_ne_true (H.d7 h).1
        obtain rfl : b10 = false := Bool.eq_false_iff.2 fun h => Bool.false_ne_true (H.d10 h).1
        obtain rfl : b11 = false := Bool.eq_false_iff.2 fun h => Bool.false_ne_true (H.d11 h).2.1
        obtain rfl : b12 = false := Bool.eq_false_iff.2 fun h => Bool.false_ne_true (H.d12 h).2.1
        have hbe := H.be rfl
        have hx_ap := H.ap rfl
        obtain rfl := H.h0 rfl
        obtain ⟨q0, q1, q2⟩ := bk3T ((hbe.block _ (lt_of_block F1.out)).trans F1.out)
        refine wpOp_step ho (fun K' hK => ?_)
        have HK := Lib.hid hK
        clear hK ho
        go_simp
        exact HK.out _ _ ⟨_, _, _, _, _, _, _, _, _, _, _, _, _, _, _, _, _, _, _, _, _, _, _, _, _, x12, rfl, rfl, ⟨(fun _ => hbe), (fun _ => rfl), H.d3, H.d5, H.d6, (fun h => by cases h), H.d9, H.d10, (fun h => by cases h), (fun h => by cases h), H.ap, H.h0, (fun _ => rfl), H.h2, H.h3, H.h4, H.h5, H.h6, (fun h => by cases h), H.h8, H.h9, (fun h => by cases h), H.h11, (fun h => by cases h)⟩⟩
      · have ho := hoj
        simp only [List.getElem?_toArray, List.getElem?_cons_succ, List.getElem?_cons_zero, Option.some.injEq] at hoj
        subst hoj
        obtain rfl : b2 = false := hun
        clear hall
        obtain rfl : b3 = false := Bool.eq_false_iff.2 fun h => Bool.false_ne_true (H.d3 h)
        obtain rfl : b6 = false := Bool.eq_false_iff.2 fun h => Bool.false_ne_true (H.d6 h).1
        obtain rfl : b7 = false := Bool.eq_false_iff.2 fun h => Bool.false_ne_true (H.d7 h).2.2
        obtain rfl : b10 = false := Bool.eq_false_iff.2 fun h => Bool.false_ne_true (H.d10 h).1
        obtain rfl : b11 = false := Bool.eq_false_iff.2 fun h => Bool.false_ne_true (H.d11 h).2.2.1
        obtain rfl : b12 = false := Bool.eq_false_iff.2 fun h => Bool.false_ne_true (H.d12 h).2.2.1
        have hbe := H.be rfl
        have hx_ap := H.ap rfl
        refine wpOp_step ho (fun K' hK => ?_)
        have HK := Lib.hid hK
        clear hK ho
        go_simp
        exact HK.out _ _ ⟨_, _, _, _, _, _, _, _, _, _, _, _, _, _, _, _, _, _, _, _, _, _, _, _, _, x12, rfl, rfl, ⟨(fun _ => hbe), H.d1, (fun h => by cases h), H.d5, H.d6, H.d7, H.d9, H.d10, (fun h => by cases h), (fun h => by cases h), H.ap, H.h0, H.h1, (fun _ => rfl), H.h3, H.h4, H.h5, H.h6, (fun h => by cases h), H.h8, H.h9, (fun h => by cases h), H.h11, (fun h => by cases h)⟩⟩
      · have ho := hoj
        simp only [List.getElem?_toArray, List.getElem?_cons_succ, List.getElem?_cons_zero, Option.some.injEq] at hoj
        subst hoj
        obtain rfl : b3 = false := hun
        obtain rfl : b2 = true := hall ⟨2, .data⟩ (by simp) (by kernel_rfl)
        clear hall
        obtain rfl : b6 = false := Bool.eq_false_iff.2 fun h => Bool.false_ne_true (H.d6 h).1
        obtain rfl : b7 = false := Bool.eq_false_iff.2 fun h => Bool.false_ne_true (H.d7 h).2.2
        obtain rfl : b10 = false := Bool.eq_false_iff.2 fun h => Bool.false_ne_true (H.d10 h).1
        obtain rfl : b11 = false := Bool.eq_false_iff.2 fun h => Bool.false_ne_true (H.d11 h).2.2.2.1
        obtain rfl : b12 = false := Bool.eq_false_iff.2 fun h => Bool.false_ne_true (H.d12 h).2.2.2.1
        have hbe := H.be rfl
        have hx_ap := H.ap rfl
        obtain rfl := H.h2 rfl
        obtain ⟨q0, q1, q2⟩ := bk3T ((hbe.block _ (lt_of_block F1.out)).trans F1.out)
        refine wpOp_step ho (fun K' hK => ?_)
        have HK := Lib.hid hK
        clear hK ho
        go_simp
        exact HK.out _ _ ⟨_, _, _, _, _, _, _, _, _, _, _, _, _, _, _, _, _, _, _, _, _, _, _, _, _, x12, rfl, rfl, ⟨(fun _ => hbe), H.d1, (fun _ => rfl), H.d5, (fun h => by cases h), H.d7, H.d9, H.d10, (fun h => by cases h), (fun h => by cases h), H.ap, H.h0, H.h1, H.h2, (fun _ => rfl), H.h4, H.h5, H.h6, (fun h => by cases h), H.h8, H.h9, (fun h => by cases h), H.h11, (fun h => by cases h)⟩⟩
      · have ho := hoj
        simp only [List.getElem?_toArray, List.getElem?_cons_succ, List.getElem?_cons_zero, Option.some.injEq] at hoj
        subst hoj
        obtain rfl : b4 = false := hun
        clear hall
        obtain rfl : b5 = false := Bool.eq_false_iff.2 fun h => Bool.false_ne_true (H.d5 h)
        obtain rfl : b6 = false := Bool.eq_false_iff.2 fun h => Bool.false_ne_true (H.d6 h).2
        obtain rfl : b7 = false := Bool.eq_false_iff.2 fun h => Bool.false_ne_true (H.d7 h).2.1
        obtain rfl : b10 = false := Bool.eq_false_iff.2 fun h => Bool.false_ne_true (H.d10 h).1
        obtain rfl : b11 = false := Bool.eq_false_iff.2 fun h => Bool.false_ne_true (H.d11 h).2.2.2.2.1
        obtain rfl : b12 = false := Bool.eq_false_iff.2 fun h => Bool.false_ne_true (H.d12 h).2.2.2.2.1
        have hbe := H.be rfl
        have hx_ap := H.ap rfl
        obtain ⟨y0, y1⟩ := bk2F ((hbe.block _ (lt_of_block G1.out)).trans G1.out)
        refine wpOp_step ho (fun K' hK => ?_)
        have HK := Lib.hid hK
        clear hK ho
        go_simp
        exact HK.out _ _ ⟨_, _, _, _, _, _, _, _, _, _, _, _, _, _, _, _, _, _, _, _, _, _, _, _, _, x12, rfl, rfl, ⟨(fun _ => hbe), H.d1, H.d3, (fun h => by cases h), H.d6, H.d7, H.d9, H.d10, (fun h => by cases h), (fun h => by cases h), H.ap, H.h0, H.h1, H.h2, H.h3, (fun _ => rfl), H.h5, H.h6, (fun h => by cases h), H.h8, H.h9, (fun h => by cases h), H.h11, (fun h => by cases h)⟩⟩
      · have ho := hoj
        simp only [List.getElem?_toArray, List.getElem?_cons_succ, List.getElem?_cons_zero, Option.some.injEq] at hoj
        subst hoj
        obtain rfl : b5 = false := hun
        obtain rfl : b4 = true := hall ⟨4, .data⟩ (by simp) (by kernel_rfl)
        clear hall
        obtain rfl : b6 = false := Bool.eq_false_iff.2 fun h => Bool.false_ne_true (H.d6 h).2
        obtain rfl : b7 = false := Bool.eq_false_iff.2 fun h => Bool.false_ne_true (H.d7 h).2.1
        obtain rfl : b10 = false := Bool.eq_false_iff.2 fun h => Bool.false_ne_true (H.d10 h).1
        obtain rfl : b11 = false := Bool.eq_false_iff.2 fun h => Bool.false_ne_true (H.d11 h).2.2.2.2.2.1
        obtain rfl : b12 = false := Bool.eq_false_iff.2 fun h => Bool.false_ne_true (H.d12 h).2.2.2.2.2.1
        have hbe := H.be rfl
        have hx_ap := H.ap rfl
        obtain rfl := H.h4 rfl
        refine wpOp_step ho (fun K' hK => ?_)
        have HK := Lib.hid hK
        clear hK ho
        go_wp2_with fail
        refine (HT.out _).mono ?_
        rintro e w9 ⟨rfl, b9⟩
        have BC := Lib.hid b9
        clear b9
        go_wp2_with fail
        exact HK.out _ _ ⟨_, _, _, _, _, _, _, _, _, _, _, _, _, _, _, _, _, _, _, _, _, _, _, _, _, x12, rfl, rfl, ⟨(fun _ => hbe.trans (BC.out.mono hbe.size)), H.d1, H.d3, (fun _ => rfl), (fun h => by cases h), (fun h => by cases h), H.d9, H.d10, (fun h => by cases h), (fun h => by cases h), (fun _ => hx_ap), H.h0, H.h1, H.h2, H.h3, H.h4, (fun _ => rfl), H.h6, (fun h => by cases h), H.h8, (fun e f => let ⟨k, e1, e2⟩ := (H.h9 e f); ⟨k, e1, e2.on BC.out⟩), (fun h => by cases h), H.h11, (fun h => by cases h)⟩⟩
      · have ho := hoj
        simp only [List.getElem?_toArray, List.getElem?_cons_succ, List.getElem?_cons_zero, Option.some.injEq] at hoj
        subst hoj
        obtain rfl : b6 = false := hun
        obtain rfl : b3 = true := hall ⟨3, .data⟩ (by simp) (by kernel_rfl)
        obtain rfl : b5 = true := hall ⟨5, .data⟩ (by simp) (by kernel_rfl)
        obtain rfl : b2 = true := (H.d3 rfl)
        obtain rfl : b4 = true := (H.d5 rfl)
        clear hall
        obtain rfl : b7 = false := Bool.eq_false_iff.2 fun h => Bool.false_ne_true (H.d7 h).2.2
        obtain rfl : b10 = false := Bool.eq_false_iff.2 fun h => Bool.false_ne_true (H.d10 h).1
        obtain rfl : b11 = false := Bool.eq_false_iff.2 fun h => Bool.false_ne_true (H.d11 h).2.2.2.2.2.2.1
        obtain rfl : b12 = false := Bool.eq_false_iff.2 fun h => Bool.false_ne_true (H.d12 h).2.2.2.2.2.2.1
        have hbe := H.be rfl
        have hx_ap := H.ap rfl
        obtain rfl := H.h2 rfl
        obtain rfl := H.h3 rfl
        obtain rfl := H.h4 rfl
        obtain rfl := H.h5 rfl
        have hsub := HSUB.out
        refine wpOp_step ho (fun K' hK => ?_)
        have HK := Lib.hid hK
        clear hK ho
        go_simp
        exact HK.out _ _ ⟨_, _, _, _, _, _, _, _, _, _, _, _, _, _, _, _, _, _, _, _, _, _, _, _, _, x12, rfl, rfl, ⟨(fun _ => hbe), H.d1, H.d3, H.d5, (fun _ => ⟨rfl, rfl⟩), (fun h => by cases h), H.d9, H.d10, (fun h => by cases h), (fun h => by cases h), H.ap, H.h0, H.h1, H.h2, H.h3, H.h4, H.h5, (fun _ => rfl), (fun h => by cases h), H.h8, H.h9, (fun h => by cases h), H.h11, (fun h => by cases h)⟩⟩
      · have ho := hoj
        simp only [List.getElem?_toArray, List.getElem?_cons_succ, List.getElem?_cons_zero, Option.some.injEq] at hoj
        subst hoj
        obtain rfl : b7 = false := hun
        obtain rfl : b1 = true := hall ⟨1, .data⟩ (by simp) (by kernel_rfl)
        obtain rfl : b5 = true := hall ⟨5, .chain⟩ (by simp) (by kernel_rfl)
        obtain rfl : b6 = true := hall ⟨6, .data⟩ (by simp) (by kernel_rfl)
        obtain rfl : b0 = true := (H.d1 rfl)
        obtain rfl : b4 = true := (H.d5 rfl)
        obtain rfl : b3 = true := (H.d6 rfl).1
        obtain rfl : b2 = true := (H.d3 rfl)
        clear hall
        obtain rfl : b10 = false := Bool.eq_false_iff.2 fun h => Bool.false_ne_true (H.d10 h).1
        obtain rfl : b11 = false := Bool.eq_false_iff.2 fun h => Bool.false_ne_true (H.d11 h).2.2.2.2.2.2.2.1
        obtain rfl : b12 = false := Bool.eq_false_iff.2 fun h => Bool.false_ne_true (H.d12 h).2.2.2.2.2.2.2.1
        have hbe := H.be rfl
        have hx_ap := H.ap rfl
        obtain rfl := H.h0 rfl
        obtain rfl := H.h1 rfl
        obtain rfl := H.h2 rfl
        obtain rfl := H.h3 rfl
        obtain rfl := H.h4 rfl
        obtain rfl := H.h5 rfl
        obtain rfl := H.h6 rfl
        have hsz := hbe.size
        refine wpOp_step ho (fun K' hK => ?_)
        have HK := Lib.hid hK
        clear hK ho
        go_wp2_with fail
        refine (HLA.out _ hbe).mono ?_
        rintro e w9 ⟨b9, u9, rfl, o9⟩
        have BC := Lib.hid b9
        have UB := Lib.hid o9
        have UC := Lib.hid (OwnE.low o9 hsz)
        clear b9 o9
        go_wp2_with fail
        exact HK.out _ _ ⟨_, _, _, _, _, _, _, _, _, _, _, _, _, _, _, _, _, _, _, _, _, _, _, _, _, x12, rfl, rfl, ⟨(fun _ => hbe.trans (BC.out.mono hbe.size)), H.d1, H.d3, H.d5, H.d6, (fun _ => ⟨rfl, rfl, rfl⟩), H.d9, (fun h => by cases h), (fun h => by cases h), (fun h => by cases h), (fun _ => fun _ e9 k hk h9 => by obtain ⟨k9, e1, e2⟩ := H.h9 e9 rfl; rw [e1] at h9; cases h9; obtain ⟨b, off, e3, hb, _⟩ := e2 (by simp); cases e3; exact absurd (OwnE.lt UB.out _ hk).1 (Nat.not_le.2 hb)), H.h0, H.h1, H.h2, H.h3, H.h4, H.h5, H.h6, (fun _ _ => UC.out), H.h8, (fun e f => let ⟨k, e1, e2⟩ := (H.h9 e f); ⟨k, e1, e2.on BC.out⟩), (fun h => by cases h), H.h11, (fun h => by cases h)⟩⟩
      · have ho := hoj
        simp only [List.getElem?_toArray, List.getElem?_cons_succ, List.getElem?_cons_zero, Option.some.injEq] at hoj
        subst hoj
        obtain rfl : b8 = false := hun
        clear hall
        obtain rfl : b9 = false := Bool.eq_false_iff.2 fun h => Bool.false_ne_true (H.d9 h)
        obtain rfl : b10 = false := Bool.eq_false_iff.2 fun h => Bool.false_ne_true (H.d10 h).2
        obtain rfl : b11 = false := Bool.eq_false_iff.2 fun h => Bool.false_ne_true (H.d11 h).2.2.2.2.2.2.2.2.1
        obtain rfl : b12 = false := Bool.eq_false_iff.2 fun h => Bool.false_ne_true (H.d12 h).2.2.2.2.2.2.2.2.1
        have hbe := H.be rfl
        have hx_ap := H.ap rfl
        obtain ⟨y0, y1⟩ := bk2F ((hbe.block _ (lt_of_block G1.out)).trans G1.out)
        refine wpOp_step ho (fun K' hK => ?_)
        have HK := Lib.hid hK
        clear hK ho
        go_simp
        exact HK.out _ _ ⟨_, _, _, _, _, _, _, _, _, _, _, _, _, _, _, _, _, _, _, _, _, _, _, _, _, x12, rfl, rfl, ⟨(fun _ => hbe), H.d1, H.d3, H.d5, H.d6, H.d7, (fun h => by cases h), H.d10, (fun h => by cases h), (fun h => by cases h), H.ap, H.h0, H.h1, H.h2, H.h3, H.h4, H.h5, H.h6, H.h7, (fun _ => rfl), (fun h => by cases h), (fun h => by cases h), H.h11, (fun h => by cases h)⟩⟩
      · have ho := hoj
        simp only [List.getElem?_toArray, List.getElem?_cons_succ, List.getElem?_cons_zero, Option.some.injEq] at hoj
        subst hoj
        obtain rfl : b9 = false := hun
        obtain rfl : b8 = true := hall ⟨8, .data⟩ (by simp) (by kernel_rfl)
        clear hall
        obtain rfl : b10 = false := Bool.eq_false_iff.2 fun h => Bool.false_ne_true (H.d10 h).2
        obtain rfl : b11 = false := Bool.eq_false_iff.2 fun h => Bool.false_ne_true (H.d11 h).2.2.2.2.2.2.2.2.2.1
        obtain rfl : b12 = false := Bool.eq_false_iff.2 fun h => Bool.false_ne_true (H.d12 h).2.2.2.2.2.2.2.2.2.1
        have hbe := H.be rfl
        have hx_ap := H.ap rfl
        obtain rfl := H.h8 rfl
        have BA := Lib.hid ((Below.refl w.heap.size w).alloc (Nat.le_refl _) (.cells #[.string S1, .string S2] 54))
        have NA := Lib.hid ((RowE.one (E := FdE) w f #[.string S1, .string S2] 54 w.heap.size rfl (HFX.out.symm)).more (show w.heap.size + 1 ≤ (w.alloc (.cells #[.string S1, .string S2] 54)).heap.size by simp))
        refine wpOp_step ho (fun K' hK => ?_)
        have HK := Lib.hid hK
        clear hK ho
        go_simp
        exact HK.out _ _ ⟨_, _, _, _, _, _, _, _, _, _, _, _, _, _, _, _, _, _, _, _, _, _, _, _, _, x12, rfl, rfl, ⟨(fun _ => hbe.trans (BA.out.mono hbe.size)), H.d1, H.d3, H.d5, H.d6, H.d7, (fun _ => rfl), (fun h => by cases h), (fun h => by cases h), (fun h => by cases h), (fun _ => fun e7 _ k hk h9 => by have := (OwnE.lt (H.h7 e7 ‹_›) k hk).2; cases h9; exact Nat.lt_irrefl _ this), H.h0, H.h1, H.h2, H.h3, H.h4, H.h5, H.h6, (fun e f => OwnE.later (H.h7 e f) BA.out), H.h8, (fun _ _ => ⟨_, rfl, NA.out⟩), (fun h => by cases h), H.h11, (fun h => by cases h)⟩⟩
      · have ho := hoj
        simp only [List.getElem?_toArray, List.getElem?_cons_succ, List.getElem?_cons_zero, Option.some.injEq] at hoj
        subst hoj
        obtain rfl : b10 = false := hun
        obtain rfl : b7 = true := hall ⟨7, .data⟩ (by simp) (by kernel_rfl)
        obtain rfl : b9 = true := hall ⟨9, .data⟩ (by simp) (by kernel_rfl)
        obtain rfl : b1 = true := (H.d7 rfl).1
        obtain rfl : b5 = true := (H.d7 rfl).2.1
        obtain rfl : b6 = true := (H.d7 rfl).2.2
        obtain rfl : b8 = true := (H.d9 rfl)
        obtain rfl : b0 = true := (H.d1 rfl)
        obtain rfl : b4 = true := (H.d5 rfl)
        obtain rfl : b3 = true := (H.d6 rfl).1
        obtain rfl : b2 = true := (H.d3 rfl)
        clear hall
        obtain rfl : b11 = false := Bool.eq_false_iff.2 fun h => Bool.false_ne_true (H.d11 h).2.2.2.2.2.2.2.2.2.2
        obtain rfl : b12 = false := Bool.eq_false_iff.2 fun h => Bool.false_ne_true (H.d12 h).2.2.2.2.2.2.2.2.2.2.1
        have hbe := H.be rfl
        have hx_ap := H.ap rfl
        obtain rfl := H.h0 rfl
        obtain rfl := H.h1 rfl
        obtain rfl := H.h2 rfl
        obtain rfl := H.h3 rfl
        obtain rfl := H.h4 rfl
        obtain rfl := H.h5 rfl
        obtain rfl := H.h6 rfl
        have P7 := H.h7 rfl rfl
        obtain rfl := H.h8 rfl
        have P9 := H.h9 rfl rfl
        have hsz := hbe.size
        obtain ⟨k9, rfl, hk9⟩ := P9
        have O7 := Lib.hid P7
        have K9 := Lib.hid hk9
        have hy0 := HY0.out
        clear hk9
        refine wpOp_step ho (fun K' hK => ?_)
        have HK := Lib.hid hK
        clear hK ho
        refine step_appE w rfl (.tmp 21) (.tmp 23) _ rfl w1.heap.size 54 i0 (.agg #[.string ⟨#[]⟩, .string ⟨#[]⟩]) 32 Tryd.underlying22 HI.out HZ.out HZ1.out HZ2.out rfl (by decide) _ Y0 rfl O7.out w.heap.size (some ⟨k9, 0, none⟩) 1 1 [f] rfl K9.out rfl (by omega) hsz ?_
        intro v9 u9 own9 g9
        have O9 := Lib.hid own9
        have GG := Lib.hid g9
        have BB := Lib.hid (hbe.grown g9 hsz (fun k hk => (OwnE.lt O7.out k hk).1))
        clear own9 g9
        exact HK.out _ _ ⟨_, _, _, _, _, _, _, _, _, _, _, _, _, _, _, _, _, _, _, _, _, _, _, _, _, x12, rfl, rfl, ⟨(fun _ => BB.out), H.d1, H.d3, H.d5, H.d6, H.d7, H.d9, (fun _ => ⟨rfl, rfl⟩), (fun h => by cases h), (fun h => by cases h), (fun h => by cases h), H.h0, H.h1, H.h2, H.h3, H.h4, H.h5, H.h6, (fun _ h => by cases h), H.h8, (fun _ h => by cases h), (fun _ _ => O9.out), H.h11, (fun h => by cases h)⟩⟩
      · have ho := hoj
        simp only [List.getElem?_toArray, List.getElem?_cons_succ, List.getElem?_cons_zero, Option.some.injEq] at hoj
        subst hoj
        obtain rfl : b11 = false := hun
        obtain rfl : b0 = true := hall ⟨0, .phase⟩ (by simp) (by kernel_rfl)
        obtain rfl : b1 = true := hall ⟨1, .phase⟩ (by simp) (by kernel_rfl)
        obtain rfl : b2 = true := hall ⟨2, .phase⟩ (by simp) (by kernel_rfl)
        obtain rfl : b3 = true := hall ⟨3, .phase⟩ (by simp) (by kernel_rfl)
        obtain rfl : b4 = true := hall ⟨4, .phase⟩ (by simp) (by kernel_rfl)
        obtain rfl : b5 = true := hall ⟨5, .phase⟩ (by simp) (by kernel_rfl)
        obtain rfl : b6 = true := hall ⟨6, .phase⟩ (by simp) (by kernel_rfl)
        obtain rfl : b7 = true := hall ⟨7, .phase⟩ (by simp) (by kernel_rfl)
        obtain rfl : b8 = true := hall ⟨8, .phase⟩ (by simp) (by kernel_rfl)
        obtain rfl : b9 = true := hall ⟨9, .phase⟩ (by simp) (by kernel_rfl)
        obtain rfl : b10 = true := hall ⟨10, .phase⟩ (by simp) (by kernel_rfl)
        clear hall
        obtain rfl : b12 = false := Bool.eq_false_iff.2 fun h => Bool.false_ne_true (H.d12 h).2.2.2.2.2.2.2.2.2.2.2
        have hbe := H.be rfl
        obtain rfl := H.h0 rfl
        obtain rfl := H.h1 rfl
        obtain rfl := H.h2 rfl
        obtain rfl := H.h3 rfl
        obtain rfl := H.h4 rfl
        obtain rfl := H.h5 rfl
        obtain rfl := H.h6 rfl
        obtain rfl := H.h8 rfl
        have P10 := H.h10 rfl rfl
        refine wpOp_step ho (fun K' hK => ?_)
        have HK := Lib.hid hK
        clear hK ho
        go_simp
        exact HK.out _ _ ⟨_, _, _, _, _, _, _, _, _, _, _, _, _, _, _, _, _, _, _, _, _, _, _, _, _, x12, rfl, rfl, ⟨(fun _ => hbe), H.d1, H.d3, H.d5, H.d6, H.d7, H.d9, H.d10, (fun _ => ⟨rfl, rfl, rfl, rfl, rfl, rfl, rfl, rfl, rfl, rfl, rfl⟩), (fun h => by cases h), (fun h => by cases h), H.h0, H.h1, H.h2, H.h3, H.h4, H.h5, H.h6, (fun _ h => by cases h), H.h8, (fun _ h => by cases h), H.h10, (fun _ => rfl), (fun h => by cases h)⟩⟩
      · have ho := hoj
        simp only [List.getElem?_toArray, List.getElem?_cons_succ, List.getElem?_cons_zero, Option.some.injEq] at hoj
        subst hoj
        obtain rfl : b12 = false := hun
        obtain rfl : b0 = true := hall ⟨0, .phase⟩ (by simp) (by kernel_rfl)
        obtain rfl : b1 = true := hall ⟨1, .phase⟩ (by simp) (by kernel_rfl)
        obtain rfl : b2 = true := hall ⟨2, .phase⟩ (by simp) (by kernel_rfl)
        obtain rfl : b3 = true := hall ⟨3, .phase⟩ (by simp) (by kernel_rfl)
        obtain rfl : b4 = true := hall ⟨4, .phase⟩ (by simp) (by kernel_rfl)
        obtain rfl : b5 = true := hall ⟨5, .phase⟩ (by simp) (by kernel_rfl)
        obtain rfl : b6 = true := hall ⟨6, .phase⟩ (by simp) (by kernel_rfl)
        obtain rfl : b7 = true := hall ⟨7, .phase⟩ (by simp) (by kernel_rfl)
        obtain rfl : b8 = true := hall ⟨8, .phase⟩ (by simp) (by kernel_rfl)
        obtain rfl : b9 = true := hall ⟨9, .phase⟩ (by simp) (by kernel_rfl)
        obtain rfl : b10 = true := hall ⟨10, .data⟩ (by simp) (by kernel_rfl)
        obtain rfl : b11 = true := hall ⟨11, .data⟩ (by simp) (by kernel_rfl)
        clear hall
        have hbe := H.be rfl
        obtain rfl := H.h0 rfl
        obtain rfl := H.h1 rfl
        obtain rfl := H.h2 rfl
        obtain rfl := H.h3 rfl
        obtain rfl := H.h4 rfl
        obtain rfl := H.h5 rfl
        obtain rfl := H.h6 rfl
        obtain rfl := H.h8 rfl
        have P10 := H.h10 rfl rfl
        obtain rfl := H.h11 rfl
        obtain ⟨A9, c9, rfl, s1, s2, s3⟩ := P10.slice
        rw [HN1.out] at *
        have FB := Lib.hid ((hbe.block _ (lt_of_block F1.out)).trans F1.out)
        have ZB := Lib.hid ((hbe.block _ (lt_of_block Z1.out)).trans Z1.out)
        have hsz := lt_of_block F1.out
        have gp := gr_set w W.heap.size 2 (.slice A9 (N0 + 1) c9)
        have K1 := Lib.hid (show (w.setCell ⟨W.heap.size, 2, none⟩ (.slice A9 (N0 + 1) c9)).heap[W.heap.size]? = some (.cells #[.int .i64 room, .int .i64 put, .slice A9 (N0 + 1) c9] 24 (0, 0)) by simpa using bk_set FB.out 2 (.slice A9 (N0 + 1) c9))
        have OK9 := Lib.hid (OwnE.kept P10 gp (fun e => by have := (OwnE.lt P10 _ e).1; omega))
        have BV := Lib.hid (gr_from (B1.out.trans (hbe.mono B1.out.size)) (Nat.le_trans B1.out.size hbe.size) (Nat.le_refl _) gp)
        have ZV := Lib.hid ((gp.block _ (lt_of_block ZB.out) (by simp)).trans ZB.out)
        obtain ⟨q0, q1, q2⟩ := bk3T FB.out
        have qf := fun i => bk_frz FB.out i
        clear gp s3
        refine wpOp_step ho (fun K' hK => ?_)
        have HK := Lib.hid hK
        clear hK ho
        go_simp
        exact HK.out _ _ ⟨_, _, _, _, _, _, _, _, _, _, _, _, _, _, _, _, _, _, _, _, _, _, _, _, _, x12, rfl, rfl, ⟨(fun h => by cases h), H.d1, H.d3, H.d5, H.d6, H.d7, H.d9, H.d10, H.d11, (fun _ => ⟨rfl, rfl, rfl, rfl, rfl, rfl, rfl, rfl, rfl, rfl, rfl, rfl⟩), (fun h => by cases h), H.h0, H.h1, H.h2, H.h3, H.h4, H.h5, H.h6, (fun _ h => by cases h), H.h8, (fun _ h => by cases h), (fun _ h => by cases h), H.h11, (fun _ => ⟨_, _, K1.out, OK9.out, BV.out, ZV.out⟩)⟩⟩
      · have ho := hoj
        simp at ho
    case hfin =>
      rintro listed a w ⟨b0, b1, b2, b3, b4, b5, b6, b7, b8, b9, b10, b11, b12, x0, x1, x2, x3, x4, x5, x6, x7, x8, x9, x10, x11, x12, rfl, rfl, H⟩ hr
      have hb : b12 = true := by
        clear H
        obtain rfl : b0 = true := by
          cases b0
          · exact absurd hr (ready_ne (by kernel_rfl))
          · rfl
        obtain rfl : b1 = true := by
          cases b1
          · exact absurd hr (ready_ne (by kernel_rfl))
          · rfl
        obtain rfl : b2 = true := by
          cases b2
          · exact absurd hr (ready_ne (by kernel_rfl))
          · rfl
        obtain rfl : b3 = true := by
          cases b3
          · exact absurd hr (ready_ne (by kernel_rfl))
          · rfl
        obtain rfl : b4 = true := by
          cases b4
          · exact absurd hr (ready_ne (by kernel_rfl))
          · rfl
        obtain rfl : b5 = true := by
          cases b5
          · exact absurd hr (ready_ne (by kernel_rfl))
          · rfl
        obtain rfl : b6 = true := by
          cases b6
          · exact absurd hr (ready_ne (by kernel_rfl))
          · rfl
        obtain rfl : b7 = true := by
          cases b7
          · exact absurd hr (ready_ne (by kernel_rfl))
          · rfl
        obtain rfl : b8 = true := by
          cases b8
          · exact absurd hr (ready_ne (by kernel_rfl))
          · rfl
        obtain rfl : b9 = true := by
          cases b9
          · exact absurd hr (ready_ne (by kernel_rfl))
          · rfl
        obtain rfl : b10 = true := by
          cases b10
          · exact absurd hr (ready_ne (by kernel_rfl))
          · rfl
        obtain rfl : b11 = true := by
          cases b11
          · exact absurd hr (ready_ne (by kernel_rfl))
          · rfl
        obtain rfl : b12 = true := by
          cases b12
          · exact absurd hr (ready_ne (by kernel_rfl))
          · rfl
        rfl
      subst hb
      clear hr
      obtain rfl : b0 = true := (H.d12 rfl).1
      obtain rfl : b1 = true := (H.d12 rfl).2.1
      obtain rfl : b2 = true := (H.d12 rfl).2.2.1
      obtain rfl : b3 = true := (H.d12 rfl).2.2.2.1
      obtain rfl : b4 = true := (H.d12 rfl).2.2.2.2.1
      obtain rfl : b5 = true := (H.d12 rfl).2.2.2.2.2.1
      obtain rfl : b6 = true := (H.d12 rfl).2.2.2.2.2.2.1
      obtain rfl : b7 = true := (H.d12 rfl).2.2.2.2.2.2.2.1
      obtain rfl : b8 = true := (H.d12 rfl).2.2.2.2.2.2.2.2.1
      obtain rfl : b9 = true := (H.d12 rfl).2.2.2.2.2.2.2.2.2.1
      obtain rfl : b10 = true := (H.d12 rfl).2.2.2.2.2.2.2.2.2.2.1
      obtain rfl : b11 = true := (H.d12 rfl).2.2.2.2.2.2.2.2.2.2.2
      obtain ⟨Aq, cq, hz, hf, hb, hzz⟩ := H.h12 rfl
      have HZ := Lib.hid hz
      have HOW := Lib.hid hf
      have HBB := Lib.hid hb
      have HZZ := Lib.hid hzz
      clear hz hf hb hzz H
      obtain ⟨w4, hw4⟩ : ∃ x, x = w := ⟨_, rfl⟩
      subst w
      have hadd : IntKind.i64.wrap (put + 1) = put + 1 := by rw [IntKind.wrap_i64]; omega
      obtain ⟨q0, q1, q2⟩ := bk3T HZ.out
      have qf := fun i => bk_frz HZ.out i
      have hk5 : (w4.setCell ⟨W.heap.size, 1, none⟩ (.int .i64 (put + 1))).heap[W.heap.size]? = some (.cells #[.int .i64 room, .int .i64 (put + 1), .slice Aq (N0 + 1) cq] 24 (0, 0)) := by simpa using bk_set HZ.out 1 (.int .i64 (put + 1))
      have g5 := gr_set w4 W.heap.size 1 (.int .i64 (put + 1))
      have HZ5 := Lib.hid ((g5.block _ (lt_of_block HZZ.out) (by simp)).trans HZZ.out)
      have B5 := Lib.hid (gr_from HBB.out HBB.out.size (Nat.le_refl _) g5)
      have hs3 := lt_of_block Z1.out
      have O5 := Lib.hid (OwnE.kept HOW.out g5 (fun e => by have := (OwnE.lt HOW.out _ e).1; omega))
      obtain ⟨p0, p1, p2⟩ := bk3T hk5
      obtain ⟨z0, z1, z2⟩ := bk3T HZ5.out
      have zf := fun i => bk_frz HZ5.out i
      go_wp2_with fail
      obtain ⟨k1, gp⟩ := bk3_blk HZ5.out (.int .i64 room) (.int .i64 (put + 1)) (.slice Aq (N0 + 1) cq)
      obtain ⟨r0, r1, r2⟩ := bk3T k1
      have O6 := OwnE.kept O5.out gp (fun e => by have := (OwnE.lt O5.out _ e).1; omega)
      refine bodyPost_ret (by simp [results, Tryd.results66, go_sem, r0, r1, r2]; try rfl) rfl ?_
      obtain ⟨A7, c7, hv7, s1, s2, _⟩ := OwnE.slice O6
      injection hv7 with e1 e2 e3
      rw [← e3, HN1.out] at s1
      rw [← e3] at s2
      exact ⟨gr_from B5.out B5.out.size (by omega) gp, Aq, cq, by rw [HN1.out], by rw [HN1.out]; exact s1, s2, (rowN_own O6).low (Nat.le_trans (Nat.le_add_right _ 3) (by omega))⟩
  · rw [if_pos h0]
    have g : (x != 0) = true := by simp [h0]
    clear h0 hok hN
    go_enter Tryd.func66, Tryd.ntmps66
    go_wp2_with (go_at_call 85; refine (HRF.out _ B0.out).mono ?_; rintro e w1 ⟨rfl, b1⟩; have B1 := Lib.hid (B0.out.trans (b1.mono B0.out.size)); have F1 := Lib.hid ((b1.block _ (lt_of_block F0.out)).trans F0.out); have G1 := Lib.hid ((b1.block _ (lt_of_block G0.out)).trans G0.out); have Z1 := Lib.hid ((b1.block _ (lt_of_block Z0.out)).trans Z0.out); clear b1; obtain ⟨q0, q1, q2⟩ := bk3T F1.out; obtain ⟨y0, y1⟩ := bk2F G1.out; obtain ⟨z0, z1, z2⟩ := bk3T Z1.out; have zf := fun i => bk_frz Z1.out i)
    obtain ⟨k1, gp⟩ := bk3_blk Z1.out (.int .i64 0) (.int .i64 0) (.slice none 0 0)
    obtain ⟨r0, r1, r2⟩ := bk3T k1
    refine bodyPost_ret (by simp [results, Tryd.results66, go_sem, r0, r1, r2]; try rfl) rfl ?_
    exact ⟨gr_from B1.out B1.out.size (by omega) gp, none, 0, rfl, Nat.le_refl _, by unfold maxLen; omega, RowN.nil _ _ _⟩
theorem tins_any : TbIns Tryd.prog 66 := tinsN_any.ins
end Go.Proofs.YtpfahdogedchpaaDoor
/- The project's tables: Resize, Get. -/
namespace Go.Proofs.YtpfahdogedchpaaDoor
set_option linter.unusedVariables false
open Go.RowKit P

end Go.Proofs.YtpfahdogedchpaaDoor
