/- The document's answers on tables: TableResized. -/
import Derived.Test.YtlddbojfikkhfaaRefTab5
import Derived.Test.YtlddbojfikkhfaaGrpC
namespace Go.Proofs.Ytlddbojfikkhfaa
set_option linter.unusedVariables false
open Go.RowKit P

theorem bk3_blk {w : World} {b : Nat} {a0 a1 a2 : Value} {T : TypeId} (h : w.heap[b]? = some (.cells #[a0, a1, a2] T (0, 0))) (v0 v1 v2 : Value) :
    (((w.setCell ⟨b, 0, none⟩ v0).setCell ⟨b, 1, none⟩ v1).setCell ⟨b, 2, none⟩ v2).heap[b]? = some (.cells #[v0, v1, v2] T (0, 0)) ∧ w.grownBy (((w.setCell ⟨b, 0, none⟩ v0).setCell ⟨b, 1, none⟩ v1).setCell ⟨b, 2, none⟩ v2) (some b) := by
  have h0 : (w.setCell ⟨b, 0, none⟩ v0).heap[b]? = some (.cells #[v0, a1, a2] T (0, 0)) := by simpa using bk_set h 0 v0
  have h1 : ((w.setCell ⟨b, 0, none⟩ v0).setCell ⟨b, 1, none⟩ v1).heap[b]? = some (.cells #[v0, v1, a2] T (0, 0)) := by simpa using bk_set h0 1 v1
  exact ⟨by simpa using bk_set h1 2 v2, gr_trans (gr_trans (gr_set _ b 0 v0) (gr_set _ b 1 v1)) (gr_set _ b 2 v2)⟩
structure Res6 (w0 : World) (W : World) (n put : Int) (A : Option Addr) (N c : Nat) (Y : List Fld) (V0 V1 V2 V3 V4 V5 V9 : Value) (b0 b1 b2 b3 b4 b5 b6 b7 b8 b9 : Bool) (x0 x1 x2 x3 x4 x5 x6 x7 x8 x9 : Value) (w : World) : Prop where
  be : b8 = false → Below w0.heap.size w0 w
  d2 : b2 = true → b1 = true
  d4 : b4 = true → b3 = true
  d6 : b6 = true → b4 = true ∧ b5 = true
  d7 : b7 = true → b0 = true ∧ b2 = true ∧ b6 = true
  d8 : b8 = true → b0 = true ∧ b1 = true ∧ b2 = true ∧ b3 = true ∧ b4 = true ∧ b5 = true ∧ b6 = true ∧ b7 = true
  d9 : b9 = true → b0 = true ∧ b1 = true ∧ b2 = true ∧ b3 = true ∧ b4 = true ∧ b5 = true ∧ b6 = true ∧ b7 = true ∧ b8 = true
  h0 : b0 = true → x0 = V0
  h1 : b1 = true → x1 = V1
  h2 : b2 = true → x2 = V2
  h3 : b3 = true → x3 = V3
  h4 : b4 = true → x4 = V4
  h5 : b5 = true → x5 = V5
  h6 : b6 = true → b8 = false → OwnE FdE w w0.heap.size 57 x6 Y
  h7 : b7 = true → b8 = false → ∃ u, x7 = .agg #[.int .i64 n, .int .i64 put, u] ∧ OwnE FdE w w0.heap.size 57 u Y
  h8 : b8 = true → ∃ Aq cq, w.heap[W.heap.size + 1]? = some (.cells #[.int .i64 n, .int .i64 put, .slice Aq Y.length cq] 24 (0, 0)) ∧ FSl w w.heap.size (.slice Aq Y.length cq) Y ∧ Below W.heap.size W w
  h9 : b9 = true → x9 = V9
set_option maxRecDepth 100000 in
set_option maxHeartbeats 2000000 in
theorem refTabR_any : TbSiz Try.prog 76 := by
  intro v t n W hv hw
  have HFT := Lib.hid (fun w (hb : Below W.heap.size W w) => refTabF_any v t w (hv.on hb) hw)
  obtain ⟨sv, rfl, hs⟩ := hv.ex
  obtain ⟨A, c, rfl, hlc, hcm, hr⟩ := hs.ex
  have HR := Lib.hid hr
  have pb := hw.put
  have HRW := Lib.hid hw.rows
  obtain ⟨g0, g1, g2⟩ := two_bk W #[.int .i64 t.room, .int .i64 t.put, .slice A t.rows.length c] #[.int .i64 0, .int .i64 0, .slice none 0 0] 24 24
  have F0 := Lib.hid g0
  have Z0 := Lib.hid g1
  have B0 := Lib.hid g2
  clear g0 g1 g2
  have hG : resT t n = if faultTb t ≠ 0 then (tb0, faultTb t) else if ¬ (0 ≤ n ∧ n ≤ 160) then (tb0, 6) else (⟨n, t.put, young n t.rows⟩, 0) := rfl
  have hok := fun h : faultTb t = 0 => (faultTb_iff t).1 h
  rw [hG]
  unfold TbRes
  obtain ⟨x, hx⟩ : ∃ x, faultTb t = x := ⟨_, rfl⟩
  rw [hx] at HFT hok ⊢
  obtain ⟨room, put, rows⟩ := t
  simp only at *
  obtain ⟨N, hN⟩ : ∃ N, rows.length = N := ⟨_, rfl⟩
  have HN := Lib.hid hN
  rw [hN] at HFT F0 Z0 B0 hlc ⊢
  have hcm' : c ≤ maxLen := hcm
  unfold maxLen at hcm
  clear hv hs hr hw hx hG
  by_cases h0 : x = 0
  · subst h0
    obtain ⟨k1, k2, k3, k4, k5⟩ := hok rfl
    simp only at k1 k2 k3 k4
    rw [hN] at k3
    have hw32 := wtL_len rows
    rw [hN] at hw32
    rw [if_neg (fun k => k rfl)]
    clear hok k5 hN
    by_cases h1 : 0 ≤ n ∧ n ≤ 160
    · rw [if_neg (fun k => k h1)]
      have u1 : upB2 n 160 = true := upB2_yes h1.1 h1.2
      obtain ⟨Y, hY⟩ : ∃ Y, young n rows = Y := ⟨_, rfl⟩
      rw [hY]
      go_enter Try.func76, Try.ntmps76
      go_upto_region 6 with (first
        | (go_at_call 36; refine (HFT.out _ B0.out).mono ?_; rintro e w1 ⟨rfl, b1⟩; have B1 := Lib.hid (B0.out.trans (b1.mono B0.out.size)); have F1 := Lib.hid ((b1.block _ (lt_of_block F0.out)).trans F0.out); have Z1 := Lib.hid ((b1.block _ (lt_of_block Z0.out)).trans Z0.out); clear b1; obtain ⟨q0, q1, q2⟩ := bk3T F1.out; obtain ⟨z0, z1, z2⟩ := bk3T Z1.out; have zf := fun i => bk_frz Z1.out i)
        | (go_at_call 62; refine (upTo_any _ _ _).mono ?_; rintro e w' ⟨rfl, rfl⟩))
      clear q0 q1 q2 z0 z1 z2 zf
      have BX := Lib.hid B1.out
      have HY := Lib.hid (fun w' (hb : Below w1.heap.size w1 w') => hY ▸ youngest_any A N c rows n w' (HR.out.on (BX.out.trans (hb.mono BX.out.size))) HN.out hlc (by omega) HRW.out (by omega) h1.1 hcm')
      clear hY
      refine wp_region_inv (fun lis_ act_ wld_ => ∃ (b0 b1 b2 b3 b4 b5 b6 b7 b8 b9 : Bool) (x0 x1 x2 x3 x4 x5 x6 x7 x8 x9 : Value), lis_ = #[b0, b1, b2, b3, b4, b5, b6, b7, b8, b9] ∧ act_ = { tmps := #[Value.agg #[Value.int IntKind.i64 room, Value.int IntKind.i64 put, Value.slice A N c], Value.int IntKind.i64 n, Value.pointer (some { block := W.heap.size, off := 0 }), undef, Value.pointer (some { block := W.heap.size + 1, off := 0 }), x9, Value.int IntKind.i64 0, Value.agg #[Value.int IntKind.i64 room, Value.int IntKind.i64 put, Value.slice A N c], Value.int IntKind.i64 0, Value.int IntKind.i64 0, Value.bool false, undef, undef, Value.int IntKind.i64 n, Value.bool true, Value.bool false, undef, x0, x1, x2, x3, x4, x5, x6, x7], defers := [] } ∧ Res6 w1 W n put A N c Y (.int .i64 n) (.pointer (some ⟨W.heap.size, 1, none⟩)) (.int .i64 put) (.pointer (some ⟨W.heap.size, 2, none⟩)) (.slice A N c) (.int .i64 n) (.int .i64 0) b0 b1 b2 b3 b4 b5 b6 b7 b8 b9 x0 x1 x2 x3 x4 x5 x6 x7 x8 x9 wld_) (by kernel_rfl) ?h0 ?hfin ?hI
      case h0 => exact ⟨_, _, _, _, _, _, _, _, _, _, _, _, _, _, _, _, _, _, undef, _, rfl, rfl, ⟨(fun _ => (Below.refl _ _).drew), (fun h => by cases h), (fun h => by cases h), (fun h => by cases h), (fun h => by cases h), (fun h => by cases h), (fun h => by cases h), (fun h => by cases h), (fun h => by cases h), (fun h => by cases h), (fun h => by cases h), (fun h => by cases h), (fun h => by cases h), (fun h => by cases h), (fun h => by cases h), (fun h => by cases h), (fun h => by cases h)⟩⟩
      case hI =>
        rintro listed a w ⟨b0, b1, b2, b3, b4, b5, b6, b7, b8, b9, x0, x1, x2, x3, x4, x5, x6, x7, x8, x9, rfl, rfl, H⟩ i hi
        obtain ⟨hun, oj, hoj, hall⟩ := mem_ready.1 hi
        clear hi
        rcases i with _ | _ | _ | _ | _ | _ | _ | _ | _ | _ | i
        · have ho := hoj
          simp only [List.getElem?_toArray, List.getElem?_cons_succ, List.getElem?_cons_zero, Option.some.injEq] at hoj
          subst hoj
          obtain rfl : b0 = false := hun
          clear hall
          obtain rfl : b7 = false := Bool.eq_false_iff.2 fun h => Bool.false_ne_true (H.d7 h).1
          obtain rfl : b8 = false := Bool.eq_false_iff.2 fun h => Bool.false_ne_true (H.d8 h).1
          obtain rfl : b9 = false := Bool.eq_false_iff.2 fun h => Bool.false_ne_true (H.d9 h).1
          have hbe := H.be rfl
          refine wpOp_step ho (fun K' hK => ?_)
          have HK := Lib.hid hK
          clear hK ho
          go_simp
          exact HK.out _ _ ⟨_, _, _, _, _, _, _, _, _, _, _, _, _, _, _, _, _, _, x8, _, rfl, rfl, ⟨(fun _ => hbe), H.d2, H.d4, H.d6, (fun h => by cases h), (fun h => by cases h), (fun h => by cases h), (fun _ => rfl), H.h1, H.h2, H.h3, H.h4, H.h5, H.h6, (fun h => by cases h), (fun h => by cases h), H.h9⟩⟩
        · have ho := hoj
          simp only [List.getElem?_toArray, List.getElem?_cons_succ, List.getElem?_cons_zero, Option.some.injEq] at hoj
          subst hoj
          obtain rfl : b1 = false := hun
          clear hall
          obtain rfl : b2 = false := Bool.eq_false_iff.2 fun h => Bool.false_ne_true (H.d2 h)
          obtain rfl : b7 = false := Bool.eq_false_iff.2 fun h => Bool.false_ne_true (H.d7 h).2.1
          obtain rfl : b8 = false := Bool.eq_false_iff.2 fun h => Bool.false_ne_true (H.d8 h).2.1
          obtain rfl : b9 = false := Bool.eq_false_iff.2 fun h => Bool.false_ne_true (H.d9 h).2.1
          have hbe := H.be rfl
          refine wpOp_step ho (fun K' hK => ?_)
          have HK := Lib.hid hK
          clear hK ho
          go_simp
          exact HK.out _ _ ⟨_, _, _, _, _, _, _, _, _, _, _, _, _, _, _, _, _, _, x8, _, rfl, rfl, ⟨(fun _ => hbe), (fun h => by cases h), H.d4, H.d6, H.d7, (fun h => by cases h), (fun h => by cases h), H.h0, (fun _ => rfl), H.h2, H.h3, H.h4, H.h5, H.h6, (fun h => by cases h), (fun h => by cases h), H.h9⟩⟩
        · have ho := hoj
          simp only [List.getElem?_toArray, List.getElem?_cons_succ, List.getElem?_cons_zero, Option.some.injEq] at hoj
          subst hoj
          obtain rfl : b2 = false := hun
          obtain rfl : b1 = true := hall ⟨1, .data⟩ (by simp) (by kernel_rfl)
          clear hall
          obtain rfl : b7 = false := Bool.eq_false_iff.2 fun h => Bool.false_ne_true (H.d7 h).2.1
          obtain rfl : b8 = false := Bool.eq_false_iff.2 fun h => Bool.false_ne_true (H.d8 h).2.2.1
          obtain rfl : b9 = false := Bool.eq_false_iff.2 fun h => Bool.false_ne_true (H.d9 h).2.2.1
          have hbe := H.be rfl
          obtain rfl := H.h1 rfl
          obtain ⟨q0, q1, q2⟩ := bk3T ((hbe.block _ (lt_of_block F1.out)).trans F1.out)
          refine wpOp_step ho (fun K' hK => ?_)
          have HK := Lib.hid hK
          clear hK ho
          go_simp
          exact HK.out _ _ ⟨_, _, _, _, _, _, _, _, _, _, _, _, _, _, _, _, _, _, x8, _, rfl, rfl, ⟨(fun _ => hbe), (fun _ => rfl), H.d4, H.d6, (fun h => by cases h), (fun h => by cases h), (fun h => by cases h), H.h0, H.h1, (fun _ => rfl), H.h3, H.h4, H.h5, H.h6, (fun h => by cases h), (fun h => by cases h), H.h9⟩⟩
        · have ho := hoj
          simp only [List.getElem?_toArray, List.getElem?_cons_succ, List.getElem?_cons_zero, Option.some.injEq] at hoj
          subst hoj
          obtain rfl : b3 = false := hun
          clear hall
          obtain rfl : b4 = false := Bool.eq_false_iff.2 fun h => Bool.false_ne_true (H.d4 h)
          obtain rfl : b6 = false := Bool.eq_false_iff.2 fun h => Bool.false_ne_true (H.d6 h).1
          obtain rfl : b7 = false := Bool.eq_false_iff.2 fun h => Bool.false_ne_true (H.d7 h).2.2
          obtain rfl : b8 = false := Bool.eq_false_iff.2 fun h => Bool.false_ne_true (H.d8 h).2.2.2.1
          obtain rfl : b9 = false := Bool.eq_false_iff.2 fun h => Bool.false_ne_true (H.d9 h).2.2.2.1
          have hbe := H.be rfl
          refine wpOp_step ho (fun K' hK => ?_)
          have HK := Lib.hid hK
          clear hK ho
          go_simp
          exact HK.out _ _ ⟨_, _, _, _, _, _, _, _, _, _, _, _, _, _, _, _, _, _, x8, _, rfl, rfl, ⟨(fun _ => hbe), H.d2, (fun h => by cases h), H.d6, H.d7, (fun h => by cases h), (fun h => by cases h), H.h0, H.h1, H.h2, (fun _ => rfl), H.h4, H.h5, (fun h => by cases h), (fun h => by cases h), (fun h => by cases h), H.h9⟩⟩
        · have ho := hoj
          simp only [List.getElem?_toArray, List.getElem?_cons_succ, List.getElem?_cons_zero, Option.some.injEq] at hoj
          subst hoj
          obtain rfl : b4 = false := hun
          obtain rfl : b3 = true := hall ⟨3, .data⟩ (by simp) (by kernel_rfl)
          clear hall
          obtain rfl : b6 = false := Bool.eq_false_iff.2 fun h => Bool.false_ne_true (H.d6 h).1
          obtain rfl : b7 = false := Bool.eq_false_iff.2 fun h => Bool.false_ne_true (H.d7 h).2.2
          obtain rfl : b8 = false := Bool.eq_false_iff.2 fun h => Bool.false_ne_true (H.d8 h).2.2.2.2.1
          obtain rfl : b9 = false := Bool.eq_false_iff.2 fun h => Bool.false_ne_true (H.d9 h).2.2.2.2.1
          have hbe := H.be rfl
          obtain rfl := H.h3 rfl
          obtain ⟨q0, q1, q2⟩ := bk3T ((hbe.block _ (lt_of_block F1.out)).trans F1.out)
          refine wpOp_step ho (fun K' hK => ?_)
          have HK := Lib.hid hK
          clear hK ho
          go_simp
          exact HK.out _ _ ⟨_, _, _, _, _, _, _, _, _, _, _, _, _, _, _, _, _, _, x8, _, rfl, rfl, ⟨(fun _ => hbe), H.d2, (fun _ => rfl), (fun h => by cases h), H.d7, (fun h => by cases h), (fun h => by cases h), H.h0, H.h1, H.h2, H.h3, (fun _ => rfl), H.h5, (fun h => by cases h), (fun h => by cases h), (fun h => by cases h), H.h9⟩⟩
        · have ho := hoj
          simp only [List.getElem?_toArray, List.getElem?_cons_succ, List.getElem?_cons_zero, Option.some.injEq] at hoj
          subst hoj
          obtain rfl : b5 = false := hun
          clear hall
          obtain rfl : b6 = false := Bool.eq_false_iff.2 fun h => Bool.false_ne_true (H.d6 h).2
          obtain rfl : b7 = false := Bool.eq_false_iff.2 fun h => Bool.false_ne_true (H.d7 h).2.2
          obtain rfl : b8 = false := Bool.eq_false_iff.2 fun h => Bool.false_ne_true (H.d8 h).2.2.2.2.2.1
          obtain rfl : b9 = false := Bool.eq_false_iff.2 fun h => Bool.false_ne_true (H.d9 h).2.2.2.2.2.1
          have hbe := H.be rfl
          refine wpOp_step ho (fun K' hK => ?_)
          have HK := Lib.hid hK
          clear hK ho
          go_simp
          exact HK.out _ _ ⟨_, _, _, _, _, _, _, _, _, _, _, _, _, _, _, _, _, _, x8, _, rfl, rfl, ⟨(fun _ => hbe), H.d2, H.d4, (fun h => by cases h), H.d7, (fun h => by cases h), (fun h => by cases h), H.h0, H.h1, H.h2, H.h3, H.h4, (fun _ => rfl), (fun h => by cases h), (fun h => by cases h), (fun h => by cases h), H.h9⟩⟩
        · have ho := hoj
          simp only [List.getElem?_toArray, List.getElem?_cons_succ, List.getElem?_cons_zero, Option.some.injEq] at hoj
          subst hoj
          obtain rfl : b6 = false := hun
          obtain rfl : b4 = true := hall ⟨4, .data⟩ (by simp) (by kernel_rfl)
          obtain rfl : b5 = true := hall ⟨5, .data⟩ (by simp) (by kernel_rfl)
          obtain rfl : b3 = true := (H.d4 rfl)
          clear hall
          obtain rfl : b7 = false := Bool.eq_false_iff.2 fun h => Bool.false_ne_true (H.d7 h).2.2
          obtain rfl : b8 = false := Bool.eq_false_iff.2 fun h => Bool.false_ne_true (H.d8 h).2.2.2.2.2.2.1
          obtain rfl : b9 = false := Bool.eq_false_iff.2 fun h => Bool.false_ne_true (H.d9 h).2.2.2.2.2.2.1
          have hbe := H.be rfl
          obtain rfl := H.h3 rfl
          obtain rfl := H.h4 rfl
          obtain rfl := H.h5 rfl
          refine wpOp_step ho (fun K' hK => ?_)
          have HK := Lib.hid hK
          clear hK ho
          go_wp2_with fail
          refine (HY.out _ hbe).mono ?_
          rintro e w9 ⟨b9, u9, rfl, o9⟩
          have BC := Lib.hid b9
          have UC := Lib.hid (OwnE.low o9 hbe.size)
          clear b9 o9
          go_wp2_with fail
          exact HK.out _ _ ⟨_, _, _, _, _, _, _, _, _, _, _, _, _, _, _, _, _, _, x8, _, rfl, rfl, ⟨(fun _ => hbe.trans (BC.out.mono hbe.size)), H.d2, H.d4, (fun _ => ⟨rfl, rfl⟩), (fun h => by cases h), (fun h => by cases h), (fun h => by cases h), H.h0, H.h1, H.h2, H.h3, H.h4, H.h5, (fun _ _ => UC.out), (fun h => by cases h), (fun h => by cases h), H.h9⟩⟩
        · have ho := hoj
          simp only [List.getElem?_toArray, List.getElem?_cons_succ, List.getElem?_cons_zero, Option.some.injEq] at hoj
          subst hoj
          obtain rfl : b7 = false := hun
          obtain rfl : b0 = true := hall ⟨0, .data⟩ (by simp) (by kernel_rfl)
          obtain rfl : b2 = true := hall ⟨2, .data⟩ (by simp) (by kernel_rfl)
          obtain rfl : b6 = true := hall ⟨6, .data⟩ (by simp) (by kernel_rfl)
          obtain rfl : b1 = true := (H.d2 rfl)
          obtain rfl : b4 = true := (H.d6 rfl).1
          obtain rfl : b5 = true := (H.d6 rfl).2
          obtain rfl : b3 = true := (H.d4 rfl)
          clear hall
          obtain rfl : b8 = false := Bool.eq_false_iff.2 fun h => Bool.false_ne_true (H.d8 h).2.2.2.2.2.2.2
          obtain rfl : b9 = false := Bool.eq_false_iff.2 fun h => Bool.false_ne_true (H.d9 h).2.2.2.2.2.2.2.1
          have hbe := H.be rfl
          obtain rfl := H.h0 rfl
          obtain rfl := H.h1 rfl
          obtain rfl := H.h2 rfl
          obtain rfl := H.h3 rfl
          obtain rfl := H.h4 rfl
          obtain rfl := H.h5 rfl
          have P6 := H.h6 rfl rfl
          have PU := Lib.hid P6
          obtain ⟨A6, c6, rfl, _⟩ := P6.slice
          refine wpOp_step ho (fun K' hK => ?_)
          have HK := Lib.hid hK
          clear hK ho
          go_simp
          exact HK.out _ _ ⟨_, _, _, _, _, _, _, _, _, _, _, _, _, _, _, _, _, _, x8, _, rfl, rfl, ⟨(fun _ => hbe), H.d2, H.d4, H.d6, (fun _ => ⟨rfl, rfl, rfl⟩), (fun h => by cases h), (fun h => by cases h), H.h0, H.h1, H.h2, H.h3, H.h4, H.h5, H.h6, (fun _ _ => ⟨_, rfl, PU.out⟩), (fun h => by cases h), H.h9⟩⟩
        · have ho := hoj
          simp only [List.getElem?_toArray, List.getElem?_cons_succ, List.getElem?_cons_zero, Option.some.injEq] at hoj
          subst hoj
          obtain rfl : b8 = false := hun
          obtain rfl : b0 = true := hall ⟨0, .phase⟩ (by simp) (by kernel_rfl)
          obtain rfl : b1 = true := hall ⟨1, .phase⟩ (by simp) (by kernel_rfl)
          obtain rfl : b2 = true := hall ⟨2, .phase⟩ (by simp) (by kernel_rfl)
          obtain rfl : b3 = true := hall ⟨3, .phase⟩ (by simp) (by kernel_rfl)
          obtain rfl : b4 = true := hall ⟨4, .phase⟩ (by simp) (by kernel_rfl)
          obtain rfl : b5 = true := hall ⟨5, .phase⟩ (by simp) (by kernel_rfl)
          obtain rfl : b6 = true := hall ⟨6, .chain⟩ (by simp) (by kernel_rfl)
          obtain rfl : b7 = true := hall ⟨7, .data⟩ (by simp) (by kernel_rfl)
          clear hall
          obtain rfl : b9 = false := Bool.eq_false_iff.2 fun h => Bool.false_ne_true (H.d9 h).2.2.2.2.2.2.2.2
          have hbe := H.be rfl
          obtain rfl := H.h0 rfl
          obtain rfl := H.h1 rfl
          obtain rfl := H.h2 rfl
          obtain rfl := H.h3 rfl
          obtain rfl := H.h4 rfl
          obtain rfl := H.h5 rfl
          have P6 := H.h6 rfl rfl
          have P7 := H.h7 rfl rfl
          obtain ⟨u7, rfl, hu7⟩ := P7
          obtain ⟨A7, c7, rfl, hs1, hs2, hs3⟩ := hu7.slice
          have ZB := Lib.hid ((hbe.block _ (lt_of_block Z1.out)).trans Z1.out)
          have hsz := lt_of_block Z1.out
          obtain ⟨k1, gp⟩ := bk3_blk ZB.out (.int .i64 n) (.int .i64 put) (.slice A7 Y.length c7)
          have K1 := Lib.hid k1
          have FS := Lib.hid (fsl_own (OwnE.kept hu7 gp (fun e => by have := (OwnE.lt hu7 _ e).1; omega)))
          have BV := Lib.hid (gr_from (BX.out.trans (hbe.mono BX.out.size)) (Nat.le_trans BX.out.size hbe.size) (Nat.le_succ _) gp)
          obtain ⟨q0, q1, q2⟩ := bk3T ZB.out
          have qf := fun i => bk_frz ZB.out i
          clear k1 gp hu7 hs3
          refine wpOp_step ho (fun K' hK => ?_)
          have HK := Lib.hid hK
          clear hK ho
          go_simp
          exact HK.out _ _ ⟨_, _, _, _, _, _, _, _, _, _, _, _, _, _, _, _, _, _, x8, _, rfl, rfl, ⟨(fun h => by cases h), H.d2, H.d4, H.d6, H.d7, (fun _ => ⟨rfl, rfl, rfl, rfl, rfl, rfl, rfl, rfl⟩), (fun h => by cases h), H.h0, H.h1, H.h2, H.h3, H.h4, H.h5, (fun _ h => by cases h), (fun _ h => by cases h), (fun _ => ⟨_, _, K1.out, FS.out, BV.out⟩), H.h9⟩⟩
        · have ho := hoj
          simp only [List.getElem?_toArray, List.getElem?_cons_succ, List.getElem?_cons_zero, Option.some.injEq] at hoj
          subst hoj
          obtain rfl : b9 = false := hun
          obtain rfl : b0 = true := hall ⟨0, .phase⟩ (by simp) (by kernel_rfl)
          obtain rfl : b1 = true := hall ⟨1, .phase⟩ (by simp) (by kernel_rfl)
          obtain rfl : b2 = true := hall ⟨2, .phase⟩ (by simp) (by kernel_rfl)
          obtain rfl : b3 = true := hall ⟨3, .phase⟩ (by simp) (by kernel_rfl)
          obtain rfl : b4 = true := hall ⟨4, .phase⟩ (by simp) (by kernel_rfl)
          obtain rfl : b5 = true := hall ⟨5, .phase⟩ (by simp) (by kernel_rfl)
          obtain rfl : b6 = true := hall ⟨6, .phase⟩ (by simp) (by kernel_rfl)
          obtain rfl : b7 = true := hall ⟨7, .phase⟩ (by simp) (by kernel_rfl)
          obtain rfl : b8 = true := hall ⟨8, .chain⟩ (by simp) (by kernel_rfl)
          clear hall
          obtain rfl := H.h0 rfl
          obtain rfl := H.h1 rfl
          obtain rfl := H.h2 rfl
          obtain rfl := H.h3 rfl
          obtain rfl := H.h4 rfl
          obtain rfl := H.h5 rfl
          have P8 := H.h8 rfl
          refine wpOp_step ho (fun K' hK => ?_)
          have HK := Lib.hid hK
          clear hK ho
          go_simp
          exact HK.out _ _ ⟨_, _, _, _, _, _, _, _, _, _, _, _, _, _, _, _, _, _, x8, _, rfl, rfl, ⟨(fun h => by cases h), H.d2, H.d4, H.d6, H.d7, H.d8, (fun _ => ⟨rfl, rfl, rfl, rfl, rfl, rfl, rfl, rfl, rfl⟩), H.h0, H.h1, H.h2, H.h3, H.h4, H.h5, (fun _ h => by cases h), (fun _ h => by cases h), H.h8, (fun _ => rfl)⟩⟩
        · have ho := hoj
          simp at ho
      case hfin =>
        rintro listed a w ⟨b0, b1, b2, b3, b4, b5, b6, b7, b8, b9, x0, x1, x2, x3, x4, x5, x6, x7, x8, x9, rfl, rfl, H⟩ hr
        have hb : b9 = true := by
          clear H
          revert b0 b1 b2 b3 b4 b5 b6 b7 b8 b9
          decide +kernel
        subst hb
        clear hr
        obtain rfl : b0 = true := (H.d9 rfl).1
        obtain rfl : b1 = true := (H.d9 rfl).2.1
        obtain rfl : b2 = true := (H.d9 rfl).2.2.1
        obtain rfl : b3 = true := (H.d9 rfl).2.2.2.1
        obtain rfl : b4 = true := (H.d9 rfl).2.2.2.2.1
        obtain rfl : b5 = true := (H.d9 rfl).2.2.2.2.2.1
        obtain rfl : b6 = true := (H.d9 rfl).2.2.2.2.2.2.1
        obtain rfl : b7 = true := (H.d9 rfl).2.2.2.2.2.2.2.1
        obtain rfl : b8 = true := (H.d9 rfl).2.2.2.2.2.2.2.2
        obtain ⟨Aq, cq, hz, hf, hb⟩ := H.h8 rfl
        obtain rfl := H.h9 rfl
        have HZ := Lib.hid hz
        have HFS := Lib.hid hf
        have HBB := Lib.hid hb
        clear hz hf hb H
        go_wp2_with fail
        obtain ⟨r0, r1, r2⟩ := bk3T HZ.out
        refine bodyPost_ret (by simp [results, Try.results76, go_sem, r0, r1, r2]; try rfl) rfl ?_
        exact ⟨HBB.out, _, rfl, ⟨_, rfl, HFS.out⟩⟩
    · rw [if_pos h1]
      have u1 : upB2 n 160 = false := upB2_no (by omega)
      clear h1
      go_enter Try.func76, Try.ntmps76
      go_wp2_with (first
        | (go_at_call 36; refine (HFT.out _ B0.out).mono ?_; rintro e w1 ⟨rfl, b1⟩; have B1 := Lib.hid (B0.out.trans (b1.mono B0.out.size)); have F1 := Lib.hid ((b1.block _ (lt_of_block F0.out)).trans F0.out); have Z1 := Lib.hid ((b1.block _ (lt_of_block Z0.out)).trans Z0.out); clear b1; obtain ⟨q0, q1, q2⟩ := bk3T F1.out; obtain ⟨z0, z1, z2⟩ := bk3T Z1.out; have zf := fun i => bk_frz Z1.out i)
        | (go_at_call 62; refine (upTo_any _ _ _).mono ?_; rintro e w' ⟨rfl, rfl⟩))
      obtain ⟨k1, gp⟩ := bk3_blk Z1.out (.int .i64 0) (.int .i64 0) (.slice none 0 0)
      obtain ⟨r0, r1, r2⟩ := bk3T k1
      refine bodyPost_ret (by simp [results, Try.results76, go_sem, r0, r1, r2]; try rfl) rfl ?_
      exact ⟨gr_from B1.out B1.out.size (Nat.le_succ _) gp, _, rfl, TbVal.zero _ _⟩
  · rw [if_pos h0]
    have g : (x != 0) = true := by simp [h0]
    clear h0 hok hN
    go_enter Try.func76, Try.ntmps76
    go_wp2_with (first
      | (go_at_call 36; refine (HFT.out _ B0.out).mono ?_; rintro e w1 ⟨rfl, b1⟩; have B1 := Lib.hid (B0.out.trans (b1.mono B0.out.size)); have F1 := Lib.hid ((b1.block _ (lt_of_block F0.out)).trans F0.out); have Z1 := Lib.hid ((b1.block _ (lt_of_block Z0.out)).trans Z0.out); clear b1; obtain ⟨q0, q1, q2⟩ := bk3T F1.out; obtain ⟨z0, z1, z2⟩ := bk3T Z1.out; have zf := fun i => bk_frz Z1.out i)
      | (go_at_call 62; refine (upTo_any _ _ _).mono ?_; rintro e w' ⟨rfl, rfl⟩))
    obtain ⟨k1, gp⟩ := bk3_blk Z1.out (.int .i64 0) (.int .i64 0) (.slice none 0 0)
    obtain ⟨r0, r1, r2⟩ := bk3T k1
    refine bodyPost_ret (by simp [results, Try.results76, go_sem, r0, r1, r2]; try rfl) rfl ?_
    exact ⟨gr_from B1.out B1.out.size (Nat.le_succ _) gp, _, rfl, TbVal.zero _ _⟩
end Go.Proofs.Ytlddbojfikkhfaa
