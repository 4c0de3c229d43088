/- The project's tables: Get. -/
import Derived.Test.YtpfahdogedchpaaGrpI
import Derived.Test.YtpfahdogedchpaaGrpC
namespace Go.Proofs.Ytpfahdogedchpaa
set_option linter.unusedVariables false
open Go.RowKit P

structure PGet (w0 : World) (W : World) (S1 S2 : ByteArray) (b off j n_ : Nat) (n room put : Int) (N c : Nat) (V0 V1 V2 V3 V4 V5 V6 V7 V9 : Value) (b0 b1 b2 b3 b4 b5 b6 b7 b8 b9 : Bool) (x0 x1 x2 x3 x4 x5 x6 x7 x8 x9 : Value) (w : World) : Prop where
  be : b8 = false → Below w0.heap.size w0 w
  d1 : b1 = true → b0 = true
  d4 : b4 = true → b3 = true
  d5 : b5 = true → b2 = true ∧ b4 = true
  d6 : b6 = true → b1 = true ∧ b5 = true
  d7 : b7 = true → b6 = true
  d8 : b8 = true → b0 = true ∧ b1 = true ∧ b2 = true ∧ b3 = true ∧ b4 = true ∧ b5 = true ∧ b6 = true ∧ b7 = true
  d9 : b9 = true → b0 = true ∧ b1 = true ∧ b2 = true ∧ b3 = true ∧ b4 = true ∧ b5 = true ∧ b6 = true ∧ b7 = true ∧ b8 = true
  h0 : b0 = true → x0 = V0
  h1 : b1 = true → x1 = V1
  h2 : b2 = true → x2 = V2
  h3 : b3 = true → x3 = V3
  h4 : b4 = true → x4 = V4
  h5 : b5 = true → x5 = V5
  h6 : b6 = true → x6 = V6
  h7 : b7 = true → x7 = V7
  h8 : b8 = true → w.cell? ⟨W.heap.size + 1, 0, none⟩ = some (.string S1) ∧ w.cell? ⟨W.heap.size + 1, 1, none⟩ = some (.string S2) ∧ Below W.heap.size W w
  h9 : b9 = true → x9 = V9
set_option maxRecDepth 100000 in
set_option maxHeartbeats 4000000 in
theorem tget_any : TbGet Try.prog 75 := fun v t n W hv hw hnb => by
  have HFT := Lib.hid (fun w (hb : Below W.heap.size W w) => tchk_any v t w (hv.on hb) hw)
  obtain ⟨sv, rfl, hs⟩ := hv.ex
  obtain ⟨A, c, rfl, hlc, hcm, hr⟩ := hs.ex
  have HR := Lib.hid hr
  have pb := hw.put
  have lb := hw.len
  have hG : getT t n = if faultTb t ≠ 0 then (fd0, faultTb t) else if ¬ (0 ≤ n ∧ n < t.put) then (fd0, 5) else if (t.rows.length : Int) < t.put - n then (fd0, 16) else (t.rows.getD (t.rows.length - (t.put - n).toNat) fd0, 0) := rfl
  obtain ⟨g0, g1, g2⟩ := two_bk W #[.int .i64 t.room, .int .i64 t.put, .slice A t.rows.length c] #[.string ⟨#[]⟩, .string ⟨#[]⟩] 27 66
  have F0 := Lib.hid g0
  have Z0 := Lib.hid g1
  have B0 := Lib.hid g2
  rw [hG]
  clear hG g0 g1 g2
  have hok := fun h : faultTb t = 0 => (faultTb_iff t).1 h
  obtain ⟨x, hx⟩ : ∃ x, faultTb t = x := ⟨_, rfl⟩
  rw [hx] at HFT hok ⊢
  obtain ⟨room, put, rows⟩ := t
  simp only at *
  obtain ⟨N, hN⟩ : ∃ N, rows.length = N := ⟨_, rfl⟩
  have HN := Lib.hid hN
  rw [hN] at HFT F0 Z0 B0 hlc lb ⊢
  unfold maxLen at hcm
  clear hv hs hr hw hx
  by_cases h0 : x = 0
  · subst h0
    obtain ⟨k1, k2, k3, k4, k5⟩ := hok rfl
    simp only at k1 k2 k3 k4
    rw [hN] at k3
    rw [if_neg (fun k => k rfl)]
    clear hok k5 hN
    have HGN := Lib.hid (fun w => gone_any room put A N c k2 lb w)
    by_cases h1 : 0 ≤ n ∧ n < put
    · rw [if_neg (fun k => k h1)]
      by_cases h2 : (N : Int) < put - n
      · rw [if_pos h2]
        go_enter Try.func75, Try.ntmps75
        go_wp2_with (first
          | (go_at_call 50; refine (HFT.out _ B0.out).mono ?_; rintro e w1 ⟨rfl, b1⟩; have B1 := Lib.hid (B0.out.trans (b1.mono B0.out.size)); have F1 := Lib.hid ((b1.block _ (lt_of_block F0.out)).trans F0.out); have Z1 := Lib.hid ((b1.block _ (lt_of_block Z0.out)).trans Z0.out); clear b1; obtain ⟨q0, q1, q2⟩ := bk3T F1.out; obtain ⟨z0, z1⟩ := bk2F Z1.out; have zf := fun i => bk_frz Z1.out i)
          | (go_at_call 78; refine (HGN.out _).mono ?_; rintro e w2 ⟨rfl, b2⟩; have B2 := Lib.hid (B1.out.trans (b2.mono B1.out.size)); have F2 := Lib.hid ((b2.block _ (lt_of_block F1.out)).trans F1.out); have Z2 := Lib.hid ((b2.block _ (lt_of_block Z1.out)).trans Z1.out); clear b2 q0 q1 q2 z0 z1 zf; obtain ⟨q0, q1, q2⟩ := bk3T F2.out; obtain ⟨z0, z1⟩ := bk2F Z2.out; have zf := fun i => bk_frz Z2.out i))
        obtain ⟨r0, r1, gp⟩ := bk2_putF Z2.out (.string ⟨#[]⟩) (.string ⟨#[]⟩)
        refine bodyPost_ret (by simp [results, Try.results75, go_sem, r0, r1]; try rfl) rfl ?_
        exact ⟨gr_from B2.out B2.out.size (Nat.le_succ _) gp, rfl⟩
      · rw [if_neg h2]
        obtain ⟨j, hj⟩ : ∃ j : Nat, n - (put - (N : Int)) = j := ⟨(n - (put - (N : Int))).toNat, by omega⟩
        have hjj : N - (put - n).toNat = j := by omega
        rw [hjj]
        have hjN : j < N := by omega
        have HSUB := Lib.hid (show IntKind.i64.wrap (n - (put - (N : Int))) = (j : Int) by rw [IntKind.wrap_i64]; omega)
        have HJ := Lib.hid (show (j : Int) < (N : Int) ∧ (0 : Int) ≤ (j : Int) by omega)
        obtain ⟨b, off, hA, hbl, x0, x1⟩ := fd_cells HR.out (i := j) (by rw [HN.out]; exact hjN)
        obtain ⟨f, hf⟩ : ∃ f, rows.getD j fd0 = f := ⟨_, rfl⟩
        rw [hf] at x0 x1 ⊢
        have HV := Lib.hid (show fdV f = .agg #[.string (strOfNums f.name), .string (strOfNums f.val)] from rfl)
        rw [HV.out]
        obtain ⟨S1, hS1⟩ : ∃ S, strOfNums f.name = S := ⟨_, rfl⟩
        obtain ⟨S2, hS2⟩ : ∃ S, strOfNums f.val = S := ⟨_, rfl⟩
        rw [hS1] at x0 ⊢
        rw [hS2] at x1 ⊢
        subst hA
        have HBL := Lib.hid hbl
        have X0 := Lib.hid x0
        have X1 := Lib.hid x1
        have hnlt : ¬ n < put - (N : Int) := by omega
        clear h2 hf hS1 hS2 x0 x1 hbl HV hjj hj
        go_enter Try.func75, Try.ntmps75
        go_upto_region 8 with (first
          | (go_at_call 50; refine (HFT.out _ B0.out).mono ?_; rintro e w1 ⟨rfl, b1⟩; have B1 := Lib.hid (B0.out.trans (b1.mono B0.out.size)); have F1 := Lib.hid ((b1.block _ (lt_of_block F0.out)).trans F0.out); have Z1 := Lib.hid ((b1.block _ (lt_of_block Z0.out)).trans Z0.out); clear b1; obtain ⟨q0, q1, q2⟩ := bk3T F1.out; obtain ⟨z0, z1⟩ := bk2F Z1.out; have zf := fun i => bk_frz Z1.out i)
          | (go_at_call 78; refine (HGN.out _).mono ?_; rintro e w2 ⟨rfl, b2⟩; have B2 := Lib.hid (B1.out.trans (b2.mono B1.out.size)); have F2 := Lib.hid ((b2.block _ (lt_of_block F1.out)).trans F1.out); have Z2 := Lib.hid ((b2.block _ (lt_of_block Z1.out)).trans Z1.out); clear b2 q0 q1 q2 z0 z1 zf; obtain ⟨q0, q1, q2⟩ := bk3T F2.out; obtain ⟨z0, z1⟩ := bk2F Z2.out; have zf := fun i => bk_frz Z2.out i))
        clear q0 q1 q2 z0 z1 zf
        refine wp_region_inv (fun lis_ act_ wld_ => ∃ (b0 b1 b2 b3 b4 b5 b6 b7 b8 b9 : Bool) (x0 x1 x2 x3 x4 x5 x6 x7 x8 x9 : Value), lis_ = #[b0, b1, b2, b3, b4, b5, b6, b7, b8, b9] ∧ act_ = { tmps := #[Value.agg #[Value.int IntKind.i64 room, Value.int IntKind.i64 put, Value.slice (some { block := b, off := off }) N c], Value.int IntKind.i64 n, Value.pointer (some { block := W.heap.size, off := 0 }), undef, Value.pointer (some { block := W.heap.size + 1, off := 0 }), x9, Value.int IntKind.i64 0, Value.agg #[Value.int IntKind.i64 room, Value.int IntKind.i64 put, Value.slice (some { block := b, off := off }) N c], Value.int IntKind.i64 0, Value.int IntKind.i64 0, Value.bool false, undef, undef, Value.bool (decide (n < 0) || decide (put ≤ n)), Value.int IntKind.i64 n, Value.bool (decide (n < 0)), Value.bool (decide (n < 0)), Value.int IntKind.i64 n, Value.pointer (some { block := W.heap.size, off := 1 }), Value.int IntKind.i64 put, Value.bool (decide (put ≤ n)), Value.bool (decide (n < 0) || decide (put ≤ n)), undef, Value.bool (decide (n < put - ↑N)), Value.int IntKind.i64 n, Value.agg #[Value.int IntKind.i64 room, Value.int IntKind.i64 put, Value.slice (some { block := b, off := off }) N c], Value.int IntKind.i64 (put - ↑N), Value.bool (decide (n < put - ↑N)), undef, x0, x1, x2, x3, x4, x5, x6, x7], defers := [] } ∧ PGet w2 W S1 S2 b off j 0 n room put N c (.pointer (some ⟨W.heap.size, 2, none⟩)) (.slice (some ⟨b, off, none⟩) N c) (.int .i64 n) (.agg #[.int .i64 room, .int .i64 put, .slice (some ⟨b, off, none⟩) N c]) (.int .i64 (put - (N : Int))) (.int .i64 (j : Int)) (.pointer (some ⟨b, off + j * 2, none⟩)) (.agg #[.string S1, .string S2]) (.int .i64 0) b0 b1 b2 b3 b4 b5 b6 b7 b8 b9 x0 x1 x2 x3 x4 x5 x6 x7 x8 x9 wld_) (by kernel_rfl) ?h0 ?hfin ?hI
        case h0 => exact ⟨_, _, _, _, _, _, _, _, _, _, _, _, _, _, _, _, _, _, undef, _, rfl, rfl, ⟨(fun _ => (Below.refl _ _).drew), (fun h => by cases h), (fun h => by cases h), (fun h => by cases h), (fun h => by cases h), (fun h => by cases h), (fun h => by cases h), (fun h => by cases h), (fun h => by cases h), (fun h => by cases h), (fun h => by cases h), (fun h => by cases h), (fun h => by cases h), (fun h => by cases h), (fun h => by cases h), (fun h => by cases h), (fun h => by cases h), (fun h => by cases h)⟩⟩
        case hI =>
          rintro listed a w ⟨b0, b1, b2, b3, b4, b5, b6, b7, b8, b9, x0, x1, x2, x3, x4, x5, x6, x7, x8, x9, rfl, rfl, H⟩ i hi
          obtain ⟨hun, oj, hoj, hall⟩ := mem_ready.1 hi
          clear hi
          rcases i with _ | _ | _ | _ | _ | _ | _ | _ | _ | _ | i
          · have ho := hoj
            simp only [List.getElem?_toArray, List.getElem?_cons_succ, List.getElem?_cons_zero, Option.some.injEq] at hoj
            subst hoj
            obtain rfl : b0 = false := hun
            clear hall
            obtain rfl : b1 = false := Bool.eq_false_iff.2 fun h => Bool.false_ne_true (H.d1 h)
            obtain rfl : b6 = false := Bool.eq_false_iff.2 fun h => Bool.false_ne_true (H.d6 h).1
            obtain rfl : b7 = false := Bool.eq_false_iff.2 fun h => Bool.false_ne_true (H.d7 h)
            obtain rfl : b8 = false := Bool.eq_false_iff.2 fun h => Bool.false_ne_true (H.d8 h).1
            obtain rfl : b9 = false := Bool.eq_false_iff.2 fun h => Bool.false_ne_true (H.d9 h).1
            have hbe := H.be rfl
            refine wpOp_step ho (fun K' hK => ?_)
            have HK := Lib.hid hK
            clear hK ho
            go_simp
            exact HK.out _ _ ⟨_, _, _, _, _, _, _, _, _, _, _, _, _, _, _, _, _, _, x8, _, rfl, rfl, ⟨(fun _ => hbe), (fun h => by cases h), H.d4, H.d5, H.d6, H.d7, (fun h => by cases h), (fun h => by cases h), (fun _ => rfl), H.h1, H.h2, H.h3, H.h4, H.h5, H.h6, H.h7, (fun h => by cases h), H.h9⟩⟩
          · have ho := hoj
            simp only [List.getElem?_toArray, List.getElem?_cons_succ, List.getElem?_cons_zero, Option.some.injEq] at hoj
            subst hoj
            obtain rfl : b1 = false := hun
            obtain rfl : b0 = true := hall ⟨0, .data⟩ (by simp) (by kernel_rfl)
            clear hall
            obtain rfl : b6 = false := Bool.eq_false_iff.2 fun h => Bool.false_ne_true (H.d6 h).1
            obtain rfl : b7 = false := Bool.eq_false_iff.2 fun h => Bool.false_ne_true (H.d7 h)
            obtain rfl : b8 = false := Bool.eq_false_iff.2 fun h => Bool.false_ne_true (H.d8 h).2.1
            obtain rfl : b9 = false := Bool.eq_false_iff.2 fun h => Bool.false_ne_true (H.d9 h).2.1
            have hbe := H.be rfl
            obtain rfl := H.h0 rfl
            obtain ⟨q0, q1, q2⟩ := bk3T ((hbe.block _ (lt_of_block F2.out)).trans F2.out)
            refine wpOp_step ho (fun K' hK => ?_)
            have HK := Lib.hid hK
            clear hK ho
            go_simp
            exact HK.out _ _ ⟨_, _, _, _, _, _, _, _, _, _, _, _, _, _, _, _, _, _, x8, _, rfl, rfl, ⟨(fun _ => hbe), (fun _ => rfl), H.d4, H.d5, (fun h => by cases h), H.d7, (fun h => by cases h), (fun h => by cases h), H.h0, (fun _ => rfl), H.h2, H.h3, H.h4, H.h5, H.h6, H.h7, (fun h => by cases h), H.h9⟩⟩
          · have ho := hoj
            simp only [List.getElem?_toArray, List.getElem?_cons_succ, List.getElem?_cons_zero, Option.some.injEq] at hoj
            subst hoj
            obtain rfl : b2 = false := hun
            clear hall
            obtain rfl : b5 = false := Bool.eq_false_iff.2 fun h => Bool.false_ne_true (H.d5 h).1
            obtain rfl : b6 = false := Bool.eq_false_iff.2 fun h => Bool.false_ne_true (H.d6 h).2
            obtain rfl : b7 = false := Bool.eq_false_iff.2 fun h => Bool.false_ne_true (H.d7 h)
            obtain rfl : b8 = false := Bool.eq_false_iff.2 fun h => Bool.false_ne_true (H.d8 h).2.2.1
            obtain rfl : b9 = false := Bool.eq_false_iff.2 fun h => Bool.false_ne_true (H.d9 h).2.2.1
            have hbe := H.be rfl
            refine wpOp_step ho (fun K' hK => ?_)
            have HK := Lib.hid hK
            clear hK ho
            go_simp
            exact HK.out _ _ ⟨_, _, _, _, _, _, _, _, _, _, _, _, _, _, _, _, _, _, x8, _, rfl, rfl, ⟨(fun _ => hbe), H.d1, H.d4, (fun h => by cases h), H.d6, H.d7, (fun h => by cases h), (fun h => by cases h), H.h0, H.h1, (fun _ => rfl), H.h3, H.h4, H.h5, H.h6, H.h7, (fun h => by cases h), H.h9⟩⟩
          · have ho := hoj
            simp only [List.getElem?_toArray, List.getElem?_cons_succ, List.getElem?_cons_zero, Option.some.injEq] at hoj
            subst hoj
            obtain rfl : b3 = false := hun
            clear hall
            obtain rfl : b4 = false := Bool.eq_false_iff.2 fun h => Bool.false_ne_true (H.d4 h)
            obtain rfl : b5 = false := Bool.eq_false_iff.2 fun h => Bool.false_ne_true (H.d5 h).2
            obtain rfl : b6 = false := Bool.eq_false_iff.2 fun h => Bool.false_ne_true (H.d6 h).2
            obtain rfl : b7 = false := Bool.eq_false_iff.2 fun h => Bool.false_ne_true (H.d7 h)
            obtain rfl : b8 = false := Bool.eq_false_iff.2 fun h => Bool.false_ne_true (H.d8 h).2.2.2.1
            obtain rfl : b9 = false := Bool.eq_false_iff.2 fun h => Bool.false_ne_true (H.d9 h).2.2.2.1
            have hbe := H.be rfl
            obtain ⟨q0, q1, q2⟩ := bk3T ((hbe.block _ (lt_of_block F2.out)).trans F2.out)
            refine wpOp_step ho (fun K' hK => ?_)
            have HK := Lib.hid hK
            clear hK ho
            go_simp
            exact HK.out _ _ ⟨_, _, _, _, _, _, _, _, _, _, _, _, _, _, _, _, _, _, x8, _, rfl, rfl, ⟨(fun _ => hbe), H.d1, (fun h => by cases h), H.d5, H.d6, H.d7, (fun h => by cases h), (fun h => by cases h), H.h0, H.h1, H.h2, (fun _ => rfl), H.h4, H.h5, H.h6, H.h7, (fun h => by cases h), H.h9⟩⟩
          · have ho := hoj
            simp only [List.getElem?_toArray, List.getElem?_cons_succ, List.getElem?_cons_zero, Option.some.injEq] at hoj
            subst hoj
            obtain rfl : b4 = false := hun
            obtain rfl : b3 = true := hall ⟨3, .data⟩ (by simp) (by kernel_rfl)
            clear hall
            obtain rfl : b5 = false := Bool.eq_false_iff.2 fun h => Bool.false_ne_true (H.d5 h).2
            obtain rfl : b6 = false := Bool.eq_false_iff.2 fun h => Bool.false_ne_true (H.d6 h).2
            obtain rfl : b7 = false := Bool.eq_false_iff.2 fun h => Bool.false_ne_true (H.d7 h)
            obtain rfl : b8 = false := Bool.eq_false_iff.2 fun h => Bool.false_ne_true (H.d8 h).2.2.2.2.1
            obtain rfl : b9 = false := Bool.eq_false_iff.2 fun h => Bool.false_ne_true (H.d9 h).2.2.2.2.1
            have hbe := H.be rfl
            obtain rfl := H.h3 rfl
            refine wpOp_step ho (fun K' hK => ?_)
            have HK := Lib.hid hK
            clear hK ho
            go_wp2_with fail
            refine (HGN.out _).mono ?_
            rintro e w9 ⟨rfl, b9⟩
            have BC := Lib.hid b9
            clear b9
            go_wp2_with fail
            exact HK.out _ _ ⟨_, _, _, _, _, _, _, _, _, _, _, _, _, _, _, _, _, _, x8, _, rfl, rfl, ⟨(fun _ => hbe.trans (BC.out.mono hbe.size)), H.d1, (fun _ => rfl), (fun h => by cases h), H.d6, H.d7, (fun h => by cases h), (fun h => by cases h), H.h0, H.h1, H.h2, H.h3, (fun _ => rfl), H.h5, H.h6, H.h7, (fun h => by cases h), H.h9⟩⟩
          · have ho := hoj
            simp only [List.getElem?_toArray, List.getElem?_cons_succ, List.getElem?_cons_zero, Option.some.injEq] at hoj
            subst hoj
            obtain rfl : b5 = false := hun
            obtain rfl : b2 = true := hall ⟨2, .data⟩ (by simp) (by kernel_rfl)
            obtain rfl : b4 = true := hall ⟨4, .data⟩ (by simp) (by kernel_rfl)
            obtain rfl : b3 = true := (H.d4 rfl)
            clear hall
            obtain rfl : b6 = false := Bool.eq_false_iff.2 fun h => Bool.false_ne_true (H.d6 h).2
            obtain rfl : b7 = false := Bool.eq_false_iff.2 fun h => Bool.false_ne_true (H.d7 h)
            obtain rfl : b8 = false := Bool.eq_false_iff.2 fun h => Bool.false_ne_true (H.d8 h).2.2.2.2.2.1
            obtain rfl : b9 = false := Bool.eq_false_iff.2 fun h => Bool.false_ne_true (H.d9 h).2.2.2.2.2.1
            have hbe := H.be rfl
            obtain rfl := H.h2 rfl
            obtain rfl := H.h3 rfl
            obtain rfl := H.h4 rfl
            have hsub := HSUB.out
            refine wpOp_step ho (fun K' hK => ?_)
            have HK := Lib.hid hK
            clear hK ho
            go_simp
            exact HK.out _ _ ⟨_, _, _, _, _, _, _, _, _, _, _, _, _, _, _, _, _, _, x8, _, rfl, rfl, ⟨(fun _ => hbe), H.d1, H.d4, (fun _ => ⟨rfl, rfl⟩), (fun h => by cases h), H.d7, (fun h => by cases h), (fun h => by cases h), H.h0, H.h1, H.h2, H.h3, H.h4, (fun _ => rfl), H.h6, H.h7, (fun h => by cases h), H.h9⟩⟩
          · have ho := hoj
            simp only [List.getElem?_toArray, List.getElem?_cons_succ, List.getElem?_cons_zero, Option.some.injEq] at hoj
            subst hoj
            obtain rfl : b6 = false := hun
            obtain rfl : b1 = true := hall ⟨1, .data⟩ (by simp) (by kernel_rfl)
            obtain rfl : b5 = true := hall ⟨5, .data⟩ (by simp) (by kernel_rfl)
            obtain rfl : b0 = true := (H.d1 rfl)
            obtain rfl : b2 = true := (H.d5 rfl).1
            obtain rfl : b4 = true := (H.d5 rfl).2
            obtain rfl : b3 = true := (H.d4 rfl)
            clear hall
            obtain rfl : b7 = false := Bool.eq_false_iff.2 fun h => Bool.false_ne_true (H.d7 h)
            obtain rfl : b8 = false := Bool.eq_false_iff.2 fun h => Bool.false_ne_true (H.d8 h).2.2.2.2.2.2.1
            obtain rfl : b9 = false := Bool.eq_false_iff.2 fun h => Bool.false_ne_true (H.d9 h).2.2.2.2.2.2.1
            have hbe := H.be rfl
            obtain rfl := H.h0 rfl
            obtain rfl := H.h1 rfl
            obtain rfl := H.h2 rfl
            obtain rfl := H.h3 rfl
            obtain rfl := H.h4 rfl
            obtain rfl := H.h5 rfl
            have hj1 := HJ.out.1
            have hj2 := HJ.out.2
            refine wpOp_step ho (fun K' hK => ?_)
            have HK := Lib.hid hK
            clear hK ho
            go_simp
            exact HK.out _ _ ⟨_, _, _, _, _, _, _, _, _, _, _, _, _, _, _, _, _, _, x8, _, rfl, rfl, ⟨(fun _ => hbe), H.d1, H.d4, H.d5, (fun _ => ⟨rfl, rfl⟩), (fun h => by cases h), (fun h => by cases h), (fun h => by cases h), H.h0, H.h1, H.h2, H.h3, H.h4, H.h5, (fun _ => rfl), H.h7, (fun h => by cases h), H.h9⟩⟩
          · have ho := hoj
            simp only [List.getElem?_toArray, List.getElem?_cons_succ, List.getElem?_cons_zero, Option.some.injEq] at hoj
            subst hoj
            obtain rfl : b7 = false := hun
            obtain rfl : b6 = true := hall ⟨6, .data⟩ (by simp) (by kernel_rfl)
            obtain rfl : b1 = true := (H.d6 rfl).1
            obtain rfl : b5 = true := (H.d6 rfl).2
            obtain rfl : b0 = true := (H.d1 rfl)
            obtain rfl : b2 = true := (H.d5 rfl).1
            obtain rfl : b4 = true := (H.d5 rfl).2
            obtain rfl : b3 = true := (H.d4 rfl)
            clear hall
            obtain rfl : b8 = false := Bool.eq_false_iff.2 fun h => Bool.false_ne_true (H.d8 h).2.2.2.2.2.2.2
            obtain rfl : b9 = false := Bool.eq_false_iff.2 fun h => Bool.false_ne_true (H.d9 h).2.2.2.2.2.2.2.1
            have hbe := H.be rfl
            obtain rfl := H.h0 rfl
            obtain rfl := H.h1 rfl
            obtain rfl := H.h2 rfl
            obtain rfl := H.h3 rfl
            obtain rfl := H.h4 rfl
            obtain rfl := H.h5 rfl
            obtain rfl := H.h6 rfl
            have y0 := ((B2.out.trans (hbe.mono B2.out.size)).cell (p := ⟨b, off + j * 2, none⟩) HBL.out).trans X0.out
            have y1 := ((B2.out.trans (hbe.mono B2.out.size)).cell (p := ⟨b, off + j * 2 + 1, none⟩) HBL.out).trans X1.out
            refine wpOp_step ho (fun K' hK => ?_)
            have HK := Lib.hid hK
            clear hK ho
            go_simp
            exact HK.out _ _ ⟨_, _, _, _, _, _, _, _, _, _, _, _, _, _, _, _, _, _, x8, _, rfl, rfl, ⟨(fun _ => hbe), H.d1, H.d4, H.d5, H.d6, (fun _ => rfl), (fun h => by cases h), (fun h => by cases h), H.h0, H.h1, H.h2, H.h3, H.h4, H.h5, H.h6, (fun _ => rfl), (fun h => by cases h), H.h9⟩⟩
          · have ho := hoj
            simp only [List.getElem?_toArray, List.getElem?_cons_succ, List.getElem?_cons_zero, Option.some.injEq] at hoj
            subst hoj
            obtain rfl : b8 = false := hun
            obtain rfl : b0 = true := hall ⟨0, .phase⟩ (by simp) (by kernel_rfl)
            obtain rfl : b1 = true := hall ⟨1, .phase⟩ (by simp) (by kernel_rfl)
            obtain rfl : b2 = true := hall ⟨2, .phase⟩ (by simp) (by kernel_rfl)
            obtain rfl : b3 = true := hall ⟨3, .phase⟩ (by simp) (by kernel_rfl)
            obtain rfl : b4 = true := hall ⟨4, .chain⟩ (by simp) (by kernel_rfl)
            obtain rfl : b5 = true := hall ⟨5, .phase⟩ (by simp) (by kernel_rfl)
            obtain rfl : b6 = true := hall ⟨6, .phase⟩ (by simp) (by kernel_rfl)
            obtain rfl : b7 = true := hall ⟨7, .data⟩ (by simp) (by kernel_rfl)
            clear hall
            obtain rfl : b9 = false := Bool.eq_false_iff.2 fun h => Bool.false_ne_true (H.d9 h).2.2.2.2.2.2.2.2
            have hbe := H.be rfl
            obtain rfl := H.h0 rfl
            obtain rfl := H.h1 rfl
            obtain rfl := H.h2 rfl
            obtain rfl := H.h3 rfl
            obtain rfl := H.h4 rfl
            obtain rfl := H.h5 rfl
            obtain rfl := H.h6 rfl
            obtain rfl := H.h7 rfl
            have ZB := Lib.hid ((hbe.block _ (lt_of_block Z2.out)).trans Z2.out)
            obtain ⟨r0, r1, gp⟩ := bk2_putF ZB.out (.string S1) (.string S2)
            have R0 := Lib.hid r0
            have R1 := Lib.hid r1
            have hsz := Nat.le_trans B2.out.size hbe.size
            have BV := Lib.hid (gr_from (B2.out.trans (hbe.mono B2.out.size)) hsz (Nat.le_succ _) gp)
            obtain ⟨z0, z1⟩ := bk2F ZB.out
            have zf := fun i => bk_frz ZB.out i
            clear gp r0 r1
            refine wpOp_step ho (fun K' hK => ?_)
            have HK := Lib.hid hK
            clear hK ho
            go_simp
            exact HK.out _ _ ⟨_, _, _, _, _, _, _, _, _, _, _, _, _, _, _, _, _, _, x8, _, rfl, rfl, ⟨(fun h => by cases h), H.d1, H.d4, H.d5, H.d6, H.d7, (fun _ => ⟨rfl, rfl, rfl, rfl, rfl, rfl, rfl, rfl⟩), (fun h => by cases h), H.h0, H.h1, H.h2, H.h3, H.h4, H.h5, H.h6, H.h7, (fun _ => ⟨R0.out, R1.out, BV.out⟩), H.h9⟩⟩
          · have ho := hoj
            simp only [List.getElem?_toArray, List.getElem?_cons_succ, List.getElem?_cons_zero, Option.some.injEq] at hoj
            subst hoj
            obtain rfl : b9 = false := hun
            obtain rfl : b0 = true := hall ⟨0, .phase⟩ (by simp) (by kernel_rfl)
            obtain rfl : b1 = true := hall ⟨1, .phase⟩ (by simp) (by kernel_rfl)
            obtain rfl : b2 = true := hall ⟨2, .phase⟩ (by simp) (by kernel_rfl)
            obtain rfl : b3 = true := hall ⟨3, .phase⟩ (by simp) (by kernel_rfl)
            obtain rfl : b4 = true := hall ⟨4, .phase⟩ (by simp) (by kernel_rfl)
            obtain rfl : b5 = true := hall ⟨5, .phase⟩ (by simp) (by kernel_rfl)
            obtain rfl : b6 = true := hall ⟨6, .phase⟩ (by simp) (by kernel_rfl)
            obtain rfl : b7 = true := hall ⟨7, .phase⟩ (by simp) (by kernel_rfl)
            obtain rfl : b8 = true := hall ⟨8, .chain⟩ (by simp) (by kernel_rfl)
            clear hall
            obtain rfl := H.h0 rfl
            obtain rfl := H.h1 rfl
            obtain rfl := H.h2 rfl
            obtain rfl := H.h3 rfl
            obtain rfl := H.h4 rfl
            obtain rfl := H.h5 rfl
            obtain rfl := H.h6 rfl
            obtain rfl := H.h7 rfl
            have P8 := H.h8 rfl
            refine wpOp_step ho (fun K' hK => ?_)
            have HK := Lib.hid hK
            clear hK ho
            go_simp
            exact HK.out _ _ ⟨_, _, _, _, _, _, _, _, _, _, _, _, _, _, _, _, _, _, x8, _, rfl, rfl, ⟨(fun h => by cases h), H.d1, H.d4, H.d5, H.d6, H.d7, H.d8, (fun _ => ⟨rfl, rfl, rfl, rfl, rfl, rfl, rfl, rfl, rfl⟩), H.h0, H.h1, H.h2, H.h3, H.h4, H.h5, H.h6, H.h7, H.h8, (fun _ => rfl)⟩⟩
          · have ho := hoj
            simp at ho
        case hfin =>
          rintro listed a w ⟨b0, b1, b2, b3, b4, b5, b6, b7, b8, b9, x0, x1, x2, x3, x4, x5, x6, x7, x8, x9, rfl, rfl, H⟩ hr
          have hb : b9 = true := by
            clear H
            revert b0 b1 b2 b3 b4 b5 b6 b7 b8 b9
            decide +kernel
          subst hb
          clear hr
          obtain rfl : b0 = true := (H.d9 rfl).1
          obtain rfl : b1 = true := (H.d9 rfl).2.1
          obtain rfl : b2 = true := (H.d9 rfl).2.2.1
          obtain rfl : b3 = true := (H.d9 rfl).2.2.2.1
          obtain rfl : b4 = true := (H.d9 rfl).2.2.2.2.1
          obtain rfl : b5 = true := (H.d9 rfl).2.2.2.2.2.1
          obtain rfl : b6 = true := (H.d9 rfl).2.2.2.2.2.2.1
          obtain rfl : b7 = true := (H.d9 rfl).2.2.2.2.2.2.2.1
          obtain rfl : b8 = true := (H.d9 rfl).2.2.2.2.2.2.2.2
          obtain ⟨r0, r1, hb⟩ := H.h8 rfl
          obtain rfl := H.h9 rfl
          have HBB := Lib.hid hb
          have R0 := Lib.hid r0
          have R1 := Lib.hid r1
          clear hb H r0 r1
          have q0 := R0.out
          have q1 := R1.out
          go_wp2_with fail
          refine bodyPost_ret (by simp [results, Try.results75, go_sem, q0, q1]; try rfl) rfl ?_
          exact ⟨HBB.out, rfl⟩
    · rw [if_pos h1]
      by_cases h3 : n < 0
      · clear h1
        go_enter Try.func75, Try.ntmps75
        go_wp2_with (first
          | (go_at_call 50; refine (HFT.out _ B0.out).mono ?_; rintro e w1 ⟨rfl, b1⟩; have B1 := Lib.hid (B0.out.trans (b1.mono B0.out.size)); have F1 := Lib.hid ((b1.block _ (lt_of_block F0.out)).trans F0.out); have Z1 := Lib.hid ((b1.block _ (lt_of_block Z0.out)).trans Z0.out); clear b1; obtain ⟨q0, q1, q2⟩ := bk3T F1.out; obtain ⟨z0, z1⟩ := bk2F Z1.out; have zf := fun i => bk_frz Z1.out i))
        obtain ⟨r0, r1, gp⟩ := bk2_putF Z1.out (.string ⟨#[]⟩) (.string ⟨#[]⟩)
        refine bodyPost_ret (by simp [results, Try.results75, go_sem, r0, r1]; try rfl) rfl ?_
        exact ⟨gr_from B1.out B1.out.size (Nat.le_succ _) gp, rfl⟩
      · have h4 : put ≤ n := by omega
        clear h1
        go_enter Try.func75, Try.ntmps75
        go_wp2_with (first
          | (go_at_call 50; refine (HFT.out _ B0.out).mono ?_; rintro e w1 ⟨rfl, b1⟩; have B1 := Lib.hid (B0.out.trans (b1.mono B0.out.size)); have F1 := Lib.hid ((b1.block _ (lt_of_block F0.out)).trans F0.out); have Z1 := Lib.hid ((b1.block _ (lt_of_block Z0.out)).trans Z0.out); clear b1; obtain ⟨q0, q1, q2⟩ := bk3T F1.out; obtain ⟨z0, z1⟩ := bk2F Z1.out; have zf := fun i => bk_frz Z1.out i))
        obtain ⟨r0, r1, gp⟩ := bk2_putF Z1.out (.string ⟨#[]⟩) (.string ⟨#[]⟩)
        refine bodyPost_ret (by simp [results, Try.results75, go_sem, r0, r1]; try rfl) rfl ?_
        exact ⟨gr_from B1.out B1.out.size (Nat.le_succ _) gp, rfl⟩
  · rw [if_pos h0]
    have g : (x != 0) = true := by simp [h0]
    clear h0 hok hN
    go_enter Try.func75, Try.ntmps75
    go_wp2_with (first
      | (go_at_call 50; refine (HFT.out _ B0.out).mono ?_; rintro e w1 ⟨rfl, b1⟩; have B1 := Lib.hid (B0.out.trans (b1.mono B0.out.size)); have F1 := Lib.hid ((b1.block _ (lt_of_block F0.out)).trans F0.out); have Z1 := Lib.hid ((b1.block _ (lt_of_block Z0.out)).trans Z0.out); clear b1; obtain ⟨q0, q1, q2⟩ := bk3T F1.out; obtain ⟨z0, z1⟩ := bk2F Z1.out; have zf := fun i => bk_frz Z1.out i))
    obtain ⟨r0, r1, gp⟩ := bk2_putF Z1.out (.string ⟨#[]⟩) (.string ⟨#[]⟩)
    refine bodyPost_ret (by simp [results, Try.results75, go_sem, r0, r1]; try rfl) rfl ?_
    exact ⟨gr_from B1.out B1.out.size (Nat.le_succ _) gp, rfl⟩
end Go.Proofs.Ytpfahdogedchpaa
