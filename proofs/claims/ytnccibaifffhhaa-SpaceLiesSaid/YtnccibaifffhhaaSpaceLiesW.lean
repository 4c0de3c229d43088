/- The walk of SpaceLies. -/
import Derived.Test.YtnccibaifffhhaaSpaced
import Derived.Test.YtnccibaifffhhaaGrpSj
namespace Go.Proofs.Ytnccibaifffhhaa
set_option linter.unusedVariables false
open Go.RowKit P

structure SlA (w0 : World) (Aa Ah Ak : Option Addr) (ca ch ck : Nat) (s s' : Sp) (V : Nat) (far a : Int) (hl ll : List Pcl) (V0 V1 V2 V3 V4 V5 V6 V7 V8 V15 V20 : Value) (sb0 sb1 sb2 sb3 sb4 sb5 sb6 sb7 sb8 sb9 sb10 sb11 sb12 sb13 sb14 sb15 sb16 sb17 sb18 sb19 sb20 : Bool) (sx0 sx1 sx2 sx3 sx4 sx5 sx6 sx7 sx8 sx9 sx10 sx11 sx12 sx13 sx14 sx15 sx16 sx17 sx18 sx19 sx20 : Value) (w : World) : Prop where
  be : Below w0.heap.size w0 w
  d2 : sb2 = true → sb1 = true
  d4 : sb4 = true → sb3 = true
  d6 : sb6 = true → sb5 = true
  d7 : sb7 = true → sb4 = true ∧ sb6 = true
  d8 : sb8 = true → sb2 = true ∧ sb7 = true
  d9 : sb9 = true → sb8 = true
  d10 : sb10 = true → sb0 = true ∧ sb6 = true ∧ sb9 = true
  d11 : sb11 = true → sb10 = true
  d12 : sb12 = true → sb11 = true
  d13 : sb13 = true → sb11 = true
  d14 : sb14 = true → sb11 = true
  d15 : sb15 = true → sb11 = true
  d17 : sb17 = true → sb0 = true ∧ sb1 = true ∧ sb2 = true ∧ sb3 = true ∧ sb4 = true ∧ sb5 = true ∧ sb6 = true ∧ sb7 = true ∧ sb8 = true ∧ sb9 = true ∧ sb10 = true ∧ sb11 = true ∧ sb12 = true ∧ sb16 = true
  d18 : sb18 = true → sb0 = true ∧ sb1 = true ∧ sb2 = true ∧ sb3 = true ∧ sb4 = true ∧ sb5 = true ∧ sb6 = true ∧ sb7 = true ∧ sb8 = true ∧ sb9 = true ∧ sb10 = true ∧ sb11 = true ∧ sb12 = true ∧ sb13 = true ∧ sb16 = true ∧ sb17 = true
  d19 : sb19 = true → sb0 = true ∧ sb1 = true ∧ sb2 = true ∧ sb3 = true ∧ sb4 = true ∧ sb5 = true ∧ sb6 = true ∧ sb7 = true ∧ sb8 = true ∧ sb9 = true ∧ sb10 = true ∧ sb11 = true ∧ sb12 = true ∧ sb13 = true ∧ sb14 = true ∧ sb16 = true ∧ sb17 = true ∧ sb18 = true
  d20 : sb20 = true → sb0 = true ∧ sb1 = true ∧ sb2 = true ∧ sb3 = true ∧ sb4 = true ∧ sb5 = true ∧ sb6 = true ∧ sb7 = true ∧ sb8 = true ∧ sb9 = true ∧ sb10 = true ∧ sb11 = true ∧ sb12 = true ∧ sb13 = true ∧ sb14 = true ∧ sb15 = true ∧ sb16 = true ∧ sb17 = true ∧ sb18 = true ∧ sb19 = true
  t5 : sb10 = true → ∃ u v q, sx10 = .tuple #[u, v, q, .int .i64 13]
  t6 : sb11 = true → ∃ u v q, sx11 = .tuple #[u, v, q, .int .i64 13]
  h0 : sb0 = true → sx0 = V0
  h1 : sb1 = true → sx1 = V1
  h2 : sb2 = true → sx2 = V2
  h3 : sb3 = true → sx3 = V3
  h4 : sb4 = true → sx4 = V4
  h5 : sb5 = true → sx5 = V5
  h6 : sb6 = true → sx6 = V6
  h7 : sb7 = true → sx7 = V7
  h8 : sb8 = true → sx8 = V8
  h9 : sb9 = true → sb17 = false → RSl w w.heap.size sx9 [(s.next, s.next + a)]
  h10 : sb10 = true → TupA w0 sb16 sx16 w sx10 s' hl ll 13
  h11 : sb11 = true → TupA w0 sb16 sx16 w sx11 s' hl ll 13
  h12 : sb12 = true → SpdS (SXv w0 sb16 sx16) w sx12 s'
  h13 : sb13 = true → PldS (SXv w0 sb16 sx16) w sx13 hl
  h14 : sb14 = true → PldS (SXv w0 sb16 sx16) w sx14 ll
  h15 : sb15 = true → sx15 = V15
  h16 : sb16 = true → sb17 = false → ∃ k, sx16 = .pointer (some ⟨k, 0, none⟩) ∧ w0.heap.size ≤ k ∧ w.heap[k]? = some (.cells #[.int .i64 0, .slice none 0 0, .int .i64 0, .slice none 0 0, .slice none 0 0] 48 (0, 0))
  h17 : sb17 = true → SpNew w0 w sx16 s'
  h18 : sb18 = true → PldS (SXv w0 sb16 sx16) w sx18 hl
  h19 : sb19 = true → PldS (SXv w0 sb16 sx16) w sx19 ll
  h20 : sb20 = true → sx20 = V20
set_option maxRecDepth 100000 in
set_option maxHeartbeats 8000000 in
theorem spaceLies_walk (A : Option Addr) (len cap : Nat) (rs : List RawT) (far : Int) (W : World) (hr : RawRow W W.heap.size A rs) (hl : rs.length = len) (hlc : len ≤ cap) (hcm : cap ≤ maxLen) :
    Calls Try.prog 6 #[.slice A len cap, .int .i64 far] W fun e w' => e = .returned (.bool true) ∧ Below W.heap.size W w' := by
  have HSP := Lib.hid (spaced_any A len cap rs W hr hl hlc hcm)
  clear hr hl hlc hcm
  obtain ⟨a, ha⟩ : ∃ a, far % 9 = a := ⟨_, rfl⟩
  have a0 : 0 ≤ a := by omega
  have a1 : a < 9 := by omega
  have HPA := Lib.hid (fun w => ha ▸ picked_any far 9 (by decide) (by decide) w)
  clear ha
  go_enter Try.func6, Try.ntmps6
  go_wp2_with fail
  refine HSP.out.mono ?_
  rintro e w1 hp
  have b1 := hp.be
  obtain ⟨s, E, M, n, Aa, Ah, Ak, ca, ch, ck, D, rfl, hv, _, _, hon, hnf, hnx, _⟩ := hp.ex
  have ok0 := hon.ok
  have n0 : 0 ≤ s.next := ok0.1.1
  have HWF := Lib.hid (spwf_of ok0 hnf)
  have HWA := Lib.hid (show IntKind.i64.wrap (s.next + a) = s.next + a by rw [IntKind.wrap_i64]; omega)
  have hfar := lies_far ok0 a0
  obtain ⟨kL, hl1, hl2, hl3, _⟩ := leap_ok ok0 (by omega)
  have hl4 := lies_leapt hl2 hl3 n0
  obtain ⟨t, ht⟩ : ∃ x, ({ s with next := s.next + 1, skip := kL } : Sp) = x := ⟨_, rfl⟩
  rw [ht] at hl1 hl2 hl4
  have htn : t.next = s.next + 1 := by rw [← ht]
  have hts : NoFr t := by rw [← ht]; exact hnf
  obtain ⟨hq1, hq2⟩ := lies_quiet hl2 (by rw [htn]; omega)
  obtain ⟨t2, lo2, hn4⟩ := lies_none hl2 hq2
  obtain ⟨u, hu⟩ : ∃ x, ({ t with next := t.next + 1 } : Sp) = x := ⟨_, rfl⟩
  rw [hu] at hq1 hq2 hn4
  have hus : NoFr u := by rw [← hu]; exact hts
  rw [show (t.next : Int) = s.next + 1 from htn] at hq1 hn4
  obtain ⟨s', hs'⟩ : ∃ x, sp0 = x := ⟨_, rfl⟩
  obtain ⟨hl, hhl⟩ : ∃ x, ([] : List Pcl) = x := ⟨_, rfl⟩
  obtain ⟨ll, hll⟩ : ∃ x, ([] : List Pcl) = x := ⟨_, rfl⟩
  have HEQ : Hid (ackSp s [(s.next, s.next + a)] = (s', hl, ll, 13)) := Lib.hid (by rw [← hs', ← hhl, ← hll]; exact hfar)
  have HLP := Lib.hid (fun (v : Value) (w : World) (h : SpVal w w.heap.size v s) => hl1 ▸ spLeap_any v s w h HWF.out)
  have HA1 := Lib.hid (fun (v vl : Value) (w : World) (h : SpVal w w.heap.size v t) (hl : RSl w w.heap.size vl [(0, s.next)]) => hl4 ▸ spAck_any v vl t [(0, s.next)] w h (spwf_of hl2 hts) hl (by simp))
  have HQU := Lib.hid (fun (v : Value) (w : World) (h : SpVal w w.heap.size v t) => hq1 ▸ (spQuiet_any v t w h (spwf_of hl2 hts)).mono fun _ _ q => q.toU)
  have HA2 := Lib.hid (fun (v vl : Value) (w : World) (h : SpVal w w.heap.size v u) (hl : RSl w w.heap.size vl [(s.next + 1, s.next + 1)]) => hn4 ▸ spAck_any v vl u [(s.next + 1, s.next + 1)] w h (spwf_of hq2 hus) hl (by simp))
  have HTN := Lib.hid htn
  dsimp only
  have C1 := (Below.refl w1.heap.size w1).alloc (Nat.le_refl _) (.cells #[.int .i64 s.next, .slice Aa s.sent.length ca, .int .i64 s.top, .slice Ah s.heard.length ch, .slice Ak s.skip.length ck] 48)
  have X1f := heap_alloc_new w1 (.cells #[.int .i64 s.next, .slice Aa s.sent.length ca, .int .i64 s.top, .slice Ah s.heard.length ch, .slice Ak s.skip.length ck] 48)
  have D1 := b1.trans (C1.mono b1.size)
  have V1 := StS.on (StS.anti hv (S' := fun j => False) (fun j hj => hj.elim)) (KpS.below C1)
  clear hp hv hon hnf hfar hl1 hl2 hl3 hl4 ht htn hts hq1 hq2 hn4 hu hus hs' hhl hll HSP ok0
  go_upto_region 2 with fail
  obtain ⟨V, hV⟩ : ∃ V, w1.heap.size = V := ⟨_, rfl⟩
  obtain ⟨X, hX⟩ : ∃ x, w1.alloc (.cells #[.int .i64 s.next, .slice Aa s.sent.length ca, .int .i64 s.top, .slice Ah s.heard.length ch, .slice Ak s.skip.length ck] 48) = x := ⟨_, rfl⟩
  rw [hX] at D1 X1f V1
  rw [hV] at X1f
  try rw [hX]
  try rw [hV]
  have FX := Lib.hid X1f
  have VX := Lib.hid V1
  have BX := Lib.hid D1
  clear b1 C1 X1f D1 V1 hV hX
  refine wp_region_inv (fun lis_ act_ wld_ => ∃ (sb0 sb1 sb2 sb3 sb4 sb5 sb6 sb7 sb8 sb9 sb10 sb11 sb12 sb13 sb14 sb15 sb16 sb17 sb18 sb19 sb20 : Bool) (sx0 sx1 sx2 sx3 sx4 sx5 sx6 sx7 sx8 sx9 sx10 sx11 sx12 sx13 sx14 sx15 sx16 sx17 sx18 sx19 sx20 : Value), lis_ = #[sb0, sb1, sb2, sb3, sb4, sb5, sb6, sb7, sb8, sb9, sb10, sb11, sb12, sb13, sb14, sb15, sb16, sb17, sb18, sb19, sb20] ∧ act_ = { tmps := #[Value.slice A len cap, Value.int IntKind.i64 far, undef, undef, Value.bool false, Value.pointer (some { block := V, off := 0 }), Value.map (some M), Value.bool true, sx16, sx18, sx19, sx20, undef, undef, undef, undef, undef, undef, undef, undef, undef, undef, undef, undef, undef, Value.tuple #[Value.agg #[Value.int IntKind.i64 s.next, Value.slice Aa s.sent.length ca, Value.int IntKind.i64 s.top, Value.slice Ah s.heard.length ch, Value.slice Ak s.skip.length ck], Value.map (some M), Value.bool true], Value.slice A len cap, Value.tuple #[Value.agg #[Value.int IntKind.i64 s.next, Value.slice Aa s.sent.length ca, Value.int IntKind.i64 s.top, Value.slice Ah s.heard.length ch, Value.slice Ak s.skip.length ck], Value.map (some M), Value.bool true], Value.agg #[Value.int IntKind.i64 s.next, Value.slice Aa s.sent.length ca, Value.int IntKind.i64 s.top, Value.slice Ah s.heard.length ch, Value.slice Ak s.skip.length ck], Value.map (some M), Value.bool true, sx11, sx0, sx1, sx2, sx3, sx4, sx5, sx6, sx7, sx8, sx9, sx10, sx12, sx13, sx14, sx15, undef, undef, undef, undef, undef, undef, undef, undef, undef, undef, undef, undef, undef, undef, undef, undef, undef, undef, undef, undef, undef, undef, undef, undef, undef, undef, undef, undef, undef, undef, undef, undef, undef, undef, undef, undef, undef, undef, undef, undef, undef, undef, undef, undef, undef, undef, undef, undef, undef, undef, undef, undef, undef, undef, undef, undef, undef, undef, undef, undef, undef, undef, undef, undef, undef, undef, undef, undef, undef], defers := [] } ∧ SlA X Aa Ah Ak ca ch ck s s' V far a hl ll (.agg #[.int .i64 s.next, .slice Aa s.sent.length ca, .int .i64 s.top, .slice Ah s.heard.length ch, .slice Ak s.skip.length ck]) (.pointer (some ⟨V, 0, none⟩)) (.int .i64 s.next) (.pointer (some ⟨V, 0, none⟩)) (.int .i64 s.next) (.int .i64 far) (.int .i64 a) (.int .i64 (s.next + a)) (.agg #[.int .i64 s.next, .int .i64 (s.next + a)]) (.int .i64 13) (.int .i64 13) sb0 sb1 sb2 sb3 sb4 sb5 sb6 sb7 sb8 sb9 sb10 sb11 sb12 sb13 sb14 sb15 sb16 sb17 sb18 sb19 sb20 sx0 sx1 sx2 sx3 sx4 sx5 sx6 sx7 sx8 sx9 sx10 sx11 sx12 sx13 sx14 sx15 sx16 sx17 sx18 sx19 sx20 wld_) (by kernel_rfl) ?h0 ?hfin ?hI
  case h0 => exact ⟨_, _, _, _, _, _, _, _, _, _, _, _, _, _, _, _, _, _, _, _, _, _, _, _, _, _, _, _, _, _, _, _, _, _, _, _, _, _, undef, _, _, _, rfl, rfl, ⟨(Below.refl _ _).drew, (fun h => by cases h), (fun h => by cases h), (fun h => by cases h), (fun h => by cases h), (fun h => by cases h), (fun h => by cases h), (fun h => by cases h), (fun h => by cases h), (fun h => by cases h), (fun h => by cases h), (fun h => by cases h), (fun h => by cases h), (fun h => by cases h), (fun h => by cases h), (fun h => by cases h), (fun h => by cases h), (fun h => by cases h), (fun h => by cases h), (fun h => by cases h), (fun h => by cases h), (fun h => by cases h), (fun h => by cases h), (fun h => by cases h), (fun h => by cases h), (fun h => by cases h), (fun h => by cases h), (fun h => by cases h), (fun h => by cases h), (fun h => by cases h), (fun h => by cases h), (fun h => by cases h), (fun h => by cases h), (fun h => by cases h), (fun h => by cases h), (fun h => by cases h), (fun h => by cases h), (fun h => by cases h), (fun h => by cases h), (fun h => by cases h)⟩⟩
  case hI =>
    rintro listed a w ⟨sb0, sb1, sb2, sb3, sb4, sb5, sb6, sb7, sb8, sb9, sb10, sb11, sb12, sb13, sb14, sb15, sb16, sb17, sb18, sb19, sb20, sx0, sx1, sx2, sx3, sx4, sx5, sx6, sx7, sx8, sx9, sx10, sx11, sx12, sx13, sx14, sx15, sx16, sx17, sx18, sx19, sx20, rfl, rfl, H⟩ i hi
    obtain ⟨hun, oj, hoj, hall⟩ := mem_ready.1 hi
    clear hi
    rcases i with _ | _ | _ | _ | _ | _ | _ | _ | _ | _ | _ | _ | _ | _ | _ | _ | _ | _ | _ | _ | _ | i
    · have ho := hoj
      simp only [List.getElem?_toArray, List.getElem?_cons_zero, Option.some.injEq] at hoj
      subst hoj
      obtain rfl : sb0 = false := hun
      clear hall
      obtain rfl : sb10 = false := Bool.eq_false_iff.2 fun h => Bool.false_ne_true (H.d10 h).1
      obtain rfl : sb11 = false := Bool.eq_false_iff.2 fun h => Bool.false_ne_true (H.d11 h)
      obtain rfl : sb12 = false := Bool.eq_false_iff.2 fun h => Bool.false_ne_true (H.d12 h)
      obtain rfl : sb13 = false := Bool.eq_false_iff.2 fun h => Bool.false_ne_true (H.d13 h)
      obtain rfl : sb14 = false := Bool.eq_false_iff.2 fun h => Bool.false_ne_true (H.d14 h)
      obtain rfl : sb15 = false := Bool.eq_false_iff.2 fun h => Bool.false_ne_true (H.d15 h)
      obtain rfl : sb17 = false := Bool.eq_false_iff.2 fun h => Bool.false_ne_true (H.d17 h).1
      obtain rfl : sb18 = false := Bool.eq_false_iff.2 fun h => Bool.false_ne_true (H.d18 h).1
      obtain rfl : sb19 = false := Bool.eq_false_iff.2 fun h => Bool.false_ne_true (H.d19 h).1
      obtain rfl : sb20 = false := Bool.eq_false_iff.2 fun h => Bool.false_ne_true (H.d20 h).1
      have hbe := H.be
      have hx_t5 := H.t5
      have hx_t6 := H.t6
      obtain ⟨q0, q1, q2, q3, q4⟩ := sp5 ((hbe.block _ (lt_of_block FX.out)).trans FX.out)
      refine wpOp_step ho (fun K' hK => ?_)
      have HK := Lib.hid hK
      clear hK ho
      go_simp
      exact HK.out _ _ ⟨_, _, _, _, _, _, _, _, _, _, _, _, _, _, _, _, _, _, _, _, _, _, _, _, _, _, _, _, _, _, _, _, _, _, _, _, _, _, sx17, _, _, _, rfl, rfl, ⟨hbe, H.d2, H.d4, H.d6, H.d7, H.d8, H.d9, (fun h => by cases h), H.d11, H.d12, H.d13, H.d14, H.d15, (fun h => by cases h), (fun h => by cases h), (fun h => by cases h), (fun h => by cases h), H.t5, H.t6, (fun _ => rfl), H.h1, H.h2, H.h3, H.h4, H.h5, H.h6, H.h7, H.h8, H.h9, (fun h => by cases h), (fun h => by cases h), (fun h => by cases h), (fun h => by cases h), (fun h => by cases h), H.h15, H.h16, (fun h => by cases h), (fun h => by cases h), (fun h => by cases h), H.h20⟩⟩
    · have ho := hoj
      simp only [List.getElem?_toArray, List.getElem?_cons_succ, List.getElem?_cons_zero, Option.some.injEq] at hoj
      subst hoj
      obtain rfl : sb1 = false := hun
      clear hall
      obtain rfl : sb2 = false := Bool.eq_false_iff.2 fun h => Bool.false_ne_true (H.d2 h)
      obtain rfl : sb8 = false := Bool.eq_false_iff.2 fun h => Bool.false_ne_true (H.d8 h).1
      obtain rfl : sb9 = false := Bool.eq_false_iff.2 fun h => Bool.false_ne_true (H.d9 h)
      obtain rfl : sb10 = false := Bool.eq_false_iff.2 fun h => Bool.false_ne_true (H.d10 h).2.2
      obtain rfl : sb11 = false := Bool.eq_false_iff.2 fun h => Bool.false_ne_true (H.d11 h)
      obtain rfl : sb12 = false := Bool.eq_false_iff.2 fun h => Bool.false_ne_true (H.d12 h)
      obtain rfl : sb13 = false := Bool.eq_false_iff.2 fun h => Bool.false_ne_true (H.d13 h)
      obtain rfl : sb14 = false := Bool.eq_false_iff.2 fun h => Bool.false_ne_true (H.d14 h)
      obtain rfl : sb15 = false := Bool.eq_false_iff.2 fun h => Bool.false_ne_true (H.d15 h)
      obtain rfl : sb17 = false := Bool.eq_false_iff.2 fun h => Bool.false_ne_true (H.d17 h).2.1
      obtain rfl : sb18 = false := Bool.eq_false_iff.2 fun h => Bool.false_ne_true (H.d18 h).2.1
      obtain rfl : sb19 = false := Bool.eq_false_iff.2 fun h => Bool.false_ne_true (H.d19 h).2.1
      obtain rfl : sb20 = false := Bool.eq_false_iff.2 fun h => Bool.false_ne_true (H.d20 h).2.1
      have hbe := H.be
      have hx_t5 := H.t5
      have hx_t6 := H.t6
      refine wpOp_step ho (fun K' hK => ?_)
      have HK := Lib.hid hK
      clear hK ho
      go_simp
      exact HK.out _ _ ⟨_, _, _, _, _, _, _, _, _, _, _, _, _, _, _, _, _, _, _, _, _, _, _, _, _, _, _, _, _, _, _, _, _, _, _, _, _, _, sx17, _, _, _, rfl, rfl, ⟨hbe, (fun h => by cases h), H.d4, H.d6, H.d7, H.d8, H.d9, H.d10, H.d11, H.d12, H.d13, H.d14, H.d15, (fun h => by cases h), (fun h => by cases h), (fun h => by cases h), (fun h => by cases h), H.t5, H.t6, H.h0, (fun _ => rfl), H.h2, H.h3, H.h4, H.h5, H.h6, H.h7, H.h8, (fun h => by cases h), (fun h => by cases h), (fun h => by cases h), (fun h => by cases h), (fun h => by cases h), (fun h => by cases h), H.h15, H.h16, (fun h => by cases h), (fun h => by cases h), (fun h => by cases h), H.h20⟩⟩
    · have ho := hoj
      simp only [List.getElem?_toArray, List.getElem?_cons_succ, List.getElem?_cons_zero, Option.some.injEq] at hoj
      subst hoj
      obtain rfl : sb2 = false := hun
      obtain rfl : sb1 = true := hall ⟨1, .data⟩ (by simp) (by kernel_rfl)
      clear hall
      obtain rfl : sb8 = false := Bool.eq_false_iff.2 fun h => Bool.false_ne_true (H.d8 h).1
      obtain rfl : sb9 = false := Bool.eq_false_iff.2 fun h => Bool.false_ne_true (H.d9 h)
      obtain rfl : sb10 = false := Bool.eq_false_iff.2 fun h => Bool.false_ne_true (H.d10 h).2.2
      obtain rfl : sb11 = false := Bool.eq_false_iff.2 fun h => Bool.false_ne_true (H.d11 h)
      obtain rfl : sb12 = false := Bool.eq_false_iff.2 fun h => Bool.false_ne_true (H.d12 h)
      obtain rfl : sb13 = false := Bool.eq_false_iff.2 fun h => Bool.false_ne_true (H.d13 h)
      obtain rfl : sb14 = false := Bool.eq_false_iff.2 fun h => Bool.false_ne_true (H.d14 h)
      obtain rfl : sb15 = false := Bool.eq_false_iff.2 fun h => Bool.false_ne_true (H.d15 h)
      obtain rfl : sb17 = false := Bool.eq_false_iff.2 fun h => Bool.false_ne_true (H.d17 h).2.2.1
      obtain rfl : sb18 = false := Bool.eq_false_iff.2 fun h => Bool.false_ne_true (H.d18 h).2.2.1
      obtain rfl : sb19 = false := Bool.eq_false_iff.2 fun h => Bool.false_ne_true (H.d19 h).2.2.1
      obtain rfl : sb20 = false := Bool.eq_false_iff.2 fun h => Bool.false_ne_true (H.d20 h).2.2.1
      have hbe := H.be
      have hx_t5 := H.t5
      have hx_t6 := H.t6
      obtain rfl := H.h1 rfl
      obtain ⟨q0, q1, q2, q3, q4⟩ := sp5 ((hbe.block _ (lt_of_block FX.out)).trans FX.out)
      refine wpOp_step ho (fun K' hK => ?_)
      have HK := Lib.hid hK
      clear hK ho
      go_simp
      exact HK.out _ _ ⟨_, _, _, _, _, _, _, _, _, _, _, _, _, _, _, _, _, _, _, _, _, _, _, _, _, _, _, _, _, _, _, _, _, _, _, _, _, _, sx17, _, _, _, rfl, rfl, ⟨hbe, (fun _ => rfl), H.d4, H.d6, H.d7, (fun h => by cases h), H.d9, H.d10, H.d11, H.d12, H.d13, H.d14, H.d15, (fun h => by cases h), (fun h => by cases h), (fun h => by cases h), (fun h => by cases h), H.t5, H.t6, H.h0, H.h1, (fun _ => rfl), H.h3, H.h4, H.h5, H.h6, H.h7, H.h8, (fun h => by cases h), (fun h => by cases h), (fun h => by cases h), (fun h => by cases h), (fun h => by cases h), (fun h => by cases h), H.h15, H.h16, (fun h => by cases h), (fun h => by cases h), (fun h => by cases h), H.h20⟩⟩
    · have ho := hoj
      simp only [List.getElem?_toArray, List.getElem?_cons_succ, List.getElem?_cons_zero, Option.some.injEq] at hoj
      subst hoj
      obtain rfl : sb3 = false := hun
      clear hall
      obtain rfl : sb4 = false := Bool.eq_false_iff.2 fun h => Bool.false_ne_true (H.d4 h)
      obtain rfl : sb7 = false := Bool.eq_false_iff.2 fun h => Bool.false_ne_true (H.d7 h).1
      obtain rfl : sb8 = false := Bool.eq_false_iff.2 fun h => Bool.false_ne_true (H.d8 h).2
      obtain rfl : sb9 = false := Bool.eq_false_iff.2 fun h => Bool.false_ne_true (H.d9 h)
      obtain rfl : sb10 = false := Bool.eq_false_iff.2 fun h => Bool.false_ne_true (H.d10 h).2.2
      obtain rfl : sb11 = false := Bool.eq_false_iff.2 fun h => Bool.false_ne_true (H.d11 h)
      obtain rfl : sb12 = false := Bool.eq_false_iff.2 fun h => Bool.false_ne_true (H.d12 h)
      obtain rfl : sb13 = false := Bool.eq_false_iff.2 fun h => Bool.false_ne_true (H.d13 h)
      obtain rfl : sb14 = false := Bool.eq_false_iff.2 fun h => Bool.false_ne_true (H.d14 h)
      obtain rfl : sb15 = false := Bool.eq_false_iff.2 fun h => Bool.false_ne_true (H.d15 h)
      obtain rfl : sb17 = false := Bool.eq_false_iff.2 fun h => Bool.false_ne_true (H.d17 h).2.2.2.1
      obtain rfl : sb18 = false := Bool.eq_false_iff.2 fun h => Bool.false_ne_true (H.d18 h).2.2.2.1
      obtain rfl : sb19 = false := Bool.eq_false_iff.2 fun h => Bool.false_ne_true (H.d19 h).2.2.2.1
      obtain rfl : sb20 = false := Bool.eq_false_iff.2 fun h => Bool.false_ne_true (H.d20 h).2.2.2.1
      have hbe := H.be
      have hx_t5 := H.t5
      have hx_t6 := H.t6
      refine wpOp_step ho (fun K' hK => ?_)
      have HK := Lib.hid hK
      clear hK ho
      go_simp
      exact HK.out _ _ ⟨_, _, _, _, _, _, _, _, _, _, _, _, _, _, _, _, _, _, _, _, _, _, _, _, _, _, _, _, _, _, _, _, _, _, _, _, _, _, sx17, _, _, _, rfl, rfl, ⟨hbe, H.d2, (fun h => by cases h), H.d6, H.d7, H.d8, H.d9, H.d10, H.d11, H.d12, H.d13, H.d14, H.d15, (fun h => by cases h), (fun h => by cases h), (fun h => by cases h), (fun h => by cases h), H.t5, H.t6, H.h0, H.h1, H.h2, (fun _ => rfl), H.h4, H.h5, H.h6, H.h7, H.h8, (fun h => by cases h), (fun h => by cases h), (fun h => by cases h), (fun h => by cases h), (fun h => by cases h), (fun h => by cases h), H.h15, H.h16, (fun h => by cases h), (fun h => by cases h), (fun h => by cases h), H.h20⟩⟩
    · have ho := hoj
      simp only [List.getElem?_toArray, List.getElem?_cons_succ, List.getElem?_cons_zero, Option.some.injEq] at hoj
      subst hoj
      obtain rfl : sb4 = false := hun
      obtain rfl : sb3 = true := hall ⟨3, .data⟩ (by simp) (by kernel_rfl)
      clear hall
      obtain rfl : sb7 = false := Bool.eq_false_iff.2 fun h => Bool.false_ne_true (H.d7 h).1
      obtain rfl : sb8 = false := Bool.eq_false_iff.2 fun h => Bool.false_ne_true (H.d8 h).2
      obtain rfl : sb9 = false := Bool.eq_false_iff.2 fun h => Bool.false_ne_true (H.d9 h)
      obtain rfl : sb10 = false := Bool.eq_false_iff.2 fun h => Bool.false_ne_true (H.d10 h).2.2
      obtain rfl : sb11 = false := Bool.eq_false_iff.2 fun h => Bool.false_ne_true (H.d11 h)
      obtain rfl : sb12 = false := Bool.eq_false_iff.2 fun h => Bool.false_ne_true (H.d12 h)
      obtain rfl : sb13 = false := Bool.eq_false_iff.2 fun h => Bool.false_ne_true (H.d13 h)
      obtain rfl : sb14 = false := Bool.eq_false_iff.2 fun h => Bool.false_ne_true (H.d14 h)
      obtain rfl : sb15 = false := Bool.eq_false_iff.2 fun h => Bool.false_ne_true (H.d15 h)
      obtain rfl : sb17 = false := Bool.eq_false_iff.2 fun h => Bool.false_ne_true (H.d17 h).2.2.2.2.1
      obtain rfl : sb18 = false := Bool.eq_false_iff.2 fun h => Bool.false_ne_true (H.d18 h).2.2.2.2.1
      obtain rfl : sb19 = false := Bool.eq_false_iff.2 fun h => Bool.false_ne_true (H.d19 h).2.2.2.2.1
      obtain rfl : sb20 = false := Bool.eq_false_iff.2 fun h => Bool.false_ne_true (H.d20 h).2.2.2.2.1
      have hbe := H.be
      have hx_t5 := H.t5
      have hx_t6 := H.t6
      obtain rfl := H.h3 rfl
      obtain ⟨q0, q1, q2, q3, q4⟩ := sp5 ((hbe.block _ (lt_of_block FX.out)).trans FX.out)
      refine wpOp_step ho (fun K' hK => ?_)
      have HK := Lib.hid hK
      clear hK ho
      go_simp
      exact HK.out _ _ ⟨_, _, _, _, _, _, _, _, _, _, _, _, _, _, _, _, _, _, _, _, _, _, _, _, _, _, _, _, _, _, _, _, _, _, _, _, _, _, sx17, _, _, _, rfl, rfl, ⟨hbe, H.d2, (fun _ => rfl), H.d6, (fun h => by cases h), H.d8, H.d9, H.d10, H.d11, H.d12, H.d13, H.d14, H.d15, (fun h => by cases h), (fun h => by cases h), (fun h => by cases h), (fun h => by cases h), H.t5, H.t6, H.h0, H.h1, H.h2, H.h3, (fun _ => rfl), H.h5, H.h6, H.h7, H.h8, (fun h => by cases h), (fun h => by cases h), (fun h => by cases h), (fun h => by cases h), (fun h => by cases h), (fun h => by cases h), H.h15, H.h16, (fun h => by cases h), (fun h => by cases h), (fun h => by cases h), H.h20⟩⟩
    · have ho := hoj
      simp only [List.getElem?_toArray, List.getElem?_cons_succ, List.getElem?_cons_zero, Option.some.injEq] at hoj
      subst hoj
      obtain rfl : sb5 = false := hun
      clear hall
      obtain rfl : sb6 = false := Bool.eq_false_iff.2 fun h => Bool.false_ne_true (H.d6 h)
      obtain rfl : sb7 = false := Bool.eq_false_iff.2 fun h => Bool.false_ne_true (H.d7 h).2
      obtain rfl : sb8 = false := Bool.eq_false_iff.2 fun h => Bool.false_ne_true (H.d8 h).2
      obtain rfl : sb9 = false := Bool.eq_false_iff.2 fun h => Bool.false_ne_true (H.d9 h)
      obtain rfl : sb10 = false := Bool.eq_false_iff.2 fun h => Bool.false_ne_true (H.d10 h).2.1
      obtain rfl : sb11 = false := Bool.eq_false_iff.2 fun h => Bool.false_ne_true (H.d11 h)
      obtain rfl : sb12 = false := Bool.eq_false_iff.2 fun h => Bool.false_ne_true (H.d12 h)
      obtain rfl : sb13 = false := Bool.eq_false_iff.2 fun h => Bool.false_ne_true (H.d13 h)
      obtain rfl : sb14 = false := Bool.eq_false_iff.2 fun h => Bool.false_ne_true (H.d14 h)
      obtain rfl : sb15 = false := Bool.eq_false_iff.2 fun h => Bool.false_ne_true (H.d15 h)
      obtain rfl : sb17 = false := Bool.eq_false_iff.2 fun h => Bool.false_ne_true (H.d17 h).2.2.2.2.2.1
      obtain rfl : sb18 = false := Bool.eq_false_iff.2 fun h => Bool.false_ne_true (H.d18 h).2.2.2.2.2.1
      obtain rfl : sb19 = false := Bool.eq_false_iff.2 fun h => Bool.false_ne_true (H.d19 h).2.2.2.2.2.1
      obtain rfl : sb20 = false := Bool.eq_false_iff.2 fun h => Bool.false_ne_true (H.d20 h).2.2.2.2.2.1
      have hbe := H.be
      have hx_t5 := H.t5
      have hx_t6 := H.t6
      refine wpOp_step ho (fun K' hK => ?_)
      have HK := Lib.hid hK
      clear hK ho
      go_simp
      exact HK.out _ _ ⟨_, _, _, _, _, _, _, _, _, _, _, _, _, _, _, _, _, _, _, _, _, _, _, _, _, _, _, _, _, _, _, _, _, _, _, _, _, _, sx17, _, _, _, rfl, rfl, ⟨hbe, H.d2, H.d4, (fun h => by cases h), H.d7, H.d8, H.d9, H.d10, H.d11, H.d12, H.d13, H.d14, H.d15, (fun h => by cases h), (fun h => by cases h), (fun h => by cases h), (fun h => by cases h), H.t5, H.t6, H.h0, H.h1, H.h2, H.h3, H.h4, (fun _ => rfl), H.h6, H.h7, H.h8, (fun h => by cases h), (fun h => by cases h), (fun h => by cases h), (fun h => by cases h), (fun h => by cases h), (fun h => by cases h), H.h15, H.h16, (fun h => by cases h), (fun h => by cases h), (fun h => by cases h), H.h20⟩⟩
    · have ho := hoj
      simp only [List.getElem?_toArray, List.getElem?_cons_succ, List.getElem?_cons_zero, Option.some.injEq] at hoj
      subst hoj
      obtain rfl : sb6 = false := hun
      obtain rfl : sb5 = true := hall ⟨5, .data⟩ (by simp) (by kernel_rfl)
      clear hall
      obtain rfl : sb7 = false := Bool.eq_false_iff.2 fun h => Bool.false_ne_true (H.d7 h).2
      obtain rfl : sb8 = false := Bool.eq_false_iff.2 fun h => Bool.false_ne_true (H.d8 h).2
      obtain rfl : sb9 = false := Bool.eq_false_iff.2 fun h => Bool.false_ne_true (H.d9 h)
      obtain rfl : sb10 = false := Bool.eq_false_iff.2 fun h => Bool.false_ne_true (H.d10 h).2.1
      obtain rfl : sb11 = false := Bool.eq_false_iff.2 fun h => Bool.false_ne_true (H.d11 h)
      obtain rfl : sb12 = false := Bool.eq_false_iff.2 fun h => Bool.false_ne_true (H.d12 h)
      obtain rfl : sb13 = false := Bool.eq_false_iff.2 fun h => Bool.false_ne_true (H.d13 h)
      obtain rfl : sb14 = false := Bool.eq_false_iff.2 fun h => Bool.false_ne_true (H.d14 h)
      obtain rfl : sb15 = false := Bool.eq_false_iff.2 fun h => Bool.false_ne_true (H.d15 h)
      obtain rfl : sb17 = false := Bool.eq_false_iff.2 fun h => Bool.false_ne_true (H.d17 h).2.2.2.2.2.2.1
      obtain rfl : sb18 = false := Bool.eq_false_iff.2 fun h => Bool.false_ne_true (H.d18 h).2.2.2.2.2.2.1
      obtain rfl : sb19 = false := Bool.eq_false_iff.2 fun h => Bool.false_ne_true (H.d19 h).2.2.2.2.2.2.1
      obtain rfl : sb20 = false := Bool.eq_false_iff.2 fun h => Bool.false_ne_true (H.d20 h).2.2.2.2.2.2.1
      have hbe := H.be
      have hx_t5 := H.t5
      have hx_t6 := H.t6
      obtain rfl := H.h5 rfl
      refine wpOp_step ho (fun K' hK => ?_)
      have HK := Lib.hid hK
      clear hK ho
      go_wp2_with (go_at_call 11; refine (HPA.out _).mono ?_; rintro e w' ⟨rfl, rfl⟩)
      exact HK.out _ _ ⟨_, _, _, _, _, _, _, _, _, _, _, _, _, _, _, _, _, _, _, _, _, _, _, _, _, _, _, _, _, _, _, _, _, _, _, _, _, _, sx17, _, _, _, rfl, rfl, ⟨hbe, H.d2, H.d4, (fun _ => rfl), (fun h => by cases h), H.d8, H.d9, (fun h => by cases h), H.d11, H.d12, H.d13, H.d14, H.d15, (fun h => by cases h), (fun h => by cases h), (fun h => by cases h), (fun h => by cases h), H.t5, H.t6, H.h0, H.h1, H.h2, H.h3, H.h4, H.h5, (fun _ => rfl), H.h7, H.h8, (fun h => by cases h), (fun h => by cases h), (fun h => by cases h), (fun h => by cases h), (fun h => by cases h), (fun h => by cases h), H.h15, H.h16, (fun h => by cases h), (fun h => by cases h), (fun h => by cases h), H.h20⟩⟩
    · have ho := hoj
      simp only [List.getElem?_toArray, List.getElem?_cons_succ, List.getElem?_cons_zero, Option.some.injEq] at hoj
      subst hoj
      obtain rfl : sb7 = false := hun
      obtain rfl : sb4 = true := hall ⟨4, .data⟩ (by simp) (by kernel_rfl)
      obtain rfl : sb6 = true := hall ⟨6, .data⟩ (by simp) (by kernel_rfl)
      obtain rfl : sb3 = true := (H.d4 rfl)
      obtain rfl : sb5 = true := (H.d6 rfl)
      clear hall
      obtain rfl : sb8 = false := Bool.eq_false_iff.2 fun h => Bool.false_ne_true (H.d8 h).2
      obtain rfl : sb9 = false := Bool.eq_false_iff.2 fun h => Bool.false_ne_true (H.d9 h)
      obtain rfl : sb10 = false := Bool.eq_false_iff.2 fun h => Bool.false_ne_true (H.d10 h).2.2
      obtain rfl : sb11 = false := Bool.eq_false_iff.2 fun h => Bool.false_ne_true (H.d11 h)
      obtain rfl : sb12 = false := Bool.eq_false_iff.2 fun h => Bool.false_ne_true (H.d12 h)
      obtain rfl : sb13 = false := Bool.eq_false_iff.2 fun h => Bool.false_ne_true (H.d13 h)
      obtain rfl : sb14 = false := Bool.eq_false_iff.2 fun h => Bool.false_ne_true (H.d14 h)
      obtain rfl : sb15 = false := Bool.eq_false_iff.2 fun h => Bool.false_ne_true (H.d15 h)
      obtain rfl : sb17 = false := Bool.eq_false_iff.2 fun h => Bool.false_ne_true (H.d17 h).2.2.2.2.2.2.2.1
      obtain rfl : sb18 = false := Bool.eq_false_iff.2 fun h => Bool.false_ne_true (H.d18 h).2.2.2.2.2.2.2.1
      obtain rfl : sb19 = false := Bool.eq_false_iff.2 fun h => Bool.false_ne_true (H.d19 h).2.2.2.2.2.2.2.1
      obtain rfl : sb20 = false := Bool.eq_false_iff.2 fun h => Bool.false_ne_true (H.d20 h).2.2.2.2.2.2.2.1
      have hbe := H.be
      have hx_t5 := H.t5
      have hx_t6 := H.t6
      obtain rfl := H.h3 rfl
      obtain rfl := H.h4 rfl
      obtain rfl := H.h5 rfl
      obtain rfl := H.h6 rfl
      have hwa := HWA.out
      refine wpOp_step ho (fun K' hK => ?_)
      have HK := Lib.hid hK
      clear hK ho
      go_simp
      exact HK.out _ _ ⟨_, _, _, _, _, _, _, _, _, _, _, _, _, _, _, _, _, _, _, _, _, _, _, _, _, _, _, _, _, _, _, _, _, _, _, _, _, _, sx17, _, _, _, rfl, rfl, ⟨hbe, H.d2, H.d4, H.d6, (fun _ => ⟨rfl, rfl⟩), (fun h => by cases h), H.d9, H.d10, H.d11, H.d12, H.d13, H.d14, H.d15, (fun h => by cases h), (fun h => by cases h), (fun h => by cases h), (fun h => by cases h), H.t5, H.t6, H.h0, H.h1, H.h2, H.h3, H.h4, H.h5, H.h6, (fun _ => rfl), H.h8, (fun h => by cases h), (fun h => by cases h), (fun h => by cases h), (fun h => by cases h), (fun h => by cases h), (fun h => by cases h), H.h15, H.h16, (fun h => by cases h), (fun h => by cases h), (fun h => by cases h), H.h20⟩⟩
    · have ho := hoj
      simp only [List.getElem?_toArray, List.getElem?_cons_succ, List.getElem?_cons_zero, Option.some.injEq] at hoj
      subst hoj
      obtain rfl : sb8 = false := hun
      obtain rfl : sb2 = true := hall ⟨2, .data⟩ (by simp) (by kernel_rfl)
      obtain rfl : sb7 = true := hall ⟨7, .data⟩ (by simp) (by kernel_rfl)
      obtain rfl : sb1 = true := (H.d2 rfl)
      obtain rfl : sb4 = true := (H.d7 rfl).1
      obtain rfl : sb6 = true := (H.d7 rfl).2
      obtain rfl : sb3 = true := (H.d4 rfl)
      obtain rfl : sb5 = true := (H.d6 rfl)
      clear hall
      obtain rfl : sb9 = false := Bool.eq_false_iff.2 fun h => Bool.false_ne_true (H.d9 h)
      obtain rfl : sb10 = false := Bool.eq_false_iff.2 fun h => Bool.false_ne_true (H.d10 h).2.2
      obtain rfl : sb11 = false := Bool.eq_false_iff.2 fun h => Bool.false_ne_true (H.d11 h)
      obtain rfl : sb12 = false := Bool.eq_false_iff.2 fun h => Bool.false_ne_true (H.d12 h)
      obtain rfl : sb13 = false := Bool.eq_false_iff.2 fun h => Bool.false_ne_true (H.d13 h)
      obtain rfl : sb14 = false := Bool.eq_false_iff.2 fun h => Bool.false_ne_true (H.d14 h)
      obtain rfl : sb15 = false := Bool.eq_false_iff.2 fun h => Bool.false_ne_true (H.d15 h)
      obtain rfl : sb17 = false := Bool.eq_false_iff.2 fun h => Bool.false_ne_true (H.d17 h).2.2.2.2.2.2.2.2.1
      obtain rfl : sb18 = false := Bool.eq_false_iff.2 fun h => Bool.false_ne_true (H.d18 h).2.2.2.2.2.2.2.2.1
      obtain rfl : sb19 = false := Bool.eq_false_iff.2 fun h => Bool.false_ne_true (H.d19 h).2.2.2.2.2.2.2.2.1
      obtain rfl : sb20 = false := Bool.eq_false_iff.2 fun h => Bool.false_ne_true (H.d20 h).2.2.2.2.2.2.2.2.1
      have hbe := H.be
      have hx_t5 := H.t5
      have hx_t6 := H.t6
      obtain rfl := H.h1 rfl
      obtain rfl := H.h2 rfl
      obtain rfl := H.h3 rfl
      obtain rfl := H.h4 rfl
      obtain rfl := H.h5 rfl
      obtain rfl := H.h6 rfl
      obtain rfl := H.h7 rfl
      refine wpOp_step ho (fun K' hK => ?_)
      have HK := Lib.hid hK
      clear hK ho
      go_simp
      exact HK.out _ _ ⟨_, _, _, _, _, _, _, _, _, _, _, _, _, _, _, _, _, _, _, _, _, _, _, _, _, _, _, _, _, _, _, _, _, _, _, _, _, _, sx17, _, _, _, rfl, rfl, ⟨hbe, H.d2, H.d4, H.d6, H.d7, (fun _ => ⟨rfl, rfl⟩), (fun h => by cases h), H.d10, H.d11, H.d12, H.d13, H.d14, H.d15, (fun h => by cases h), (fun h => by cases h), (fun h => by cases h), (fun h => by cases h), H.t5, H.t6, H.h0, H.h1, H.h2, H.h3, H.h4, H.h5, H.h6, H.h7, (fun _ => rfl), (fun h => by cases h), (fun h => by cases h), (fun h => by cases h), (fun h => by cases h), (fun h => by cases h), (fun h => by cases h), H.h15, H.h16, (fun h => by cases h), (fun h => by cases h), (fun h => by cases h), H.h20⟩⟩
    · have ho := hoj
      simp only [List.getElem?_toArray, List.getElem?_cons_succ, List.getElem?_cons_zero, Option.some.injEq] at hoj
      subst hoj
      obtain rfl : sb9 = false := hun
      obtain rfl : sb8 = true := hall ⟨8, .data⟩ (by simp) (by kernel_rfl)
      obtain rfl : sb2 = true := (H.d8 rfl).1
      obtain rfl : sb7 = true := (H.d8 rfl).2
      obtain rfl : sb1 = true := (H.d2 rfl)
      obtain rfl : sb4 = true := (H.d7 rfl).1
      obtain rfl : sb6 = true := (H.d7 rfl).2
      obtain rfl : sb3 = true := (H.d4 rfl)
      obtain rfl : sb5 = true := (H.d6 rfl)
      clear hall
      obtain rfl : sb10 = false := Bool.eq_false_iff.2 fun h => Bool.false_ne_true (H.d10 h).2.2
      obtain rfl : sb11 = false := Bool.eq_false_iff.2 fun h => Bool.false_ne_true (H.d11 h)
      obtain rfl : sb12 = false := Bool.eq_false_iff.2 fun h => Bool.false_ne_true (H.d12 h)
      obtain rfl : sb13 = false := Bool.eq_false_iff.2 fun h => Bool.false_ne_true (H.d13 h)
      obtain rfl : sb14 = false := Bool.eq_false_iff.2 fun h => Bool.false_ne_true (H.d14 h)
      obtain rfl : sb15 = false := Bool.eq_false_iff.2 fun h => Bool.false_ne_true (H.d15 h)
      obtain rfl : sb17 = false := Bool.eq_false_iff.2 fun h => Bool.false_ne_true (H.d17 h).2.2.2.2.2.2.2.2.2.1
      obtain rfl : sb18 = false := Bool.eq_false_iff.2 fun h => Bool.false_ne_true (H.d18 h).2.2.2.2.2.2.2.2.2.1
      obtain rfl : sb19 = false := Bool.eq_false_iff.2 fun h => Bool.false_ne_true (H.d19 h).2.2.2.2.2.2.2.2.2.1
      obtain rfl : sb20 = false := Bool.eq_false_iff.2 fun h => Bool.false_ne_true (H.d20 h).2.2.2.2.2.2.2.2.2.1
      have hbe := H.be
      have hx_t5 := H.t5
      have hx_t6 := H.t6
      obtain rfl := H.h1 rfl
      obtain rfl := H.h2 rfl
      obtain rfl := H.h3 rfl
      obtain rfl := H.h4 rfl
      obtain rfl := H.h5 rfl
      obtain rfl := H.h6 rfl
      obtain rfl := H.h7 rfl
      obtain rfl := H.h8 rfl
      have BA := Lib.hid ((Below.refl w.heap.size w).alloc (Nat.le_refl _) (.cells #[.int .i64 s.next, .int .i64 (s.next + a)] 63))
      have NA := Lib.hid (rsl_ownT (own_oneR (w := w) (base := 0) s.next (s.next + a) (Nat.zero_le _)))
      refine wpOp_step ho (fun K' hK => ?_)
      have HK := Lib.hid hK
      clear hK ho
      go_simp
      exact HK.out _ _ ⟨_, _, _, _, _, _, _, _, _, _, _, _, _, _, _, _, _, _, _, _, _, _, _, _, _, _, _, _, _, _, _, _, _, _, _, _, _, _, sx17, _, _, _, rfl, rfl, ⟨hbe.trans (BA.out.mono hbe.size), H.d2, H.d4, H.d6, H.d7, H.d8, (fun _ => rfl), (fun h => by cases h), H.d11, H.d12, H.d13, H.d14, H.d15, (fun h => by cases h), (fun h => by cases h), (fun h => by cases h), (fun h => by cases h), hx_t5, hx_t6, H.h0, H.h1, H.h2, H.h3, H.h4, H.h5, H.h6, H.h7, H.h8, (fun _ _ => NA.out), (fun h => by cases h), (fun h => by cases h), (fun h => by cases h), (fun h => by cases h), (fun h => by cases h), H.h15, (fun e f => let ⟨k, e1, e2, e3⟩ := (H.h16 e f); ⟨k, e1, e2, (BA.out.block _ (lt_of_block e3)).trans e3⟩), (fun h => by cases h), (fun h => by cases h), (fun h => by cases h), H.h20⟩⟩
    · have ho := hoj
      simp only [List.getElem?_toArray, List.getElem?_cons_succ, List.getElem?_cons_zero, Option.some.injEq] at hoj
      subst hoj
      obtain rfl : sb10 = false := hun
      obtain rfl : sb0 = true := hall ⟨0, .data⟩ (by simp) (by kernel_rfl)
      obtain rfl : sb6 = true := hall ⟨6, .chain⟩ (by simp) (by kernel_rfl)
      obtain rfl : sb9 = true := hall ⟨9, .data⟩ (by simp) (by kernel_rfl)
      obtain rfl : sb5 = true := (H.d6 rfl)
      obtain rfl : sb8 = true := (H.d9 rfl)
      obtain rfl : sb2 = true := (H.d8 rfl).1
      obtain rfl : sb7 = true := (H.d8 rfl).2
      obtain rfl : sb1 = true := (H.d2 rfl)
      obtain rfl : sb4 = true := (H.d7 rfl).1
      obtain rfl : sb3 = true := (H.d4 rfl)
      clear hall
      obtain rfl : sb11 = false := Bool.eq_false_iff.2 fun h => Bool.false_ne_true (H.d11 h)
      obtain rfl : sb12 = false := Bool.eq_false_iff.2 fun h => Bool.false_ne_true (H.d12 h)
      obtain rfl : sb13 = false := Bool.eq_false_iff.2 fun h => Bool.false_ne_true (H.d13 h)
      obtain rfl : sb14 = false := Bool.eq_false_iff.2 fun h => Bool.false_ne_true (H.d14 h)
      obtain rfl : sb15 = false := Bool.eq_false_iff.2 fun h => Bool.false_ne_true (H.d15 h)
      obtain rfl : sb17 = false := Bool.eq_false_iff.2 fun h => Bool.false_ne_true (H.d17 h).2.2.2.2.2.2.2.2.2.2.1
      obtain rfl : sb18 = false := Bool.eq_false_iff.2 fun h => Bool.false_ne_true (H.d18 h).2.2.2.2.2.2.2.2.2.2.1
      obtain rfl : sb19 = false := Bool.eq_false_iff.2 fun h => Bool.false_ne_true (H.d19 h).2.2.2.2.2.2.2.2.2.2.1
      obtain rfl : sb20 = false := Bool.eq_false_iff.2 fun h => Bool.false_ne_true (H.d20 h).2.2.2.2.2.2.2.2.2.2.1
      have hbe := H.be
      have hx_t5 := H.t5
      have hx_t6 := H.t6
      obtain rfl := H.h0 rfl
      obtain rfl := H.h1 rfl
      obtain rfl := H.h2 rfl
      obtain rfl := H.h3 rfl
      obtain rfl := H.h4 rfl
      obtain rfl := H.h5 rfl
      obtain rfl := H.h6 rfl
      obtain rfl := H.h7 rfl
      obtain rfl := H.h8 rfl
      have P9 := H.h9 rfl rfl
      refine wpOp_step ho (fun K' hK => ?_)
      have HK := Lib.hid hK
      clear hK ho
      go_wp2_with fail
      refine (spAck_any _ _ s [(s.next, s.next + a)] w (StS.on VX.out (KpS.below hbe)).now HWF.out P9 (by simp)).mono ?_
      rintro e w1 hr
      have BC := Lib.hid hr.be
      obtain ⟨u1, v1, q1, rfl, hu1, hv1, hq1⟩ := hr.ex
      rw [HEQ.out] at hu1 hv1 hq1 ⊢
      have UC := Lib.hid (show TupA X sb16 sx16 w1 _ s' hl ll 13 from ⟨u1, v1, q1, rfl, hu1.toX hbe.size (fun hb => let ⟨k, e1, _, e3⟩ := H.h16 hb rfl; ⟨k, e1, lt_of_block e3⟩), hv1.toX hbe.size (fun hb => let ⟨k, e1, _, e3⟩ := H.h16 hb rfl; ⟨k, e1, lt_of_block e3⟩), hq1.toX hbe.size (fun hb => let ⟨k, e1, _, e3⟩ := H.h16 hb rfl; ⟨k, e1, lt_of_block e3⟩)⟩)
      clear hr hu1 hv1 hq1
      go_wp2_with fail
      exact HK.out _ _ ⟨_, _, _, _, _, _, _, _, _, _, _, _, _, _, _, _, _, _, _, _, _, _, _, _, _, _, _, _, _, _, _, _, _, _, _, _, _, _, sx17, _, _, _, rfl, rfl, ⟨hbe.trans (BC.out.mono hbe.size), H.d2, H.d4, H.d6, H.d7, H.d8, H.d9, (fun _ => ⟨rfl, rfl, rfl⟩), (fun h => by cases h), H.d12, H.d13, H.d14, H.d15, (fun h => by cases h), (fun h => by cases h), (fun h => by cases h), (fun h => by cases h), fun _ => ⟨_, _, _, rfl⟩, hx_t6, H.h0, H.h1, H.h2, H.h3, H.h4, H.h5, H.h6, H.h7, H.h8, (fun e f => ((H.h9 e f).below BC.out).more (BC.out).size), (fun _ => UC.out), (fun h => by cases h), (fun h => by cases h), (fun h => by cases h), (fun h => by cases h), H.h15, (fun e f => let ⟨k, e1, e2, e3⟩ := (H.h16 e f); ⟨k, e1, e2, (BC.out.block _ (lt_of_block e3)).trans e3⟩), (fun h => by cases h), (fun h => by cases h), (fun h => by cases h), H.h20⟩⟩
    · have ho := hoj
      simp only [List.getElem?_toArray, List.getElem?_cons_succ, List.getElem?_cons_zero, Option.some.injEq] at hoj
      subst hoj
      obtain rfl : sb11 = false := hun
      obtain rfl : sb10 = true := hall ⟨10, .data⟩ (by simp) (by kernel_rfl)
      obtain rfl : sb0 = true := (H.d10 rfl).1
      obtain rfl : sb6 = true := (H.d10 rfl).2.1
      obtain rfl : sb9 = true := (H.d10 rfl).2.2
      obtain rfl : sb5 = true := (H.d6 rfl)
      obtain rfl : sb8 = true := (H.d9 rfl)
      obtain rfl : sb2 = true := (H.d8 rfl).1
      obtain rfl : sb7 = true := (H.d8 rfl).2
      obtain rfl : sb1 = true := (H.d2 rfl)
      obtain rfl : sb4 = true := (H.d7 rfl).1
      obtain rfl : sb3 = true := (H.d4 rfl)
      clear hall
      obtain rfl : sb12 = false := Bool.eq_false_iff.2 fun h => Bool.false_ne_true (H.d12 h)
      obtain rfl : sb13 = false := Bool.eq_false_iff.2 fun h => Bool.false_ne_true (H.d13 h)
      obtain rfl : sb14 = false := Bool.eq_false_iff.2 fun h => Bool.false_ne_true (H.d14 h)
      obtain rfl : sb15 = false := Bool.eq_false_iff.2 fun h => Bool.false_ne_true (H.d15 h)
      obtain rfl : sb17 = false := Bool.eq_false_iff.2 fun h => Bool.false_ne_true (H.d17 h).2.2.2.2.2.2.2.2.2.2.2.1
      obtain rfl : sb18 = false := Bool.eq_false_iff.2 fun h => Bool.false_ne_true (H.d18 h).2.2.2.2.2.2.2.2.2.2.2.1
      obtain rfl : sb19 = false := Bool.eq_false_iff.2 fun h => Bool.false_ne_true (H.d19 h).2.2.2.2.2.2.2.2.2.2.2.1
      obtain rfl : sb20 = false := Bool.eq_false_iff.2 fun h => Bool.false_ne_true (H.d20 h).2.2.2.2.2.2.2.2.2.2.2.1
      have hbe := H.be
      have hx_t5 := H.t5
      have hx_t6 := H.t6
      obtain rfl := H.h0 rfl
      obtain rfl := H.h1 rfl
      obtain rfl := H.h2 rfl
      obtain rfl := H.h3 rfl
      obtain rfl := H.h4 rfl
      obtain rfl := H.h5 rfl
      obtain rfl := H.h6 rfl
      obtain rfl := H.h7 rfl
      obtain rfl := H.h8 rfl
      have P9 := H.h9 rfl rfl
      have P10 := H.h10 rfl
      have PT := Lib.hid P10
      have TT := Lib.hid (H.t5 rfl)
      clear P10
      refine wpOp_step ho (fun K' hK => ?_)
      have HK := Lib.hid hK
      clear hK ho
      go_simp
      exact HK.out _ _ ⟨_, _, _, _, _, _, _, _, _, _, _, _, _, _, _, _, _, _, _, _, _, _, _, _, _, _, _, _, _, _, _, _, _, _, _, _, _, _, sx17, _, _, _, rfl, rfl, ⟨hbe, H.d2, H.d4, H.d6, H.d7, H.d8, H.d9, H.d10, (fun _ => rfl), (fun h => by cases h), (fun h => by cases h), (fun h => by cases h), (fun h => by cases h), (fun h => by cases h), (fun h => by cases h), (fun h => by cases h), (fun h => by cases h), H.t5, fun _ => TT.out, H.h0, H.h1, H.h2, H.h3, H.h4, H.h5, H.h6, H.h7, H.h8, H.h9, H.h10, (fun _ => PT.out), (fun h => by cases h), (fun h => by cases h), (fun h => by cases h), H.h15, H.h16, (fun h => by cases h), (fun h => by cases h), (fun h => by cases h), H.h20⟩⟩
    · have ho := hoj
      simp only [List.getElem?_toArray, List.getElem?_cons_succ, List.getElem?_cons_zero, Option.some.injEq] at hoj
      subst hoj
      obtain rfl : sb12 = false := hun
      obtain rfl : sb11 = true := hall ⟨11, .data⟩ (by simp) (by kernel_rfl)
      obtain rfl : sb10 = true := (H.d11 rfl)
      obtain rfl : sb0 = true := (H.d10 rfl).1
      obtain rfl : sb6 = true := (H.d10 rfl).2.1
      obtain rfl : sb9 = true := (H.d10 rfl).2.2
      obtain rfl : sb5 = true := (H.d6 rfl)
      obtain rfl : sb8 = true := (H.d9 rfl)
      obtain rfl : sb2 = true := (H.d8 rfl).1
      obtain rfl : sb7 = true := (H.d8 rfl).2
      obtain rfl : sb1 = true := (H.d2 rfl)
      obtain rfl : sb4 = true := (H.d7 rfl).1
      obtain rfl : sb3 = true := (H.d4 rfl)
      clear hall
      obtain rfl : sb17 = false := Bool.eq_false_iff.2 fun h => Bool.false_ne_true (H.d17 h).2.2.2.2.2.2.2.2.2.2.2.2.1
      obtain rfl : sb18 = false := Bool.eq_false_iff.2 fun h => Bool.false_ne_true (H.d18 h).2.2.2.2.2.2.2.2.2.2.2.2.1
      obtain rfl : sb19 = false := Bool.eq_false_iff.2 fun h => Bool.false_ne_true (H.d19 h).2.2.2.2.2.2.2.2.2.2.2.2.1
      obtain rfl : sb20 = false := Bool.eq_false_iff.2 fun h => Bool.false_ne_true (H.d20 h).2.2.2.2.2.2.2.2.2.2.2.2.1
      have hbe := H.be
      have hx_t5 := H.t5
      have hx_t6 := H.t6
      obtain rfl := H.h0 rfl
      obtain rfl := H.h1 rfl
      obtain rfl := H.h2 rfl
      obtain rfl := H.h3 rfl
      obtain rfl := H.h4 rfl
      obtain rfl := H.h5 rfl
      obtain rfl := H.h6 rfl
      obtain rfl := H.h7 rfl
      obtain rfl := H.h8 rfl
      have P9 := H.h9 rfl rfl
      have P10 := H.h10 rfl
      have P11 := H.h11 rfl
      obtain ⟨u, v, q, rfl, hu, hv, hq⟩ := P11.ex
      have HU := Lib.hid hu
      clear hu hv hq
      refine wpOp_step ho (fun K' hK => ?_)
      have HK := Lib.hid hK
      clear hK ho
      go_simp
      exact HK.out _ _ ⟨_, _, _, _, _, _, _, _, _, _, _, _, _, _, _, _, _, _, _, _, _, _, _, _, _, _, _, _, _, _, _, _, _, _, _, _, _, _, sx17, _, _, _, rfl, rfl, ⟨hbe, H.d2, H.d4, H.d6, H.d7, H.d8, H.d9, H.d10, H.d11, (fun _ => rfl), H.d13, H.d14, H.d15, (fun h => by cases h), (fun h => by cases h), (fun h => by cases h), (fun h => by cases h), H.t5, H.t6, H.h0, H.h1, H.h2, H.h3, H.h4, H.h5, H.h6, H.h7, H.h8, H.h9, H.h10, H.h11, (fun _ => HU.out), H.h13, H.h14, H.h15, H.h16, (fun h => by cases h), (fun h => by cases h), (fun h => by cases h), H.h20⟩⟩
    · have ho := hoj
      simp only [List.getElem?_toArray, List.getElem?_cons_succ, List.getElem?_cons_zero, Option.some.injEq] at hoj
      subst hoj
      obtain rfl : sb13 = false := hun
      obtain rfl : sb11 = true := hall ⟨11, .data⟩ (by simp) (by kernel_rfl)
      obtain rfl : sb10 = true := (H.d11 rfl)
      obtain rfl : sb0 = true := (H.d10 rfl).1
      obtain rfl : sb6 = true := (H.d10 rfl).2.1
      obtain rfl : sb9 = true := (H.d10 rfl).2.2
      obtain rfl : sb5 = true := (H.d6 rfl)
      obtain rfl : sb8 = true := (H.d9 rfl)
      obtain rfl : sb2 = true := (H.d8 rfl).1
      obtain rfl : sb7 = true := (H.d8 rfl).2
      obtain rfl : sb1 = true := (H.d2 rfl)
      obtain rfl : sb4 = true := (H.d7 rfl).1
      obtain rfl : sb3 = true := (H.d4 rfl)
      clear hall
      obtain rfl : sb18 = false := Bool.eq_false_iff.2 fun h => Bool.false_ne_true (H.d18 h).2.2.2.2.2.2.2.2.2.2.2.2.2.1
      obtain rfl : sb19 = false := Bool.eq_false_iff.2 fun h => Bool.false_ne_true (H.d19 h).2.2.2.2.2.2.2.2.2.2.2.2.2.1
      obtain rfl : sb20 = false := Bool.eq_false_iff.2 fun h => Bool.false_ne_true (H.d20 h).2.2.2.2.2.2.2.2.2.2.2.2.2.1
      have hbe := H.be
      have hx_t5 := H.t5
      have hx_t6 := H.t6
      obtain rfl := H.h0 rfl
      obtain rfl := H.h1 rfl
      obtain rfl := H.h2 rfl
      obtain rfl := H.h3 rfl
      obtain rfl := H.h4 rfl
      obtain rfl := H.h5 rfl
      obtain rfl := H.h6 rfl
      obtain rfl := H.h7 rfl
      obtain rfl := H.h8 rfl
      have P10 := H.h10 rfl
      have P11 := H.h11 rfl
      obtain ⟨u, v, q, rfl, hu, hv, hq⟩ := P11.ex
      have HU := Lib.hid hv
      clear hu hv hq
      refine wpOp_step ho (fun K' hK => ?_)
      have HK := Lib.hid hK
      clear hK ho
      go_simp
      exact HK.out _ _ ⟨_, _, _, _, _, _, _, _, _, _, _, _, _, _, _, _, _, _, _, _, _, _, _, _, _, _, _, _, _, _, _, _, _, _, _, _, _, _, sx17, _, _, _, rfl, rfl, ⟨hbe, H.d2, H.d4, H.d6, H.d7, H.d8, H.d9, H.d10, H.d11, H.d12, (fun _ => rfl), H.d14, H.d15, H.d17, (fun h => by cases h), (fun h => by cases h), (fun h => by cases h), H.t5, H.t6, H.h0, H.h1, H.h2, H.h3, H.h4, H.h5, H.h6, H.h7, H.h8, H.h9, H.h10, H.h11, H.h12, (fun _ => HU.out), H.h14, H.h15, H.h16, H.h17, (fun h => by cases h), (fun h => by cases h), H.h20⟩⟩
    · have ho := hoj
      simp only [List.getElem?_toArray, List.getElem?_cons_succ, List.getElem?_cons_zero, Option.some.injEq] at hoj
      subst hoj
      obtain rfl : sb14 = false := hun
      obtain rfl : sb11 = true := hall ⟨11, .data⟩ (by simp) (by kernel_rfl)
      obtain rfl : sb10 = true := (H.d11 rfl)
      obtain rfl : sb0 = true := (H.d10 rfl).1
      obtain rfl : sb6 = true := (H.d10 rfl).2.1
      obtain rfl : sb9 = true := (H.d10 rfl).2.2
      obtain rfl : sb5 = true := (H.d6 rfl)
      obtain rfl : sb8 = true := (H.d9 rfl)
      obtain rfl : sb2 = true := (H.d8 rfl).1
      obtain rfl : sb7 = true := (H.d8 rfl).2
      obtain rfl : sb1 = true := (H.d2 rfl)
      obtain rfl : sb4 = true := (H.d7 rfl).1
      obtain rfl : sb3 = true := (H.d4 rfl)
      clear hall
      obtain rfl : sb19 = false := Bool.eq_false_iff.2 fun h => Bool.false_ne_true (H.d19 h).2.2.2.2.2.2.2.2.2.2.2.2.2.2.1
      obtain rfl : sb20 = false := Bool.eq_false_iff.2 fun h => Bool.false_ne_true (H.d20 h).2.2.2.2.2.2.2.2.2.2.2.2.2.2.1
      have hbe := H.be
      have hx_t5 := H.t5
      have hx_t6 := H.t6
      obtain rfl := H.h0 rfl
      obtain rfl := H.h1 rfl
      obtain rfl := H.h2 rfl
      obtain rfl := H.h3 rfl
      obtain rfl := H.h4 rfl
      obtain rfl := H.h5 rfl
      obtain rfl := H.h6 rfl
      obtain rfl := H.h7 rfl
      obtain rfl := H.h8 rfl
      have P10 := H.h10 rfl
      have P11 := H.h11 rfl
      obtain ⟨u, v, q, rfl, hu, hv, hq⟩ := P11.ex
      have HU := Lib.hid hq
      clear hu hv hq
      refine wpOp_step ho (fun K' hK => ?_)
      have HK := Lib.hid hK
      clear hK ho
      go_simp
      exact HK.out _ _ ⟨_, _, _, _, _, _, _, _, _, _, _, _, _, _, _, _, _, _, _, _, _, _, _, _, _, _, _, _, _, _, _, _, _, _, _, _, _, _, sx17, _, _, _, rfl, rfl, ⟨hbe, H.d2, H.d4, H.d6, H.d7, H.d8, H.d9, H.d10, H.d11, H.d12, H.d13, (fun _ => rfl), H.d15, H.d17, H.d18, (fun h => by cases h), (fun h => by cases h), H.t5, H.t6, H.h0, H.h1, H.h2, H.h3, H.h4, H.h5, H.h6, H.h7, H.h8, H.h9, H.h10, H.h11, H.h12, H.h13, (fun _ => HU.out), H.h15, H.h16, H.h17, H.h18, (fun h => by cases h), H.h20⟩⟩
    · have ho := hoj
      simp only [List.getElem?_toArray, List.getElem?_cons_succ, List.getElem?_cons_zero, Option.some.injEq] at hoj
      subst hoj
      obtain rfl : sb15 = false := hun
      obtain rfl : sb11 = true := hall ⟨11, .data⟩ (by simp) (by kernel_rfl)
      obtain rfl : sb10 = true := (H.d11 rfl)
      obtain rfl : sb0 = true := (H.d10 rfl).1
      obtain rfl : sb6 = true := (H.d10 rfl).2.1
      obtain rfl : sb9 = true := (H.d10 rfl).2.2
      obtain rfl : sb5 = true := (H.d6 rfl)
      obtain rfl : sb8 = true := (H.d9 rfl)
      obtain rfl : sb2 = true := (H.d8 rfl).1
      obtain rfl : sb7 = true := (H.d8 rfl).2
      obtain rfl : sb1 = true := (H.d2 rfl)
      obtain rfl : sb4 = true := (H.d7 rfl).1
      obtain rfl : sb3 = true := (H.d4 rfl)
      clear hall
      obtain rfl : sb20 = false := Bool.eq_false_iff.2 fun h => Bool.false_ne_true (H.d20 h).2.2.2.2.2.2.2.2.2.2.2.2.2.2.2.1
      have hbe := H.be
      have hx_t5 := H.t5
      have hx_t6 := H.t6
      obtain rfl := H.h0 rfl
      obtain rfl := H.h1 rfl
      obtain rfl := H.h2 rfl
      obtain rfl := H.h3 rfl
      obtain rfl := H.h4 rfl
      obtain rfl := H.h5 rfl
      obtain rfl := H.h6 rfl
      obtain rfl := H.h7 rfl
      obtain rfl := H.h8 rfl
      have P10 := H.h10 rfl
      have P11 := H.h11 rfl
      obtain ⟨u, v, q, rfl⟩ := H.t6 rfl
      refine wpOp_step ho (fun K' hK => ?_)
      have HK := Lib.hid hK
      clear hK ho
      go_simp
      exact HK.out _ _ ⟨_, _, _, _, _, _, _, _, _, _, _, _, _, _, _, _, _, _, _, _, _, _, _, _, _, _, _, _, _, _, _, _, _, _, _, _, _, _, sx17, _, _, _, rfl, rfl, ⟨hbe, H.d2, H.d4, H.d6, H.d7, H.d8, H.d9, H.d10, H.d11, H.d12, H.d13, H.d14, (fun _ => rfl), H.d17, H.d18, H.d19, (fun h => by cases h), H.t5, H.t6, H.h0, H.h1, H.h2, H.h3, H.h4, H.h5, H.h6, H.h7, H.h8, H.h9, H.h10, H.h11, H.h12, H.h13, H.h14, (fun _ => rfl), H.h16, H.h17, H.h18, H.h19, H.h20⟩⟩
    · have ho := hoj
      simp only [List.getElem?_toArray, List.getElem?_cons_succ, List.getElem?_cons_zero, Option.some.injEq] at hoj
      subst hoj
      obtain rfl : sb16 = false := hun
      clear hall
      obtain rfl : sb17 = false := Bool.eq_false_iff.2 fun h => Bool.false_ne_true (H.d17 h).2.2.2.2.2.2.2.2.2.2.2.2.2
      obtain rfl : sb18 = false := Bool.eq_false_iff.2 fun h => Bool.false_ne_true (H.d18 h).2.2.2.2.2.2.2.2.2.2.2.2.2.2.1
      obtain rfl : sb19 = false := Bool.eq_false_iff.2 fun h => Bool.false_ne_true (H.d19 h).2.2.2.2.2.2.2.2.2.2.2.2.2.2.2.1
      obtain rfl : sb20 = false := Bool.eq_false_iff.2 fun h => Bool.false_ne_true (H.d20 h).2.2.2.2.2.2.2.2.2.2.2.2.2.2.2.2.1
      have hbe := H.be
      have hx_t5 := H.t5
      have hx_t6 := H.t6
      have BA := Lib.hid ((Below.refl w.heap.size w).alloc (Nat.le_refl _) (.cells #[.int .i64 0, .slice none 0 0, .int .i64 0, .slice none 0 0, .slice none 0 0] 48))
      have NA := Lib.hid (heap_alloc_new w (.cells #[.int .i64 0, .slice none 0 0, .int .i64 0, .slice none 0 0, .slice none 0 0] 48))
      have hsz := hbe.size
      refine wpOp_step ho (fun K' hK => ?_)
      have HK := Lib.hid hK
      clear hK ho
      go_simp
      exact HK.out _ _ ⟨_, _, _, _, _, _, _, _, _, _, _, _, _, _, _, _, _, _, _, _, _, _, _, _, _, _, _, _, _, _, _, _, _, _, _, _, _, _, sx17, _, _, _, rfl, rfl, ⟨hbe.trans (BA.out.mono hbe.size), H.d2, H.d4, H.d6, H.d7, H.d8, H.d9, H.d10, H.d11, H.d12, H.d13, H.d14, H.d15, (fun h => by cases h), (fun h => by cases h), (fun h => by cases h), (fun h => by cases h), hx_t5, hx_t6, H.h0, H.h1, H.h2, H.h3, H.h4, H.h5, H.h6, H.h7, H.h8, (fun e f => ((H.h9 e f).below BA.out).more (BA.out).size), (fun e => (H.h10 e).made BA.out), (fun e => (H.h11 e).made BA.out), (fun e => StS.made (H.h12 e) BA.out), (fun e => StS.made (H.h13 e) BA.out), (fun e => StS.made (H.h14 e) BA.out), H.h15, (fun _ _ => ⟨_, rfl, hsz, NA.out⟩), (fun h => by cases h), (fun h => by cases h), (fun h => by cases h), H.h20⟩⟩
    · have ho := hoj
      simp only [List.getElem?_toArray, List.getElem?_cons_succ, List.getElem?_cons_zero, Option.some.injEq] at hoj
      subst hoj
      obtain rfl : sb17 = false := hun
      obtain rfl : sb0 = true := hall ⟨0, .phase⟩ (by simp) (by kernel_rfl)
      obtain rfl : sb1 = true := hall ⟨1, .phase⟩ (by simp) (by kernel_rfl)
      obtain rfl : sb2 = true := hall ⟨2, .phase⟩ (by simp) (by kernel_rfl)
      obtain rfl : sb3 = true := hall ⟨3, .phase⟩ (by simp) (by kernel_rfl)
      obtain rfl : sb4 = true := hall ⟨4, .phase⟩ (by simp) (by kernel_rfl)
      obtain rfl : sb5 = true := hall ⟨5, .phase⟩ (by simp) (by kernel_rfl)
      obtain rfl : sb6 = true := hall ⟨6, .phase⟩ (by simp) (by kernel_rfl)
      obtain rfl : sb7 = true := hall ⟨7, .phase⟩ (by simp) (by kernel_rfl)
      obtain rfl : sb8 = true := hall ⟨8, .phase⟩ (by simp) (by kernel_rfl)
      obtain rfl : sb9 = true := hall ⟨9, .phase⟩ (by simp) (by kernel_rfl)
      obtain rfl : sb10 = true := hall ⟨10, .chain⟩ (by simp) (by kernel_rfl)
      obtain rfl : sb11 = true := hall ⟨11, .phase⟩ (by simp) (by kernel_rfl)
      obtain rfl : sb12 = true := hall ⟨12, .data⟩ (by simp) (by kernel_rfl)
      obtain rfl : sb16 = true := hall ⟨16, .data⟩ (by simp) (by kernel_rfl)
      clear hall
      obtain rfl : sb18 = false := Bool.eq_false_iff.2 fun h => Bool.false_ne_true (H.d18 h).2.2.2.2.2.2.2.2.2.2.2.2.2.2.2
      obtain rfl : sb19 = false := Bool.eq_false_iff.2 fun h => Bool.false_ne_true (H.d19 h).2.2.2.2.2.2.2.2.2.2.2.2.2.2.2.2.1
      obtain rfl : sb20 = false := Bool.eq_false_iff.2 fun h => Bool.false_ne_true (H.d20 h).2.2.2.2.2.2.2.2.2.2.2.2.2.2.2.2.2.1
      have hbe := H.be
      have hx_t5 := H.t5
      have hx_t6 := H.t6
      obtain rfl := H.h0 rfl
      obtain rfl := H.h1 rfl
      obtain rfl := H.h2 rfl
      obtain rfl := H.h3 rfl
      obtain rfl := H.h4 rfl
      obtain rfl := H.h5 rfl
      obtain rfl := H.h6 rfl
      obtain rfl := H.h7 rfl
      obtain rfl := H.h8 rfl
      have P9 := H.h9 rfl rfl
      have P10 := H.h10 rfl
      have P11 := H.h11 rfl
      have P12 := H.h12 rfl
      have P16 := H.h16 rfl rfl
      obtain ⟨k, rfl, hk0, hk⟩ := P16
      have hu := Lib.hid P12
      obtain ⟨Na, Nh, Nk, na, nh, nk, rfl⟩ := SpdS.slices P12
      obtain ⟨n1, n2⟩ := spnew_put hk hk0 hbe hu.out
      have NV := Lib.hid n1
      have HKP := Lib.hid n2
      have BV := Lib.hid (show Below X.heap.size X _ from let ⟨_, _, _, _, _, _, _, _, _, _, _, e⟩ := n1.ex; e)
      obtain ⟨q0, q1, q2, q3, q4⟩ := sp5 hk
      have qf := fun i => bk_frz hk i
      clear hk n1 n2
      refine wpOp_step ho (fun K' hK => ?_)
      have HK := Lib.hid hK
      clear hK ho
      go_simp
      exact HK.out _ _ ⟨_, _, _, _, _, _, _, _, _, _, _, _, _, _, _, _, _, _, _, _, _, _, _, _, _, _, _, _, _, _, _, _, _, _, _, _, _, _, sx17, _, _, _, rfl, rfl, ⟨BV.out, H.d2, H.d4, H.d6, H.d7, H.d8, H.d9, H.d10, H.d11, H.d12, H.d13, H.d14, H.d15, (fun _ => ⟨rfl, rfl, rfl, rfl, rfl, rfl, rfl, rfl, rfl, rfl, rfl, rfl, rfl, rfl⟩), (fun h => by cases h), (fun h => by cases h), (fun h => by cases h), H.t5, H.t6, H.h0, H.h1, H.h2, H.h3, H.h4, H.h5, H.h6, H.h7, H.h8, (fun _ h => by cases h), (fun e => (H.h10 e).kp HKP.out), (fun e => (H.h11 e).kp HKP.out), (fun e => StS.on (H.h12 e) HKP.out), (fun e => StS.on (H.h13 e) HKP.out), (fun e => StS.on (H.h14 e) HKP.out), H.h15, (fun _ h => by cases h), (fun _ => NV.out), (fun h => by cases h), (fun h => by cases h), H.h20⟩⟩
    · have ho := hoj
      simp only [List.getElem?_toArray, List.getElem?_cons_succ, List.getElem?_cons_zero, Option.some.injEq] at hoj
      subst hoj
      obtain rfl : sb18 = false := hun
      obtain rfl : sb0 = true := hall ⟨0, .phase⟩ (by simp) (by kernel_rfl)
      obtain rfl : sb1 = true := hall ⟨1, .phase⟩ (by simp) (by kernel_rfl)
      obtain rfl : sb2 = true := hall ⟨2, .phase⟩ (by simp) (by kernel_rfl)
      obtain rfl : sb3 = true := hall ⟨3, .phase⟩ (by simp) (by kernel_rfl)
      obtain rfl : sb4 = true := hall ⟨4, .phase⟩ (by simp) (by kernel_rfl)
      obtain rfl : sb5 = true := hall ⟨5, .phase⟩ (by simp) (by kernel_rfl)
      obtain rfl : sb6 = true := hall ⟨6, .phase⟩ (by simp) (by kernel_rfl)
      obtain rfl : sb7 = true := hall ⟨7, .phase⟩ (by simp) (by kernel_rfl)
      obtain rfl : sb8 = true := hall ⟨8, .phase⟩ (by simp) (by kernel_rfl)
      obtain rfl : sb9 = true := hall ⟨9, .phase⟩ (by simp) (by kernel_rfl)
      obtain rfl : sb10 = true := hall ⟨10, .phase⟩ (by simp) (by kernel_rfl)
      obtain rfl : sb11 = true := hall ⟨11, .phase⟩ (by simp) (by kernel_rfl)
      obtain rfl : sb12 = true := hall ⟨12, .phase⟩ (by simp) (by kernel_rfl)
      obtain rfl : sb13 = true := hall ⟨13, .data⟩ (by simp) (by kernel_rfl)
      obtain rfl : sb16 = true := hall ⟨16, .phase⟩ (by simp) (by kernel_rfl)
      obtain rfl : sb17 = true := hall ⟨17, .chain⟩ (by simp) (by kernel_rfl)
      clear hall
      obtain rfl : sb19 = false := Bool.eq_false_iff.2 fun h => Bool.false_ne_true (H.d19 h).2.2.2.2.2.2.2.2.2.2.2.2.2.2.2.2.2
      obtain rfl : sb20 = false := Bool.eq_false_iff.2 fun h => Bool.false_ne_true (H.d20 h).2.2.2.2.2.2.2.2.2.2.2.2.2.2.2.2.2.2.1
      have hbe := H.be
      have hx_t5 := H.t5
      have hx_t6 := H.t6
      obtain rfl := H.h0 rfl
      obtain rfl := H.h1 rfl
      obtain rfl := H.h2 rfl
      obtain rfl := H.h3 rfl
      obtain rfl := H.h4 rfl
      obtain rfl := H.h5 rfl
      obtain rfl := H.h6 rfl
      obtain rfl := H.h7 rfl
      obtain rfl := H.h8 rfl
      have P10 := H.h10 rfl
      have P11 := H.h11 rfl
      have P12 := H.h12 rfl
      have P13 := H.h13 rfl
      have P17 := H.h17 rfl
      have HU := Lib.hid P13
      refine wpOp_step ho (fun K' hK => ?_)
      have HK := Lib.hid hK
      clear hK ho
      go_simp
      exact HK.out _ _ ⟨_, _, _, _, _, _, _, _, _, _, _, _, _, _, _, _, _, _, _, _, _, _, _, _, _, _, _, _, _, _, _, _, _, _, _, _, _, _, sx17, _, _, _, rfl, rfl, ⟨hbe, H.d2, H.d4, H.d6, H.d7, H.d8, H.d9, H.d10, H.d11, H.d12, H.d13, H.d14, H.d15, H.d17, (fun _ => ⟨rfl, rfl, rfl, rfl, rfl, rfl, rfl, rfl, rfl, rfl, rfl, rfl, rfl, rfl, rfl, rfl⟩), (fun h => by cases h), (fun h => by cases h), H.t5, H.t6, H.h0, H.h1, H.h2, H.h3, H.h4, H.h5, H.h6, H.h7, H.h8, (fun _ h => by cases h), H.h10, H.h11, H.h12, H.h13, H.h14, H.h15, (fun _ h => by cases h), H.h17, (fun _ => HU.out), (fun h => by cases h), H.h20⟩⟩
    · have ho := hoj
      simp only [List.getElem?_toArray, List.getElem?_cons_succ, List.getElem?_cons_zero, Option.some.injEq] at hoj
      subst hoj
      obtain rfl : sb19 = false := hun
      obtain rfl : sb0 = true := hall ⟨0, .phase⟩ (by simp) (by kernel_rfl)
      obtain rfl : sb1 = true := hall ⟨1, .phase⟩ (by simp) (by kernel_rfl)
      obtain rfl : sb2 = true := hall ⟨2, .phase⟩ (by simp) (by kernel_rfl)
      obtain rfl : sb3 = true := hall ⟨3, .phase⟩ (by simp) (by kernel_rfl)
      obtain rfl : sb4 = true := hall ⟨4, .phase⟩ (by simp) (by kernel_rfl)
      obtain rfl : sb5 = true := hall ⟨5, .phase⟩ (by simp) (by kernel_rfl)
      obtain rfl : sb6 = true := hall ⟨6, .phase⟩ (by simp) (by kernel_rfl)
      obtain rfl : sb7 = true := hall ⟨7, .phase⟩ (by simp) (by kernel_rfl)
      obtain rfl : sb8 = true := hall ⟨8, .phase⟩ (by simp) (by kernel_rfl)
      obtain rfl : sb9 = true := hall ⟨9, .phase⟩ (by simp) (by kernel_rfl)
      obtain rfl : sb10 = true := hall ⟨10, .phase⟩ (by simp) (by kernel_rfl)
      obtain rfl : sb11 = true := hall ⟨11, .phase⟩ (by simp) (by kernel_rfl)
      obtain rfl : sb12 = true := hall ⟨12, .phase⟩ (by simp) (by kernel_rfl)
      obtain rfl : sb13 = true := hall ⟨13, .phase⟩ (by simp) (by kernel_rfl)
      obtain rfl : sb14 = true := hall ⟨14, .data⟩ (by simp) (by kernel_rfl)
      obtain rfl : sb16 = true := hall ⟨16, .phase⟩ (by simp) (by kernel_rfl)
      obtain rfl : sb17 = true := hall ⟨17, .phase⟩ (by simp) (by kernel_rfl)
      obtain rfl : sb18 = true := hall ⟨18, .chain⟩ (by simp) (by kernel_rfl)
      clear hall
      obtain rfl : sb20 = false := Bool.eq_false_iff.2 fun h => Bool.false_ne_true (H.d20 h).2.2.2.2.2.2.2.2.2.2.2.2.2.2.2.2.2.2.2
      have hbe := H.be
      have hx_t5 := H.t5
      have hx_t6 := H.t6
      obtain rfl := H.h0 rfl
      obtain rfl := H.h1 rfl
      obtain rfl := H.h2 rfl
      obtain rfl := H.h3 rfl
      obtain rfl := H.h4 rfl
      obtain rfl := H.h5 rfl
      obtain rfl := H.h6 rfl
      obtain rfl := H.h7 rfl
      obtain rfl := H.h8 rfl
      have P10 := H.h10 rfl
      have P11 := H.h11 rfl
      have P12 := H.h12 rfl
      have P13 := H.h13 rfl
      have P14 := H.h14 rfl
      have P17 := H.h17 rfl
      have P18 := H.h18 rfl
      have HU := Lib.hid P14
      refine wpOp_step ho (fun K' hK => ?_)
      have HK := Lib.hid hK
      clear hK ho
      go_simp
      exact HK.out _ _ ⟨_, _, _, _, _, _, _, _, _, _, _, _, _, _, _, _, _, _, _, _, _, _, _, _, _, _, _, _, _, _, _, _, _, _, _, _, _, _, sx17, _, _, _, rfl, rfl, ⟨hbe, H.d2, H.d4, H.d6, H.d7, H.d8, H.d9, H.d10, H.d11, H.d12, H.d13, H.d14, H.d15, H.d17, H.d18, (fun _ => ⟨rfl, rfl, rfl, rfl, rfl, rfl, rfl, rfl, rfl, rfl, rfl, rfl, rfl, rfl, rfl, rfl, rfl, rfl⟩), (fun h => by cases h), H.t5, H.t6, H.h0, H.h1, H.h2, H.h3, H.h4, H.h5, H.h6, H.h7, H.h8, (fun _ h => by cases h), H.h10, H.h11, H.h12, H.h13, H.h14, H.h15, (fun _ h => by cases h), H.h17, H.h18, (fun _ => HU.out), H.h20⟩⟩
    · have ho := hoj
      simp only [List.getElem?_toArray, List.getElem?_cons_succ, List.getElem?_cons_zero, Option.some.injEq] at hoj
      subst hoj
      obtain rfl : sb20 = false := hun
      obtain rfl : sb0 = true := hall ⟨0, .phase⟩ (by simp) (by kernel_rfl)
      obtain rfl : sb1 = true := hall ⟨1, .phase⟩ (by simp) (by kernel_rfl)
      obtain rfl : sb2 = true := hall ⟨2, .phase⟩ (by simp) (by kernel_rfl)
      obtain rfl : sb3 = true := hall ⟨3, .phase⟩ (by simp) (by kernel_rfl)
      obtain rfl : sb4 = true := hall ⟨4, .phase⟩ (by simp) (by kernel_rfl)
      obtain rfl : sb5 = true := hall ⟨5, .phase⟩ (by simp) (by kernel_rfl)
      obtain rfl : sb6 = true := hall ⟨6, .phase⟩ (by simp) (by kernel_rfl)
      obtain rfl : sb7 = true := hall ⟨7, .phase⟩ (by simp) (by kernel_rfl)
      obtain rfl : sb8 = true := hall ⟨8, .phase⟩ (by simp) (by kernel_rfl)
      obtain rfl : sb9 = true := hall ⟨9, .phase⟩ (by simp) (by kernel_rfl)
      obtain rfl : sb10 = true := hall ⟨10, .phase⟩ (by simp) (by kernel_rfl)
      obtain rfl : sb11 = true := hall ⟨11, .phase⟩ (by simp) (by kernel_rfl)
      obtain rfl : sb12 = true := hall ⟨12, .phase⟩ (by simp) (by kernel_rfl)
      obtain rfl : sb13 = true := hall ⟨13, .phase⟩ (by simp) (by kernel_rfl)
      obtain rfl : sb14 = true := hall ⟨14, .phase⟩ (by simp) (by kernel_rfl)
      obtain rfl : sb15 = true := hall ⟨15, .data⟩ (by simp) (by kernel_rfl)
      obtain rfl : sb16 = true := hall ⟨16, .phase⟩ (by simp) (by kernel_rfl)
      obtain rfl : sb17 = true := hall ⟨17, .phase⟩ (by simp) (by kernel_rfl)
      obtain rfl : sb18 = true := hall ⟨18, .phase⟩ (by simp) (by kernel_rfl)
      obtain rfl : sb19 = true := hall ⟨19, .chain⟩ (by simp) (by kernel_rfl)
      clear hall
      have hbe := H.be
      have hx_t5 := H.t5
      have hx_t6 := H.t6
      obtain rfl := H.h0 rfl
      obtain rfl := H.h1 rfl
      obtain rfl := H.h2 rfl
      obtain rfl := H.h3 rfl
      obtain rfl := H.h4 rfl
      obtain rfl := H.h5 rfl
      obtain rfl := H.h6 rfl
      obtain rfl := H.h7 rfl
      obtain rfl := H.h8 rfl
      have P10 := H.h10 rfl
      have P11 := H.h11 rfl
      have P12 := H.h12 rfl
      have P13 := H.h13 rfl
      have P14 := H.h14 rfl
      obtain rfl := H.h15 rfl
      have P17 := H.h17 rfl
      have P18 := H.h18 rfl
      have P19 := H.h19 rfl
      refine wpOp_step ho (fun K' hK => ?_)
      have HK := Lib.hid hK
      clear hK ho
      go_simp
      exact HK.out _ _ ⟨_, _, _, _, _, _, _, _, _, _, _, _, _, _, _, _, _, _, _, _, _, _, _, _, _, _, _, _, _, _, _, _, _, _, _, _, _, _, sx17, _, _, _, rfl, rfl, ⟨hbe, H.d2, H.d4, H.d6, H.d7, H.d8, H.d9, H.d10, H.d11, H.d12, H.d13, H.d14, H.d15, H.d17, H.d18, H.d19, (fun _ => ⟨rfl, rfl, rfl, rfl, rfl, rfl, rfl, rfl, rfl, rfl, rfl, rfl, rfl, rfl, rfl, rfl, rfl, rfl, rfl, rfl⟩), H.t5, H.t6, H.h0, H.h1, H.h2, H.h3, H.h4, H.h5, H.h6, H.h7, H.h8, (fun _ h => by cases h), H.h10, H.h11, H.h12, H.h13, H.h14, H.h15, (fun _ h => by cases h), H.h17, H.h18, H.h19, (fun _ => rfl)⟩⟩
    · have ho := hoj
      simp at ho
  case hfin =>
    rintro listed a w ⟨sb0, sb1, sb2, sb3, sb4, sb5, sb6, sb7, sb8, sb9, sb10, sb11, sb12, sb13, sb14, sb15, sb16, sb17, sb18, sb19, sb20, sx0, sx1, sx2, sx3, sx4, sx5, sx6, sx7, sx8, sx9, sx10, sx11, sx12, sx13, sx14, sx15, sx16, sx17, sx18, sx19, sx20, rfl, rfl, H⟩ hr
    have hb : sb20 = true := by
      clear H
      obtain rfl : sb0 = true := by
        cases sb0
        · exact absurd hr (ready_neC (by kernel_rfl))
        · rfl
      obtain rfl : sb1 = true := by
        cases sb1
        · exact absurd hr (ready_neC (by kernel_rfl))
        · rfl
      obtain rfl : sb2 = true := by
        cases sb2
        · exact absurd hr (ready_neC (by kernel_rfl))
        · rfl
      obtain rfl : sb3 = true := by
        cases sb3
        · exact absurd hr (ready_neC (by kernel_rfl))
        · rfl
      obtain rfl : sb4 = true := by
        cases sb4
        · exact absurd hr (ready_neC (by kernel_rfl))
        · rfl
      obtain rfl : sb5 = true := by
        cases sb5
        · exact absurd hr (ready_neC (by kernel_rfl))
        · rfl
      obtain rfl : sb6 = true := by
        cases sb6
        · exact absurd hr (ready_neC (by kernel_rfl))
        · rfl
      obtain rfl : sb7 = true := by
        cases sb7
        · exact absurd hr (ready_neC (by kernel_rfl))
        · rfl
      obtain rfl : sb8 = true := by
        cases sb8
        · exact absurd hr (ready_neC (by kernel_rfl))
        · rfl
      obtain rfl : sb9 = true := by
        cases sb9
        · exact absurd hr (ready_neC (by kernel_rfl))
        · rfl
      obtain rfl : sb10 = true := by
        cases sb10
        · exact absurd hr (ready_neC (by kernel_rfl))
        · rfl
      obtain rfl : sb11 = true := by
        cases sb11
        · exact absurd hr (ready_neC (by kernel_rfl))
        · rfl
      obtain rfl : sb12 = true := by
        cases sb12
        · exact absurd hr (ready_neC (by kernel_rfl))
        · rfl
      obtain rfl : sb13 = true := by
        cases sb13
        · exact absurd hr (ready_neC (by kernel_rfl))
        · rfl
      obtain rfl : sb14 = true := by
        cases sb14
        · exact absurd hr (ready_neC (by kernel_rfl))
        · rfl
      obtain rfl : sb15 = true := by
        cases sb15
        · exact absurd hr (ready_neC (by kernel_rfl))
        · rfl
      obtain rfl : sb16 = true := by
        cases sb16
        · exact absurd hr (ready_neC (by kernel_rfl))
        · rfl
      obtain rfl : sb17 = true := by
        cases sb17
        · exact absurd hr (ready_neC (by kernel_rfl))
        · rfl
      obtain rfl : sb18 = true := by
        cases sb18
        · exact absurd hr (ready_neC (by kernel_rfl))
        · rfl
      obtain rfl : sb19 = true := by
        cases sb19
        · exact absurd hr (ready_neC (by kernel_rfl))
        · rfl
      obtain rfl : sb20 = true := by
        cases sb20
        · exact absurd hr (ready_neC (by kernel_rfl))
        · rfl
      rfl
    subst hb
    clear hr
    obtain rfl : sb0 = true := (H.d20 rfl).1
    obtain rfl : sb1 = true := (H.d20 rfl).2.1
    obtain rfl : sb2 = true := (H.d20 rfl).2.2.1
    obtain rfl : sb3 = true := (H.d20 rfl).2.2.2.1
    obtain rfl : sb4 = true := (H.d20 rfl).2.2.2.2.1
    obtain rfl : sb5 = true := (H.d20 rfl).2.2.2.2.2.1
    obtain rfl : sb6 = true := (H.d20 rfl).2.2.2.2.2.2.1
    obtain rfl : sb7 = true := (H.d20 rfl).2.2.2.2.2.2.2.1
    obtain rfl : sb8 = true := (H.d20 rfl).2.2.2.2.2.2.2.2.1
    obtain rfl : sb9 = true := (H.d20 rfl).2.2.2.2.2.2.2.2.2.1
    obtain rfl : sb10 = true := (H.d20 rfl).2.2.2.2.2.2.2.2.2.2.1
    obtain rfl : sb11 = true := (H.d20 rfl).2.2.2.2.2.2.2.2.2.2.2.1
    obtain rfl : sb12 = true := (H.d20 rfl).2.2.2.2.2.2.2.2.2.2.2.2.1
    obtain rfl : sb13 = true := (H.d20 rfl).2.2.2.2.2.2.2.2.2.2.2.2.2.1
    obtain rfl : sb14 = true := (H.d20 rfl).2.2.2.2.2.2.2.2.2.2.2.2.2.2.1
    obtain rfl : sb15 = true := (H.d20 rfl).2.2.2.2.2.2.2.2.2.2.2.2.2.2.2.1
    obtain rfl : sb16 = true := (H.d20 rfl).2.2.2.2.2.2.2.2.2.2.2.2.2.2.2.2.1
    obtain rfl : sb17 = true := (H.d20 rfl).2.2.2.2.2.2.2.2.2.2.2.2.2.2.2.2.2.1
    obtain rfl : sb18 = true := (H.d20 rfl).2.2.2.2.2.2.2.2.2.2.2.2.2.2.2.2.2.2.1
    obtain rfl : sb19 = true := (H.d20 rfl).2.2.2.2.2.2.2.2.2.2.2.2.2.2.2.2.2.2.2
    have hnw := Lib.hid (H.h17 rfl)
    have hl0 := Lib.hid (PldS.toU (H.h18 rfl))
    have hl1 := Lib.hid (PldS.toU (H.h19 rfl))
    have e2 := H.h20 rfl
    clear H
    obtain ⟨Y, hY⟩ : ∃ Y, Y = w := ⟨_, rfl⟩
    subst w
    obtain ⟨MV, Ba, Bh, Bk, da, dh, dk, rfl, hn0, hn1, hn2, hnb⟩ := hnw.out.ex
    have N7 := Lib.hid hn1
    have NV7 := Lib.hid hn2
    have NX7 := Lib.hid hn0
    have B7 := Lib.hid hnb
    clear hnw hn0 hn1 hn2 hnb
    subst e2
    have N := Lib.hid ((B7.out.block _ (lt_of_block FX.out)).trans FX.out)
    have Q := Lib.hid (StS.on VX.out (KpS.below B7.out))
    have B2 := Lib.hid (BX.out.trans (B7.out.mono BX.out.size))
    have X2 := Y
    clear X2
    obtain ⟨X2, hX2⟩ : ∃ x, x = Y := ⟨_, rfl⟩
    subst hX2
    clear FX VX BX hl0 hl1 N7 NV7 NX7 B7
    obtain ⟨q0, q1, q2, q3, q4⟩ := sp5 N.out
    go_wp2_with fail
    refine (HLP.out _ _ Q.out.now).mono ?_
    rintro e w3 ⟨b3, u3, rfl, hu3⟩
    dsimp only at hu3 ⊢
    obtain ⟨Ata, Ath, Atk, cta, cth, ctk, rfl⟩ := SpdS.slices hu3
    have C3 := (Below.refl w3.heap.size w3).alloc (Nat.le_refl _) (.cells #[.int .i64 t.next, .slice Ata t.sent.length cta, .int .i64 t.top, .slice Ath t.heard.length cth, .slice Atk t.skip.length ctk] 48)
    have Nt := Lib.hid (heap_alloc_new w3 (.cells #[.int .i64 t.next, .slice Ata t.sent.length cta, .int .i64 t.top, .slice Ath t.heard.length cth, .slice Atk t.skip.length ctk] 48))
    have E3 := b3.trans (C3.mono b3.size)
    have B3 := Lib.hid (B2.out.trans (E3.mono B2.out.size))
    have Qt := Lib.hid (show SpU X2.heap.size _ _ t from StS.on hu3 (KpS.below C3))
    clear b3 hu3 C3 E3 q0 q1 q2 q3 q4
    go_upto_region 4 with fail
    obtain ⟨Vt, hVt⟩ : ∃ v, w3.heap.size = v := ⟨_, rfl⟩
    obtain ⟨X3, hX3⟩ : ∃ x, w3.alloc (.cells #[.int .i64 t.next, .slice Ata t.sent.length cta, .int .i64 t.top, .slice Ath t.heard.length cth, .slice Atk t.skip.length ctk] 48) = x := ⟨_, rfl⟩
    rw [hVt] at Nt
    rw [hX3] at Nt Qt B3
    try rw [hX3]
    try rw [hVt]
    clear hX3 hVt
    have hw1 : IntKind.i64.wrap (t.next - 1) = s.next := by rw [HTN.out, IntKind.wrap_i64]; omega
    obtain ⟨q0, q1, q2, q3, q4⟩ := sp5 Nt.out
    have BO := (Below.refl X3.heap.size X3).alloc (Nat.le_refl _) (.cells #[.int .i64 0, .int .i64 s.next] 63)
    have RO := Lib.hid (rsl_ownT (own_oneR (w := X3) (base := 0) 0 s.next (Nat.zero_le _)))
    have Nt := Lib.hid ((BO.block _ (lt_of_block Nt.out)).trans Nt.out)
    have Qt := Lib.hid (StS.on Qt.out (KpS.below BO))
    have BX3 := Lib.hid (B3.out.trans (BO.mono B3.out.size))
    clear BO
    go_wp2_with fail
    refine (HA1.out _ _ _ (StS.now Qt.out) RO.out).mono ?_
    rintro e w4 ⟨b4, u4, l4, m4, rfl, hu4, hl4, hm4⟩
    dsimp only at hu4 hl4 hm4 ⊢
    obtain ⟨Axa, Axh, Axk, cxa, cxh, cxk, rfl⟩ := SpdS.slices hu4
    have C4 := (Below.refl w4.heap.size w4).alloc (Nat.le_refl _) (.cells #[.int .i64 sp0.next, .slice Axa sp0.sent.length cxa, .int .i64 sp0.top, .slice Axh sp0.heard.length cxh, .slice Axk sp0.skip.length cxk] 48)
    have Nx := Lib.hid (heap_alloc_new w4 (.cells #[.int .i64 sp0.next, .slice Axa sp0.sent.length cxa, .int .i64 sp0.top, .slice Axh sp0.heard.length cxh, .slice Axk sp0.skip.length cxk] 48))
    have E4 := b4.trans (C4.mono b4.size)
    have B4 := Lib.hid (BX3.out.trans (E4.mono BX3.out.size))
    have Qx := Lib.hid (show SpU 0 _ _ sp0 from StS.anti (StS.on hu4 (KpS.below C4)) (fun j hj => absurd hj (Nat.not_lt_zero j)))
    have Nt := Lib.hid ((E4.block _ (lt_of_block Nt.out)).trans Nt.out)
    have Qt := Lib.hid (StS.on Qt.out (KpS.below E4))
    clear b4 hu4 C4 E4 q0 q1 q2 q3 q4
    go_upto_region 5 with fail
    obtain ⟨Vx, hVx⟩ : ∃ v, w4.heap.size = v := ⟨_, rfl⟩
    obtain ⟨X4, hX4⟩ : ∃ x, w4.alloc (.cells #[.int .i64 sp0.next, .slice Axa sp0.sent.length cxa, .int .i64 sp0.top, .slice Axh sp0.heard.length cxh, .slice Axk sp0.skip.length cxk] 48) = x := ⟨_, rfl⟩
    rw [hVx] at Nx
    rw [hX4] at Nx Qx B4 Nt Qt
    try rw [hX4]
    try rw [hVx]
    clear hX4 hVx
    clear hl4 hm4 Nx Qx
    obtain ⟨q0, q1, q2, q3, q4⟩ := sp5 Nt.out
    go_wp2_with fail
    refine (HQU.out _ _ (StS.now Qt.out)).mono ?_
    rintro e w5 ⟨b5, u5, rfl, hu5⟩
    dsimp only at hu5 ⊢
    obtain ⟨Aua, Auh, Auk, cua, cuh, cuk, rfl⟩ := SpdS.slices hu5
    have C5 := (Below.refl w5.heap.size w5).alloc (Nat.le_refl _) (.cells #[.int .i64 u.next, .slice Aua u.sent.length cua, .int .i64 u.top, .slice Auh u.heard.length cuh, .slice Auk u.skip.length cuk] 48)
    have Nu := Lib.hid (heap_alloc_new w5 (.cells #[.int .i64 u.next, .slice Aua u.sent.length cua, .int .i64 u.top, .slice Auh u.heard.length cuh, .slice Auk u.skip.length cuk] 48))
    have E5 := b5.trans (C5.mono b5.size)
    have B5 := Lib.hid (B4.out.trans (E5.mono B4.out.size))
    have Qu := Lib.hid (show SpU X4.heap.size _ _ u from StS.on hu5 (KpS.below C5))
    have Nt := Lib.hid ((E5.block _ (lt_of_block Nt.out)).trans Nt.out)
    have Qt := Lib.hid (StS.on Qt.out (KpS.below E5))
    clear b5 hu5 C5 E5 q0 q1 q2 q3 q4
    go_upto_region 6 with fail
    obtain ⟨Vu, hVu⟩ : ∃ v, w5.heap.size = v := ⟨_, rfl⟩
    obtain ⟨X5, hX5⟩ : ∃ x, w5.alloc (.cells #[.int .i64 u.next, .slice Aua u.sent.length cua, .int .i64 u.top, .slice Auh u.heard.length cuh, .slice Auk u.skip.length cuk] 48) = x := ⟨_, rfl⟩
    rw [hVu] at Nu
    rw [hX5] at Nu Qu B5 Nt Qt
    try rw [hX5]
    try rw [hVu]
    clear hX5 hVu
    obtain ⟨q0, q1, q2, q3, q4⟩ := sp5 Nu.out
    have BO := (Below.refl X5.heap.size X5).alloc (Nat.le_refl _) (.cells #[.int .i64 (s.next + 1), .int .i64 (s.next + 1)] 63)
    have RO := Lib.hid (rsl_ownT (own_oneR (w := X5) (base := 0) (s.next + 1) (s.next + 1) (Nat.zero_le _)))
    have Nt := Lib.hid ((BO.block _ (lt_of_block Nt.out)).trans Nt.out)
    have Qt := Lib.hid (StS.on Qt.out (KpS.below BO))
    have Nu := Lib.hid ((BO.block _ (lt_of_block Nu.out)).trans Nu.out)
    have Qu := Lib.hid (StS.on Qu.out (KpS.below BO))
    have BX5 := Lib.hid (B5.out.trans (BO.mono B5.out.size))
    clear BO
    go_wp2_with fail
    refine (HA2.out _ _ _ (StS.now Qu.out) RO.out).mono ?_
    rintro e w6 ⟨b6, u6, l6, m6, rfl, hu6, hl6, hm6⟩
    dsimp only at hu6 hl6 hm6 ⊢
    obtain ⟨AH6, cH6, hel, hlc6, hlm6⟩ := pl_len (StS.now hl6)
    simp only [List.length_nil] at hel
    subst hel
    obtain ⟨Aya, Ayh, Ayk, cya, cyh, cyk, rfl⟩ := SpdS.slices hu6
    have C6 := (Below.refl w6.heap.size w6).alloc (Nat.le_refl _) (.cells #[.int .i64 t2.next, .slice Aya t2.sent.length cya, .int .i64 t2.top, .slice Ayh t2.heard.length cyh, .slice Ayk t2.skip.length cyk] 48)
    have Ny := Lib.hid (heap_alloc_new w6 (.cells #[.int .i64 t2.next, .slice Aya t2.sent.length cya, .int .i64 t2.top, .slice Ayh t2.heard.length cyh, .slice Ayk t2.skip.length cyk] 48))
    have E6 := b6.trans (C6.mono b6.size)
    have B6 := Lib.hid (BX5.out.trans (E6.mono BX5.out.size))
    have Qy := Lib.hid (show SpU 0 _ _ t2 from StS.anti (StS.on hu6 (KpS.below C6)) (fun j hj => absurd hj (Nat.not_lt_zero j)))
    have Nt := Lib.hid ((E6.block _ (lt_of_block Nt.out)).trans Nt.out)
    have Qt := Lib.hid (StS.on Qt.out (KpS.below E6))
    clear b6 hu6 C6 E6 q0 q1 q2 q3 q4
    go_upto_region 7 with fail
    obtain ⟨Vy, hVy⟩ : ∃ v, w6.heap.size = v := ⟨_, rfl⟩
    obtain ⟨X6, hX6⟩ : ∃ x, w6.alloc (.cells #[.int .i64 t2.next, .slice Aya t2.sent.length cya, .int .i64 t2.top, .slice Ayh t2.heard.length cyh, .slice Ayk t2.skip.length cyk] 48) = x := ⟨_, rfl⟩
    rw [hVy] at Ny
    rw [hX6] at Ny Qy B6 Nt Qt
    try rw [hX6]
    try rw [hVy]
    clear hX6 hVy
    clear hl6 hm6 Ny Qy
    obtain ⟨q0, q1, q2, q3, q4⟩ := sp5 Nt.out
    go_wp2_with fail
    refine (spaceTells_any _).mono ?_
    rintro e w7 ⟨rfl, b7⟩
    have B7 := Lib.hid (B6.out.trans (b7.mono B6.out.size))
    have Nt := Lib.hid ((b7.block _ (lt_of_block Nt.out)).trans Nt.out)
    clear b7 q0 q1 q2 q3 q4
    obtain ⟨q0, q1, q2, q3, q4⟩ := sp5 Nt.out
    have geq : ((s.next + 1 : Int) == t.next) = true := by rw [HTN.out]; simp
    go_wp2_with fail
    go_ret
    exact ⟨by first | rfl | simp, B7.out⟩
end Go.Proofs.Ytnccibaifffhhaa
