/- Contract of package sender's step: which bytes are sent next. -/
import Derived.Test.YtnccibaifffhhaaSnCopy
import Derived.Test.YtnccibaifffhhaaRngCut
import Derived.Test.YtnccibaifffhhaaGrpC
import Derived.Test.YtnccibaifffhhaaSnPcDef
import Derived.Deep.CutRange
namespace Go.Proofs.Ytnccibaifffhhaa.P
set_option linter.unusedVariables false
open Go.RowKit
end Go.Proofs.Ytnccibaifffhhaa.P
namespace Go.Proofs.Ytnccibaifffhhaa
set_option linter.unusedVariables false
open Go.RowKit P

structure Step4 (w0 : World) (W : World) (L1 : List (Int × Int)) (Ad Aa : Option Addr) (b off nd cd nl cl na ca : Nat) (fi en ov : Bool) (nx mx lo tt : Int) (V0 V1 V2 V3 V4 V8 V9 : Value) (b0 b1 b2 b3 b4 b5 b6 b7 b8 b9 b10 : Bool) (x0 x1 x2 x3 x4 x5 x6 x7 x8 x9 x10 : Value) (w : World) : Prop where
  be : b10 = false → Below w0.heap.size w0 w
  d1 : b1 = true → b0 = true
  d4 : b4 = true → b2 = true ∧ b3 = true
  d5 : b5 = true → b1 = true ∧ b4 = true
  d6 : b6 = true → b5 = true
  d7 : b7 = true → b6 = true
  d8 : b8 = true → b6 = true
  d9 : b9 = true → b0 = true ∧ b1 = true ∧ b2 = true ∧ b3 = true ∧ b4 = true ∧ b5 = true ∧ b6 = true ∧ b7 = true
  d10 : b10 = true → b0 = true ∧ b1 = true ∧ b2 = true ∧ b3 = true ∧ b4 = true ∧ b5 = true ∧ b6 = true ∧ b7 = true ∧ b9 = true
  t5 : b5 = true → ∃ u, x5 = .tuple #[u, .int .i64 0]
  t6 : b6 = true → ∃ u, x6 = .tuple #[u, .int .i64 0]
  h0 : b0 = true → x0 = V0
  h1 : b1 = true → x1 = V1
  h2 : b2 = true → x2 = V2
  h3 : b3 = true → x3 = V3
  h4 : b4 = true → x4 = V4
  h5 : b5 = true → b10 = false → ∃ u, x5 = .tuple #[u, .int .i64 0] ∧ OwnR w w0.heap.size 63 u L1
  h6 : b6 = true → b10 = false → ∃ u, x6 = .tuple #[u, .int .i64 0] ∧ OwnR w w0.heap.size 63 u L1
  h7 : b7 = true → b10 = false → OwnR w w0.heap.size 63 x7 L1
  h8 : b8 = true → x8 = V8
  h9 : b9 = true → x9 = V9
  h10 : b10 = true → ∃ A c, OwnR w w0.heap.size 63 (.slice A L1.length c) L1 ∧ w.heap[W.heap.size]? = some (.cells #[.slice Ad nd cd, .bool fi, .int .i64 nx, .int .i64 mx, .slice A L1.length c, .slice Aa na ca, .bool en, .bool ov] 27 (0, 0)) ∧ w.heap[W.heap.size + 1]? = some (.cells #[.slice none 0 0, .bool false, .int .i64 0, .int .i64 0, .slice none 0 0, .slice none 0 0, .bool false, .bool false] 27 (0, 0)) ∧ Below W.heap.size W w
/-- what step answers: its rows are those that came in, but for a row of Lost that is new -/
def StepPost (s : Sn) (room credit : Int) (d l a : Value) (w : World) (e : Ending) (w' : World) : Prop :=
  ∃ l', e = .returned (.tuple #[.agg #[d, .bool s.fin, .int .i64 (stNext s room credit), .int .i64 s.mx, l', a, .bool s.ended, .bool s.over], .int .i64 (pcLo s room), .int .i64 (pcTo s room credit)]) ∧
    ((l' = l ∧ (stLost s room credit) = s.lost) ∨ ∃ A c, l' = .slice A (stLost s room credit).length c ∧ OwnR w' w.heap.size 63 l' (stLost s room credit)) ∧ Below w.heap.size w w'
set_option maxRecDepth 100000 in
set_option maxHeartbeats 2000000 in
theorem step_any (d l a : Value) (s : Sn) (room credit : Int) (W : World) (hv : SnVal W W.heap.size (.agg #[d, .bool s.fin, .int .i64 s.next, .int .i64 s.mx, l, a, .bool s.ended, .bool s.over]) s) (hw : SnWf s) (ok : okSn s) (hr : 0 ≤ room ∧ room ≤ 120 ∧ 0 ≤ credit) :
    Calls Try.prog 29 #[.agg #[d, .bool s.fin, .int .i64 s.next, .int .i64 s.mx, l, a, .bool s.ended, .bool s.over], .int .i64 room, .int .i64 credit] W (StepPost s room credit d l a W) := by
  obtain ⟨d9, l9, a9, e9, hd, hl, ha⟩ := hv.ex
  have e9' := Array.mk.inj (Value.agg.inj e9)
  simp only [List.cons.injEq, and_true, true_and] at e9'
  obtain ⟨rfl, rfl, rfl⟩ := e9'
  clear e9
  obtain ⟨Ad, cd, rfl, _, _, _, _⟩ := hd.ex
  obtain ⟨Al, cl, rfl, hlc, hlm, hlr⟩ := hl.ex
  obtain ⟨Aa, ca, rfl, _, _, _⟩ := ha.ex
  have hll := hw.ll
  have pis := piece_is ok hr
  have pnew := piece_new ok hr
  obtain ⟨k1, ⟨k2, k2'⟩, ⟨k3, k3'⟩, k4, k5, k6, k7, k8, k9, k10⟩ := ok
  have HLR := Lib.hid hlr
  have HOK := Lib.hid k4
  have HB8 := Lib.hid k8
  unfold StepPost
  obtain ⟨ps, hps⟩ : ∃ x, s.lost = x := ⟨_, rfl⟩
  obtain ⟨nx, hnx⟩ : ∃ x, s.next = x := ⟨_, rfl⟩
  obtain ⟨mx, hmx⟩ : ∃ x, s.mx = x := ⟨_, rfl⟩
  obtain ⟨nd, hnd⟩ : ∃ x, s.data.length = x := ⟨_, rfl⟩
  obtain ⟨na, hna⟩ : ∃ x, s.acked.length = x := ⟨_, rfl⟩
  obtain ⟨fi, hfi⟩ : ∃ x, s.fin = x := ⟨_, rfl⟩
  obtain ⟨en, hen⟩ : ∃ x, s.ended = x := ⟨_, rfl⟩
  obtain ⟨ov, hov⟩ : ∃ x, s.over = x := ⟨_, rfl⟩
  cases hls : ps with
  | nil =>
    have hlo : pcLo s room = nx := by unfold pcLo; rw [hps, hls]; exact hnx
    obtain ⟨m4, hm4⟩ : ∃ x, min (min room credit) (min (mx - nx) ((nd : Int) - nx)) = x := ⟨_, rfl⟩
    obtain ⟨nt, hnt⟩ : ∃ x, nx + m4 = x := ⟨_, rfl⟩
    have hn : pcN s room credit = m4 := by
      unfold pcN; rw [hps, hls]; simp only; omega
    have hT : pcTo s room credit = nt := by unfold pcTo; rw [hlo, hn]; exact hnt
    have hN : stNext s room credit = nt := by unfold stNext; rw [hT, hnx]; omega
    have hL : stLost s room credit = ps := by
      unfold stLost; rw [hps, hls]; split <;> rfl
    rw [hps] at hll hlc
    rw [hT, hN, hL, hlo, hps, hnx, hmx, hnd, hna, hfi, hen, hov]
    rw [hls] at hll hlc ⊢
    obtain ⟨nl, hnl⟩ : ∃ x, ([] : List (Int × Int)).length = x := ⟨_, rfl⟩
    have hnl0 : decide ((0 : Int) < (nl : Int)) = false := by rw [← hnl]; rfl
    have hnl1 : decide (0 < nl) = false := by rw [← hnl]; rfl
    rw [hnl] at hll hlc ⊢
    obtain ⟨g0, g1, g2⟩ := twoX W #[.slice Ad nd cd, .bool fi, .int .i64 nx, .int .i64 mx, .slice Al nl cl, .slice Aa na ca, .bool en, .bool ov] #[.slice none 0 0, .bool false, .int .i64 0, .int .i64 0, .slice none 0 0, .slice none 0 0, .bool false, .bool false] 27 27
    have F0 := Lib.hid g0
    have Z0 := Lib.hid g1
    have B0 := Lib.hid g2
    have w1 : IntKind.i64.wrap (mx - nx) = mx - nx := by rw [IntKind.wrap_i64]; omega
    have w2 : IntKind.i64.wrap ((nd : Int) - nx) = (nd : Int) - nx := by rw [IntKind.wrap_i64]; omega
    have w3 : IntKind.i64.wrap (nx + m4) = nt := by rw [IntKind.wrap_i64]; omega
    have wm := fun w ts t => run_min4 (P := Try.prog) w ts t .i64 .i64 .i64 .i64 room credit (mx - nx) ((nd : Int) - nx) m4 hm4
    clear hnl hv hw hd hl ha hlr g0 g1 g2 hls hps pis pnew hnx hmx hnd hna hfi hen hov hlo hn hT hN hL HLR HOK HB8 hm4 hnt
    obtain ⟨Y0, hY0⟩ : ∃ x, (W.alloc (.cells #[.slice Ad nd cd, .bool fi, .int .i64 nx, .int .i64 mx, .slice Al nl cl, .slice Aa na ca, .bool en, .bool ov] 27)).alloc (.cells #[.slice none 0 0, .bool false, .int .i64 0, .int .i64 0, .slice none 0 0, .slice none 0 0, .bool false, .bool false] 27) = x := ⟨_, rfl⟩
    rw [hY0] at F0 Z0 B0
    obtain ⟨q0, q1, q2, q3, q4, q5, q6, q7⟩ := bkS F0.out
    have qf := fun i => bk_frz F0.out i
    obtain ⟨Y1, hY1⟩ : ∃ x, Y0.setCell ⟨W.heap.size, 2, none⟩ (.int .i64 nt) = x := ⟨_, rfl⟩
    have g3 := gr_set Y0 W.heap.size 2 (.int .i64 nt)
    have F1 := Lib.hid ((bkS_set F0.out (.int .i64 nt)).2.2.1)
    rw [hY1] at g3 F1
    have Z1 := Lib.hid ((g3.block _ (lt_of_block Z0.out) (by simp)).trans Z0.out)
    have B1 := Lib.hid (gr_from B0.out B0.out.size (Nat.le_refl _) g3)
    clear g3
    obtain ⟨p0, p1, p2, p3, p4, p5, p6, p7⟩ := bkS F1.out
    obtain ⟨z0, z1, z2, z3, z4, z5, z6, z7⟩ := bkS Z1.out
    have zf := fun i => bk_frz Z1.out i
    go_enter Try.func29, Try.ntmps29
    go_upto_region 8 with fail
    obtain ⟨RY, gp⟩ := bkS_put Z1.out (.slice Ad nd cd) (.bool fi) (.int .i64 nt) (.int .i64 mx) (.slice Al nl cl) (.slice Aa na ca) (.bool en) (.bool ov)
    obtain ⟨r0, r1, r2, r3, r4, r5, r6, r7⟩ := bkS RY
    go_region
    all_goals (go_wp2_with fail)
    all_goals (refine bodyPost_ret (by simp [results, Try.results29, go_sem, r0, r1, r2, r3, r4, r5, r6, r7]; try rfl) rfl ?_)
    all_goals exact ⟨_, rfl, .inl (by first | exact ⟨rfl, by first | trivial | rfl⟩ | rfl), (gr_from B1.out B1.out.size (Nat.le_succ _) gp).drew⟩
  | cons p rs =>
    by_cases hrm : 0 < room
    · have hlo : pcLo s room = p.1 := by unfold pcLo; rw [hps, hls]; simp [hrm]
      have hn : pcN s room credit = min room (p.2 - p.1 + 1) := by unfold pcN; rw [hps, hls]; simp [hrm]
      obtain ⟨lo, hi⟩ := p
      simp only at hlo hn
      rw [hps] at HLR HOK HB8 hlc hll
      rw [hls] at hps
      have hp1 : okR (lo, hi) := by have := HOK.out; rw [hls] at this; exact this.1
      have hb8 : hi < nx := by have := HB8.out (lo, hi) (by rw [hls]; exact List.mem_cons_self ..); rw [hnx] at this; exact this
      obtain ⟨h1, h2, h3⟩ := hp1
      simp only at h1 h2 h3
      obtain ⟨tt, hto⟩ : ∃ x, min (hi + 1) (lo + room) = x := ⟨_, rfl⟩
      have hto2 : lo + min room (hi - lo + 1) = tt := by omega
      have hmin : (if lo + room < hi + 1 then lo + room else hi + 1) = tt := by rw [← hto]; split <;> omega
      have hn0 : 0 < pcN s room credit := by rw [hn]; omega
      have hmax : max nx tt = nx := by omega
      have hT : pcTo s room credit = tt := by unfold pcTo; rw [hlo, hn]; exact hto2
      have hN : stNext s room credit = nx := by unfold stNext; rw [hT, hnx]; exact hmax
      have hL : stLost s room credit = cutL (lo, tt - 1) ps := by unfold stLost; rw [if_pos hn0, hT, hlo, hps, hls]
      rw [hT, hN, hL, hlo, hps, hnx, hmx, hnd, hna, hfi, hen, hov]
      have HSP := Lib.hid (fun w' => span_any lo tt w' (by omega))
      obtain ⟨nl, hnl⟩ : ∃ x, ps.length = x := ⟨_, rfl⟩
      rw [← hls]
      rw [hnl] at hlc hll ⊢
      have hrt : okR (lo, tt - 1) := ⟨h1, by simp only; omega, by simp only; omega⟩
      have HNL := Lib.hid hnl
      have HRT := Lib.hid hrt
      have HCT := Lib.hid (fun w' (hb : Below W.heap.size W w') => cut_own Al nl cl ps lo (tt - 1) w' ((HLR.out.below hb).more hb.size) HNL.out HOK.out HRT.out (by omega))
      obtain ⟨L1, hL1⟩ : ∃ x, cutL (lo, tt - 1) ps = x := ⟨_, rfl⟩
      rw [hL1] at HCT ⊢
      obtain ⟨b, off, hA, hbb, hc⟩ := HLR.out (by rw [hls]; simp)
      obtain ⟨c0, c1⟩ := hc 0 (by rw [hls]; simp)
      rw [hls] at c0 c1
      simp only [List.getD_cons_zero, Nat.zero_mul, Nat.add_zero] at c0 c1
      have hnl0 : (0 : Int) < (nl : Int) := by rw [← hnl, hls]; simp only [List.length_cons]; omega
      have hnl1 : (0 : Nat) < nl := by omega
      subst hA
      obtain ⟨g0, g1, g2⟩ := twoX W #[.slice Ad nd cd, .bool fi, .int .i64 nx, .int .i64 mx, .slice (some ⟨b, off, none⟩) nl cl, .slice Aa na ca, .bool en, .bool ov] #[.slice none 0 0, .bool false, .int .i64 0, .int .i64 0, .slice none 0 0, .slice none 0 0, .bool false, .bool false] 27 27
      have F0 := Lib.hid g0
      have Z0 := Lib.hid g1
      have B0 := Lib.hid g2
      have d0 := (B0.out.cell hbb).trans c0
      have d1 := (B0.out.cell hbb).trans c1
      have w1 : IntKind.i64.wrap (hi + 1) = hi + 1 := by rw [IntKind.wrap_i64]; omega
      have w2 : IntKind.i64.wrap (lo + room) = lo + room := by rw [IntKind.wrap_i64]; omega
      clear hv hw hd hl ha hlr hc c0 c1 g0 g1 g2 hls hps hnl hL1 hrt pis pnew hnx hmx hnd hna hfi hen hov hlo hn hn0 hto hto2 hmax hT hN hL
      obtain ⟨q0, q1, q2, q3, q4, q5, q6, q7⟩ := bkS F0.out
      go_enter Try.func29, Try.ntmps29
      go_upto_region 4 with fail
      obtain ⟨X0, hX0⟩ : ∃ x, (W.alloc (.cells #[.slice Ad nd cd, .bool fi, .int .i64 nx, .int .i64 mx, .slice (some ⟨b, off, none⟩) nl cl, .slice Aa na ca, .bool en, .bool ov] 27)).alloc (.cells #[.slice none 0 0, .bool false, .int .i64 0, .int .i64 0, .slice none 0 0, .slice none 0 0, .bool false, .bool false] 27) = x := ⟨_, rfl⟩
      rw [hX0] at F0 Z0 B0 ⊢
      have FX := F0
      have ZX := Z0
      have BX := B0
      clear hX0 F0 Z0 B0 d0 d1 w1 w2 q0 q1 q2 q3 q4 q5 q6 q7 hmin
      go_cut [] from 35 to 44 (fun wx => ∃ A c, Hid (OwnR wx X0.heap.size 63 (.slice A L1.length c) L1) ∧ Hid (wx.heap[W.heap.size]? = some (.cells #[.slice Ad nd cd, .bool fi, .int .i64 nx, .int .i64 mx, .slice A L1.length c, .slice Aa na ca, .bool en, .bool ov] 27 (0, 0))) ∧ Hid (wx.heap[W.heap.size + 1]? = some (.cells #[.slice none 0 0, .bool false, .int .i64 0, .int .i64 0, .slice none 0 0, .slice none 0 0, .bool false, .bool false] 27 (0, 0))) ∧ Hid (Below W.heap.size W wx))
      case first =>
        refine wp_region_inv (fun listed a w => ∃ (b0 b1 b2 b3 b4 b5 b6 b7 b8 b9 b10 : Bool) (x0 x1 x2 x3 x4 x5 x6 x7 x8 x9 x10 : Value), listed = #[b0, b1, b2, b3, b4, b5, b6, b7, b8, b9, b10] ∧ a = { tmps := #[Value.agg #[Value.slice Ad nd cd, Value.bool fi, Value.int IntKind.i64 nx, Value.int IntKind.i64 mx, Value.slice (some { block := b, off := off }) nl cl, Value.slice Aa na ca, Value.bool en, Value.bool ov], Value.int IntKind.i64 room, Value.int IntKind.i64 credit, Value.pointer (some { block := W.heap.size, off := 0 }), undef, undef, Value.pointer (some { block := W.heap.size + 1, off := 0 }), Value.int IntKind.i64 0, Value.int IntKind.i64 0, Value.int IntKind.i64 lo, Value.int IntKind.i64 tt, undef, Value.pointer (some { block := W.heap.size, off := 4 }), Value.slice (some { block := b, off := off }) nl cl, Value.int IntKind.i64 ↑nl, Value.bool true, Value.bool true, Value.int IntKind.i64 room, Value.bool true, Value.bool true, Value.pointer (some { block := W.heap.size, off := 4 }), Value.slice (some { block := b, off := off }) nl cl, Value.pointer (some { block := b, off := off }), Value.pointer (some { block := b, off := off }), Value.int IntKind.i64 lo, Value.pointer (some { block := W.heap.size, off := 4 }), Value.slice (some { block := b, off := off }) nl cl, Value.pointer (some { block := b, off := off }), Value.pointer (some { block := b, off := off + 1 }), Value.int IntKind.i64 hi, Value.int IntKind.i64 (hi + 1), Value.int IntKind.i64 lo, Value.int IntKind.i64 room, Value.int IntKind.i64 (lo + room), Value.int IntKind.i64 tt, x6, x0, x1, x2, x3, x4, x5, x7, x8, x9, undef, undef, undef, undef, undef, undef, undef, undef, undef, undef, undef, undef, undef, undef, undef, undef, undef, undef, undef, undef, undef, undef, undef, undef, undef], defers := [] } ∧ Step4 X0 W L1 Ad Aa b off nd cd nl cl na ca fi en ov nx mx lo tt (.pointer (some ⟨W.heap.size, 4, none⟩)) (.slice (some ⟨b, off, none⟩) nl cl) (.int .i64 lo) (.int .i64 tt) (.agg #[.int .i64 lo, .int .i64 (tt - 1)]) (.int .i64 0) (.pointer (some ⟨W.heap.size, 4, none⟩)) b0 b1 b2 b3 b4 b5 b6 b7 b8 b9 b10 x0 x1 x2 x3 x4 x5 x6 x7 x8 x9 x10 w) (by kernel_rfl) ?h0 ?hfin ?hI
        case h0 => exact ⟨_, _, _, _, _, _, _, _, _, _, _, _, _, _, _, _, _, _, _, _, _, undef, rfl, rfl, ⟨(fun _ => (Below.refl _ _).drew), (fun h => by cases h), (fun h => by cases h), (fun h => by cases h), (fun h => by cases h), (fun h => by cases h), (fun h => by cases h), (fun h => by cases h), (fun h => by cases h), (fun h => by cases h), (fun h => by cases h), (fun h => by cases h), (fun h => by cases h), (fun h => by cases h), (fun h => by cases h), (fun h => by cases h), (fun h => by cases h), (fun h => by cases h), (fun h => by cases h), (fun h => by cases h), (fun h => by cases h), (fun h => by cases h)⟩⟩
        case hI =>
          rintro listed a w ⟨b0, b1, b2, b3, b4, b5, b6, b7, b8, b9, b10, x0, x1, x2, x3, x4, x5, x6, x7, x8, x9, x10, rfl, rfl, H⟩ i hi
          obtain ⟨hun, oj, hoj, hall⟩ := mem_ready.1 hi
          clear hi
          rcases i with _ | _ | _ | _ | _ | _ | _ | _ | _ | _ | _ | i
          · have ho := hoj
            simp only [List.getElem?_toArray, List.getElem?_cons_succ, List.getElem?_cons_zero, Option.some.injEq] at hoj
            subst hoj
            obtain rfl : b0 = false := hun
            clear hall
            obtain rfl : b1 = false := Bool.eq_false_iff.2 fun h => Bool.false_ne_true (H.d1 h)
            obtain rfl : b5 = false := Bool.eq_false_iff.2 fun h => Bool.false_ne_true (H.d5 h).1
            obtain rfl : b6 = false := Bool.eq_false_iff.2 fun h => Bool.false_ne_true (H.d6 h)
            obtain rfl : b7 = false := Bool.eq_false_iff.2 fun h => Bool.false_ne_true (H.d7 h)
            obtain rfl : b8 = false := Bool.eq_false_iff.2 fun h => Bool.false_ne_true (H.d8 h)
            obtain rfl : b9 = false := Bool.eq_false_iff.2 fun h => Bool.false_ne_true (H.d9 h).1
            obtain rfl : b10 = false := Bool.eq_false_iff.2 fun h => Bool.false_ne_true (H.d10 h).1
            have hbe := H.be rfl
            have hx_t5 := H.t5
            have hx_t6 := H.t6
            refine wpOp_step ho (fun K' hK => ?_)
            have HK := Lib.hid hK
            clear hK ho
            go_simp
            exact HK.out _ _ ⟨_, _, _, _, _, _, _, _, _, _, _, _, _, _, _, _, _, _, _, _, _, x10, rfl, rfl, ⟨(fun _ => hbe), (fun h => by cases h), H.d4, H.d5, H.d6, H.d7, H.d8, (fun h => by cases h), (fun h => by cases h), H.t5, H.t6, (fun _ => rfl), H.h1, H.h2, H.h3, H.h4, (fun h => by cases h), (fun h => by cases h), (fun h => by cases h), H.h8, H.h9, (fun h => by cases h)⟩⟩
          · have ho := hoj
            simp only [List.getElem?_toArray, List.getElem?_cons_succ, List.getElem?_cons_zero, Option.some.injEq] at hoj
            subst hoj
            obtain rfl : b1 = false := hun
            obtain rfl : b0 = true := hall ⟨0, .data⟩ (by simp) (by kernel_rfl)
            clear hall
            obtain rfl : b5 = false := Bool.eq_false_iff.2 fun h => Bool.false_ne_true (H.d5 h).1
            obtain rfl : b6 = false := Bool.eq_false_iff.2 fun h => Bool.false_ne_true (H.d6 h)
            obtain rfl : b7 = false := Bool.eq_false_iff.2 fun h => Bool.false_ne_true (H.d7 h)
            obtain rfl : b8 = false := Bool.eq_false_iff.2 fun h => Bool.false_ne_true (H.d8 h)
            obtain rfl : b9 = false := Bool.eq_false_iff.2 fun h => Bool.false_ne_true (H.d9 h).2.1
            obtain rfl : b10 = false := Bool.eq_false_iff.2 fun h => Bool.false_ne_true (H.d10 h).2.1
            have hbe := H.be rfl
            have hx_t5 := H.t5
            have hx_t6 := H.t6
            obtain rfl := H.h0 rfl
            obtain ⟨q0, q1, q2, q3, q4, q5, q6, q7⟩ := bkS ((hbe.block _ (lt_of_block FX.out)).trans FX.out)
            refine wpOp_step ho (fun K' hK => ?_)
            have HK := Lib.hid hK
            clear hK ho
            go_simp
            exact HK.out _ _ ⟨_, _, _, _, _, _, _, _, _, _, _, _, _, _, _, _, _, _, _, _, _, x10, rfl, rfl, ⟨(fun _ => hbe), (fun _ => rfl), H.d4, (fun h => by cases h), H.d6, H.d7, H.d8, (fun h => by cases h), (fun h => by cases h), H.t5, H.t6, H.h0, (fun _ => rfl), H.h2, H.h3, H.h4, (fun h => by cases h), (fun h => by cases h), (fun h => by cases h), H.h8, H.h9, (fun h => by cases h)⟩⟩
          · have ho := hoj
            simp only [List.getElem?_toArray, List.getElem?_cons_succ, List.getElem?_cons_zero, Option.some.injEq] at hoj
            subst hoj
            obtain rfl : b2 = false := hun
            clear hall
            obtain rfl : b4 = false := Bool.eq_false_iff.2 fun h => Bool.false_ne_true (H.d4 h).1
            obtain rfl : b5 = false := Bool.eq_false_iff.2 fun h => Bool.false_ne_true (H.d5 h).2
            obtain rfl : b6 = false := Bool.eq_false_iff.2 fun h => Bool.false_ne_true (H.d6 h)
            obtain rfl : b7 = false := Bool.eq_false_iff.2 fun h => Bool.false_ne_true (H.d7 h)
            obtain rfl : b8 = false := Bool.eq_false_iff.2 fun h => Bool.false_ne_true (H.d8 h)
            obtain rfl : b9 = false := Bool.eq_false_iff.2 fun h => Bool.false_ne_true (H.d9 h).2.2.1
            obtain rfl : b10 = false := Bool.eq_false_iff.2 fun h => Bool.false_ne_true (H.d10 h).2.2.1
            have hbe := H.be rfl
            have hx_t5 := H.t5
            have hx_t6 := H.t6
            refine wpOp_step ho (fun K' hK => ?_)
            have HK := Lib.hid hK
            clear hK ho
            go_simp
            exact HK.out _ _ ⟨_, _, _, _, _, _, _, _, _, _, _, _, _, _, _, _, _, _, _, _, _, x10, rfl, rfl, ⟨(fun _ => hbe), H.d1, (fun h => by cases h), H.d5, H.d6, H.d7, H.d8, (fun h => by cases h), (fun h => by cases h), H.t5, H.t6, H.h0, H.h1, (fun _ => rfl), H.h3, H.h4, (fun h => by cases h), (fun h => by cases h), (fun h => by cases h), H.h8, H.h9, (fun h => by cases h)⟩⟩
          · have ho := hoj
            simp only [List.getElem?_toArray, List.getElem?_cons_succ, List.getElem?_cons_zero, Option.some.injEq] at hoj
            subst hoj
            obtain rfl : b3 = false := hun
            clear hall
            obtain rfl : b4 = false := Bool.eq_false_iff.2 fun h => Bool.false_ne_true (H.d4 h).2
            obtain rfl : b5 = false := Bool.eq_false_iff.2 fun h => Bool.false_ne_true (H.d5 h).2
            obtain rfl : b6 = false := Bool.eq_false_iff.2 fun h => Bool.false_ne_true (H.d6 h)
            obtain rfl : b7 = false := Bool.eq_false_iff.2 fun h => Bool.false_ne_true (H.d7 h)
            obtain rfl : b8 = false := Bool.eq_false_iff.2 fun h => Bool.false_ne_true (H.d8 h)
            obtain rfl : b9 = false := Bool.eq_false_iff.2 fun h => Bool.false_ne_true (H.d9 h).2.2.2.1
            obtain rfl : b10 = false := Bool.eq_false_iff.2 fun h => Bool.false_ne_true (H.d10 h).2.2.2.1
            have hbe := H.be rfl
            have hx_t5 := H.t5
            have hx_t6 := H.t6
            refine wpOp_step ho (fun K' hK => ?_)
            have HK := Lib.hid hK
            clear hK ho
            go_simp
            exact HK.out _ _ ⟨_, _, _, _, _, _, _, _, _, _, _, _, _, _, _, _, _, _, _, _, _, x10, rfl, rfl, ⟨(fun _ => hbe), H.d1, (fun h => by cases h), H.d5, H.d6, H.d7, H.d8, (fun h => by cases h), (fun h => by cases h), H.t5, H.t6, H.h0, H.h1, H.h2, (fun _ => rfl), H.h4, (fun h => by cases h), (fun h => by cases h), (fun h => by cases h), H.h8, H.h9, (fun h => by cases h)⟩⟩
          · have ho := hoj
            simp only [List.getElem?_toArray, List.getElem?_cons_succ, List.getElem?_cons_zero, Option.some.injEq] at hoj
            subst hoj
            obtain rfl : b4 = false := hun
            obtain rfl : b2 = true := hall ⟨2, .data⟩ (by simp) (by kernel_rfl)
            obtain rfl : b3 = true := hall ⟨3, .data⟩ (by simp) (by kernel_rfl)
            clear hall
            obtain rfl : b5 = false := Bool.eq_false_iff.2 fun h => Bool.false_ne_true (H.d5 h).2
            obtain rfl : b6 = false := Bool.eq_false_iff.2 fun h => Bool.false_ne_true (H.d6 h)
            obtain rfl : b7 = false := Bool.eq_false_iff.2 fun h => Bool.false_ne_true (H.d7 h)
            obtain rfl : b8 = false := Bool.eq_false_iff.2 fun h => Bool.false_ne_true (H.d8 h)
            obtain rfl : b9 = false := Bool.eq_false_iff.2 fun h => Bool.false_ne_true (H.d9 h).2.2.2.2.1
            obtain rfl : b10 = false := Bool.eq_false_iff.2 fun h => Bool.false_ne_true (H.d10 h).2.2.2.2.1
            have hbe := H.be rfl
            have hx_t5 := H.t5
            have hx_t6 := H.t6
            obtain rfl := H.h2 rfl
            obtain rfl := H.h3 rfl
            refine wpOp_step ho (fun K' hK => ?_)
            have HK := Lib.hid hK
            clear hK ho
            go_wp2_with fail
            refine (HSP.out _).mono ?_
            rintro e w1 ⟨rfl, b1⟩
            have BC := Lib.hid b1
            clear b1
            go_wp2_with fail
            exact HK.out _ _ ⟨_, _, _, _, _, _, _, _, _, _, _, _, _, _, _, _, _, _, _, _, _, x10, rfl, rfl, ⟨(fun _ => hbe.trans (BC.out.mono hbe.size)), H.d1, (fun _ => ⟨rfl, rfl⟩), (fun h => by cases h), H.d6, H.d7, H.d8, (fun h => by cases h), (fun h => by cases h), hx_t5, hx_t6, H.h0, H.h1, H.h2, H.h3, (fun _ => rfl), (fun h => by cases h), (fun h => by cases h), (fun h => by cases h), H.h8, H.h9, (fun h => by cases h)⟩⟩
          · have ho := hoj
            simp only [List.getElem?_toArray, List.getElem?_cons_succ, List.getElem?_cons_zero, Option.some.injEq] at hoj
            subst hoj
            obtain rfl : b5 = false := hun
            obtain rfl : b1 = true := hall ⟨1, .data⟩ (by simp) (by kernel_rfl)
            obtain rfl : b4 = true := hall ⟨4, .data⟩ (by simp) (by kernel_rfl)
            obtain rfl : b0 = true := (H.d1 rfl)
            obtain rfl : b2 = true := (H.d4 rfl).1
            obtain rfl : b3 = true := (H.d4 rfl).2
            clear hall
            obtain rfl : b6 = false := Bool.eq_false_iff.2 fun h => Bool.false_ne_true (H.d6 h)
            obtain rfl : b7 = false := Bool.eq_false_iff.2 fun h => Bool.false_ne_true (H.d7 h)
            obtain rfl : b8 = false := Bool.eq_false_iff.2 fun h => Bool.false_ne_true (H.d8 h)
            obtain rfl : b9 = false := Bool.eq_false_iff.2 fun h => Bool.false_ne_true (H.d9 h).2.2.2.2.2.1
            obtain rfl : b10 = false := Bool.eq_false_iff.2 fun h => Bool.false_ne_true (H.d10 h).2.2.2.2.2.1
            have hbe := H.be rfl
            have hx_t5 := H.t5
            have hx_t6 := H.t6
            obtain rfl := H.h0 rfl
            obtain rfl := H.h1 rfl
            obtain rfl := H.h2 rfl
            obtain rfl := H.h3 rfl
            obtain rfl := H.h4 rfl
            refine wpOp_step ho (fun K' hK => ?_)
            have HK := Lib.hid hK
            clear hK ho
            go_wp2_with fail
            refine (HCT.out _ (BX.out.trans (hbe.mono BX.out.size))).mono ?_
            rintro e w1 ⟨u1, rfl, o1, b1⟩
            have BC := Lib.hid b1
            have OC := Lib.hid (own_lowR o1 hbe.size)
            clear b1 o1
            go_wp2_with fail
            exact HK.out _ _ ⟨_, _, _, _, _, _, _, _, _, _, _, _, _, _, _, _, _, _, _, _, _, x10, rfl, rfl, ⟨(fun _ => hbe.trans (BC.out.mono hbe.size)), H.d1, H.d4, (fun _ => ⟨rfl, rfl⟩), (fun h => by cases h), H.d7, H.d8, (fun h => by cases h), (fun h => by cases h), fun _ => ⟨_, rfl⟩, hx_t6, H.h0, H.h1, H.h2, H.h3, H.h4, (fun _ _ => ⟨_, rfl, OC.out⟩), (fun h => by cases h), (fun h => by cases h), H.h8, H.h9, (fun h => by cases h)⟩⟩
          · have ho := hoj
            simp only [List.getElem?_toArray, List.getElem?_cons_succ, List.getElem?_cons_zero, Option.some.injEq] at hoj
            subst hoj
            obtain rfl : b6 = false := hun
            obtain rfl : b5 = true := hall ⟨5, .data⟩ (by simp) (by kernel_rfl)
            obtain rfl : b1 = true := (H.d5 rfl).1
            obtain rfl : b4 = true := (H.d5 rfl).2
            obtain rfl : b0 = true := (H.d1 rfl)
            obtain rfl : b2 = true := (H.d4 rfl).1
            obtain rfl : b3 = true := (H.d4 rfl).2
            clear hall
            obtain rfl : b7 = false := Bool.eq_false_iff.2 fun h => Bool.false_ne_true (H.d7 h)
            obtain rfl : b8 = false := Bool.eq_false_iff.2 fun h => Bool.false_ne_true (H.d8 h)
            obtain rfl : b9 = false := Bool.eq_false_iff.2 fun h => Bool.false_ne_true (H.d9 h).2.2.2.2.2.2.1
            obtain rfl : b10 = false := Bool.eq_false_iff.2 fun h => Bool.false_ne_true (H.d10 h).2.2.2.2.2.2.1
            have hbe := H.be rfl
            have hx_t5 := H.t5
            have hx_t6 := H.t6
            obtain rfl := H.h0 rfl
            obtain rfl := H.h1 rfl
            obtain rfl := H.h2 rfl
            obtain rfl := H.h3 rfl
            obtain rfl := H.h4 rfl
            have P5 := H.h5 rfl rfl
            have PT := Lib.hid P5
            have TT := Lib.hid (H.t5 rfl)
            clear P5
            refine wpOp_step ho (fun K' hK => ?_)
            have HK := Lib.hid hK
            clear hK ho
            go_simp
            exact HK.out _ _ ⟨_, _, _, _, _, _, _, _, _, _, _, _, _, _, _, _, _, _, _, _, _, x10, rfl, rfl, ⟨(fun _ => hbe), H.d1, H.d4, H.d5, (fun _ => rfl), (fun h => by cases h), (fun h => by cases h), (fun h => by cases h), (fun h => by cases h), H.t5, fun _ => TT.out, H.h0, H.h1, H.h2, H.h3, H.h4, H.h5, (fun _ _ => PT.out), (fun h => by cases h), H.h8, H.h9, (fun h => by cases h)⟩⟩
          · have ho := hoj
            simp only [List.getElem?_toArray, List.getElem?_cons_succ, List.getElem?_cons_zero, Option.some.injEq] at hoj
            subst hoj
            obtain rfl : b7 = false := hun
            obtain rfl : b6 = true := hall ⟨6, .data⟩ (by simp) (by kernel_rfl)
            obtain rfl : b5 = true := (H.d6 rfl)
            obtain rfl : b1 = true := (H.d5 rfl).1
            obtain rfl : b4 = true := (H.d5 rfl).2
            obtain rfl : b0 = true := (H.d1 rfl)
            obtain rfl : b2 = true := (H.d4 rfl).1
            obtain rfl : b3 = true := (H.d4 rfl).2
            clear hall
            obtain rfl : b9 = false := Bool.eq_false_iff.2 fun h => Bool.false_ne_true (H.d9 h).2.2.2.2.2.2.2
            obtain rfl : b10 = false := Bool.eq_false_iff.2 fun h => Bool.false_ne_true (H.d10 h).2.2.2.2.2.2.2.1
            have hbe := H.be rfl
            have hx_t5 := H.t5
            have hx_t6 := H.t6
            obtain rfl := H.h0 rfl
            obtain rfl := H.h1 rfl
            obtain rfl := H.h2 rfl
            obtain rfl := H.h3 rfl
            obtain rfl := H.h4 rfl
            have P5 := H.h5 rfl rfl
            have P6 := H.h6 rfl rfl
            obtain ⟨u, rfl, hu⟩ := P6
            have HU := Lib.hid hu
            clear hu
            refine wpOp_step ho (fun K' hK => ?_)
            have HK := Lib.hid hK
            clear hK ho
            go_simp
            exact HK.out _ _ ⟨_, _, _, _, _, _, _, _, _, _, _, _, _, _, _, _, _, _, _, _, _, x10, rfl, rfl, ⟨(fun _ => hbe), H.d1, H.d4, H.d5, H.d6, (fun _ => rfl), H.d8, (fun h => by cases h), (fun h => by cases h), H.t5, H.t6, H.h0, H.h1, H.h2, H.h3, H.h4, H.h5, H.h6, (fun _ _ => HU.out), H.h8, H.h9, (fun h => by cases h)⟩⟩
          · have ho := hoj
            simp only [List.getElem?_toArray, List.getElem?_cons_succ, List.getElem?_cons_zero, Option.some.injEq] at hoj
            subst hoj
            obtain rfl : b8 = false := hun
            obtain rfl : b6 = true := hall ⟨6, .data⟩ (by simp) (by kernel_rfl)
            obtain rfl : b5 = true := (H.d6 rfl)
            obtain rfl : b1 = true := (H.d5 rfl).1
            obtain rfl : b4 = true := (H.d5 rfl).2
            obtain rfl : b0 = true := (H.d1 rfl)
            obtain rfl : b2 = true := (H.d4 rfl).1
            obtain rfl : b3 = true := (H.d4 rfl).2
            clear hall
            have hx_t5 := H.t5
            have hx_t6 := H.t6
            obtain rfl := H.h0 rfl
            obtain rfl := H.h1 rfl
            obtain rfl := H.h2 rfl
            obtain rfl := H.h3 rfl
            obtain rfl := H.h4 rfl
            obtain ⟨u, rfl⟩ := H.t6 rfl
            refine wpOp_step ho (fun K' hK => ?_)
            have HK := Lib.hid hK
            clear hK ho
            go_simp
            exact HK.out _ _ ⟨_, _, _, _, _, _, _, _, _, _, _, _, _, _, _, _, _, _, _, _, _, x10, rfl, rfl, ⟨H.be, H.d1, H.d4, H.d5, H.d6, H.d7, (fun _ => rfl), H.d9, H.d10, H.t5, H.t6, H.h0, H.h1, H.h2, H.h3, H.h4, H.h5, H.h6, H.h7, (fun _ => rfl), H.h9, H.h10⟩⟩
          · have ho := hoj
            simp only [List.getElem?_toArray, List.getElem?_cons_succ, List.getElem?_cons_zero, Option.some.injEq] at hoj
            subst hoj
            obtain rfl : b9 = false := hun
            obtain rfl : b0 = true := hall ⟨0, .phase⟩ (by simp) (by kernel_rfl)
            obtain rfl : b1 = true := hall ⟨1, .phase⟩ (by simp) (by kernel_rfl)
            obtain rfl : b2 = true := hall ⟨2, .phase⟩ (by simp) (by kernel_rfl)
            obtain rfl : b3 = true := hall ⟨3, .phase⟩ (by simp) (by kernel_rfl)
            obtain rfl : b4 = true := hall ⟨4, .phase⟩ (by simp) (by kernel_rfl)
            obtain rfl : b5 = true := hall ⟨5, .phase⟩ (by simp) (by kernel_rfl)
            obtain rfl : b6 = true := hall ⟨6, .phase⟩ (by simp) (by kernel_rfl)
            obtain rfl : b7 = true := hall ⟨7, .phase⟩ (by simp) (by kernel_rfl)
            clear hall
            obtain rfl : b10 = false := Bool.eq_false_iff.2 fun h => Bool.false_ne_true (H.d10 h).2.2.2.2.2.2.2.2
            have hbe := H.be rfl
            have hx_t5 := H.t5
            have hx_t6 := H.t6
            obtain rfl := H.h0 rfl
            obtain rfl := H.h1 rfl
            obtain rfl := H.h2 rfl
            obtain rfl := H.h3 rfl
            obtain rfl := H.h4 rfl
            have P5 := H.h5 rfl rfl
            have P6 := H.h6 rfl rfl
            have P7 := H.h7 rfl rfl
            refine wpOp_step ho (fun K' hK => ?_)
            have HK := Lib.hid hK
            clear hK ho
            go_simp
            exact HK.out _ _ ⟨_, _, _, _, _, _, _, _, _, _, _, _, _, _, _, _, _, _, _, _, _, x10, rfl, rfl, ⟨(fun _ => hbe), H.d1, H.d4, H.d5, H.d6, H.d7, H.d8, (fun _ => ⟨rfl, rfl, rfl, rfl, rfl, rfl, rfl, rfl⟩), (fun h => by cases h), H.t5, H.t6, H.h0, H.h1, H.h2, H.h3, H.h4, H.h5, H.h6, H.h7, H.h8, (fun _ => rfl), (fun h => by cases h)⟩⟩
          · have ho := hoj
            simp only [List.getElem?_toArray, List.getElem?_cons_succ, List.getElem?_cons_zero, Option.some.injEq] at hoj
            subst hoj
            obtain rfl : b10 = false := hun
            obtain rfl : b0 = true := hall ⟨0, .phase⟩ (by simp) (by kernel_rfl)
            obtain rfl : b1 = true := hall ⟨1, .phase⟩ (by simp) (by kernel_rfl)
            obtain rfl : b2 = true := hall ⟨2, .phase⟩ (by simp) (by kernel_rfl)
            obtain rfl : b3 = true := hall ⟨3, .phase⟩ (by simp) (by kernel_rfl)
            obtain rfl : b4 = true := hall ⟨4, .phase⟩ (by simp) (by kernel_rfl)
            obtain rfl : b5 = true := hall ⟨5, .chain⟩ (by simp) (by kernel_rfl)
            obtain rfl : b6 = true := hall ⟨6, .phase⟩ (by simp) (by kernel_rfl)
            obtain rfl : b7 = true := hall ⟨7, .data⟩ (by simp) (by kernel_rfl)
            obtain rfl : b9 = true := hall ⟨9, .data⟩ (by simp) (by kernel_rfl)
            clear hall
            have hbe := H.be rfl
            have hx_t5 := H.t5
            have hx_t6 := H.t6
            obtain rfl := H.h0 rfl
            obtain rfl := H.h1 rfl
            obtain rfl := H.h2 rfl
            obtain rfl := H.h3 rfl
            obtain rfl := H.h4 rfl
            have P5 := H.h5 rfl rfl
            have P6 := H.h6 rfl rfl
            have P7 := H.h7 rfl rfl
            obtain rfl := H.h9 rfl
            obtain ⟨A1, c1, rfl, _, _, _⟩ := P7.slice
            have FB := Lib.hid ((hbe.block _ (lt_of_block FX.out)).trans FX.out)
            have ZB := Lib.hid ((hbe.block _ (lt_of_block ZX.out)).trans ZX.out)
            have gs := gr_set w W.heap.size 4 (.slice A1 L1.length c1)
            have FN := Lib.hid ((bkS_set FB.out (.slice A1 L1.length c1)).2.2.2.2.1)
            have ZN := Lib.hid ((gs.block _ (lt_of_block ZB.out) (by simp)).trans ZB.out)
            have hfx := lt_of_block FX.out
            have ON := Lib.hid (own_gr P7 gs hfx)
            have BN := Lib.hid (gr_from (BX.out.trans (hbe.mono BX.out.size)) (by have := BX.out.size; have := hbe.size; omega) (Nat.le_refl _) gs)
            obtain ⟨q0, q1, q2, q3, q4, q5, q6, q7⟩ := bkS FB.out
            have qf := fun i => bk_frz FB.out i
            clear gs
            refine wpOp_step ho (fun K' hK => ?_)
            have HK := Lib.hid hK
            clear hK ho
            go_simp
            exact HK.out _ _ ⟨_, _, _, _, _, _, _, _, _, _, _, _, _, _, _, _, _, _, _, _, _, x10, rfl, rfl, ⟨(fun h => by cases h), H.d1, H.d4, H.d5, H.d6, H.d7, H.d8, H.d9, (fun _ => ⟨rfl, rfl, rfl, rfl, rfl, rfl, rfl, rfl, rfl⟩), H.t5, H.t6, H.h0, H.h1, H.h2, H.h3, H.h4, (fun _ h => by cases h), (fun _ h => by cases h), (fun _ h => by cases h), H.h8, H.h9, (fun _ => ⟨_, _, ON.out, FN.out, ZN.out, BN.out⟩)⟩⟩
          · have ho := hoj
            simp at ho
        case hfin =>
          rintro listed a w ⟨b0, b1, b2, b3, b4, b5, b6, b7, b8, b9, b10, x0, x1, x2, x3, x4, x5, x6, x7, x8, x9, x10, rfl, rfl, H⟩ hr
          have hb : b10 = true := by
            clear H
            revert b0 b1 b2 b3 b4 b5 b6 b7 b8 b9 b10
            decide +kernel
          subst hb
          clear hr
          obtain rfl : b0 = true := (H.d10 rfl).1
          obtain rfl : b1 = true := (H.d10 rfl).2.1
          obtain rfl : b2 = true := (H.d10 rfl).2.2.1
          obtain rfl : b3 = true := (H.d10 rfl).2.2.2.1
          obtain rfl : b4 = true := (H.d10 rfl).2.2.2.2.1
          obtain rfl : b5 = true := (H.d10 rfl).2.2.2.2.2.1
          obtain rfl : b6 = true := (H.d10 rfl).2.2.2.2.2.2.1
          obtain rfl : b7 = true := (H.d10 rfl).2.2.2.2.2.2.2.1
          obtain rfl : b9 = true := (H.d10 rfl).2.2.2.2.2.2.2.2
          obtain ⟨A1, c1, o1, f1, z1, b1⟩ := H.h10 rfl
          clear H
          go_wp2_with fail
          go_meet
          exact ⟨A1, c1, Lib.hid o1, Lib.hid f1, Lib.hid z1, Lib.hid b1⟩
      case rest =>
      obtain ⟨A1, c1, O1, F1, Z1, B1⟩ := hcut
      obtain ⟨Y, hY⟩ : ∃ x, x = wc := ⟨_, rfl⟩
      subst wc
      have hx1 := lt_of_block ZX.out
      have hx2 := BX.out.size
      clear BX FX ZX
      obtain ⟨q0, q1, q2, q3, q4, q5, q6, q7⟩ := bkS F1.out
      obtain ⟨z0, z1, z2, z3, z4, z5, z6, z7⟩ := bkS Z1.out
      have zf := fun i => bk_frz Z1.out i
      go_wp2_with fail
      obtain ⟨RY, gp⟩ := bkS_put Z1.out (.slice Ad nd cd) (.bool fi) (.int .i64 nx) (.int .i64 mx) (.slice A1 L1.length c1) (.slice Aa na ca) (.bool en) (.bool ov)
      obtain ⟨r0, r1, r2, r3, r4, r5, r6, r7⟩ := bkS RY
      refine bodyPost_ret (by simp [results, Try.results29, go_sem, r0, r1, r2, r3, r4, r5, r6, r7]; try rfl) rfl ?_
      exact ⟨_, rfl, .inr ⟨_, _, rfl, own_lowR (own_gr O1.out gp hx1) hx2⟩, gr_from B1.out B1.out.size (Nat.le_succ _) gp⟩
    · have hr0 : room = 0 := by omega
      have hlo : pcLo s room = nx := by unfold pcLo; rw [hps, hls]; simp [hrm, hnx]
      obtain ⟨m4, hm4⟩ : ∃ x, min (min room credit) (min (mx - nx) ((nd : Int) - nx)) = x := ⟨_, rfl⟩
      obtain ⟨nt, hnt⟩ : ∃ x, nx + m4 = x := ⟨_, rfl⟩
      have hn : pcN s room credit = m4 := by
        have : pcN s room credit = 0 := by unfold pcN; rw [hps, hls]; simp [hrm]
        omega
      have hT : pcTo s room credit = nt := by unfold pcTo; rw [hlo, hn]; exact hnt
      have hN : stNext s room credit = nt := by unfold stNext; rw [hT, hnx]; omega
      have hL : stLost s room credit = ps := by unfold stLost; rw [if_neg (by omega), hps]
      rw [hps] at hll hlc
      rw [hT, hN, hL, hlo, hps, hnx, hmx, hnd, hna, hfi, hen, hov]
      have e0 : decide ((0 : Int) < room) = false := by simp; omega
      clear hr0
      rw [hls] at hll hlc ⊢
      obtain ⟨nl, hnl⟩ : ∃ x, (p :: rs).length = x := ⟨_, rfl⟩
      have hnl0 : (0 : Int) < (nl : Int) := by rw [← hnl]; simp only [List.length_cons]; omega
      rw [hnl] at hll hlc ⊢
      obtain ⟨g0, g1, g2⟩ := twoX W #[.slice Ad nd cd, .bool fi, .int .i64 nx, .int .i64 mx, .slice Al nl cl, .slice Aa na ca, .bool en, .bool ov] #[.slice none 0 0, .bool false, .int .i64 0, .int .i64 0, .slice none 0 0, .slice none 0 0, .bool false, .bool false] 27 27
      have F0 := Lib.hid g0
      have Z0 := Lib.hid g1
      have B0 := Lib.hid g2
      have w1 : IntKind.i64.wrap (mx - nx) = mx - nx := by rw [IntKind.wrap_i64]; omega
      have w2 : IntKind.i64.wrap ((nd : Int) - nx) = (nd : Int) - nx := by rw [IntKind.wrap_i64]; omega
      have w3 : IntKind.i64.wrap (nx + m4) = nt := by rw [IntKind.wrap_i64]; omega
      have wm := fun w ts t => run_min4 (P := Try.prog) w ts t .i64 .i64 .i64 .i64 room credit (mx - nx) ((nd : Int) - nx) m4 hm4
      clear hv hw hd hl ha hlr g0 g1 g2 hls hps pis pnew hnx hmx hnd hna hfi hen hov hlo hn hT hN hL HLR HOK HB8 hm4 hnt
      obtain ⟨Y0, hY0⟩ : ∃ x, (W.alloc (.cells #[.slice Ad nd cd, .bool fi, .int .i64 nx, .int .i64 mx, .slice Al nl cl, .slice Aa na ca, .bool en, .bool ov] 27)).alloc (.cells #[.slice none 0 0, .bool false, .int .i64 0, .int .i64 0, .slice none 0 0, .slice none 0 0, .bool false, .bool false] 27) = x := ⟨_, rfl⟩
      rw [hY0] at F0 Z0 B0
      obtain ⟨q0, q1, q2, q3, q4, q5, q6, q7⟩ := bkS F0.out
      have qf := fun i => bk_frz F0.out i
      obtain ⟨Y1, hY1⟩ : ∃ x, Y0.setCell ⟨W.heap.size, 2, none⟩ (.int .i64 nt) = x := ⟨_, rfl⟩
      have g3 := gr_set Y0 W.heap.size 2 (.int .i64 nt)
      have F1 := Lib.hid ((bkS_set F0.out (.int .i64 nt)).2.2.1)
      rw [hY1] at g3 F1
      have Z1 := Lib.hid ((g3.block _ (lt_of_block Z0.out) (by simp)).trans Z0.out)
      have B1 := Lib.hid (gr_from B0.out B0.out.size (Nat.le_refl _) g3)
      clear g3
      obtain ⟨p0, p1, p2, p3, p4, p5, p6, p7⟩ := bkS F1.out
      obtain ⟨z0, z1, z2, z3, z4, z5, z6, z7⟩ := bkS Z1.out
      have zf := fun i => bk_frz Z1.out i
      go_enter Try.func29, Try.ntmps29
      go_upto_region 8 with fail
      obtain ⟨RY, gp⟩ := bkS_put Z1.out (.slice Ad nd cd) (.bool fi) (.int .i64 nt) (.int .i64 mx) (.slice Al nl cl) (.slice Aa na ca) (.bool en) (.bool ov)
      obtain ⟨r0, r1, r2, r3, r4, r5, r6, r7⟩ := bkS RY
      go_region
      all_goals (go_wp2_with fail)
      all_goals (refine bodyPost_ret (by simp [results, Try.results29, go_sem, r0, r1, r2, r3, r4, r5, r6, r7]; try rfl) rfl ?_)
      all_goals exact ⟨_, rfl, .inl (by first | exact ⟨rfl, by first | trivial | rfl⟩ | rfl), (gr_from B1.out B1.out.size (Nat.le_succ _) gp).drew⟩
end Go.Proofs.Ytnccibaifffhhaa
