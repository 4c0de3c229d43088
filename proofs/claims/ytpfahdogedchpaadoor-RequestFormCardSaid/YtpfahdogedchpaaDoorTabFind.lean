/- The project's tables: Find. -/
import Derived.Test.YtpfahdogedchpaaDoorGrpV
import Derived.Laws.EntriesVeiled
import Derived.LoopN
namespace Go.Proofs.YtpfahdogedchpaaDoor
set_option linter.unusedVariables false
open Go.RowKit Go.Shelf P
attribute [local go_sem] Oper.semAt_some

structure PFin1 (w0 : World) (W : World) (S1 S2 : ByteArray) (room put : Int) (A : Option Addr) (N c m : Nat) (bs : Bool) (B : Nat) (wq : World) (V0 V1 V2 V3 V4 V5 V6 : Value) (tb0 tb1 tb2 tb3 tb4 tb5 tb6 tb7 tb8 tb9 : Bool) (tx0 tx1 tx2 tx3 tx4 tx5 tx6 tx7 tx8 tx9 : Value) (w : World) : Prop where
  be : tb7 = false → Below w0.heap.size w0 w
  d1 : tb1 = true → tb0 = true
  d3 : tb3 = true → tb1 = true ∧ tb2 = true
  d6 : tb6 = true → tb1 = true ∧ tb4 = true ∧ tb5 = true
  d7 : tb7 = true → tb0 = true ∧ tb1 = true ∧ tb2 = true ∧ tb3 = true ∧ tb6 = true
  d8 : tb8 = true → tb0 = true ∧ tb1 = true ∧ tb2 = true ∧ tb3 = true ∧ tb4 = true ∧ tb5 = true ∧ tb6 = true ∧ tb7 = true
  d9 : tb9 = true → tb0 = true ∧ tb1 = true ∧ tb2 = true ∧ tb3 = true ∧ tb4 = true ∧ tb5 = true ∧ tb6 = true ∧ tb7 = true ∧ tb8 = true
  rq : tb7 = false → RQ W 3 4 28 (.int .i64 0) (.bool false) (.int .i64 0) w
  h0 : tb0 = true → tx0 = V0
  h1 : tb1 = true → tx1 = V1
  h2 : tb2 = true → tx2 = V2
  h3 : tb3 = true → tx3 = V3
  h4 : tb4 = true → tx4 = V4
  h5 : tb5 = true → tx5 = V5
  h6 : tb6 = true → tx6 = V6
  h7 : tb7 = true → tb8 = false → RQ W 3 4 28 (.int .i64 (put - (N : Int) + (m : Int))) (.bool false) (.int .i64 0) w ∧ KeepsFrom B wq w
  h8 : tb8 = true → tb9 = false → RQ W 3 4 28 (.int .i64 (put - (N : Int) + (m : Int))) (.bool bs) (.int .i64 0) w ∧ KeepsFrom B wq w
  h9 : tb9 = true → RQ W 3 4 28 (.int .i64 (put - (N : Int) + (m : Int))) (.bool bs) (.int .i64 0) w ∧ KeepsFrom B wq w
structure PFin2 (w0 : World) (W : World) (S1 S2 : ByteArray) (room put : Int) (A : Option Addr) (N c m : Nat) (bs : Bool) (B : Nat) (wq : World) (V0 V1 V2 V3 V4 V5 V6 : Value) (tb0 tb1 tb2 tb3 tb4 tb5 tb6 tb7 tb8 tb9 : Bool) (tx0 tx1 tx2 tx3 tx4 tx5 tx6 tx7 tx8 tx9 : Value) (w : World) : Prop where
  be : tb7 = false → Below w0.heap.size w0 w
  d1 : tb1 = true → tb0 = true
  d3 : tb3 = true → tb1 = true ∧ tb2 = true
  d6 : tb6 = true → tb1 = true ∧ tb4 = true ∧ tb5 = true
  d7 : tb7 = true → tb0 = true ∧ tb1 = true ∧ tb2 = true ∧ tb3 = true ∧ tb6 = true
  d8 : tb8 = true → tb0 = true ∧ tb1 = true ∧ tb2 = true ∧ tb3 = true ∧ tb4 = true ∧ tb5 = true ∧ tb6 = true ∧ tb7 = true
  d9 : tb9 = true → tb0 = true ∧ tb1 = true ∧ tb2 = true ∧ tb3 = true ∧ tb4 = true ∧ tb5 = true ∧ tb6 = true ∧ tb7 = true ∧ tb8 = true
  rq : tb7 = false → RQ W 3 4 28 (.int .i64 0) (.bool false) (.int .i64 0) w
  h0 : tb0 = true → tx0 = V0
  h1 : tb1 = true → tx1 = V1
  h2 : tb2 = true → tx2 = V2
  h3 : tb3 = true → tx3 = V3
  h4 : tb4 = true → tx4 = V4
  h5 : tb5 = true → tx5 = V5
  h6 : tb6 = true → tx6 = V6
  h7 : tb7 = true → tb8 = false → RQ W 3 4 28 (.int .i64 (put - (N : Int) + (m : Int))) (.bool false) (.int .i64 0) w ∧ KeepsFrom B wq w
  h8 : tb8 = true → tb9 = false → RQ W 3 4 28 (.int .i64 (put - (N : Int) + (m : Int))) (.bool bs) (.int .i64 0) w ∧ KeepsFrom B wq w
  h9 : tb9 = true → RQ W 3 4 28 (.int .i64 (put - (N : Int) + (m : Int))) (.bool bs) (.int .i64 0) w ∧ KeepsFrom B wq w
set_option maxRecDepth 100000 in
set_option maxHeartbeats 4000000 in
theorem tfin_any : TbFin Tryd.prog 64 := fun v t f W hv hw hf => by
  have HFT := Lib.hid (fun w (hb : Below W.heap.size W w) => tchk_any v t w (hv.on hb) hw)
  obtain ⟨sv, rfl, hs⟩ := hv.ex
  obtain ⟨A, c, rfl, hlc, hcm, hr⟩ := hs.ex
  have HR := Lib.hid hr
  have pb := hw.put
  have hl := hw.len
  have HSM := Lib.hid (fun (y : Fld) hy b w h => fsame_any y f hy hf b w h)
  have HNM := Lib.hid (fun (y : Fld) hy b w h => fnamed_any y f hy hf b w h)
  have hG : finT t f = if faultTb t ≠ 0 then (0, false, faultTb t) else match lastAt (fun x => decide (x = f)) t.rows with
    | some i => (t.put - t.rows.length + i, true, 0)
    | none => match lastAt (fun x => decide (x.name = f.name)) t.rows with
      | some i => (t.put - t.rows.length + i, false, 0)
      | none => (0, false, 5) := rfl
  have hok := fun h : faultTb t = 0 => (faultTb_iff t).1 h
  obtain ⟨x, hx⟩ : ∃ x, faultTb t = x := ⟨_, rfl⟩
  rw [hx] at HFT hok hG
  have HG := Lib.hid hG
  obtain ⟨⟨o1, o2, o3⟩, hO⟩ : ∃ o, finT t f = o := ⟨_, rfl⟩
  rw [hO] at HG ⊢
  have HRW := Lib.hid hw.rows
  obtain ⟨room, put, rows⟩ := t
  simp only at *
  obtain ⟨N, hN⟩ : ∃ N, rows.length = N := ⟨_, rfl⟩
  have HN := Lib.hid hN
  rw [hN] at HFT hlc HG hl ⊢
  unfold maxLen at hcm
  unfold fdV
  obtain ⟨T1, hT1⟩ : ∃ S, strOfNums f.name = S := ⟨_, rfl⟩
  obtain ⟨T2, hT2⟩ : ∃ S, strOfNums f.val = S := ⟨_, rfl⟩
  rw [hT1, hT2] at HSM HNM ⊢
  clear hv hs hr hw hf hx hG hO hT1 hT2
  obtain ⟨f0, g0, q0⟩ := five_bk W #[.int .i64 room, .int .i64 put, .slice A N c] #[.string T1, .string T2] 24 54 (.int .i64 0) (.bool false) (.int .i64 0) 3 4 28 rfl
  have F0 := Lib.hid f0
  have G0 := Lib.hid g0
  have R0 := Lib.hid q0
  clear f0 g0 q0
  refine (callsIn_wide (n := 9)).1 ?_
  refine callsIn_of_wp_marks Tryd.func64 rfl trivial ?_ rfl
  simp only [Tryd.ntmps64, List.size_toArray, List.length_cons, List.length_nil, Nat.reduceAdd, Nat.reduceSub, Array.replicate_succ, Array.replicate_zero, List.push_toArray, List.append_toArray, List.nil_append, List.cons_append]
  refine wpIn_wide.2 ?_
  go_wp2_with fail
  refine (HFT.out _ R0.out.b).mono ?_
  rintro e w1 ⟨rfl, b1⟩
  have F1 := Lib.hid ((b1.block _ (lt_of_block F0.out)).trans F0.out)
  have G1 := Lib.hid ((b1.block _ (lt_of_block G0.out)).trans G0.out)
  have R1 := Lib.hid (R0.out.later b1)
  have hz := lt_of_block R1.out.r2
  clear b1 F0 G0 R0
  by_cases h0 : x = 0
  · subst h0
    obtain ⟨k1, k2, k3, k4, k5⟩ := hok rfl
    simp only at k1 k2 k3 k4
    rw [hN] at k3
    have hw32 := wtL_len rows
    rw [hN] at hw32
    have HG0 := Lib.hid (HG.out.trans (if_neg (fun k => k rfl)))
    clear hok k5 hN HG
    go_wp2_with fail
    refine wp_loop_rounds 3 ?_
    rw [rounds_succ]
    have r0 : ∀ w, (Instr.index 124 (.agg #[(.func (.func 81) #[] #[.pointer (some ⟨W.heap.size + 1, 0, none⟩)]), (.func (.func 82) #[] #[.pointer (some ⟨W.heap.size + 1, 0, none⟩)])]) (.int .i64 0)).run Tryd.prog w = .ok (.func (.func 81) #[] #[.pointer (some ⟨W.heap.size + 1, 0, none⟩)]) w := fun w => run_fn_at 0 (by decide) _ _ w
    have r1 : ∀ w, (Instr.index 124 (.agg #[(.func (.func 81) #[] #[.pointer (some ⟨W.heap.size + 1, 0, none⟩)]), (.func (.func 82) #[] #[.pointer (some ⟨W.heap.size + 1, 0, none⟩)])]) (.int .i64 1)).run Tryd.prog w = .ok (.func (.func 82) #[] #[.pointer (some ⟨W.heap.size + 1, 0, none⟩)]) w := fun w => run_fn_at 1 (by decide) _ _ w
    obtain ⟨c0, c1, c2⟩ := two_bk w1 #[(.func (.func 81) #[] #[.pointer (some ⟨W.heap.size + 1, 0, none⟩)])] #[(.func (.func 81) #[] #[.pointer (some ⟨W.heap.size + 1, 0, none⟩)])] 55 55
    have S1 := Lib.hid c0
    have N1 := Lib.hid c1
    have X1 := Lib.hid c2
    clear c0 c1 c2
    go_upto_region 9 with fail
    obtain ⟨V, hV⟩ : ∃ V, (w1.alloc (.cells #[(.func (.func 81) #[] #[.pointer (some ⟨W.heap.size + 1, 0, none⟩)])] 55)).alloc (.cells #[(.func (.func 81) #[] #[.pointer (some ⟨W.heap.size + 1, 0, none⟩)])] 55) = V := ⟨_, rfl⟩
    rw [hV] at S1 N1 X1 ⊢
    clear hV
    have F2 := Lib.hid ((X1.out.block _ (lt_of_block F1.out)).trans F1.out)
    have G2 := Lib.hid ((X1.out.block _ (lt_of_block G1.out)).trans G1.out)
    have R2 := Lib.hid (R1.out.later X1.out)
    obtain ⟨q0, q1, q2⟩ := bk3T F2.out
    go_wp2_with (go_at_call 83; refine (back_any _ _ _ _).mono ?_; rintro e w' ⟨rfl, rfl⟩)
    clear q0 q1 q2
    have HGN := Lib.hid (fun w => gone_any room put A N c k2 hl w)
    obtain ⟨Y, hY⟩ : ∃ Y, V.alloc (.cells #[.slice A N c] 22) = Y := ⟨_, rfl⟩
    have SB := Lib.hid (heap_alloc_new V (.cells #[.slice A N c] 22))
    have XY := Lib.hid ((Below.refl V.heap.size V).alloc (Nat.le_refl _) (.cells #[.slice A N c] 22))
    rw [hY] at SB XY ⊢
    clear hY
    have F3 := Lib.hid ((XY.out.block _ (lt_of_block F2.out)).trans F2.out)
    have G3 := Lib.hid ((XY.out.block _ (lt_of_block G2.out)).trans G2.out)
    have R3 := Lib.hid (R2.out.later XY.out)
    have S3 := Lib.hid ((XY.out.block _ (lt_of_block S1.out)).trans S1.out)
    have N3 := Lib.hid ((XY.out.block _ (lt_of_block N1.out)).trans N1.out)
    have hWY : W.heap.size ≤ Y.heap.size := R3.out.b.size
    have hrY : RowE FdE Y Y.heap.size A rows := (HR.out.on R3.out.b)
    refine (wpIn_wide (n := 9)).1 ?_
    refine wpIn_rangeFunc_ownH rfl (by decide) (gf := 94) (lb := #[.pointer (some ⟨V.heap.size, 0, none⟩)]) rfl trivial (enters_of Tryd.func94 (by kernel_rfl) rfl)
      (back_stops 8 (by decide) V.heap.size Y.heap.size A N c rows HN.out HRW.out (by rw [HN.out]; omega) (lt_of_block SB.out) Y (Nat.le_refl _) (bk_cell SB.out 0) hrY) belowK_t (belowK_b (Nat.le_refl _)) (Below.refl _ _) (fun _ => rfl)
      (fun pre W' => (∀ z ∈ pre, (fun z : Fld => decide (z = f)) z.1.2 = false) ∧ Below Y.heap.size Y W')
      (fun cd pre W' => cd = .ret ∧ ∃ q z, pre = q ++ [z] ∧ (∀ u ∈ q, (fun z : Fld => decide (z = f)) u.1.2 = false) ∧ (fun z : Fld => decide (z = f)) z.1.2 = true ∧ RQ W 3 4 28 (.int .i64 (put - (N : Int) + (z.1.1 : Int))) (.bool (decide (z.1.2 = f))) (.int .i64 0) W')
      (OwnFrom.and (ownFrom_pure _ _) (ownFrom_below (Nat.le_refl _) (Nat.le_refl _)))
      (fun cd s X Z row hs hg hr => by obtain ⟨hc, q, z, e, u1, u2, u3⟩ := hs; exact ⟨hc, q, z, e, u1, u2, RQ.own Y.heap.size hWY (fun _ => _) (fun _ => _) (fun _ => _) () X Z row u3 hg hr⟩)
      ⟨fun z hz => (by cases hz), Below.refl _ _⟩
      (fun z a' W' => ∃ Bx, W'.heap[Bx]? = some (.cells #[.string (strOfNums z.1.2.name), .string (strOfNums z.1.2.val)] 54 (0, 0)) ∧ a' = { tmps := #[.agg #[.int .i64 room, .int .i64 put, .slice A N c], .agg #[.string T1, .string T2], .pointer (some ⟨W.heap.size, 0, none⟩), .pointer (some ⟨W.heap.size + 1, 0, none⟩), .pointer (some ⟨W.heap.size + 1 + 1, 0, none⟩), .pointer (some ⟨W.heap.size + 1 + 1 + 1, 0, none⟩), .pointer (some ⟨W.heap.size + 1 + 1 + 1 + 1, 0, none⟩), .int .i64 0, .pointer (some ⟨w1.heap.size, 0, none⟩), (.func (.func 82) #[] #[.pointer (some ⟨W.heap.size + 1, 0, none⟩)]), undef, .pointer (some ⟨w1.heap.size + 1, 0, none⟩), .int .i64 (z.1.1 : Int), .pointer (some ⟨Bx, 0, none⟩), .agg #[.int .i64 room, .int .i64 put, .slice A N c], .int .i64 0, .int .i64 0, .bool false, undef, (.func (.func 81) #[] #[.pointer (some ⟨W.heap.size + 1, 0, none⟩)]), (.func (.func 82) #[] #[.pointer (some ⟨W.heap.size + 1, 0, none⟩)]), (.func (.func 81) #[] #[.pointer (some ⟨W.heap.size + 1, 0, none⟩)]), (.func (.func 82) #[] #[.pointer (some ⟨W.heap.size + 1, 0, none⟩)]), .agg #[(.func (.func 81) #[] #[.pointer (some ⟨W.heap.size + 1, 0, none⟩)]), (.func (.func 82) #[] #[.pointer (some ⟨W.heap.size + 1, 0, none⟩)])], .int .i64 0, .bool true, (.func (.func 81) #[] #[.pointer (some ⟨W.heap.size + 1, 0, none⟩)]), .pointer (some ⟨W.heap.size, 2, none⟩), .slice A N c, .func (.func 94) #[] #[.pointer (some ⟨V.heap.size, 0, none⟩)], .int .i64 (z.1.1 : Int), .agg #[.string (strOfNums z.1.2.name), .string (strOfNums z.1.2.val)], undef, undef, undef, undef, undef, undef, undef, undef, undef, undef, undef], defers := [] })
      (fun z a' _ X Z row hs hg hr => by obtain ⟨Bx, u2, u3⟩ := hs; exact ⟨Bx, own_blk Bx (fun (_ : Unit) => .cells #[.string (strOfNums z.1.2.name), .string (strOfNums z.1.2.val)] 54 (0, 0)) (fun _ => rfl) () X Z row u2 hg (fun r e => (hr r e).2), u3⟩)
      ?assign1 ?body1 ?done1 ?stop1
    case assign1 =>
      rintro l pre z W' K ⟨hp, hB⟩ hK
      gi_wp2
      exact hK _ _ ((KeepsOthers.alloc _ _).from _) ((Below.refl Y.heap.size W').alloc hB.size _) ⟨hp, hB.alloc hB.size _⟩ ⟨W'.heap.size, heap_alloc_new W' _, rfl⟩
    case body1 =>
      rintro l pre ⟨⟨m, y⟩, hm, hyw⟩ a' W' hl hr ⟨hp, hB⟩ ⟨Bx, hx, rfl⟩ hlt
      simp only at hm hyw hx ⊢
      have TX4 := Lib.hid hx
      have TG4 := Lib.hid ((hB.block _ (lt_of_block G3.out)).trans G3.out)
      have TF4 := Lib.hid ((hB.block _ (lt_of_block F3.out)).trans F3.out)
      have TS4 := Lib.hid ((hB.block _ (lt_of_block S3.out)).trans S3.out)
      have TN4 := Lib.hid ((hB.block _ (lt_of_block N3.out)).trans N3.out)
      have TR4 := Lib.hid (R3.out.later hB)
      have HCL := Lib.hid (fun w h => HSM.out y hyw (W.heap.size + 1) w h)
      have HSB0 := Lib.hid (fun w h => HSM.out y hyw (W.heap.size + 1) w h)
      have HPR := Lib.hid hp
      have HBB := Lib.hid hB
      obtain ⟨S1, hS1⟩ : ∃ S, strOfNums y.name = S := ⟨_, rfl⟩
      obtain ⟨S2, hS2⟩ : ∃ S, strOfNums y.val = S := ⟨_, rfl⟩
      rw [hS1, hS2] at TX4 HCL HSB0 ⊢
      obtain ⟨bs, hbs⟩ : ∃ b, decide (y = f) = b := ⟨_, rfl⟩
      have HBS := Lib.hid hbs
      have HMY := Lib.hid (show m < 1000 ∧ FdWf y from ⟨hm, hyw⟩)
      rw [hbs] at HSB0
      have HSB := Lib.hid HSB0.out
      have cn := bk_cell TN4.out 0
      obtain ⟨y0, y1⟩ := bk2F TX4.out
      have h1' : 1 ≤ 9 - 1 - 1 := by decide
      clear hx hr hl hlt hp hB hS1 hS2 hbs HSB0
      by_cases hyf : y = f
      · have HYF := Lib.hid hyf
        rw [decide_eq_true hyf] at HCL
        clear hyf
        gi_wp2_with (refine ⟨trivial, ?_⟩; gi_at_call 81; refine (CallsIn.inRound l (callsIn_wide.2 (HCL.out _ TG4.out))).mono ?_; rintro e w5 ⟨rfl, b5⟩)
        have TX5 := Lib.hid ((b5.block _ (lt_of_block TX4.out)).trans TX4.out)
        have TG5 := Lib.hid ((b5.block _ (lt_of_block TG4.out)).trans TG4.out)
        have TF5 := Lib.hid ((b5.block _ (lt_of_block TF4.out)).trans TF4.out)
        have TS5 := Lib.hid ((b5.block _ (lt_of_block TS4.out)).trans TS4.out)
        have TR5 := Lib.hid (TR4.out.later b5)
        have KF5 := Lib.hid (keepsFrom_below (B := Y.heap.size) b5 (Nat.le_refl _))
        have HADD := Lib.hid (show IntKind.i64.wrap (put - (N : Int) + (m : Int)) = put - (N : Int) + (m : Int) by rw [IntKind.wrap_i64]; have := HMY.out.1; omega)
        have b5x := Lib.hid b5
        clear b5 cn y0 y1
        gi_wp2
        refine wpIn_region_inv (fun lis_ act_ wld_ => ∃ (tb0 tb1 tb2 tb3 tb4 tb5 tb6 tb7 tb8 tb9 : Bool) (tx0 tx1 tx2 tx3 tx4 tx5 tx6 tx7 tx8 tx9 : Value), lis_ = #[tb0, tb1, tb2, tb3, tb4, tb5, tb6, tb7, tb8, tb9] ∧ act_ = { tmps := #[Value.agg #[Value.int IntKind.i64 room, Value.int IntKind.i64 put, Value.slice A N c], Value.agg #[Value.string T1, Value.string T2], Value.pointer (some { block := W.heap.size, off := 0 }), Value.pointer (some { block := W.heap.size + 1, off := 0 }), Value.pointer (some { block := W.heap.size + 1 + 1, off := 0 }), Value.pointer (some { block := W.heap.size + 1 + 1 + 1, off := 0 }), Value.pointer (some { block := W.heap.size + 1 + 1 + 1 + 1, off := 0 }), Value.int IntKind.i64 0, Value.pointer (some { block := w1.heap.size, off := 0 }), Value.func (Fn.func 82) #[] #[Value.pointer (some { block := W.heap.size + 1, off := 0 })], undef, Value.pointer (some { block := w1.heap.size + 1, off := 0 }), Value.int IntKind.i64 ↑m, Value.pointer (some { block := Bx, off := 0 }), Value.agg #[Value.int IntKind.i64 room, Value.int IntKind.i64 put, Value.slice A N c], Value.int IntKind.i64 0, Value.int IntKind.i64 0, Value.bool false, undef, Value.func (Fn.func 81) #[] #[Value.pointer (some { block := W.heap.size + 1, off := 0 })], Value.func (Fn.func 82) #[] #[Value.pointer (some { block := W.heap.size + 1, off := 0 })], Value.func (Fn.func 81) #[] #[Value.pointer (some { block := W.heap.size + 1, off := 0 })], Value.func (Fn.func 82) #[] #[Value.pointer (some { block := W.heap.size + 1, off := 0 })], Value.agg #[Value.func (Fn.func 81) #[] #[Value.pointer (some { block := W.heap.size + 1, off := 0 })], Value.func (Fn.func 82) #[] #[Value.pointer (some { block := W.heap.size + 1, off := 0 })]], Value.int IntKind.i64 0, Value.bool true, Value.func (Fn.func 81) #[] #[Value.pointer (some { block := W.heap.size + 1, off := 0 })], Value.pointer (some { block := W.heap.size, off := 2 }), Value.slice A N c, Value.func (Fn.func 94) #[] #[Value.pointer (some { block := V.heap.size, off := 0 })], Value.int IntKind.i64 ↑m, Value.agg #[Value.string S1, Value.string S2], Value.func (Fn.func 81) #[] #[Value.pointer (some { block := W.heap.size + 1, off := 0 })], Value.agg #[Value.string S1, Value.string S2], Value.bool true, tx0, tx1, tx2, tx3, tx4, tx5, tx6, undef], defers := [] } ∧ PFin1 w5 W S1 S2 room put A N c m bs 0 w5 (.agg #[.int .i64 room, .int .i64 put, .slice A N c]) (.int .i64 (put - (N : Int))) (.int .i64 (m : Int)) (.int .i64 (put - (N : Int) + (m : Int))) ((.func (.func 81) #[] #[.pointer (some ⟨W.heap.size + 1, 0, none⟩)])) (.agg #[.string S1, .string S2]) (.bool bs) tb0 tb1 tb2 tb3 tb4 tb5 tb6 tb7 tb8 tb9 tx0 tx1 tx2 tx3 tx4 tx5 tx6 tx7 tx8 tx9 wld_) (by kernel_rfl) ?h0 ?hfin ?hI
        case h0 => exact ⟨_, _, _, _, _, _, _, _, _, _, _, _, _, _, _, _, _, undef, undef, undef, rfl, rfl, ⟨(fun _ => (Below.refl _ _).drew), (fun h => by cases h), (fun h => by cases h), (fun h => by cases h), (fun h => by cases h), (fun h => by cases h), (fun h => by cases h), (fun _ => TR5.out.later (Below.refl _ _).drew), (fun h => by cases h), (fun h => by cases h), (fun h => by cases h), (fun h => by cases h), (fun h => by cases h), (fun h => by cases h), (fun h => by cases h), (fun h => by cases h), (fun h => by cases h), (fun h => by cases h)⟩⟩
        case hI =>
          rintro listed a w ⟨tb0, tb1, tb2, tb3, tb4, tb5, tb6, tb7, tb8, tb9, tx0, tx1, tx2, tx3, tx4, tx5, tx6, tx7, tx8, tx9, rfl, rfl, H⟩ i hi
          obtain ⟨hun, oj, hoj, hall⟩ := mem_ready.1 hi
          clear hi
          rcases i with _ | _ | _ | _ | _ | _ | _ | _ | _ | _ | i
          · have ho := hoj
            simp only [List.getElem?_toArray, List.getElem?_cons_succ, List.getElem?_cons_zero, Option.some.injEq] at hoj
            subst hoj
            obtain rfl : tb0 = false := hun
            clear hall
            obtain rfl : tb1 = false := Bool.eq_false_iff.2 fun h => Bool.false_ne_true (H.d1 h)
            obtain rfl : tb3 = false := Bool.eq_false_iff.2 fun h => Bool.false_ne_true (H.d3 h).1
            obtain rfl : tb6 = false := Bool.eq_false_iff.2 fun h => Bool.false_ne_true (H.d6 h).1
            obtain rfl : tb7 = false := Bool.eq_false_iff.2 fun h => Bool.false_ne_true (H.d7 h).1
            obtain rfl : tb8 = false := Bool.eq_false_iff.2 fun h => Bool.false_ne_true (H.d8 h).1
            obtain rfl : tb9 = false := Bool.eq_false_iff.2 fun h => Bool.false_ne_true (H.d9 h).1
            have hbe := H.be rfl
            have hx_rq := H.rq rfl
            obtain ⟨q0, q1, q2⟩ := bk3T ((hbe.block _ (lt_of_block TF5.out)).trans TF5.out)
            refine wpOpIn_stepR ho (fun c h => by cases h) (fun K' hK => ?_)
            have HK := Lib.hid hK
            clear hK ho
            go_simp
            exact HK.out _ _ ⟨_, _, _, _, _, _, _, _, _, _, _, _, _, _, _, _, _, tx7, tx8, tx9, rfl, rfl, ⟨(fun _ => hbe), (fun h => by cases h), H.d3, H.d6, (fun h => by cases h), (fun h => by cases h), (fun h => by cases h), H.rq, (fun _ => rfl), H.h1, H.h2, H.h3, H.h4, H.h5, H.h6, (fun h => by cases h), (fun h => by cases h), (fun h => by cases h)⟩⟩
          · have ho := hoj
            simp only [List.getElem?_toArray, List.getElem?_cons_succ, List.getElem?_cons_zero, Option.some.injEq] at hoj
            subst hoj
            obtain rfl : tb1 = false := hun
            obtain rfl : tb0 = true := hall ⟨0, .data⟩ (by simp) (by kernel_rfl)
            clear hall
            obtain rfl : tb3 = false := Bool.eq_false_iff.2 fun h => Bool.false_ne_true (H.d3 h).1
            obtain rfl : tb6 = false := Bool.eq_false_iff.2 fun h => Bool.false_ne_true (H.d6 h).1
            obtain rfl : tb7 = false := Bool.eq_false_iff.2 fun h => Bool.false_ne_true (H.d7 h).2.1
            obtain rfl : tb8 = false := Bool.eq_false_iff.2 fun h => Bool.false_ne_true (H.d8 h).2.1
            obtain rfl : tb9 = false := Bool.eq_false_iff.2 fun h => Bool.false_ne_true (H.d9 h).2.1
            have hbe := H.be rfl
            have hx_rq := H.rq rfl
            obtain rfl := H.h0 rfl
            refine wpOpIn_stepR ho (fun c h => by cases h) (fun K' hK => ?_)
            have HK := Lib.hid hK
            clear hK ho
            go_wp2_with fail
            refine (HGN.out _).mono ?_
            rintro e w9 ⟨rfl, tb9⟩
            have BC := Lib.hid tb9
            clear tb9
            go_wp2_with fail
            exact HK.out _ _ ⟨_, _, _, _, _, _, _, _, _, _, _, _, _, _, _, _, _, tx7, tx8, tx9, rfl, rfl, ⟨(fun _ => hbe.trans (BC.out.mono hbe.size)), (fun _ => rfl), (fun h => by cases h), (fun h => by cases h), (fun h => by cases h), (fun h => by cases h), (fun h => by cases h), (fun _ => RQ.later hx_rq BC.out), H.h0, (fun _ => rfl), H.h2, H.h3, H.h4, H.h5, H.h6, (fun h => by cases h), (fun h => by cases h), (fun h => by cases h)⟩⟩
          · have ho := hoj
            simp only [List.getElem?_toArray, List.getElem?_cons_succ, List.getElem?_cons_zero, Option.some.injEq] at hoj
            subst hoj
            obtain rfl : tb2 = false := hun
            clear hall
            obtain rfl : tb3 = false := Bool.eq_false_iff.2 fun h => Bool.false_ne_true (H.d3 h).2
            obtain rfl : tb7 = false := Bool.eq_false_iff.2 fun h => Bool.false_ne_true (H.d7 h).2.2.1
            obtain rfl : tb8 = false := Bool.eq_false_iff.2 fun h => Bool.false_ne_true (H.d8 h).2.2.1
            obtain rfl : tb9 = false := Bool.eq_false_iff.2 fun h => Bool.false_ne_true (H.d9 h).2.2.1
            have hbe := H.be rfl
            have hx_rq := H.rq rfl
            refine wpOpIn_stepR ho (fun c h => by cases h) (fun K' hK => ?_)
            have HK := Lib.hid hK
            clear hK ho
            go_simp
            exact HK.out _ _ ⟨_, _, _, _, _, _, _, _, _, _, _, _, _, _, _, _, _, tx7, tx8, tx9, rfl, rfl, ⟨(fun _ => hbe), H.d1, (fun h => by cases h), H.d6, (fun h => by cases h), (fun h => by cases h), (fun h => by cases h), H.rq, H.h0, H.h1, (fun _ => rfl), H.h3, H.h4, H.h5, H.h6, (fun h => by cases h), (fun h => by cases h), (fun h => by cases h)⟩⟩
          · have ho := hoj
            simp only [List.getElem?_toArray, List.getElem?_cons_succ, List.getElem?_cons_zero, Option.some.injEq] at hoj
            subst hoj
            obtain rfl : tb3 = false := hun
            obtain rfl : tb1 = true := hall ⟨1, .data⟩ (by simp) (by kernel_rfl)
            obtain rfl : tb2 = true := hall ⟨2, .data⟩ (by simp) (by kernel_rfl)
            obtain rfl : tb0 = true := (H.d1 rfl)
            clear hall
            obtain rfl : tb7 = false := Bool.eq_false_iff.2 fun h => Bool.false_ne_true (H.d7 h).2.2.2.1
            obtain rfl : tb8 = false := Bool.eq_false_iff.2 fun h => Bool.false_ne_true (H.d8 h).2.2.2.1
            obtain rfl : tb9 = false := Bool.eq_false_iff.2 fun h => Bool.false_ne_true (H.d9 h).2.2.2.1
            have hbe := H.be rfl
            have hx_rq := H.rq rfl
            obtain rfl := H.h0 rfl
            obtain rfl := H.h1 rfl
            obtain rfl := H.h2 rfl
            have hadd := HADD.out
            refine wpOpIn_stepR ho (fun c h => by cases h) (fun K' hK => ?_)
            have HK := Lib.hid hK
            clear hK ho
            go_simp
            exact HK.out _ _ ⟨_, _, _, _, _, _, _, _, _, _, _, _, _, _, _, _, _, tx7, tx8, tx9, rfl, rfl, ⟨(fun _ => hbe), H.d1, (fun _ => ⟨rfl, rfl⟩), H.d6, (fun h => by cases h), (fun h => by cases h), (fun h => by cases h), H.rq, H.h0, H.h1, H.h2, (fun _ => rfl), H.h4, H.h5, H.h6, (fun h => by cases h), (fun h => by cases h), (fun h => by cases h)⟩⟩
          · have ho := hoj
            simp only [List.getElem?_toArray, List.getElem?_cons_succ, List.getElem?_cons_zero, Option.some.injEq] at hoj
            subst hoj
            obtain rfl : tb4 = false := hun
            clear hall
            obtain rfl : tb6 = false := Bool.eq_false_iff.2 fun h => Bool.false_ne_true (H.d6 h).2.1
            obtain rfl : tb7 = false := Bool.eq_false_iff.2 fun h => Bool.false_ne_true (H.d7 h).2.2.2.2
            obtain rfl : tb8 = false := Bool.eq_false_iff.2 fun h => Bool.false_ne_true (H.d8 h).2.2.2.2.1
            obtain rfl : tb9 = false := Bool.eq_false_iff.2 fun h => Bool.false_ne_true (H.d9 h).2.2.2.2.1
            have hbe := H.be rfl
            have hx_rq := H.rq rfl
            have s0 := bk_cell ((hbe.block _ (lt_of_block TS5.out)).trans TS5.out) 0
            refine wpOpIn_stepR ho (fun c h => by cases h) (fun K' hK => ?_)
            have HK := Lib.hid hK
            clear hK ho
            go_simp
            exact HK.out _ _ ⟨_, _, _, _, _, _, _, _, _, _, _, _, _, _, _, _, _, tx7, tx8, tx9, rfl, rfl, ⟨(fun _ => hbe), H.d1, H.d3, (fun h => by cases h), H.d7, (fun h => by cases h), (fun h => by cases h), H.rq, H.h0, H.h1, H.h2, H.h3, (fun _ => rfl), H.h5, H.h6, (fun h => by cases h), (fun h => by cases h), (fun h => by cases h)⟩⟩
          · have ho := hoj
            simp only [List.getElem?_toArray, List.getElem?_cons_succ, List.getElem?_cons_zero, Option.some.injEq] at hoj
            subst hoj
            obtain rfl : tb5 = false := hun
            clear hall
            obtain rfl : tb6 = false := Bool.eq_false_iff.2 fun h => Bool.false_ne_true (H.d6 h).2.2
            obtain rfl : tb7 = false := Bool.eq_false_iff.2 fun h => Bool.false_ne_true (H.d7 h).2.2.2.2
            obtain rfl : tb8 = false := Bool.eq_false_iff.2 fun h => Bool.false_ne_true (H.d8 h).2.2.2.2.2.1
            obtain rfl : tb9 = false := Bool.eq_false_iff.2 fun h => Bool.false_ne_true (H.d9 h).2.2.2.2.2.1
            have hbe := H.be rfl
            have hx_rq := H.rq rfl
            obtain ⟨y0, y1⟩ := bk2F ((hbe.block _ (lt_of_block TX5.out)).trans TX5.out)
            refine wpOpIn_stepR ho (fun c h => by cases h) (fun K' hK => ?_)
            have HK := Lib.hid hK
            clear hK ho
            go_simp
            exact HK.out _ _ ⟨_, _, _, _, _, _, _, _, _, _, _, _, _, _, _, _, _, tx7, tx8, tx9, rfl, rfl, ⟨(fun _ => hbe), H.d1, H.d3, (fun h => by cases h), H.d7, (fun h => by cases h), (fun h => by cases h), H.rq, H.h0, H.h1, H.h2, H.h3, H.h4, (fun _ => rfl), H.h6, (fun h => by cases h), (fun h => by cases h), (fun h => by cases h)⟩⟩
          · have ho := hoj
            simp only [List.getElem?_toArray, List.getElem?_cons_succ, List.getElem?_cons_zero, Option.some.injEq] at hoj
            subst hoj
            obtain rfl : tb6 = false := hun
            obtain rfl : tb1 = true := hall ⟨1, .chain⟩ (by simp) (by kernel_rfl)
            obtain rfl : tb4 = true := hall ⟨4, .data⟩ (by simp) (by kernel_rfl)
            obtain rfl : tb5 = true := hall ⟨5, .data⟩ (by simp) (by kernel_rfl)
            obtain rfl : tb0 = true := (H.d1 rfl)
            clear hall
            obtain rfl : tb7 = false := Bool.eq_false_iff.2 fun h => Bool.false_ne_true (H.d7 h).2.2.2.2
            obtain rfl : tb8 = false := Bool.eq_false_iff.2 fun h => Bool.false_ne_true (H.d8 h).2.2.2.2.2.2.1
            obtain rfl : tb9 = false := Bool.eq_false_iff.2 fun h => Bool.false_ne_true (H.d9 h).2.2.2.2.2.2.1
            have hbe := H.be rfl
            have hx_rq := H.rq rfl
            obtain rfl := H.h0 rfl
            obtain rfl := H.h1 rfl
            obtain rfl := H.h4 rfl
            obtain rfl := H.h5 rfl
            refine wpOpIn_stepR ho (fun c h => by cases h) (fun K' hK => ?_)
            have HK := Lib.hid hK
            clear hK ho
            go_wp2_with fail
            refine (HSB.out _ ((hbe.block _ (lt_of_block TG5.out)).trans TG5.out)).mono ?_
            rintro e w9 ⟨rfl, tb9⟩
            have BC := Lib.hid tb9
            clear tb9
            go_wp2_with fail
            exact HK.out _ _ ⟨_, _, _, _, _, _, _, _, _, _, _, _, _, _, _, _, _, tx7, tx8, tx9, rfl, rfl, ⟨(fun _ => hbe.trans (BC.out.mono hbe.size)), H.d1, H.d3, (fun _ => ⟨rfl, rfl, rfl⟩), (fun h => by cases h), (fun h => by cases h), (fun h => by cases h), (fun _ => RQ.later hx_rq BC.out), H.h0, H.h1, H.h2, H.h3, H.h4, H.h5, (fun _ => rfl), (fun h => by cases h), (fun h => by cases h), (fun h => by cases h)⟩⟩
          · have ho := hoj
            simp only [List.getElem?_toArray, List.getElem?_cons_succ, List.getElem?_cons_zero, Option.some.injEq] at hoj
            subst hoj
            obtain rfl : tb7 = false := hun
            obtain rfl : tb0 = true := hall ⟨0, .phase⟩ (by simp) (by kernel_rfl)
            obtain rfl : tb1 = true := hall ⟨1, .phase⟩ (by simp) (by kernel_rfl)
            obtain rfl : tb2 = true := hall ⟨2, .phase⟩ (by simp) (by kernel_rfl)
            obtain rfl : tb3 = true := hall ⟨3, .data⟩ (by simp) (by kernel_rfl)
            obtain rfl : tb6 = true := hall ⟨6, .chain⟩ (by simp) (by kernel_rfl)
            obtain rfl : tb4 = true := (H.d6 rfl).2.1
            obtain rfl : tb5 = true := (H.d6 rfl).2.2
            clear hall
            obtain rfl : tb8 = false := Bool.eq_false_iff.2 fun h => Bool.false_ne_true (H.d8 h).2.2.2.2.2.2.2
            obtain rfl : tb9 = false := Bool.eq_false_iff.2 fun h => Bool.false_ne_true (H.d9 h).2.2.2.2.2.2.2.1
            have hbe := H.be rfl
            have hx_rq := H.rq rfl
            obtain rfl := H.h0 rfl
            obtain rfl := H.h1 rfl
            obtain rfl := H.h2 rfl
            obtain rfl := H.h3 rfl
            obtain rfl := H.h4 rfl
            obtain rfl := H.h5 rfl
            obtain rfl := H.h6 rfl
            have RK := Lib.hid (hx_rq)
            have KK := Lib.hid (keepsFrom_below (B := 0) hbe (Nat.le_refl _))
            obtain ⟨r0, r1, r2⟩ := RK.out.cells
            have z0 := bk_frz RK.out.r0 0
            have KS := Lib.hid ((KeepsOthers.setCell w ⟨W.heap.size + 2, 0, none⟩ (.int .i64 (put - (N : Int) + (m : Int)))).from 0)
            refine wpOpIn_stepR ho (fun c h => by cases h) (fun K' hK => ?_)
            have HK := Lib.hid hK
            clear hK ho
            go_simp
            exact HK.out _ _ ⟨_, _, _, _, _, _, _, _, _, _, _, _, _, _, _, _, _, tx7, tx8, tx9, rfl, rfl, ⟨(fun h => by cases h), H.d1, H.d3, H.d6, (fun _ => ⟨rfl, rfl, rfl, rfl, rfl⟩), (fun h => by cases h), (fun h => by cases h), (fun h => by cases h), H.h0, H.h1, H.h2, H.h3, H.h4, H.h5, H.h6, (fun _ _ => ⟨RK.out.put0 (.int .i64 (put - (N : Int) + (m : Int))), KK.out.trans KS.out⟩), (fun h => by cases h), (fun h => by cases h)⟩⟩
          · have ho := hoj
            simp only [List.getElem?_toArray, List.getElem?_cons_succ, List.getElem?_cons_zero, Option.some.injEq] at hoj
            subst hoj
            obtain rfl : tb8 = false := hun
            obtain rfl : tb0 = true := hall ⟨0, .phase⟩ (by simp) (by kernel_rfl)
            obtain rfl : tb1 = true := hall ⟨1, .phase⟩ (by simp) (by kernel_rfl)
            obtain rfl : tb2 = true := hall ⟨2, .phase⟩ (by simp) (by kernel_rfl)
            obtain rfl : tb3 = true := hall ⟨3, .phase⟩ (by simp) (by kernel_rfl)
            obtain rfl : tb4 = true := hall ⟨4, .phase⟩ (by simp) (by kernel_rfl)
            obtain rfl : tb5 = true := hall ⟨5, .phase⟩ (by simp) (by kernel_rfl)
            obtain rfl : tb6 = true := hall ⟨6, .data⟩ (by simp) (by kernel_rfl)
            obtain rfl : tb7 = true := hall ⟨7, .chain⟩ (by simp) (by kernel_rfl)
            clear hall
            obtain rfl : tb9 = false := Bool.eq_false_iff.2 fun h => Bool.false_ne_true (H.d9 h).2.2.2.2.2.2.2.2
            obtain rfl := H.h0 rfl
            obtain rfl := H.h1 rfl
            obtain rfl := H.h2 rfl
            obtain rfl := H.h3 rfl
            obtain rfl := H.h4 rfl
            obtain rfl := H.h5 rfl
            obtain rfl := H.h6 rfl
            have P7 := H.h7 rfl rfl
            have RK := Lib.hid (P7.1)
            have KK := Lib.hid (P7.2)
            obtain ⟨r0, r1, r2⟩ := RK.out.cells
            have z1 := bk_frz RK.out.r1 0
            have KS := Lib.hid ((KeepsOthers.setCell w ⟨W.heap.size + 3, 0, none⟩ (.bool bs)).from 0)
            refine wpOpIn_stepR ho (fun c h => by cases h) (fun K' hK => ?_)
            have HK := Lib.hid hK
            clear hK ho
            go_simp
            exact HK.out _ _ ⟨_, _, _, _, _, _, _, _, _, _, _, _, _, _, _, _, _, tx7, tx8, tx9, rfl, rfl, ⟨(fun h => by cases h), H.d1, H.d3, H.d6, H.d7, (fun _ => ⟨rfl, rfl, rfl, rfl, rfl, rfl, rfl, rfl⟩), (fun h => by cases h), (fun h => by cases h), H.h0, H.h1, H.h2, H.h3, H.h4, H.h5, H.h6, (fun _ h => by cases h), (fun _ _ => ⟨RK.out.put1 (.bool bs), KK.out.trans KS.out⟩), (fun h => by cases h)⟩⟩
          · have ho := hoj
            simp only [List.getElem?_toArray, List.getElem?_cons_succ, List.getElem?_cons_zero, Option.some.injEq] at hoj
            subst hoj
            obtain rfl : tb9 = false := hun
            obtain rfl : tb0 = true := hall ⟨0, .phase⟩ (by simp) (by kernel_rfl)
            obtain rfl : tb1 = true := hall ⟨1, .phase⟩ (by simp) (by kernel_rfl)
            obtain rfl : tb2 = true := hall ⟨2, .phase⟩ (by simp) (by kernel_rfl)
            obtain rfl : tb3 = true := hall ⟨3, .phase⟩ (by simp) (by kernel_rfl)
            obtain rfl : tb4 = true := hall ⟨4, .phase⟩ (by simp) (by kernel_rfl)
            obtain rfl : tb5 = true := hall ⟨5, .phase⟩ (by simp) (by kernel_rfl)
            obtain rfl : tb6 = true := hall ⟨6, .phase⟩ (by simp) (by kernel_rfl)
            obtain rfl : tb7 = true := hall ⟨7, .phase⟩ (by simp) (by kernel_rfl)
            obtain rfl : tb8 = true := hall ⟨8, .chain⟩ (by simp) (by kernel_rfl)
            clear hall
            obtain rfl := H.h0 rfl
            obtain rfl := H.h1 rfl
            obtain rfl := H.h2 rfl
            obtain rfl := H.h3 rfl
            obtain rfl := H.h4 rfl
            obtain rfl := H.h5 rfl
            obtain rfl := H.h6 rfl
            have P8 := H.h8 rfl rfl
            have RK := Lib.hid (P8.1)
            have KK := Lib.hid (P8.2)
            obtain ⟨r0, r1, r2⟩ := RK.out.cells
            have z2 := bk_frz RK.out.r2 0
            have KS := Lib.hid ((KeepsOthers.setCell w ⟨W.heap.size + 4, 0, none⟩ (.int .i64 0)).from 0)
            refine wpOpIn_stepR ho (fun c h => by cases h) (fun K' hK => ?_)
            have HK := Lib.hid hK
            clear hK ho
            go_simp
            exact HK.out _ _ ⟨_, _, _, _, _, _, _, _, _, _, _, _, _, _, _, _, _, tx7, tx8, tx9, rfl, rfl, ⟨(fun h => by cases h), H.d1, H.d3, H.d6, H.d7, H.d8, (fun _ => ⟨rfl, rfl, rfl, rfl, rfl, rfl, rfl, rfl, rfl⟩), (fun h => by cases h), H.h0, H.h1, H.h2, H.h3, H.h4, H.h5, H.h6, (fun _ h => by cases h), (fun _ h => by cases h), (fun _ => ⟨RK.out.put2 (.int .i64 0), KK.out.trans KS.out⟩)⟩⟩
          · have ho := hoj
            simp at ho
        case hfin =>
          rintro listed a w ⟨tb0, tb1, tb2, tb3, tb4, tb5, tb6, tb7, tb8, tb9, tx0, tx1, tx2, tx3, tx4, tx5, tx6, tx7, tx8, tx9, rfl, rfl, H⟩ hr
          have hb : tb9 = true := by
            clear H
            revert tb0 tb1 tb2 tb3 tb4 tb5 tb6 tb7 tb8 tb9
            decide +kernel
          subst hb
          clear hr
          obtain rfl : tb0 = true := (H.d9 rfl).1
          obtain rfl : tb1 = true := (H.d9 rfl).2.1
          obtain rfl : tb2 = true := (H.d9 rfl).2.2.1
          obtain rfl : tb3 = true := (H.d9 rfl).2.2.2.1
          obtain rfl : tb4 = true := (H.d9 rfl).2.2.2.2.1
          obtain rfl : tb5 = true := (H.d9 rfl).2.2.2.2.2.1
          obtain rfl : tb6 = true := (H.d9 rfl).2.2.2.2.2.2.1
          obtain rfl : tb7 = true := (H.d9 rfl).2.2.2.2.2.2.2.1
          obtain rfl : tb8 = true := (H.d9 rfl).2.2.2.2.2.2.2.2
          obtain ⟨hrq, hkf⟩ := H.h9 rfl
          clear H
          have HRQ := Lib.hid hrq
          have HKF := Lib.hid (KF5.out.trans (keepsFrom_zero hkf Y.heap.size))
          clear hrq hkf
          gi_wp2
          exact ⟨HKF.out, rfl, pre, ⟨(m, y), HMY.out⟩, rfl, HPR.out, decide_eq_true HYF.out, by rw [HBS.out]; exact HRQ.out⟩
      · have HYF := Lib.hid hyf
        rw [decide_eq_false hyf] at HCL
        clear hyf
        gi_wp2_with (refine ⟨trivial, ?_⟩; gi_at_call 81; refine (CallsIn.inRound l (callsIn_wide.2 (HCL.out _ TG4.out))).mono ?_; rintro e w5 ⟨rfl, b5⟩)
        have KF5 := Lib.hid (keepsFrom_below (B := Y.heap.size) b5 (Nat.le_refl _))
        have KP5 := Lib.hid (b5.mono HBB.out.size)
        clear b5 cn y0 y1
        gi_wp2
        exact ⟨KF5.out, KP5.out, fun z hz => by rcases List.mem_append.1 hz with hz | hz; (exact HPR.out z hz); (rw [List.mem_singleton.1 hz]; exact decide_eq_false HYF.out), HBB.out.trans KP5.out⟩
    case done1 =>
      rintro D1 ys U hD1 rfl ⟨hp, hB⟩ hK1
      have HNONE := Lib.hid (fiUp_none (p := (fun z : Fld => decide (z = f))) HN.out hp)
      have F4 := Lib.hid ((hB.block _ (lt_of_block F3.out)).trans F3.out)
      have G4 := Lib.hid ((hB.block _ (lt_of_block G3.out)).trans G3.out)
      have R4 := Lib.hid (R3.out.later hB)
      have S4 := Lib.hid ((hB.block _ (lt_of_block S3.out)).trans S3.out)
      have hWD1 : W.heap.size ≤ D1 := Nat.le_trans hWY hD1
      have K4 := Lib.hid hK1
      have XV := Lib.hid ((Below.refl U.heap.size U).alloc (Nat.le_refl _) (.cells #[(.func (.func 82) #[] #[.pointer (some ⟨W.heap.size + 1, 0, none⟩)])] 55))
      have N1 := Lib.hid (heap_alloc_new U (.cells #[(.func (.func 82) #[] #[.pointer (some ⟨W.heap.size + 1, 0, none⟩)])] 55))
      clear hp hB hD1 hK1 hWY hrY SB XY F2 G2 R2 S1
      go_wp2_with fail
      rw [rounds_succ]
      go_upto_region 9 with fail
      obtain ⟨V, hV⟩ : ∃ V, U.alloc (.cells #[(.func (.func 82) #[] #[.pointer (some ⟨W.heap.size + 1, 0, none⟩)])] 55) = V := ⟨_, rfl⟩
      rw [hV] at XV N1 ⊢
      clear hV
      have F2 := Lib.hid ((XV.out.block _ (lt_of_block F4.out)).trans F4.out)
      have G2 := Lib.hid ((XV.out.block _ (lt_of_block G4.out)).trans G4.out)
      have R2 := Lib.hid (R4.out.later XV.out)
      have S1 := Lib.hid ((XV.out.block _ (lt_of_block S4.out)).trans S4.out)
      have K2 := Lib.hid ((XV.out.block _ (lt_of_block K4.out)).trans K4.out)
      obtain ⟨q0, q1, q2⟩ := bk3T F2.out
      go_wp2_with (go_at_call 83; refine (back_any _ _ _ _).mono ?_; rintro e w' ⟨rfl, rfl⟩)
      clear q0 q1 q2
      obtain ⟨Y, hY⟩ : ∃ Y, V.alloc (.cells #[.slice A N c] 22) = Y := ⟨_, rfl⟩
      have SB := Lib.hid (heap_alloc_new V (.cells #[.slice A N c] 22))
      have XY := Lib.hid ((Below.refl V.heap.size V).alloc (Nat.le_refl _) (.cells #[.slice A N c] 22))
      rw [hY] at SB XY ⊢
      clear hY
      have F3 := Lib.hid ((XY.out.block _ (lt_of_block F2.out)).trans F2.out)
      have G3 := Lib.hid ((XY.out.block _ (lt_of_block G2.out)).trans G2.out)
      have R3 := Lib.hid (R2.out.later XY.out)
      have S3 := Lib.hid ((XY.out.block _ (lt_of_block S1.out)).trans S1.out)
      have N3 := Lib.hid ((XY.out.block _ (lt_of_block N1.out)).trans N1.out)
      have KY := Lib.hid ((XY.out.block _ (lt_of_block K2.out)).trans K2.out)
      have hWY : W.heap.size ≤ Y.heap.size := R3.out.b.size
      have hrY : RowE FdE Y Y.heap.size A rows := (HR.out.on R3.out.b)
      refine (wpIn_wide (n := 9)).1 ?_
      refine wpIn_rangeFunc_ownH rfl (by decide) (gf := 94) (lb := #[.pointer (some ⟨V.heap.size, 0, none⟩)]) rfl trivial (enters_of Tryd.func94 (by kernel_rfl) rfl)
        (back_stops 8 (by decide) V.heap.size Y.heap.size A N c rows HN.out HRW.out (by rw [HN.out]; omega) (lt_of_block SB.out) Y (Nat.le_refl _) (bk_cell SB.out 0) hrY) belowK_t (belowK_b (Nat.le_refl _)) (Below.refl _ _) (fun _ => rfl)
        (fun pre W' => (∀ z ∈ pre, (fun z : Fld => decide (z.name = f.name)) z.1.2 = false) ∧ Below Y.heap.size Y W')
        (fun cd pre W' => cd = .ret ∧ ∃ q z, pre = q ++ [z] ∧ (∀ u ∈ q, (fun z : Fld => decide (z.name = f.name)) u.1.2 = false) ∧ (fun z : Fld => decide (z.name = f.name)) z.1.2 = true ∧ RQ W 3 4 28 (.int .i64 (put - (N : Int) + (z.1.1 : Int))) (.bool (decide (z.1.2 = f))) (.int .i64 0) W' ∧ W'.heap[D1]? = some (.deferred (some [])))
        (OwnFrom.and (ownFrom_pure _ _) (ownFrom_below (Nat.le_refl _) (Nat.le_refl _)))
        (fun cd s X Z row hs hg hr => by obtain ⟨hc, q, z, e, u1, u2, u3, u4⟩ := hs; exact ⟨hc, q, z, e, u1, u2, RQ.own Y.heap.size hWY (fun _ => _) (fun _ => _) (fun _ => _) () X Z row u3 hg hr, (hg.block D1 (lt_of_block u4) (fun e => by have := (hr _ e.symm).1; have := lt_of_block KY.out; omega)).trans u4⟩)
        ⟨fun z hz => (by cases hz), Below.refl _ _⟩
        (fun z a' W' => ∃ Bx, W'.heap[Bx]? = some (.cells #[.string (strOfNums z.1.2.name), .string (strOfNums z.1.2.val)] 54 (0, 0)) ∧ a' = { tmps := #[.agg #[.int .i64 room, .int .i64 put, .slice A N c], .agg #[.string T1, .string T2], .pointer (some ⟨W.heap.size, 0, none⟩), .pointer (some ⟨W.heap.size + 1, 0, none⟩), .pointer (some ⟨W.heap.size + 1 + 1, 0, none⟩), .pointer (some ⟨W.heap.size + 1 + 1 + 1, 0, none⟩), .pointer (some ⟨W.heap.size + 1 + 1 + 1 + 1, 0, none⟩), .int .i64 0, .pointer (some ⟨w1.heap.size, 0, none⟩), (.func (.func 82) #[] #[.pointer (some ⟨W.heap.size + 1, 0, none⟩)]), undef, .pointer (some ⟨U.heap.size, 0, none⟩), .int .i64 (z.1.1 : Int), .pointer (some ⟨Bx, 0, none⟩), .agg #[.int .i64 room, .int .i64 put, .slice A N c], .int .i64 0, .int .i64 0, .bool false, undef, (.func (.func 81) #[] #[.pointer (some ⟨W.heap.size + 1, 0, none⟩)]), (.func (.func 82) #[] #[.pointer (some ⟨W.heap.size + 1, 0, none⟩)]), (.func (.func 81) #[] #[.pointer (some ⟨W.heap.size + 1, 0, none⟩)]), (.func (.func 82) #[] #[.pointer (some ⟨W.heap.size + 1, 0, none⟩)]), .agg #[(.func (.func 81) #[] #[.pointer (some ⟨W.heap.size + 1, 0, none⟩)]), (.func (.func 82) #[] #[.pointer (some ⟨W.heap.size + 1, 0, none⟩)])], .int .i64 1, .bool true, (.func (.func 82) #[] #[.pointer (some ⟨W.heap.size + 1, 0, none⟩)]), .pointer (some ⟨W.heap.size, 2, none⟩), .slice A N c, .func (.func 94) #[] #[.pointer (some ⟨V.heap.size, 0, none⟩)], .int .i64 (z.1.1 : Int), .agg #[.string (strOfNums z.1.2.name), .string (strOfNums z.1.2.val)], undef, undef, undef, undef, undef, undef, undef, undef, undef, undef, .int .i64 1], defers := [] })
        (fun z a' _ X Z row hs hg hr => by obtain ⟨Bx, u2, u3⟩ := hs; exact ⟨Bx, own_blk Bx (fun (_ : Unit) => .cells #[.string (strOfNums z.1.2.name), .string (strOfNums z.1.2.val)] 54 (0, 0)) (fun _ => rfl) () X Z row u2 hg (fun r e => (hr r e).2), u3⟩)
        ?assign2 ?body2 ?done2 ?stop2
      case assign2 =>
        rintro l pre z W' K ⟨hp, hB⟩ hK
        gi_wp2
        exact hK _ _ ((KeepsOthers.alloc _ _).from _) ((Below.refl Y.heap.size W').alloc hB.size _) ⟨hp, hB.alloc hB.size _⟩ ⟨W'.heap.size, heap_alloc_new W' _, rfl⟩
      case body2 =>
        rintro l pre ⟨⟨m, y⟩, hm, hyw⟩ a' W' hl hr ⟨hp, hB⟩ ⟨Bx, hx, rfl⟩ hlt
        simp only at hm hyw hx ⊢
        have TX4 := Lib.hid hx
        have TG4 := Lib.hid ((hB.block _ (lt_of_block G3.out)).trans G3.out)
        have TF4 := Lib.hid ((hB.block _ (lt_of_block F3.out)).trans F3.out)
        have TS4 := Lib.hid ((hB.block _ (lt_of_block S3.out)).trans S3.out)
        have TN4 := Lib.hid ((hB.block _ (lt_of_block N3.out)).trans N3.out)
        have TR4 := Lib.hid (R3.out.later hB)
        have HCL := Lib.hid (fun w h => HNM.out y hyw (W.heap.size + 1) w h)
        have HSB0 := Lib.hid (fun w h => HSM.out y hyw (W.heap.size + 1) w h)
        have HPR := Lib.hid hp
        have HBB := Lib.hid hB
        obtain ⟨S1, hS1⟩ : ∃ S, strOfNums y.name = S := ⟨_, rfl⟩
        obtain ⟨S2, hS2⟩ : ∃ S, strOfNums y.val = S := ⟨_, rfl⟩
        rw [hS1, hS2] at TX4 HCL HSB0 ⊢
        obtain ⟨bs, hbs⟩ : ∃ b, decide (y = f) = b := ⟨_, rfl⟩
        have HBS := Lib.hid hbs
        have HMY := Lib.hid (show m < 1000 ∧ FdWf y from ⟨hm, hyw⟩)
        rw [hbs] at HSB0
        have HSB := Lib.hid HSB0.out
        have cn := bk_cell TN4.out 0
        obtain ⟨y0, y1⟩ := bk2F TX4.out
        have h1' : 1 ≤ 9 - 1 - 1 := by decide
        clear hx hr hl hlt hp hB hS1 hS2 hbs HSB0
        by_cases hyf : y.name = f.name
        · have HYF := Lib.hid hyf
          rw [decide_eq_true hyf] at HCL
          clear hyf
          gi_wp2_with (refine ⟨trivial, ?_⟩; gi_at_call 82; refine (CallsIn.inRound l (callsIn_wide.2 (HCL.out _ TG4.out))).mono ?_; rintro e w5 ⟨rfl, b5⟩)
          have TX5 := Lib.hid ((b5.block _ (lt_of_block TX4.out)).trans TX4.out)
          have TG5 := Lib.hid ((b5.block _ (lt_of_block TG4.out)).trans TG4.out)
          have TF5 := Lib.hid ((b5.block _ (lt_of_block TF4.out)).trans TF4.out)
          have TS5 := Lib.hid ((b5.block _ (lt_of_block TS4.out)).trans TS4.out)
          have TR5 := Lib.hid (TR4.out.later b5)
          have KF5 := Lib.hid (keepsFrom_below (B := Y.heap.size) b5 (Nat.le_refl _))
          have HADD := Lib.hid (show IntKind.i64.wrap (put - (N : Int) + (m : Int)) = put - (N : Int) + (m : Int) by rw [IntKind.wrap_i64]; have := HMY.out.1; omega)
          have b5x := Lib.hid b5
          clear b5 cn y0 y1
          gi_wp2
          refine wpIn_region_inv (fun lis_ act_ wld_ => ∃ (tb0 tb1 tb2 tb3 tb4 tb5 tb6 tb7 tb8 tb9 : Bool) (tx0 tx1 tx2 tx3 tx4 tx5 tx6 tx7 tx8 tx9 : Value), lis_ = #[tb0, tb1, tb2, tb3, tb4, tb5, tb6, tb7, tb8, tb9] ∧ act_ = { tmps := #[Value.agg #[Value.int IntKind.i64 room, Value.int IntKind.i64 put, Value.slice A N c], Value.agg #[Value.string T1, Value.string T2], Value.pointer (some { block := W.heap.size, off := 0 }), Value.pointer (some { block := W.heap.size + 1, off := 0 }), Value.pointer (some { block := W.heap.size + 1 + 1, off := 0 }), Value.pointer (some { block := W.heap.size + 1 + 1 + 1, off := 0 }), Value.pointer (some { block := W.heap.size + 1 + 1 + 1 + 1, off := 0 }), Value.int IntKind.i64 0, Value.pointer (some { block := w1.heap.size, off := 0 }), Value.func (Fn.func 82) #[] #[Value.pointer (some { block := W.heap.size + 1, off := 0 })], undef, Value.pointer (some { block := U.heap.size, off := 0 }), Value.int IntKind.i64 ↑m, Value.pointer (some { block := Bx, off := 0 }), Value.agg #[Value.int IntKind.i64 room, Value.int IntKind.i64 put, Value.slice A N c], Value.int IntKind.i64 0, Value.int IntKind.i64 0, Value.bool false, undef, Value.func (Fn.func 81) #[] #[Value.pointer (some { block := W.heap.size + 1, off := 0 })], Value.func (Fn.func 82) #[] #[Value.pointer (some { block := W.heap.size + 1, off := 0 })], Value.func (Fn.func 81) #[] #[Value.pointer (some { block := W.heap.size + 1, off := 0 })], Value.func (Fn.func 82) #[] #[Value.pointer (some { block := W.heap.size + 1, off := 0 })], Value.agg #[Value.func (Fn.func 81) #[] #[Value.pointer (some { block := W.heap.size + 1, off := 0 })], Value.func (Fn.func 82) #[] #[Value.pointer (some { block := W.heap.size + 1, off := 0 })]], Value.int IntKind.i64 1, Value.bool true, Value.func (Fn.func 82) #[] #[Value.pointer (some { block := W.heap.size + 1, off := 0 })], Value.pointer (some { block := W.heap.size, off := 2 }), Value.slice A N c, Value.func (Fn.func 94) #[] #[Value.pointer (some { block := V.heap.size, off := 0 })], Value.int IntKind.i64 ↑m, Value.agg #[Value.string S1, Value.string S2], Value.func (Fn.func 82) #[] #[Value.pointer (some { block := W.heap.size + 1, off := 0 })], Value.agg #[Value.string S1, Value.string S2], Value.bool true, tx0, tx1, tx2, tx3, tx4, tx5, tx6, Value.int IntKind.i64 1], defers := [] } ∧ PFin2 w5 W S1 S2 room put A N c m bs 0 w5 (.agg #[.int .i64 room, .int .i64 put, .slice A N c]) (.int .i64 (put - (N : Int))) (.int .i64 (m : Int)) (.int .i64 (put - (N : Int) + (m : Int))) ((.func (.func 81) #[] #[.pointer (some ⟨W.heap.size + 1, 0, none⟩)])) (.agg #[.string S1, .string S2]) (.bool bs) tb0 tb1 tb2 tb3 tb4 tb5 tb6 tb7 tb8 tb9 tx0 tx1 tx2 tx3 tx4 tx5 tx6 tx7 tx8 tx9 wld_) (by kernel_rfl) ?h0 ?hfin ?hI
          case h0 => exact ⟨_, _, _, _, _, _, _, _, _, _, _, _, _, _, _, _, _, undef, undef, undef, rfl, rfl, ⟨(fun _ => (Below.refl _ _).drew), (fun h => by cases h), (fun h => by cases h), (fun h => by cases h), (fun h => by cases h), (fun h => by cases h), (fun h => by cases h), (fun _ => TR5.out.later (Below.refl _ _).drew), (fun h => by cases h), (fun h => by cases h), (fun h => by cases h), (fun h => by cases h), (fun h => by cases h), (fun h => by cases h), (fun h => by cases h), (fun h => by cases h), (fun h => by cases h), (fun h => by cases h)⟩⟩
          case hI =>
            rintro listed a w ⟨tb0, tb1, tb2, tb3, tb4, tb5, tb6, tb7, tb8, tb9, tx0, tx1, tx2, tx3, tx4, tx5, tx6, tx7, tx8, tx9, rfl, rfl, H⟩ i hi
            obtain ⟨hun, oj, hoj, hall⟩ := mem_ready.1 hi
            clear hi
            rcases i with _ | _ | _ | _ | _ | _ | _ | _ | _ | _ | i
            · have ho := hoj
              simp only [List.getElem?_toArray, List.getElem?_cons_succ, List.getElem?_cons_zero, Option.some.injEq] at hoj
              subst hoj
              obtain rfl : tb0 = false := hun
              clear hall
              obtain rfl : tb1 = false := Bool.eq_false_iff.2 fun h => Bool.false_ne_true (H.d1 h)
              obtain rfl : tb3 = false := Bool.eq_false_iff.2 fun h => Bool.false_ne_true (H.d3 h).1
              obtain rfl : tb6 = false := Bool.eq_false_iff.2 fun h => Bool.false_ne_true (H.d6 h).1
              obtain rfl : tb7 = false := Bool.eq_false_iff.2 fun h => Bool.false_ne_true (H.d7 h).1
              obtain rfl : tb8 = false := Bool.eq_false_iff.2 fun h => Bool.false_ne_true (H.d8 h).1
              obtain rfl : tb9 = false := Bool.eq_false_iff.2 fun h => Bool.false_ne_true (H.d9 h).1
              have hbe := H.be rfl
              have hx_rq := H.rq rfl
              obtain ⟨q0, q1, q2⟩ := bk3T ((hbe.block _ (lt_of_block TF5.out)).trans TF5.out)
              refine wpOpIn_stepR ho (fun c h => by cases h) (fun K' hK => ?_)
              have HK := Lib.hid hK
              clear hK ho
              go_simp
              exact HK.out _ _ ⟨_, _, _, _, _, _, _, _, _, _, _, _, _, _, _, _, _, tx7, tx8, tx9, rfl, rfl, ⟨(fun _ => hbe), (fun h => by cases h), H.d3, H.d6, (fun h => by cases h), (fun h => by cases h), (fun h => by cases h), H.rq, (fun _ => rfl), H.h1, H.h2, H.h3, H.h4, H.h5, H.h6, (fun h => by cases h), (fun h => by cases h), (fun h => by cases h)⟩⟩
            · have ho := hoj
              simp only [List.getElem?_toArray, List.getElem?_cons_succ, List.getElem?_cons_zero, Option.some.injEq] at hoj
              subst hoj
              obtain rfl : tb1 = false := hun
              obtain rfl : tb0 = true := hall ⟨0, .data⟩ (by simp) (by kernel_rfl)
              clear hall
              obtain rfl : tb3 = false := Bool.eq_false_iff.2 fun h => Bool.false_ne_true (H.d3 h).1
              obtain rfl : tb6 = false := Bool.eq_false_iff.2 fun h => Bool.false_ne_true (H.d6 h).1
              obtain rfl : tb7 = false := Bool.eq_false_iff.2 fun h => Bool.false_ne_true (H.d7 h).2.1
              obtain rfl : tb8 = false := Bool.eq_false_iff.2 fun h => Bool.false_ne_true (H.d8 h).2.1
              obtain rfl : tb9 = false := Bool.eq_false_iff.2 fun h => Bool.false_ne_true (H.d9 h).2.1
              have hbe := H.be rfl
              have hx_rq := H.rq rfl
              obtain rfl := H.h0 rfl
              refine wpOpIn_stepR ho (fun c h => by cases h) (fun K' hK => ?_)
              have HK := Lib.hid hK
              clear hK ho
              go_wp2_with fail
              refine (HGN.out _).mono ?_
              rintro e w9 ⟨rfl, tb9⟩
              have BC := Lib.hid tb9
              clear tb9
              go_wp2_with fail
              exact HK.out _ _ ⟨_, _, _, _, _, _, _, _, _, _, _, _, _, _, _, _, _, tx7, tx8, tx9, rfl, rfl, ⟨(fun _ => hbe.trans (BC.out.mono hbe.size)), (fun _ => rfl), (fun h => by cases h), (fun h => by cases h), (fun h => by cases h), (fun h => by cases h), (fun h => by cases h), (fun _ => RQ.later hx_rq BC.out), H.h0, (fun _ => rfl), H.h2, H.h3, H.h4, H.h5, H.h6, (fun h => by cases h), (fun h => by cases h), (fun h => by cases h)⟩⟩
            · have ho := hoj
              simp only [List.getElem?_toArray, List.getElem?_cons_succ, List.getElem?_cons_zero, Option.some.injEq] at hoj
              subst hoj
              obtain rfl : tb2 = false := hun
              clear hall
              obtain rfl : tb3 = false := Bool.eq_false_iff.2 fun h => Bool.false_ne_true (H.d3 h).2
              obtain rfl : tb7 = false := Bool.eq_false_iff.2 fun h => Bool.false_ne_true (H.d7 h).2.2.1
              obtain rfl : tb8 = false := Bool.eq_false_iff.2 fun h => Bool.false_ne_true (H.d8 h).2.2.1
              obtain rfl : tb9 = false := Bool.eq_false_iff.2 fun h => Bool.false_ne_true (H.d9 h).2.2.1
              have hbe := H.be rfl
              have hx_rq := H.rq rfl
              refine wpOpIn_stepR ho (fun c h => by cases h) (fun K' hK => ?_)
              have HK := Lib.hid hK
              clear hK ho
              go_simp
              exact HK.out _ _ ⟨_, _, _, _, _, _, _, _, _, _, _, _, _, _, _, _, _, tx7, tx8, tx9, rfl, rfl, ⟨(fun _ => hbe), H.d1, (fun h => by cases h), H.d6, (fun h => by cases h), (fun h => by cases h), (fun h => by cases h), H.rq, H.h0, H.h1, (fun _ => rfl), H.h3, H.h4, H.h5, H.h6, (fun h => by cases h), (fun h => by cases h), (fun h => by cases h)⟩⟩
            · have ho := hoj
              simp only [List.getElem?_toArray, List.getElem?_cons_succ, List.getElem?_cons_zero, Option.some.injEq] at hoj
              subst hoj
              obtain rfl : tb3 = false := hun
              obtain rfl : tb1 = true := hall ⟨1, .data⟩ (by simp) (by kernel_rfl)
              obtain rfl : tb2 = true := hall ⟨2, .data⟩ (by simp) (by kernel_rfl)
              obtain rfl : tb0 = true := (H.d1 rfl)
              clear hall
              obtain rfl : tb7 = false := Bool.eq_false_iff.2 fun h => Bool.false_ne_true (H.d7 h).2.2.2.1
              obtain rfl : tb8 = false := Bool.eq_false_iff.2 fun h => Bool.false_ne_true (H.d8 h).2.2.2.1
              obtain rfl : tb9 = false := Bool.eq_false_iff.2 fun h => Bool.false_ne_true (H.d9 h).2.2.2.1
              have hbe := H.be rfl
              have hx_rq := H.rq rfl
              obtain rfl := H.h0 rfl
              obtain rfl := H.h1 rfl
              obtain rfl := H.h2 rfl
              have hadd := HADD.out
              refine wpOpIn_stepR ho (fun c h => by cases h) (fun K' hK => ?_)
              have HK := Lib.hid hK
              clear hK ho
              go_simp
              exact HK.out _ _ ⟨_, _, _, _, _, _, _, _, _, _, _, _, _, _, _, _, _, tx7, tx8, tx9, rfl, rfl, ⟨(fun _ => hbe), H.d1, (fun _ => ⟨rfl, rfl⟩), H.d6, (fun h => by cases h), (fun h => by cases h), (fun h => by cases h), H.rq, H.h0, H.h1, H.h2, (fun _ => rfl), H.h4, H.h5, H.h6, (fun h => by cases h), (fun h => by cases h), (fun h => by cases h)⟩⟩
            · have ho := hoj
              simp only [List.getElem?_toArray, List.getElem?_cons_succ, List.getElem?_cons_zero, Option.some.injEq] at hoj
              subst hoj
              obtain rfl : tb4 = false := hun
              clear hall
              obtain rfl : tb6 = false := Bool.eq_false_iff.2 fun h => Bool.false_ne_true (H.d6 h).2.1
              obtain rfl : tb7 = false := Bool.eq_false_iff.2 fun h => Bool.false_ne_true (H.d7 h).2.2.2.2
              obtain rfl : tb8 = false := Bool.eq_false_iff.2 fun h => Bool.false_ne_true (H.d8 h).2.2.2.2.1
              obtain rfl : tb9 = false := Bool.eq_false_iff.2 fun h => Bool.false_ne_true (H.d9 h).2.2.2.2.1
              have hbe := H.be rfl
              have hx_rq := H.rq rfl
              have s0 := bk_cell ((hbe.block _ (lt_of_block TS5.out)).trans TS5.out) 0
              refine wpOpIn_stepR ho (fun c h => by cases h) (fun K' hK => ?_)
              have HK := Lib.hid hK
              clear hK ho
              go_simp
              exact HK.out _ _ ⟨_, _, _, _, _, _, _, _, _, _, _, _, _, _, _, _, _, tx7, tx8, tx9, rfl, rfl, ⟨(fun _ => hbe), H.d1, H.d3, (fun h => by cases h), H.d7, (fun h => by cases h), (fun h => by cases h), H.rq, H.h0, H.h1, H.h2, H.h3, (fun _ => rfl), H.h5, H.h6, (fun h => by cases h), (fun h => by cases h), (fun h => by cases h)⟩⟩
            · have ho := hoj
              simp only [List.getElem?_toArray, List.getElem?_cons_succ, List.getElem?_cons_zero, Option.some.injEq] at hoj
              subst hoj
              obtain rfl : tb5 = false := hun
              clear hall
              obtain rfl : tb6 = false := Bool.eq_false_iff.2 fun h => Bool.false_ne_true (H.d6 h).2.2
              obtain rfl : tb7 = false := Bool.eq_false_iff.2 fun h => Bool.false_ne_true (H.d7 h).2.2.2.2
              obtain rfl : tb8 = false := Bool.eq_false_iff.2 fun h => Bool.false_ne_true (H.d8 h).2.2.2.2.2.1
              obtain rfl : tb9 = false := Bool.eq_false_iff.2 fun h => Bool.false_ne_true (H.d9 h).2.2.2.2.2.1
              have hbe := H.be rfl
              have hx_rq := H.rq rfl
              obtain ⟨y0, y1⟩ := bk2F ((hbe.block _ (lt_of_block TX5.out)).trans TX5.out)
              refine wpOpIn_stepR ho (fun c h => by cases h) (fun K' hK => ?_)
              have HK := Lib.hid hK
              clear hK ho
              go_simp
              exact HK.out _ _ ⟨_, _, _, _, _, _, _, _, _, _, _, _, _, _, _, _, _, tx7, tx8, tx9, rfl, rfl, ⟨(fun _ => hbe), H.d1, H.d3, (fun h => by cases h), H.d7, (fun h => by cases h), (fun h => by cases h), H.rq, H.h0, H.h1, H.h2, H.h3, H.h4, (fun _ => rfl), H.h6, (fun h => by cases h), (fun h => by cases h), (fun h => by cases h)⟩⟩
            · have ho := hoj
              simp only [List.getElem?_toArray, List.getElem?_cons_succ, List.getElem?_cons_zero, Option.some.injEq] at hoj
              subst hoj
              obtain rfl : tb6 = false := hun
              obtain rfl : tb1 = true := hall ⟨1, .chain⟩ (by simp) (by kernel_rfl)
              obtain rfl : tb4 = true := hall ⟨4, .data⟩ (by simp) (by kernel_rfl)
              obtain rfl : tb5 = true := hall ⟨5, .data⟩ (by simp) (by kernel_rfl)
              obtain rfl : tb0 = true := (H.d1 rfl)
              clear hall
              obtain rfl : tb7 = false := Bool.eq_false_iff.2 fun h => Bool.false_ne_true (H.d7 h).2.2.2.2
              obtain rfl : tb8 = false := Bool.eq_false_iff.2 fun h => Bool.false_ne_true (H.d8 h).2.2.2.2.2.2.1
              obtain rfl : tb9 = false := Bool.eq_false_iff.2 fun h => Bool.false_ne_true (H.d9 h).2.2.2.2.2.2.1
              have hbe := H.be rfl
              have hx_rq := H.rq rfl
              obtain rfl := H.h0 rfl
              obtain rfl := H.h1 rfl
              obtain rfl := H.h4 rfl
              obtain rfl := H.h5 rfl
              refine wpOpIn_stepR ho (fun c h => by cases h) (fun K' hK => ?_)
              have HK := Lib.hid hK
              clear hK ho
              go_wp2_with fail
              refine (HSB.out _ ((hbe.block _ (lt_of_block TG5.out)).trans TG5.out)).mono ?_
              rintro e w9 ⟨rfl, tb9⟩
              have BC := Lib.hid tb9
              clear tb9
              go_wp2_with fail
              exact HK.out _ _ ⟨_, _, _, _, _, _, _, _, _, _, _, _, _, _, _, _, _, tx7, tx8, tx9, rfl, rfl, ⟨(fun _ => hbe.trans (BC.out.mono hbe.size)), H.d1, H.d3, (fun _ => ⟨rfl, rfl, rfl⟩), (fun h => by cases h), (fun h => by cases h), (fun h => by cases h), (fun _ => RQ.later hx_rq BC.out), H.h0, H.h1, H.h2, H.h3, H.h4, H.h5, (fun _ => rfl), (fun h => by cases h), (fun h => by cases h), (fun h => by cases h)⟩⟩
            · have ho := hoj
              simp only [List.getElem?_toArray, List.getElem?_cons_succ, List.getElem?_cons_zero, Option.some.injEq] at hoj
              subst hoj
              obtain rfl : tb7 = false := hun
              obtain rfl : tb0 = true := hall ⟨0, .phase⟩ (by simp) (by kernel_rfl)
              obtain rfl : tb1 = true := hall ⟨1, .phase⟩ (by simp) (by kernel_rfl)
              obtain rfl : tb2 = true := hall ⟨2, .phase⟩ (by simp) (by kernel_rfl)
              obtain rfl : tb3 = true := hall ⟨3, .data⟩ (by simp) (by kernel_rfl)
              obtain rfl : tb6 = true := hall ⟨6, .chain⟩ (by simp) (by kernel_rfl)
              obtain rfl : tb4 = true := (H.d6 rfl).2.1
              obtain rfl : tb5 = true := (H.d6 rfl).2.2
              clear hall
              obtain rfl : tb8 = false := Bool.eq_false_iff.2 fun h => Bool.false_ne_true (H.d8 h).2.2.2.2.2.2.2
              obtain rfl : tb9 = false := Bool.eq_false_iff.2 fun h => Bool.false_ne_true (H.d9 h).2.2.2.2.2.2.2.1
              have hbe := H.be rfl
              have hx_rq := H.rq rfl
              obtain rfl := H.h0 rfl
              obtain rfl := H.h1 rfl
              obtain rfl := H.h2 rfl
              obtain rfl := H.h3 rfl
              obtain rfl := H.h4 rfl
              obtain rfl := H.h5 rfl
              obtain rfl := H.h6 rfl
              have RK := Lib.hid (hx_rq)
              have KK := Lib.hid (keepsFrom_below (B := 0) hbe (Nat.le_refl _))
              obtain ⟨r0, r1, r2⟩ := RK.out.cells
              have z0 := bk_frz RK.out.r0 0
              have KS := Lib.hid ((KeepsOthers.setCell w ⟨W.heap.size + 2, 0, none⟩ (.int .i64 (put - (N : Int) + (m : Int)))).from 0)
              refine wpOpIn_stepR ho (fun c h => by cases h) (fun K' hK => ?_)
              have HK := Lib.hid hK
              clear hK ho
              go_simp
              exact HK.out _ _ ⟨_, _, _, _, _, _, _, _, _, _, _, _, _, _, _, _, _, tx7, tx8, tx9, rfl, rfl, ⟨(fun h => by cases h), H.d1, H.d3, H.d6, (fun _ => ⟨rfl, rfl, rfl, rfl, rfl⟩), (fun h => by cases h), (fun h => by cases h), (fun h => by cases h), H.h0, H.h1, H.h2, H.h3, H.h4, H.h5, H.h6, (fun _ _ => ⟨RK.out.put0 (.int .i64 (put - (N : Int) + (m : Int))), KK.out.trans KS.out⟩), (fun h => by cases h), (fun h => by cases h)⟩⟩
            · have ho := hoj
              simp only [List.getElem?_toArray, List.getElem?_cons_succ, List.getElem?_cons_zero, Option.some.injEq] at hoj
              subst hoj
              obtain rfl : tb8 = false := hun
              obtain rfl : tb0 = true := hall ⟨0, .phase⟩ (by simp) (by kernel_rfl)
              obtain rfl : tb1 = true := hall ⟨1, .phase⟩ (by simp) (by kernel_rfl)
              obtain rfl : tb2 = true := hall ⟨2, .phase⟩ (by simp) (by kernel_rfl)
              obtain rfl : tb3 = true := hall ⟨3, .phase⟩ (by simp) (by kernel_rfl)
              obtain rfl : tb4 = true := hall ⟨4, .phase⟩ (by simp) (by kernel_rfl)
              obtain rfl : tb5 = true := hall ⟨5, .phase⟩ (by simp) (by kernel_rfl)
              obtain rfl : tb6 = true := hall ⟨6, .data⟩ (by simp) (by kernel_rfl)
              obtain rfl : tb7 = true := hall ⟨7, .chain⟩ (by simp) (by kernel_rfl)
              clear hall
              obtain rfl : tb9 = false := Bool.eq_false_iff.2 fun h => Bool.false_ne_true (H.d9 h).2.2.2.2.2.2.2.2
              obtain rfl := H.h0 rfl
              obtain rfl := H.h1 rfl
              obtain rfl := H.h2 rfl
              obtain rfl := H.h3 rfl
              obtain rfl := H.h4 rfl
              obtain rfl := H.h5 rfl
              obtain rfl := H.h6 rfl
              have P7 := H.h7 rfl rfl
              have RK := Lib.hid (P7.1)
              have KK := Lib.hid (P7.2)
              obtain ⟨r0, r1, r2⟩ := RK.out.cells
              have z1 := bk_frz RK.out.r1 0
              have KS := Lib.hid ((KeepsOthers.setCell w ⟨W.heap.size + 3, 0, none⟩ (.bool bs)).from 0)
              refine wpOpIn_stepR ho (fun c h => by cases h) (fun K' hK => ?_)
              have HK := Lib.hid hK
              clear hK ho
              go_simp
              exact HK.out _ _ ⟨_, _, _, _, _, _, _, _, _, _, _, _, _, _, _, _, _, tx7, tx8, tx9, rfl, rfl, ⟨(fun h => by cases h), H.d1, H.d3, H.d6, H.d7, (fun _ => ⟨rfl, rfl, rfl, rfl, rfl, rfl, rfl, rfl⟩), (fun h => by cases h), (fun h => by cases h), H.h0, H.h1, H.h2, H.h3, H.h4, H.h5, H.h6, (fun _ h => by cases h), (fun _ _ => ⟨RK.out.put1 (.bool bs), KK.out.trans KS.out⟩), (fun h => by cases h)⟩⟩
            · have ho := hoj
              simp only [List.getElem?_toArray, List.getElem?_cons_succ, List.getElem?_cons_zero, Option.some.injEq] at hoj
              subst hoj
              obtain rfl : tb9 = false := hun
              obtain rfl : tb0 = true := hall ⟨0, .phase⟩ (by simp) (by kernel_rfl)
              obtain rfl : tb1 = true := hall ⟨1, .phase⟩ (by simp) (by kernel_rfl)
              obtain rfl : tb2 = true := hall ⟨2, .phase⟩ (by simp) (by kernel_rfl)
              obtain rfl : tb3 = true := hall ⟨3, .phase⟩ (by simp) (by kernel_rfl)
              obtain rfl : tb4 = true := hall ⟨4, .phase⟩ (by simp) (by kernel_rfl)
              obtain rfl : tb5 = true := hall ⟨5, .phase⟩ (by simp) (by kernel_rfl)
              obtain rfl : tb6 = true := hall ⟨6, .phase⟩ (by simp) (by kernel_rfl)
              obtain rfl : tb7 = true := hall ⟨7, .phase⟩ (by simp) (by kernel_rfl)
              obtain rfl : tb8 = true := hall ⟨8, .chain⟩ (by simp) (by kernel_rfl)
              clear hall
              obtain rfl := H.h0 rfl
              obtain rfl := H.h1 rfl
              obtain rfl := H.h2 rfl
              obtain rfl := H.h3 rfl
              obtain rfl := H.h4 rfl
              obtain rfl := H.h5 rfl
              obtain rfl := H.h6 rfl
              have P8 := H.h8 rfl rfl
              have RK := Lib.hid (P8.1)
              have KK := Lib.hid (P8.2)
              obtain ⟨r0, r1, r2⟩ := RK.out.cells
              have z2 := bk_frz RK.out.r2 0
              have KS := Lib.hid ((KeepsOthers.setCell w ⟨W.heap.size + 4, 0, none⟩ (.int .i64 0)).from 0)
              refine wpOpIn_stepR ho (fun c h => by cases h) (fun K' hK => ?_)
              have HK := Lib.hid hK
              clear hK ho
              go_simp
              exact HK.out _ _ ⟨_, _, _, _, _, _, _, _, _, _, _, _, _, _, _, _, _, tx7, tx8, tx9, rfl, rfl, ⟨(fun h => by cases h), H.d1, H.d3, H.d6, H.d7, H.d8, (fun _ => ⟨rfl, rfl, rfl, rfl, rfl, rfl, rfl, rfl, rfl⟩), (fun h => by cases h), H.h0, H.h1, H.h2, H.h3, H.h4, H.h5, H.h6, (fun _ h => by cases h), (fun _ h => by cases h), (fun _ => ⟨RK.out.put2 (.int .i64 0), KK.out.trans KS.out⟩)⟩⟩
            · have ho := hoj
              simp at ho
          case hfin =>
            rintro listed a w ⟨tb0, tb1, tb2, tb3, tb4, tb5, tb6, tb7, tb8, tb9, tx0, tx1, tx2, tx3, tx4, tx5, tx6, tx7, tx8, tx9, rfl, rfl, H⟩ hr
            have hb : tb9 = true := by
              clear H
              revert tb0 tb1 tb2 tb3 tb4 tb5 tb6 tb7 tb8 tb9
              decide +kernel
            subst hb
            clear hr
            obtain rfl : tb0 = true := (H.d9 rfl).1
            obtain rfl : tb1 = true := (H.d9 rfl).2.1
            obtain rfl : tb2 = true := (H.d9 rfl).2.2.1
            obtain rfl : tb3 = true := (H.d9 rfl).2.2.2.1
            obtain rfl : tb4 = true := (H.d9 rfl).2.2.2.2.1
            obtain rfl : tb5 = true := (H.d9 rfl).2.2.2.2.2.1
            obtain rfl : tb6 = true := (H.d9 rfl).2.2.2.2.2.2.1
            obtain rfl : tb7 = true := (H.d9 rfl).2.2.2.2.2.2.2.1
            obtain rfl : tb8 = true := (H.d9 rfl).2.2.2.2.2.2.2.2
            obtain ⟨hrq, hkf⟩ := H.h9 rfl
            clear H
            have HRQ := Lib.hid hrq
            have HKF := Lib.hid (KF5.out.trans (keepsFrom_zero hkf Y.heap.size))
            have HD5 := Lib.hid (hkf.same D1 _ (Nat.zero_le _) ((b5x.out.block _ (Nat.lt_of_lt_of_le (lt_of_block KY.out) HBB.out.size)).trans ((HBB.out.block _ (lt_of_block KY.out)).trans KY.out)) rfl)
            clear hrq hkf
            gi_wp2
            exact ⟨HKF.out, rfl, pre, ⟨(m, y), HMY.out⟩, rfl, HPR.out, decide_eq_true HYF.out, by rw [HBS.out]; exact HRQ.out, HD5.out⟩
        · have HYF := Lib.hid hyf
          rw [decide_eq_false hyf] at HCL
          clear hyf
          gi_wp2_with (refine ⟨trivial, ?_⟩; gi_at_call 82; refine (CallsIn.inRound l (callsIn_wide.2 (HCL.out _ TG4.out))).mono ?_; rintro e w5 ⟨rfl, b5⟩)
          have KF5 := Lib.hid (keepsFrom_below (B := Y.heap.size) b5 (Nat.le_refl _))
          have KP5 := Lib.hid (b5.mono HBB.out.size)
          clear b5 cn y0 y1
          gi_wp2
          exact ⟨KF5.out, KP5.out, fun z hz => by rcases List.mem_append.1 hz with hz | hz; (exact HPR.out z hz); (rw [List.mem_singleton.1 hz]; exact decide_eq_false HYF.out), HBB.out.trans KP5.out⟩
      case done2 =>
        rintro D ys W2 hD rfl ⟨hp, hB⟩ hK
        have hnn := fiUp_none (p := (fun z : Fld => decide (z.name = f.name))) HN.out hp
        have HX := HG0.out
        rw [HNONE.out, hnn] at HX
        simp only at HX
        obtain ⟨rfl, rfl, rfl⟩ : o1 = 0 ∧ o2 = false ∧ o3 = 5 := by simpa using HX
        have R5 := Lib.hid (R3.out.later hB)
        have K5 := Lib.hid ((hB.block _ (lt_of_block KY.out)).trans KY.out)
        obtain ⟨r0, r1, r2⟩ := R5.out.cells
        have z0 := bk_frz R5.out.r0 0
        have z1 := bk_frz R5.out.r1 0
        have z2 := bk_frz R5.out.r2 0
        clear hnn HX HG0 hp hB
        go_wp2_with fail
        rw [rounds_succ]
        go_wp2_with fail
        have q := ((R5.out.put0 (.int .i64 0)).put1 (.bool false)).put2 (.int .i64 5)
        have hKa := (KeepsOthers.setCell _ ⟨W.heap.size + 1 + 1 + 1 + 1, 0, none⟩ (.int .i64 5)).same D _ ((KeepsOthers.setCell _ ⟨W.heap.size + 1 + 1 + 1, 0, none⟩ (.bool false)).same D _ ((KeepsOthers.setCell W2 ⟨W.heap.size + 1 + 1, 0, none⟩ (.int .i64 0)).same D _ hK rfl) rfl) rfl
        have hKb := (KeepsOthers.setCell _ ⟨W.heap.size + 1 + 1 + 1 + 1, 0, none⟩ (.int .i64 5)).same D1 _ ((KeepsOthers.setCell _ ⟨W.heap.size + 1 + 1 + 1, 0, none⟩ (.bool false)).same D1 _ ((KeepsOthers.setCell W2 ⟨W.heap.size + 1 + 1, 0, none⟩ (.int .i64 0)).same D1 _ K5.out rfl) rfl) rfl
        have RZ := RQ.own D (Nat.le_trans hWY hD) (fun _ => _) (fun _ => _) (fun _ => _) () _ _ _ q (grownBy_putObj' _ D (.deferred none)) (fun r e => by cases e; exact ⟨Nat.le_refl _, _, hKa, rfl⟩)
        have hK1 := (World.putObj_heap_other (o := .deferred none) (show D1 ≠ D by have := lt_of_block KY.out; omega)).trans hKb
        have RZ2 := RQ.own D1 hWD1 (fun _ => _) (fun _ => _) (fun _ => _) () _ _ _ RZ (grownBy_putObj' _ D1 (.deferred none)) (fun r e => by cases e; exact ⟨Nat.le_refl _, _, hK1, rfl⟩)
        refine ⟨by simp, .inl ⟨_, _, rfl, run_takeDeferred hKa, ?_⟩⟩
        refine ⟨by simp, .inl ⟨_, _, rfl, run_takeDeferred hK1, ?_⟩⟩
        obtain ⟨p0, p1, p2⟩ := RZ2.cells
        refine ⟨_, ?_, RZ2.b, rfl⟩
        simp [results, Tryd.results64, go_sem, p0, p1, p2]
        try rfl
      case stop2 =>
        rintro D cd pre W' hD ⟨j, hj, hpre⟩ ⟨rfl, q, z, e, u1, u2, u3, u4⟩ hK
        obtain ⟨hla, hzl⟩ := fiUp_hit (p := (fun z : Fld => decide (z.name = f.name))) (by rw [HN.out]; exact hj) (e.symm.trans hpre) u1 u2
        have HX := HG0.out
        rw [HNONE.out, hla] at HX
        simp only at HX
        obtain ⟨rfl, rfl, rfl⟩ : o1 = put - (N : Int) + (z.1.1 : Int) ∧ o2 = false ∧ o3 = 0 := by simpa using HX
        have hzf : decide (z.1.2 = f) = false := by
          have := lastAt_none HNONE.out (rows.getD z.1.1 fd0) (by rw [List.getD_eq_getElem?_getD, List.getElem?_eq_getElem hzl]; exact List.getElem_mem hzl)
          have h9 := lastAt_lt _ hla
          cases j with
          | zero => have := congrArg List.length (e.symm.trans hpre); rw [fiUp_length] at this; simp at this
          | succ j =>
            have e1 := e.symm.trans hpre
            rw [fiUp_succ] at e1
            obtain ⟨_, e2⟩ := List.append_inj' e1 rfl
            simp only [List.cons.injEq, and_true] at e2
            rw [e2]
            rw [e2] at this
            exact this
        rw [hzf] at u3
        have RZ := RQ.own D (Nat.le_trans hWY hD) (fun _ => _) (fun _ => _) (fun _ => _) () _ _ _ u3 (grownBy_putObj' W' D (.deferred none)) (fun r e => by cases e; exact ⟨Nat.le_refl _, _, hK, rfl⟩)
        have hK1 : (W'.putObj D (.deferred none)).heap[D1]? = some (.deferred (some [])) := (World.putObj_heap_other (by have := lt_of_block KY.out; omega)).trans u4
        have RZ2 := RQ.own D1 hWD1 (fun _ => _) (fun _ => _) (fun _ => _) () _ _ _ RZ (grownBy_putObj' (W'.putObj D (.deferred none)) D1 (.deferred none)) (fun r e => by cases e; exact ⟨Nat.le_refl _, _, hK1, rfl⟩)
        clear HX HG0 u1 u2 u3 hzf e hpre hla
        refine wpIn_wide.2 ?_
        go_wp2_with fail
        refine ⟨by simp, .inl ⟨_, _, rfl, run_takeDeferred hK, ?_⟩⟩
        refine ⟨by simp, .inl ⟨_, _, rfl, run_takeDeferred hK1, ?_⟩⟩
        obtain ⟨p0, p1, p2⟩ := RZ2.cells
        refine ⟨_, ?_, RZ2.b, rfl⟩
        simp [results, Tryd.results64, go_sem, p0, p1, p2]
        try rfl
    case stop1 =>
      rintro D cd pre W' hD ⟨j, hj, hpre⟩ ⟨rfl, q, z, e, u1, u2, u3⟩ hK
      obtain ⟨hla, hzl⟩ := fiUp_hit (p := (fun z : Fld => decide (z = f))) (by rw [HN.out]; exact hj) (e.symm.trans hpre) u1 u2
      have HX := HG0.out
      rw [hla] at HX
      simp only at HX
      obtain ⟨rfl, rfl, rfl⟩ : o1 = put - (N : Int) + (z.1.1 : Int) ∧ o2 = true ∧ o3 = 0 := by simpa using HX
      have hzf : decide (z.1.2 = f) = true := u2
      rw [hzf] at u3
      have RZ := RQ.own D (Nat.le_trans hWY hD) (fun _ => _) (fun _ => _) (fun _ => _) () _ _ _ u3 (grownBy_putObj' W' D (.deferred none)) (fun r e => by cases e; exact ⟨Nat.le_refl _, _, hK, rfl⟩)
      clear HX HG0 u1 u2 u3 hzf e hpre hla
      refine wpIn_wide.2 ?_
      go_wp2_with fail
      refine ⟨by simp, .inl ⟨_, _, rfl, run_takeDeferred hK, ?_⟩⟩
      obtain ⟨p0, p1, p2⟩ := RZ.cells
      refine ⟨_, ?_, RZ.b, rfl⟩
      simp [results, Tryd.results64, go_sem, p0, p1, p2]
      try rfl
  · have g : (x != 0) = true := by simp [h0]
    have HX := HG.out
    rw [if_pos h0] at HX
    obtain ⟨rfl, rfl, rfl⟩ : o1 = 0 ∧ o2 = false ∧ o3 = x := by simpa using HX
    have q0 := bk_cell R1.out.r0 0
    have q1 := bk_cell R1.out.r1 0
    have q2 := bk_cell R1.out.r2 0
    have z0 := bk_frz R1.out.r0 0
    have z1 := bk_frz R1.out.r1 0
    have z2 := bk_frz R1.out.r2 0
    clear h0 hok hN HX HG
    go_wp2_with fail
    have q := ((R1.out.put0 (.int .i64 0)).put1 (.bool false)).put2 (.int .i64 o3)
    obtain ⟨p0, p1, p2⟩ := q.cells
    refine ⟨_, ?_, q.b, rfl⟩
    simp [results, Tryd.results64, go_sem, p0, p1, p2]
    try rfl
end Go.Proofs.YtpfahdogedchpaaDoor
