/- Several texts in one. -/
import Derived.Test.YtpfahdogedchpaaDoorGrpZc
import Derived.BigQuiet
import Derived.Laws.StructEq
/- The document's answers on tables: TableInserted. -/
namespace Go.Proofs.YtpfahdogedchpaaDoor
set_option linter.unusedVariables false
open Go.RowKit P

theorem three_bk (w : World) (a b c : Array Value) (T1 T2 T3 : TypeId) : (((w.alloc (.cells a T1)).alloc (.cells b T2)).alloc (.cells c T3)).heap[w.heap.size]? = some (.cells a T1 (0, 0)) ∧ (((w.alloc (.cells a T1)).alloc (.cells b T2)).alloc (.cells c T3)).heap[w.heap.size + 1]? = some (.cells b T2 (0, 0)) ∧
    (((w.alloc (.cells a T1)).alloc (.cells b T2)).alloc (.cells c T3)).heap[w.heap.size + 2]? = some (.cells c T3 (0, 0)) ∧ Below w.heap.size w (((w.alloc (.cells a T1)).alloc (.cells b T2)).alloc (.cells c T3)) := by
  obtain ⟨h1, h2, h3⟩ := two_bk w a b T1 T2
  have s2 : ((w.alloc (.cells a T1)).alloc (.cells b T2)).heap.size = w.heap.size + 2 := by simp
  have h4 := heap_alloc_new ((w.alloc (.cells a T1)).alloc (.cells b T2)) (.cells c T3)
  rw [s2] at h4
  exact ⟨(Below.heap_alloc _ _ _ (by rw [s2]; omega)).trans h1, (Below.heap_alloc _ _ _ (by rw [s2]; omega)).trans h2, h4, h3.alloc (by rw [s2]; omega) _⟩
structure Ins5 (w0 : World) (W : World) (S1 S2 : ByteArray) (f : Fld) (q : Nat) (room : Int) (bq : Bool) (V0 V2 V3 V4 V5 V6 : Value) (tb0 tb1 tb2 tb3 tb4 tb5 tb6 : Bool) (tx0 tx1 tx2 tx3 tx4 tx5 tx6 : Value) (w : World) : Prop where
  be : Below w0.heap.size w0 w
  d1 : tb1 = true → tb0 = true
  d2 : tb2 = true → tb1 = true
  d4 : tb4 = true → tb3 = true
  d5 : tb5 = true → tb2 = true ∧ tb4 = true
  d6 : tb6 = true → tb2 = true ∧ tb5 = true
  h0 : tb0 = true → tx0 = V0
  h1 : tb1 = true → ∃ k, tx1 = .slice (some ⟨k, 0, none⟩) 1 1 ∧ RowE FdE w w.heap.size (some ⟨k, 0, none⟩) [f]
  h2 : tb2 = true → tx2 = V2
  h3 : tb3 = true → tx3 = V3
  h4 : tb4 = true → tx4 = V4
  h5 : tb5 = true → tx5 = V5
  h6 : tb6 = true → tx6 = V6
structure Ins11 (w0 : World) (W : World) (S1 S2 : ByteArray) (f : Fld) (room put : Int) (A : Option Addr) (N c : Nat) (rows Y : List Fld) (V1 V2 V4 V7 V8 V10 : Value) (b0 b1 b2 b3 b4 b5 b6 b7 b8 b9 b10 b11 : Bool) (x0 x1 x2 x3 x4 x5 x6 x7 x8 x9 x10 x11 : Value) (w : World) : Prop where
  be : b11 = false → Below w0.heap.size w0 w
  d2 : b2 = true → b1 = true
  d3 : b3 = true → b0 = true ∧ b2 = true
  d5 : b5 = true → b4 = true
  d6 : b6 = true → b3 = true ∧ b5 = true
  d8 : b8 = true → b7 = true
  d9 : b9 = true → b6 = true ∧ b8 = true
  d10 : b10 = true → b0 = true ∧ b1 = true ∧ b2 = true ∧ b3 = true ∧ b4 = true ∧ b5 = true ∧ b6 = true ∧ b7 = true ∧ b8 = true ∧ b9 = true
  d11 : b11 = true → b0 = true ∧ b1 = true ∧ b2 = true ∧ b3 = true ∧ b4 = true ∧ b5 = true ∧ b6 = true ∧ b7 = true ∧ b8 = true ∧ b9 = true ∧ b10 = true
  ap : b3 = false → b0 = true → b5 = true → ∀ k, x0.ownBlock = some k → x5.ownBlock ≠ some k
  h0 : b0 = true → b3 = false → OwnE FdE w w0.heap.size 54 x0 []
  h1 : b1 = true → x1 = V1
  h2 : b2 = true → x2 = V2
  h3 : b3 = true → b6 = false → OwnE FdE w w0.heap.size 54 x3 rows
  h4 : b4 = true → x4 = V4
  h5 : b5 = true → b6 = false → ∃ k, x5 = .slice (some ⟨k, 0, none⟩) 1 1 ∧ RowE FdE w w.heap.size (some ⟨k, 0, none⟩) [f]
  h6 : b6 = true → b11 = false → OwnE FdE w w0.heap.size 54 x6 (rows ++ [f])
  h7 : b7 = true → x7 = V7
  h8 : b8 = true → x8 = V8
  h9 : b9 = true → b11 = false → OwnE FdE w w0.heap.size 54 x9 Y
  h10 : b10 = true → x10 = V10
  h11 : b11 = true → ∃ Aq cq, w.heap[W.heap.size]? = some (.cells #[.int .i64 room, .int .i64 put, .slice Aq Y.length cq] 24 (0, 0)) ∧ OwnE FdE w w0.heap.size 54 (.slice Aq Y.length cq) Y ∧ Below W.heap.size W w ∧ w.heap[W.heap.size + 2]? = some (.cells #[.int .i64 0, .int .i64 0, .slice none 0 0] 24 (0, 0))
set_option maxRecDepth 100000 in
set_option maxHeartbeats 4000000 in
theorem refTabI_any : TbIns Tryd.prog 50 := by
  intro v t f W hv hw hfw
  have HFT := Lib.hid (fun w (hb : Below W.heap.size W w) => refTabF_any v t w (hv.on hb) hw)
  have HIF := Lib.hid (fun w => isField_any f hfw w)
  obtain ⟨sv, rfl, hs⟩ := hv.ex
  obtain ⟨A, c, rfl, hlc, hcm, hr⟩ := hs.ex
  have HR := Lib.hid hr
  have pb := hw.put
  have HRW := Lib.hid hw.rows
  have hG : insT t f = if faultTb t ≠ 0 then (tb0, faultTb t) else if ¬ okFd f then (tb0, 3) else if t.room < (szF f : Int) then (tb0, 1) else if t.put = 4611686018427387903 then (tb0, 8) else (⟨t.room, t.put + 1, young t.room (t.rows ++ [f])⟩, 0) := rfl
  have hok := fun h : faultTb t = 0 => (faultTb_iff t).1 h
  rw [hG]
  unfold TbRes
  unfold fdV at HIF ⊢
  obtain ⟨S1, hS1⟩ : ∃ S, strOfNums f.name = S := ⟨_, rfl⟩
  obtain ⟨S2, hS2⟩ : ∃ S, strOfNums f.val = S := ⟨_, rfl⟩
  have HFX := Lib.hid (show FdE.f f = [.string S1, .string S2] by rw [← hS1, ← hS2]; rfl)
  rw [hS1, hS2] at HIF ⊢
  obtain ⟨g0, g1, g2, g3⟩ := three_bk W #[.int .i64 t.room, .int .i64 t.put, .slice A t.rows.length c] #[.string S1, .string S2] #[.int .i64 0, .int .i64 0, .slice none 0 0] 24 54 24
  have F0 := Lib.hid g0
  have G0 := Lib.hid g1
  have Z0 := Lib.hid g2
  have B0 := Lib.hid g3
  clear g0 g1 g2 g3 hS1 hS2
  obtain ⟨x, hx⟩ : ∃ x, faultTb t = x := ⟨_, rfl⟩
  rw [hx] at HFT hok ⊢
  obtain ⟨room, put, rows⟩ := t
  simp only at *
  obtain ⟨N, hN⟩ : ∃ N, rows.length = N := ⟨_, rfl⟩
  have HN := Lib.hid hN
  rw [hN] at HFT F0 G0 Z0 B0 hlc ⊢
  have hcm' : c ≤ maxLen := hcm
  unfold maxLen at hcm
  clear hv hs hr hw hx hG
  by_cases h0 : x = 0
  · subst h0
    obtain ⟨k1, k2, k3, k4, k5⟩ := hok rfl
    simp only at k1 k2 k3 k4
    rw [hN] at k3
    have hw32 := wtL_len rows
    rw [hN] at hw32
    rw [if_neg (fun k => k rfl)]
    clear hok k5 hN
    by_cases h1 : okFd f
    · rw [if_neg (fun k => k h1)]
      rw [decide_eq_true h1] at HIF
      obtain ⟨i0, hi0, hz0, hz1, hz2⟩ := info_partsE infoFd
      have HI := Lib.hid hi0
      have HZ := Lib.hid hz0
      have HZ1 := Lib.hid hz1
      have HZ2 := Lib.hid hz2
      have hq92 : szF f ≤ 92 := by unfold szF; unfold okFd at h1; omega
      have HWT := Lib.hid (fun w (k : Nat) (h : RowE FdE w w.heap.size (some ⟨k, 0, none⟩) [f]) => (show wtL [f] = szF f by rw [wtL_cons, wtL_nil]; rfl) ▸ weight_small (some ⟨k, 0, none⟩) 1 1 [f] w h rfl (by decide) (fun y hy => by rw [List.mem_singleton.1 hy]; exact hfw) (by rw [wtL_cons, wtL_nil]; omega))
      have HN1 := Lib.hid (show (rows ++ [f]).length = N + 1 by rw [List.length_append, HN.out]; rfl)
      obtain ⟨Y, hY⟩ : ∃ Y, young room (rows ++ [f]) = Y := ⟨_, rfl⟩
      have hwts : wtL (rows ++ [f]) ≤ 1000000 := by rw [wtL_app, wtL_cons, wtL_nil]; omega
      have HYA := Lib.hid (fun (V : World) (A6 : Option Addr) (c6 : Nat) (w' : World) (hr : RowE FdE w' w'.heap.size A6 (rows ++ [f])) (h1 : N + 1 ≤ c6) (h2 : c6 ≤ maxLen) => hY ▸ youngest_any A6 (N + 1) c6 (rows ++ [f]) room w' hr HN1.out h1 (by omega) (fun y hy => (List.mem_append.1 hy).elim (HRW.out y) (fun h => by rw [List.mem_singleton.1 h]; exact hfw)) hwts k1.1 h2)
      rw [hY]
      obtain ⟨q, hq⟩ : ∃ q, szF f = q := ⟨_, rfl⟩
      rw [hq] at HWT hq92 ⊢
      obtain ⟨bq, hbq⟩ : ∃ b, decide (room < (q : Int)) = b := ⟨_, rfl⟩
      have HBQ := Lib.hid hbq
      obtain ⟨r, hres⟩ : ∃ r : Tb × Int, (if room < (q : Int) then (tb0, 1) else if put = 4611686018427387903 then (tb0, 8) else (⟨room, put + 1, Y⟩, 0)) = r := ⟨_, rfl⟩
      rw [hres]
      have HRES := Lib.hid hres
      clear hres hbq
      clear hY hq hi0 hz0 hz1 hz2 h1 hwts
      go_enter Tryd.func50, Tryd.ntmps50
      go_upto_region 5 with (first
        | (go_at_call 46; refine (HFT.out _ B0.out).mono ?_; rintro e w1 ⟨rfl, b1⟩; have B1 := Lib.hid (B0.out.trans (b1.mono B0.out.size)); have F1 := Lib.hid ((b1.block _ (lt_of_block F0.out)).trans F0.out); have G1 := Lib.hid ((b1.block _ (lt_of_block G0.out)).trans G0.out); have Z1 := Lib.hid ((b1.block _ (lt_of_block Z0.out)).trans Z0.out); clear b1; obtain ⟨q0, q1, q2⟩ := bk3T F1.out; obtain ⟨y0, y1⟩ := bk2F G1.out; obtain ⟨z0, z1, z2⟩ := bk3T Z1.out; have zf := fun i => bk_frz Z1.out i)
        | (go_at_call 45; refine (HIF.out _).mono ?_; rintro e w2 ⟨rfl, b2⟩; have B2 := Lib.hid (B1.out.trans (b2.mono B1.out.size)); have F2 := Lib.hid ((b2.block _ (lt_of_block F1.out)).trans F1.out); have G2 := Lib.hid ((b2.block _ (lt_of_block G1.out)).trans G1.out); have Z2 := Lib.hid ((b2.block _ (lt_of_block Z1.out)).trans Z1.out); clear b2; clear q0 q1 q2 y0 y1 z0 z1 z2 zf; obtain ⟨q0, q1, q2⟩ := bk3T F2.out; obtain ⟨y0, y1⟩ := bk2F G2.out; obtain ⟨z0, z1, z2⟩ := bk3T Z2.out; have zf := fun i => bk_frz Z2.out i))
      clear q0 q1 q2 y0 y1 z0 z1 z2 zf
      refine wp_region_inv (fun lis_ act_ wld_ => ∃ (tb0 tb1 tb2 tb3 tb4 tb5 tb6 : Bool) (tx0 tx1 tx2 tx3 tx4 tx5 tx6 : Value), lis_ = #[tb0, tb1, tb2, tb3, tb4, tb5, tb6] ∧ act_ = { tmps := #[Value.agg #[Value.int IntKind.i64 room, Value.int IntKind.i64 put, Value.slice A N c], Value.agg #[Value.string S1, Value.string S2], Value.pointer (some { block := W.heap.size, off := 0 }), Value.pointer (some { block := W.heap.size + 1, off := 0 }), Value.pointer (some { block := W.heap.size + 1 + 1, off := 0 }), Value.int IntKind.i64 0, Value.int IntKind.i64 0, Value.agg #[Value.int IntKind.i64 room, Value.int IntKind.i64 put, Value.slice A N c], Value.int IntKind.i64 0, Value.bool false, Value.int IntKind.i64 0, Value.bool false, Value.bool false, Value.agg #[Value.string S1, Value.string S2], Value.bool true, Value.bool false, tx6, tx0, tx1, tx2, tx3, tx4, tx5, undef, undef, undef, undef, undef, undef, undef, undef, undef, undef, undef, undef, undef, undef, undef, undef, undef, undef, undef, undef, undef, undef, undef, undef], defers := [] } ∧ Ins5 w2 W S1 S2 f q room bq (.agg #[.string S1, .string S2]) (.int .i64 (q : Int)) (.pointer (some ⟨W.heap.size, 0, none⟩)) (.int .i64 room) (.bool bq) (.bool bq) tb0 tb1 tb2 tb3 tb4 tb5 tb6 tx0 tx1 tx2 tx3 tx4 tx5 tx6 wld_) (by kernel_rfl) ?h0 ?hfin ?hI
      case h0 => exact ⟨_, _, _, _, _, _, _, _, _, _, _, _, _, _, rfl, rfl, ⟨(Below.refl _ _).drew, (fun h => by cases h), (fun h => by cases h), (fun h => by cases h), (fun h => by cases h), (fun h => by cases h), (fun h => by cases h), (fun h => by cases h), (fun h => by cases h), (fun h => by cases h), (fun h => by cases h), (fun h => by cases h), (fun h => by cases h)⟩⟩
      case hI =>
        rintro listed a w ⟨tb0, tb1, tb2, tb3, tb4, tb5, tb6, tx0, tx1, tx2, tx3, tx4, tx5, tx6, rfl, rfl, H⟩ i hi
        obtain ⟨hun, oj, hoj, hall⟩ := mem_ready.1 hi
        clear hi
        rcases i with _ | _ | _ | _ | _ | _ | _ | i
        · have ho := hoj
          simp only [List.getElem?_toArray, List.getElem?_cons_succ, List.getElem?_cons_zero, Option.some.injEq] at hoj
          subst hoj
          obtain rfl : tb0 = false := hun
          clear hall
          obtain rfl : tb1 = false := Bool.eq_false_iff.2 fun h => Bool.false_ne_true (H.d1 h)
          obtain rfl : tb2 = false := Bool.eq_false_iff.2 fun h => Bool.false_ne_true (H.d2 h)
          obtain rfl : tb5 = false := Bool.eq_false_iff.2 fun h => Bool.false_ne_true (H.d5 h).1
          obtain rfl : tb6 = false := Bool.eq_false_iff.2 fun h => Bool.false_ne_true (H.d6 h).1
          have hbe := H.be
          obtain ⟨y0, y1⟩ := bk2F ((hbe.block _ (lt_of_block G2.out)).trans G2.out)
          refine wpOp_step ho (fun K' hK => ?_)
          have HK := Lib.hid hK
          clear hK ho
          go_simp
          exact HK.out _ _ ⟨_, _, _, _, _, _, _, _, _, _, _, _, _, _, rfl, rfl, ⟨hbe, (fun h => by cases h), H.d2, H.d4, H.d5, H.d6, (fun _ => rfl), (fun h => by cases h), H.h2, H.h3, H.h4, H.h5, H.h6⟩⟩
        · have ho := hoj
          simp only [List.getElem?_toArray, List.getElem?_cons_succ, List.getElem?_cons_zero, Option.some.injEq] at hoj
          subst hoj
          obtain rfl : tb1 = false := hun
          obtain rfl : tb0 = true := hall ⟨0, .data⟩ (by simp) (by kernel_rfl)
          clear hall
          obtain rfl : tb2 = false := Bool.eq_false_iff.2 fun h => Bool.false_ne_true (H.d2 h)
          obtain rfl : tb5 = false := Bool.eq_false_iff.2 fun h => Bool.false_ne_true (H.d5 h).1
          obtain rfl : tb6 = false := Bool.eq_false_iff.2 fun h => Bool.false_ne_true (H.d6 h).1
          have hbe := H.be
          obtain rfl := H.h0 rfl
          have BA := Lib.hid ((Below.refl w.heap.size w).alloc (Nat.le_refl _) (.cells #[.string S1, .string S2] 54))
          have NA := Lib.hid ((RowE.one (E := FdE) w f #[.string S1, .string S2] 54 w.heap.size rfl (HFX.out.symm)).more (show w.heap.size + 1 ≤ (w.alloc (.cells #[.string S1, .string S2] 54)).heap.size by simp))
          refine wpOp_step ho (fun K' hK => ?_)
          have HK := Lib.hid hK
          clear hK ho
          go_simp
          exact HK.out _ _ ⟨_, _, _, _, _, _, _, _, _, _, _, _, _, _, rfl, rfl, ⟨hbe.trans (BA.out.mono hbe.size), (fun _ => rfl), (fun h => by cases h), H.d4, H.d5, H.d6, H.h0, (fun _ => ⟨_, rfl, NA.out⟩), H.h2, H.h3, H.h4, H.h5, H.h6⟩⟩
        · have ho := hoj
          simp only [List.getElem?_toArray, List.getElem?_cons_succ, List.getElem?_cons_zero, Option.some.injEq] at hoj
          subst hoj
          obtain rfl : tb2 = false := hun
          obtain rfl : tb1 = true := hall ⟨1, .data⟩ (by simp) (by kernel_rfl)
          obtain rfl : tb0 = true := (H.d1 rfl)
          clear hall
          obtain rfl : tb5 = false := Bool.eq_false_iff.2 fun h => Bool.false_ne_true (H.d5 h).1
          obtain rfl : tb6 = false := Bool.eq_false_iff.2 fun h => Bool.false_ne_true (H.d6 h).1
          have hbe := H.be
          obtain rfl := H.h0 rfl
          have P1 := H.h1 rfl
          obtain ⟨k1, rfl, hk1⟩ := P1
          have K1 := Lib.hid hk1
          clear hk1
          refine wpOp_step ho (fun K' hK => ?_)
          have HK := Lib.hid hK
          clear hK ho
          go_wp2_with fail
          refine (HWT.out _ k1 K1.out).mono ?_
          rintro e w9 ⟨rfl, tb9⟩
          have BC := Lib.hid tb9
          clear tb9
          go_wp2_with fail
          exact HK.out _ _ ⟨_, _, _, _, _, _, _, _, _, _, _, _, _, _, rfl, rfl, ⟨hbe.trans (BC.out.mono hbe.size), H.d1, (fun _ => rfl), H.d4, (fun h => by cases h), (fun h => by cases h), H.h0, (fun e => let ⟨k, e1, e2⟩ := (H.h1 e); ⟨k, e1, e2.on BC.out⟩), (fun _ => rfl), H.h3, H.h4, H.h5, H.h6⟩⟩
        · have ho := hoj
          simp only [List.getElem?_toArray, List.getElem?_cons_succ, List.getElem?_cons_zero, Option.some.injEq] at hoj
          subst hoj
          obtain rfl : tb3 = false := hun
          clear hall
          obtain rfl : tb4 = false := Bool.eq_false_iff.2 fun h => Bool.false_ne_true (H.d4 h)
          obtain rfl : tb5 = false := Bool.eq_false_iff.2 fun h => Bool.false_ne_true (H.d5 h).2
          obtain rfl : tb6 = false := Bool.eq_false_iff.2 fun h => Bool.false_ne_true (H.d6 h).2
          have hbe := H.be
          refine wpOp_step ho (fun K' hK => ?_)
          have HK := Lib.hid hK
          clear hK ho
          go_simp
          exact HK.out _ _ ⟨_, _, _, _, _, _, _, _, _, _, _, _, _, _, rfl, rfl, ⟨hbe, H.d1, H.d2, (fun h => by cases h), H.d5, H.d6, H.h0, H.h1, H.h2, (fun _ => rfl), H.h4, H.h5, H.h6⟩⟩
        · have ho := hoj
          simp only [List.getElem?_toArray, List.getElem?_cons_succ, List.getElem?_cons_zero, Option.some.injEq] at hoj
          subst hoj
          obtain rfl : tb4 = false := hun
          obtain rfl : tb3 = true := hall ⟨3, .data⟩ (by simp) (by kernel_rfl)
          clear hall
          obtain rfl : tb5 = false := Bool.eq_false_iff.2 fun h => Bool.false_ne_true (H.d5 h).2
          obtain rfl : tb6 = false := Bool.eq_false_iff.2 fun h => Bool.false_ne_true (H.d6 h).2
          have hbe := H.be
          obtain rfl := H.h3 rfl
          obtain ⟨q0, q1, q2⟩ := bk3T ((hbe.block _ (lt_of_block F2.out)).trans F2.out)
          refine wpOp_step ho (fun K' hK => ?_)
          have HK := Lib.hid hK
          clear hK ho
          go_simp
          exact HK.out _ _ ⟨_, _, _, _, _, _, _, _, _, _, _, _, _, _, rfl, rfl, ⟨hbe, H.d1, H.d2, (fun _ => rfl), (fun h => by cases h), H.d6, H.h0, H.h1, H.h2, H.h3, (fun _ => rfl), H.h5, H.h6⟩⟩
        · have ho := hoj
          simp only [List.getElem?_toArray, List.getElem?_cons_succ, List.getElem?_cons_zero, Option.some.injEq] at hoj
          subst hoj
          obtain rfl : tb5 = false := hun
          obtain rfl : tb2 = true := hall ⟨2, .data⟩ (by simp) (by kernel_rfl)
          obtain rfl : tb4 = true := hall ⟨4, .data⟩ (by simp) (by kernel_rfl)
          obtain rfl : tb1 = true := (H.d2 rfl)
          obtain rfl : tb3 = true := (H.d4 rfl)
          obtain rfl : tb0 = true := (H.d1 rfl)
          clear hall
          obtain rfl : tb6 = false := Bool.eq_false_iff.2 fun h => Bool.false_ne_true (H.d6 h).2
          have hbe := H.be
          obtain rfl := H.h0 rfl
          have P1 := H.h1 rfl
          obtain rfl := H.h2 rfl
          obtain rfl := H.h3 rfl
          obtain rfl := H.h4 rfl
          have hb9 := HBQ.out
          refine wpOp_step ho (fun K' hK => ?_)
          have HK := Lib.hid hK
          clear hK ho
          go_simp
          exact HK.out _ _ ⟨_, _, _, _, _, _, _, _, _, _, _, _, _, _, rfl, rfl, ⟨hbe, H.d1, H.d2, H.d4, (fun _ => ⟨rfl, rfl⟩), (fun h => by cases h), H.h0, H.h1, H.h2, H.h3, H.h4, (fun _ => rfl), H.h6⟩⟩
        · have ho := hoj
          simp only [List.getElem?_toArray, List.getElem?_cons_succ, List.getElem?_cons_zero, Option.some.injEq] at hoj
          subst hoj
          obtain rfl : tb6 = false := hun
          obtain rfl : tb2 = true := hall ⟨2, .chain⟩ (by simp) (by kernel_rfl)
          obtain rfl : tb5 = true := hall ⟨5, .data⟩ (by simp) (by kernel_rfl)
          obtain rfl : tb1 = true := (H.d2 rfl)
          obtain rfl : tb4 = true := (H.d5 rfl).2
          obtain rfl : tb0 = true := (H.d1 rfl)
          obtain rfl : tb3 = true := (H.d4 rfl)
          clear hall
          have hbe := H.be
          obtain rfl := H.h0 rfl
          have P1 := H.h1 rfl
          obtain rfl := H.h2 rfl
          obtain rfl := H.h3 rfl
          obtain rfl := H.h4 rfl
          obtain rfl := H.h5 rfl
          refine wpOp_step ho (fun K' hK => ?_)
          have HK := Lib.hid hK
          clear hK ho
          go_simp
          exact HK.out _ _ ⟨_, _, _, _, _, _, _, _, _, _, _, _, _, _, rfl, rfl, ⟨hbe, H.d1, H.d2, H.d4, H.d5, (fun _ => ⟨rfl, rfl⟩), H.h0, H.h1, H.h2, H.h3, H.h4, H.h5, (fun _ => rfl)⟩⟩
        · have ho := hoj
          simp at ho
      case hfin =>
        rintro listed a w ⟨tb0, tb1, tb2, tb3, tb4, tb5, tb6, tx0, tx1, tx2, tx3, tx4, tx5, tx6, rfl, rfl, H⟩ hr
        have hb : tb6 = true := by
          clear H
          revert tb0 tb1 tb2 tb3 tb4 tb5 tb6
          decide +kernel
        subst hb
        clear hr
        obtain rfl : tb2 = true := (H.d6 rfl).1
        obtain rfl : tb5 = true := (H.d6 rfl).2
        obtain rfl : tb1 = true := (H.d2 rfl)
        obtain rfl : tb4 = true := (H.d5 rfl).2
        obtain rfl : tb0 = true := (H.d1 rfl)
        obtain rfl : tb3 = true := (H.d4 rfl)
        obtain rfl := H.h6 rfl
        have hbe := H.be
        have B3 := Lib.hid (B2.out.trans (hbe.mono B2.out.size))
        have F3 := Lib.hid ((hbe.block _ (lt_of_block F2.out)).trans F2.out)
        have G3 := Lib.hid ((hbe.block _ (lt_of_block G2.out)).trans G2.out)
        have Z3 := Lib.hid ((hbe.block _ (lt_of_block Z2.out)).trans Z2.out)
        clear H hbe
        obtain ⟨w3, hw3⟩ : ∃ x, x = w := ⟨_, rfl⟩
        subst w
        by_cases hbig : room < (q : Int)
        · obtain rfl : r = (tb0, 1) := by rw [← HRES.out, if_pos hbig]
          have hb9 : bq = true := by rw [← HBQ.out]; simp [hbig]
          subst hb9
          clear hbig
          obtain ⟨q0, q1, q2⟩ := bk3T F3.out
          obtain ⟨z0, z1, z2⟩ := bk3T Z3.out
          have zf := fun i => bk_frz Z3.out i
          go_wp2_with fail
          obtain ⟨k1, gp⟩ := bk3_blk Z3.out (.int .i64 0) (.int .i64 0) (.slice none 0 0)
          obtain ⟨r0, r1, r2⟩ := bk3T k1
          refine bodyPost_ret (by simp [results, Tryd.results50, go_sem, r0, r1, r2]; try rfl) rfl ?_
          exact ⟨gr_from B3.out B3.out.size (by omega) gp, _, rfl, TbVal.zero _ _⟩
        · have HRE2 := Lib.hid (HRES.out.symm.trans (if_neg hbig))
          have hb9 : bq = false := by rw [← HBQ.out]; simp; omega
          subst hb9
          clear hbig
          by_cases hmx : put = 4611686018427387903
          · obtain rfl : r = (tb0, 8) := by rw [HRE2.out, if_pos hmx]
            subst hmx
            obtain ⟨q0, q1, q2⟩ := bk3T F3.out
            obtain ⟨z0, z1, z2⟩ := bk3T Z3.out
            have zf := fun i => bk_frz Z3.out i
            go_wp2_with fail
            obtain ⟨k1, gp⟩ := bk3_blk Z3.out (.int .i64 0) (.int .i64 0) (.slice none 0 0)
            obtain ⟨r0, r1, r2⟩ := bk3T k1
            refine bodyPost_ret (by simp [results, Tryd.results50, go_sem, r0, r1, r2]; try rfl) rfl ?_
            exact ⟨gr_from B3.out B3.out.size (by omega) gp, _, rfl, TbVal.zero _ _⟩
          · obtain rfl : r = (⟨room, put + 1, Y⟩, 0) := by rw [HRE2.out, if_neg hmx]
            have e8 : decide (4611686018427387903 ≤ put) = false := by simp; omega
            have hadd : IntKind.i64.wrap (put + 1) = put + 1 := by rw [IntKind.wrap_i64]; omega
            obtain ⟨q0, q1, q2⟩ := bk3T F3.out
            obtain ⟨y0, y1⟩ := bk2F G3.out
            have HY := Lib.hid (fun A6 c6 w' (hb : Below w3.heap.size w3 w') hr h1 h2 => HYA.out w' A6 c6 w' hr h1 h2)
            go_upto_region 11 with fail
            clear q0 q1 q2 y0 y1
            refine wp_region_inv (fun lis_ act_ wld_ => ∃ (b0 b1 b2 b3 b4 b5 b6 b7 b8 b9 b10 b11 : Bool) (x0 x1 x2 x3 x4 x5 x6 x7 x8 x9 x10 x11 : Value), lis_ = #[b0, b1, b2, b3, b4, b5, b6, b7, b8, b9, b10, b11] ∧ act_ = { tmps := #[Value.agg #[Value.int IntKind.i64 room, Value.int IntKind.i64 put, Value.slice A N c], Value.agg #[Value.string S1, Value.string S2], Value.pointer (some { block := W.heap.size, off := 0 }), Value.pointer (some { block := W.heap.size + 1, off := 0 }), Value.pointer (some { block := W.heap.size + 1 + 1, off := 0 }), Value.int IntKind.i64 0, Value.int IntKind.i64 0, Value.agg #[Value.int IntKind.i64 room, Value.int IntKind.i64 put, Value.slice A N c], Value.int IntKind.i64 0, Value.bool false, Value.int IntKind.i64 0, Value.bool false, Value.bool false, Value.agg #[Value.string S1, Value.string S2], Value.bool true, Value.bool false, Value.bool false, tx0, tx1, tx2, tx3, tx4, tx5, Value.bool false, Value.pointer (some { block := W.heap.size, off := 1 }), Value.int IntKind.i64 put, Value.bool false, Value.int IntKind.i64 0, Value.bool false, undef, undef, x0, x1, x2, x3, x4, x5, x6, x7, x8, x9, x10, undef, undef, undef, undef, undef], defers := [] } ∧ Ins11 w3 W S1 S2 f room put A N c rows Y (.pointer (some ⟨W.heap.size, 2, none⟩)) (.slice A N c) (.agg #[.string S1, .string S2]) (.pointer (some ⟨W.heap.size, 0, none⟩)) (.int .i64 room) (.pointer (some ⟨W.heap.size, 2, none⟩)) b0 b1 b2 b3 b4 b5 b6 b7 b8 b9 b10 b11 x0 x1 x2 x3 x4 x5 x6 x7 x8 x9 x10 x11 wld_) (by kernel_rfl) ?h0 ?hfin ?hI
            case h0 => exact ⟨_, _, _, _, _, _, _, _, _, _, _, _, _, _, _, _, _, _, _, _, _, _, _, undef, rfl, rfl, ⟨(fun _ => (Below.refl _ _).drew), (fun h => by cases h), (fun h => by cases h), (fun h => by cases h), (fun h => by cases h), (fun h => by cases h), (fun h => by cases h), (fun h => by cases h), (fun h => by cases h), (fun _ => (fun h => by cases h)), (fun h => by cases h), (fun h => by cases h), (fun h => by cases h), (fun h => by cases h), (fun h => by cases h), (fun h => by cases h), (fun h => by cases h), (fun h => by cases h), (fun h => by cases h), (fun h => by cases h), (fun h => by cases h), (fun h => by cases h)⟩⟩
            case hI =>
              rintro listed a w ⟨b0, b1, b2, b3, b4, b5, b6, b7, b8, b9, b10, b11, x0, x1, x2, x3, x4, x5, x6, x7, x8, x9, x10, x11, rfl, rfl, H⟩ i hi
              obtain ⟨hun, oj, hoj, hall⟩ := mem_ready.1 hi
              clear hi
              rcases i with _ | _ | _ | _ | _ | _ | _ | _ | _ | _ | _ | _ | i
              · have ho := hoj
                simp only [List.getElem?_toArray, List.getElem?_cons_succ, List.getElem?_cons_zero, Option.some.injEq] at hoj
                subst hoj
                obtain rfl : b0 = false := hun
                clear hall
                obtain rfl : b3 = false := Bool.eq_false_iff.2 fun h => Bool.false_ne_true (H.d3 h).1
                obtain rfl : b6 = false := Bool.eq_false_iff.2 fun h => Bool.false_ne_true (H.d6 h).1
                obtain rfl : b9 = false := Bool.eq_false_iff.2 fun h => Bool.false_ne_true (H.d9 h).1
                obtain rfl : b10 = false := Bool.eq_false_iff.2 fun h => Bool.false_ne_true (H.d10 h).1
                obtain rfl : b11 = false := Bool.eq_false_iff.2 fun h => Bool.false_ne_true (H.d11 h).1
                have hbe := H.be rfl
                have hx_ap := H.ap rfl
                have hsz := hbe.size
                have BA := Lib.hid ((Below.refl w.heap.size w).alloc (Nat.le_refl _) (.cells #[] 54))
                have OE := Lib.hid (OwnE.empty (E := FdE) w w3.heap.size 54 w.heap.size rfl hsz)
                refine wpOp_step ho (fun K' hK => ?_)
                have HK := Lib.hid hK
                clear hK ho
                go_simp
                exact HK.out _ _ ⟨_, _, _, _, _, _, _, _, _, _, _, _, _, _, _, _, _, _, _, _, _, _, _, x11, rfl, rfl, ⟨(fun _ => hbe.trans (BA.out.mono hbe.size)), H.d2, (fun h => by cases h), H.d5, H.d6, H.d8, H.d9, (fun h => by cases h), (fun h => by cases h), (fun _ => fun _ e5 k hk h5 => by obtain ⟨k5, e1, e2⟩ := H.h5 e5 rfl; rw [e1] at h5; cases hk; cases h5; obtain ⟨b, off, e3, hb, _⟩ := e2 (by simp); cases e3; exact Nat.lt_irrefl _ hb), (fun _ _ => OE.out), H.h1, H.h2, (fun h => by cases h), H.h4, (fun e f => let ⟨k, e1, e2⟩ := (H.h5 e f); ⟨k, e1, e2.on BA.out⟩), (fun h => by cases h), H.h7, H.h8, (fun h => by cases h), H.h10, (fun h => by cases h)⟩⟩
              · have ho := hoj
                simp only [List.getElem?_toArray, List.getElem?_cons_succ, List.getElem?_cons_zero, Option.some.injEq] at hoj
                subst hoj
                obtain rfl : b1 = false := hun
                clear hall
                obtain rfl : b2 = false := Bool.eq_false_iff.2 fun h => Bool.false_ne_true (H.d2 h)
                obtain rfl : b3 = false := Bool.eq_false_iff.2 fun h => Bool.false_ne_true (H.d3 h).2
                obtain rfl : b6 = false := Bool.eq_false_iff.2 fun h => Bool.false_ne_true (H.d6 h).1
                obtain rfl : b9 = false := Bool.eq_false_iff.2 fun h => Bool.false_ne_true (H.d9 h).1
                obtain rfl : b10 = false := Bool.eq_false_iff.2 fun h => Bool.false_ne_true (H.d10 h).2.1
                obtain rfl : b11 = false := Bool.eq_false_iff.2 fun h => Bool.false_ne_true (H.d11 h).2.1
                have hbe := H.be rfl
                have hx_ap := H.ap rfl
                refine wpOp_step ho (fun K' hK => ?_)
                have HK := Lib.hid hK
                clear hK ho
                go_simp
                exact HK.out _ _ ⟨_, _, _, _, _, _, _, _, _, _, _, _, _, _, _, _, _, _, _, _, _, _, _, x11, rfl, rfl, ⟨(fun _ => hbe), (fun h => by cases h), H.d3, H.d5, H.d6, H.d8, H.d9, (fun h => by cases h), (fun h => by cases h), H.ap, H.h0, (fun _ => rfl), H.h2, (fun h => by cases h), H.h4, H.h5, (fun h => by cases h), H.h7, H.h8, (fun h => by cases h), H.h10, (fun h => by cases h)⟩⟩
              · have ho := hoj
                simp only [List.getElem?_toArray, List.getElem?_cons_succ, List.getElem?_cons_zero, Option.some.injEq] at hoj
                subst hoj
                obtain rfl : b2 = false := hun
                obtain rfl : b1 = true := hall ⟨1, .data⟩ (by simp) (by kernel_rfl)
                clear hall
                obtain rfl : b3 = false := Bool.eq_false_iff.2 fun h => Bool.false_ne_true (H.d3 h).2
                obtain rfl : b6 = false := Bool.eq_false_iff.2 fun h => Bool.false_ne_true (H.d6 h).1
                obtain rfl : b9 = false := Bool.eq_false_iff.2 fun h => Bool.false_ne_true (H.d9 h).1
                obtain rfl : b10 = false := Bool.eq_false_iff.2 fun h => Bool.false_ne_true (H.d10 h).2.2.1
                obtain rfl : b11 = false := Bool.eq_false_iff.2 fun h => Bool.false_ne_true (H.d11 h).2.2.1
                have hbe := H.be rfl
                have hx_ap := H.ap rfl
                obtain rfl := H.h1 rfl
                obtain ⟨q0, q1, q2⟩ := bk3T ((hbe.block _ (lt_of_block F3.out)).trans F3.out)
                refine wpOp_step ho (fun K' hK => ?_)
                have HK := Lib.hid hK
                clear hK ho
                go_simp
                exact HK.out _ _ ⟨_, _, _, _, _, _, _, _, _, _, _, _, _, _, _, _, _, _, _, _, _, _, _, x11, rfl, rfl, ⟨(fun _ => hbe), (fun _ => rfl), (fun h => by cases h), H.d5, H.d6, H.d8, H.d9, (fun h => by cases h), (fun h => by cases h), H.ap, H.h0, H.h1, (fun _ => rfl), (fun h => by cases h), H.h4, H.h5, (fun h => by cases h), H.h7, H.h8, (fun h => by cases h), H.h10, (fun h => by cases h)⟩⟩
              · have ho := hoj
                simp only [List.getElem?_toArray, List.getElem?_cons_succ, List.getElem?_cons_zero, Option.some.injEq] at hoj
                subst hoj
                obtain rfl : b3 = false := hun
                obtain rfl : b0 = true := hall ⟨0, .data⟩ (by simp) (by kernel_rfl)
                obtain rfl : b2 = true := hall ⟨2, .data⟩ (by simp) (by kernel_rfl)
                obtain rfl : b1 = true := (H.d2 rfl)
                clear hall
                obtain rfl : b6 = false := Bool.eq_false_iff.2 fun h => Bool.false_ne_true (H.d6 h).1
                obtain rfl : b9 = false := Bool.eq_false_iff.2 fun h => Bool.false_ne_true (H.d9 h).1
                obtain rfl : b10 = false := Bool.eq_false_iff.2 fun h => Bool.false_ne_true (H.d10 h).2.2.2.1
                obtain rfl : b11 = false := Bool.eq_false_iff.2 fun h => Bool.false_ne_true (H.d11 h).2.2.2.1
                have hbe := H.be rfl
                have hx_ap := H.ap rfl
                have P0 := H.h0 rfl rfl
                obtain rfl := H.h1 rfl
                obtain rfl := H.h2 rfl
                have hsz := hbe.size
                have O0 := Lib.hid P0
                have R0 := Lib.hid (HR.out.on (B3.out.trans (hbe.mono B3.out.size)))
                refine wpOp_step ho (fun K' hK => ?_)
                have HK := Lib.hid hK
                clear hK ho
                refine step_appE w rfl (.tmp 31) (.tmp 33) _ rfl w3.heap.size 54 i0 (.agg #[.string ⟨#[]⟩, .string ⟨#[]⟩]) 32 Tryd.underlying22 HI.out HZ.out HZ1.out HZ2.out rfl (by decide) _ [] rfl O0.out w.heap.size A N c rows rfl R0.out HN.out (by simp only [List.length_nil]; omega) hsz ?_
                intro v9 u9 own9 g9
                have O9 := Lib.hid own9
                have GG := Lib.hid g9
                have BB := Lib.hid (hbe.grown g9 hsz (fun k hk => (OwnE.lt O0.out k hk).1))
                clear own9 g9
                exact HK.out _ _ ⟨_, _, _, _, _, _, _, _, _, _, _, _, _, _, _, _, _, _, _, _, _, _, _, x11, rfl, rfl, ⟨(fun _ => BB.out), H.d2, (fun _ => ⟨rfl, rfl⟩), H.d5, (fun h => by cases h), H.d8, H.d9, (fun h => by cases h), (fun h => by cases h), (fun h => by cases h), (fun _ h => by cases h), H.h1, H.h2, (fun _ _ => (by have := O9.out; rwa [List.nil_append] at this)), H.h4, (fun e f => let ⟨k5, e1, e2⟩ := (H.h5 e f); ⟨k5, e1, (RowE.grown e2 GG.out (fun q => H.ap rfl rfl e k5 q.symm (by rw [e1]; rfl))).more GG.out.size⟩), (fun h => by cases h), H.h7, H.h8, (fun h => by cases h), H.h10, (fun h => by cases h)⟩⟩
              · have ho := hoj
                simp only [List.getElem?_toArray, List.getElem?_cons_succ, List.getElem?_cons_zero, Option.some.injEq] at hoj
                subst hoj
                obtain rfl : b4 = false := hun
                clear hall
                obtain rfl : b5 = false := Bool.eq_false_iff.2 fun h => Bool.false_ne_true (H.d5 h)
                obtain rfl : b6 = false := Bool.eq_false_iff.2 fun h => Bool.false_ne_true (H.d6 h).2
                obtain rfl : b9 = false := Bool.eq_false_iff.2 fun h => Bool.false_ne_true (H.d9 h).1
                obtain rfl : b10 = false := Bool.eq_false_iff.2 fun h => Bool.false_ne_true (H.d10 h).2.2.2.2.1
                obtain rfl : b11 = false := Bool.eq_false_iff.2 fun h => Bool.false_ne_true (H.d11 h).2.2.2.2.1
                have hbe := H.be rfl
                obtain ⟨y0, y1⟩ := bk2F ((hbe.block _ (lt_of_block G3.out)).trans G3.out)
                refine wpOp_step ho (fun K' hK => ?_)
                have HK := Lib.hid hK
                clear hK ho
                go_simp
                exact HK.out _ _ ⟨_, _, _, _, _, _, _, _, _, _, _, _, _, _, _, _, _, _, _, _, _, _, _, x11, rfl, rfl, ⟨(fun _ => hbe), H.d2, H.d3, (fun h => by cases h), H.d6, H.d8, H.d9, (fun h => by cases h), (fun h => by cases h), H.ap, H.h0, H.h1, H.h2, H.h3, (fun _ => rfl), (fun h => by cases h), (fun h => by cases h), H.h7, H.h8, (fun h => by cases h), H.h10, (fun h => by cases h)⟩⟩
              · have ho := hoj
                simp only [List.getElem?_toArray, List.getElem?_cons_succ, List.getElem?_cons_zero, Option.some.injEq] at hoj
                subst hoj
                obtain rfl : b5 = false := hun
                obtain rfl : b4 = true := hall ⟨4, .data⟩ (by simp) (by kernel_rfl)
                clear hall
                obtain rfl : b6 = false := Bool.eq_false_iff.2 fun h => Bool.false_ne_true (H.d6 h).2
                obtain rfl : b9 = false := Bool.eq_false_iff.2 fun h => Bool.false_ne_true (H.d9 h).1
                obtain rfl : b10 = false := Bool.eq_false_iff.2 fun h => Bool.false_ne_true (H.d10 h).2.2.2.2.2.1
                obtain rfl : b11 = false := Bool.eq_false_iff.2 fun h => Bool.false_ne_true (H.d11 h).2.2.2.2.2.1
                have hbe := H.be rfl
                obtain rfl := H.h4 rfl
                have BA := Lib.hid ((Below.refl w.heap.size w).alloc (Nat.le_refl _) (.cells #[.string S1, .string S2] 54))
                have NA := Lib.hid ((RowE.one (E := FdE) w f #[.string S1, .string S2] 54 w.heap.size rfl (HFX.out.symm)).more (show w.heap.size + 1 ≤ (w.alloc (.cells #[.string S1, .string S2] 54)).heap.size by simp))
                refine wpOp_step ho (fun K' hK => ?_)
                have HK := Lib.hid hK
                clear hK ho
                go_simp
                exact HK.out _ _ ⟨_, _, _, _, _, _, _, _, _, _, _, _, _, _, _, _, _, _, _, _, _, _, _, x11, rfl, rfl, ⟨(fun _ => hbe.trans (BA.out.mono hbe.size)), H.d2, H.d3, (fun _ => rfl), (fun h => by cases h), H.d8, H.d9, (fun h => by cases h), (fun h => by cases h), (fun _ => fun e0 _ k hk h5 => by have := (OwnE.lt (H.h0 e0 ‹_›) k hk).2; cases h5; exact Nat.lt_irrefl _ this), (fun e f => OwnE.later (H.h0 e f) BA.out), H.h1, H.h2, (fun e f => OwnE.later (H.h3 e f) BA.out), H.h4, (fun _ _ => ⟨_, rfl, NA.out⟩), (fun h => by cases h), H.h7, H.h8, (fun h => by cases h), H.h10, (fun h => by cases h)⟩⟩
              · have ho := hoj
                simp only [List.getElem?_toArray, List.getElem?_cons_succ, List.getElem?_cons_zero, Option.some.injEq] at hoj
                subst hoj
                obtain rfl : b6 = false := hun
                obtain rfl : b3 = true := hall ⟨3, .data⟩ (by simp) (by kernel_rfl)
                obtain rfl : b5 = true := hall ⟨5, .data⟩ (by simp) (by kernel_rfl)
                obtain rfl : b0 = true := (H.d3 rfl).1
                obtain rfl : b2 = true := (H.d3 rfl).2
                obtain rfl : b4 = true := (H.d5 rfl)
                obtain rfl : b1 = true := (H.d2 rfl)
                clear hall
                obtain rfl : b9 = false := Bool.eq_false_iff.2 fun h => Bool.false_ne_true (H.d9 h).1
                obtain rfl : b10 = false := Bool.eq_false_iff.2 fun h => Bool.false_ne_true (H.d10 h).2.2.2.2.2.2.1
                obtain rfl : b11 = false := Bool.eq_false_iff.2 fun h => Bool.false_ne_true (H.d11 h).2.2.2.2.2.2.1
                have hbe := H.be rfl
                obtain rfl := H.h1 rfl
                obtain rfl := H.h2 rfl
                have P3 := H.h3 rfl rfl
                obtain rfl := H.h4 rfl
                have P5 := H.h5 rfl rfl
                have hsz := hbe.size
                obtain ⟨k5, rfl, hk5⟩ := P5
                have O3 := Lib.hid P3
                have K5 := Lib.hid hk5
                clear hk5
                refine wpOp_step ho (fun K' hK => ?_)
                have HK := Lib.hid hK
                clear hK ho
                refine step_appE w rfl (.tmp 34) (.tmp 36) _ rfl w3.heap.size 54 i0 (.agg #[.string ⟨#[]⟩, .string ⟨#[]⟩]) 32 Tryd.underlying22 HI.out HZ.out HZ1.out HZ2.out rfl (by decide) _ rows rfl O3.out w.heap.size (some ⟨k5, 0, none⟩) 1 1 [f] rfl K5.out rfl (by rw [HN.out]; omega) hsz ?_
                intro v9 u9 own9 g9
                have O9 := Lib.hid own9
                have GG := Lib.hid g9
                have BB := Lib.hid (hbe.grown g9 hsz (fun k hk => (OwnE.lt O3.out k hk).1))
                clear own9 g9
                exact HK.out _ _ ⟨_, _, _, _, _, _, _, _, _, _, _, _, _, _, _, _, _, _, _, _, _, _, _, x11, rfl, rfl, ⟨(fun _ => BB.out), H.d2, H.d3, H.d5, (fun _ => ⟨rfl, rfl⟩), H.d8, (fun h => by cases h), (fun h => by cases h), (fun h => by cases h), (fun h => by cases h), (fun _ h => by cases h), H.h1, H.h2, (fun _ h => by cases h), H.h4, (fun _ h => by cases h), (fun _ _ => O9.out), H.h7, H.h8, (fun h => by cases h), H.h10, (fun h => by cases h)⟩⟩
              · have ho := hoj
                simp only [List.getElem?_toArray, List.getElem?_cons_succ, List.getElem?_cons_zero, Option.some.injEq] at hoj
                subst hoj
                obtain rfl : b7 = false := hun
                clear hall
                obtain rfl : b8 = false := Bool.eq_false_iff.2 fun h => Bool.false_ne_true (H.d8 h)
                obtain rfl : b9 = false := Bool.eq_false_iff.2 fun h => Bool.false_ne_true (H.d9 h).2
                obtain rfl : b10 = false := Bool.eq_false_iff.2 fun h => Bool.false_ne_true (H.d10 h).2.2.2.2.2.2.2.1
                obtain rfl : b11 = false := Bool.eq_false_iff.2 fun h => Bool.false_ne_true (H.d11 h).2.2.2.2.2.2.2.1
                have hbe := H.be rfl
                refine wpOp_step ho (fun K' hK => ?_)
                have HK := Lib.hid hK
                clear hK ho
                go_simp
                exact HK.out _ _ ⟨_, _, _, _, _, _, _, _, _, _, _, _, _, _, _, _, _, _, _, _, _, _, _, x11, rfl, rfl, ⟨(fun _ => hbe), H.d2, H.d3, H.d5, H.d6, (fun h => by cases h), H.d9, (fun h => by cases h), (fun h => by cases h), H.ap, H.h0, H.h1, H.h2, H.h3, H.h4, H.h5, H.h6, (fun _ => rfl), H.h8, (fun h => by cases h), H.h10, (fun h => by cases h)⟩⟩
              · have ho := hoj
                simp only [List.getElem?_toArray, List.getElem?_cons_succ, List.getElem?_cons_zero, Option.some.injEq] at hoj
                subst hoj
                obtain rfl : b8 = false := hun
                obtain rfl : b7 = true := hall ⟨7, .data⟩ (by simp) (by kernel_rfl)
                clear hall
                obtain rfl : b9 = false := Bool.eq_false_iff.2 fun h => Bool.false_ne_true (H.d9 h).2
                obtain rfl : b10 = false := Bool.eq_false_iff.2 fun h => Bool.false_ne_true (H.d10 h).2.2.2.2.2.2.2.2.1
                obtain rfl : b11 = false := Bool.eq_false_iff.2 fun h => Bool.false_ne_true (H.d11 h).2.2.2.2.2.2.2.2.1
                have hbe := H.be rfl
                obtain rfl := H.h7 rfl
                obtain ⟨q0, q1, q2⟩ := bk3T ((hbe.block _ (lt_of_block F3.out)).trans F3.out)
                refine wpOp_step ho (fun K' hK => ?_)
                have HK := Lib.hid hK
                clear hK ho
                go_simp
                exact HK.out _ _ ⟨_, _, _, _, _, _, _, _, _, _, _, _, _, _, _, _, _, _, _, _, _, _, _, x11, rfl, rfl, ⟨(fun _ => hbe), H.d2, H.d3, H.d5, H.d6, (fun _ => rfl), (fun h => by cases h), (fun h => by cases h), (fun h => by cases h), H.ap, H.h0, H.h1, H.h2, H.h3, H.h4, H.h5, H.h6, H.h7, (fun _ => rfl), (fun h => by cases h), H.h10, (fun h => by cases h)⟩⟩
              · have ho := hoj
                simp only [List.getElem?_toArray, List.getElem?_cons_succ, List.getElem?_cons_zero, Option.some.injEq] at hoj
                subst hoj
                obtain rfl : b9 = false := hun
                obtain rfl : b6 = true := hall ⟨6, .data⟩ (by simp) (by kernel_rfl)
                obtain rfl : b8 = true := hall ⟨8, .data⟩ (by simp) (by kernel_rfl)
                obtain rfl : b3 = true := (H.d6 rfl).1
                obtain rfl : b5 = true := (H.d6 rfl).2
                obtain rfl : b7 = true := (H.d8 rfl)
                obtain rfl : b0 = true := (H.d3 rfl).1
                obtain rfl : b2 = true := (H.d3 rfl).2
                obtain rfl : b4 = true := (H.d5 rfl)
                obtain rfl : b1 = true := (H.d2 rfl)
                clear hall
                obtain rfl : b10 = false := Bool.eq_false_iff.2 fun h => Bool.false_ne_true (H.d10 h).2.2.2.2.2.2.2.2.2
                obtain rfl : b11 = false := Bool.eq_false_iff.2 fun h => Bool.false_ne_true (H.d11 h).2.2.2.2.2.2.2.2.2.1
                have hbe := H.be rfl
                obtain rfl := H.h1 rfl
                obtain rfl := H.h2 rfl
                obtain rfl := H.h4 rfl
                have P6 := H.h6 rfl rfl
                obtain rfl := H.h7 rfl
                obtain rfl := H.h8 rfl
                have hsz := hbe.size
                obtain ⟨A6, c6, rfl, s1, s2, s3⟩ := P6.slice
                have R6 := Lib.hid s3
                rw [HN1.out] at *
                refine wpOp_step ho (fun K' hK => ?_)
                have HK := Lib.hid hK
                clear hK ho
                go_wp2_with fail
                refine (HY.out A6 c6 _ hbe R6.out (by omega) s2).mono ?_
                rintro e w9 ⟨b9, u9, rfl, o9⟩
                have BC := Lib.hid b9
                have UC := Lib.hid (OwnE.low o9 hsz)
                clear b9 o9
                go_wp2_with fail
                exact HK.out _ _ ⟨_, _, _, _, _, _, _, _, _, _, _, _, _, _, _, _, _, _, _, _, _, _, _, x11, rfl, rfl, ⟨(fun _ => hbe.trans (BC.out.mono hbe.size)), H.d2, H.d3, H.d5, H.d6, H.d8, (fun _ => ⟨rfl, rfl⟩), (fun h => by cases h), (fun h => by cases h), (fun h => by cases h), (fun _ h => by cases h), H.h1, H.h2, (fun _ h => by cases h), H.h4, (fun _ h => by cases h), (fun e f => OwnE.later (H.h6 e f) BC.out), H.h7, H.h8, (fun _ _ => UC.out), H.h10, (fun h => by cases h)⟩⟩
              · have ho := hoj
                simp only [List.getElem?_toArray, List.getElem?_cons_succ, List.getElem?_cons_zero, Option.some.injEq] at hoj
                subst hoj
                obtain rfl : b10 = false := hun
                obtain rfl : b0 = true := hall ⟨0, .phase⟩ (by simp) (by kernel_rfl)
                obtain rfl : b1 = true := hall ⟨1, .phase⟩ (by simp) (by kernel_rfl)
                obtain rfl : b2 = true := hall ⟨2, .phase⟩ (by simp) (by kernel_rfl)
                obtain rfl : b3 = true := hall ⟨3, .phase⟩ (by simp) (by kernel_rfl)
                obtain rfl : b4 = true := hall ⟨4, .phase⟩ (by simp) (by kernel_rfl)
                obtain rfl : b5 = true := hall ⟨5, .phase⟩ (by simp) (by kernel_rfl)
                obtain rfl : b6 = true := hall ⟨6, .phase⟩ (by simp) (by kernel_rfl)
                obtain rfl : b7 = true := hall ⟨7, .phase⟩ (by simp) (by kernel_rfl)
                obtain rfl : b8 = true := hall ⟨8, .phase⟩ (by simp) (by kernel_rfl)
                obtain rfl : b9 = true := hall ⟨9, .phase⟩ (by simp) (by kernel_rfl)
                clear hall
                obtain rfl : b11 = false := Bool.eq_false_iff.2 fun h => Bool.false_ne_true (H.d11 h).2.2.2.2.2.2.2.2.2.2
                have hbe := H.be rfl
                obtain rfl := H.h1 rfl
                obtain rfl := H.h2 rfl
                obtain rfl := H.h4 rfl
                have P6 := H.h6 rfl rfl
                obtain rfl := H.h7 rfl
                obtain rfl := H.h8 rfl
                have P9 := H.h9 rfl rfl
                refine wpOp_step ho (fun K' hK => ?_)
                have HK := Lib.hid hK
                clear hK ho
                go_simp
                exact HK.out _ _ ⟨_, _, _, _, _, _, _, _, _, _, _, _, _, _, _, _, _, _, _, _, _, _, _, x11, rfl, rfl, ⟨(fun _ => hbe), H.d2, H.d3, H.d5, H.d6, H.d8, H.d9, (fun _ => ⟨rfl, rfl, rfl, rfl, rfl, rfl, rfl, rfl, rfl, rfl⟩), (fun h => by cases h), (fun h => by cases h), (fun _ h => by cases h), H.h1, H.h2, (fun _ h => by cases h), H.h4, (fun _ h => by cases h), H.h6, H.h7, H.h8, H.h9, (fun _ => rfl), (fun h => by cases h)⟩⟩
              · have ho := hoj
                simp only [List.getElem?_toArray, List.getElem?_cons_succ, List.getElem?_cons_zero, Option.some.injEq] at hoj
                subst hoj
                obtain rfl : b11 = false := hun
                obtain rfl : b0 = true := hall ⟨0, .phase⟩ (by simp) (by kernel_rfl)
                obtain rfl : b1 = true := hall ⟨1, .phase⟩ (by simp) (by kernel_rfl)
                obtain rfl : b2 = true := hall ⟨2, .phase⟩ (by simp) (by kernel_rfl)
                obtain rfl : b3 = true := hall ⟨3, .phase⟩ (by simp) (by kernel_rfl)
                obtain rfl : b4 = true := hall ⟨4, .phase⟩ (by simp) (by kernel_rfl)
                obtain rfl : b5 = true := hall ⟨5, .phase⟩ (by simp) (by kernel_rfl)
                obtain rfl : b6 = true := hall ⟨6, .phase⟩ (by simp) (by kernel_rfl)
                obtain rfl : b7 = true := hall ⟨7, .phase⟩ (by simp) (by kernel_rfl)
                obtain rfl : b8 = true := hall ⟨8, .phase⟩ (by simp) (by kernel_rfl)
                obtain rfl : b9 = true := hall ⟨9, .data⟩ (by simp) (by kernel_rfl)
                obtain rfl : b10 = true := hall ⟨10, .data⟩ (by simp) (by kernel_rfl)
                clear hall
                have hbe := H.be rfl
                obtain rfl := H.h1 rfl
                obtain rfl := H.h2 rfl
                obtain rfl := H.h4 rfl
                have P6 := H.h6 rfl rfl
                obtain rfl := H.h7 rfl
                obtain rfl := H.h8 rfl
                have P9 := H.h9 rfl rfl
                obtain rfl := H.h10 rfl
                obtain ⟨A9, c9, rfl, s1, s2, s3⟩ := P9.slice
                have FB := Lib.hid ((hbe.block _ (lt_of_block F3.out)).trans F3.out)
                have ZB := Lib.hid ((hbe.block _ (lt_of_block Z3.out)).trans Z3.out)
                have hsz := lt_of_block F3.out
                have gp := gr_set w W.heap.size 2 (.slice A9 Y.length c9)
                have K1 := Lib.hid (show (w.setCell ⟨W.heap.size, 2, none⟩ (.slice A9 Y.length c9)).heap[W.heap.size]? = some (.cells #[.int .i64 room, .int .i64 put, .slice A9 Y.length c9] 24 (0, 0)) by simpa using bk_set FB.out 2 (.slice A9 Y.length c9))
                have OK9 := Lib.hid (OwnE.kept P9 gp (fun e => by have := (OwnE.lt P9 _ e).1; omega))
                have BV := Lib.hid (gr_from (B3.out.trans (hbe.mono B3.out.size)) (Nat.le_trans B3.out.size hbe.size) (Nat.le_refl _) gp)
                have ZV := Lib.hid ((gp.block _ (lt_of_block ZB.out) (by simp)).trans ZB.out)
                obtain ⟨q0, q1, q2⟩ := bk3T FB.out
                have qf := fun i => bk_frz FB.out i
                clear gp s3
                refine wpOp_step ho (fun K' hK => ?_)
                have HK := Lib.hid hK
                clear hK ho
                go_simp
                exact HK.out _ _ ⟨_, _, _, _, _, _, _, _, _, _, _, _, _, _, _, _, _, _, _, _, _, _, _, x11, rfl, rfl, ⟨(fun h => by cases h), H.d2, H.d3, H.d5, H.d6, H.d8, H.d9, H.d10, (fun _ => ⟨rfl, rfl, rfl, rfl, rfl, rfl, rfl, rfl, rfl, rfl, rfl⟩), (fun h => by cases h), (fun _ h => by cases h), H.h1, H.h2, (fun _ h => by cases h), H.h4, (fun _ h => by cases h), (fun _ h => by cases h), H.h7, H.h8, (fun _ h => by cases h), H.h10, (fun _ => ⟨_, _, K1.out, OK9.out, BV.out, ZV.out⟩)⟩⟩
              · have ho := hoj
                simp at ho
            case hfin =>
              rintro listed a w ⟨b0, b1, b2, b3, b4, b5, b6, b7, b8, b9, b10, b11, x0, x1, x2, x3, x4, x5, x6, x7, x8, x9, x10, x11, rfl, rfl, H⟩ hr
              have hb : b11 = true := by
                clear H
                revert b0 b1 b2 b3 b4 b5 b6 b7 b8 b9 b10 b11
                decide +kernel
              subst hb
              clear hr
              obtain rfl : b0 = true := (H.d11 rfl).1
              obtain rfl : b1 = true := (H.d11 rfl).2.1
              obtain rfl : b2 = true := (H.d11 rfl).2.2.1
              obtain rfl : b3 = true := (H.d11 rfl).2.2.2.1
              obtain rfl : b4 = true := (H.d11 rfl).2.2.2.2.1
              obtain rfl : b5 = true := (H.d11 rfl).2.2.2.2.2.1
              obtain rfl : b6 = true := (H.d11 rfl).2.2.2.2.2.2.1
              obtain rfl : b7 = true := (H.d11 rfl).2.2.2.2.2.2.2.1
              obtain rfl : b8 = true := (H.d11 rfl).2.2.2.2.2.2.2.2.1
              obtain rfl : b9 = true := (H.d11 rfl).2.2.2.2.2.2.2.2.2.1
              obtain rfl : b10 = true := (H.d11 rfl).2.2.2.2.2.2.2.2.2.2
              obtain ⟨Aq, cq, hz, hf, hb, hzz⟩ := H.h11 rfl
              have HZ := Lib.hid hz
              have HOW := Lib.hid hf
              have HBB := Lib.hid hb
              have HZZ := Lib.hid hzz
              clear hz hf hb hzz H
              obtain ⟨w4, hw4⟩ : ∃ x, x = w := ⟨_, rfl⟩
              subst w
              obtain ⟨q0, q1, q2⟩ := bk3T HZ.out
              have qf := fun i => bk_frz HZ.out i
              have hk5 : (w4.setCell ⟨W.heap.size, 1, none⟩ (.int .i64 (put + 1))).heap[W.heap.size]? = some (.cells #[.int .i64 room, .int .i64 (put + 1), .slice Aq Y.length cq] 24 (0, 0)) := by simpa using bk_set HZ.out 1 (.int .i64 (put + 1))
              have g5 := gr_set w4 W.heap.size 1 (.int .i64 (put + 1))
              have HZ5 := Lib.hid ((g5.block _ (lt_of_block HZZ.out) (by simp)).trans HZZ.out)
              have B5 := Lib.hid (gr_from HBB.out HBB.out.size (Nat.le_refl _) g5)
              have hs3 := lt_of_block Z3.out
              have O5 := Lib.hid (OwnE.kept HOW.out g5 (fun e => by have := (OwnE.lt HOW.out _ e).1; omega))
              obtain ⟨p0, p1, p2⟩ := bk3T hk5
              obtain ⟨z0, z1, z2⟩ := bk3T HZ5.out
              have zf := fun i => bk_frz HZ5.out i
              go_wp2_with fail
              obtain ⟨k1, gp⟩ := bk3_blk HZ5.out (.int .i64 room) (.int .i64 (put + 1)) (.slice Aq Y.length cq)
              obtain ⟨r0, r1, r2⟩ := bk3T k1
              have O6 := OwnE.kept O5.out gp (fun e => by have := (OwnE.lt O5.out _ e).1; omega)
              refine bodyPost_ret (by simp [results, Tryd.results50, go_sem, r0, r1, r2]; try rfl) rfl ?_
              exact ⟨gr_from B5.out B5.out.size (by omega) gp, _, rfl, ⟨_, rfl, fsl_own O6⟩⟩
    · rw [if_pos h1]
      rw [decide_eq_false h1] at HIF
      clear h1
      go_enter Tryd.func50, Tryd.ntmps50
      go_wp2_with (first
        | (go_at_call 46; refine (HFT.out _ B0.out).mono ?_; rintro e w1 ⟨rfl, b1⟩; have B1 := Lib.hid (B0.out.trans (b1.mono B0.out.size)); have F1 := Lib.hid ((b1.block _ (lt_of_block F0.out)).trans F0.out); have G1 := Lib.hid ((b1.block _ (lt_of_block G0.out)).trans G0.out); have Z1 := Lib.hid ((b1.block _ (lt_of_block Z0.out)).trans Z0.out); clear b1; obtain ⟨q0, q1, q2⟩ := bk3T F1.out; obtain ⟨y0, y1⟩ := bk2F G1.out; obtain ⟨z0, z1, z2⟩ := bk3T Z1.out; have zf := fun i => bk_frz Z1.out i)
        | (go_at_call 45; refine (HIF.out _).mono ?_; rintro e w2 ⟨rfl, b2⟩; have B2 := Lib.hid (B1.out.trans (b2.mono B1.out.size)); have F2 := Lib.hid ((b2.block _ (lt_of_block F1.out)).trans F1.out); have G2 := Lib.hid ((b2.block _ (lt_of_block G1.out)).trans G1.out); have Z2 := Lib.hid ((b2.block _ (lt_of_block Z1.out)).trans Z1.out); clear b2; clear q0 q1 q2 y0 y1 z0 z1 z2 zf; obtain ⟨q0, q1, q2⟩ := bk3T F2.out; obtain ⟨y0, y1⟩ := bk2F G2.out; obtain ⟨z0, z1, z2⟩ := bk3T Z2.out; have zf := fun i => bk_frz Z2.out i))
      obtain ⟨k1, gp⟩ := bk3_blk Z2.out (.int .i64 0) (.int .i64 0) (.slice none 0 0)
      obtain ⟨r0, r1, r2⟩ := bk3T k1
      refine bodyPost_ret (by simp [results, Tryd.results50, go_sem, r0, r1, r2]; try rfl) rfl ?_
      exact ⟨gr_from B2.out B2.out.size (by omega) gp, _, rfl, TbVal.zero _ _⟩
  · rw [if_pos h0]
    have g : (x != 0) = true := by simp [h0]
    clear h0 hok hN
    go_enter Tryd.func50, Tryd.ntmps50
    go_wp2_with (first
      | (go_at_call 46; refine (HFT.out _ B0.out).mono ?_; rintro e w1 ⟨rfl, b1⟩; have B1 := Lib.hid (B0.out.trans (b1.mono B0.out.size)); have F1 := Lib.hid ((b1.block _ (lt_of_block F0.out)).trans F0.out); have G1 := Lib.hid ((b1.block _ (lt_of_block G0.out)).trans G0.out); have Z1 := Lib.hid ((b1.block _ (lt_of_block Z0.out)).trans Z0.out); clear b1; obtain ⟨q0, q1, q2⟩ := bk3T F1.out; obtain ⟨y0, y1⟩ := bk2F G1.out; obtain ⟨z0, z1, z2⟩ := bk3T Z1.out; have zf := fun i => bk_frz Z1.out i))
    obtain ⟨k1, gp⟩ := bk3_blk Z1.out (.int .i64 0) (.int .i64 0) (.slice none 0 0)
    obtain ⟨r0, r1, r2⟩ := bk3T k1
    refine bodyPost_ret (by simp [results, Tryd.results50, go_sem, r0, r1, r2]; try rfl) rfl ?_
    exact ⟨gr_from B1.out B1.out.size (by omega) gp, _, rfl, TbVal.zero _ _⟩
end Go.Proofs.YtpfahdogedchpaaDoor
/- The exact texts' sameFields, sameTable: two that read the same are the same. -/
namespace Go.Proofs.YtpfahdogedchpaaDoor
set_option linter.unusedVariables false
open Go.RowKit P

set_option maxHeartbeats 1000000 in
theorem lsameFd_eq (A A' : Option Addr) (n c c' : Nat) (l : List Fld) (w : World) (h : RowE FdE w w.heap.size A l) (h' : RowE FdE w w.heap.size A' l) (hn : l.length = n) (hm : n ≤ 8796093022208) :
    Calls Tryd.prog 28 #[.slice A n c, .slice A' n c'] w fun e w' => e = .returned (.bool true) ∧ Below w.heap.size w w' := by
  have HR := Lib.hid h
  have HR' := Lib.hid h'
  have HN := Lib.hid hn
  clear h h' hn
  go_enter Tryd.func28, Tryd.ntmps28
  go_wp2_with fail
  go_loopg [5, 6] n (fun gq bv iv wr => ∃ i : Nat, bv = .bool true ∧ iv = .int .i64 i ∧ i + gq = n ∧ Hid (Below w.heap.size w wr))
  case atStart => exact ⟨0, rfl, rfl, by omega, Lib.hid (Below.refl _ _)⟩
  case round =>
    obtain ⟨i, rfl, rfl, hig, BK⟩ := hrel
    by_cases hlt : i < n
    · have hil : i < l.length := by rw [HN.out]; exact hlt
      obtain ⟨b, off, hA, hbl, x0, x1⟩ := fd_cells HR.out hil
      obtain ⟨b', off', hA', hbl', x0', x1'⟩ := fd_cells HR'.out hil
      obtain ⟨y, hy⟩ : ∃ y, l.getD i fd0 = y := ⟨_, rfl⟩
      rw [hy] at x0 x1 x0' x1'
      obtain ⟨S1, hS1⟩ : ∃ S, strOfNums y.name = S := ⟨_, rfl⟩
      obtain ⟨S2, hS2⟩ : ∃ S, strOfNums y.val = S := ⟨_, rfl⟩
      rw [hS1] at x0 x0'
      rw [hS2] at x1 x1'
      subst hA hA'
      have y0 := (BK.out.cell (p := ⟨b, off + i * 2, none⟩) hbl).trans x0
      have y1 := (BK.out.cell (p := ⟨b, off + i * 2 + 1, none⟩) hbl).trans x1
      have y0' := (BK.out.cell (p := ⟨b', off' + i * 2, none⟩) hbl').trans x0'
      have y1' := (BK.out.cell (p := ⟨b', off' + i * 2 + 1, none⟩) hbl').trans x1'
      have hnk : (i : Int) < (n : Int) := by omega
      clear x0 x1 x0' x1' hy hS1 hS2 hil
      go_wp2_with fail
      go_quiet (fail)
      rename_i nq
      have B2 := Lib.hid (Go.below_drewN BK.out nq)
      obtain ⟨w2, hw2⟩ : ∃ w2, wr.drewN nq = w2 := ⟨_, rfl⟩
      rw [hw2] at B2 ⊢
      clear hw2 y0 y1 y0' y1'
      go_wp2_with fail
      go_roundg (gk - 1)
      case measure => omega
      case rel => exact ⟨i + 1, rfl, by first | rfl | go_num, by omega, B2⟩
    · obtain rfl : i = n := by omega
      go_wp2_with fail
      go_ret
      exact ⟨rfl, BK.out⟩
set_option maxHeartbeats 1000000 in
theorem lsameTb_eq (v v' : Value) (t : Tb) (w : World) (h : TbVal w w.heap.size v t) (h' : TbVal w w.heap.size v' t) (hm : t.rows.length ≤ 8796093022208) :
    Calls Tryd.prog 11 #[v, v'] w fun e w' => e = .returned (.bool true) ∧ Below w.heap.size w w' := by
  obtain ⟨sv, rfl, hs⟩ := h.ex
  obtain ⟨A, c, rfl, _, _, hr⟩ := hs.ex
  obtain ⟨sv', rfl, hs'⟩ := h'.ex
  obtain ⟨A', c', rfl, _, _, hr'⟩ := hs'.ex
  obtain ⟨g0, g1, g2⟩ := two_bk w #[.int .i64 t.room, .int .i64 t.put, .slice A t.rows.length c] #[.int .i64 t.room, .int .i64 t.put, .slice A' t.rows.length c'] 24 24
  have B0 := Lib.hid g2
  have R0 := Lib.hid (hr.on g2)
  have R1 := Lib.hid (hr'.on g2)
  obtain ⟨q0, q1, q2⟩ := bk3T g0
  obtain ⟨z0, z1, z2⟩ := bk3T g1
  clear h h' hs hs' hr hr' g0 g1 g2
  go_enter Tryd.func11, Tryd.ntmps11
  go_wp2_with fail
  refine (lsameFd_eq _ _ _ _ _ _ _ R0.out R1.out rfl hm).mono ?_
  rintro e w1 ⟨rfl, b1⟩
  have B1 := Lib.hid (B0.out.trans (b1.mono B0.out.size))
  clear b1 q0 q1 q2 z0 z1 z2
  go_wp2_with fail
  go_ret
  exact ⟨by first | rfl | simp, B1.out⟩
end Go.Proofs.YtpfahdogedchpaaDoor
/- The walks of TableResizes, TableGets, TableInserts, over what is asked of the project. -/
namespace Go.Proofs.YtpfahdogedchpaaDoor
set_option linter.unusedVariables false
open Go.RowKit P

def TbSzf (P : Program) (f : FuncId) : Prop := ∀ (x : Fld) (w : World), FdWf x → Calls P f #[fdV x] w fun e w' => e = .returned (.int .i64 (szF x : Int)) ∧ Below w.heap.size w w'
theorem tb_slices {w : World} {B : Nat} {v : Value} {t : Tb} (h : TbVal w B v t) : ∃ A c, v = .agg #[.int .i64 t.room, .int .i64 t.put, .slice A t.rows.length c] := by
  obtain ⟨s, rfl, h1⟩ := h.ex
  obtain ⟨A, c, rfl, _⟩ := h1.ex
  exact ⟨A, c, rfl⟩
theorem resT_len {t : Tb} {n : Int} (hw : TbWf t) : (resT t n).1.rows.length ≤ 8796093022208 := by
  unfold resT
  split
  · simp [tb0]
  · split
    · simp [tb0]
    · obtain ⟨k, h1, h2⟩ := young_suffix n t.rows
      simp only [h2, List.length_drop]
      have := hw.len
      omega
theorem insT_len {t : Tb} {f : Fld} (hw : TbWf t) : (insT t f).1.rows.length ≤ 8796093022208 := by
  unfold insT
  by_cases c : faultTb t ≠ 0
  · rw [if_pos c]; simp [tb0]
  · rw [if_neg c]
    have := ((faultTb_iff t).1 (Decidable.byContradiction c))
    have h4 := wtL_len t.rows
    have h5 := this.2.2.2.1
    have h6 := this.1.2
    split
    · simp [tb0]
    · split
      · simp [tb0]
      · split
        · simp [tb0]
        · obtain ⟨k, h1, h2⟩ := young_suffix t.room (t.rows ++ [f])
          simp only [h2, List.length_drop, List.length_append, List.length_singleton]
          omega
end Go.Proofs.YtpfahdogedchpaaDoor
/- The statements' own sameFields: two rows that read the same are the same. -/
namespace Go.Proofs.YtpfahdogedchpaaDoor
set_option linter.unusedVariables false
open Go.RowKit P

set_option maxHeartbeats 1000000 in
theorem ksameFd_eq (A A' : Option Addr) (n c c' : Nat) (l : List Fld) (w : World) (h : RowE FdE w w.heap.size A l) (h' : RowE FdE w w.heap.size A' l) (hn : l.length = n) (hm : n ≤ 8796093022208) :
    Calls Tryd.prog 16 #[.slice A n c, .slice A' n c'] w fun e w' => e = .returned (.bool true) ∧ Below w.heap.size w w' := by
  have HR := Lib.hid h
  have HR' := Lib.hid h'
  have HN := Lib.hid hn
  clear h h' hn
  go_enter Tryd.func16, Tryd.ntmps16
  go_wp2_with fail
  go_loopg [5, 6] n (fun gq bv iv wr => ∃ i : Nat, bv = .bool true ∧ iv = .int .i64 i ∧ i + gq = n ∧ Hid (Below w.heap.size w wr))
  case atStart => exact ⟨0, rfl, rfl, by omega, Lib.hid (Below.refl _ _)⟩
  case round =>
    obtain ⟨i, rfl, rfl, hig, BK⟩ := hrel
    by_cases hlt : i < n
    · have hil : i < l.length := by rw [HN.out]; exact hlt
      obtain ⟨b, off, hA, hbl, x0, x1⟩ := fd_cells HR.out hil
      obtain ⟨b', off', hA', hbl', x0', x1'⟩ := fd_cells HR'.out hil
      obtain ⟨y, hy⟩ : ∃ y, l.getD i fd0 = y := ⟨_, rfl⟩
      rw [hy] at x0 x1 x0' x1'
      obtain ⟨S1, hS1⟩ : ∃ S, strOfNums y.name = S := ⟨_, rfl⟩
      obtain ⟨S2, hS2⟩ : ∃ S, strOfNums y.val = S := ⟨_, rfl⟩
      rw [hS1] at x0 x0'
      rw [hS2] at x1 x1'
      subst hA hA'
      have y0 := (BK.out.cell (p := ⟨b, off + i * 2, none⟩) hbl).trans x0
      have y1 := (BK.out.cell (p := ⟨b, off + i * 2 + 1, none⟩) hbl).trans x1
      have y0' := (BK.out.cell (p := ⟨b', off' + i * 2, none⟩) hbl').trans x0'
      have y1' := (BK.out.cell (p := ⟨b', off' + i * 2 + 1, none⟩) hbl').trans x1'
      have hnk : (i : Int) < (n : Int) := by omega
      clear x0 x1 x0' x1' hy hS1 hS2 hil
      go_wp2_with fail
      go_quiet (fail)
      rename_i nq
      have B2 := Lib.hid (Go.below_drewN BK.out nq)
      obtain ⟨w2, hw2⟩ : ∃ w2, wr.drewN nq = w2 := ⟨_, rfl⟩
      rw [hw2] at B2 ⊢
      clear hw2 y0 y1 y0' y1'
      go_wp2_with fail
      go_roundg (gk - 1)
      case measure => omega
      case rel => exact ⟨i + 1, rfl, by first | rfl | go_num, by omega, B2⟩
    · obtain rfl : i = n := by omega
      go_wp2_with fail
      go_ret
      exact ⟨rfl, BK.out⟩
end Go.Proofs.YtpfahdogedchpaaDoor
