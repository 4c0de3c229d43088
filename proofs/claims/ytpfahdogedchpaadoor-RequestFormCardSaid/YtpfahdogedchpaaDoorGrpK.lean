/- Several texts in one. -/
import Derived.Test.YtpfahdogedchpaaDoorGrpU
import Derived.Test.YtpfahdogedchpaaDoorFdE2
import Derived.Test.YtpfahdogedchpaaDoorGrpZg
/- The project's writers of fields: pair, line. -/
namespace Go.Proofs.YtpfahdogedchpaaDoor.P
set_option linter.unusedVariables false
open Go.RowKit
theorem pxL_T (first w n : Int) : pxL first w n = pxT first (topW w) n := rfl
theorem kpB_true (f : Fld) : kpB f true = fun x => decide (x = f) := by
  funext x
  unfold kpB
  simp
theorem kpB_false (f : Fld) : kpB f false = fun x => decide (x.name = f.name) := by
  funext x
  unfold kpB
  rw [Bool.eq_iff_iff]
  simp
  intro h
  rw [h]
/-- a field of a section, as the project writes it: n is below 0 where none is referred to -/
def lineP (need : Int) (f : Fld) (n : Int) : List Int := lineT need f (if n = -1 then none else some n)
theorem kpL_in (f : Fld) (s : Bool) : kpL f s = -1 ∨ (0 ≤ kpL f s ∧ kpL f s < 11) := firstP_in (kpB f s) knL
theorem pxF_num {first wi n : Int} (hw : 1 ≤ wi ∧ wi ≤ 8) (hn : 0 ≤ n ∧ n ≤ 4611686018427387903) (h : first % (topW wi + 1) = 0) : pxF first wi n = 0 := by
  unfold pxF
  rw [if_neg (by omega), if_neg (by omega)]
theorem pxL_short (first wi n : Int) (h : pxF first wi n = 0) : 0 < (pxL first wi n).length ∧ (pxL first wi n).length ≤ 11 := by
  have := (pxL_len (first := first) (w := wi) (n := n) h).2
  refine ⟨by unfold pxL; split <;> simp, by omega⟩
end Go.Proofs.YtpfahdogedchpaaDoor.P
namespace Go.Proofs.YtpfahdogedchpaaDoor
set_option linter.unusedVariables false
open Go.RowKit P

structure FdPr (w0 : World) (W : World) (S1 S2 : ByteArray) (first wi : Int) (L1 L2 : List Int) (V0 V1 V2 V3 V5 V6 : Value) (tb0 tb1 tb2 tb3 tb4 tb5 tb6 tb7 tb8 tb9 : Bool) (tx0 tx1 tx2 tx3 tx4 tx5 tx6 tx7 tx8 tx9 : Value) (w : World) : Prop where
  be : Below w0.heap.size w0 w
  d3 : tb3 = true → tb2 = true
  d4 : tb4 = true → tb0 = true ∧ tb1 = true ∧ tb3 = true
  d6 : tb6 = true → tb5 = true
  d7 : tb7 = true → tb4 = true ∧ tb6 = true
  d8 : tb8 = true → tb4 = true ∧ tb7 = true
  d9 : tb9 = true → tb0 = true ∧ tb1 = true ∧ tb2 = true ∧ tb3 = true ∧ tb4 = true ∧ tb5 = true ∧ tb6 = true ∧ tb7 = true ∧ tb8 = true
  h0 : tb0 = true → tx0 = V0
  h1 : tb1 = true → tx1 = V1
  h2 : tb2 = true → tx2 = V2
  h3 : tb3 = true → tx3 = V3
  h4 : tb4 = true → tb8 = false → WRow w w0.heap.size 5 tx4 L1
  h5 : tb5 = true → tx5 = V5
  h6 : tb6 = true → tx6 = V6
  h7 : tb7 = true → tb8 = false → WRow w w0.heap.size 5 tx7 L2
  h8 : tb8 = true → WRow w w0.heap.size 5 tx8 (L1 ++ L2)
  h9 : tb9 = true → tx9 = tx8
structure FdLn (w0 : World) (W : World) (S2 : ByteArray) (k2 : Int) (L1 L2 : List Int) (V0 V2 V3 : Value) (tb0 tb1 tb2 tb3 tb4 tb5 tb6 : Bool) (tx0 tx1 tx2 tx3 tx4 tx5 tx6 : Value) (w : World) : Prop where
  be : Below w0.heap.size w0 w
  d1 : tb1 = true → tb0 = true
  d3 : tb3 = true → tb2 = true
  d4 : tb4 = true → tb1 = true ∧ tb3 = true
  d5 : tb5 = true → tb1 = true ∧ tb4 = true
  d6 : tb6 = true → tb0 = true ∧ tb1 = true ∧ tb2 = true ∧ tb3 = true ∧ tb4 = true ∧ tb5 = true
  h0 : tb0 = true → tx0 = V0
  h1 : tb1 = true → tb5 = false → WRow w w0.heap.size 5 tx1 L1
  h2 : tb2 = true → tx2 = V2
  h3 : tb3 = true → tx3 = V3
  h4 : tb4 = true → tb5 = false → WRow w w0.heap.size 5 tx4 L2
  h5 : tb5 = true → WRow w w0.heap.size 5 tx5 (L1 ++ L2)
  h6 : tb6 = true → tx6 = tx5
set_option maxRecDepth 100000 in
set_option maxHeartbeats 2000000 in
theorem pair_any (first wi : Int) (f : Fld) (hf : FdWf f) (ok : okFd f) (f0 : 0 ≤ first) (f1 : first < 256) (w0 : 1 ≤ wi ∧ wi ≤ 8) (h : first % (topW wi + 1) = 0) (W : World) :
    Calls Tryd.prog 67 #[.int .u8 first, .int .i64 wi, fdV f] W fun e w' => Below W.heap.size W w' ∧ ∃ d, e = .returned d ∧ WRow w' W.heap.size 5 d (pxTL first wi f.name ++ pxTL 0 7 f.val) := by
  have k1 := pxF_num (first := first) (wi := wi) (n := f.name.length) w0 (by unfold okFd at ok; omega) h
  have k2 := pxF_num (first := 0) (wi := 7) (n := f.val.length) (by decide) (by unfold okFd at ok; omega) (by decide)
  have HT1 := Lib.hid (fun w => fdtext_any first wi f.name w hf.1 (by unfold okFd at ok; omega) f0 f1 (by omega) (by omega) k1)
  have HT2 := Lib.hid (fun w => fdtext_any 0 7 f.val w hf.2.1 (by unfold okFd at ok; omega) (by decide) (by decide) (by decide) (by decide) k2)
  have HY2 := Lib.hid (show Byt (pxTL 0 7 f.val) from (pxL_byt' (by decide) (by decide) k2).append hf.2.1)
  have HP1 := Lib.hid (show 0 < (pxTL first wi f.name).length by unfold pxTL; rw [List.length_append]; have := (pxL_short _ _ _ k1).1; omega)
  have HL1 := Lib.hid (show (pxTL first wi f.name).length ≤ 131 by unfold pxTL; rw [List.length_append]; have := (pxL_short _ _ _ k1).2; unfold okFd at ok; omega)
  have HL2 := Lib.hid (show (pxTL 0 7 f.val).length ≤ 131 by unfold pxTL; rw [List.length_append]; have := (pxL_short _ _ _ k2).2; unfold okFd at ok; omega)
  obtain ⟨L1, hL1⟩ : ∃ L, pxTL first wi f.name = L := ⟨_, rfl⟩
  obtain ⟨L2, hL2⟩ : ∃ L, pxTL 0 7 f.val = L := ⟨_, rfl⟩
  rw [hL1] at HT1 HP1 HL1 ⊢
  rw [hL2] at HT2 HY2 HL2 ⊢
  unfold fdV
  obtain ⟨S1, hS1⟩ : ∃ S, strOfNums f.name = S := ⟨_, rfl⟩
  obtain ⟨S2, hS2⟩ : ∃ S, strOfNums f.val = S := ⟨_, rfl⟩
  rw [hS1] at HT1 ⊢
  rw [hS2] at HT2 ⊢
  have B0 := Lib.hid ((Below.refl W.heap.size W).alloc (Nat.le_refl _) (.cells #[.string S1, .string S2] 54))
  have G0 := Lib.hid (heap_alloc_new W (.cells #[.string S1, .string S2] 54))
  clear hL1 hL2 hS1 hS2 k1 k2 hf ok f0 f1 w0 h
  go_enter Tryd.func67, Tryd.ntmps67
  go_upto_region 1 with fail
  obtain ⟨w1, hw1⟩ : ∃ x, W.alloc (.cells #[.string S1, .string S2] 54) = x := ⟨_, rfl⟩
  rw [hw1] at B0 G0 ⊢
  clear hw1
  refine wp_region_inv (fun lis_ act_ wld_ => ∃ (tb0 tb1 tb2 tb3 tb4 tb5 tb6 tb7 tb8 tb9 : Bool) (tx0 tx1 tx2 tx3 tx4 tx5 tx6 tx7 tx8 tx9 : Value), lis_ = #[tb0, tb1, tb2, tb3, tb4, tb5, tb6, tb7, tb8, tb9] ∧ act_ = { tmps := #[Value.int IntKind.u8 first, Value.int IntKind.i64 wi, Value.agg #[Value.string S1, Value.string S2], undef, undef, Value.pointer (some { block := W.heap.size, off := 0 }), tx9, tx0, tx1, tx2, tx3, tx4, tx5, tx6, tx7, tx8], defers := [] } ∧ FdPr w1 W S1 S2 first wi L1 L2 (.int .u8 first) (.int .i64 wi) (.pointer (some ⟨W.heap.size, 0, none⟩)) (.string S1) (.pointer (some ⟨W.heap.size, 1, none⟩)) (.string S2) tb0 tb1 tb2 tb3 tb4 tb5 tb6 tb7 tb8 tb9 tx0 tx1 tx2 tx3 tx4 tx5 tx6 tx7 tx8 tx9 wld_) (by kernel_rfl) ?h0 ?hfin ?hI
  case h0 => exact ⟨_, _, _, _, _, _, _, _, _, _, _, _, _, _, _, _, _, _, _, _, rfl, rfl, ⟨(Below.refl _ _).drew, (fun h => by cases h), (fun h => by cases h), (fun h => by cases h), (fun h => by cases h), (fun h => by cases h), (fun h => by cases h), (fun h => by cases h), (fun h => by cases h), (fun h => by cases h), (fun h => by cases h), (fun h => by cases h), (fun h => by cases h), (fun h => by cases h), (fun h => by cases h), (fun h => by cases h), (fun h => by cases h)⟩⟩
  case hI =>
    rintro listed a w ⟨tb0, tb1, tb2, tb3, tb4, tb5, tb6, tb7, tb8, tb9, tx0, tx1, tx2, tx3, tx4, tx5, tx6, tx7, tx8, tx9, rfl, rfl, H⟩ i hi
    obtain ⟨hun, oj, hoj, hall⟩ := mem_ready.1 hi
    clear hi
    rcases i with _ | _ | _ | _ | _ | _ | _ | _ | _ | _ | i
    · have ho := hoj
      simp only [List.getElem?_toArray, List.getElem?_cons_succ, List.getElem?_cons_zero, Option.some.injEq] at hoj
      subst hoj
      obtain rfl : tb0 = false := hun
      clear hall
      obtain rfl : tb4 = false := Bool.eq_false_iff.2 fun h => Bool.false_ne_true (H.d4 h).1
      obtain rfl : tb7 = false := Bool.eq_false_iff.2 fun h => Bool.false_ne_true (H.d7 h).1
      obtain rfl : tb8 = false := Bool.eq_false_iff.2 fun h => Bool.false_ne_true (H.d8 h).1
      obtain rfl : tb9 = false := Bool.eq_false_iff.2 fun h => Bool.false_ne_true (H.d9 h).1
      have hbe := H.be
      refine wpOp_step ho (fun K' hK => ?_)
      have HK := Lib.hid hK
      clear hK ho
      go_simp
      exact HK.out _ _ ⟨_, _, _, _, _, _, _, _, _, _, _, _, _, _, _, _, _, _, _, _, rfl, rfl, ⟨hbe, H.d3, (fun h => by cases h), H.d6, H.d7, H.d8, (fun h => by cases h), (fun _ => rfl), H.h1, H.h2, H.h3, (fun h => by cases h), H.h5, H.h6, (fun h => by cases h), (fun h => by cases h), (fun h => by cases h)⟩⟩
    · have ho := hoj
      simp only [List.getElem?_toArray, List.getElem?_cons_succ, List.getElem?_cons_zero, Option.some.injEq] at hoj
      subst hoj
      obtain rfl : tb1 = false := hun
      clear hall
      obtain rfl : tb4 = false := Bool.eq_false_iff.2 fun h => Bool.false_ne_true (H.d4 h).2.1
      obtain rfl : tb7 = false := Bool.eq_false_iff.2 fun h => Bool.false_ne_true (H.d7 h).1
      obtain rfl : tb8 = false := Bool.eq_false_iff.2 fun h => Bool.false_ne_true (H.d8 h).1
      obtain rfl : tb9 = false := Bool.eq_false_iff.2 fun h => Bool.false_ne_true (H.d9 h).2.1
      have hbe := H.be
      refine wpOp_step ho (fun K' hK => ?_)
      have HK := Lib.hid hK
      clear hK ho
      go_simp
      exact HK.out _ _ ⟨_, _, _, _, _, _, _, _, _, _, _, _, _, _, _, _, _, _, _, _, rfl, rfl, ⟨hbe, H.d3, (fun h => by cases h), H.d6, H.d7, H.d8, (fun h => by cases h), H.h0, (fun _ => rfl), H.h2, H.h3, (fun h => by cases h), H.h5, H.h6, (fun h => by cases h), (fun h => by cases h), (fun h => by cases h)⟩⟩
    · have ho := hoj
      simp only [List.getElem?_toArray, List.getElem?_cons_succ, List.getElem?_cons_zero, Option.some.injEq] at hoj
      subst hoj
      obtain rfl : tb2 = false := hun
      clear hall
      obtain rfl : tb3 = false := Bool.eq_false_iff.2 fun h => Bool.false_ne_true (H.d3 h)
      obtain rfl : tb4 = false := Bool.eq_false_iff.2 fun h => Bool.false_ne_true (H.d4 h).2.2
      obtain rfl : tb7 = false := Bool.eq_false_iff.2 fun h => Bool.false_ne_true (H.d7 h).1
      obtain rfl : tb8 = false := Bool.eq_false_iff.2 fun h => Bool.false_ne_true (H.d8 h).1
      obtain rfl : tb9 = false := Bool.eq_false_iff.2 fun h => Bool.false_ne_true (H.d9 h).2.2.1
      have hbe := H.be
      refine wpOp_step ho (fun K' hK => ?_)
      have HK := Lib.hid hK
      clear hK ho
      go_simp
      exact HK.out _ _ ⟨_, _, _, _, _, _, _, _, _, _, _, _, _, _, _, _, _, _, _, _, rfl, rfl, ⟨hbe, (fun h => by cases h), H.d4, H.d6, H.d7, H.d8, (fun h => by cases h), H.h0, H.h1, (fun _ => rfl), H.h3, (fun h => by cases h), H.h5, H.h6, (fun h => by cases h), (fun h => by cases h), (fun h => by cases h)⟩⟩
    · have ho := hoj
      simp only [List.getElem?_toArray, List.getElem?_cons_succ, List.getElem?_cons_zero, Option.some.injEq] at hoj
      subst hoj
      obtain rfl : tb3 = false := hun
      obtain rfl : tb2 = true := hall ⟨2, .data⟩ (by simp) (by kernel_rfl)
      clear hall
      obtain rfl : tb4 = false := Bool.eq_false_iff.2 fun h => Bool.false_ne_true (H.d4 h).2.2
      obtain rfl : tb7 = false := Bool.eq_false_iff.2 fun h => Bool.false_ne_true (H.d7 h).1
      obtain rfl : tb8 = false := Bool.eq_false_iff.2 fun h => Bool.false_ne_true (H.d8 h).1
      obtain rfl : tb9 = false := Bool.eq_false_iff.2 fun h => Bool.false_ne_true (H.d9 h).2.2.2.1
      have hbe := H.be
      obtain rfl := H.h2 rfl
      obtain ⟨y0, y1⟩ := bk2F ((hbe.block _ (lt_of_block G0.out)).trans G0.out)
      refine wpOp_step ho (fun K' hK => ?_)
      have HK := Lib.hid hK
      clear hK ho
      go_simp
      exact HK.out _ _ ⟨_, _, _, _, _, _, _, _, _, _, _, _, _, _, _, _, _, _, _, _, rfl, rfl, ⟨hbe, (fun _ => rfl), (fun h => by cases h), H.d6, H.d7, H.d8, (fun h => by cases h), H.h0, H.h1, H.h2, (fun _ => rfl), (fun h => by cases h), H.h5, H.h6, (fun h => by cases h), (fun h => by cases h), (fun h => by cases h)⟩⟩
    · have ho := hoj
      simp only [List.getElem?_toArray, List.getElem?_cons_succ, List.getElem?_cons_zero, Option.some.injEq] at hoj
      subst hoj
      obtain rfl : tb4 = false := hun
      obtain rfl : tb0 = true := hall ⟨0, .data⟩ (by simp) (by kernel_rfl)
      obtain rfl : tb1 = true := hall ⟨1, .data⟩ (by simp) (by kernel_rfl)
      obtain rfl : tb3 = true := hall ⟨3, .data⟩ (by simp) (by kernel_rfl)
      obtain rfl : tb2 = true := (H.d3 rfl)
      clear hall
      obtain rfl : tb7 = false := Bool.eq_false_iff.2 fun h => Bool.false_ne_true (H.d7 h).1
      obtain rfl : tb8 = false := Bool.eq_false_iff.2 fun h => Bool.false_ne_true (H.d8 h).1
      obtain rfl : tb9 = false := Bool.eq_false_iff.2 fun h => Bool.false_ne_true (H.d9 h).2.2.2.2.1
      have hbe := H.be
      obtain rfl := H.h0 rfl
      obtain rfl := H.h1 rfl
      obtain rfl := H.h2 rfl
      obtain rfl := H.h3 rfl
      refine wpOp_step ho (fun K' hK => ?_)
      have HK := Lib.hid hK
      clear hK ho
      go_wp2_with fail
      refine (HT1.out _).mono ?_
      rintro e w9 ⟨tb9, d9, rfl, h9⟩
      have BC := Lib.hid tb9
      have RC := Lib.hid (wrow_base h9 hbe.size)
      clear tb9 h9
      go_wp2_with fail
      exact HK.out _ _ ⟨_, _, _, _, _, _, _, _, _, _, _, _, _, _, _, _, _, _, _, _, rfl, rfl, ⟨hbe.trans (BC.out.mono hbe.size), H.d3, (fun _ => ⟨rfl, rfl, rfl⟩), H.d6, (fun h => by cases h), (fun h => by cases h), (fun h => by cases h), H.h0, H.h1, H.h2, H.h3, (fun _ _ => RC.out), H.h5, H.h6, (fun h => by cases h), (fun h => by cases h), (fun h => by cases h)⟩⟩
    · have ho := hoj
      simp only [List.getElem?_toArray, List.getElem?_cons_succ, List.getElem?_cons_zero, Option.some.injEq] at hoj
      subst hoj
      obtain rfl : tb5 = false := hun
      clear hall
      obtain rfl : tb6 = false := Bool.eq_false_iff.2 fun h => Bool.false_ne_true (H.d6 h)
      obtain rfl : tb7 = false := Bool.eq_false_iff.2 fun h => Bool.false_ne_true (H.d7 h).2
      obtain rfl : tb8 = false := Bool.eq_false_iff.2 fun h => Bool.false_ne_true (H.d8 h).2
      obtain rfl : tb9 = false := Bool.eq_false_iff.2 fun h => Bool.false_ne_true (H.d9 h).2.2.2.2.2.1
      have hbe := H.be
      refine wpOp_step ho (fun K' hK => ?_)
      have HK := Lib.hid hK
      clear hK ho
      go_simp
      exact HK.out _ _ ⟨_, _, _, _, _, _, _, _, _, _, _, _, _, _, _, _, _, _, _, _, rfl, rfl, ⟨hbe, H.d3, H.d4, (fun h => by cases h), H.d7, H.d8, (fun h => by cases h), H.h0, H.h1, H.h2, H.h3, H.h4, (fun _ => rfl), H.h6, (fun h => by cases h), (fun h => by cases h), (fun h => by cases h)⟩⟩
    · have ho := hoj
      simp only [List.getElem?_toArray, List.getElem?_cons_succ, List.getElem?_cons_zero, Option.some.injEq] at hoj
      subst hoj
      obtain rfl : tb6 = false := hun
      obtain rfl : tb5 = true := hall ⟨5, .data⟩ (by simp) (by kernel_rfl)
      clear hall
      obtain rfl : tb7 = false := Bool.eq_false_iff.2 fun h => Bool.false_ne_true (H.d7 h).2
      obtain rfl : tb8 = false := Bool.eq_false_iff.2 fun h => Bool.false_ne_true (H.d8 h).2
      obtain rfl : tb9 = false := Bool.eq_false_iff.2 fun h => Bool.false_ne_true (H.d9 h).2.2.2.2.2.2.1
      have hbe := H.be
      obtain rfl := H.h5 rfl
      obtain ⟨y0, y1⟩ := bk2F ((hbe.block _ (lt_of_block G0.out)).trans G0.out)
      refine wpOp_step ho (fun K' hK => ?_)
      have HK := Lib.hid hK
      clear hK ho
      go_simp
      exact HK.out _ _ ⟨_, _, _, _, _, _, _, _, _, _, _, _, _, _, _, _, _, _, _, _, rfl, rfl, ⟨hbe, H.d3, H.d4, (fun _ => rfl), (fun h => by cases h), H.d8, (fun h => by cases h), H.h0, H.h1, H.h2, H.h3, H.h4, H.h5, (fun _ => rfl), (fun h => by cases h), (fun h => by cases h), (fun h => by cases h)⟩⟩
    · have ho := hoj
      simp only [List.getElem?_toArray, List.getElem?_cons_succ, List.getElem?_cons_zero, Option.some.injEq] at hoj
      subst hoj
      obtain rfl : tb7 = false := hun
      obtain rfl : tb4 = true := hall ⟨4, .chain⟩ (by simp) (by kernel_rfl)
      obtain rfl : tb6 = true := hall ⟨6, .data⟩ (by simp) (by kernel_rfl)
      obtain rfl : tb0 = true := (H.d4 rfl).1
      obtain rfl : tb1 = true := (H.d4 rfl).2.1
      obtain rfl : tb3 = true := (H.d4 rfl).2.2
      obtain rfl : tb5 = true := (H.d6 rfl)
      obtain rfl : tb2 = true := (H.d3 rfl)
      clear hall
      obtain rfl : tb8 = false := Bool.eq_false_iff.2 fun h => Bool.false_ne_true (H.d8 h).2
      obtain rfl : tb9 = false := Bool.eq_false_iff.2 fun h => Bool.false_ne_true (H.d9 h).2.2.2.2.2.2.2.1
      have hbe := H.be
      obtain rfl := H.h0 rfl
      obtain rfl := H.h1 rfl
      obtain rfl := H.h2 rfl
      obtain rfl := H.h3 rfl
      have P4 := H.h4 rfl rfl
      obtain rfl := H.h5 rfl
      obtain rfl := H.h6 rfl
      refine wpOp_step ho (fun K' hK => ?_)
      have HK := Lib.hid hK
      clear hK ho
      go_wp2_with fail
      refine (HT2.out _).mono ?_
      rintro e w9 ⟨tb9, d9, rfl, h9⟩
      have BC := Lib.hid tb9
      have RC := Lib.hid (wrow_base h9 hbe.size)
      clear tb9 h9
      go_wp2_with fail
      exact HK.out _ _ ⟨_, _, _, _, _, _, _, _, _, _, _, _, _, _, _, _, _, _, _, _, rfl, rfl, ⟨hbe.trans (BC.out.mono hbe.size), H.d3, H.d4, H.d6, (fun _ => ⟨rfl, rfl⟩), (fun h => by cases h), (fun h => by cases h), H.h0, H.h1, H.h2, H.h3, (fun e f => wrow_below (H.h4 e f) BC.out), H.h5, H.h6, (fun _ _ => RC.out), (fun h => by cases h), (fun h => by cases h)⟩⟩
    · have ho := hoj
      simp only [List.getElem?_toArray, List.getElem?_cons_succ, List.getElem?_cons_zero, Option.some.injEq] at hoj
      subst hoj
      obtain rfl : tb8 = false := hun
      obtain rfl : tb4 = true := hall ⟨4, .data⟩ (by simp) (by kernel_rfl)
      obtain rfl : tb7 = true := hall ⟨7, .data⟩ (by simp) (by kernel_rfl)
      obtain rfl : tb0 = true := (H.d4 rfl).1
      obtain rfl : tb1 = true := (H.d4 rfl).2.1
      obtain rfl : tb3 = true := (H.d4 rfl).2.2
      obtain rfl : tb6 = true := (H.d7 rfl).2
      obtain rfl : tb2 = true := (H.d3 rfl)
      obtain rfl : tb5 = true := (H.d6 rfl)
      clear hall
      obtain rfl : tb9 = false := Bool.eq_false_iff.2 fun h => Bool.false_ne_true (H.d9 h).2.2.2.2.2.2.2.2
      have hbe := H.be
      obtain rfl := H.h0 rfl
      obtain rfl := H.h1 rfl
      obtain rfl := H.h2 rfl
      obtain rfl := H.h3 rfl
      have P4 := H.h4 rfl rfl
      obtain rfl := H.h5 rfl
      obtain rfl := H.h6 rfl
      have P7 := H.h7 rfl rfl
      have R1 := Lib.hid P4
      have R2 := Lib.hid P7
      have hb2 := (wrow_bsl P7 HY2.out)
      obtain ⟨A8, c8, e8, _, _, _, _⟩ := hb2.ex
      subst e8
      have SR := Lib.hid (src_bsl hb2)
      have hbes := hbe.size
      have BE := Lib.hid hbe
      clear hb2 P4 P7
      refine wpOp_step ho (fun K' hK => ?_)
      have HK := Lib.hid hK
      clear hK ho
      refine step_appT w rfl (.tmp 11) (.tmp 14) _ rfl _ _ _ L1 L2 rfl rfl SR.out (.inr R1.out) (by have := HP1.out; omega) (by have := HL1.out; have := HL2.out; omega) hbes ?_
      intro v9 u9 h9 g9 _
      have R9 := Lib.hid h9
      have BV := Lib.hid (BE.out.grown g9 BE.out.size (fun k e => (trow_lt (.inr R1.out) k e).1))
      clear h9 g9
      exact HK.out _ _ ⟨_, _, _, _, _, _, _, _, _, _, _, _, _, _, _, _, _, _, _, _, rfl, rfl, ⟨BV.out, H.d3, H.d4, H.d6, H.d7, (fun _ => ⟨rfl, rfl⟩), (fun h => by cases h), H.h0, H.h1, H.h2, H.h3, (fun _ h => by cases h), H.h5, H.h6, (fun _ h => by cases h), (fun _ => R9.out), (fun h => by cases h)⟩⟩
    · have ho := hoj
      simp only [List.getElem?_toArray, List.getElem?_cons_succ, List.getElem?_cons_zero, Option.some.injEq] at hoj
      subst hoj
      obtain rfl : tb9 = false := hun
      obtain rfl : tb0 = true := hall ⟨0, .phase⟩ (by simp) (by kernel_rfl)
      obtain rfl : tb1 = true := hall ⟨1, .phase⟩ (by simp) (by kernel_rfl)
      obtain rfl : tb2 = true := hall ⟨2, .phase⟩ (by simp) (by kernel_rfl)
      obtain rfl : tb3 = true := hall ⟨3, .phase⟩ (by simp) (by kernel_rfl)
      obtain rfl : tb4 = true := hall ⟨4, .phase⟩ (by simp) (by kernel_rfl)
      obtain rfl : tb5 = true := hall ⟨5, .phase⟩ (by simp) (by kernel_rfl)
      obtain rfl : tb6 = true := hall ⟨6, .phase⟩ (by simp) (by kernel_rfl)
      obtain rfl : tb7 = true := hall ⟨7, .phase⟩ (by simp) (by kernel_rfl)
      obtain rfl : tb8 = true := hall ⟨8, .data⟩ (by simp) (by kernel_rfl)
      clear hall
      have hbe := H.be
      obtain rfl := H.h0 rfl
      obtain rfl := H.h1 rfl
      obtain rfl := H.h2 rfl
      obtain rfl := H.h3 rfl
      obtain rfl := H.h5 rfl
      obtain rfl := H.h6 rfl
      have P8 := H.h8 rfl
      refine wpOp_step ho (fun K' hK => ?_)
      have HK := Lib.hid hK
      clear hK ho
      go_simp
      exact HK.out _ _ ⟨_, _, _, _, _, _, _, _, _, _, _, _, _, _, _, _, _, _, _, _, rfl, rfl, ⟨hbe, H.d3, H.d4, H.d6, H.d7, H.d8, (fun _ => ⟨rfl, rfl, rfl, rfl, rfl, rfl, rfl, rfl, rfl⟩), H.h0, H.h1, H.h2, H.h3, (fun _ h => by cases h), H.h5, H.h6, (fun _ h => by cases h), H.h8, (fun _ => rfl)⟩⟩
    · have ho := hoj
      simp at ho
  case hfin =>
    rintro listed a w ⟨tb0, tb1, tb2, tb3, tb4, tb5, tb6, tb7, tb8, tb9, tx0, tx1, tx2, tx3, tx4, tx5, tx6, tx7, tx8, tx9, rfl, rfl, H⟩ hr
    have hb : tb9 = true := by
      clear H
      revert tb0 tb1 tb2 tb3 tb4 tb5 tb6 tb7 tb8 tb9
      decide +kernel
    subst hb
    clear hr
    obtain rfl : tb0 = true := (H.d9 rfl).1
    obtain rfl : tb1 = true := (H.d9 rfl).2.1
    obtain rfl : tb2 = true := (H.d9 rfl).2.2.1
    obtain rfl : tb3 = true := (H.d9 rfl).2.2.2.1
    obtain rfl : tb4 = true := (H.d9 rfl).2.2.2.2.1
    obtain rfl : tb5 = true := (H.d9 rfl).2.2.2.2.2.1
    obtain rfl : tb6 = true := (H.d9 rfl).2.2.2.2.2.2.1
    obtain rfl : tb7 = true := (H.d9 rfl).2.2.2.2.2.2.2.1
    obtain rfl : tb8 = true := (H.d9 rfl).2.2.2.2.2.2.2.2
    have hr := H.h8 rfl
    have e6 := H.h9 rfl
    have hb := H.be
    clear H
    have B2 := Lib.hid (B0.out.trans (hb.mono B0.out.size))
    have R2 := Lib.hid (wrow_base hr B0.out.size)
    subst e6
    clear hr hb
    go_wp2_with fail
    go_ret
    exact ⟨B2.out, _, rfl, R2.out⟩
set_option maxRecDepth 100000 in
set_option maxHeartbeats 2000000 in
theorem line_any (f : Fld) (n need : Int) (hf : FdWf f) (ok : okFd f) (hn : n = -1 ∨ (0 ≤ n ∧ n < need ∧ need ≤ 4611686018427387904)) (W : World) :
    Calls Tryd.prog 69 #[fdV f, .int .i64 n, .int .i64 need] W fun e w' => Below W.heap.size W w' ∧ ∃ d, e = .returned d ∧ WRow w' W.heap.size 5 d (lineP need f n) := by
  have HKN := Lib.hid (fun w => known_any w)
  have HIX := Lib.hid (fun A w h => idxSame_any A 11 11 knL f hf w h rfl knL_wf (by decide))
  have HIN := Lib.hid (fun A w h hk => idxNamed_any A 11 11 knL f hf W.heap.size w h rfl knL_wf (by decide) hk)
  rw [← kpB_true] at HIX
  rw [← kpB_false] at HIN
  rw [show firstP (kpB f true) knL = kpL f true from rfl] at HIX
  rw [show firstP (kpB f false) knL = kpL f false from rfl] at HIN
  have i1 := kpL_in f true
  have i2 := kpL_in f false
  have HLP := Lib.hid (show lineP need f n = if 0 ≤ kpL f true then pxL 192 6 (kpL f true) else if n ≠ -1 then pxL 128 6 (need - 1 - n) else if 0 ≤ kpL f false then pxL 64 4 (kpL f false) ++ pxTL 0 7 f.val else pxTL 32 3 f.name ++ pxTL 0 7 f.val by
    unfold lineP lineT
    by_cases c : n = -1
    · rw [if_pos c]
      simp only [c, ne_eq, not_true, if_false]
      unfold pxTL valT
      simp only [List.append_assoc]
      rfl
    · rw [if_neg c]
      simp only [ne_eq, c, not_false_eq_true, if_true]
      rfl)
  rw [HLP.out]
  have k2 := pxF_num (first := 0) (wi := 7) (n := f.val.length) (by decide) (by unfold okFd at ok; omega) (by decide)
  have HPR := Lib.hid (fun w => pair_any 32 3 f hf ok (by decide) (by decide) (by decide) (by decide) w)
  have HT2 := Lib.hid (fun w => fdtext_any 0 7 f.val w hf.2.1 (by unfold okFd at ok; omega) (by decide) (by decide) (by decide) (by decide) k2)
  have HY2 := Lib.hid (show Byt (pxTL 0 7 f.val) from (pxL_byt' (by decide) (by decide) k2).append hf.2.1)
  have HL2 := Lib.hid (show (pxTL 0 7 f.val).length ≤ 131 by unfold pxTL; rw [List.length_append]; have := (pxL_short _ _ _ k2).2; unfold okFd at ok; omega)
  have HN1 := Lib.hid (fun w (h : 0 ≤ kpL f true) => number_any 192 6 (kpL f true) w (by decide) (by decide) (by decide) (by decide) (pxF_num (by decide) (by omega) (by decide)))
  have HN2 := Lib.hid (fun w (h : n ≠ -1) => number_any 128 6 (need - 1 - n) w (by decide) (by decide) (by decide) (by decide) (pxF_num (by decide) (by omega) (by decide)))
  have HN3 := Lib.hid (fun w (h : 0 ≤ kpL f false) => number_any 64 4 (kpL f false) w (by decide) (by decide) (by decide) (by decide) (pxF_num (by decide) (by omega) (by decide)))
  have HSH := Lib.hid (fun (h : 0 ≤ kpL f false) => pxL_short 64 4 (kpL f false) (pxF_num (by decide) (by omega) (by decide)))
  obtain ⟨k1, hk1⟩ : ∃ k, kpL f true = k := ⟨_, rfl⟩
  obtain ⟨kn, hk2⟩ : ∃ k, kpL f false = k := ⟨_, rfl⟩
  rw [hk1] at HIX HN1 i1 ⊢
  rw [hk2] at HIN HN3 HSH i2 ⊢
  obtain ⟨L2, hL2⟩ : ∃ L, pxTL 0 7 f.val = L := ⟨_, rfl⟩
  rw [hL2] at HPR HT2 HY2 HL2 ⊢
  unfold fdV at HPR HIX ⊢
  obtain ⟨S1, hS1⟩ : ∃ S, strOfNums f.name = S := ⟨_, rfl⟩
  obtain ⟨S2, hS2⟩ : ∃ S, strOfNums f.val = S := ⟨_, rfl⟩
  rw [hS1, hS2] at HPR HIX HIN ⊢
  rw [hS2] at HT2
  have B0 := Lib.hid ((Below.refl W.heap.size W).alloc (Nat.le_refl _) (.cells #[.string S1, .string S2] 54))
  have G0 := Lib.hid (heap_alloc_new W (.cells #[.string S1, .string S2] 54))
  clear hk1 hk2 hL2 hS1 hS2 k2 HLP
  by_cases c1 : 0 ≤ k1
  · rw [if_pos c1]
    have HNN := Lib.hid (fun w => HN1.out w c1)
    clear HN1 HN2 HN3 HPR HT2 HSH HY2 HL2 i1 i2 hn
    go_enter Tryd.func69, Tryd.ntmps69
    go_wp2_with fail
    refine (HKN.out _).mono ?_
    rintro e w2 ⟨b2, A, rfl, hown⟩
    obtain ⟨_, _, hv2, _, _, hrow⟩ := hown.slice
    cases hv2
    have R2 := Lib.hid hrow
    have B2 := Lib.hid (B0.out.trans (b2.mono B0.out.size))
    have G2 := Lib.hid ((b2.block _ (lt_of_block G0.out)).trans G0.out)
    clear b2 hown hrow
    obtain ⟨y0, y1⟩ := bk2F G2.out
    go_wp2_with fail
    refine (HIX.out A w2 R2.out).mono ?_
    clear y0 y1
    rintro e w3 ⟨rfl, b3⟩
    have R3 := Lib.hid (R2.out.on b3)
    have B3 := Lib.hid (B2.out.trans (b3.mono B2.out.size))
    have G3 := Lib.hid ((b3.block _ (lt_of_block G2.out)).trans G2.out)
    clear b3
    go_wp2_with fail
    refine (HIN.out A w3 R3.out G3.out).mono ?_
    rintro e w4 ⟨rfl, b4⟩
    have B4 := Lib.hid (B3.out.trans (b4.mono B3.out.size))
    have G4 := Lib.hid ((b4.block _ (lt_of_block G3.out)).trans G3.out)
    clear b4 R2 R3 G2 G3 B2 B3
    obtain ⟨y0, y1⟩ := bk2F G4.out
    go_wp2_with fail
    refine (HNN.out _).mono ?_
    clear y0 y1
    rintro e w5 ⟨b5, d, rfl, h5⟩
    have B5 := Lib.hid (B4.out.trans (b5.mono B4.out.size))
    have R5 := Lib.hid (wrow_base h5 B4.out.size)
    clear b5 h5
    go_wp2_with fail
    go_ret
    exact ⟨B5.out, _, rfl, R5.out⟩
  · rw [if_neg c1]
    have e1 : decide (0 ≤ k1) = false := by simp; omega
    by_cases c2 : n ≠ -1
    · rw [if_pos c2]
      have HNN := Lib.hid (fun w => HN2.out w c2)
      have e2 : (n != -1) = true := by simp [c2]
      have hsub0 : IntKind.i64.wrap (need - 1) = need - 1 := by rw [IntKind.wrap_i64]; omega
      have hsub : IntKind.i64.wrap (need - 1 - n) = need - 1 - n := by rw [IntKind.wrap_i64]; omega
      clear HN1 HN2 HN3 HPR HT2 HSH HY2 HL2 i1 i2 hn c2
      go_enter Tryd.func69, Tryd.ntmps69
      go_wp2_with fail
      refine (HKN.out _).mono ?_
      rintro e w2 ⟨b2, A, rfl, hown⟩
      obtain ⟨_, _, hv2, _, _, hrow⟩ := hown.slice
      cases hv2
      have R2 := Lib.hid hrow
      have B2 := Lib.hid (B0.out.trans (b2.mono B0.out.size))
      have G2 := Lib.hid ((b2.block _ (lt_of_block G0.out)).trans G0.out)
      clear b2 hown hrow
      obtain ⟨y0, y1⟩ := bk2F G2.out
      go_wp2_with fail
      refine (HIX.out A w2 R2.out).mono ?_
      clear y0 y1
      rintro e w3 ⟨rfl, b3⟩
      have R3 := Lib.hid (R2.out.on b3)
      have B3 := Lib.hid (B2.out.trans (b3.mono B2.out.size))
      have G3 := Lib.hid ((b3.block _ (lt_of_block G2.out)).trans G2.out)
      clear b3
      go_wp2_with fail
      refine (HIN.out A w3 R3.out G3.out).mono ?_
      rintro e w4 ⟨rfl, b4⟩
      have B4 := Lib.hid (B3.out.trans (b4.mono B3.out.size))
      have G4 := Lib.hid ((b4.block _ (lt_of_block G3.out)).trans G3.out)
      clear b4 R2 R3 G2 G3 B2 B3
      obtain ⟨y0, y1⟩ := bk2F G4.out
      go_wp2_with fail
      refine (HNN.out _).mono ?_
      clear y0 y1
      rintro e w5 ⟨b5, d, rfl, h5⟩
      have B5 := Lib.hid (B4.out.trans (b5.mono B4.out.size))
      have R5 := Lib.hid (wrow_base h5 B4.out.size)
      clear b5 h5
      go_wp2_with fail
      go_ret
      exact ⟨B5.out, _, rfl, R5.out⟩
    · rw [if_neg c2]
      obtain rfl : n = -1 := Decidable.byContradiction c2
      by_cases c3 : 0 ≤ kn
      · rw [if_pos c3]
        have HT1 := Lib.hid (fun w => HN3.out w c3)
        obtain ⟨s1, s2⟩ := HSH.out c3
        have HP1 := Lib.hid s1
        have HL1 := Lib.hid s2
        obtain ⟨L1, hL1⟩ : ∃ L, pxL 64 4 kn = L := ⟨_, rfl⟩
        rw [hL1] at HT1 HP1 HL1 ⊢
        clear HN1 HN2 HN3 HPR HSH i1 i2 hn c2 hL1 s1 s2
        go_enter Tryd.func69, Tryd.ntmps69
        go_wp2_with fail
        refine (HKN.out _).mono ?_
        rintro e w2 ⟨b2, A, rfl, hown⟩
        obtain ⟨_, _, hv2, _, _, hrow⟩ := hown.slice
        cases hv2
        have R2 := Lib.hid hrow
        have B2 := Lib.hid (B0.out.trans (b2.mono B0.out.size))
        have G2 := Lib.hid ((b2.block _ (lt_of_block G0.out)).trans G0.out)
        clear b2 hown hrow
        obtain ⟨y0, y1⟩ := bk2F G2.out
        go_wp2_with fail
        refine (HIX.out A w2 R2.out).mono ?_
        clear y0 y1
        rintro e w3 ⟨rfl, b3⟩
        have R3 := Lib.hid (R2.out.on b3)
        have B3 := Lib.hid (B2.out.trans (b3.mono B2.out.size))
        have G3 := Lib.hid ((b3.block _ (lt_of_block G2.out)).trans G2.out)
        clear b3
        go_wp2_with fail
        refine (HIN.out A w3 R3.out G3.out).mono ?_
        rintro e w4 ⟨rfl, b4⟩
        have B4 := Lib.hid (B3.out.trans (b4.mono B3.out.size))
        have G4 := Lib.hid ((b4.block _ (lt_of_block G3.out)).trans G3.out)
        clear b4 R2 R3 G2 G3 B2 B3
        obtain ⟨y0, y1⟩ := bk2F G4.out
        go_upto_region 9 with fail
        clear y0 y1
        refine wp_region_inv (fun lis_ act_ wld_ => ∃ (tb0 tb1 tb2 tb3 tb4 tb5 tb6 : Bool) (tx0 tx1 tx2 tx3 tx4 tx5 tx6 : Value), lis_ = #[tb0, tb1, tb2, tb3, tb4, tb5, tb6] ∧ act_ = { tmps := #[Value.agg #[Value.string S1, Value.string S2], Value.int IntKind.i64 (-1), Value.int IntKind.i64 need, Value.pointer (some { block := W.heap.size, off := 0 }), undef, undef, tx6, Value.slice A 11 11, Value.int IntKind.i64 k1, Value.int IntKind.i64 kn, Value.slice A 11 11, Value.slice A 11 11, Value.agg #[Value.string S1, Value.string S2], Value.int IntKind.i64 k1, Value.slice A 11 11, Value.func (Fn.func 89) #[] #[Value.pointer (some { block := W.heap.size, off := 0 })], Value.int IntKind.i64 kn, Value.bool false, Value.int IntKind.i64 k1, Value.bool false, undef, undef, Value.bool false, Value.int IntKind.i64 (-1), Value.bool false, undef, undef, undef, undef, undef, Value.bool true, Value.int IntKind.i64 kn, Value.bool true, tx0, tx1, tx2, tx3, tx4, tx5, undef, undef], defers := [] } ∧ FdLn w4 W S2 kn L1 L2 (.int .i64 kn) (.pointer (some ⟨W.heap.size, 1, none⟩)) (.string S2) tb0 tb1 tb2 tb3 tb4 tb5 tb6 tx0 tx1 tx2 tx3 tx4 tx5 tx6 wld_) (by kernel_rfl) ?h0 ?hfin ?hI
        case h0 => exact ⟨_, _, _, _, _, _, _, _, _, _, _, _, _, _, rfl, rfl, ⟨(Below.refl _ _).drew, (fun h => by cases h), (fun h => by cases h), (fun h => by cases h), (fun h => by cases h), (fun h => by cases h), (fun h => by cases h), (fun h => by cases h), (fun h => by cases h), (fun h => by cases h), (fun h => by cases h), (fun h => by cases h), (fun h => by cases h)⟩⟩
        case hI =>
          rintro listed a w ⟨tb0, tb1, tb2, tb3, tb4, tb5, tb6, tx0, tx1, tx2, tx3, tx4, tx5, tx6, rfl, rfl, H⟩ i hi
          obtain ⟨hun, oj, hoj, hall⟩ := mem_ready.1 hi
          clear hi
          rcases i with _ | _ | _ | _ | _ | _ | _ | i
          · have ho := hoj
            simp only [List.getElem?_toArray, List.getElem?_cons_succ, List.getElem?_cons_zero, Option.some.injEq] at hoj
            subst hoj
            obtain rfl : tb0 = false := hun
            clear hall
            obtain rfl : tb1 = false := Bool.eq_false_iff.2 fun h => Bool.false_ne_true (H.d1 h)
            obtain rfl : tb4 = false := Bool.eq_false_iff.2 fun h => Bool.false_ne_true (H.d4 h).1
            obtain rfl : tb5 = false := Bool.eq_false_iff.2 fun h => Bool.false_ne_true (H.d5 h).1
            obtain rfl : tb6 = false := Bool.eq_false_iff.2 fun h => Bool.false_ne_true (H.d6 h).1
            have hbe := H.be
            refine wpOp_step ho (fun K' hK => ?_)
            have HK := Lib.hid hK
            clear hK ho
            go_simp
            exact HK.out _ _ ⟨_, _, _, _, _, _, _, _, _, _, _, _, _, _, rfl, rfl, ⟨hbe, (fun h => by cases h), H.d3, H.d4, H.d5, (fun h => by cases h), (fun _ => rfl), (fun h => by cases h), H.h2, H.h3, (fun h => by cases h), (fun h => by cases h), (fun h => by cases h)⟩⟩
          · have ho := hoj
            simp only [List.getElem?_toArray, List.getElem?_cons_succ, List.getElem?_cons_zero, Option.some.injEq] at hoj
            subst hoj
            obtain rfl : tb1 = false := hun
            obtain rfl : tb0 = true := hall ⟨0, .data⟩ (by simp) (by kernel_rfl)
            clear hall
            obtain rfl : tb4 = false := Bool.eq_false_iff.2 fun h => Bool.false_ne_true (H.d4 h).1
            obtain rfl : tb5 = false := Bool.eq_false_iff.2 fun h => Bool.false_ne_true (H.d5 h).1
            obtain rfl : tb6 = false := Bool.eq_false_iff.2 fun h => Bool.false_ne_true (H.d6 h).2.1
            have hbe := H.be
            obtain rfl := H.h0 rfl
            refine wpOp_step ho (fun K' hK => ?_)
            have HK := Lib.hid hK
            clear hK ho
            go_wp2_with fail
            refine (HT1.out _).mono ?_
            rintro e w9 ⟨tb9, d9, rfl, h9⟩
            have BC := Lib.hid tb9
            have RC := Lib.hid (wrow_base h9 hbe.size)
            clear tb9 h9
            go_wp2_with fail
            exact HK.out _ _ ⟨_, _, _, _, _, _, _, _, _, _, _, _, _, _, rfl, rfl, ⟨hbe.trans (BC.out.mono hbe.size), (fun _ => rfl), H.d3, (fun h => by cases h), (fun h => by cases h), (fun h => by cases h), H.h0, (fun _ _ => RC.out), H.h2, H.h3, (fun h => by cases h), (fun h => by cases h), (fun h => by cases h)⟩⟩
          · have ho := hoj
            simp only [List.getElem?_toArray, List.getElem?_cons_succ, List.getElem?_cons_zero, Option.some.injEq] at hoj
            subst hoj
            obtain rfl : tb2 = false := hun
            clear hall
            obtain rfl : tb3 = false := Bool.eq_false_iff.2 fun h => Bool.false_ne_true (H.d3 h)
            obtain rfl : tb4 = false := Bool.eq_false_iff.2 fun h => Bool.false_ne_true (H.d4 h).2
            obtain rfl : tb5 = false := Bool.eq_false_iff.2 fun h => Bool.false_ne_true (H.d5 h).2
            obtain rfl : tb6 = false := Bool.eq_false_iff.2 fun h => Bool.false_ne_true (H.d6 h).2.2.1
            have hbe := H.be
            refine wpOp_step ho (fun K' hK => ?_)
            have HK := Lib.hid hK
            clear hK ho
            go_simp
            exact HK.out _ _ ⟨_, _, _, _, _, _, _, _, _, _, _, _, _, _, rfl, rfl, ⟨hbe, H.d1, (fun h => by cases h), H.d4, H.d5, (fun h => by cases h), H.h0, H.h1, (fun _ => rfl), H.h3, (fun h => by cases h), (fun h => by cases h), (fun h => by cases h)⟩⟩
          · have ho := hoj
            simp only [List.getElem?_toArray, List.getElem?_cons_succ, List.getElem?_cons_zero, Option.some.injEq] at hoj
            subst hoj
            obtain rfl : tb3 = false := hun
            obtain rfl : tb2 = true := hall ⟨2, .data⟩ (by simp) (by kernel_rfl)
            clear hall
            obtain rfl : tb4 = false := Bool.eq_false_iff.2 fun h => Bool.false_ne_true (H.d4 h).2
            obtain rfl : tb5 = false := Bool.eq_false_iff.2 fun h => Bool.false_ne_true (H.d5 h).2
            obtain rfl : tb6 = false := Bool.eq_false_iff.2 fun h => Bool.false_ne_true (H.d6 h).2.2.2.1
            have hbe := H.be
            obtain rfl := H.h2 rfl
            obtain ⟨y0, y1⟩ := bk2F ((hbe.block _ (lt_of_block G4.out)).trans G4.out)
            refine wpOp_step ho (fun K' hK => ?_)
            have HK := Lib.hid hK
            clear hK ho
            go_simp
            exact HK.out _ _ ⟨_, _, _, _, _, _, _, _, _, _, _, _, _, _, rfl, rfl, ⟨hbe, H.d1, (fun _ => rfl), (fun h => by cases h), H.d5, (fun h => by cases h), H.h0, H.h1, H.h2, (fun _ => rfl), (fun h => by cases h), (fun h => by cases h), (fun h => by cases h)⟩⟩
          · have ho := hoj
            simp only [List.getElem?_toArray, List.getElem?_cons_succ, List.getElem?_cons_zero, Option.some.injEq] at hoj
            subst hoj
            obtain rfl : tb4 = false := hun
            obtain rfl : tb1 = true := hall ⟨1, .chain⟩ (by simp) (by kernel_rfl)
            obtain rfl : tb3 = true := hall ⟨3, .data⟩ (by simp) (by kernel_rfl)
            obtain rfl : tb0 = true := (H.d1 rfl)
            obtain rfl : tb2 = true := (H.d3 rfl)
            clear hall
            obtain rfl : tb5 = false := Bool.eq_false_iff.2 fun h => Bool.false_ne_true (H.d5 h).2
            obtain rfl : tb6 = false := Bool.eq_false_iff.2 fun h => Bool.false_ne_true (H.d6 h).2.2.2.2.1
            have hbe := H.be
            obtain rfl := H.h0 rfl
            have P1 := H.h1 rfl rfl
            obtain rfl := H.h2 rfl
            obtain rfl := H.h3 rfl
            refine wpOp_step ho (fun K' hK => ?_)
            have HK := Lib.hid hK
            clear hK ho
            go_wp2_with fail
            refine (HT2.out _).mono ?_
            rintro e w9 ⟨tb9, d9, rfl, h9⟩
            have BC := Lib.hid tb9
            have RC := Lib.hid (wrow_base h9 hbe.size)
            clear tb9 h9
            go_wp2_with fail
            exact HK.out _ _ ⟨_, _, _, _, _, _, _, _, _, _, _, _, _, _, rfl, rfl, ⟨hbe.trans (BC.out.mono hbe.size), H.d1, H.d3, (fun _ => ⟨rfl, rfl⟩), (fun h => by cases h), (fun h => by cases h), H.h0, (fun e f => wrow_below (H.h1 e f) BC.out), H.h2, H.h3, (fun _ _ => RC.out), (fun h => by cases h), (fun h => by cases h)⟩⟩
          · have ho := hoj
            simp only [List.getElem?_toArray, List.getElem?_cons_succ, List.getElem?_cons_zero, Option.some.injEq] at hoj
            subst hoj
            obtain rfl : tb5 = false := hun
            obtain rfl : tb1 = true := hall ⟨1, .data⟩ (by simp) (by kernel_rfl)
            obtain rfl : tb4 = true := hall ⟨4, .data⟩ (by simp) (by kernel_rfl)
            obtain rfl : tb0 = true := (H.d1 rfl)
            obtain rfl : tb3 = true := (H.d4 rfl).2
            obtain rfl : tb2 = true := (H.d3 rfl)
            clear hall
            obtain rfl : tb6 = false := Bool.eq_false_iff.2 fun h => Bool.false_ne_true (H.d6 h).2.2.2.2.2
            have hbe := H.be
            obtain rfl := H.h0 rfl
            have P1 := H.h1 rfl rfl
            obtain rfl := H.h2 rfl
            obtain rfl := H.h3 rfl
            have P4 := H.h4 rfl rfl
            have R1 := Lib.hid P1
            have R2 := Lib.hid P4
            have hb2 := (wrow_bsl P4 HY2.out)
            obtain ⟨A8, c8, e8, _, _, _, _⟩ := hb2.ex
            subst e8
            have SR := Lib.hid (src_bsl hb2)
            have hbes := hbe.size
            have BE := Lib.hid hbe
            clear hb2 P1 P4
            refine wpOp_step ho (fun K' hK => ?_)
            have HK := Lib.hid hK
            clear hK ho
            refine step_appT w rfl (.tmp 34) (.tmp 37) _ rfl _ _ _ L1 L2 rfl rfl SR.out (.inr R1.out) (by have := HP1.out; omega) (by have := HL1.out; have := HL2.out; omega) hbes ?_
            intro v9 u9 h9 g9 _
            have R9 := Lib.hid h9
            have BV := Lib.hid (BE.out.grown g9 BE.out.size (fun k e => (trow_lt (.inr R1.out) k e).1))
            clear h9 g9
            exact HK.out _ _ ⟨_, _, _, _, _, _, _, _, _, _, _, _, _, _, rfl, rfl, ⟨BV.out, H.d1, H.d3, H.d4, (fun _ => ⟨rfl, rfl⟩), (fun h => by cases h), H.h0, (fun _ h => by cases h), H.h2, H.h3, (fun _ h => by cases h), (fun _ => R9.out), (fun h => by cases h)⟩⟩
          · have ho := hoj
            simp only [List.getElem?_toArray, List.getElem?_cons_succ, List.getElem?_cons_zero, Option.some.injEq] at hoj
            subst hoj
            obtain rfl : tb6 = false := hun
            obtain rfl : tb0 = true := hall ⟨0, .phase⟩ (by simp) (by kernel_rfl)
            obtain rfl : tb1 = true := hall ⟨1, .phase⟩ (by simp) (by kernel_rfl)
            obtain rfl : tb2 = true := hall ⟨2, .phase⟩ (by simp) (by kernel_rfl)
            obtain rfl : tb3 = true := hall ⟨3, .phase⟩ (by simp) (by kernel_rfl)
            obtain rfl : tb4 = true := hall ⟨4, .phase⟩ (by simp) (by kernel_rfl)
            obtain rfl : tb5 = true := hall ⟨5, .data⟩ (by simp) (by kernel_rfl)
            clear hall
            have hbe := H.be
            obtain rfl := H.h0 rfl
            obtain rfl := H.h2 rfl
            obtain rfl := H.h3 rfl
            have P5 := H.h5 rfl
            refine wpOp_step ho (fun K' hK => ?_)
            have HK := Lib.hid hK
            clear hK ho
            go_simp
            exact HK.out _ _ ⟨_, _, _, _, _, _, _, _, _, _, _, _, _, _, rfl, rfl, ⟨hbe, H.d1, H.d3, H.d4, H.d5, (fun _ => ⟨rfl, rfl, rfl, rfl, rfl, rfl⟩), H.h0, (fun _ h => by cases h), H.h2, H.h3, (fun _ h => by cases h), H.h5, (fun _ => rfl)⟩⟩
          · have ho := hoj
            simp at ho
        case hfin =>
          rintro listed a w ⟨tb0, tb1, tb2, tb3, tb4, tb5, tb6, tx0, tx1, tx2, tx3, tx4, tx5, tx6, rfl, rfl, H⟩ hr
          have hb : tb6 = true := by
            clear H
            revert tb0 tb1 tb2 tb3 tb4 tb5 tb6
            decide +kernel
          subst hb
          clear hr
          obtain rfl : tb0 = true := (H.d6 rfl).1
          obtain rfl : tb1 = true := (H.d6 rfl).2.1
          obtain rfl : tb2 = true := (H.d6 rfl).2.2.1
          obtain rfl : tb3 = true := (H.d6 rfl).2.2.2.1
          obtain rfl : tb4 = true := (H.d6 rfl).2.2.2.2.1
          obtain rfl : tb5 = true := (H.d6 rfl).2.2.2.2.2
          have hr := H.h5 rfl
          have e6 := H.h6 rfl
          have hb := H.be
          clear H
          have B5 := Lib.hid (B4.out.trans (hb.mono B4.out.size))
          have R5 := Lib.hid (wrow_base hr B4.out.size)
          subst e6
          clear hr hb
          go_wp2_with fail
          go_ret
          exact ⟨B5.out, _, rfl, R5.out⟩
      · rw [if_neg c3]
        have e3 : decide (0 ≤ kn) = false := by simp; omega
        clear HN1 HN2 HN3 HT2 HSH HY2 HL2 i1 i2 hn c2
        go_enter Tryd.func69, Tryd.ntmps69
        go_wp2_with fail
        refine (HKN.out _).mono ?_
        rintro e w2 ⟨b2, A, rfl, hown⟩
        obtain ⟨_, _, hv2, _, _, hrow⟩ := hown.slice
        cases hv2
        have R2 := Lib.hid hrow
        have B2 := Lib.hid (B0.out.trans (b2.mono B0.out.size))
        have G2 := Lib.hid ((b2.block _ (lt_of_block G0.out)).trans G0.out)
        clear b2 hown hrow
        obtain ⟨y0, y1⟩ := bk2F G2.out
        go_wp2_with fail
        refine (HIX.out A w2 R2.out).mono ?_
        clear y0 y1
        rintro e w3 ⟨rfl, b3⟩
        have R3 := Lib.hid (R2.out.on b3)
        have B3 := Lib.hid (B2.out.trans (b3.mono B2.out.size))
        have G3 := Lib.hid ((b3.block _ (lt_of_block G2.out)).trans G2.out)
        clear b3
        go_wp2_with fail
        refine (HIN.out A w3 R3.out G3.out).mono ?_
        rintro e w4 ⟨rfl, b4⟩
        have B4 := Lib.hid (B3.out.trans (b4.mono B3.out.size))
        have G4 := Lib.hid ((b4.block _ (lt_of_block G3.out)).trans G3.out)
        clear b4 R2 R3 G2 G3 B2 B3
        obtain ⟨y0, y1⟩ := bk2F G4.out
        go_wp2_with fail
        refine (HPR.out _).mono ?_
        clear y0 y1
        rintro e w5 ⟨b5, d, rfl, h5⟩
        have B5 := Lib.hid (B4.out.trans (b5.mono B4.out.size))
        have R5 := Lib.hid (wrow_base h5 B4.out.size)
        clear b5 h5
        go_wp2_with fail
        go_ret
        exact ⟨B5.out, _, rfl, R5.out⟩
end Go.Proofs.YtpfahdogedchpaaDoor
/- The project's writers of fields: takes, section. -/
namespace Go.Proofs.YtpfahdogedchpaaDoor.P
set_option linter.unusedVariables false
open Go.RowKit
/-- one more than the greatest number -/
def needN (ns : List Int) : Int := ns.foldl (fun m n => max m (n + 1)) 0
theorem needN_snoc (ns : List Int) (n : Int) : needN (ns ++ [n]) = max (needN ns) (n + 1) := by
  unfold needN
  rw [List.foldl_append]
  rfl
/-- so that they may be -/
def NOk (ns : List Int) : Prop := ∀ x ∈ ns, -1 ≤ x ∧ x < 4611686018427387903
theorem needN_in {ns : List Int} (h : NOk ns) : 0 ≤ needN ns ∧ needN ns ≤ 4611686018427387903 := by
  have key : ∀ (ns : List Int) (m : Int), 0 ≤ m → m ≤ 4611686018427387903 → NOk ns → 0 ≤ ns.foldl (fun m n => max m (n + 1)) m ∧ ns.foldl (fun m n => max m (n + 1)) m ≤ 4611686018427387903 := by
    intro ns
    induction ns with
    | nil => intro m h0 h1 _; exact ⟨h0, h1⟩
    | cons x ns ih =>
      intro m h0 h1 h
      have hx := h x (List.mem_cons_self ..)
      exact ih (max m (x + 1)) (by omega) (by omega) (fun y hy => h y (List.mem_cons_of_mem _ hy))
  exact key ns 0 (by decide) (by decide) h
theorem needN_take {ns : List Int} {i : Nat} (h : i < ns.length) : needN (ns.take (i + 1)) = max (needN (ns.take i)) (ns.getD i 0 + 1) := by
  rw [List.take_succ_eq_append_getElem h, needN_snoc, List.getD_eq_getElem?_getD, List.getElem?_eq_getElem h]
  rfl
theorem needN_ge {ns : List Int} : ∀ x ∈ ns, x < needN ns := by
  have mono : ∀ (ns : List Int) (m : Int), m ≤ ns.foldl (fun m n => max m (n + 1)) m := by
    intro ns
    induction ns with
    | nil => intro m; exact Int.le_refl _
    | cons y ns ih => intro m; exact Int.le_trans (show m ≤ max m (y + 1) by omega) (ih (max m (y + 1)))
  have key : ∀ (ns : List Int) (m : Int), ∀ x ∈ ns, x < ns.foldl (fun m n => max m (n + 1)) m := by
    intro ns
    induction ns with
    | nil => intro m x hx; cases hx
    | cons y ns ih =>
      intro m x hx
      rcases List.mem_cons.1 hx with rfl | hx
      · have := mono ns (max m (x + 1))
        simp only [List.foldl_cons]
        omega
      · exact ih _ x hx
  exact key ns 0
/-- the section, as the project writes it -/
def linesP (need : Int) (l : List Fld) (ns : List Int) : List Int := ((l.zip ns).map (fun p => lineP need p.1 p.2)).flatten
def secP (l : List Fld) (ns : List Int) : List Int := pxL 0 8 (needN ns) ++ linesP (needN ns) l ns
theorem linesP_drop (need : Int) {l : List Fld} {ns : List Int} {i : Nat} (h1 : i < l.length) (h2 : i < ns.length) : linesP need (l.drop i) (ns.drop i) = lineP need (l.getD i fd0) (ns.getD i 0) ++ linesP need (l.drop (i + 1)) (ns.drop (i + 1)) := by
  unfold linesP
  rw [List.drop_eq_getElem_cons h1, List.drop_eq_getElem_cons h2, List.zip_cons_cons, List.map_cons, List.flatten_cons]
  simp [List.getD_eq_getElem?_getD, List.getElem?_eq_getElem h1, List.getElem?_eq_getElem h2]
theorem pxT_len {first top n : Int} (hf : 0 ≤ first) (ht : 1 ≤ top) (h1 : first + top < 256) (h0 : 0 ≤ n) (hn : n ≤ 4611686018427387904) : Byt (pxT first top n) ∧ 0 < (pxT first top n).length ∧ (pxT first top n).length ≤ 11 := by
  unfold pxT
  split
  · exact ⟨byt_all (fun z hz => by rw [List.mem_singleton.1 hz]; omega), by simp, by simp⟩
  · have hl := pxD_len 8 (n - top).toNat (by have : (128 : Nat) ^ 9 = 9223372036854775808 := by decide
                                             omega)
    refine ⟨byt_all (fun z hz => ?_), by simp, by simp only [List.length_cons]; omega⟩
    rcases List.mem_cons.1 hz with rfl | hz
    · omega
    · have := pxD_byt _ z hz
      omega
theorem lineP_len {need n : Int} {f : Fld} (hf : FdWf f) (ok : okFd f) (hn : n = -1 ∨ (0 ≤ n ∧ n < need ∧ need ≤ 4611686018427387904)) : Byt (lineP need f n) ∧ 0 < (lineP need f n).length ∧ (lineP need f n).length ≤ 300 := by
  have i1 := kpL_in f true
  have i2 := kpL_in f false
  have hv := pxT_len (first := 0) (top := 127) (n := (f.val.length : Int)) (by decide) (by decide) (by decide) (by omega) (by unfold okFd at ok; omega)
  unfold lineP lineT
  split
  · obtain ⟨a, b, c⟩ := pxT_len (first := 192) (top := 63) (n := kpL f true) (by decide) (by decide) (by decide) (by omega) (by omega)
    exact ⟨a, b, by omega⟩
  · by_cases c : n = -1
    · rw [if_pos c]
      dsimp only
      unfold valT
      unfold okFd at ok
      split
      · obtain ⟨a, b, c⟩ := pxT_len (first := 64) (top := 15) (n := kpL f false) (by decide) (by decide) (by decide) (by omega) (by omega)
        exact ⟨a.append (hv.1.append hf.2.1), by simp only [List.length_append]; omega, by simp only [List.length_append]; omega⟩
      · obtain ⟨a, b, c⟩ := pxT_len (first := 32) (top := 7) (n := (f.name.length : Int)) (by decide) (by decide) (by decide) (by omega) (by omega)
        exact ⟨(a.append hf.1).append (hv.1.append hf.2.1), by simp only [List.length_append]; omega, by simp only [List.length_append]; omega⟩
    · rw [if_neg c]
      dsimp only
      obtain ⟨a, b, c⟩ := pxT_len (first := 128) (top := 63) (n := need - 1 - n) (by decide) (by decide) (by decide) (by omega) (by omega)
      exact ⟨a, b, by omega⟩
/-- numbers in a block, as many as they are -/
def NCell (w : World) (q : Nat) (ns : List Int) : Prop := q < w.heap.size ∧ ∀ j, j < ns.length → w.cell? ⟨q, j, none⟩ = some (.int .i64 (ns.getD j 0))
theorem NCell.on {w w' : World} {q : Nat} {ns : List Int} (h : NCell w q ns) (b : Below w.heap.size w w') : NCell w' q ns := ⟨Nat.lt_of_lt_of_le h.1 b.size, fun j hj => (b.cell (p := ⟨q, j, none⟩) h.1).trans (h.2 j hj)⟩
end Go.Proofs.YtpfahdogedchpaaDoor.P
namespace Go.Proofs.YtpfahdogedchpaaDoor
set_option linter.unusedVariables false
open Go.RowKit P

set_option maxHeartbeats 2000000 in
theorem takes_any (v : Value) (t : Tb) (f : Fld) (W : World) (hv : TbVal W W.heap.size v t) (hw : TbWf t) (h0 : faultTb t = 0) (hf : FdWf f) (ok : okFd f) :
    Calls Tryd.prog 65 #[v, fdV f] W fun e w' => e = .returned (.bool (mayT t f true)) ∧ Below W.heap.size W w' := by
  have okt := (faultTb_iff t).1 h0
  have hsf : szF f ≤ 92 := by unfold szF; unfold okFd at ok; omega
  have HSF := Lib.hid (fun w => tsize_any f w hf)
  have HSZ := Lib.hid (fun x (hx : x ∈ t.rows) w => tsize_any x w (hw.rows x hx))
  have HMT := Lib.hid (show mayT t f true = (decide (0 ≤ t.room - (szF f : Int) - (wtL t.rows : Int)) && decide (t.put < 4611686018427387903)) by
    unfold mayT
    rw [Bool.true_and, ← decide_not, ← decide_not]
    congr 1
    · rw [decide_eq_decide]; omega
    · rw [decide_eq_decide]; omega)
  rw [HMT.out]
  obtain ⟨sv, rfl, hs⟩ := hv.ex
  obtain ⟨A, c, rfl, _, _, hrow⟩ := hs.ex
  have HR := Lib.hid hrow
  have hrm := okt.1
  have hwl := okt.2.2.2.1
  have HWT := Lib.hid (fun i (hi : i < t.rows.length) => wtL_take (l := t.rows) hi)
  obtain ⟨s, hs'⟩ : ∃ s, szF f = s := ⟨_, rfl⟩
  rw [hs'] at hsf HSF ⊢
  unfold fdV at HSF HSZ ⊢
  obtain ⟨T1, hT1⟩ : ∃ S, strOfNums f.name = S := ⟨_, rfl⟩
  obtain ⟨T2, hT2⟩ : ∃ S, strOfNums f.val = S := ⟨_, rfl⟩
  rw [hT1, hT2] at HSF ⊢
  obtain ⟨N, hN⟩ : ∃ n, t.rows.length = n := ⟨_, rfl⟩
  have HN := Lib.hid hN
  rw [hN]
  have hN1000 : N ≤ 1000 := by have := wtL_len t.rows; omega
  obtain ⟨g1, g2, g3⟩ := two_bk W #[.int .i64 t.room, .int .i64 t.put, .slice A N c] #[.string T1, .string T2] 24 54
  have Z0 := Lib.hid g1
  have Y0 := Lib.hid g2
  have B0 := Lib.hid g3
  have hsub : IntKind.i64.wrap (t.room - (s : Int)) = t.room - (s : Int) := by rw [IntKind.wrap_i64]; omega
  obtain ⟨room, put, rows⟩ := t
  dsimp only at *
  have HB := Lib.hid hwl
  have HRM := Lib.hid hrm
  clear hv hw h0 hf ok okt hs hrow HMT hs' hT1 hT2 hN g1 g2 g3 hwl
  obtain ⟨z0, z1, z2⟩ := bk3T Z0.out
  obtain ⟨y0, y1⟩ := bk2F Y0.out
  go_enter Tryd.func65, Tryd.ntmps65
  go_wp2_with fail
  obtain ⟨w1, hw1⟩ : ∃ x, (W.alloc (.cells #[.int .i64 room, .int .i64 put, .slice A N c] 24)).alloc (.cells #[.string T1, .string T2] 54) = x := ⟨_, rfl⟩
  rw [hw1] at z0 z1 z2 y0 y1 Z0 Y0 B0 ⊢
  clear hw1
  replace z0 := Ext.cell z0
  replace y0 := Ext.cell y0
  replace y1 := Ext.cell y1
  clear z1 z2
  refine wp_region_ext (by kernel_rfl) (by kernel_rfl) ?_
  repeat (go_big_quiet_step (first | (go_at_call 78; exact Ext.call (HSF.out _))))
  refine wpQuiet_nil ?_
  intro w2 hb2
  have Z2 := Lib.hid ((hb2.block _ (lt_of_block Z0.out)).trans Z0.out)
  have B2 := Lib.hid (B0.out.trans (hb2.mono B0.out.size))
  clear hb2 z0 y0 y1 Z0 Y0
  obtain ⟨z0, z1, z2⟩ := bk3T Z2.out
  go_wp2_with fail
  clear z0 z1 z2
  go_loopg [5, 16] N (fun gq rv iv wr => ∃ i : Nat, rv = .int .i64 (room - (s : Int) - (wtL (rows.take i) : Int)) ∧ iv = .int .i64 i ∧ i + gq = N ∧ Hid (Below w2.heap.size w2 wr))
  case atStart => exact ⟨0, by rw [List.take_zero, wtL_nil]; simp, rfl, by omega, Lib.hid (Below.refl _ _)⟩
  case round =>
    obtain ⟨i, rfl, rfl, hig, BK⟩ := hrel
    by_cases hlt : i < N
    · have hil : i < rows.length := by rw [HN.out]; exact hlt
      obtain ⟨b, off, hA, hbl, x0, x1⟩ := fd_cells HR.out hil
      have hmem : rows.getD i fd0 ∈ rows := by rw [List.getD_eq_getElem?_getD, List.getElem?_eq_getElem hil]; exact List.getElem_mem hil
      have HS1 := Lib.hid (HSZ.out _ hmem)
      have HTK := HWT.out i hil
      have hle : wtL (rows.take (i + 1)) ≤ 160 := by
        have h1 := wtL_app (rows.take (i + 1)) (rows.drop (i + 1))
        rw [List.take_append_drop] at h1
        have := HB.out
        have := HRM.out
        omega
      obtain ⟨x, hx⟩ : ∃ x, rows.getD i fd0 = x := ⟨_, rfl⟩
      rw [hx] at x0 x1 HS1 HTK
      obtain ⟨S1, hS1⟩ : ∃ S, strOfNums x.name = S := ⟨_, rfl⟩
      obtain ⟨S2, hS2⟩ : ∃ S, strOfNums x.val = S := ⟨_, rfl⟩
      rw [hS1] at x0 HS1
      rw [hS2] at x1 HS1
      subst hA
      have BR := Lib.hid (B2.out.trans (BK.out.mono B2.out.size))
      have y0 := (BR.out.cell (p := ⟨b, off + i * 2, none⟩) hbl).trans x0
      have y1 := (BR.out.cell (p := ⟨b, off + i * 2 + 1, none⟩) hbl).trans x1
      have BA := Lib.hid (BK.out.alloc BK.out.size (.cells #[.string S1, .string S2] 54))
      obtain ⟨a, ha⟩ : ∃ a, szF x = a := ⟨_, rfl⟩
      rw [ha] at HS1 HTK
      obtain ⟨wt, hwt⟩ : ∃ a, wtL (rows.take i) = a := ⟨_, rfl⟩
      have HTT := Lib.hid HTK
      rw [hwt] at HTK HTT ⊢
      have hrr := HRM.out
      have hwr : IntKind.i64.wrap (room - (s : Int) - (wt : Int) - (a : Int)) = room - (s : Int) - (wt : Int) - (a : Int) := by rw [IntKind.wrap_i64]; omega
      have hnk : (i : Int) < (N : Int) := by omega
      clear x0 x1 hx hS1 hS2 hmem hil hbl HTK ha hwt hrr hle
      go_wp2_with fail
      refine (HS1.out _).mono ?_
      rintro e w4 ⟨rfl, b4⟩
      have B4 := Lib.hid (BA.out.trans (b4.mono BA.out.size))
      clear b4 y0 y1
      go_wp2_with fail
      go_roundg (gk - 1)
      case measure => omega
      case rel => exact ⟨i + 1, by rw [HTT.out]; congr 1; omega, by first | rfl | go_num, by omega, B4⟩
    · obtain rfl : i = N := by omega
      have BR := Lib.hid (B2.out.trans (BK.out.mono B2.out.size))
      have ZR := Lib.hid ((BK.out.block _ (lt_of_block Z2.out)).trans Z2.out)
      have htk : rows.take i = rows := List.take_of_length_le (by rw [HN.out]; exact Nat.le_refl _)
      rw [htk]
      obtain ⟨wt, hwt⟩ : ∃ a, wtL rows = a := ⟨_, rfl⟩
      rw [hwt]
      have HWE := Lib.hid hwt
      obtain ⟨z0, z1, z2⟩ := bk3T ZR.out
      clear htk hwt
      by_cases hc : 0 ≤ room - (s : Int) - (wt : Int)
      · have hcd : decide (0 ≤ room - (s : Int) - (wt : Int)) = true := decide_eq_true hc
        go_wp2_with fail
        go_ret
        exact ⟨by rw [HWE.out, hcd, Bool.true_and]; rfl, BR.out⟩
      · have hcd : decide (0 ≤ room - (s : Int) - (wt : Int)) = false := decide_eq_false hc
        go_wp2_with fail
        go_ret
        exact ⟨by rw [HWE.out]; first | (rw [hcd, Bool.false_and]; rfl) | (rw [show decide ((wt : Int) ≤ room - (s : Int)) = false from decide_eq_false (by omega), Bool.false_and]; rfl), BR.out⟩
structure FdSc (w0 : World) (W : World) (S1 S2 : ByteArray) (q n i g m cap : Nat) (z need : Int) (L1 L2 : List Int) (V0 V1 V2 V3 V4 V5 V6 : Value) (tb0 tb1 tb2 tb3 tb4 tb5 tb6 tb7 tb8 tb9 : Bool) (tx0 tx1 tx2 tx3 tx4 tx5 tx6 tx7 tx8 tx9 : Value) (w : World) : Prop where
  be : tb8 = false → Below w0.heap.size w0 w
  d4 : tb4 = true → tb2 = true ∧ tb3 = true
  d5 : tb5 = true → tb4 = true
  d7 : tb7 = true → tb1 = true ∧ tb5 = true ∧ tb6 = true
  d8 : tb8 = true → tb0 = true ∧ tb7 = true
  d9 : tb9 = true → tb0 = true ∧ tb1 = true ∧ tb2 = true ∧ tb3 = true ∧ tb4 = true ∧ tb5 = true ∧ tb6 = true ∧ tb7 = true ∧ tb8 = true
  ro : tb8 = false → WRow w W.heap.size 5 (.slice (some ⟨g, 0, none⟩) m cap) L1
  sb : tb9 = false → tx9 = .slice (some ⟨g, 0, none⟩) m cap
  h0 : tb0 = true → tx0 = V0
  h1 : tb1 = true → tx1 = V1
  h2 : tb2 = true → tx2 = V2
  h3 : tb3 = true → tx3 = V3
  h4 : tb4 = true → tx4 = V4
  h5 : tb5 = true → tx5 = V5
  h6 : tb6 = true → tx6 = V6
  h7 : tb7 = true → tb8 = false → WRow w w0.heap.size 5 tx7 L2
  h8 : tb8 = true → WRow w W.heap.size 5 tx8 (L1 ++ L2) ∧ Below W.heap.size W w
  h9 : tb9 = true → tx9 = tx8
set_option maxRecDepth 100000 in
set_option maxHeartbeats 2000000 in
theorem section_any (A : Option Addr) (n c q : Nat) (l : List Fld) (ns : List Int) (W0 : World) (h : RowE FdE W0 W0.heap.size A l) (hn : l.length = n) (hns : ns.length = n) (hwf : ∀ x ∈ l, FdWf x) (hok : ∀ x ∈ l, okFd x) (h8 : n ≤ 8) (hq : NCell W0 q ns) (hno : NOk ns) :
    Calls Tryd.prog 42 #[.slice A n c, .slice (some ⟨q, 0, none⟩) n n] W0 fun e w' => Below W0.heap.size W0 w' ∧ ∃ d, e = .returned d ∧ WRow w' W0.heap.size 5 d (secP l ns) := by
  have HND := Lib.hid (fun i hi => needN_take (ns := ns) (i := i) hi)
  have HNI := Lib.hid (fun i => needN_in (ns := ns.take i) (fun x hx => hno x (List.mem_of_mem_take hx)))
  have HNO := Lib.hid hno
  have HR := Lib.hid h
  have HN := Lib.hid hn
  have HNS := Lib.hid hns
  have HQ := Lib.hid hq.2
  have HQW := Lib.hid hq.1
  have HWO := Lib.hid (fun x hx => And.intro (hwf x hx) (hok x hx))
  have hall := needN_in hno
  have HNM := Lib.hid (fun w => number_any 0 8 (needN ns) w (by decide) (by decide) (by decide) (by decide))
  have HSC := Lib.hid (show secP l ns = pxL 0 8 (needN ns) ++ linesP (needN ns) l ns from rfl)
  have HGE := Lib.hid (needN_ge (ns := ns))
  obtain ⟨R, hR⟩ : ∃ R, secP l ns = R := ⟨_, rfl⟩
  rw [hR] at HSC ⊢
  clear h hn hns hwf hok hq hno hR
  go_enter Tryd.func42, Tryd.ntmps42
  go_wp2_with fail
  go_loopg [5, 13] n (fun gq dv iv wr => ∃ i : Nat, dv = .int .i64 (needN (ns.take i)) ∧ iv = .int .i64 i ∧ i + gq = n ∧ W0 = wr)
  case atStart => exact ⟨0, rfl, rfl, by omega, rfl⟩
  case round =>
    obtain ⟨i, rfl, rfl, hig, rfl⟩ := hrel
    by_cases hlt : i < n
    · have hil : i < ns.length := by rw [HNS.out]; exact hlt
      have hc := HQ.out i hil
      have hz : ns.getD i 0 ∈ ns := by rw [List.getD_eq_getElem?_getD, List.getElem?_eq_getElem hil]; exact List.getElem_mem hil
      have hz1 := HNO.out _ hz
      have HD1 := Lib.hid (HND.out i hil)
      obtain ⟨z, hz⟩ : ∃ z, ns.getD i 0 = z := ⟨_, rfl⟩
      rw [hz] at hc hz1 HD1
      have hm := HNI.out i
      obtain ⟨m, hm'⟩ : ∃ m, needN (ns.take i) = m := ⟨_, rfl⟩
      rw [hm'] at hm HD1 ⊢
      have hwr : IntKind.i64.wrap (z + 1) = z + 1 := by rw [IntKind.wrap_i64]; omega
      have hnk : (i : Int) < (n : Int) := by omega
      clear hz hm' hil
      go_wp2_with fail
      all_goals
        go_roundg (gk - 1)
        case measure => omega
        case rel => exact ⟨i + 1, by rw [HD1.out]; congr 1; omega, by first | rfl | go_num, by omega, rfl⟩
    · obtain rfl : i = n := by omega
      have htk : ns.take i = ns := List.take_of_length_le (by rw [HNS.out]; exact Nat.le_refl _)
      rw [htk]
      obtain ⟨need, hneed⟩ : ∃ m, needN ns = m := ⟨_, rfl⟩
      rw [hneed] at HNM HSC HGE hall ⊢
      have hnf := pxF_num (first := 0) (wi := 8) (n := need) (by decide) hall (by decide)
      have HNX := Lib.hid (fun w => HNM.out w hnf)
      obtain ⟨hl0, hl1⟩ := pxL_short 0 8 need hnf
      have HL0 := Lib.hid hl0
      have HL11 := Lib.hid hl1
      have HAL := Lib.hid hall
      obtain ⟨LH, hLH⟩ : ∃ L, pxL 0 8 need = L := ⟨_, rfl⟩
      rw [hLH] at HNX HSC HL0 HL11
      clear htk hneed HNM HND HNI hl0 hl1 hLH hnf hall
      go_wp2_with fail
      refine (HNX.out _).mono ?_
      rintro e w2 ⟨b2, d, rfl, h2⟩
      obtain ⟨g2, cap2, _, _, rfl, _⟩ := id h2
      have B2 := Lib.hid b2
      have W2 := Lib.hid h2
      obtain ⟨m2, hm2⟩ : ∃ m, LH.length = m := ⟨_, rfl⟩
      rw [hm2] at W2 ⊢
      clear b2 h2 hm2
      go_wp2_with fail
      go_loopg [8, 26] i (fun gq bv iv wr => ∃ (k : Nat) (acc : List Int) (g m cap : Nat), bv = .slice (some ⟨g, 0, none⟩) m cap ∧ iv = .int .i64 k ∧ k + gq = i ∧ Hid (acc ++ linesP need (l.drop k) (ns.drop k) = R) ∧ Hid (acc.length ≤ 11 + 300 * k) ∧ Hid (0 < acc.length) ∧ Hid (WRow wr W0.heap.size 5 (.slice (some ⟨g, 0, none⟩) m cap) acc) ∧ Hid (Below W0.heap.size W0 wr))
      case atStart => exact ⟨0, LH, g2, m2, cap2, rfl, rfl, by omega, Lib.hid HSC.out.symm, Lib.hid (by have := HL11.out; omega), HL0, W2, B2⟩
      case round =>
        obtain ⟨k, acc, g, m, cap, rfl, rfl, hkg, HAC, HAL1, HAP, WR, BK⟩ := hrel
        by_cases hlt2 : k < i
        · have hil : k < l.length := by rw [HN.out]; exact hlt2
          have hjl : k < ns.length := by rw [HNS.out]; exact hlt2
          obtain ⟨b, off, hA, hbl, x0, x1⟩ := fd_cells HR.out hil
          have hmem : l.getD k fd0 ∈ l := by rw [List.getD_eq_getElem?_getD, List.getElem?_eq_getElem hil]; exact List.getElem_mem hil
          have hmz : ns.getD k 0 ∈ ns := by rw [List.getD_eq_getElem?_getD, List.getElem?_eq_getElem hjl]; exact List.getElem_mem hjl
          have hz1 := HNO.out _ hmz
          have hz2 := HGE.out _ hmz
          have hal := HAL.out
          obtain ⟨hfw, hfo⟩ := HWO.out _ hmem
          have hnn : ns.getD k 0 = -1 ∨ (0 ≤ ns.getD k 0 ∧ ns.getD k 0 < need ∧ need ≤ 4611686018427387904) := by omega
          have HLI := Lib.hid (fun w => line_any _ (ns.getD k 0) need hfw hfo hnn w)
          obtain ⟨hy2, hl2, hl3⟩ := lineP_len hfw hfo hnn
          have HY2 := Lib.hid hy2
          have HP2 := Lib.hid hl2
          have HL2 := Lib.hid hl3
          have HDR := Lib.hid (HAC.out.symm.trans (by rw [linesP_drop need hil hjl, ← List.append_assoc] : _ = (acc ++ lineP need (l.getD k fd0) (ns.getD k 0)) ++ linesP need (l.drop (k + 1)) (ns.drop (k + 1))))
          have HZC := Lib.hid ((BK.out.cell (p := ⟨q, k, none⟩) HQW.out).trans (HQ.out k hjl))
          have HQW2 := Lib.hid (Nat.lt_of_lt_of_le HQW.out BK.out.size)
          have hi0 : (0 : Int) ≤ (k : Int) := by omega
          have hi1 : (k : Int) < (i : Int) := by omega
          have HII := Lib.hid (And.intro hi0 hi1)
          have HP1 := HAP
          have HL1 := Lib.hid (show acc.length ≤ 2411 by have := HAL1.out; omega)
          obtain ⟨z, hz⟩ : ∃ z, ns.getD k 0 = z := ⟨_, rfl⟩
          obtain ⟨f, hf⟩ : ∃ f, l.getD k fd0 = f := ⟨_, rfl⟩
          rw [hz, hf] at HLI HY2 HP2 HL2 HDR
          rw [hz] at HZC
          rw [hf] at x0 x1
          obtain ⟨L2, hL2⟩ : ∃ L, lineP need f z = L := ⟨_, rfl⟩
          rw [hL2] at HLI HY2 HP2 HL2 HDR
          obtain ⟨S1, hS1⟩ : ∃ S, strOfNums f.name = S := ⟨_, rfl⟩
          obtain ⟨S2, hS2⟩ : ∃ S, strOfNums f.val = S := ⟨_, rfl⟩
          unfold fdV at HLI
          rw [hS1, hS2] at HLI
          rw [hS1] at x0
          rw [hS2] at x1
          subst hA
          have y0 := (BK.out.cell (p := ⟨b, off + k * 2, none⟩) hbl).trans x0
          have y1 := (BK.out.cell (p := ⟨b, off + k * 2 + 1, none⟩) hbl).trans x1
          have b8 := (Below.refl wr.heap.size wr).alloc (Nat.le_refl _) (.cells #[.string S1, .string S2] 54)
          have GF := Lib.hid (heap_alloc_new wr (.cells #[.string S1, .string S2] 54))
          have WB1 := Lib.hid (wrow_below WR.out b8)
          have BW := Lib.hid (BK.out.trans (b8.mono BK.out.size))
          have HZC := Lib.hid ((b8.cell (p := ⟨q, k, none⟩) HQW2.out).trans HZC.out)
          have HQW := Lib.hid (Nat.lt_of_lt_of_le HQW2.out b8.size)
          clear x0 x1 hz hf hL2 hS1 hS2 hmem hmz hil hjl hbl hnn hfw hfo hz1 hz2 hal hy2 hl2 hl3 b8 HAC
          go_upto_region 11 with fail
          obtain ⟨w1, hw1⟩ : ∃ x, wr.alloc (.cells #[.string S1, .string S2] 54) = x := ⟨_, rfl⟩
          rw [hw1] at GF WB1 BW HZC HQW ⊢
          clear hw1 y0 y1 HQW2 hi0 hi1
          refine wp_region_inv (fun lis_ act_ wld_ => ∃ (tb0 tb1 tb2 tb3 tb4 tb5 tb6 tb7 tb8 tb9 : Bool) (tx0 tx1 tx2 tx3 tx4 tx5 tx6 tx7 tx8 tx9 : Value), lis_ = #[tb0, tb1, tb2, tb3, tb4, tb5, tb6, tb7, tb8, tb9] ∧ act_ = { tmps := #[Value.slice (some { block := b, off := off }) i c, Value.slice (some { block := q, off := 0 }) i i, undef, undef, Value.slice none 0 0, Value.int IntKind.i64 need, undef, u7, tx9, Value.int IntKind.i64 ↑k, Value.pointer (some { block := wr.heap.size, off := 0 }), Value.slice (some { block := q, off := 0 }) i i, Value.int IntKind.i64 ↑i, Value.int IntKind.i64 ↑i, Value.bool false, u15, u16, u17, u18, u19, u20, u21, Value.int IntKind.i64 need, Value.slice (some { block := g2, off := 0 }) m2 cap2, Value.slice (some { block := b, off := off }) i c, Value.int IntKind.i64 ↑i, Value.int IntKind.i64 ↑k, Value.bool true, Value.int IntKind.i64 ↑k, Value.pointer (some { block := b, off := off + k * 2 }), Value.agg #[Value.string S1, Value.string S2], tx0, tx1, tx2, tx3, tx4, tx5, tx6, tx7, tx8, u40, undef], defers := [] } ∧ FdSc w1 W0 S1 S2 q i k g m cap z need acc L2 (.slice (some ⟨g, 0, none⟩) m cap) (.agg #[.string S1, .string S2]) (.slice (some ⟨q, 0, none⟩) i i) (.int .i64 (k : Int)) (.pointer (some ⟨q, k, none⟩)) (.int .i64 z) (.int .i64 need) tb0 tb1 tb2 tb3 tb4 tb5 tb6 tb7 tb8 tb9 tx0 tx1 tx2 tx3 tx4 tx5 tx6 tx7 tx8 tx9 wld_) (by kernel_rfl) ?h0 ?hfin ?hI
          case h0 => exact ⟨_, _, _, _, _, _, _, _, _, _, _, _, _, _, _, _, _, _, _, _, rfl, rfl, ⟨(fun _ => (Below.refl _ _).drew), (fun h => by cases h), (fun h => by cases h), (fun h => by cases h), (fun h => by cases h), (fun h => by cases h), (fun _ => WB1.out), (fun _ => rfl), (fun h => by cases h), (fun h => by cases h), (fun h => by cases h), (fun h => by cases h), (fun h => by cases h), (fun h => by cases h), (fun h => by cases h), (fun h => by cases h), (fun h => by cases h), (fun h => by cases h)⟩⟩
          case hI =>
            rintro listed a w ⟨tb0, tb1, tb2, tb3, tb4, tb5, tb6, tb7, tb8, tb9, tx0, tx1, tx2, tx3, tx4, tx5, tx6, tx7, tx8, tx9, rfl, rfl, H⟩ i hi
            obtain ⟨hun, oj, hoj, hall⟩ := mem_ready.1 hi
            clear hi
            rcases i with _ | _ | _ | _ | _ | _ | _ | _ | _ | _ | i
            · have ho := hoj
              simp only [List.getElem?_toArray, List.getElem?_cons_succ, List.getElem?_cons_zero, Option.some.injEq] at hoj
              subst hoj
              obtain rfl : tb0 = false := hun
              clear hall
              obtain rfl : tb8 = false := Bool.eq_false_iff.2 fun h => Bool.false_ne_true (H.d8 h).1
              obtain rfl : tb9 = false := Bool.eq_false_iff.2 fun h => Bool.false_ne_true (H.d9 h).1
              have hbe := H.be rfl
              have hx_ro := H.ro rfl
              have hx_sb := H.sb rfl
              subst hx_sb
              refine wpOp_step ho (fun K' hK => ?_)
              have HK := Lib.hid hK
              clear hK ho
              go_simp
              exact HK.out _ _ ⟨_, _, _, _, _, _, _, _, _, _, _, _, _, _, _, _, _, _, _, _, rfl, rfl, ⟨(fun _ => hbe), H.d4, H.d5, H.d7, (fun h => by cases h), (fun h => by cases h), H.ro, H.sb, (fun _ => rfl), H.h1, H.h2, H.h3, H.h4, H.h5, H.h6, H.h7, (fun h => by cases h), (fun h => by cases h)⟩⟩
            · have ho := hoj
              simp only [List.getElem?_toArray, List.getElem?_cons_succ, List.getElem?_cons_zero, Option.some.injEq] at hoj
              subst hoj
              obtain rfl : tb1 = false := hun
              clear hall
              obtain rfl : tb7 = false := Bool.eq_false_iff.2 fun h => Bool.false_ne_true (H.d7 h).1
              obtain rfl : tb8 = false := Bool.eq_false_iff.2 fun h => Bool.false_ne_true (H.d8 h).2
              obtain rfl : tb9 = false := Bool.eq_false_iff.2 fun h => Bool.false_ne_true (H.d9 h).2.1
              have hbe := H.be rfl
              have hx_ro := H.ro rfl
              have hx_sb := H.sb rfl
              subst hx_sb
              obtain ⟨y0, y1⟩ := bk2F ((hbe.block _ (lt_of_block GF.out)).trans GF.out)
              refine wpOp_step ho (fun K' hK => ?_)
              have HK := Lib.hid hK
              clear hK ho
              go_simp
              exact HK.out _ _ ⟨_, _, _, _, _, _, _, _, _, _, _, _, _, _, _, _, _, _, _, _, rfl, rfl, ⟨(fun _ => hbe), H.d4, H.d5, (fun h => by cases h), H.d8, (fun h => by cases h), H.ro, H.sb, H.h0, (fun _ => rfl), H.h2, H.h3, H.h4, H.h5, H.h6, (fun h => by cases h), (fun h => by cases h), (fun h => by cases h)⟩⟩
            · have ho := hoj
              simp only [List.getElem?_toArray, List.getElem?_cons_succ, List.getElem?_cons_zero, Option.some.injEq] at hoj
              subst hoj
              obtain rfl : tb2 = false := hun
              clear hall
              obtain rfl : tb4 = false := Bool.eq_false_iff.2 fun h => Bool.false_ne_true (H.d4 h).1
              obtain rfl : tb5 = false := Bool.eq_false_iff.2 fun h => Bool.false_ne_true (H.d5 h)
              obtain rfl : tb7 = false := Bool.eq_false_iff.2 fun h => Bool.false_ne_true (H.d7 h).2.1
              obtain rfl : tb8 = false := Bool.eq_false_iff.2 fun h => Bool.false_ne_true (H.d8 h).2
              obtain rfl : tb9 = false := Bool.eq_false_iff.2 fun h => Bool.false_ne_true (H.d9 h).2.2.1
              have hbe := H.be rfl
              have hx_ro := H.ro rfl
              have hx_sb := H.sb rfl
              subst hx_sb
              refine wpOp_step ho (fun K' hK => ?_)
              have HK := Lib.hid hK
              clear hK ho
              go_simp
              exact HK.out _ _ ⟨_, _, _, _, _, _, _, _, _, _, _, _, _, _, _, _, _, _, _, _, rfl, rfl, ⟨(fun _ => hbe), (fun h => by cases h), H.d5, H.d7, H.d8, (fun h => by cases h), H.ro, H.sb, H.h0, H.h1, (fun _ => rfl), H.h3, H.h4, H.h5, H.h6, (fun h => by cases h), (fun h => by cases h), (fun h => by cases h)⟩⟩
            · have ho := hoj
              simp only [List.getElem?_toArray, List.getElem?_cons_succ, List.getElem?_cons_zero, Option.some.injEq] at hoj
              subst hoj
              obtain rfl : tb3 = false := hun
              clear hall
              obtain rfl : tb4 = false := Bool.eq_false_iff.2 fun h => Bool.false_ne_true (H.d4 h).2
              obtain rfl : tb5 = false := Bool.eq_false_iff.2 fun h => Bool.false_ne_true (H.d5 h)
              obtain rfl : tb7 = false := Bool.eq_false_iff.2 fun h => Bool.false_ne_true (H.d7 h).2.1
              obtain rfl : tb8 = false := Bool.eq_false_iff.2 fun h => Bool.false_ne_true (H.d8 h).2
              obtain rfl : tb9 = false := Bool.eq_false_iff.2 fun h => Bool.false_ne_true (H.d9 h).2.2.2.1
              have hbe := H.be rfl
              have hx_ro := H.ro rfl
              have hx_sb := H.sb rfl
              subst hx_sb
              refine wpOp_step ho (fun K' hK => ?_)
              have HK := Lib.hid hK
              clear hK ho
              go_simp
              exact HK.out _ _ ⟨_, _, _, _, _, _, _, _, _, _, _, _, _, _, _, _, _, _, _, _, rfl, rfl, ⟨(fun _ => hbe), (fun h => by cases h), H.d5, H.d7, H.d8, (fun h => by cases h), H.ro, H.sb, H.h0, H.h1, H.h2, (fun _ => rfl), H.h4, H.h5, H.h6, (fun h => by cases h), (fun h => by cases h), (fun h => by cases h)⟩⟩
            · have ho := hoj
              simp only [List.getElem?_toArray, List.getElem?_cons_succ, List.getElem?_cons_zero, Option.some.injEq] at hoj
              subst hoj
              obtain rfl : tb4 = false := hun
              obtain rfl : tb2 = true := hall ⟨2, .data⟩ (by simp) (by kernel_rfl)
              obtain rfl : tb3 = true := hall ⟨3, .data⟩ (by simp) (by kernel_rfl)
              clear hall
              obtain rfl : tb5 = false := Bool.eq_false_iff.2 fun h => Bool.false_ne_true (H.d5 h)
              obtain rfl : tb7 = false := Bool.eq_false_iff.2 fun h => Bool.false_ne_true (H.d7 h).2.1
              obtain rfl : tb8 = false := Bool.eq_false_iff.2 fun h => Bool.false_ne_true (H.d8 h).2
              obtain rfl : tb9 = false := Bool.eq_false_iff.2 fun h => Bool.false_ne_true (H.d9 h).2.2.2.2.1
              have hbe := H.be rfl
              have hx_ro := H.ro rfl
              have hx_sb := H.sb rfl
              obtain rfl := H.h2 rfl
              obtain rfl := H.h3 rfl
              subst hx_sb
              obtain ⟨hi0, hi1⟩ := HII.out
              refine wpOp_step ho (fun K' hK => ?_)
              have HK := Lib.hid hK
              clear hK ho
              go_simp
              exact HK.out _ _ ⟨_, _, _, _, _, _, _, _, _, _, _, _, _, _, _, _, _, _, _, _, rfl, rfl, ⟨(fun _ => hbe), (fun _ => ⟨rfl, rfl⟩), (fun h => by cases h), H.d7, H.d8, (fun h => by cases h), H.ro, H.sb, H.h0, H.h1, H.h2, H.h3, (fun _ => rfl), H.h5, H.h6, (fun h => by cases h), (fun h => by cases h), (fun h => by cases h)⟩⟩
            · have ho := hoj
              simp only [List.getElem?_toArray, List.getElem?_cons_succ, List.getElem?_cons_zero, Option.some.injEq] at hoj
              subst hoj
              obtain rfl : tb5 = false := hun
              obtain rfl : tb4 = true := hall ⟨4, .data⟩ (by simp) (by kernel_rfl)
              obtain rfl : tb2 = true := (H.d4 rfl).1
              obtain rfl : tb3 = true := (H.d4 rfl).2
              clear hall
              obtain rfl : tb7 = false := Bool.eq_false_iff.2 fun h => Bool.false_ne_true (H.d7 h).2.1
              obtain rfl : tb8 = false := Bool.eq_false_iff.2 fun h => Bool.false_ne_true (H.d8 h).2
              obtain rfl : tb9 = false := Bool.eq_false_iff.2 fun h => Bool.false_ne_true (H.d9 h).2.2.2.2.2.1
              have hbe := H.be rfl
              have hx_ro := H.ro rfl
              have hx_sb := H.sb rfl
              obtain rfl := H.h2 rfl
              obtain rfl := H.h3 rfl
              obtain rfl := H.h4 rfl
              subst hx_sb
              have hz := (hbe.cell (p := ⟨q, k, none⟩) HQW.out).trans HZC.out
              refine wpOp_step ho (fun K' hK => ?_)
              have HK := Lib.hid hK
              clear hK ho
              go_simp
              exact HK.out _ _ ⟨_, _, _, _, _, _, _, _, _, _, _, _, _, _, _, _, _, _, _, _, rfl, rfl, ⟨(fun _ => hbe), H.d4, (fun _ => rfl), (fun h => by cases h), H.d8, (fun h => by cases h), H.ro, H.sb, H.h0, H.h1, H.h2, H.h3, H.h4, (fun _ => rfl), H.h6, (fun h => by cases h), (fun h => by cases h), (fun h => by cases h)⟩⟩
            · have ho := hoj
              simp only [List.getElem?_toArray, List.getElem?_cons_succ, List.getElem?_cons_zero, Option.some.injEq] at hoj
              subst hoj
              obtain rfl : tb6 = false := hun
              clear hall
              obtain rfl : tb7 = false := Bool.eq_false_iff.2 fun h => Bool.false_ne_true (H.d7 h).2.2
              obtain rfl : tb8 = false := Bool.eq_false_iff.2 fun h => Bool.false_ne_true (H.d8 h).2
              obtain rfl : tb9 = false := Bool.eq_false_iff.2 fun h => Bool.false_ne_true (H.d9 h).2.2.2.2.2.2.1
              have hbe := H.be rfl
              have hx_ro := H.ro rfl
              have hx_sb := H.sb rfl
              subst hx_sb
              refine wpOp_step ho (fun K' hK => ?_)
              have HK := Lib.hid hK
              clear hK ho
              go_simp
              exact HK.out _ _ ⟨_, _, _, _, _, _, _, _, _, _, _, _, _, _, _, _, _, _, _, _, rfl, rfl, ⟨(fun _ => hbe), H.d4, H.d5, (fun h => by cases h), H.d8, (fun h => by cases h), H.ro, H.sb, H.h0, H.h1, H.h2, H.h3, H.h4, H.h5, (fun _ => rfl), (fun h => by cases h), (fun h => by cases h), (fun h => by cases h)⟩⟩
            · have ho := hoj
              simp only [List.getElem?_toArray, List.getElem?_cons_succ, List.getElem?_cons_zero, Option.some.injEq] at hoj
              subst hoj
              obtain rfl : tb7 = false := hun
              obtain rfl : tb1 = true := hall ⟨1, .data⟩ (by simp) (by kernel_rfl)
              obtain rfl : tb5 = true := hall ⟨5, .data⟩ (by simp) (by kernel_rfl)
              obtain rfl : tb6 = true := hall ⟨6, .data⟩ (by simp) (by kernel_rfl)
              obtain rfl : tb4 = true := (H.d5 rfl)
              obtain rfl : tb2 = true := (H.d4 rfl).1
              obtain rfl : tb3 = true := (H.d4 rfl).2
              clear hall
              obtain rfl : tb8 = false := Bool.eq_false_iff.2 fun h => Bool.false_ne_true (H.d8 h).2
              obtain rfl : tb9 = false := Bool.eq_false_iff.2 fun h => Bool.false_ne_true (H.d9 h).2.2.2.2.2.2.2.1
              have hbe := H.be rfl
              have hx_ro := H.ro rfl
              have hx_sb := H.sb rfl
              obtain rfl := H.h1 rfl
              obtain rfl := H.h2 rfl
              obtain rfl := H.h3 rfl
              obtain rfl := H.h4 rfl
              obtain rfl := H.h5 rfl
              obtain rfl := H.h6 rfl
              subst hx_sb
              refine wpOp_step ho (fun K' hK => ?_)
              have HK := Lib.hid hK
              clear hK ho
              go_wp2_with fail
              refine (HLI.out _).mono ?_
              rintro e w9 ⟨tb9, d9, rfl, h9⟩
              have BC := Lib.hid tb9
              have RC := Lib.hid (wrow_base h9 hbe.size)
              clear tb9 h9
              go_wp2_with fail
              exact HK.out _ _ ⟨_, _, _, _, _, _, _, _, _, _, _, _, _, _, _, _, _, _, _, _, rfl, rfl, ⟨(fun _ => hbe.trans (BC.out.mono hbe.size)), H.d4, H.d5, (fun _ => ⟨rfl, rfl, rfl⟩), (fun h => by cases h), (fun h => by cases h), (fun _ => wrow_below hx_ro BC.out), (fun _ => rfl), H.h0, H.h1, H.h2, H.h3, H.h4, H.h5, H.h6, (fun _ _ => RC.out), (fun h => by cases h), (fun h => by cases h)⟩⟩
            · have ho := hoj
              simp only [List.getElem?_toArray, List.getElem?_cons_succ, List.getElem?_cons_zero, Option.some.injEq] at hoj
              subst hoj
              obtain rfl : tb8 = false := hun
              obtain rfl : tb0 = true := hall ⟨0, .data⟩ (by simp) (by kernel_rfl)
              obtain rfl : tb7 = true := hall ⟨7, .data⟩ (by simp) (by kernel_rfl)
              obtain rfl : tb1 = true := (H.d7 rfl).1
              obtain rfl : tb5 = true := (H.d7 rfl).2.1
              obtain rfl : tb6 = true := (H.d7 rfl).2.2
              obtain rfl : tb4 = true := (H.d5 rfl)
              obtain rfl : tb2 = true := (H.d4 rfl).1
              obtain rfl : tb3 = true := (H.d4 rfl).2
              clear hall
              obtain rfl : tb9 = false := Bool.eq_false_iff.2 fun h => Bool.false_ne_true (H.d9 h).2.2.2.2.2.2.2.2
              have hbe := H.be rfl
              have hx_ro := H.ro rfl
              have hx_sb := H.sb rfl
              obtain rfl := H.h0 rfl
              obtain rfl := H.h1 rfl
              obtain rfl := H.h2 rfl
              obtain rfl := H.h3 rfl
              obtain rfl := H.h4 rfl
              obtain rfl := H.h5 rfl
              obtain rfl := H.h6 rfl
              have P7 := H.h7 rfl rfl
              subst hx_sb
              have R1 := Lib.hid hx_ro
              have R2 := Lib.hid P7
              have hb2 := (wrow_bsl P7 HY2.out)
              obtain ⟨A8, c8, e8, _, _, _, _⟩ := hb2.ex
              subst e8
              have SR := Lib.hid (src_bsl hb2)
              have BE := Lib.hid (BW.out.trans (hbe.mono BW.out.size))
              have hbes := BE.out.size
              clear hb2 P7
              refine wpOp_step ho (fun K' hK => ?_)
              have HK := Lib.hid hK
              clear hK ho
              refine step_appT w rfl (.tmp 31) (.tmp 38) _ rfl W0.heap.size _ _ acc L2 rfl rfl SR.out (.inr R1.out) (by have := HP1.out; omega) (by have := HL1.out; have := HL2.out; omega) hbes ?_
              intro v9 u9 h9 g9 _
              have R9 := Lib.hid h9
              have BV := Lib.hid (BE.out.grown g9 BE.out.size (fun k e => (trow_lt (.inr R1.out) k e).1))
              clear h9 g9
              exact HK.out _ _ ⟨_, _, _, _, _, _, _, _, _, _, _, _, _, _, _, _, _, _, _, _, rfl, rfl, ⟨(fun h => by cases h), H.d4, H.d5, H.d7, (fun _ => ⟨rfl, rfl⟩), (fun h => by cases h), (fun h => by cases h), H.sb, H.h0, H.h1, H.h2, H.h3, H.h4, H.h5, H.h6, (fun _ h => by cases h), (fun _ => ⟨R9.out, BV.out⟩), (fun h => by cases h)⟩⟩
            · have ho := hoj
              simp only [List.getElem?_toArray, List.getElem?_cons_succ, List.getElem?_cons_zero, Option.some.injEq] at hoj
              subst hoj
              obtain rfl : tb9 = false := hun
              obtain rfl : tb0 = true := hall ⟨0, .phase⟩ (by simp) (by kernel_rfl)
              obtain rfl : tb1 = true := hall ⟨1, .phase⟩ (by simp) (by kernel_rfl)
              obtain rfl : tb2 = true := hall ⟨2, .phase⟩ (by simp) (by kernel_rfl)
              obtain rfl : tb3 = true := hall ⟨3, .phase⟩ (by simp) (by kernel_rfl)
              obtain rfl : tb4 = true := hall ⟨4, .phase⟩ (by simp) (by kernel_rfl)
              obtain rfl : tb5 = true := hall ⟨5, .phase⟩ (by simp) (by kernel_rfl)
              obtain rfl : tb6 = true := hall ⟨6, .phase⟩ (by simp) (by kernel_rfl)
              obtain rfl : tb7 = true := hall ⟨7, .phase⟩ (by simp) (by kernel_rfl)
              obtain rfl : tb8 = true := hall ⟨8, .data⟩ (by simp) (by kernel_rfl)
              clear hall
              have hx_sb := H.sb rfl
              obtain rfl := H.h0 rfl
              obtain rfl := H.h1 rfl
              obtain rfl := H.h2 rfl
              obtain rfl := H.h3 rfl
              obtain rfl := H.h4 rfl
              obtain rfl := H.h5 rfl
              obtain rfl := H.h6 rfl
              have P8 := H.h8 rfl
              refine wpOp_step ho (fun K' hK => ?_)
              have HK := Lib.hid hK
              clear hK ho
              go_simp
              exact HK.out _ _ ⟨_, _, _, _, _, _, _, _, _, _, _, _, _, _, _, _, _, _, _, _, rfl, rfl, ⟨(fun h => by cases h), H.d4, H.d5, H.d7, H.d8, (fun _ => ⟨rfl, rfl, rfl, rfl, rfl, rfl, rfl, rfl, rfl⟩), (fun h => by cases h), (fun h => by cases h), H.h0, H.h1, H.h2, H.h3, H.h4, H.h5, H.h6, (fun _ h => by cases h), H.h8, (fun _ => rfl)⟩⟩
            · have ho := hoj
              simp at ho
          case hfin =>
            rintro listed a w ⟨tb0, tb1, tb2, tb3, tb4, tb5, tb6, tb7, tb8, tb9, tx0, tx1, tx2, tx3, tx4, tx5, tx6, tx7, tx8, tx9, rfl, rfl, H⟩ hr
            have hb : tb9 = true := by
              clear H
              revert tb0 tb1 tb2 tb3 tb4 tb5 tb6 tb7 tb8 tb9
              decide +kernel
            subst hb
            clear hr
            obtain rfl : tb0 = true := (H.d9 rfl).1
            obtain rfl : tb1 = true := (H.d9 rfl).2.1
            obtain rfl : tb2 = true := (H.d9 rfl).2.2.1
            obtain rfl : tb3 = true := (H.d9 rfl).2.2.2.1
            obtain rfl : tb4 = true := (H.d9 rfl).2.2.2.2.1
            obtain rfl : tb5 = true := (H.d9 rfl).2.2.2.2.2.1
            obtain rfl : tb6 = true := (H.d9 rfl).2.2.2.2.2.2.1
            obtain rfl : tb7 = true := (H.d9 rfl).2.2.2.2.2.2.2.1
            obtain rfl : tb8 = true := (H.d9 rfl).2.2.2.2.2.2.2.2
            obtain ⟨hr, hb⟩ := H.h8 rfl
            have e6 := H.h9 rfl
            clear H
            obtain ⟨g9, cap9, cur9, fz9, e9, hr9⟩ := id hr
            have RR := Lib.hid hr
            have BB := Lib.hid hb
            subst e6
            subst e9
            have hl12 : (acc ++ L2).length ≤ 11 + 300 * (k + 1) := by rw [List.length_append]; have := HAL1.out; have := HL2.out; omega
            have hp12 : 0 < (acc ++ L2).length := by rw [List.length_append]; have := HAP.out; omega
            have HL12 := Lib.hid hl12
            have HP12 := Lib.hid hp12
            obtain ⟨m9, hm9⟩ : ∃ m, (acc ++ L2).length = m := ⟨_, rfl⟩
            rw [hm9] at RR ⊢
            clear hr hb hr9 hl12 hp12 hm9
            go_wp2_with fail
            go_roundg (gk - 1)
            case measure => omega
            case rel => exact ⟨k + 1, acc ++ L2, g9, m9, cap9, rfl, by first | rfl | go_num, by omega, Lib.hid HDR.out.symm, HL12, HP12, RR, BB⟩
        · obtain rfl : k = i := by omega
          have hd : l.drop k = [] := List.drop_eq_nil_of_le (by rw [HN.out]; exact Nat.le_refl _)
          have hR : acc = R := by
            have := HAC.out
            rw [hd] at this
            simpa [linesP] using this
          have RR := Lib.hid WR.out
          rw [hR] at RR
          clear hd hR
          go_wp2_with fail
          go_ret
          exact ⟨BK.out, _, rfl, RR.out⟩
end Go.Proofs.YtpfahdogedchpaaDoor
