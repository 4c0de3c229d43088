/- PROVED HERE: FrameApart: called with any input that can be read, spillway/spillwaykeep.FrameApart returns true and does not panic, and its arguments read afterwards as they read before. Condition: the listed library tables (math/bits.deBruijn32tab, math/bits.deBruijn64tab) hold at the start what the program text lays; the card ties this to the text. -/
import Derived.Test.YtjeocggocloigabDoorQR
import Derived.Test.YtjeocggocloigabDoorQL
import Derived.Test.YtjeocggocloigabDoorQS
import Derived.Test.YtjeocggocloigabDoorQT
import Derived.Test.YtjeocggocloigabDoorRows
import Derived.Test.YtjeocggocloigabDoorCards
import Derived.Test.YtjeocggocloigabDoorTie
import Derived.WalkKit
import Derived.ProofKit
import Derived.OpenShut
import Derived.ShutString
import Derived.ChangeOld
import Derived.Below
import Derived.SizedLaws
import Derived.LaidMore
import Derived.Lay
import Derived.SevenTiedAt
import Derived.Stop.Joined
/- The walk of FrameApart. -/
namespace Go.Proofs.YtjeocggocloigabDoor
set_option linter.unusedVariables false
open Go.RowKit P

set_option maxRecDepth 100000 in
set_option maxHeartbeats 600000 in
theorem frameApart_walk (x0 x1 : RawT) (hs : x0.text.size ≤ maxLen) (hs' : x1.text.size ≤ maxLen) (W : World) (T : Tab W) :
    Calls Tryd.prog 4 #[.agg #[.int .i64 x0.kind, .int .i64 x0.a, .int .i64 x0.b, .string x0.text], .agg #[.int .i64 x1.kind, .int .i64 x1.a, .int .i64 x1.b, .string x1.text]] W fun e w' => e = .returned (.bool true) ∧ Below W.heap.size W w' := by
  obtain ⟨k, x, y, s⟩ := x0
  obtain ⟨k', x', y', s'⟩ := x1
  simp only at *
  have HFO : Hid (∀ w, Calls Tryd.prog 7 #[.agg #[.int .i64 k, .int .i64 x, .int .i64 y, .string s]] w (FrOut (fOf (k % 14) x y ((numsOf s).take 40)) w)) := Lib.hid (fun w => frameOf_any k x y s hs w)
  have HFO' : Hid (∀ w, Calls Tryd.prog 7 #[.agg #[.int .i64 k', .int .i64 x', .int .i64 y', .string s']] w (FrOut (fOf (k' % 14) x' y' ((numsOf s').take 40)) w)) := Lib.hid (fun w => frameOf_any k' x' y' s' hs' w)
  have hf0 : faultF (fOf (k % 14) x y ((numsOf s).take 40)) = 0 := fOf_ok _ _ _ _ (by rw [List.length_take]; omega)
  have hf1 : faultF (fOf (k' % 14) x' y' ((numsOf s').take 40)) = 0 := fOf_ok _ _ _ _ (by rw [List.length_take]; omega)
  have hl0 := fOf_lo (k % 14) x y ((numsOf s).take 40)
  have hl1 := fOf_lo (k' % 14) x' y' ((numsOf s').take 40)
  generalize fOf (k % 14) x y ((numsOf s).take 40) = f at *
  generalize fOf (k' % 14) x' y' ((numsOf s').take 40) = f' at *
  have HF := Lib.hid hf0
  have HF' := Lib.hid hf1
  have HT := Lib.hid T
  have HL : Hid (Lo1 f) := Lib.hid hl0
  have HL' : Hid (Lo1 f') := Lib.hid hl1
  have FR := Lib.hid (show ((W.alloc (.cells #[.int .i64 k, .int .i64 x, .int .i64 y, .string s] 27)).alloc (.cells #[.int .i64 k', .int .i64 x', .int .i64 y', .string s'] 27)).heap[W.heap.size]? = some (.cells #[.int .i64 k, .int .i64 x, .int .i64 y, .string s] 27 (0, 0)) from (Below.heap_alloc _ _ _ (by simp)).trans (heap_alloc_new W _))
  have FT := Lib.hid (show ((W.alloc (.cells #[.int .i64 k, .int .i64 x, .int .i64 y, .string s] 27)).alloc (.cells #[.int .i64 k', .int .i64 x', .int .i64 y', .string s'] 27)).heap[W.heap.size + 1]? = some (.cells #[.int .i64 k', .int .i64 x', .int .i64 y', .string s'] 27 (0, 0)) from by have := heap_alloc_new (W.alloc (.cells #[.int .i64 k, .int .i64 x, .int .i64 y, .string s] 27)) (.cells #[.int .i64 k', .int .i64 x', .int .i64 y', .string s'] 27); simpa using this)
  clear hf0 hf1 hl0 hl1 T hs hs'
  go_enter Tryd.func4, Tryd.ntmps4
  go_wp2_with fail
  refine wp_region_inv (TwoInv f f' (.agg #[.int .i64 k, .int .i64 x, .int .i64 y, .string s]) (.agg #[.int .i64 k', .int .i64 x', .int .i64 y', .string s']) ((W.alloc (.cells #[.int .i64 k, .int .i64 x, .int .i64 y, .string s] 27)).alloc (.cells #[.int .i64 k', .int .i64 x', .int .i64 y', .string s'] 27)) (fun x5 x6 x12 x13 x14 x15 => { tmps := #[.agg #[.int .i64 k, .int .i64 x, .int .i64 y, .string s], .agg #[.int .i64 k', .int .i64 x', .int .i64 y', .string s'], .pointer (some ⟨W.heap.size, 0, none⟩), .pointer (some ⟨W.heap.size + 1, 0, none⟩), .bool false, x5, x6, undef, undef, undef, undef, undef, x12, x13, x14, x15, undef, undef, undef, undef, undef, undef, undef, undef, undef, undef, undef, undef, undef, undef, undef, undef, undef, undef, undef, undef, undef, undef, undef, undef, undef, undef, undef, undef, undef, undef, undef, undef, undef, undef, undef, undef, undef, undef, undef, undef, undef, undef, undef, undef, undef, undef, undef, undef], defers := [] })) (by kernel_rfl) ?h0 ?hfin ?hI
  case h0 => exact ⟨_, _, _, _, _, _, _, _, _, _, _, _, _, _, _, _, _, _, _, _, rfl, rfl, Two.start _ _ _ _ _ _ _ _ _ _ _⟩
  case hI =>
    rintro listed a w ⟨b0, b1, b2, b3, b4, b5, b6, b7, x5, x6, x12, x13, x14, x15, p, q, r1, d1, r2, d2, rfl, rfl, H⟩ i hi
    obtain ⟨hun, oj, hoj, hall⟩ := mem_ready.1 hi
    clear hi
    rcases i with _ | _ | _ | _ | _ | _ | _ | _ | i
    · have ho := hoj
      simp only [List.getElem?_toArray, List.getElem?_cons_succ, List.getElem?_cons_zero, Option.some.injEq] at hoj
      subst hoj
      clear hall hun
      obtain ⟨c0, c1, c2, c3⟩ := blk4 ((H.hb.block _ (lt_of_block FR.out)).trans FR.out)
      refine wpOp_step ho (fun K' hK => ?_)
      have HK := Lib.hid hK
      clear hK ho
      go_simp
      exact HK.out _ _ ⟨_, _, _, _, _, _, _, _, _, _, _, _, _, _, _, _, _, _, _, _, rfl, rfl, H.s0⟩
    · have ho := hoj
      simp only [List.getElem?_toArray, List.getElem?_cons_succ, List.getElem?_cons_zero, Option.some.injEq] at hoj
      subst hoj
      obtain rfl : b1 = false := hun
      obtain rfl : b0 = true := hall ⟨0, .data⟩ (by simp) (by kernel_rfl)
      obtain rfl := H.h0 rfl
      clear hall
      refine wpOp_step ho (fun K' hK => ?_)
      have HK := Lib.hid hK
      clear hK ho
      go_wp2_with (go_at_call 7; refine (HFO.out _).mono ?_; rintro e w1 ⟨v1, rfl, hv1, hb1⟩; obtain ⟨r, d, rfl, _, _⟩ := hv1.ex; have HV1 := Lib.hid hv1; have HB1 := Lib.hid hb1; clear hv1 hb1)
      exact HK.out _ _ ⟨_, _, _, _, _, _, _, _, _, _, _, _, _, _, _, _, _, _, _, _, rfl, rfl, H.s1 HV1.out HB1.out⟩
    · have ho := hoj
      simp only [List.getElem?_toArray, List.getElem?_cons_succ, List.getElem?_cons_zero, Option.some.injEq] at hoj
      subst hoj
      clear hall hun
      obtain ⟨c0, c1, c2, c3⟩ := blk4 ((H.hb.block _ (lt_of_block FT.out)).trans FT.out)
      refine wpOp_step ho (fun K' hK => ?_)
      have HK := Lib.hid hK
      clear hK ho
      go_simp
      exact HK.out _ _ ⟨_, _, _, _, _, _, _, _, _, _, _, _, _, _, _, _, _, _, _, _, rfl, rfl, H.s2⟩
    · have ho := hoj
      simp only [List.getElem?_toArray, List.getElem?_cons_succ, List.getElem?_cons_zero, Option.some.injEq] at hoj
      subst hoj
      obtain rfl : b3 = false := hun
      obtain rfl : b2 = true := hall ⟨2, .data⟩ (by simp) (by kernel_rfl)
      obtain rfl := H.h2 rfl
      clear hall
      refine wpOp_step ho (fun K' hK => ?_)
      have HK := Lib.hid hK
      clear hK ho
      go_wp2_with (go_at_call 7; refine (HFO'.out _).mono ?_; rintro e w1 ⟨v1, rfl, hv1, hb1⟩; obtain ⟨r, d, rfl, _, _⟩ := hv1.ex; have HV1 := Lib.hid hv1; have HB1 := Lib.hid hb1; clear hv1 hb1)
      exact HK.out _ _ ⟨_, _, _, _, _, _, _, _, _, _, _, _, _, _, _, _, _, _, _, _, rfl, rfl, H.s3 HV1.out HB1.out⟩
    · obtain rfl : b4 = false := hun
      have ho := hoj
      simp only [List.getElem?_toArray, List.getElem?_cons_succ, List.getElem?_cons_zero, Option.some.injEq] at hoj
      subst hoj
      clear hall
      refine wpOp_step ho (fun K' hK => ?_)
      have HK := Lib.hid hK
      clear hK ho
      go_simp
      exact HK.out _ _ ⟨_, _, _, _, _, _, _, _, _, _, _, _, _, _, _, _, _, _, _, _, rfl, rfl, H.s4⟩
    · obtain rfl : b5 = false := hun
      have ho := hoj
      simp only [List.getElem?_toArray, List.getElem?_cons_succ, List.getElem?_cons_zero, Option.some.injEq] at hoj
      subst hoj
      clear hall
      refine wpOp_step ho (fun K' hK => ?_)
      have HK := Lib.hid hK
      clear hK ho
      go_simp
      exact HK.out _ _ ⟨_, _, _, _, _, _, _, _, _, _, _, _, _, _, _, _, _, _, _, _, rfl, rfl, H.s5⟩
    · have ho := hoj
      simp only [List.getElem?_toArray, List.getElem?_cons_succ, List.getElem?_cons_zero, Option.some.injEq] at hoj
      subst hoj
      obtain rfl : b6 = false := hun
      obtain rfl : b1 = true := hall ⟨1, .data⟩ (by simp) (by kernel_rfl)
      obtain rfl : b4 = true := hall ⟨4, .data⟩ (by simp) (by kernel_rfl)
      obtain ⟨rfl, _, hz⟩ := H.h4 rfl
      obtain ⟨rfl, hv⟩ := H.h1 rfl
      obtain ⟨r', d', ev, hr, hd⟩ := hv.ex
      obtain ⟨rfl, rfl⟩ : r1 = r' ∧ d1 = d' := by simpa [frCells] using ev
      obtain ⟨A1, e1, rfl, _, _, _⟩ := hr.ex
      obtain ⟨A2, e2, rfl, _, _, _, _⟩ := hd.ex
      clear hv hr hd ev
      clear hall
      simp only [zCells, Bool.false_eq_true, if_false] at hz
      obtain ⟨q0, q1, q2, q3, q4, q5, q6, qf⟩ := blk7 hz
      obtain ⟨_, _, _, _, _, _, _, hput, gput⟩ := blk7_put hz (.int .i64 f.kind) (.int .i64 f.id) (.int .i64 f.off) (.bool f.fin) (.int .i64 f.code) (.slice A1 f.rs.length e1) (.slice A2 f.data.length e2)
      have HP := Lib.hid hput
      have GP := Lib.hid gput
      have HH := Lib.hid H
      clear hput gput hz H
      simp only [frCells]
      refine wpOp_step ho (fun K' hK => ?_)
      have HK := Lib.hid hK
      clear hK ho
      go_simp
      exact HK.out _ _ ⟨_, _, _, _, _, _, _, _, _, _, _, _, _, _, _, _, _, _, _, _, rfl, rfl, HH.out.s6 HL.out HL'.out GP.out HP.out⟩
    · have ho := hoj
      simp only [List.getElem?_toArray, List.getElem?_cons_succ, List.getElem?_cons_zero, Option.some.injEq] at hoj
      subst hoj
      obtain rfl : b7 = false := hun
      obtain rfl : b3 = true := hall ⟨3, .data⟩ (by simp) (by kernel_rfl)
      obtain rfl : b5 = true := hall ⟨5, .data⟩ (by simp) (by kernel_rfl)
      obtain ⟨rfl, _, hz⟩ := H.h5 rfl
      obtain ⟨rfl, hv⟩ := H.h3 rfl
      obtain ⟨r', d', ev, hr, hd⟩ := hv.ex
      obtain ⟨rfl, rfl⟩ : r2 = r' ∧ d2 = d' := by simpa [frCells] using ev
      obtain ⟨A1, e1, rfl, _, _, _⟩ := hr.ex
      obtain ⟨A2, e2, rfl, _, _, _, _⟩ := hd.ex
      clear hv hr hd ev
      clear hall
      simp only [zCells, Bool.false_eq_true, if_false] at hz
      obtain ⟨q0, q1, q2, q3, q4, q5, q6, qf⟩ := blk7 hz
      obtain ⟨_, _, _, _, _, _, _, hput, gput⟩ := blk7_put hz (.int .i64 f'.kind) (.int .i64 f'.id) (.int .i64 f'.off) (.bool f'.fin) (.int .i64 f'.code) (.slice A1 f'.rs.length e1) (.slice A2 f'.data.length e2)
      have HP := Lib.hid hput
      have GP := Lib.hid gput
      have HH := Lib.hid H
      clear hput gput hz H
      simp only [frCells]
      refine wpOp_step ho (fun K' hK => ?_)
      have HK := Lib.hid hK
      clear hK ho
      go_simp
      exact HK.out _ _ ⟨_, _, _, _, _, _, _, _, _, _, _, _, _, _, _, _, _, _, _, _, rfl, rfl, HH.out.s7 HL.out HL'.out GP.out HP.out⟩
    · simp at hoj
  case hfin =>
    rintro listed a w ⟨b0, b1, b2, b3, b4, b5, b6, b7, x5, x6, x12, x13, x14, x15, p, q, r1, d1, r2, d2, rfl, rfl, H⟩ hr
    have hb : (b0 && b1 && b2 && b3 && b4 && b5 && b6 && b7) = true := by
      clear H
      revert b0 b1 b2 b3 b4 b5 b6 b7
      decide +kernel
    simp only [Bool.and_eq_true] at hb
    obtain ⟨⟨⟨⟨⟨⟨⟨rfl, rfl⟩, rfl⟩, rfl⟩, rfl⟩, rfl⟩, rfl⟩, rfl⟩ := hb
    clear hr
    obtain ⟨rfl, _, hp⟩ := H.h4 rfl
    obtain ⟨rfl, _, hq⟩ := H.h5 rfl
    obtain ⟨rfl, hv1⟩ := H.h1 rfl
    obtain ⟨rfl, hv2⟩ := H.h3 rfl
    obtain ⟨r', d', ev, hr1, hd1⟩ := hv1.ex
    obtain ⟨rfl, rfl⟩ : r1 = r' ∧ d1 = d' := by simpa [frCells] using ev
    obtain ⟨A1, e1, rfl, _, _, _⟩ := hr1.ex
    obtain ⟨A2, e2, rfl, _, _, _, _⟩ := hd1.ex
    obtain ⟨r', d', ev', hr2, hd2⟩ := hv2.ex
    obtain ⟨rfl, rfl⟩ : r2 = r' ∧ d2 = d' := by simpa [frCells] using ev'
    obtain ⟨A3, e3, rfl, _, _, _⟩ := hr2.ex
    obtain ⟨A4, e4, rfl, _, _, _, _⟩ := hd2.ex
    have B2 := Lib.hid ((((Below.refl W.heap.size W).alloc (Nat.le_refl _) (.cells #[.int .i64 k, .int .i64 x, .int .i64 y, .string s] 27)).alloc (by simp) (.cells #[.int .i64 k', .int .i64 x', .int .i64 y', .string s'] 27)).trans (H.hb.mono (by simp; omega)))
    simp only [frCells, if_true] at hp hq hv1 hv2
    have HV := Lib.hid hv1
    have HV' := Lib.hid hv2
    have FP := Lib.hid hp
    have FQ := Lib.hid hq
    clear hp hq hv1 hv2 ev ev' hr1 hr2 hd1 hd2 H FR FT HFO HFO'
    simp only [frCells]
    obtain ⟨q0, q1, q2, q3, q4, q5, q6, _⟩ := blk7 FP.out
    obtain ⟨t0, t1, t2, t3, t4, t5, t6, _⟩ := blk7 FQ.out
    obtain ⟨X, hX⟩ : ∃ X, frT f = X := ⟨_, rfl⟩
    obtain ⟨Y, hY⟩ : ∃ Y, frT f' = Y := ⟨_, rfl⟩
    have hX0 : 0 < X.length := hX ▸ frT_pos f HF.out
    have hX8 : X.length ≤ 608 := hX ▸ frT_le HF.out
    have hY0 : 0 < Y.length := hY ▸ frT_pos f' HF'.out
    have hY8 : Y.length ≤ 608 := hY ▸ frT_le HF'.out
    have HX := Lib.hid hX
    have HY := Lib.hid hY
    have HENC : Hid (∀ v w, FrVal w w.heap.size v f → Tab w → Calls Tryd.prog 6 #[v] w (EncFrPost X w)) := Lib.hid (fun v w h t => hX ▸ encodeFr_yes v f w h HF.out t)
    have HENC' : Hid (∀ v w, FrVal w w.heap.size v f' → Tab w → Calls Tryd.prog 6 #[v] w (EncFrPost Y w)) := Lib.hid (fun v w h t => hY ▸ encodeFr_yes v f' w h HF'.out t)
    clear hX hY
    go_wp2_with (first
      | (go_at_call 6; have g := R3.out; refine (HENC'.out _ _ HV'3.out (HT.out.below B3.out)).mono ?_; rintro e w4 ⟨A6, c6, rfl, o4, y4, b4⟩; have B4 := Lib.hid (B3.out.trans (b4.mono B3.out.size)); have FP4 := Lib.hid ((b4.block _ (lt_of_block FP3.out)).trans FP3.out); have FQ4 := Lib.hid ((b4.block _ (lt_of_block FQ3.out)).trans FQ3.out); have HV4 := Lib.hid (HV3.out.on b4); have HV'4 := Lib.hid (HV'3.out.on b4); obtain ⟨A6', c6', he, hc6, hm6, hn6, hr6⟩ := (own_bsl o4 y4).ex; obtain ⟨ee1, _, ee3⟩ := Value.slice.inj he; subst ee1; subst ee3; have R4 := Lib.hid (R3.out.on b4); have S4 := Lib.hid hr6; have HN6 := Lib.hid hn6; clear o4 y4 b4 hr6 hn6 he g)
      | (go_at_call 6; refine (HENC.out _ _ HV.out (HT.out.below B2.out)).mono ?_; rintro e w3 ⟨A5, c5, rfl, o3, y3, b3⟩; have B3 := Lib.hid (B2.out.trans (b3.mono B2.out.size)); have FP3 := Lib.hid ((b3.block _ (lt_of_block FP.out)).trans FP.out); have FQ3 := Lib.hid ((b3.block _ (lt_of_block FQ.out)).trans FQ.out); have HV3 := Lib.hid (HV.out.on b3); have HV'3 := Lib.hid (HV'.out.on b3); obtain ⟨A5', c5', he, hc5, hm5, hn5, hr5⟩ := (own_bsl o3 y3).ex; obtain ⟨ee1, _, ee3⟩ := Value.slice.inj he; subst ee1; subst ee3; have R3 := Lib.hid hr5; have HN5 := Lib.hid hn5; clear o3 y3 b3 hr5 hn5 he q0 q1 q2 q3 q4 q5 q6 t0 t1 t2 t3 t4 t5 t6; obtain ⟨t0, t1, t2, t3, t4, t5, t6, _⟩ := blk7 FQ3.out))
    by_cases hle : X.length ≤ Y.length
    · have hle' : (X.length : Int) ≤ Y.length := by omega
      have hgt : (0 : Int) < X.length := by omega
      have htl : (Y.take X.length).length = X.length := by rw [List.length_take]; omega
      have s0 := fun n => run_str (P := Tryd.prog) ((S4.out.take X.length).below (Go.below_drewN (Below.refl _ _) n)) htl 25 9 5 c6 Tryd.underlying25 Tryd.underlying5 Tryd.underlying9
      have s1 := fun n => run_str (P := Tryd.prog) (R4.out.below (Go.below_drewN (Below.refl _ _) n)) rfl 25 9 5 c5 Tryd.underlying25 Tryd.underlying5 Tryd.underlying9
      have hE : ((strOfNums (List.take X.length Y)).toList == (strOfNums X).toList) = true ↔ f = f' := by
        rw [beq_iff_eq]
        refine ⟨fun e => ?_, fun e => ?_⟩
        · have e1 : strOfNums (List.take X.length Y) = strOfNums X := ByteArray.ext (Array.toList_inj.1 (by rw [← ByteArray.toList_eq, ← ByteArray.toList_eq]; exact e))
          have e2 := str_inj (S4.out.1.take X.length) R4.out.1 e1
          refine decF_apart HF.out HF'.out (x := Y.drop X.length) (y := []) ?_
          rw [HX.out, HY.out, List.append_nil]
          calc X ++ Y.drop X.length = Y.take X.length ++ Y.drop X.length := by rw [e2]
            _ = Y := List.take_append_drop _ _
        · have e1 : X = Y := by rw [← HX.out, ← HY.out, e]
          rw [← e1, List.take_length]
      have HE := Lib.hid hE
      clear hE
      go_quiet (fail)
      generalize ((strOfNums (List.take X.length Y)).toList == (strOfNums X).toList) = E at *
      clear s0 s1
      have HD5 := Lib.hid (Go.below_drewN (Below.refl w4.heap.size w4) nq)
      have B5 := Lib.hid (B4.out.trans (HD5.out.mono B4.out.size))
      clear t0 t1 t2 t3 t4 t5 t6
      obtain ⟨q0, q1, q2, q3, q4, q5, q6, _⟩ := blk7 ((HD5.out.block _ (lt_of_block FP4.out)).trans FP4.out)
      obtain ⟨t0, t1, t2, t3, t4, t5, t6, _⟩ := blk7 ((HD5.out.block _ (lt_of_block FQ4.out)).trans FQ4.out)
      go_wp2_with (go_at_call 10; refine (sameFrN_any _ _ f f' _ (HV4.out.on HD5.out) (HV'4.out.on HD5.out)).mono ?_; rintro e w10 ⟨b, rfl, hbb, b10⟩; have HBB := Lib.hid hbb; have B10 := Lib.hid (B5.out.trans (b10.mono B5.out.size)); clear b10 hbb)
      go_ret
      exact ⟨ret_bool (by cases E <;> cases b <;> first | rfl | exact absurd (HE.out.1 rfl) (fun e => absurd (HBB.out.2 e) (by decide)) | exact absurd (HBB.out.1 rfl) (fun e => absurd (HE.out.2 e) (by decide))), B10.out⟩
    · have hgt : (0 : Int) < X.length := by omega
      have hne : Hid (f ≠ f') := Lib.hid (fun e => hle (by rw [← HX.out, ← HY.out, e]; exact Nat.le_refl _))
      have hle' : ¬ (X.length : Int) ≤ Y.length := by omega
      go_quiet (fail)
      have HD5 := Lib.hid (Go.below_drewN (Below.refl w4.heap.size w4) nq)
      have B5 := Lib.hid (B4.out.trans (HD5.out.mono B4.out.size))
      clear t0 t1 t2 t3 t4 t5 t6
      obtain ⟨q0, q1, q2, q3, q4, q5, q6, _⟩ := blk7 ((HD5.out.block _ (lt_of_block FP4.out)).trans FP4.out)
      obtain ⟨t0, t1, t2, t3, t4, t5, t6, _⟩ := blk7 ((HD5.out.block _ (lt_of_block FQ4.out)).trans FQ4.out)
      go_wp2_with (go_at_call 10; refine (sameFrN_any _ _ f f' _ (HV4.out.on HD5.out) (HV'4.out.on HD5.out)).mono ?_; rintro e w10 ⟨b, rfl, hbb, b10⟩; have HBB := Lib.hid hbb; have B10 := Lib.hid (B5.out.trans (b10.mono B5.out.size)); clear b10 hbb)
      go_ret
      exact ⟨ret_bool (by cases b <;> first | rfl | exact absurd (HBB.out.1 rfl) hne.out), B10.out⟩
end Go.Proofs.YtjeocggocloigabDoor
namespace Go.Proofs.YtjeocggocloigabDoor.frameApart
open Go.ChangeShapes Go.WideShapes Go.ChangeAt Go.RowKit P
open Go.ChangeMaps (open_string shut_string)
set_option linter.unusedVariables false

theorem own : ownKnob Tryd.prog.godebug = none := by kernel_rfl
theorem laidOut : laidOutB Tryd.prog = true := by kernel_rfl

/-- the cells of the listed table that the four sizes lead to -/
theorem tabOf {W : World} (h : laidMetH Tryd.prog [("math/bits.deBruijn32tab", Rows.laid_math_bits_deBruijn32tab), ("math/bits.deBruijn64tab", Rows.laid_math_bits_deBruijn64tab)] W) : Tab W := by
  rw [MakeChecks.laidMetH_plain _ _ _ (by kernel_rfl)] at h
  obtain ⟨ps, ⟨_, _, _, _, _, _, _, _, _, _, ⟨g, t, cs, fuel, p, q, hg, ht, hv, hd, _, _⟩, _⟩, _, _⟩ := h
  have hG : Tryd.prog.globalNamed "math/bits.deBruijn64tab" = some 1 := by kernel_rfl
  have hTy : (Tryd.prog.globals[1]?).map (·.type) = some 94 := by kernel_rfl
  obtain rfl := Option.some.inj (hG.symm.trans hg)
  obtain rfl := Option.some.inj (hTy.symm.trans ht)
  obtain ⟨xs, m, _, ex, _, hl, hel⟩ := DataW.trod_array Tryd.underlying94 hd
  have c5 : Tryd.prog.cellsOf 5 = 1 := by kernel_rfl
  have e3 := (DataW.agg.inj (Prod.mk.inj ex).1).symm
  have cell : ∀ (r : Nat) (v : Int), r < 64 → (xs.map (·.1))[r]? = some (.lit (.int .u8 v)) → W.cell? ⟨1, r, none⟩ = some (.int .u8 v) := by
    intro r v hr e4
    have hE := hel r hr
    rw [c5, Nat.mul_one, List.getElem?_eq_getElem (by omega)] at hE
    obtain ⟨z, e1, e2, _⟩ := DataW.trod_int Tryd.underlying5 hE
    rw [List.getElem?_map, List.getElem?_eq_getElem (by omega : r < xs.length), e2] at e4
    have hz : z = v := by simpa using e4
    subst hz
    rw [World.var?_cell hg hv r]
    have : cs.toList[r]? = some (.int .u8 z) := by
      have h0 : ((cs.toList.drop r).take 1)[0]? = some (.int .u8 z) := by rw [e1]; rfl
      simpa using h0
    simpa using this
  have k0 := cell 0 0 (by decide) (by rw [e3]; rfl)
  exact ⟨k0, cell 1 1 (by decide) (by rw [e3]; rfl), cell 3 2 (by decide) (by rw [e3]; rfl), cell 7 3 (by decide) (by rw [e3]; rfl), cell_lt k0⟩


set_option maxRecDepth 100000 in
theorem lifted (os : Os) (started : os.Started) (H : Type) (enc : TypeId × Value → H) :
    ReturnsInHanded {} Tryd.checked os 4 .any (fun w args => (Rows.frameApartSpec.pre enc Tryd.prog Tryd.f4 Rows.frameApartRow.domain false w args ∧ laidMetH Tryd.prog [("math/bits.deBruijn32tab", Rows.laid_math_bits_deBruijn32tab), ("math/bits.deBruijn64tab", Rows.laid_math_bits_deBruijn64tab)] w) ∧ sizedMet enc Tryd.prog Tryd.f4 (OpenSpec.ofChange Rows.frameApartSpec) false w args) (Rows.frameApartSpec.post enc Tryd.prog Tryd.f4 false true false false) := by
  refine returnsInHanded_of_change_and (C := Tryd.checked) (X := fun w _ => laidMetH Tryd.prog [("math/bits.deBruijn32tab", Rows.laid_math_bits_deBruijn32tab), ("math/bits.deBruijn64tab", Rows.laid_math_bits_deBruijn64tab)] w) (fun _ _ _ hh h => h.of_heap hh) own started (by kernel_rfl) Tryd.func4
    (ChangeSpec.witness_shaped (enc := enc) (C := Tryd.checked) (os := os) (X := fun w _ => laidMetH Tryd.prog [("math/bits.deBruijn32tab", Rows.laid_math_bits_deBruijn32tab), ("math/bits.deBruijn64tab", Rows.laid_math_bits_deBruijn64tab)] w) false (World.laidAll Tryd.prog os [("math/bits.deBruijn32tab", Rows.laid_math_bits_deBruijn32tab), ("math/bits.deBruijn64tab", Rows.laid_math_bits_deBruijn64tab)]) #[.agg #[.int .i64 0, .int .i64 0, .int .i64 0, .string ⟨#[]⟩], .agg #[.int .i64 0, .int .i64 0, .int .i64 0, .string ⟨#[]⟩]] 8 (World.laidAll_os _ _ _)
      (World.shaped_of_ZipB (by kernel_rfl) (by kernel_rfl)) (by kernel_rfl) (by kernel_rfl) (by kernel_rfl)
      (by rw [MakeChecks.laidMetH_plain _ _ _ (by kernel_rfl)]; exact laidMet_laidAll _ (by kernel_rfl) (by kernel_rfl))) ?_
  intro W base args ds gs before hval0 hW hcnd hsz0 hL _
  have T := tabOf hL
  have hsz : (DataW.weightsEach Tryd.prog (Tryd.f4.params.toList ++ Rows.frameApartSpec.plain.varTypes Tryd.prog) (ds ++ gs)).all (· ≤ reachBytes) = true := hsz0
  have hval : ∀ (j : Nat) t v, Tryd.f4.params[j]? = some t → args[j]? = some v → Value.okWide Tryd.prog W .any base t v := hval0
  have hW' := hW
  obtain ⟨p, q, hA0, hV, rfl, hfz, hnd⟩ := hW
  have hA : DataW.TrodAll enc Tryd.prog W 0 (fun _ => true) true Tryd.f4.params.toList args.toList ds p := hA0
  rw [Tryd.params4] at hA hval hsz
  obtain ⟨v0, vs0, d0, ds0, p0, q0, hargs, rfl, rfl, h0, tr0⟩ := trodAll_cons hA
  obtain ⟨v1, vs1, d1, ds1, p1, q1, rfl, rfl, rfl, h1, tr1⟩ := trodAll_cons tr0
  obtain ⟨rfl, rfl, rfl⟩ := trodAll_nil tr1
  obtain rfl : args = #[v0, v1] := by cases args; simp_all
  obtain ⟨rfl, rfl⟩ := trodVars_none hV
  have k0 := h0
  have lt0 : ∀ x ∈ p0, x.block < W.heap.size := by obtain ⟨m, hm⟩ := k0; exact DataW.trod_lt m _ _ _ hm
  obtain ⟨x0, rfl, wk0, wa0, wb0, ws0⟩ := open_raw Tryd.underlying27 (by kernel_rfl) (by kernel_rfl) Tryd.underlying3 Tryd.underlying3 Tryd.underlying3 Tryd.underlying9 (hval 0 27 v0 rfl rfl) h0
  have k1 := h1
  have lt1 : ∀ x ∈ p1, x.block < W.heap.size := by obtain ⟨m, hm⟩ := k1; exact DataW.trod_lt m _ _ _ hm
  obtain ⟨x1, rfl, wk1, wa1, wb1, ws1⟩ := open_raw Tryd.underlying27 (by kernel_rfl) (by kernel_rfl) Tryd.underlying3 Tryd.underlying3 Tryd.underlying3 Tryd.underlying9 (hval 1 27 v1 rfl rfl) h1
  clear hA0 hval0
  refine (show Calls Tryd.prog 4 _ W fun e w' => e = .returned (.bool true) ∧ Below W.heap.size W w' from frameApart_walk x0 x1 ws0 ws1 W T).mono fun e W' ⟨he, bel⟩ => ?_
  subst he
  exact ⟨_, rfl, _, _, _, [], _, [], hW', trodAll_mk1 (shut_bool Tryd.underlying4 _), (trodAll_cons_mk (Below.trod laidOut (by kernel_rfl) (of_decide_eq_true (by kernel_rfl)) k0 bel lt0) (trodAll_cons_mk (Below.trod laidOut (by kernel_rfl) (of_decide_eq_true (by kernel_rfl)) k1 bel lt1) trodAll_mk0)), rfl, bel.frame _, fun h => by cases h⟩

theorem over : Rows.frameApartRow.holds Tryd.pinned (OpenSpec.ofChange Rows.frameApartSpec) :=
  OpenClaim.holds_of_wide 4 Tryd.f4 rfl rfl rfl rfl rfl rfl rfl ⟨rfl, rfl, rfl, rfl, rfl⟩ rfl rfl rfl rfl rfl (by kernel_rfl) Tryd.func4 (by kernel_rfl)
    (of_decide_eq_true (by kernel_rfl)) (by unfold Func.isWrapper; first | (rw [if_pos (by decide +kernel)]; kernel_rfl) | (rw [if_neg (by decide +kernel)]; exact ⟨rfl, rfl⟩))
    (fun os started H enc _ => lifted os started H enc)

theorem proved : Rows.FrameApartCardSaid :=
  Claim7.holds_tied_plain_at .later [] [.data, .data] true (true, "51c279c40e358a57a48e817c9216460bd2b89171b475ad31556b204e1d748b7d") false
    over (fun _ h => by cases h) (by kernel_rfl) (fun _ h => by cases h) frameApart_row_tie rfl ⟨rfl, rfl⟩ (by kernel_rfl) rfl
    (fun f fn hf hfn => by
      obtain rfl : f = 4 := Option.some.inj ((show Tryd.prog.funcNamed "spillway/spillwaykeep.FrameApart" = some 4 by kernel_rfl).symm.trans hf) |>.symm
      obtain rfl : fn = Tryd.f4 := (Option.some.inj (Tryd.func4.symm.trans hfn)).symm
      exact ⟨by kernel_rfl, fun j t ht => by
        rw [Tryd.params4] at ht
        have hm : t ∈ [27, 27] := by simpa using Array.mem_of_getElem? ht
        have hall : ([27, 27].all fun u => !Tryd.prog.wantsStandIn u) = true := by kernel_rfl
        exact (show Tryd.prog.wantsStandIn t = false by simpa using List.all_eq_true.1 hall t hm)⟩)
    (by kernel_rfl)
#print axioms proved
end Go.Proofs.YtjeocggocloigabDoor.frameApart
