/- The walk of FieldsKnown. -/
import Derived.Test.YtlddbojfikkhfaaFdTells
import Derived.Test.YtlddbojfikkhfaaTabOf
import Derived.Test.YtlddbojfikkhfaaGrpX
import Derived.Test.YtlddbojfikkhfaaGrpD
namespace Go.Proofs.Ytlddbojfikkhfaa.P
set_option linter.unusedVariables false
open Go.RowKit
theorem linesR_wf {t : Tb} (hw : TbWf t) (need : Int) : ∀ (n : Nat) (b : List Int) (out : List Fld), (∀ x ∈ out, FdWf x) → Byt b → b.length ≤ 140737488355328 → ∀ x ∈ (linesR t need n b out).1, FdWf x
  | 0, b, out, h, hb, hl => by
    unfold linesR
    split
    · exact h
    · intro x hx; cases hx
  | n + 1, b, out, h, hb, hl => by
    unfold linesR
    split
    · exact h
    · split
      · intro x hx; cases hx
      · split
        · intro x hx; cases hx
        · refine linesR_wf hw need n _ _ (fun x hx => ?_) (hb.drop _) (by rw [List.length_drop]; omega)
          rcases List.mem_append.1 hx with q | q
          · exact h x q
          · rw [List.mem_singleton.1 q]; exact lineR_wf hw need hb hl
theorem decFl_facts {t : Tb} {b : List Int} (hw : TbWf t) (hb : Byt b) (hl : b.length ≤ 140737488355328) : (∀ x ∈ (decFl t b).1, FdWf x) ∧ ((decFl t b).2 = 0 → faultFl (decFl t b).1 = 0) ∧ ((decFl t b).2 ≠ 0 → (decFl t b).1 = []) := by
  have hnil : ∀ x ∈ ([] : List Fld), FdWf x := fun x hx => by cases hx
  unfold decFl
  split
  · rename_i c; exact ⟨hnil, fun h => absurd h c, fun _ => rfl⟩
  · split
    · rename_i c; exact ⟨hnil, fun h => absurd h c, fun _ => rfl⟩
    · split
      · exact ⟨hnil, fun h => absurd h (by decide), fun _ => rfl⟩
      · split
        · rename_i c; exact ⟨hnil, fun h => absurd h c, fun _ => rfl⟩
        · split
          · rename_i c; exact ⟨hnil, fun h => absurd h c, fun _ => rfl⟩
          · rename_i c1 c2
            exact ⟨linesR_wf hw _ 9 _ _ hnil (hb.drop _) (by rw [List.length_drop]; omega), fun _ => Decidable.byContradiction c2, fun h => absurd h c1⟩
theorem enc_known (j : Nat) (h : j < 11) : (encFl ⟨100, 0, []⟩ [knL.getD j fd0] true).2.1 = [] ∧ (encFl ⟨100, 0, []⟩ [knL.getD j fd0] true).2.2.1.length = 2 ∧ (encFl ⟨100, 0, []⟩ [knL.getD j fd0] true).2.2.2 = 0 := by
  have key : j = 0 ∨ j = 1 ∨ j = 2 ∨ j = 3 ∨ j = 4 ∨ j = 5 ∨ j = 6 ∨ j = 7 ∨ j = 8 ∨ j = 9 ∨ j = 10 := by omega
  rcases key with rfl | rfl | rfl | rfl | rfl | rfl | rfl | rfl | rfl | rfl | rfl
  all_goals
    refine ⟨?_, ?_, ?_⟩
    all_goals kernel_rfl
end Go.Proofs.Ytlddbojfikkhfaa.P
namespace Go.Proofs.Ytlddbojfikkhfaa
set_option linter.unusedVariables false
open Go.RowKit P

theorem rawRow_onK {w w' : World} {A : Option Addr} {rs : List RawT} (h : RawRow w w.heap.size A rs) (hb : Below w.heap.size w w') : RawRow w' w'.heap.size A rs := fun hn => by
  obtain ⟨b, off, e, h1, h2⟩ := h.below hb hn
  exact ⟨b, off, e, Nat.lt_of_lt_of_le h1 hb.size, h2⟩
set_option maxRecDepth 100000 in
set_option maxHeartbeats 4000000 in
theorem fieldsKnown_walk (a0 : Int) (a1 : Option Addr) (len1 cap1 : Nat) (zs : List Int) (a2 : Int) (a3 : Option Addr) (n c : Nat) (rs : List RawT) (W : World) (hb1 : InRow W a1 len1 cap1 zs) (hl1 : cap1 ≤ 140737488351232) (hrow : RawRow W W.heap.size a3 rs) (hn : rs.length = n) (hnc : n ≤ c) (hc : c ≤ maxLen) (hbt : ∀ i, i < n → (rs.getD i raw0).text.size ≤ maxLen) :
    Calls Try.prog 9 #[.int .i64 a0, .slice a1 len1 cap1, .int .i64 a2, .slice a3 n c] W fun e w' => e = .returned (.bool true) ∧ Below W.heap.size W w' := by
  have HTO := Lib.hid (fun w (hb : Below W.heap.size W w) => tableOf_any tinsN_any tsize_any a2 a3 n c rs w (rawRow_onK hrow hb) hn hnc hc hbt)
  have HKN := Lib.hid (fun w => known_any w)
  have HFT := Lib.hid (fun w => fieldsTell_any w)
  obtain ⟨hbr, hzl, hlc, hcm⟩ := hb1.brow
  have hbs : BSl W W.heap.size (.slice a1 len1 cap1) (zs.take len1) := by
    refine ⟨a1, cap1, by rw [hzl], by omega, hcm, ?_, hbr⟩
    rintro rfl
    rcases hb1 with ⟨_, _, h, _⟩ | ⟨x, e, _⟩
    · exact h
    · cases e
  have HBY := Lib.hid hbr.1
  have HBL := Lib.hid (show (zs.take len1).length ≤ 140737488355328 by omega)
  have HD := Lib.hid (fun v t w (hb : Below W.heap.size W w) (hv : TbVal w w.heap.size v t) (hw : TbWf t) => fddec_any v _ t _ w hv hw (bsl_onF hbs hb) (by omega))
  obtain ⟨bs, hbs'⟩ : ∃ b, zs.take len1 = b := ⟨_, rfl⟩
  rw [hbs'] at HBY HBL HD
  obtain ⟨room, hroom⟩ : ∃ room, 40 + a2 % 121 = room := ⟨_, rfl⟩
  have hrb : 0 ≤ room ∧ room ≤ 160 := by omega
  rw [hroom] at HTO
  obtain ⟨j, hj⟩ : ∃ k : Nat, a0 % 11 = k := ⟨(a0 % 11).toNat, by have := Int.emod_nonneg a0 (show (11 : Int) ≠ 0 by omega); omega⟩
  have hj11 : j < 11 := by have := Int.emod_lt_of_pos a0 (show (0 : Int) < 11 by omega); omega
  have HPK := Lib.hid (fun w => hj ▸ picked_any a0 11 (by omega) (by omega) w)
  have hjI : (j : Int) < 11 := by omega
  have hjI0 : (0 : Int) ≤ (j : Int) := by omega
  have hmem : knL.getD j fd0 ∈ knL := by rw [List.getD_eq_getElem?_getD, List.getElem?_eq_getElem (show j < knL.length from hj11)]; exact List.getElem_mem (show j < knL.length from hj11)
  have HEN := Lib.hid (enc_known j hj11)
  have HE := Lib.hid (fun (b : Nat) w (h : RowE FdE w w.heap.size (some ⟨b, 0, none⟩) [knL.getD j fd0]) => fdenc_any (.agg #[.int .i64 100, .int .i64 0, .slice none 0 0]) ⟨100, 0, []⟩ (some ⟨b, 0, none⟩) 1 1 [knL.getD j fd0] true w ⟨_, rfl, FSl.nil _ _⟩ ⟨by decide, by decide, by decide, fun x hx => by cases hx⟩ h rfl (fun x hx => by rw [List.mem_singleton.1 hx]; exact knL_wf _ hmem) (by decide))
  have HFX0 := Lib.hid (show FdE.f (knL.getD j fd0) = [.string (strOfNums (knL.getD j fd0).name), .string (strOfNums (knL.getD j fd0).val)] from rfl)
  clear hbr hzl hlc hcm hbs hbs' hroom hj hb1 hl1 hrow hn hnc hc hbt
  go_enter Try.func9, Try.ntmps9
  go_wp2_with fail
  refine (HKN.out _).mono ?_
  rintro e w1 ⟨b1, A1, rfl, h1⟩
  obtain ⟨_, _, e1, _, _, R1⟩ := h1.slice
  cases e1
  obtain ⟨kb, off, rfl, hkb, x0, x1⟩ := fd_cells R1 (i := j) hj11
  obtain ⟨f, hf⟩ : ∃ f, knL.getD j fd0 = f := ⟨_, rfl⟩
  rw [hf] at x0 x1 HEN HE HFX0
  obtain ⟨S1, hS1⟩ : ∃ S, strOfNums f.name = S := ⟨_, rfl⟩
  obtain ⟨S2, hS2⟩ : ∃ S, strOfNums f.val = S := ⟨_, rfl⟩
  rw [hS1, hS2] at HFX0
  rw [hS1] at x0
  rw [hS2] at x1
  obtain ⟨r, hr⟩ : ∃ r, encFl ⟨100, 0, []⟩ [f] true = r := ⟨_, rfl⟩
  rw [hr] at HE HEN
  obtain ⟨T, TL, SC, x⟩ := r
  dsimp only at HE HEN
  obtain ⟨rfl, hsc, rfl⟩ := HEN.out
  have HSC := Lib.hid hsc
  have B1 := Lib.hid b1
  clear b1 h1 R1 hf hS1 hS2 hr hsc HEN hmem
  go_upto_region 5 with (go_at_call 26; refine (HPK.out _).mono ?_; rintro e w' ⟨rfl, rfl⟩)
  obtain ⟨w2, hw2⟩ : ∃ x, w1.alloc (.cells #[.string S1, .string S2] 57) = x := ⟨_, rfl⟩
  have F2 := Lib.hid (hw2 ▸ heap_alloc_new w1 (.cells #[.string S1, .string S2] 57))
  have B2 := Lib.hid (hw2 ▸ B1.out.alloc B1.out.size (.cells #[.string S1, .string S2] 57))
  rw [hw2]
  clear hw2 x0 x1
  obtain ⟨y0, y1⟩ := bk2F F2.out
  have R3 := Lib.hid ((RowE.one (E := FdE) w2 f #[.string S1, .string S2] 57 w2.heap.size rfl HFX0.out.symm).more (show w2.heap.size + 1 ≤ (w2.alloc (.cells #[.string S1, .string S2] 57)).heap.size by simp))
  have B3 := Lib.hid (B2.out.alloc B2.out.size (.cells #[.string S1, .string S2] 57))
  go_wp2_with fail
  refine (HE.out _ _ R3.out).mono ?_
  clear y0 y1
  rintro e w4 ⟨b4, v4, d1, d2, rfl, hv4, hd1, hd2⟩
  obtain ⟨A4, n4, c4, r4, p4, rfl, hv4⟩ := tb_partsR hv4
  obtain ⟨Ad, cd, rfl, _, _, _, _⟩ := id hd1
  obtain ⟨Ae, ce, rfl, _, _, _, _⟩ := id hd2
  rw [HSC.out]
  have X4 := Lib.hid ((Below.refl w4.heap.size w4).alloc (Nat.le_refl _) (.cells #[.int .i64 r4, .int .i64 p4, .slice A4 n4 c4] 24))
  have bb := b4.trans (X4.out.mono b4.size)
  have B4 := Lib.hid (B3.out.trans (bb.mono B3.out.size))
  clear b4 bb hv4 hd1 hd2
  go_wp2_with fail
  refine (HTO.out _ B4.out).mono ?_
  rintro e w5 ⟨all, At, Aa, ct, ca, hall, rfl, h1, h2, h3, h4, r1, r2, b5⟩
  have f1 : all.length ≤ 12 := by
    have := putL_len (room := room) (fldsOf rs)
    rw [fldsOf_len] at this
    rw [hall]
    omega
  have HTW := Lib.hid (tabWf hrb (by omega) (fun x hx => (putL_mem (p := fun x => okFd x ∧ FdWf x) (fldsOf rs) (fldsOf_ok rs) x (hall ▸ hx)).2) : TbWf (tabF room all))
  have hv5 : TbVal w5 w5.heap.size (.agg #[.int .i64 room, .int .i64 (all.length : Int), .slice At (young room all).length ct]) (tabF room all) := ⟨_, rfl, At, ct, rfl, h1, h2, r1⟩
  obtain ⟨L, hL⟩ : ∃ L, all.length = L := ⟨_, rfl⟩
  obtain ⟨M, hM⟩ : ∃ M, (young room all).length = M := ⟨_, rfl⟩
  rw [hL, hM] at hv5
  rw [hL, hM]
  have X5 := Lib.hid ((Below.refl w5.heap.size w5).alloc (Nat.le_refl _) (.cells #[.int .i64 room, .int .i64 (L : Int), .slice At M ct] 24))
  have F5 := Lib.hid (heap_alloc_new w5 (.cells #[.int .i64 room, .int .i64 (L : Int), .slice At M ct] 24))
  have bb := b5.trans (X5.out.mono b5.size)
  have B5 := Lib.hid (B4.out.trans (bb.mono B4.out.size))
  have V5 := Lib.hid (hv5.on X5.out)
  obtain ⟨q0, q1, q2⟩ := bk3T F5.out
  clear b5 bb hall h1 h2 h3 h4 r1 r2 f1 hv5 hL hM
  have HDF := Lib.hid (decFl_facts HTW.out HBY.out HBL.out)
  have HDL := Lib.hid (decFl_len (tabF room all) bs)
  have HDD := Lib.hid (fun w hb hv => HD.out (.agg #[.int .i64 room, .int .i64 (L : Int), .slice At M ct]) (tabF room all) w hb hv HTW.out)
  unfold FlRes at HDD
  obtain ⟨⟨got, g⟩, hg⟩ : ∃ r, decFl (tabF room all) bs = r := ⟨_, rfl⟩
  rw [hg] at HDF HDL HDD
  dsimp only at HDF HDL HDD
  clear hg HD
  go_wp2_with fail
  refine (HDD.out _ B5.out V5.out).mono ?_
  clear q0 q1 q2
  rintro e w6 ⟨b6, v6, rfl, h6⟩
  obtain ⟨A6, c6, rfl, _, _, R6⟩ := h6.ex
  have R6 := Lib.hid R6
  have B6 := Lib.hid (B5.out.trans (b6.mono B5.out.size))
  clear b6 h6
  go_wp2_with fail
  refine (HFT.out _).mono ?_
  rintro e w7 ⟨rfl, b7⟩
  have R7 := Lib.hid (R6.out.on b7)
  have B7 := Lib.hid (B6.out.trans (b7.mono B6.out.size))
  clear b7
  by_cases hg0 : g = 0
  · subst hg0
    have HCK := Lib.hid (fdchk_any A6 got.length c6 got w7 R7.out rfl HDF.out.1 (by have := HDL.out; omega))
    rw [HDF.out.2.1 rfl] at HCK
    go_wp2_with fail
    refine (HCK.out).mono ?_
    rintro e w8 ⟨rfl, b8⟩
    have B8 := Lib.hid (B7.out.trans (b8.mono B7.out.size))
    clear b8
    go_wp2_with fail
    go_ret
    exact ⟨by first | rfl | simp, B8.out⟩
  · obtain rfl := HDF.out.2.2 hg0
    have hgn : (g == 0) = false := by simp [hg0]
    have hgn2 : (g != 0) = true := by simp [hg0]
    clear hg0
    go_wp2_with fail
    go_ret
    exact ⟨by first | rfl | simp, B7.out⟩
end Go.Proofs.Ytlddbojfikkhfaa
