/- Several texts in one. -/
import Derived.Test.YtlddbojfikkhfaaFdP2
import Derived.Test.YtlddbojfikkhfaaGrpX
import Derived.Test.YtlddbojfikkhfaaGrpG
import Derived.Test.YtlddbojfikkhfaaTabSame
import Derived.Laws.StructEq
/- The project's fields: change. -/
namespace Go.Proofs.Ytlddbojfikkhfaa.P
set_option linter.unusedVariables false
open Go.RowKit
/-- what the project's change says -/
def chgR (t : Tb) (b : List Int) : Tb × Int × Int :=
  if 64 ≤ b.getD 0 0 ∧ b.getD 0 0 < 96 then (if (pairR b 5).2.2 ≠ 0 then (tb0, 0, (pairR b 5).2.2) else ((insT t (pairR b 5).1).1, (pairR b 5).2.1, (insT t (pairR b 5).1).2))
  else if 32 ≤ b.getD 0 0 ∧ b.getD 0 0 < 64 then (if (pxR b 5).2.2 ≠ 0 then (tb0, 0, (pxR b 5).2.2) else ((resT t (pxR b 5).1).1, (pxR b 5).2.1, (resT t (pxR b 5).1).2))
  else (tb0, 0, 2)
theorem chgR_app (t : Tb) (b : List Int) : (chgR t b).2.2 = (appR t b).2.2 ∧ ((appR t b).2.2 = 0 → chgR t b = appR t b) := by
  unfold chgR appR
  by_cases c1 : 32 ≤ b.getD 0 0 ∧ b.getD 0 0 < 64
  · rw [if_neg (by omega), if_pos c1, if_pos c1]
    by_cases x : (pxR b 5).2.2 ≠ 0
    · rw [if_pos x, if_pos x]; exact ⟨rfl, fun k => absurd k x⟩
    · rw [if_neg x, if_neg x]; exact ⟨rfl, fun _ => rfl⟩
  · rw [if_neg c1, if_neg c1]
    by_cases c2 : 64 ≤ b.getD 0 0 ∧ b.getD 0 0 < 96
    · rw [if_pos c2, if_pos c2]
      unfold pairR
      by_cases x : (pxTR b 5).2.2 ≠ 0
      · rw [if_pos x, if_pos x, if_pos x]; exact ⟨rfl, fun k => absurd k x⟩
      · rw [if_neg x, if_neg x]
        by_cases z : (pxTR (b.drop (pxTR b 5).2.1.toNat) 7).2.2 ≠ 0
        · rw [if_pos z, if_pos z, if_pos z]; exact ⟨rfl, fun k => absurd k z⟩
        · rw [if_neg z, if_neg z, if_neg (fun k => k rfl)]; exact ⟨rfl, fun _ => rfl⟩
    · rw [if_neg c2, if_neg c2]; exact ⟨rfl, fun k => by cases k⟩
theorem pairR_wf {b : List Int} (wi : Int) (hb : Byt b) (hl : b.length ≤ 140737488355328) (h : (pairR b wi).2.2 = 0) : FdWf (pairR b wi).1 := by
  unfold pairR at h ⊢
  by_cases x : (pxTR b wi).2.2 ≠ 0
  · rw [if_pos x] at h; exact absurd h x
  · rw [if_neg x] at h ⊢
    by_cases z : (pxTR (b.drop (pxTR b wi).2.1.toNat) 7).2.2 ≠ 0
    · rw [if_pos z] at h; exact absurd h z
    · rw [if_neg z]
      have h1 := pxTR_wf wi hb
      have h2 := pxTR_wf 7 (hb.drop (pxTR b wi).2.1.toNat)
      rw [List.length_drop] at h2
      exact ⟨h1.1, h2.1, Nat.le_trans h1.2 hl, by simp only; omega⟩
end Go.Proofs.Ytlddbojfikkhfaa.P
namespace Go.Proofs.Ytlddbojfikkhfaa
set_option linter.unusedVariables false
open Go.RowKit P

set_option maxRecDepth 100000 in
set_option maxHeartbeats 1000000 in
theorem change_any (v : Value) (t : Tb) (s : Value) (b : List Int) (W : World) (hv : TbVal W W.heap.size v t) (hw : TbWf t) (hs : BSl W W.heap.size s b) (hl : b.length ≤ 140737488355328) (h0 : 0 < b.length) :
    Calls Try.prog 47 #[v, s] W (TbRes3 (chgR t b) W) := by
  obtain ⟨At, cp, rfl⟩ := tb_slicesR hv
  have HTR := Lib.hid (fun n w (hb : Below W.heap.size W w) (hv : TbVal w w.heap.size (.agg #[.int .i64 t.room, .int .i64 t.put, .slice At t.rows.length cp]) t) => tres_any _ t n w hv hw)
  have HTI := Lib.hid (fun f hf w (hb : Below W.heap.size W w) (hv : TbVal w w.heap.size (.agg #[.int .i64 t.room, .int .i64 t.put, .slice At t.rows.length cp]) t) => tins_any _ t f w hv hw hf)
  have HPX := Lib.hid (fun w' (hb : Below W.heap.size W w') => pxDec_any s b 5 w' (bsl_onF hs hb) hl (by decide) (by decide))
  have HPR := Lib.hid (fun w' (hb : Below W.heap.size W w') => readPair_any s b 5 w' (bsl_onF hs hb) hl (by decide) (by decide))
  obtain ⟨A0, c0, rfl, hc0, hm0, hn0, hr0⟩ := hs.ex
  have HBY := Lib.hid hr0.1
  have HBL := Lib.hid hl
  have hc := hr0.1 0
  obtain ⟨gb, off, rfl, hg, hcell⟩ := hr0.2 h0
  have hce := hcell 0 h0
  rw [Nat.add_zero] at hce
  have HCE := Lib.hid (fun w' (hb : Below W.heap.size W w') => (hb.cell (p := ⟨gb, off, none⟩) hg).trans hce)
  obtain ⟨c, hcc⟩ : ∃ c, b.getD 0 0 = c := ⟨_, rfl⟩
  have HCC := Lib.hid hcc
  rw [hcc] at hc HCE
  replace hc : 0 ≤ c ∧ c < 256 := by omega
  obtain ⟨M, hM⟩ : ∃ M, b.length = M := ⟨_, rfl⟩
  rw [hM] at HPX HPR h0 hl hc0 HBL ⊢
  have h0I : (0 : Int) < (M : Int) := by omega
  obtain ⟨g1, g2, g3⟩ := two_bk W #[.int .i64 t.room, .int .i64 t.put, .slice At t.rows.length cp] #[.int .i64 0, .int .i64 0, .slice none 0 0] 24 24
  have Z0 := Lib.hid g1
  have Y0 := Lib.hid g2
  have B0 := Lib.hid g3
  have HV0 := Lib.hid (hv.on g3)
  have HCL := Lib.hid hM
  unfold TbRes3
  rw [← hM] at HBL
  clear hce hcell hr0 hs hv hw hcc hM hn0 hg g1 g2 g3 hm0 hc0 hl
  by_cases c1 : 64 ≤ c ∧ c < 96
  · have HR := Lib.hid (show chgR t b = if (pairR b 5).2.2 ≠ 0 then (tb0, 0, (pairR b 5).2.2) else ((insT t (pairR b 5).1).1, (pairR b 5).2.1, (insT t (pairR b 5).1).2) by unfold chgR; rw [HCC.out, if_pos c1])
    rw [HR.out]
    have HP := Lib.hid HPR.out
    have HWF := Lib.hid (fun h => pairR_wf (b := b) 5 HBY.out HBL.out h)
    obtain ⟨⟨f, u, x⟩, hr⟩ : ∃ r, pairR b 5 = r := ⟨_, rfl⟩
    rw [hr] at HP HWF ⊢
    unfold fdRV fdV at HP
    dsimp only at HP HWF ⊢
    obtain ⟨R1, hR1⟩ : ∃ S, strOfNums f.name = S := ⟨_, rfl⟩
    obtain ⟨R2, hR2⟩ : ∃ S, strOfNums f.val = S := ⟨_, rfl⟩
    rw [hR1, hR2] at HP
    have HB0 := Lib.hid (show ∀ w, Calls Try.prog 67 #[.int .u8 c, .int .u8 64, .int .i64 5] w fun e w' => e = .returned (.bool true) ∧ Below w.heap.size w w' from fun w => by have := begins_any c 64 5 32 hc (by decide) w; rwa [show decide (((64) : Int) ≤ c ∧ c < 64 + 32) = true by simp; omega] at this)
    clear hr HR HPR HPX HTR hc
    by_cases hx : x = 0
    · subst hx
      rw [if_neg (fun k => k rfl)]
      have HT0 := Lib.hid (HTI.out f (HWF.out rfl))
      unfold fdV at HT0
      rw [hR1, hR2] at HT0
      clear hR1 hR2 HTI HWF
      obtain ⟨⟨T, z⟩, hT⟩ : ∃ r, insT t f = r := ⟨_, rfl⟩
      rw [hT] at HT0 ⊢
      unfold TbRes at HT0
      dsimp only at HT0 ⊢
      clear hT
      obtain ⟨room, put, rows⟩ := t
      dsimp only at Z0 Y0 HV0 B0 HT0 ⊢
      obtain ⟨N, hN⟩ : ∃ n, rows.length = n := ⟨_, rfl⟩
      rw [hN] at Z0 Y0 HV0 B0 HT0 ⊢
      obtain ⟨z0, z1, z2⟩ := bk3T Z0.out
      have zf := fun j => bk_frz Z0.out j
      obtain ⟨y0, y1, y2⟩ := bk3T Y0.out
      have yf := fun j => bk_frz Y0.out j
      have hce := HCE.out _ B0.out
      go_enter Try.func47, Try.ntmps47
      go_wp2_with fail
      refine (HB0.out _).mono ?_
      clear z0 z1 z2 y0 y1 y2 zf yf hce
      rintro e w1 ⟨rfl, b1⟩
      have B1 := Lib.hid (B0.out.trans (b1.mono B0.out.size))
      have Z1 := Lib.hid ((b1.block _ (lt_of_block Z0.out)).trans Z0.out)
      have Y1 := Lib.hid ((b1.block _ (lt_of_block Y0.out)).trans Y0.out)
      have HV1 := Lib.hid (HV0.out.on b1)
      clear b1
      obtain ⟨z0, z1, z2⟩ := bk3T Z1.out
      have zf := fun j => bk_frz Z1.out j
      obtain ⟨y0, y1, y2⟩ := bk3T Y1.out
      have yf := fun j => bk_frz Y1.out j
      have hce := HCE.out _ B1.out
      go_wp2_with fail
      refine (HP.out _ B1.out).mono ?_
      clear z0 z1 z2 y0 y1 y2 zf yf hce
      rintro e w2 ⟨rfl, b2⟩
      have B2 := Lib.hid (B1.out.trans (b2.mono B1.out.size))
      have Z2 := Lib.hid ((b2.block _ (lt_of_block Z1.out)).trans Z1.out)
      have Y2 := Lib.hid ((b2.block _ (lt_of_block Y1.out)).trans Y1.out)
      have HV2 := Lib.hid (HV1.out.on b2)
      clear b2
      have B3 := Lib.hid (B2.out.alloc B2.out.size (.cells #[.string R1, .string R2] 57))
      have Z3 := Lib.hid ((Below.heap_alloc w2 (.cells #[.string R1, .string R2] 57) _ (lt_of_block Z2.out)).trans Z2.out)
      have Y3 := Lib.hid ((Below.heap_alloc w2 (.cells #[.string R1, .string R2] 57) _ (lt_of_block Y2.out)).trans Y2.out)
      have HV3 := Lib.hid (HV2.out.on ((Below.refl w2.heap.size w2).alloc (Nat.le_refl _) (.cells #[.string R1, .string R2] 57)))
      obtain ⟨z0, z1, z2⟩ := bk3T Z3.out
      have zf := fun j => bk_frz Z3.out j
      obtain ⟨y0, y1, y2⟩ := bk3T Y3.out
      have yf := fun j => bk_frz Y3.out j
      have hce := HCE.out _ B3.out
      go_wp2_with fail
      refine (HT0.out _ B3.out HV3.out).mono ?_
      clear z0 z1 z2 y0 y1 y2 zf yf hce
      rintro e w4 ⟨b4, v', rfl, hv'⟩
      have B4 := Lib.hid (B3.out.trans (b4.mono B3.out.size))
      have Z4 := Lib.hid ((b4.block _ (lt_of_block Z3.out)).trans Z3.out)
      have Y4 := Lib.hid ((b4.block _ (lt_of_block Y3.out)).trans Y3.out)
      clear b4 HV3
      obtain ⟨A', N', c', room', put', rfl, hv'⟩ := tb_partsR hv'
      have HV4 := Lib.hid hv'
      clear hv'
      obtain ⟨z0, z1, z2⟩ := bk3T Z4.out
      have zf := fun j => bk_frz Z4.out j
      obtain ⟨y0, y1, y2⟩ := bk3T Y4.out
      have yf := fun j => bk_frz Y4.out j
      have hce := HCE.out _ B4.out
      go_upto_region 6 with fail
      obtain ⟨YY, gy⟩ := bk3_blk Z4.out (.int .i64 room') (.int .i64 put') (.slice A' N' c')
      obtain ⟨w5, hw5⟩ : ∃ w9, ((w4.setCell ⟨W.heap.size, 0, none⟩ (.int .i64 room')).setCell ⟨W.heap.size, 1, none⟩ (.int .i64 put')).setCell ⟨W.heap.size, 2, none⟩ (.slice A' N' c') = w9 := ⟨_, rfl⟩
      rw [hw5] at YY gy ⊢
      have Z5 := Lib.hid YY
      have Y5 := Lib.hid ((gy.block _ (lt_of_block Y4.out) (by simp <;> omega)).trans Y4.out)
      have B5 := Lib.hid (gr_from B4.out B4.out.size (Nat.le_refl _) gy)
      have HV5 := Lib.hid ((HV4.out.gr Z4.out gy).more gy.size)
      clear hw5 gy YY HV4
      clear z0 z1 z2 y0 y1 y2 zf yf hce
      obtain ⟨z0, z1, z2⟩ := bk3T Z5.out
      have zf := fun j => bk_frz Z5.out j
      obtain ⟨y0, y1, y2⟩ := bk3T Y5.out
      have yf := fun j => bk_frz Y5.out j
      have hce := HCE.out _ B5.out
      go_wp2_with fail
      obtain ⟨k1, gp⟩ := bk3_blk Y5.out (.int .i64 room') (.int .i64 put') (.slice A' N' c')
      obtain ⟨r0, r1, r2⟩ := bk3T k1
      refine bodyPost_ret (by simp [results, Try.results47, go_sem, r0, r1, r2]; try rfl) rfl ?_
      exact ⟨gr_from B5.out B5.out.size (Nat.le_succ _) gp, _, rfl, (HV5.out.gr Y5.out gp).more gp.size⟩
    · rw [if_pos hx]
      have g : (x != 0) = true := by simp [hx]
      clear hR1 hR2 HTI HWF hx
      obtain ⟨room, put, rows⟩ := t
      dsimp only at Z0 Y0 HV0 B0  ⊢
      obtain ⟨N, hN⟩ : ∃ n, rows.length = n := ⟨_, rfl⟩
      rw [hN] at Z0 Y0 HV0 B0  ⊢
      obtain ⟨z0, z1, z2⟩ := bk3T Z0.out
      have zf := fun j => bk_frz Z0.out j
      obtain ⟨y0, y1, y2⟩ := bk3T Y0.out
      have yf := fun j => bk_frz Y0.out j
      have hce := HCE.out _ B0.out
      go_enter Try.func47, Try.ntmps47
      go_wp2_with fail
      refine (HB0.out _).mono ?_
      clear z0 z1 z2 y0 y1 y2 zf yf hce
      rintro e w1 ⟨rfl, b1⟩
      have B1 := Lib.hid (B0.out.trans (b1.mono B0.out.size))
      have Z1 := Lib.hid ((b1.block _ (lt_of_block Z0.out)).trans Z0.out)
      have Y1 := Lib.hid ((b1.block _ (lt_of_block Y0.out)).trans Y0.out)
      have HV1 := Lib.hid (HV0.out.on b1)
      clear b1
      obtain ⟨z0, z1, z2⟩ := bk3T Z1.out
      have zf := fun j => bk_frz Z1.out j
      obtain ⟨y0, y1, y2⟩ := bk3T Y1.out
      have yf := fun j => bk_frz Y1.out j
      have hce := HCE.out _ B1.out
      go_wp2_with fail
      refine (HP.out _ B1.out).mono ?_
      clear z0 z1 z2 y0 y1 y2 zf yf hce
      rintro e w2 ⟨rfl, b2⟩
      have B2 := Lib.hid (B1.out.trans (b2.mono B1.out.size))
      have Z2 := Lib.hid ((b2.block _ (lt_of_block Z1.out)).trans Z1.out)
      have Y2 := Lib.hid ((b2.block _ (lt_of_block Y1.out)).trans Y1.out)
      have HV2 := Lib.hid (HV1.out.on b2)
      clear b2
      have B3 := Lib.hid (B2.out.alloc B2.out.size (.cells #[.string R1, .string R2] 57))
      have Z3 := Lib.hid ((Below.heap_alloc w2 (.cells #[.string R1, .string R2] 57) _ (lt_of_block Z2.out)).trans Z2.out)
      have Y3 := Lib.hid ((Below.heap_alloc w2 (.cells #[.string R1, .string R2] 57) _ (lt_of_block Y2.out)).trans Y2.out)
      obtain ⟨z0, z1, z2⟩ := bk3T Z3.out
      have zf := fun j => bk_frz Z3.out j
      obtain ⟨y0, y1, y2⟩ := bk3T Y3.out
      have yf := fun j => bk_frz Y3.out j
      have hce := HCE.out _ B3.out
      go_wp2_with fail
      obtain ⟨k1, gp⟩ := bk3_blk Y3.out (.int .i64 0) (.int .i64 0) (.slice none 0 0)
      obtain ⟨r0, r1, r2⟩ := bk3T k1
      refine bodyPost_ret (by simp [results, Try.results47, go_sem, r0, r1, r2]; try rfl) rfl ?_
      exact ⟨gr_from B3.out B3.out.size (Nat.le_succ _) gp, _, rfl, TbVal.zero _ _⟩
  · by_cases c2 : 32 ≤ c ∧ c < 64
    · have HR := Lib.hid (show chgR t b = if (pxR b 5).2.2 ≠ 0 then (tb0, 0, (pxR b 5).2.2) else ((resT t (pxR b 5).1).1, (pxR b 5).2.1, (resT t (pxR b 5).1).2) by unfold chgR; rw [HCC.out, if_neg c1, if_pos c2])
      rw [HR.out]
      have HP := Lib.hid HPX.out
      obtain ⟨⟨n, u, x⟩, hr⟩ : ∃ r, pxR b 5 = r := ⟨_, rfl⟩
      rw [hr] at HP ⊢
      unfold pxRV at HP
      dsimp only at HP ⊢
      have HB0 := Lib.hid (show ∀ w, Calls Try.prog 67 #[.int .u8 c, .int .u8 64, .int .i64 5] w fun e w' => e = .returned (.bool false) ∧ Below w.heap.size w w' from fun w => by have := begins_any c 64 5 32 hc (by decide) w; rwa [show decide (((64) : Int) ≤ c ∧ c < 64 + 32) = false by simp; omega] at this)
      have HB1 := Lib.hid (show ∀ w, Calls Try.prog 67 #[.int .u8 c, .int .u8 32, .int .i64 5] w fun e w' => e = .returned (.bool true) ∧ Below w.heap.size w w' from fun w => by have := begins_any c 32 5 32 hc (by decide) w; rwa [show decide (((32) : Int) ≤ c ∧ c < 32 + 32) = true by simp; omega] at this)
      clear hr HR HPR HPX HTI hc
      by_cases hx : x = 0
      · subst hx
        rw [if_neg (fun k => k rfl)]
        have HT0 := Lib.hid (HTR.out n)
        clear HTR
        obtain ⟨⟨T, z⟩, hT⟩ : ∃ r, resT t n = r := ⟨_, rfl⟩
        rw [hT] at HT0 ⊢
        unfold TbRes at HT0
        dsimp only at HT0 ⊢
        clear hT
        obtain ⟨room, put, rows⟩ := t
        dsimp only at Z0 Y0 HV0 B0 HT0 ⊢
        obtain ⟨N, hN⟩ : ∃ n, rows.length = n := ⟨_, rfl⟩
        rw [hN] at Z0 Y0 HV0 B0 HT0 ⊢
        obtain ⟨z0, z1, z2⟩ := bk3T Z0.out
        have zf := fun j => bk_frz Z0.out j
        obtain ⟨y0, y1, y2⟩ := bk3T Y0.out
        have yf := fun j => bk_frz Y0.out j
        have hce := HCE.out _ B0.out
        go_enter Try.func47, Try.ntmps47
        go_wp2_with fail
        refine (HB0.out _).mono ?_
        clear z0 z1 z2 y0 y1 y2 zf yf hce
        rintro e w1 ⟨rfl, b1⟩
        have B1 := Lib.hid (B0.out.trans (b1.mono B0.out.size))
        have Z1 := Lib.hid ((b1.block _ (lt_of_block Z0.out)).trans Z0.out)
        have Y1 := Lib.hid ((b1.block _ (lt_of_block Y0.out)).trans Y0.out)
        have HV1 := Lib.hid (HV0.out.on b1)
        clear b1
        obtain ⟨z0, z1, z2⟩ := bk3T Z1.out
        have zf := fun j => bk_frz Z1.out j
        obtain ⟨y0, y1, y2⟩ := bk3T Y1.out
        have yf := fun j => bk_frz Y1.out j
        have hce := HCE.out _ B1.out
        go_wp2_with fail
        refine (HB1.out _).mono ?_
        clear z0 z1 z2 y0 y1 y2 zf yf hce
        rintro e w2 ⟨rfl, b2⟩
        have B2 := Lib.hid (B1.out.trans (b2.mono B1.out.size))
        have Z2 := Lib.hid ((b2.block _ (lt_of_block Z1.out)).trans Z1.out)
        have Y2 := Lib.hid ((b2.block _ (lt_of_block Y1.out)).trans Y1.out)
        have HV2 := Lib.hid (HV1.out.on b2)
        clear b2
        obtain ⟨z0, z1, z2⟩ := bk3T Z2.out
        have zf := fun j => bk_frz Z2.out j
        obtain ⟨y0, y1, y2⟩ := bk3T Y2.out
        have yf := fun j => bk_frz Y2.out j
        have hce := HCE.out _ B2.out
        go_wp2_with fail
        refine (HP.out _ B2.out).mono ?_
        rintro e w3 ⟨rfl, rfl⟩
        go_wp2_with fail
        refine (HT0.out _ B2.out HV2.out).mono ?_
        clear z0 z1 z2 y0 y1 y2 zf yf hce
        rintro e w3 ⟨b3, v', rfl, hv'⟩
        have B3 := Lib.hid (B2.out.trans (b3.mono B2.out.size))
        have Z3 := Lib.hid ((b3.block _ (lt_of_block Z2.out)).trans Z2.out)
        have Y3 := Lib.hid ((b3.block _ (lt_of_block Y2.out)).trans Y2.out)
        clear b3 HV2
        obtain ⟨A', N', c', room', put', rfl, hv'⟩ := tb_partsR hv'
        have HV3 := Lib.hid hv'
        clear hv'
        obtain ⟨z0, z1, z2⟩ := bk3T Z3.out
        have zf := fun j => bk_frz Z3.out j
        obtain ⟨y0, y1, y2⟩ := bk3T Y3.out
        have yf := fun j => bk_frz Y3.out j
        have hce := HCE.out _ B3.out
        go_upto_region 12 with fail
        obtain ⟨YY, gy⟩ := bk3_blk Z3.out (.int .i64 room') (.int .i64 put') (.slice A' N' c')
        obtain ⟨w4, hw4⟩ : ∃ w9, ((w3.setCell ⟨W.heap.size, 0, none⟩ (.int .i64 room')).setCell ⟨W.heap.size, 1, none⟩ (.int .i64 put')).setCell ⟨W.heap.size, 2, none⟩ (.slice A' N' c') = w9 := ⟨_, rfl⟩
        rw [hw4] at YY gy ⊢
        have Z4 := Lib.hid YY
        have Y4 := Lib.hid ((gy.block _ (lt_of_block Y3.out) (by simp <;> omega)).trans Y3.out)
        have B4 := Lib.hid (gr_from B3.out B3.out.size (Nat.le_refl _) gy)
        have HV4 := Lib.hid ((HV3.out.gr Z3.out gy).more gy.size)
        clear hw4 gy YY HV3
        clear z0 z1 z2 y0 y1 y2 zf yf hce
        obtain ⟨z0, z1, z2⟩ := bk3T Z4.out
        have zf := fun j => bk_frz Z4.out j
        obtain ⟨y0, y1, y2⟩ := bk3T Y4.out
        have yf := fun j => bk_frz Y4.out j
        have hce := HCE.out _ B4.out
        go_wp2_with fail
        obtain ⟨k1, gp⟩ := bk3_blk Y4.out (.int .i64 room') (.int .i64 put') (.slice A' N' c')
        obtain ⟨r0, r1, r2⟩ := bk3T k1
        refine bodyPost_ret (by simp [results, Try.results47, go_sem, r0, r1, r2]; try rfl) rfl ?_
        exact ⟨gr_from B4.out B4.out.size (Nat.le_succ _) gp, _, rfl, (HV4.out.gr Y4.out gp).more gp.size⟩
      · rw [if_pos hx]
        have g : (x != 0) = true := by simp [hx]
        clear HTR hx
        obtain ⟨room, put, rows⟩ := t
        dsimp only at Z0 Y0 HV0 B0  ⊢
        obtain ⟨N, hN⟩ : ∃ n, rows.length = n := ⟨_, rfl⟩
        rw [hN] at Z0 Y0 HV0 B0  ⊢
        obtain ⟨z0, z1, z2⟩ := bk3T Z0.out
        have zf := fun j => bk_frz Z0.out j
        obtain ⟨y0, y1, y2⟩ := bk3T Y0.out
        have yf := fun j => bk_frz Y0.out j
        have hce := HCE.out _ B0.out
        go_enter Try.func47, Try.ntmps47
        go_wp2_with fail
        refine (HB0.out _).mono ?_
        clear z0 z1 z2 y0 y1 y2 zf yf hce
        rintro e w1 ⟨rfl, b1⟩
        have B1 := Lib.hid (B0.out.trans (b1.mono B0.out.size))
        have Z1 := Lib.hid ((b1.block _ (lt_of_block Z0.out)).trans Z0.out)
        have Y1 := Lib.hid ((b1.block _ (lt_of_block Y0.out)).trans Y0.out)
        have HV1 := Lib.hid (HV0.out.on b1)
        clear b1
        obtain ⟨z0, z1, z2⟩ := bk3T Z1.out
        have zf := fun j => bk_frz Z1.out j
        obtain ⟨y0, y1, y2⟩ := bk3T Y1.out
        have yf := fun j => bk_frz Y1.out j
        have hce := HCE.out _ B1.out
        go_wp2_with fail
        refine (HB1.out _).mono ?_
        clear z0 z1 z2 y0 y1 y2 zf yf hce
        rintro e w2 ⟨rfl, b2⟩
        have B2 := Lib.hid (B1.out.trans (b2.mono B1.out.size))
        have Z2 := Lib.hid ((b2.block _ (lt_of_block Z1.out)).trans Z1.out)
        have Y2 := Lib.hid ((b2.block _ (lt_of_block Y1.out)).trans Y1.out)
        have HV2 := Lib.hid (HV1.out.on b2)
        clear b2
        obtain ⟨z0, z1, z2⟩ := bk3T Z2.out
        have zf := fun j => bk_frz Z2.out j
        obtain ⟨y0, y1, y2⟩ := bk3T Y2.out
        have yf := fun j => bk_frz Y2.out j
        have hce := HCE.out _ B2.out
        go_wp2_with fail
        refine (HP.out _ B2.out).mono ?_
        rintro e w3 ⟨rfl, rfl⟩
        go_wp2_with fail
        obtain ⟨k1, gp⟩ := bk3_blk Y2.out (.int .i64 0) (.int .i64 0) (.slice none 0 0)
        obtain ⟨r0, r1, r2⟩ := bk3T k1
        refine bodyPost_ret (by simp [results, Try.results47, go_sem, r0, r1, r2]; try rfl) rfl ?_
        exact ⟨gr_from B2.out B2.out.size (Nat.le_succ _) gp, _, rfl, TbVal.zero _ _⟩
    · have HR := Lib.hid (show chgR t b = (tb0, 0, 2) by unfold chgR; rw [HCC.out, if_neg c1, if_neg c2])
      rw [HR.out]
      have HB0 := Lib.hid (show ∀ w, Calls Try.prog 67 #[.int .u8 c, .int .u8 64, .int .i64 5] w fun e w' => e = .returned (.bool false) ∧ Below w.heap.size w w' from fun w => by have := begins_any c 64 5 32 hc (by decide) w; rwa [show decide (((64) : Int) ≤ c ∧ c < 64 + 32) = false by simp; omega] at this)
      have HB1 := Lib.hid (show ∀ w, Calls Try.prog 67 #[.int .u8 c, .int .u8 32, .int .i64 5] w fun e w' => e = .returned (.bool false) ∧ Below w.heap.size w w' from fun w => by have := begins_any c 32 5 32 hc (by decide) w; rwa [show decide (((32) : Int) ≤ c ∧ c < 32 + 32) = false by simp; omega] at this)
      clear HR HPR HPX HTR HTI hc
      obtain ⟨room, put, rows⟩ := t
      dsimp only at Z0 Y0 HV0 B0  ⊢
      obtain ⟨N, hN⟩ : ∃ n, rows.length = n := ⟨_, rfl⟩
      rw [hN] at Z0 Y0 HV0 B0  ⊢
      obtain ⟨z0, z1, z2⟩ := bk3T Z0.out
      have zf := fun j => bk_frz Z0.out j
      obtain ⟨y0, y1, y2⟩ := bk3T Y0.out
      have yf := fun j => bk_frz Y0.out j
      have hce := HCE.out _ B0.out
      go_enter Try.func47, Try.ntmps47
      go_wp2_with fail
      refine (HB0.out _).mono ?_
      clear z0 z1 z2 y0 y1 y2 zf yf hce
      rintro e w1 ⟨rfl, b1⟩
      have B1 := Lib.hid (B0.out.trans (b1.mono B0.out.size))
      have Z1 := Lib.hid ((b1.block _ (lt_of_block Z0.out)).trans Z0.out)
      have Y1 := Lib.hid ((b1.block _ (lt_of_block Y0.out)).trans Y0.out)
      have HV1 := Lib.hid (HV0.out.on b1)
      clear b1
      obtain ⟨z0, z1, z2⟩ := bk3T Z1.out
      have zf := fun j => bk_frz Z1.out j
      obtain ⟨y0, y1, y2⟩ := bk3T Y1.out
      have yf := fun j => bk_frz Y1.out j
      have hce := HCE.out _ B1.out
      go_wp2_with fail
      refine (HB1.out _).mono ?_
      clear z0 z1 z2 y0 y1 y2 zf yf hce
      rintro e w2 ⟨rfl, b2⟩
      have B2 := Lib.hid (B1.out.trans (b2.mono B1.out.size))
      have Z2 := Lib.hid ((b2.block _ (lt_of_block Z1.out)).trans Z1.out)
      have Y2 := Lib.hid ((b2.block _ (lt_of_block Y1.out)).trans Y1.out)
      have HV2 := Lib.hid (HV1.out.on b2)
      clear b2
      obtain ⟨z0, z1, z2⟩ := bk3T Z2.out
      have zf := fun j => bk_frz Z2.out j
      obtain ⟨y0, y1, y2⟩ := bk3T Y2.out
      have yf := fun j => bk_frz Y2.out j
      have hce := HCE.out _ B2.out
      go_wp2_with fail
      obtain ⟨k1, gp⟩ := bk3_blk Y2.out (.int .i64 0) (.int .i64 0) (.slice none 0 0)
      obtain ⟨r0, r1, r2⟩ := bk3T k1
      refine bodyPost_ret (by simp [results, Try.results47, go_sem, r0, r1, r2]; try rfl) rfl ?_
      exact ⟨gr_from B2.out B2.out.size (Nat.le_succ _) gp, _, rfl, TbVal.zero _ _⟩
end Go.Proofs.Ytlddbojfikkhfaa
/- The walks of FieldsDecodes and FieldsApplies, over what is asked of the project. -/
namespace Go.Proofs.Ytlddbojfikkhfaa.P
set_option linter.unusedVariables false
open Go.RowKit
def FdDec (P : Program) (f : FuncId) : Prop := ∀ (v s : Value) (t : Tb) (b : List Int) (w : World), TbVal w w.heap.size v t → TbWf t → BSl w w.heap.size s b → b.length ≤ 140737488355328 → Calls P f #[v, s] w (FlRes (decFl t b) w)
def FdApl (P : Program) (f : FuncId) : Prop := ∀ (v s : Value) (t : Tb) (b : List Int) (w : World), TbVal w w.heap.size v t → TbWf t → BSl w w.heap.size s b → b.length ≤ 140737488355328 → Calls P f #[v, s] w (TbRes3 (appAll t b) w)
theorem linesR_len (t : Tb) (need : Int) : ∀ (n : Nat) (b : List Int) (out : List Fld), out.length ≤ 8 → (linesR t need n b out).1.length ≤ 8
  | 0, b, out, h => by
    unfold linesR
    split
    · exact h
    · exact Nat.zero_le _
  | n + 1, b, out, h => by
    unfold linesR
    split
    · exact h
    · split
      · exact Nat.zero_le _
      · split
        · exact Nat.zero_le _
        · exact linesR_len t need n _ _ (by simp only [List.length_append, List.length_singleton]; omega)
theorem decFl_len (t : Tb) (b : List Int) : (decFl t b).1.length ≤ 8 := by
  unfold decFl
  split
  · exact Nat.zero_le _
  · split
    · exact Nat.zero_le _
    · split
      · exact Nat.zero_le _
      · split
        · exact Nat.zero_le _
        · split
          · exact Nat.zero_le _
          · exact linesR_len _ _ _ _ _ (Nat.zero_le _)
theorem tbWf0 : TbWf tb0 := ⟨by decide, by decide, by decide, fun x hx => by cases hx⟩
theorem appsR_wf (b : List Int) (hb : Byt b) (hl : b.length ≤ 140737488355328) : ∀ (g : Nat) (t : Tb) (a : Nat), TbWf t → TbWf (appsR g t b a).1
  | 0, t, a, h => h
  | g + 1, t, a, h => by
    unfold appsR
    split
    · exact h
    · split
      · exact h
      · split
        · exact tbWf0
        · exact appsR_wf b hb hl g _ _ (appR_wf h (hb.drop a) (by rw [List.length_drop]; omega))
theorem appAll_wf {t : Tb} {b : List Int} (hw : TbWf t) (hb : Byt b) (hl : b.length ≤ 140737488355328) : TbWf (appAll t b).1 := by
  unfold appAll
  split
  · exact tbWf0
  · exact appsR_wf b hb hl _ _ _ hw
theorem _root_.Go.Proofs.Ytlddbojfikkhfaa.P.BSl.onF {w w' : World} {v : Value} {zs : List Int} (h : BSl w w.heap.size v zs) (hb : Below w.heap.size w w') : BSl w' w'.heap.size v zs := (h.below hb).more hb.size
end Go.Proofs.Ytlddbojfikkhfaa.P
namespace Go.Proofs.Ytlddbojfikkhfaa
set_option linter.unusedVariables false
open Go.RowKit P

set_option maxHeartbeats 1000000 in
theorem fieldsDecodes_core (hD : FdDec Try.prog 18) (v s : Value) (t : Tb) (b : List Int) (W : World) (hv : TbVal W W.heap.size v t) (hw : TbWf t) (hs : BSl W W.heap.size s b) (hl : b.length ≤ 140737488355328) :
    Calls Try.prog 4 #[v, s] W fun e w' => e = .returned (.bool true) ∧ Below W.heap.size W w' := by
  have H1 := Lib.hid (fun w (hb : Below W.heap.size W w) => hD v s t b w (hv.on hb) hw (hs.onF hb) hl)
  obtain ⟨a0, cap0, rfl, q1, q2, q3, hbr⟩ := hs.ex
  have H2 := Lib.hid (fun w (hb : Below W.heap.size W w) => refFlO_any v t b w (hv.on hb) hw hbr.1 hl)
  have HC := Lib.hid (fun w (hb : Below W.heap.size W w) => run_str (P := Try.prog) (w := w) (hbr.on hb) rfl 27 9 5 cap0 Try.underlying27 Try.underlying5 Try.underlying9)
  have HL := Lib.hid (decFl_len t b)
  obtain ⟨S, hS⟩ : ∃ S, strOfNums b = S := ⟨_, rfl⟩
  rw [hS] at H2 HC
  obtain ⟨⟨l, x⟩, hr⟩ : ∃ r, decFl t b = r := ⟨_, rfl⟩
  rw [hr] at H1 H2 HL
  unfold FlRes at H1 H2
  dsimp only at H1 H2 HL
  obtain ⟨A, c, rfl⟩ := tb_slicesR hv
  have F0 := Lib.hid (heap_alloc_new W (.cells #[.int .i64 t.room, .int .i64 t.put, .slice A t.rows.length c] 24))
  have B0 := Lib.hid ((Below.refl W.heap.size W).alloc (Nat.le_refl _) (.cells #[.int .i64 t.room, .int .i64 t.put, .slice A t.rows.length c] 24))
  clear hv hw hs hbr hS hr
  go_enter Try.func4, Try.ntmps4
  go_wp2_with fail
  refine (H1.out _ B0.out).mono ?_
  rintro e w1 ⟨b1, v1, rfl, h1⟩
  obtain ⟨A1, c1, rfl, l1, m1, R1⟩ := h1.ex
  have R1 := Lib.hid R1
  have B1 := Lib.hid (B0.out.trans (b1.mono B0.out.size))
  have F1 := Lib.hid ((b1.block _ (lt_of_block F0.out)).trans F0.out)
  obtain ⟨y0, y1, y2⟩ := bk3T F1.out
  have hc1 := HC.out w1 B1.out
  clear b1 h1
  go_wp2_with fail
  refine (H2.out _ B1.out).mono ?_
  clear y0 y1 y2 hc1
  rintro e w2 ⟨b2, v2, rfl, h2⟩
  obtain ⟨A2, c2, rfl, l2, m2, R2⟩ := h2.ex
  have R2 := Lib.hid R2
  have R3 := Lib.hid (R1.out.on b2)
  have B2 := Lib.hid (B1.out.trans (b2.mono B1.out.size))
  clear b2 h2
  go_wp2_with fail
  refine (lsameFd_eq _ _ _ _ _ l _ R3.out R2.out rfl (by have := HL.out; omega)).mono ?_
  rintro e w3 ⟨rfl, b3⟩
  have B3 := Lib.hid (B2.out.trans (b3.mono B2.out.size))
  clear b3
  go_wp2_with fail
  go_ret
  exact ⟨by first | rfl | simp, B3.out⟩
set_option maxHeartbeats 1000000 in
theorem fieldsApplies_core (hA : FdApl Try.prog 20) (v s : Value) (t : Tb) (b : List Int) (W : World) (hv : TbVal W W.heap.size v t) (hw : TbWf t) (hs : BSl W W.heap.size s b) (hl : b.length ≤ 140737488355328) :
    Calls Try.prog 5 #[v, s] W fun e w' => e = .returned (.bool true) ∧ Below W.heap.size W w' := by
  have H1 := Lib.hid (fun w (hb : Below W.heap.size W w) => hA v s t b w (hv.on hb) hw (hs.onF hb) hl)
  obtain ⟨a0, cap0, rfl, q1, q2, q3, hbr⟩ := hs.ex
  have H2 := Lib.hid (fun w (hb : Below W.heap.size W w) => refAps_any v t b w (hv.on hb) hw hbr.1 hl)
  have HC := Lib.hid (fun w (hb : Below W.heap.size W w) => run_str (P := Try.prog) (w := w) (hbr.on hb) rfl 27 9 5 cap0 Try.underlying27 Try.underlying5 Try.underlying9)
  have HL := Lib.hid (appAll_wf hw hbr.1 hl).len
  obtain ⟨S, hS⟩ : ∃ S, strOfNums b = S := ⟨_, rfl⟩
  rw [hS] at H2 HC
  obtain ⟨⟨r, k, x⟩, hr⟩ : ∃ r, appAll t b = r := ⟨_, rfl⟩
  rw [hr] at H1 H2 HL
  unfold TbRes3 at H1 H2
  dsimp only at H1 H2 HL
  obtain ⟨A, c, rfl⟩ := tb_slicesR hv
  have F0 := Lib.hid (heap_alloc_new W (.cells #[.int .i64 t.room, .int .i64 t.put, .slice A t.rows.length c] 24))
  have B0 := Lib.hid ((Below.refl W.heap.size W).alloc (Nat.le_refl _) (.cells #[.int .i64 t.room, .int .i64 t.put, .slice A t.rows.length c] 24))
  clear hv hw hs hbr hS hr
  go_enter Try.func5, Try.ntmps5
  go_wp2_with fail
  refine (H1.out _ B0.out).mono ?_
  rintro e w1 ⟨b1, v1, rfl, hv1⟩
  obtain ⟨A1, c1, rfl⟩ := tb_slicesR hv1
  simp only at hv1 ⊢
  have X1 := Lib.hid ((Below.refl w1.heap.size w1).alloc (Nat.le_refl _) (.cells #[.int .i64 r.room, .int .i64 r.put, .slice A1 r.rows.length c1] 24))
  have N1 := Lib.hid (heap_alloc_new w1 (.cells #[.int .i64 r.room, .int .i64 r.put, .slice A1 r.rows.length c1] 24))
  have b2 := b1.trans (X1.out.mono b1.size)
  have B2 := Lib.hid (B0.out.trans (b2.mono B0.out.size))
  have F2 := Lib.hid ((b2.block _ (lt_of_block F0.out)).trans F0.out)
  have V2 := Lib.hid (hv1.on X1.out)
  obtain ⟨q0, q1, q2⟩ := bk3T F2.out
  have hc1 := HC.out _ B2.out
  clear b1 b2 hv1
  go_wp2_with fail
  refine (H2.out _ B2.out).mono ?_
  clear q0 q1 q2 hc1
  rintro e w3 ⟨b3, v3, rfl, hv3⟩
  obtain ⟨A3, c3, rfl⟩ := tb_slicesR hv3
  simp only at hv3 ⊢
  have X3 := Lib.hid ((Below.refl w3.heap.size w3).alloc (Nat.le_refl _) (.cells #[.int .i64 r.room, .int .i64 r.put, .slice A3 r.rows.length c3] 24))
  have b4 := b3.trans (X3.out.mono b3.size)
  have B4 := Lib.hid (B2.out.trans (b4.mono B2.out.size))
  have N4 := Lib.hid ((b4.block _ (lt_of_block N1.out)).trans N1.out)
  have V4 := Lib.hid (V2.out.on b4)
  have U4 := Lib.hid (hv3.on X3.out)
  obtain ⟨q0, q1, q2⟩ := bk3T N4.out
  clear b3 b4 hv3
  go_wp2_with fail
  refine (lsameTb_eq _ _ r _ V4.out U4.out HL.out).mono ?_
  rintro e w5 ⟨rfl, b5⟩
  have B5 := Lib.hid (B4.out.trans (b5.mono B4.out.size))
  clear b5 q0 q1 q2
  go_wp2_with fail
  go_ret
  exact ⟨by first | rfl | simp, B5.out⟩
end Go.Proofs.Ytlddbojfikkhfaa
/- The project's fields: Apply. -/
namespace Go.Proofs.Ytlddbojfikkhfaa.P
set_option linter.unusedVariables false
open Go.RowKit
theorem appsR_chg (g : Nat) (t : Tb) (b : List Int) (a : Nat) (h : ¬ b.length ≤ a) : appsR (g + 1) t b a = if (chgR t (b.drop a)).2.2 = 4 then (t, (a : Int), 0) else if (chgR t (b.drop a)).2.2 ≠ 0 then (tb0, 0, (chgR t (b.drop a)).2.2) else appsR g (chgR t (b.drop a)).1 b (a + (chgR t (b.drop a)).2.1.toNat) := by
  obtain ⟨h1, h2⟩ := chgR_app t (b.drop a)
  rw [appsR, if_neg h, h1]
  by_cases c4 : (appR t (b.drop a)).2.2 = 4
  · rw [if_pos c4, if_pos c4]
  · rw [if_neg c4, if_neg c4]
    by_cases c : (appR t (b.drop a)).2.2 ≠ 0
    · rw [if_pos c, if_pos c]
    · rw [if_neg c, if_neg c, h2 (Decidable.byContradiction c)]
theorem rows_few {t : Tb} (h : faultTb t = 0) : t.rows.length ≤ 8796093022 := by
  have ok := (faultTb_iff t).1 h
  have h4 := wtL_len t.rows
  have h5 := ok.2.2.2.1
  have h6 := ok.1.2
  omega
end Go.Proofs.Ytlddbojfikkhfaa.P
namespace Go.Proofs.Ytlddbojfikkhfaa
set_option linter.unusedVariables false
open Go.RowKit P

structure FdQ (w0 : World) (W : World) (A0 SA : Option Addr) (M c0 : Nat) (T T2 : Tb) (A1 : Option Addr) (n1 c1 K : Nat) (r1 p1 k y : Int) (V0 V1 V2 V3 V7 V8 V11 V12 : Value) (tb0 tb1 tb2 tb3 tb4 tb5 tb6 tb7 tb8 tb9 tb10 tb11 tb12 : Bool) (tx0 tx1 tx2 tx3 tx4 tx5 tx6 tx7 tx8 tx9 tx10 tx11 tx12 : Value) (w : World) : Prop where
  be : tb10 = false → Below w0.heap.size w0 w
  d3 : tb3 = true → tb1 = true ∧ tb2 = true
  d4 : tb4 = true → tb0 = true ∧ tb3 = true
  d5 : tb5 = true → tb4 = true
  d6 : tb6 = true → tb5 = true
  d7 : tb7 = true → tb5 = true
  d8 : tb8 = true → tb5 = true
  d10 : tb10 = true → tb0 = true ∧ tb1 = true ∧ tb2 = true ∧ tb3 = true ∧ tb4 = true ∧ tb5 = true ∧ tb6 = true ∧ tb9 = true
  d11 : tb11 = true → tb0 = true ∧ tb1 = true ∧ tb2 = true ∧ tb3 = true ∧ tb4 = true ∧ tb5 = true ∧ tb6 = true ∧ tb7 = true ∧ tb9 = true ∧ tb10 = true
  d12 : tb12 = true → tb0 = true ∧ tb1 = true ∧ tb2 = true ∧ tb3 = true ∧ tb4 = true ∧ tb5 = true ∧ tb6 = true ∧ tb7 = true ∧ tb8 = true ∧ tb9 = true ∧ tb10 = true ∧ tb11 = true
  tk : tb10 = false → TKA W (.cells #[.int .i64 r1, .int .i64 p1, .slice A1 n1 c1] 24 (0, 0)) (.cells #[.int .i64 0, .int .i64 0, .slice none 0 0] 24 (0, 0)) (.agg #[.int .i64 r1, .int .i64 p1, .slice A1 n1 c1]) T w
  t4 : tb4 = true → ∃ u, tx4 = .tuple #[u, .int .i64 k, .int .i64 y]
  t5 : tb5 = true → ∃ u, tx5 = .tuple #[u, .int .i64 k, .int .i64 y]
  h0 : tb0 = true → tx0 = V0
  h1 : tb1 = true → tx1 = V1
  h2 : tb2 = true → tx2 = V2
  h3 : tb3 = true → tx3 = V3
  h4 : tb4 = true → tb10 = false → ∃ u, tx4 = .tuple #[u, .int .i64 k, .int .i64 y] ∧ TbVal w w.heap.size u T2
  h5 : tb5 = true → tb10 = false → ∃ u, tx5 = .tuple #[u, .int .i64 k, .int .i64 y] ∧ TbVal w w.heap.size u T2
  h6 : tb6 = true → tb10 = false → TbVal w w.heap.size tx6 T2
  h7 : tb7 = true → tx7 = V7
  h8 : tb8 = true → tx8 = V8
  h9 : tb9 = true → tb10 = false → ∃ q, tx9 = .pointer (some ⟨q, 0, none⟩) ∧ w0.heap.size ≤ q ∧ w.heap[q]? = some (.cells #[.int .i64 0, .int .i64 0, .slice none 0 0] 24 (0, 0))
  h10 : tb10 = true → ∃ q A n c r p, tx9 = .pointer (some ⟨q, 0, none⟩) ∧ w0.heap.size ≤ q ∧ w.heap[q]? = some (.cells #[.int .i64 r, .int .i64 p, .slice A n c] 24 (0, 0)) ∧ TbVal w w.heap.size (.agg #[.int .i64 r, .int .i64 p, .slice A n c]) T2 ∧ TKA W (.cells #[.int .i64 r1, .int .i64 p1, .slice A1 n1 c1] 24 (0, 0)) (.cells #[.int .i64 0, .int .i64 0, .slice none 0 0] 24 (0, 0)) (.agg #[.int .i64 r1, .int .i64 p1, .slice A1 n1 c1]) T w
  h11 : tb11 = true → tx11 = V11
  h12 : tb12 = true → tx12 = V12
set_option maxRecDepth 100000 in
set_option maxHeartbeats 2000000 in
theorem fdapl_any : FdApl Try.prog 20 := fun v s t b W hv hw hs hl => by
  have HFT := Lib.hid (fun w (hb : Below W.heap.size W w) => tchk_any v t w (hv.on hb) hw)
  have HFW := Lib.hid (fun h => rows_few (t := t) h)
  have hD : appAll t b = if faultTb t ≠ 0 then (tb0, 0, faultTb t) else appsR (b.length + 1) t b 0 := rfl
  rw [hD]
  obtain ⟨A0, c0, rfl, hc0, hm0, hn0, hr0⟩ := hs.ex
  have HSD := Lib.hid (fun K (hK : K ≤ b.length) w (hb : Below W.heap.size W w) => bsl_onF (bsl_drop hs K hK) hb)
  have HBY := Lib.hid hr0.1
  have HBL := Lib.hid hl
  obtain ⟨M, hM⟩ : ∃ M, b.length = M := ⟨_, rfl⟩
  have HMM := Lib.hid hM
  rw [hM] at HSD HBL hc0 ⊢
  have HC0 := Lib.hid hc0
  obtain ⟨A, N, cp, room, put, rfl, hv'⟩ := tb_partsR hv
  obtain ⟨g1, g2, g3⟩ := two_bk W #[.int .i64 room, .int .i64 put, .slice A N cp] #[.int .i64 0, .int .i64 0, .slice none 0 0] 24 24
  have B0 := Lib.hid g3
  have TK0 : Hid (TKA _ _ _ _ _ _) := Lib.hid ⟨g1, g2, g3, hv'.on g3⟩
  have HWT0 := Lib.hid hw
  obtain ⟨x, hx⟩ : ∃ x, faultTb t = x := ⟨_, rfl⟩
  rw [hx] at HFT HFW ⊢
  unfold TbRes3
  clear hx hv hv' hw hl hD g1 g2 g3 hr0 hs hm0 hn0 hM hc0
  by_cases h0 : x = 0
  · subst h0
    rw [if_neg (fun k => k rfl)]
    have HFW0 := Lib.hid (HFW.out rfl)
    clear HFW
    obtain ⟨R, hR⟩ : ∃ R, appsR (M + 1) t b 0 = R := ⟨_, rfl⟩
    rw [hR]
    have HRR := Lib.hid hR
    clear hR
    go_enter Try.func20, Try.ntmps20
    go_wp2_with (go_at_call 32; refine (HFT.out _ B0.out).mono ?_; rintro e w1 ⟨rfl, b1⟩; have TK1 := Lib.hid (TK0.out.later b1); clear b1; obtain ⟨q0, q1, q2⟩ := bk3T TK1.out.z; have zf := fun j => bk_frz TK1.out.z j; obtain ⟨y0, y1, y2⟩ := bk3T TK1.out.y; have yf := fun j => bk_frz TK1.out.y j)
    -- the table's rows anew
    obtain ⟨s1, hs1, hfs⟩ := TK1.out.v.ex
    have hcl : ∀ (w : World) (hb : Below w1.heap.size w1 w), Calls Try.prog 46 #[.slice A N cp] w fun e w' => Below w.heap.size w w' ∧ ∃ v, e = .returned v ∧ OwnE FdE w' w.heap.size 57 v t.rows := by
      intro w hb
      injection hs1 with e1
      obtain ⟨_, _, e2⟩ := (by simpa using e1 : room = t.room ∧ put = t.put ∧ .slice A N cp = s1)
      subst e2
      obtain ⟨A', c', e3, _, _, hrow⟩ := (hfs.on hb).ex
      injection e3 with a1 a2 a3
      exact fclone_any w.heap.size A N cp t.rows w (Nat.le_refl _) (a1 ▸ hrow) a2.symm (by rw [a2]; exact HFW0.out)
    have hrp : room = t.room ∧ put = t.put := by
      injection hs1 with e1
      obtain ⟨p, q, _⟩ := (by simpa using e1 : room = t.room ∧ put = t.put ∧ .slice A N cp = s1)
      exact ⟨p, q⟩
    have HRP := Lib.hid hrp
    have HCL := Lib.hid hcl
    clear hs1 hfs hcl hrp
    refine (HCL.out _ (Below.refl _ _)).mono ?_
    rintro e w2 ⟨b2, v2, rfl, hv2⟩
    have TK2 := Lib.hid (TK1.out.later b2)
    have hf2 := fsl_own hv2
    obtain ⟨A2, c2, rfl, l2, m2, row2⟩ := hv2.slice
    have HV2 : Hid (TbVal w2 w2.heap.size (.agg #[.int .i64 room, .int .i64 put, .slice A2 t.rows.length c2]) t) := Lib.hid ⟨_, by rw [HRP.out.1, HRP.out.2], hf2⟩
    obtain ⟨N2, hN2⟩ : ∃ n, t.rows.length = n := ⟨_, rfl⟩
    rw [hN2] at HV2 ⊢
    clear b2 hv2 hf2 l2 m2 row2 hN2 q0 q1 q2 zf y0 y1 y2 yf
    obtain ⟨q0, q1, q2⟩ := bk3T TK2.out.z
    have zf := fun j => bk_frz TK2.out.z j
    have kz : (w2.setCell ⟨W.heap.size, 2, none⟩ (.slice A2 N2 c2)).heap[W.heap.size]? = some (.cells #[.int .i64 room, .int .i64 put, .slice A2 N2 c2] 24 (0, 0)) := by simpa using bk_set TK2.out.z 2 (.slice A2 N2 c2)
    have TK3 := Lib.hid (TK2.out.set kz (gr_set w2 W.heap.size 2 (.slice A2 N2 c2)) HV2.out)
    go_upto_region 5 with fail
    obtain ⟨w3, hw3⟩ : ∃ w9, w2.setCell ⟨W.heap.size, 2, none⟩ (.slice A2 N2 c2) = w9 := ⟨_, rfl⟩
    rw [hw3] at TK3 ⊢
    clear kz hw3 q0 q1 q2 zf HV2 HCL
    go_wp2_with fail
    go_loopg [8] (M + 1) (fun gq av wr => ∃ (K : Nat) (T : Tb) (A1 : Option Addr) (n1 c1 : Nat) (r1 p1 : Int), av = .int .i64 (K : Int) ∧ K ≤ M ∧ M + 1 ≤ K + gq ∧ Hid (appsR gq T b K = R) ∧ Hid (TbWf T) ∧ wr.heap[W.heap.size]? = some (.cells #[.int .i64 r1, .int .i64 p1, .slice A1 n1 c1] 24 (0, 0)) ∧ Hid (TKA W (.cells #[.int .i64 r1, .int .i64 p1, .slice A1 n1 c1] 24 (0, 0)) (.cells #[.int .i64 0, .int .i64 0, .slice none 0 0] 24 (0, 0)) (.agg #[.int .i64 r1, .int .i64 p1, .slice A1 n1 c1]) T wr))
    case atStart => exact ⟨0, t, A2, N2, c2, room, put, rfl, Nat.zero_le _, by omega, HRR, HWT0, TK3.out.z, TK3⟩
    case round =>
      obtain ⟨K, T, A1, n1, c1, r1, p1, rfl, hKl, hg, HLR, HWT, hz9, TK⟩ := hrel
      clear hz9
      by_cases hend : M ≤ K
      · obtain rfl : R = (T, (K : Int), 0) := by
          have := HLR.out
          cases gk with
          | zero => rw [appsR] at this; exact this.symm
          | succ g => rw [appsR, if_pos (by rw [HMM.out]; exact hend)] at this; exact this.symm
        have e1 : decide ((K : Int) < (M : Int)) = false := by simp; omega
        have e1n : decide (K < M) = false := by simp; omega
        have e1p : ¬ K < M := by omega
        obtain ⟨q0, q1, q2⟩ := bk3T TK.out.z
        have zf := fun j => bk_frz TK.out.z j
        have yf := fun j => bk_frz TK.out.y j
        obtain ⟨y0, y1, y2⟩ := bk3T TK.out.y
        clear hend HLR hg hKl
        go_wp2_with fail
        obtain ⟨k1, gp⟩ := bk3_blk TK.out.y (.int .i64 r1) (.int .i64 p1) (.slice A1 n1 c1)
        obtain ⟨r0, r1', r2⟩ := bk3T k1
        refine bodyPost_ret (by simp [results, Try.results20, go_sem, r0, r1', r2]; try rfl) rfl ?_
        exact ⟨gr_from TK.out.b TK.out.b.size (Nat.le_succ _) gp, _, rfl, (TK.out.v.gr TK.out.y gp).more gp.size⟩
      · have hKl2 : K < M := by omega
        obtain ⟨g, rfl⟩ : ∃ g, gk = g + 1 := ⟨gk - 1, by omega⟩
        have HLS := Lib.hid (show R = if (chgR T (b.drop K)).2.2 = 4 then (T, (K : Int), 0) else if (chgR T (b.drop K)).2.2 ≠ 0 then (tb0, 0, (chgR T (b.drop K)).2.2) else appsR g (chgR T (b.drop K)).1 b (K + (chgR T (b.drop K)).2.1.toNat) by
          have := HLR.out
          rw [appsR_chg g T b K (by rw [HMM.out]; exact hend)] at this
          exact this.symm)
        have hdl : (b.drop K).length = M - K := by rw [List.length_drop, HMM.out]
        have hbl := HBL.out
        have HAP := Lib.hid (fun w hw h => change_any (.agg #[.int .i64 r1, .int .i64 p1, .slice A1 n1 c1]) T _ (b.drop K) w h HWT.out (HSD.out K (Nat.le_of_lt hKl2) w hw) (by omega) (by omega))
        have HIN := Lib.hid (fun h => by have k := (chgR_app T (b.drop K)); have := appR_in (t := T) (b := b.drop K) (HBY.out.drop K) (k.1.symm.trans h); rw [← k.2 (k.1.symm.trans h)] at this; exact this : (chgR T (b.drop K)).2.2 = 0 → 1 ≤ (chgR T (b.drop K)).2.1 ∧ (chgR T (b.drop K)).2.1 ≤ ((b.drop K).length : Int))
        have HWF := Lib.hid (fun h => by have k := (chgR_app T (b.drop K)); have := appR_wf (t := T) (b := b.drop K) HWT.out (HBY.out.drop K) (by omega); rw [← k.2 (k.1.symm.trans h)] at this; exact this : (chgR T (b.drop K)).2.2 = 0 → TbWf (chgR T (b.drop K)).1)
        obtain ⟨⟨T2, k, y⟩, hap⟩ : ∃ r, chgR T (b.drop K) = r := ⟨_, rfl⟩
        rw [hap] at HAP HIN HWF HLS
        unfold TbRes3 at HAP
        dsimp only at HAP HIN HWF HLS
        obtain ⟨SA, hSA⟩ : ∃ SA, (if c0 = K then A0 else Option.map (fun x => x.add K) A0) = SA := ⟨_, rfl⟩
        rw [hSA] at HAP
        have HSA := Lib.hid hSA
        rw [hdl] at HIN
        have hc0 := HC0.out
        have HKI := Lib.hid (show (0 : Int) ≤ (K : Int) ∧ (K : Int) ≤ (M : Int) ∧ (K : Int) ≤ (c0 : Int) by omega)
        have e1 : decide ((K : Int) < (M : Int)) = true := by simp; omega
        have e1n : decide (K < M) = true := by simp; omega
        have e1p : K < M := by omega
        clear hap hdl HLR hend hbl hSA hc0
        go_upto_region 7 with fail
        refine wp_region_inv (fun lis_ act_ wld_ => ∃ (tb0 tb1 tb2 tb3 tb4 tb5 tb6 tb7 tb8 tb9 tb10 tb11 tb12 : Bool) (tx0 tx1 tx2 tx3 tx4 tx5 tx6 tx7 tx8 tx9 tx10 tx11 tx12 : Value), lis_ = #[tb0, tb1, tb2, tb3, tb4, tb5, tb6, tb7, tb8, tb9, tb10, tb11, tb12] ∧ act_ = { tmps := #[Value.agg #[Value.int IntKind.i64 room, Value.int IntKind.i64 put, Value.slice A N cp], Value.slice A0 M c0, Value.pointer (some { block := W.heap.size, off := 0 }), undef, Value.pointer (some { block := W.heap.size + 1, off := 0 }), u5, u6, Value.int IntKind.i64 0, Value.int IntKind.i64 ↑K, tx9, tx11, tx12, Value.agg #[Value.int IntKind.i64 room, Value.int IntKind.i64 put, Value.slice A N cp], Value.int IntKind.i64 0, Value.int IntKind.i64 0, Value.bool false, undef, undef, Value.pointer (some { block := W.heap.size, off := 2 }), Value.slice A N cp, Value.slice A2 N2 c2, Value.pointer (some { block := W.heap.size, off := 2 }), Value.int IntKind.i64 ↑K, Value.slice A0 M c0, Value.int IntKind.i64 ↑M, Value.bool true, tx5, tx0, tx1, tx2, tx3, tx4, tx6, tx7, tx8, u35, u36, u37, u38, u39, u40, u41, u42, u43, u44, u45, u46, u47, undef, undef], defers := [] } ∧ FdQ wr W A0 SA M c0 T T2 A1 n1 c1 K r1 p1 k y (.agg #[.int .i64 r1, .int .i64 p1, .slice A1 n1 c1]) (.slice A0 M c0) (.int .i64 (K : Int)) (.slice SA (M - K) (c0 - K)) (.int .i64 k) (.int .i64 y) (.int .i64 k) (.int .i64 y) tb0 tb1 tb2 tb3 tb4 tb5 tb6 tb7 tb8 tb9 tb10 tb11 tb12 tx0 tx1 tx2 tx3 tx4 tx5 tx6 tx7 tx8 tx9 tx10 tx11 tx12 wld_) (by kernel_rfl) ?h0 ?hfin ?hI
        case h0 => exact ⟨_, _, _, _, _, _, _, _, _, _, _, _, _, _, _, _, _, _, _, _, _, _, _, undef, _, _, rfl, rfl, ⟨(fun _ => (Below.refl _ _).drew), (fun h => by cases h), (fun h => by cases h), (fun h => by cases h), (fun h => by cases h), (fun h => by cases h), (fun h => by cases h), (fun h => by cases h), (fun h => by cases h), (fun h => by cases h), (fun _ => TK.out.later (Below.refl _ _).drew), (fun h => by cases h), (fun h => by cases h), (fun h => by cases h), (fun h => by cases h), (fun h => by cases h), (fun h => by cases h), (fun h => by cases h), (fun h => by cases h), (fun h => by cases h), (fun h => by cases h), (fun h => by cases h), (fun h => by cases h), (fun h => by cases h), (fun h => by cases h), (fun h => by cases h)⟩⟩
        case hI =>
          rintro listed a w ⟨tb0, tb1, tb2, tb3, tb4, tb5, tb6, tb7, tb8, tb9, tb10, tb11, tb12, tx0, tx1, tx2, tx3, tx4, tx5, tx6, tx7, tx8, tx9, tx10, tx11, tx12, rfl, rfl, H⟩ i hi
          obtain ⟨hun, oj, hoj, hall⟩ := mem_ready.1 hi
          clear hi
          rcases i with _ | _ | _ | _ | _ | _ | _ | _ | _ | _ | _ | _ | _ | i
          · have ho := hoj
            simp only [List.getElem?_toArray, List.getElem?_cons_succ, List.getElem?_cons_zero, Option.some.injEq] at hoj
            subst hoj
            obtain rfl : tb0 = false := hun
            clear hall
            obtain rfl : tb4 = false := Bool.eq_false_iff.2 fun h => Bool.false_ne_true (H.d4 h).1
            obtain rfl : tb5 = false := Bool.eq_false_iff.2 fun h => Bool.false_ne_true (H.d5 h)
            obtain rfl : tb6 = false := Bool.eq_false_iff.2 fun h => Bool.false_ne_true (H.d6 h)
            obtain rfl : tb7 = false := Bool.eq_false_iff.2 fun h => Bool.false_ne_true (H.d7 h)
            obtain rfl : tb8 = false := Bool.eq_false_iff.2 fun h => Bool.false_ne_true (H.d8 h)
            obtain rfl : tb10 = false := Bool.eq_false_iff.2 fun h => Bool.false_ne_true (H.d10 h).1
            obtain rfl : tb11 = false := Bool.eq_false_iff.2 fun h => Bool.false_ne_true (H.d11 h).1
            obtain rfl : tb12 = false := Bool.eq_false_iff.2 fun h => Bool.false_ne_true (H.d12 h).1
            have hbe := H.be rfl
            have hx_tk := H.tk rfl
            have hx_t4 := H.t4
            have hx_t5 := H.t5
            obtain ⟨q0, q1, q2⟩ := bk3T hx_tk.z
            refine wpOp_step ho (fun K' hK => ?_)
            have HK := Lib.hid hK
            clear hK ho
            go_simp
            exact HK.out _ _ ⟨_, _, _, _, _, _, _, _, _, _, _, _, _, _, _, _, _, _, _, _, _, _, _, tx10, _, _, rfl, rfl, ⟨(fun _ => hbe), H.d3, (fun h => by cases h), H.d5, H.d6, H.d7, H.d8, (fun h => by cases h), (fun h => by cases h), (fun h => by cases h), H.tk, H.t4, H.t5, (fun _ => rfl), H.h1, H.h2, H.h3, (fun h => by cases h), (fun h => by cases h), (fun h => by cases h), H.h7, H.h8, H.h9, (fun h => by cases h), H.h11, H.h12⟩⟩
          · have ho := hoj
            simp only [List.getElem?_toArray, List.getElem?_cons_succ, List.getElem?_cons_zero, Option.some.injEq] at hoj
            subst hoj
            obtain rfl : tb1 = false := hun
            clear hall
            obtain rfl : tb3 = false := Bool.eq_false_iff.2 fun h => Bool.false_ne_true (H.d3 h).1
            obtain rfl : tb4 = false := Bool.eq_false_iff.2 fun h => Bool.false_ne_true (H.d4 h).2
            obtain rfl : tb5 = false := Bool.eq_false_iff.2 fun h => Bool.false_ne_true (H.d5 h)
            obtain rfl : tb6 = false := Bool.eq_false_iff.2 fun h => Bool.false_ne_true (H.d6 h)
            obtain rfl : tb7 = false := Bool.eq_false_iff.2 fun h => Bool.false_ne_true (H.d7 h)
            obtain rfl : tb8 = false := Bool.eq_false_iff.2 fun h => Bool.false_ne_true (H.d8 h)
            obtain rfl : tb10 = false := Bool.eq_false_iff.2 fun h => Bool.false_ne_true (H.d10 h).2.1
            obtain rfl : tb11 = false := Bool.eq_false_iff.2 fun h => Bool.false_ne_true (H.d11 h).2.1
            obtain rfl : tb12 = false := Bool.eq_false_iff.2 fun h => Bool.false_ne_true (H.d12 h).2.1
            have hbe := H.be rfl
            have hx_tk := H.tk rfl
            have hx_t4 := H.t4
            have hx_t5 := H.t5
            refine wpOp_step ho (fun K' hK => ?_)
            have HK := Lib.hid hK
            clear hK ho
            go_simp
            exact HK.out _ _ ⟨_, _, _, _, _, _, _, _, _, _, _, _, _, _, _, _, _, _, _, _, _, _, _, tx10, _, _, rfl, rfl, ⟨(fun _ => hbe), (fun h => by cases h), H.d4, H.d5, H.d6, H.d7, H.d8, (fun h => by cases h), (fun h => by cases h), (fun h => by cases h), H.tk, H.t4, H.t5, H.h0, (fun _ => rfl), H.h2, H.h3, (fun h => by cases h), (fun h => by cases h), (fun h => by cases h), H.h7, H.h8, H.h9, (fun h => by cases h), H.h11, H.h12⟩⟩
          · have ho := hoj
            simp only [List.getElem?_toArray, List.getElem?_cons_succ, List.getElem?_cons_zero, Option.some.injEq] at hoj
            subst hoj
            obtain rfl : tb2 = false := hun
            clear hall
            obtain rfl : tb3 = false := Bool.eq_false_iff.2 fun h => Bool.false_ne_true (H.d3 h).2
            obtain rfl : tb4 = false := Bool.eq_false_iff.2 fun h => Bool.false_ne_true (H.d4 h).2
            obtain rfl : tb5 = false := Bool.eq_false_iff.2 fun h => Bool.false_ne_true (H.d5 h)
            obtain rfl : tb6 = false := Bool.eq_false_iff.2 fun h => Bool.false_ne_true (H.d6 h)
            obtain rfl : tb7 = false := Bool.eq_false_iff.2 fun h => Bool.false_ne_true (H.d7 h)
            obtain rfl : tb8 = false := Bool.eq_false_iff.2 fun h => Bool.false_ne_true (H.d8 h)
            obtain rfl : tb10 = false := Bool.eq_false_iff.2 fun h => Bool.false_ne_true (H.d10 h).2.2.1
            obtain rfl : tb11 = false := Bool.eq_false_iff.2 fun h => Bool.false_ne_true (H.d11 h).2.2.1
            obtain rfl : tb12 = false := Bool.eq_false_iff.2 fun h => Bool.false_ne_true (H.d12 h).2.2.1
            have hbe := H.be rfl
            have hx_tk := H.tk rfl
            have hx_t4 := H.t4
            have hx_t5 := H.t5
            refine wpOp_step ho (fun K' hK => ?_)
            have HK := Lib.hid hK
            clear hK ho
            go_simp
            exact HK.out _ _ ⟨_, _, _, _, _, _, _, _, _, _, _, _, _, _, _, _, _, _, _, _, _, _, _, tx10, _, _, rfl, rfl, ⟨(fun _ => hbe), (fun h => by cases h), H.d4, H.d5, H.d6, H.d7, H.d8, (fun h => by cases h), (fun h => by cases h), (fun h => by cases h), H.tk, H.t4, H.t5, H.h0, H.h1, (fun _ => rfl), H.h3, (fun h => by cases h), (fun h => by cases h), (fun h => by cases h), H.h7, H.h8, H.h9, (fun h => by cases h), H.h11, H.h12⟩⟩
          · have ho := hoj
            simp only [List.getElem?_toArray, List.getElem?_cons_succ, List.getElem?_cons_zero, Option.some.injEq] at hoj
            subst hoj
            obtain rfl : tb3 = false := hun
            obtain rfl : tb1 = true := hall ⟨1, .data⟩ (by simp) (by kernel_rfl)
            obtain rfl : tb2 = true := hall ⟨2, .data⟩ (by simp) (by kernel_rfl)
            clear hall
            obtain rfl : tb4 = false := Bool.eq_false_iff.2 fun h => Bool.false_ne_true (H.d4 h).2
            obtain rfl : tb5 = false := Bool.eq_false_iff.2 fun h => Bool.false_ne_true (H.d5 h)
            obtain rfl : tb6 = false := Bool.eq_false_iff.2 fun h => Bool.false_ne_true (H.d6 h)
            obtain rfl : tb7 = false := Bool.eq_false_iff.2 fun h => Bool.false_ne_true (H.d7 h)
            obtain rfl : tb8 = false := Bool.eq_false_iff.2 fun h => Bool.false_ne_true (H.d8 h)
            obtain rfl : tb10 = false := Bool.eq_false_iff.2 fun h => Bool.false_ne_true (H.d10 h).2.2.2.1
            obtain rfl : tb11 = false := Bool.eq_false_iff.2 fun h => Bool.false_ne_true (H.d11 h).2.2.2.1
            obtain rfl : tb12 = false := Bool.eq_false_iff.2 fun h => Bool.false_ne_true (H.d12 h).2.2.2.1
            have hbe := H.be rfl
            have hx_tk := H.tk rfl
            have hx_t4 := H.t4
            have hx_t5 := H.t5
            obtain rfl := H.h1 rfl
            obtain rfl := H.h2 rfl
            obtain ⟨hk0, hk1, hk2⟩ := HKI.out
            have hSA := HSA.out
            refine wpOp_step ho (fun K' hK => ?_)
            have HK := Lib.hid hK
            clear hK ho
            go_simp
            exact HK.out _ _ ⟨_, _, _, _, _, _, _, _, _, _, _, _, _, _, _, _, _, _, _, _, _, _, _, tx10, _, _, rfl, rfl, ⟨(fun _ => hbe), (fun _ => ⟨rfl, rfl⟩), (fun h => by cases h), H.d5, H.d6, H.d7, H.d8, (fun h => by cases h), (fun h => by cases h), (fun h => by cases h), H.tk, H.t4, H.t5, H.h0, H.h1, H.h2, (fun _ => rfl), (fun h => by cases h), (fun h => by cases h), (fun h => by cases h), H.h7, H.h8, H.h9, (fun h => by cases h), H.h11, H.h12⟩⟩
          · have ho := hoj
            simp only [List.getElem?_toArray, List.getElem?_cons_succ, List.getElem?_cons_zero, Option.some.injEq] at hoj
            subst hoj
            obtain rfl : tb4 = false := hun
            obtain rfl : tb0 = true := hall ⟨0, .data⟩ (by simp) (by kernel_rfl)
            obtain rfl : tb3 = true := hall ⟨3, .data⟩ (by simp) (by kernel_rfl)
            obtain rfl : tb1 = true := (H.d3 rfl).1
            obtain rfl : tb2 = true := (H.d3 rfl).2
            clear hall
            obtain rfl : tb5 = false := Bool.eq_false_iff.2 fun h => Bool.false_ne_true (H.d5 h)
            obtain rfl : tb6 = false := Bool.eq_false_iff.2 fun h => Bool.false_ne_true (H.d6 h)
            obtain rfl : tb7 = false := Bool.eq_false_iff.2 fun h => Bool.false_ne_true (H.d7 h)
            obtain rfl : tb8 = false := Bool.eq_false_iff.2 fun h => Bool.false_ne_true (H.d8 h)
            obtain rfl : tb10 = false := Bool.eq_false_iff.2 fun h => Bool.false_ne_true (H.d10 h).2.2.2.2.1
            obtain rfl : tb11 = false := Bool.eq_false_iff.2 fun h => Bool.false_ne_true (H.d11 h).2.2.2.2.1
            obtain rfl : tb12 = false := Bool.eq_false_iff.2 fun h => Bool.false_ne_true (H.d12 h).2.2.2.2.1
            have hbe := H.be rfl
            have hx_tk := H.tk rfl
            have hx_t4 := H.t4
            have hx_t5 := H.t5
            obtain rfl := H.h0 rfl
            obtain rfl := H.h1 rfl
            obtain rfl := H.h2 rfl
            obtain rfl := H.h3 rfl
            refine wpOp_step ho (fun K' hK => ?_)
            have HK := Lib.hid hK
            clear hK ho
            go_wp2_with fail
            refine (HAP.out _ hx_tk.b hx_tk.v).mono ?_
            rintro e w9 ⟨tb9, v9, rfl, hv9⟩
            have BC := Lib.hid tb9
            have VC := Lib.hid hv9
            clear tb9 hv9
            go_wp2_with fail
            exact HK.out _ _ ⟨_, _, _, _, _, _, _, _, _, _, _, _, _, _, _, _, _, _, _, _, _, _, _, tx10, _, _, rfl, rfl, ⟨(fun _ => hbe.trans (BC.out.mono hbe.size)), H.d3, (fun _ => ⟨rfl, rfl⟩), (fun h => by cases h), H.d6, H.d7, H.d8, (fun h => by cases h), (fun h => by cases h), (fun h => by cases h), (fun _ => TKA.later hx_tk BC.out), fun _ => ⟨_, rfl⟩, hx_t5, H.h0, H.h1, H.h2, H.h3, (fun _ _ => ⟨_, rfl, VC.out⟩), (fun h => by cases h), (fun h => by cases h), H.h7, H.h8, (fun e f => let ⟨q, e1, e2, e3⟩ := (H.h9 e f); ⟨q, e1, e2, (BC.out.block _ (lt_of_block e3)).trans e3⟩), (fun h => by cases h), H.h11, H.h12⟩⟩
          · have ho := hoj
            simp only [List.getElem?_toArray, List.getElem?_cons_succ, List.getElem?_cons_zero, Option.some.injEq] at hoj
            subst hoj
            obtain rfl : tb5 = false := hun
            obtain rfl : tb4 = true := hall ⟨4, .data⟩ (by simp) (by kernel_rfl)
            obtain rfl : tb0 = true := (H.d4 rfl).1
            obtain rfl : tb3 = true := (H.d4 rfl).2
            obtain rfl : tb1 = true := (H.d3 rfl).1
            obtain rfl : tb2 = true := (H.d3 rfl).2
            clear hall
            obtain rfl : tb6 = false := Bool.eq_false_iff.2 fun h => Bool.false_ne_true (H.d6 h)
            obtain rfl : tb7 = false := Bool.eq_false_iff.2 fun h => Bool.false_ne_true (H.d7 h)
            obtain rfl : tb8 = false := Bool.eq_false_iff.2 fun h => Bool.false_ne_true (H.d8 h)
            obtain rfl : tb10 = false := Bool.eq_false_iff.2 fun h => Bool.false_ne_true (H.d10 h).2.2.2.2.2.1
            obtain rfl : tb11 = false := Bool.eq_false_iff.2 fun h => Bool.false_ne_true (H.d11 h).2.2.2.2.2.1
            obtain rfl : tb12 = false := Bool.eq_false_iff.2 fun h => Bool.false_ne_true (H.d12 h).2.2.2.2.2.1
            have hbe := H.be rfl
            have hx_tk := H.tk rfl
            have hx_t4 := H.t4
            have hx_t5 := H.t5
            obtain rfl := H.h0 rfl
            obtain rfl := H.h1 rfl
            obtain rfl := H.h2 rfl
            obtain rfl := H.h3 rfl
            have P4 := H.h4 rfl rfl
            have PT := Lib.hid P4
            have TT := Lib.hid (H.t4 rfl)
            clear P4
            refine wpOp_step ho (fun K' hK => ?_)
            have HK := Lib.hid hK
            clear hK ho
            go_simp
            exact HK.out _ _ ⟨_, _, _, _, _, _, _, _, _, _, _, _, _, _, _, _, _, _, _, _, _, _, _, tx10, _, _, rfl, rfl, ⟨(fun _ => hbe), H.d3, H.d4, (fun _ => rfl), (fun h => by cases h), (fun h => by cases h), (fun h => by cases h), (fun h => by cases h), (fun h => by cases h), (fun h => by cases h), H.tk, H.t4, fun _ => TT.out, H.h0, H.h1, H.h2, H.h3, H.h4, (fun _ _ => PT.out), (fun h => by cases h), H.h7, H.h8, H.h9, (fun h => by cases h), H.h11, H.h12⟩⟩
          · have ho := hoj
            simp only [List.getElem?_toArray, List.getElem?_cons_succ, List.getElem?_cons_zero, Option.some.injEq] at hoj
            subst hoj
            obtain rfl : tb6 = false := hun
            obtain rfl : tb5 = true := hall ⟨5, .data⟩ (by simp) (by kernel_rfl)
            obtain rfl : tb4 = true := (H.d5 rfl)
            obtain rfl : tb0 = true := (H.d4 rfl).1
            obtain rfl : tb3 = true := (H.d4 rfl).2
            obtain rfl : tb1 = true := (H.d3 rfl).1
            obtain rfl : tb2 = true := (H.d3 rfl).2
            clear hall
            obtain rfl : tb10 = false := Bool.eq_false_iff.2 fun h => Bool.false_ne_true (H.d10 h).2.2.2.2.2.2.1
            obtain rfl : tb11 = false := Bool.eq_false_iff.2 fun h => Bool.false_ne_true (H.d11 h).2.2.2.2.2.2.1
            obtain rfl : tb12 = false := Bool.eq_false_iff.2 fun h => Bool.false_ne_true (H.d12 h).2.2.2.2.2.2.1
            have hbe := H.be rfl
            have hx_tk := H.tk rfl
            have hx_t4 := H.t4
            have hx_t5 := H.t5
            obtain rfl := H.h0 rfl
            obtain rfl := H.h1 rfl
            obtain rfl := H.h2 rfl
            obtain rfl := H.h3 rfl
            have P4 := H.h4 rfl rfl
            have P5 := H.h5 rfl rfl
            obtain ⟨u, rfl, hu⟩ := P5
            have HU := Lib.hid hu
            clear hu
            refine wpOp_step ho (fun K' hK => ?_)
            have HK := Lib.hid hK
            clear hK ho
            go_simp
            exact HK.out _ _ ⟨_, _, _, _, _, _, _, _, _, _, _, _, _, _, _, _, _, _, _, _, _, _, _, tx10, _, _, rfl, rfl, ⟨(fun _ => hbe), H.d3, H.d4, H.d5, (fun _ => rfl), H.d7, H.d8, (fun h => by cases h), (fun h => by cases h), (fun h => by cases h), H.tk, H.t4, H.t5, H.h0, H.h1, H.h2, H.h3, H.h4, H.h5, (fun _ _ => HU.out), H.h7, H.h8, H.h9, (fun h => by cases h), H.h11, H.h12⟩⟩
          · have ho := hoj
            simp only [List.getElem?_toArray, List.getElem?_cons_succ, List.getElem?_cons_zero, Option.some.injEq] at hoj
            subst hoj
            obtain rfl : tb7 = false := hun
            obtain rfl : tb5 = true := hall ⟨5, .data⟩ (by simp) (by kernel_rfl)
            obtain rfl : tb4 = true := (H.d5 rfl)
            obtain rfl : tb0 = true := (H.d4 rfl).1
            obtain rfl : tb3 = true := (H.d4 rfl).2
            obtain rfl : tb1 = true := (H.d3 rfl).1
            obtain rfl : tb2 = true := (H.d3 rfl).2
            clear hall
            obtain rfl : tb11 = false := Bool.eq_false_iff.2 fun h => Bool.false_ne_true (H.d11 h).2.2.2.2.2.2.2.1
            obtain rfl : tb12 = false := Bool.eq_false_iff.2 fun h => Bool.false_ne_true (H.d12 h).2.2.2.2.2.2.2.1
            have hx_t4 := H.t4
            have hx_t5 := H.t5
            obtain rfl := H.h0 rfl
            obtain rfl := H.h1 rfl
            obtain rfl := H.h2 rfl
            obtain rfl := H.h3 rfl
            obtain ⟨u, rfl⟩ := H.t5 rfl
            refine wpOp_step ho (fun K' hK => ?_)
            have HK := Lib.hid hK
            clear hK ho
            go_simp
            exact HK.out _ _ ⟨_, _, _, _, _, _, _, _, _, _, _, _, _, _, _, _, _, _, _, _, _, _, _, tx10, _, _, rfl, rfl, ⟨H.be, H.d3, H.d4, H.d5, H.d6, (fun _ => rfl), H.d8, H.d10, (fun h => by cases h), (fun h => by cases h), H.tk, H.t4, H.t5, H.h0, H.h1, H.h2, H.h3, H.h4, H.h5, H.h6, (fun _ => rfl), H.h8, H.h9, H.h10, H.h11, H.h12⟩⟩
          · have ho := hoj
            simp only [List.getElem?_toArray, List.getElem?_cons_succ, List.getElem?_cons_zero, Option.some.injEq] at hoj
            subst hoj
            obtain rfl : tb8 = false := hun
            obtain rfl : tb5 = true := hall ⟨5, .data⟩ (by simp) (by kernel_rfl)
            obtain rfl : tb4 = true := (H.d5 rfl)
            obtain rfl : tb0 = true := (H.d4 rfl).1
            obtain rfl : tb3 = true := (H.d4 rfl).2
            obtain rfl : tb1 = true := (H.d3 rfl).1
            obtain rfl : tb2 = true := (H.d3 rfl).2
            clear hall
            obtain rfl : tb12 = false := Bool.eq_false_iff.2 fun h => Bool.false_ne_true (H.d12 h).2.2.2.2.2.2.2.2.1
            have hx_t4 := H.t4
            have hx_t5 := H.t5
            obtain rfl := H.h0 rfl
            obtain rfl := H.h1 rfl
            obtain rfl := H.h2 rfl
            obtain rfl := H.h3 rfl
            obtain ⟨u, rfl⟩ := H.t5 rfl
            refine wpOp_step ho (fun K' hK => ?_)
            have HK := Lib.hid hK
            clear hK ho
            go_simp
            exact HK.out _ _ ⟨_, _, _, _, _, _, _, _, _, _, _, _, _, _, _, _, _, _, _, _, _, _, _, tx10, _, _, rfl, rfl, ⟨H.be, H.d3, H.d4, H.d5, H.d6, H.d7, (fun _ => rfl), H.d10, H.d11, (fun h => by cases h), H.tk, H.t4, H.t5, H.h0, H.h1, H.h2, H.h3, H.h4, H.h5, H.h6, H.h7, (fun _ => rfl), H.h9, H.h10, H.h11, H.h12⟩⟩
          · have ho := hoj
            simp only [List.getElem?_toArray, List.getElem?_cons_succ, List.getElem?_cons_zero, Option.some.injEq] at hoj
            subst hoj
            obtain rfl : tb9 = false := hun
            clear hall
            obtain rfl : tb10 = false := Bool.eq_false_iff.2 fun h => Bool.false_ne_true (H.d10 h).2.2.2.2.2.2.2
            obtain rfl : tb11 = false := Bool.eq_false_iff.2 fun h => Bool.false_ne_true (H.d11 h).2.2.2.2.2.2.2.2.1
            obtain rfl : tb12 = false := Bool.eq_false_iff.2 fun h => Bool.false_ne_true (H.d12 h).2.2.2.2.2.2.2.2.2.1
            have hbe := H.be rfl
            have hx_tk := H.tk rfl
            have hx_t4 := H.t4
            have hx_t5 := H.t5
            have BA := Lib.hid ((Below.refl w.heap.size w).alloc (Nat.le_refl _) (.cells #[.int .i64 0, .int .i64 0, .slice none 0 0] 24))
            have NA := Lib.hid (heap_alloc_new w (.cells #[.int .i64 0, .int .i64 0, .slice none 0 0] 24))
            have hsz := hbe.size
            refine wpOp_step ho (fun K' hK => ?_)
            have HK := Lib.hid hK
            clear hK ho
            go_simp
            exact HK.out _ _ ⟨_, _, _, _, _, _, _, _, _, _, _, _, _, _, _, _, _, _, _, _, _, _, _, tx10, _, _, rfl, rfl, ⟨(fun _ => hbe.trans (BA.out.mono hbe.size)), H.d3, H.d4, H.d5, H.d6, H.d7, H.d8, (fun h => by cases h), (fun h => by cases h), (fun h => by cases h), (fun _ => TKA.later hx_tk BA.out), hx_t4, hx_t5, H.h0, H.h1, H.h2, H.h3, (fun e f => let ⟨u, e1, e2⟩ := (H.h4 e f); ⟨u, e1, e2.on BA.out⟩), (fun e f => let ⟨u, e1, e2⟩ := (H.h5 e f); ⟨u, e1, e2.on BA.out⟩), (fun e f => (H.h6 e f).on BA.out), H.h7, H.h8, (fun _ _ => ⟨_, rfl, hsz, NA.out⟩), (fun h => by cases h), H.h11, H.h12⟩⟩
          · have ho := hoj
            simp only [List.getElem?_toArray, List.getElem?_cons_succ, List.getElem?_cons_zero, Option.some.injEq] at hoj
            subst hoj
            obtain rfl : tb10 = false := hun
            obtain rfl : tb0 = true := hall ⟨0, .phase⟩ (by simp) (by kernel_rfl)
            obtain rfl : tb1 = true := hall ⟨1, .phase⟩ (by simp) (by kernel_rfl)
            obtain rfl : tb2 = true := hall ⟨2, .phase⟩ (by simp) (by kernel_rfl)
            obtain rfl : tb3 = true := hall ⟨3, .phase⟩ (by simp) (by kernel_rfl)
            obtain rfl : tb4 = true := hall ⟨4, .chain⟩ (by simp) (by kernel_rfl)
            obtain rfl : tb5 = true := hall ⟨5, .phase⟩ (by simp) (by kernel_rfl)
            obtain rfl : tb6 = true := hall ⟨6, .data⟩ (by simp) (by kernel_rfl)
            obtain rfl : tb9 = true := hall ⟨9, .data⟩ (by simp) (by kernel_rfl)
            clear hall
            obtain rfl : tb11 = false := Bool.eq_false_iff.2 fun h => Bool.false_ne_true (H.d11 h).2.2.2.2.2.2.2.2.2
            obtain rfl : tb12 = false := Bool.eq_false_iff.2 fun h => Bool.false_ne_true (H.d12 h).2.2.2.2.2.2.2.2.2.2.1
            have hbe := H.be rfl
            have hx_tk := H.tk rfl
            have hx_t4 := H.t4
            have hx_t5 := H.t5
            obtain rfl := H.h0 rfl
            obtain rfl := H.h1 rfl
            obtain rfl := H.h2 rfl
            obtain rfl := H.h3 rfl
            have P4 := H.h4 rfl rfl
            have P5 := H.h5 rfl rfl
            have P6 := H.h6 rfl rfl
            have P9 := H.h9 rfl rfl
            obtain ⟨q, rfl, hq0, hq⟩ := P9
            obtain ⟨A9, n9, c9, r9, p9, rfl, hv9⟩ := tb_partsR P6
            obtain ⟨k1, gp⟩ := bk3_blk hq (.int .i64 r9) (.int .i64 p9) (.slice A9 n9 c9)
            have KQ := Lib.hid k1
            have VQ := Lib.hid ((hv9.gr hq gp).more gp.size)
            have TKQ := Lib.hid (hx_tk.put hq gp (by have := lt_of_block TK.out.y; omega))
            obtain ⟨q0, q1, q2⟩ := bk3T hq
            have qf := fun i => bk_frz hq i
            clear hq hv9 k1 gp
            refine wpOp_step ho (fun K' hK => ?_)
            have HK := Lib.hid hK
            clear hK ho
            go_simp
            exact HK.out _ _ ⟨_, _, _, _, _, _, _, _, _, _, _, _, _, _, _, _, _, _, _, _, _, _, _, tx10, _, _, rfl, rfl, ⟨(fun h => by cases h), H.d3, H.d4, H.d5, H.d6, H.d7, H.d8, (fun _ => ⟨rfl, rfl, rfl, rfl, rfl, rfl, rfl, rfl⟩), (fun h => by cases h), (fun h => by cases h), (fun h => by cases h), H.t4, H.t5, H.h0, H.h1, H.h2, H.h3, (fun _ h => by cases h), (fun _ h => by cases h), (fun _ h => by cases h), H.h7, H.h8, (fun _ h => by cases h), (fun _ => ⟨_, _, _, _, _, _, rfl, hq0, KQ.out, VQ.out, TKQ.out⟩), H.h11, H.h12⟩⟩
          · have ho := hoj
            simp only [List.getElem?_toArray, List.getElem?_cons_succ, List.getElem?_cons_zero, Option.some.injEq] at hoj
            subst hoj
            obtain rfl : tb11 = false := hun
            obtain rfl : tb0 = true := hall ⟨0, .phase⟩ (by simp) (by kernel_rfl)
            obtain rfl : tb1 = true := hall ⟨1, .phase⟩ (by simp) (by kernel_rfl)
            obtain rfl : tb2 = true := hall ⟨2, .phase⟩ (by simp) (by kernel_rfl)
            obtain rfl : tb3 = true := hall ⟨3, .phase⟩ (by simp) (by kernel_rfl)
            obtain rfl : tb4 = true := hall ⟨4, .phase⟩ (by simp) (by kernel_rfl)
            obtain rfl : tb5 = true := hall ⟨5, .phase⟩ (by simp) (by kernel_rfl)
            obtain rfl : tb6 = true := hall ⟨6, .phase⟩ (by simp) (by kernel_rfl)
            obtain rfl : tb7 = true := hall ⟨7, .data⟩ (by simp) (by kernel_rfl)
            obtain rfl : tb9 = true := hall ⟨9, .phase⟩ (by simp) (by kernel_rfl)
            obtain rfl : tb10 = true := hall ⟨10, .chain⟩ (by simp) (by kernel_rfl)
            clear hall
            obtain rfl : tb12 = false := Bool.eq_false_iff.2 fun h => Bool.false_ne_true (H.d12 h).2.2.2.2.2.2.2.2.2.2.2
            have hx_t4 := H.t4
            have hx_t5 := H.t5
            obtain rfl := H.h0 rfl
            obtain rfl := H.h1 rfl
            obtain rfl := H.h2 rfl
            obtain rfl := H.h3 rfl
            obtain rfl := H.h7 rfl
            have P10 := H.h10 rfl
            refine wpOp_step ho (fun K' hK => ?_)
            have HK := Lib.hid hK
            clear hK ho
            go_simp
            exact HK.out _ _ ⟨_, _, _, _, _, _, _, _, _, _, _, _, _, _, _, _, _, _, _, _, _, _, _, tx10, _, _, rfl, rfl, ⟨(fun h => by cases h), H.d3, H.d4, H.d5, H.d6, H.d7, H.d8, H.d10, (fun _ => ⟨rfl, rfl, rfl, rfl, rfl, rfl, rfl, rfl, rfl, rfl⟩), (fun h => by cases h), (fun h => by cases h), H.t4, H.t5, H.h0, H.h1, H.h2, H.h3, (fun _ h => by cases h), (fun _ h => by cases h), (fun _ h => by cases h), H.h7, H.h8, (fun _ h => by cases h), H.h10, (fun _ => rfl), H.h12⟩⟩
          · have ho := hoj
            simp only [List.getElem?_toArray, List.getElem?_cons_succ, List.getElem?_cons_zero, Option.some.injEq] at hoj
            subst hoj
            obtain rfl : tb12 = false := hun
            obtain rfl : tb0 = true := hall ⟨0, .phase⟩ (by simp) (by kernel_rfl)
            obtain rfl : tb1 = true := hall ⟨1, .phase⟩ (by simp) (by kernel_rfl)
            obtain rfl : tb2 = true := hall ⟨2, .phase⟩ (by simp) (by kernel_rfl)
            obtain rfl : tb3 = true := hall ⟨3, .phase⟩ (by simp) (by kernel_rfl)
            obtain rfl : tb4 = true := hall ⟨4, .phase⟩ (by simp) (by kernel_rfl)
            obtain rfl : tb5 = true := hall ⟨5, .phase⟩ (by simp) (by kernel_rfl)
            obtain rfl : tb6 = true := hall ⟨6, .phase⟩ (by simp) (by kernel_rfl)
            obtain rfl : tb7 = true := hall ⟨7, .phase⟩ (by simp) (by kernel_rfl)
            obtain rfl : tb8 = true := hall ⟨8, .data⟩ (by simp) (by kernel_rfl)
            obtain rfl : tb9 = true := hall ⟨9, .phase⟩ (by simp) (by kernel_rfl)
            obtain rfl : tb10 = true := hall ⟨10, .phase⟩ (by simp) (by kernel_rfl)
            obtain rfl : tb11 = true := hall ⟨11, .chain⟩ (by simp) (by kernel_rfl)
            clear hall
            have hx_t4 := H.t4
            have hx_t5 := H.t5
            obtain rfl := H.h0 rfl
            obtain rfl := H.h1 rfl
            obtain rfl := H.h2 rfl
            obtain rfl := H.h3 rfl
            obtain rfl := H.h7 rfl
            obtain rfl := H.h8 rfl
            have P10 := H.h10 rfl
            obtain rfl := H.h11 rfl
            refine wpOp_step ho (fun K' hK => ?_)
            have HK := Lib.hid hK
            clear hK ho
            go_simp
            exact HK.out _ _ ⟨_, _, _, _, _, _, _, _, _, _, _, _, _, _, _, _, _, _, _, _, _, _, _, tx10, _, _, rfl, rfl, ⟨(fun h => by cases h), H.d3, H.d4, H.d5, H.d6, H.d7, H.d8, H.d10, H.d11, (fun _ => ⟨rfl, rfl, rfl, rfl, rfl, rfl, rfl, rfl, rfl, rfl, rfl, rfl⟩), (fun h => by cases h), H.t4, H.t5, H.h0, H.h1, H.h2, H.h3, (fun _ h => by cases h), (fun _ h => by cases h), (fun _ h => by cases h), H.h7, H.h8, (fun _ h => by cases h), H.h10, H.h11, (fun _ => rfl)⟩⟩
          · have ho := hoj
            simp at ho
        case hfin =>
          rintro listed a w ⟨tb0, tb1, tb2, tb3, tb4, tb5, tb6, tb7, tb8, tb9, tb10, tb11, tb12, tx0, tx1, tx2, tx3, tx4, tx5, tx6, tx7, tx8, tx9, tx10, tx11, tx12, rfl, rfl, H⟩ hr
          have hb : tb12 = true := by
            clear H
            obtain rfl : tb0 = true := by
              cases tb0
              · exact absurd hr (ready_ne4 (by kernel_rfl))
              · rfl
            obtain rfl : tb1 = true := by
              cases tb1
              · exact absurd hr (ready_ne4 (by kernel_rfl))
              · rfl
            obtain rfl : tb2 = true := by
              cases tb2
              · exact absurd hr (ready_ne4 (by kernel_rfl))
              · rfl
            obtain rfl : tb3 = true := by
              cases tb3
              · exact absurd hr (ready_ne4 (by kernel_rfl))
              · rfl
            obtain rfl : tb4 = true := by
              cases tb4
              · exact absurd hr (ready_ne4 (by kernel_rfl))
              · rfl
            obtain rfl : tb5 = true := by
              cases tb5
              · exact absurd hr (ready_ne4 (by kernel_rfl))
              · rfl
            obtain rfl : tb6 = true := by
              cases tb6
              · exact absurd hr (ready_ne4 (by kernel_rfl))
              · rfl
            obtain rfl : tb7 = true := by
              cases tb7
              · exact absurd hr (ready_ne4 (by kernel_rfl))
              · rfl
            obtain rfl : tb8 = true := by
              cases tb8
              · exact absurd hr (ready_ne4 (by kernel_rfl))
              · rfl
            obtain rfl : tb9 = true := by
              cases tb9
              · exact absurd hr (ready_ne4 (by kernel_rfl))
              · rfl
            obtain rfl : tb10 = true := by
              cases tb10
              · exact absurd hr (ready_ne4 (by kernel_rfl))
              · rfl
            obtain rfl : tb11 = true := by
              cases tb11
              · exact absurd hr (ready_ne4 (by kernel_rfl))
              · rfl
            obtain rfl : tb12 = true := by
              cases tb12
              · exact absurd hr (ready_ne4 (by kernel_rfl))
              · rfl
            rfl
          subst hb
          clear hr
          obtain rfl : tb0 = true := (H.d12 rfl).1
          obtain rfl : tb1 = true := (H.d12 rfl).2.1
          obtain rfl : tb2 = true := (H.d12 rfl).2.2.1
          obtain rfl : tb3 = true := (H.d12 rfl).2.2.2.1
          obtain rfl : tb4 = true := (H.d12 rfl).2.2.2.2.1
          obtain rfl : tb5 = true := (H.d12 rfl).2.2.2.2.2.1
          obtain rfl : tb6 = true := (H.d12 rfl).2.2.2.2.2.2.1
          obtain rfl : tb7 = true := (H.d12 rfl).2.2.2.2.2.2.2.1
          obtain rfl : tb8 = true := (H.d12 rfl).2.2.2.2.2.2.2.2.1
          obtain rfl : tb9 = true := (H.d12 rfl).2.2.2.2.2.2.2.2.2.1
          obtain rfl : tb10 = true := (H.d12 rfl).2.2.2.2.2.2.2.2.2.2.1
          obtain rfl : tb11 = true := (H.d12 rfl).2.2.2.2.2.2.2.2.2.2.2
          obtain ⟨q, A9, n9, c9, r9, p9, e9, hq0, hq, hv9, tk⟩ := H.h10 rfl
          have e7 := H.h11 rfl
          have e8 := H.h12 rfl
          have TKQ := Lib.hid tk
          have HQ := Lib.hid hq
          have HVQ := Lib.hid hv9
          have hqW : W.heap.size + 2 ≤ q := by have := lt_of_block TK.out.y; omega
          clear tk hq hv9 H hq0 TK
          obtain ⟨w4, hw4⟩ : ∃ x, x = w := ⟨_, rfl⟩
          subst w
          subst e7 e8 e9
          by_cases hy : y = 0
          · subst hy
            obtain ⟨i0, i1⟩ := HIN.out rfl
            obtain ⟨kn, rfl⟩ : ∃ kn : Nat, k = kn := ⟨k.toNat, by omega⟩
            have HLE := Lib.hid (show appsR g T2 b (K + kn) = R by rw [HLS.out, if_neg (by decide), if_neg (fun k => k rfl), Int.toNat_natCast])
            have hbl := HBL.out
            have hwr : IntKind.i64.wrap ((K : Int) + (kn : Int)) = ((K + kn : Nat) : Int) := by rw [IntKind.wrap_i64]; omega
            have HWF2 := Lib.hid (HWF.out rfl)
            obtain ⟨q0, q1, q2⟩ := bk3T HQ.out
            have zf := fun j => bk_frz TKQ.out.z j
            obtain ⟨z0, z1, z2⟩ := bk3T TKQ.out.z
            obtain ⟨kz, gz⟩ := bk3_blk TKQ.out.z (.int .i64 r9) (.int .i64 p9) (.slice A9 n9 c9)
            have TKN := Lib.hid (TKQ.out.set kz gz HVQ.out)
            clear HLS HIN kz gz HWF
            go_wp2_with fail
            go_roundg g
            case measure => omega
            case rel => exact ⟨K + kn, T2, A9, n9, c9, r9, p9, by first | rfl | go_num, by omega, by omega, HLE, HWF2, TKN.out.z, TKN⟩
          · by_cases h4 : y = 4
            · subst h4
              obtain rfl : R = (T, (K : Int), 0) := by rw [HLS.out, if_pos rfl]
              obtain ⟨q0, q1, q2⟩ := bk3T TKQ.out.z
              have zf := fun j => bk_frz TKQ.out.z j
              have yf := fun j => bk_frz TKQ.out.y j
              obtain ⟨y0, y1, y2⟩ := bk3T TKQ.out.y
              clear HLS HIN HWF hy
              go_wp2_with fail
              obtain ⟨k1, gp⟩ := bk3_blk TKQ.out.y (.int .i64 r1) (.int .i64 p1) (.slice A1 n1 c1)
              obtain ⟨r0, r1', r2⟩ := bk3T k1
              refine bodyPost_ret (by simp [results, Try.results20, go_sem, r0, r1', r2]; try rfl) rfl ?_
              exact ⟨gr_from TKQ.out.b TKQ.out.b.size (Nat.le_succ _) gp, _, rfl, (TKQ.out.v.gr TKQ.out.y gp).more gp.size⟩
            · obtain rfl : R = (tb0, 0, y) := by rw [HLS.out, if_neg h4, if_pos hy]
              have e4 : (y == 4) = false := by simp [h4]
              have e5 : (y == 0) = false := by simp [hy]
              have yf := fun j => bk_frz TKQ.out.y j
              obtain ⟨y0, y1, y2⟩ := bk3T TKQ.out.y
              clear HLS HIN h4 hy HWF
              go_wp2_with fail
              obtain ⟨k1, gp⟩ := bk3_blk TKQ.out.y (.int .i64 0) (.int .i64 0) (.slice none 0 0)
              obtain ⟨r0, r1', r2⟩ := bk3T k1
              refine bodyPost_ret (by simp [results, Try.results20, go_sem, r0, r1', r2]; try rfl) rfl ?_
              exact ⟨gr_from TKQ.out.b TKQ.out.b.size (Nat.le_succ _) gp, _, rfl, TbVal.zero _ _⟩
  · rw [if_pos h0]
    have e1 : (x != 0) = true := by simp [h0]
    clear h0 HFW
    go_enter Try.func20, Try.ntmps20
    go_wp2_with (go_at_call 32; refine (HFT.out _ B0.out).mono ?_; rintro e w1 ⟨rfl, b1⟩; have TK1 := Lib.hid (TK0.out.later b1); clear b1; obtain ⟨q0, q1, q2⟩ := bk3T TK1.out.z; have zf := fun j => bk_frz TK1.out.z j; obtain ⟨y0, y1, y2⟩ := bk3T TK1.out.y; have yf := fun j => bk_frz TK1.out.y j)
    obtain ⟨k1, gp⟩ := bk3_blk TK1.out.y (.int .i64 0) (.int .i64 0) (.slice none 0 0)
    obtain ⟨r0, r1', r2⟩ := bk3T k1
    refine bodyPost_ret (by simp [results, Try.results20, go_sem, r0, r1', r2]; try rfl) rfl ?_
    exact ⟨gr_from TK1.out.b TK1.out.b.size (Nat.le_succ _) gp, _, rfl, TbVal.zero _ _⟩
end Go.Proofs.Ytlddbojfikkhfaa
