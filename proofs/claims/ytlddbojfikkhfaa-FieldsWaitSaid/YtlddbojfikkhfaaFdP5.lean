/- The project's fields: change. -/
import Derived.Test.YtlddbojfikkhfaaFdP2
import Derived.Test.YtlddbojfikkhfaaTabP5
import Derived.Test.YtlddbojfikkhfaaTabP6
import Derived.Test.YtlddbojfikkhfaaGrpG
namespace Go.Proofs.Ytlddbojfikkhfaa.P
set_option linter.unusedVariables false
open Go.RowKit
/-- what the project's change says -/
def chgR (t : Tb) (b : List Int) : Tb × Int × Int :=
  if 64 ≤ b.getD 0 0 ∧ b.getD 0 0 < 96 then (if (pairR b 5).2.2 ≠ 0 then (tb0, 0, (pairR b 5).2.2) else ((insT t (pairR b 5).1).1, (pairR b 5).2.1, (insT t (pairR b 5).1).2))
  else if 32 ≤ b.getD 0 0 ∧ b.getD 0 0 < 64 then (if (pxR b 5).2.2 ≠ 0 then (tb0, 0, (pxR b 5).2.2) else ((resT t (pxR b 5).1).1, (pxR b 5).2.1, (resT t (pxR b 5).1).2))
  else (tb0, 0, 2)
theorem chgR_app (t : Tb) (b : List Int) : (chgR t b).2.2 = (appR t b).2.2 ∧ ((appR t b).2.2 = 0 → chgR t b = appR t b) := by
  unfold chgR appR
  by_cases c1 : 32 ≤ b.getD 0 0 ∧ b.getD 0 0 < 64
  · rw [if_neg (by omega), if_pos c1, if_pos c1]
    by_cases x : (pxR b 5).2.2 ≠ 0
    · rw [if_pos x, if_pos x]; exact ⟨rfl, fun k => absurd k x⟩
    · rw [if_neg x, if_neg x]; exact ⟨rfl, fun _ => rfl⟩
  · rw [if_neg c1, if_neg c1]
    by_cases c2 : 64 ≤ b.getD 0 0 ∧ b.getD 0 0 < 96
    · rw [if_pos c2, if_pos c2]
      unfold pairR
      by_cases x : (pxTR b 5).2.2 ≠ 0
      · rw [if_pos x, if_pos x, if_pos x]; exact ⟨rfl, fun k => absurd k x⟩
      · rw [if_neg x, if_neg x]
        by_cases z : (pxTR (b.drop (pxTR b 5).2.1.toNat) 7).2.2 ≠ 0
        · rw [if_pos z, if_pos z, if_pos z]; exact ⟨rfl, fun k => absurd k z⟩
        · rw [if_neg z, if_neg z, if_neg (fun k => k rfl)]; exact ⟨rfl, fun _ => rfl⟩
    · rw [if_neg c2, if_neg c2]; exact ⟨rfl, fun k => by cases k⟩
theorem pairR_wf {b : List Int} (wi : Int) (hb : Byt b) (hl : b.length ≤ 140737488355328) (h : (pairR b wi).2.2 = 0) : FdWf (pairR b wi).1 := by
  unfold pairR at h ⊢
  by_cases x : (pxTR b wi).2.2 ≠ 0
  · rw [if_pos x] at h; exact absurd h x
  · rw [if_neg x] at h ⊢
    by_cases z : (pxTR (b.drop (pxTR b wi).2.1.toNat) 7).2.2 ≠ 0
    · rw [if_pos z] at h; exact absurd h z
    · rw [if_neg z]
      have h1 := pxTR_wf wi hb
      have h2 := pxTR_wf 7 (hb.drop (pxTR b wi).2.1.toNat)
      rw [List.length_drop] at h2
      exact ⟨h1.1, h2.1, Nat.le_trans h1.2 hl, by simp only; omega⟩
end Go.Proofs.Ytlddbojfikkhfaa.P
namespace Go.Proofs.Ytlddbojfikkhfaa
set_option linter.unusedVariables false
open Go.RowKit P

set_option maxRecDepth 100000 in
set_option maxHeartbeats 1000000 in
theorem change_any (v : Value) (t : Tb) (s : Value) (b : List Int) (W : World) (hv : TbVal W W.heap.size v t) (hw : TbWf t) (hs : BSl W W.heap.size s b) (hl : b.length ≤ 140737488355328) (h0 : 0 < b.length) :
    Calls Try.prog 47 #[v, s] W (TbRes3 (chgR t b) W) := by
  obtain ⟨At, cp, rfl⟩ := tb_slicesR hv
  have HTR := Lib.hid (fun n w (hb : Below W.heap.size W w) (hv : TbVal w w.heap.size (.agg #[.int .i64 t.room, .int .i64 t.put, .slice At t.rows.length cp]) t) => tres_any _ t n w hv hw)
  have HTI := Lib.hid (fun f hf w (hb : Below W.heap.size W w) (hv : TbVal w w.heap.size (.agg #[.int .i64 t.room, .int .i64 t.put, .slice At t.rows.length cp]) t) => tins_any _ t f w hv hw hf)
  have HPX := Lib.hid (fun w' (hb : Below W.heap.size W w') => pxDec_any s b 5 w' (bsl_onF hs hb) hl (by decide) (by decide))
  have HPR := Lib.hid (fun w' (hb : Below W.heap.size W w') => readPair_any s b 5 w' (bsl_onF hs hb) hl (by decide) (by decide))
  obtain ⟨A0, c0, rfl, hc0, hm0, hn0, hr0⟩ := hs.ex
  have HBY := Lib.hid hr0.1
  have HBL := Lib.hid hl
  have hc := hr0.1 0
  obtain ⟨gb, off, rfl, hg, hcell⟩ := hr0.2 h0
  have hce := hcell 0 h0
  rw [Nat.add_zero] at hce
  have HCE := Lib.hid (fun w' (hb : Below W.heap.size W w') => (hb.cell (p := ⟨gb, off, none⟩) hg).trans hce)
  obtain ⟨c, hcc⟩ : ∃ c, b.getD 0 0 = c := ⟨_, rfl⟩
  have HCC := Lib.hid hcc
  rw [hcc] at hc HCE
  replace hc : 0 ≤ c ∧ c < 256 := by omega
  obtain ⟨M, hM⟩ : ∃ M, b.length = M := ⟨_, rfl⟩
  rw [hM] at HPX HPR h0 hl hc0 HBL ⊢
  have h0I : (0 : Int) < (M : Int) := by omega
  obtain ⟨g1, g2, g3⟩ := two_bk W #[.int .i64 t.room, .int .i64 t.put, .slice At t.rows.length cp] #[.int .i64 0, .int .i64 0, .slice none 0 0] 24 24
  have Z0 := Lib.hid g1
  have Y0 := Lib.hid g2
  have B0 := Lib.hid g3
  have HV0 := Lib.hid (hv.on g3)
  have HCL := Lib.hid hM
  unfold TbRes3
  rw [← hM] at HBL
  clear hce hcell hr0 hs hv hw hcc hM hn0 hg g1 g2 g3 hm0 hc0 hl
  by_cases c1 : 64 ≤ c ∧ c < 96
  · have HR := Lib.hid (show chgR t b = if (pairR b 5).2.2 ≠ 0 then (tb0, 0, (pairR b 5).2.2) else ((insT t (pairR b 5).1).1, (pairR b 5).2.1, (insT t (pairR b 5).1).2) by unfold chgR; rw [HCC.out, if_pos c1])
    rw [HR.out]
    have HP := Lib.hid HPR.out
    have HWF := Lib.hid (fun h => pairR_wf (b := b) 5 HBY.out HBL.out h)
    obtain ⟨⟨f, u, x⟩, hr⟩ : ∃ r, pairR b 5 = r := ⟨_, rfl⟩
    rw [hr] at HP HWF ⊢
    unfold fdRV fdV at HP
    dsimp only at HP HWF ⊢
    obtain ⟨R1, hR1⟩ : ∃ S, strOfNums f.name = S := ⟨_, rfl⟩
    obtain ⟨R2, hR2⟩ : ∃ S, strOfNums f.val = S := ⟨_, rfl⟩
    rw [hR1, hR2] at HP
    have HB0 := Lib.hid (show ∀ w, Calls Try.prog 67 #[.int .u8 c, .int .u8 64, .int .i64 5] w fun e w' => e = .returned (.bool true) ∧ Below w.heap.size w w' from fun w => by have := begins_any c 64 5 32 hc (by decide) w; rwa [show decide (((64) : Int) ≤ c ∧ c < 64 + 32) = true by simp; omega] at this)
    clear hr HR HPR HPX HTR hc
    by_cases hx : x = 0
    · subst hx
      rw [if_neg (fun k => k rfl)]
      have HT0 := Lib.hid (HTI.out f (HWF.out rfl))
      unfold fdV at HT0
      rw [hR1, hR2] at HT0
      clear hR1 hR2 HTI HWF
      obtain ⟨⟨T, z⟩, hT⟩ : ∃ r, insT t f = r := ⟨_, rfl⟩
      rw [hT] at HT0 ⊢
      unfold TbRes at HT0
      dsimp only at HT0 ⊢
      clear hT
      obtain ⟨room, put, rows⟩ := t
      dsimp only at Z0 Y0 HV0 B0 HT0 ⊢
      obtain ⟨N, hN⟩ : ∃ n, rows.length = n := ⟨_, rfl⟩
      rw [hN] at Z0 Y0 HV0 B0 HT0 ⊢
      obtain ⟨z0, z1, z2⟩ := bk3T Z0.out
      have zf := fun j => bk_frz Z0.out j
      obtain ⟨y0, y1, y2⟩ := bk3T Y0.out
      have yf := fun j => bk_frz Y0.out j
      have hce := HCE.out _ B0.out
      go_enter Try.func47, Try.ntmps47
      go_wp2_with fail
      refine (HB0.out _).mono ?_
      clear z0 z1 z2 y0 y1 y2 zf yf hce
      rintro e w1 ⟨rfl, b1⟩
      have B1 := Lib.hid (B0.out.trans (b1.mono B0.out.size))
      have Z1 := Lib.hid ((b1.block _ (lt_of_block Z0.out)).trans Z0.out)
      have Y1 := Lib.hid ((b1.block _ (lt_of_block Y0.out)).trans Y0.out)
      have HV1 := Lib.hid (HV0.out.on b1)
      clear b1
      obtain ⟨z0, z1, z2⟩ := bk3T Z1.out
      have zf := fun j => bk_frz Z1.out j
      obtain ⟨y0, y1, y2⟩ := bk3T Y1.out
      have yf := fun j => bk_frz Y1.out j
      have hce := HCE.out _ B1.out
      go_wp2_with fail
      refine (HP.out _ B1.out).mono ?_
      clear z0 z1 z2 y0 y1 y2 zf yf hce
      rintro e w2 ⟨rfl, b2⟩
      have B2 := Lib.hid (B1.out.trans (b2.mono B1.out.size))
      have Z2 := Lib.hid ((b2.block _ (lt_of_block Z1.out)).trans Z1.out)
      have Y2 := Lib.hid ((b2.block _ (lt_of_block Y1.out)).trans Y1.out)
      have HV2 := Lib.hid (HV1.out.on b2)
      clear b2
      have B3 := Lib.hid (B2.out.alloc B2.out.size (.cells #[.string R1, .string R2] 57))
      have Z3 := Lib.hid ((Below.heap_alloc w2 (.cells #[.string R1, .string R2] 57) _ (lt_of_block Z2.out)).trans Z2.out)
      have Y3 := Lib.hid ((Below.heap_alloc w2 (.cells #[.string R1, .string R2] 57) _ (lt_of_block Y2.out)).trans Y2.out)
      have HV3 := Lib.hid (HV2.out.on ((Below.refl w2.heap.size w2).alloc (Nat.le_refl _) (.cells #[.string R1, .string R2] 57)))
      obtain ⟨z0, z1, z2⟩ := bk3T Z3.out
      have zf := fun j => bk_frz Z3.out j
      obtain ⟨y0, y1, y2⟩ := bk3T Y3.out
      have yf := fun j => bk_frz Y3.out j
      have hce := HCE.out _ B3.out
      go_wp2_with fail
      refine (HT0.out _ B3.out HV3.out).mono ?_
      clear z0 z1 z2 y0 y1 y2 zf yf hce
      rintro e w4 ⟨b4, v', rfl, hv'⟩
      have B4 := Lib.hid (B3.out.trans (b4.mono B3.out.size))
      have Z4 := Lib.hid ((b4.block _ (lt_of_block Z3.out)).trans Z3.out)
      have Y4 := Lib.hid ((b4.block _ (lt_of_block Y3.out)).trans Y3.out)
      clear b4 HV3
      obtain ⟨A', N', c', room', put', rfl, hv'⟩ := tb_partsR hv'
      have HV4 := Lib.hid hv'
      clear hv'
      obtain ⟨z0, z1, z2⟩ := bk3T Z4.out
      have zf := fun j => bk_frz Z4.out j
      obtain ⟨y0, y1, y2⟩ := bk3T Y4.out
      have yf := fun j => bk_frz Y4.out j
      have hce := HCE.out _ B4.out
      go_upto_region 6 with fail
      obtain ⟨YY, gy⟩ := bk3_blk Z4.out (.int .i64 room') (.int .i64 put') (.slice A' N' c')
      obtain ⟨w5, hw5⟩ : ∃ w9, ((w4.setCell ⟨W.heap.size, 0, none⟩ (.int .i64 room')).setCell ⟨W.heap.size, 1, none⟩ (.int .i64 put')).setCell ⟨W.heap.size, 2, none⟩ (.slice A' N' c') = w9 := ⟨_, rfl⟩
      rw [hw5] at YY gy ⊢
      have Z5 := Lib.hid YY
      have Y5 := Lib.hid ((gy.block _ (lt_of_block Y4.out) (by simp <;> omega)).trans Y4.out)
      have B5 := Lib.hid (gr_from B4.out B4.out.size (Nat.le_refl _) gy)
      have HV5 := Lib.hid ((HV4.out.gr Z4.out gy).more gy.size)
      clear hw5 gy YY HV4
      clear z0 z1 z2 y0 y1 y2 zf yf hce
      obtain ⟨z0, z1, z2⟩ := bk3T Z5.out
      have zf := fun j => bk_frz Z5.out j
      obtain ⟨y0, y1, y2⟩ := bk3T Y5.out
      have yf := fun j => bk_frz Y5.out j
      have hce := HCE.out _ B5.out
      go_wp2_with fail
      obtain ⟨k1, gp⟩ := bk3_blk Y5.out (.int .i64 room') (.int .i64 put') (.slice A' N' c')
      obtain ⟨r0, r1, r2⟩ := bk3T k1
      refine bodyPost_ret (by simp [results, Try.results47, go_sem, r0, r1, r2]; try rfl) rfl ?_
      exact ⟨gr_from B5.out B5.out.size (Nat.le_succ _) gp, _, rfl, (HV5.out.gr Y5.out gp).more gp.size⟩
    · rw [if_pos hx]
      have g : (x != 0) = true := by simp [hx]
      clear hR1 hR2 HTI HWF hx
      obtain ⟨room, put, rows⟩ := t
      dsimp only at Z0 Y0 HV0 B0  ⊢
      obtain ⟨N, hN⟩ : ∃ n, rows.length = n := ⟨_, rfl⟩
      rw [hN] at Z0 Y0 HV0 B0  ⊢
      obtain ⟨z0, z1, z2⟩ := bk3T Z0.out
      have zf := fun j => bk_frz Z0.out j
      obtain ⟨y0, y1, y2⟩ := bk3T Y0.out
      have yf := fun j => bk_frz Y0.out j
      have hce := HCE.out _ B0.out
      go_enter Try.func47, Try.ntmps47
      go_wp2_with fail
      refine (HB0.out _).mono ?_
      clear z0 z1 z2 y0 y1 y2 zf yf hce
      rintro e w1 ⟨rfl, b1⟩
      have B1 := Lib.hid (B0.out.trans (b1.mono B0.out.size))
      have Z1 := Lib.hid ((b1.block _ (lt_of_block Z0.out)).trans Z0.out)
      have Y1 := Lib.hid ((b1.block _ (lt_of_block Y0.out)).trans Y0.out)
      have HV1 := Lib.hid (HV0.out.on b1)
      clear b1
      obtain ⟨z0, z1, z2⟩ := bk3T Z1.out
      have zf := fun j => bk_frz Z1.out j
      obtain ⟨y0, y1, y2⟩ := bk3T Y1.out
      have yf := fun j => bk_frz Y1.out j
      have hce := HCE.out _ B1.out
      go_wp2_with fail
      refine (HP.out _ B1.out).mono ?_
      clear z0 z1 z2 y0 y1 y2 zf yf hce
      rintro e w2 ⟨rfl, b2⟩
      have B2 := Lib.hid (B1.out.trans (b2.mono B1.out.size))
      have Z2 := Lib.hid ((b2.block _ (lt_of_block Z1.out)).trans Z1.out)
      have Y2 := Lib.hid ((b2.block _ (lt_of_block Y1.out)).trans Y1.out)
      have HV2 := Lib.hid (HV1.out.on b2)
      clear b2
      have B3 := Lib.hid (B2.out.alloc B2.out.size (.cells #[.string R1, .string R2] 57))
      have Z3 := Lib.hid ((Below.heap_alloc w2 (.cells #[.string R1, .string R2] 57) _ (lt_of_block Z2.out)).trans Z2.out)
      have Y3 := Lib.hid ((Below.heap_alloc w2 (.cells #[.string R1, .string R2] 57) _ (lt_of_block Y2.out)).trans Y2.out)
      obtain ⟨z0, z1, z2⟩ := bk3T Z3.out
      have zf := fun j => bk_frz Z3.out j
      obtain ⟨y0, y1, y2⟩ := bk3T Y3.out
      have yf := fun j => bk_frz Y3.out j
      have hce := HCE.out _ B3.out
      go_wp2_with fail
      obtain ⟨k1, gp⟩ := bk3_blk Y3.out (.int .i64 0) (.int .i64 0) (.slice none 0 0)
      obtain ⟨r0, r1, r2⟩ := bk3T k1
      refine bodyPost_ret (by simp [results, Try.results47, go_sem, r0, r1, r2]; try rfl) rfl ?_
      exact ⟨gr_from B3.out B3.out.size (Nat.le_succ _) gp, _, rfl, TbVal.zero _ _⟩
  · by_cases c2 : 32 ≤ c ∧ c < 64
    · have HR := Lib.hid (show chgR t b = if (pxR b 5).2.2 ≠ 0 then (tb0, 0, (pxR b 5).2.2) else ((resT t (pxR b 5).1).1, (pxR b 5).2.1, (resT t (pxR b 5).1).2) by unfold chgR; rw [HCC.out, if_neg c1, if_pos c2])
      rw [HR.out]
      have HP := Lib.hid HPX.out
      obtain ⟨⟨n, u, x⟩, hr⟩ : ∃ r, pxR b 5 = r := ⟨_, rfl⟩
      rw [hr] at HP ⊢
      unfold pxRV at HP
      dsimp only at HP ⊢
      have HB0 := Lib.hid (show ∀ w, Calls Try.prog 67 #[.int .u8 c, .int .u8 64, .int .i64 5] w fun e w' => e = .returned (.bool false) ∧ Below w.heap.size w w' from fun w => by have := begins_any c 64 5 32 hc (by decide) w; rwa [show decide (((64) : Int) ≤ c ∧ c < 64 + 32) = false by simp; omega] at this)
      have HB1 := Lib.hid (show ∀ w, Calls Try.prog 67 #[.int .u8 c, .int .u8 32, .int .i64 5] w fun e w' => e = .returned (.bool true) ∧ Below w.heap.size w w' from fun w => by have := begins_any c 32 5 32 hc (by decide) w; rwa [show decide (((32) : Int) ≤ c ∧ c < 32 + 32) = true by simp; omega] at this)
      clear hr HR HPR HPX HTI hc
      by_cases hx : x = 0
      · subst hx
        rw [if_neg (fun k => k rfl)]
        have HT0 := Lib.hid (HTR.out n)
        clear HTR
        obtain ⟨⟨T, z⟩, hT⟩ : ∃ r, resT t n = r := ⟨_, rfl⟩
        rw [hT] at HT0 ⊢
        unfold TbRes at HT0
        dsimp only at HT0 ⊢
        clear hT
        obtain ⟨room, put, rows⟩ := t
        dsimp only at Z0 Y0 HV0 B0 HT0 ⊢
        obtain ⟨N, hN⟩ : ∃ n, rows.length = n := ⟨_, rfl⟩
        rw [hN] at Z0 Y0 HV0 B0 HT0 ⊢
        obtain ⟨z0, z1, z2⟩ := bk3T Z0.out
        have zf := fun j => bk_frz Z0.out j
        obtain ⟨y0, y1, y2⟩ := bk3T Y0.out
        have yf := fun j => bk_frz Y0.out j
        have hce := HCE.out _ B0.out
        go_enter Try.func47, Try.ntmps47
        go_wp2_with fail
        refine (HB0.out _).mono ?_
        clear z0 z1 z2 y0 y1 y2 zf yf hce
        rintro e w1 ⟨rfl, b1⟩
        have B1 := Lib.hid (B0.out.trans (b1.mono B0.out.size))
        have Z1 := Lib.hid ((b1.block _ (lt_of_block Z0.out)).trans Z0.out)
        have Y1 := Lib.hid ((b1.block _ (lt_of_block Y0.out)).trans Y0.out)
        have HV1 := Lib.hid (HV0.out.on b1)
        clear b1
        obtain ⟨z0, z1, z2⟩ := bk3T Z1.out
        have zf := fun j => bk_frz Z1.out j
        obtain ⟨y0, y1, y2⟩ := bk3T Y1.out
        have yf := fun j => bk_frz Y1.out j
        have hce := HCE.out _ B1.out
        go_wp2_with fail
        refine (HB1.out _).mono ?_
        clear z0 z1 z2 y0 y1 y2 zf yf hce
        rintro e w2 ⟨rfl, b2⟩
        have B2 := Lib.hid (B1.out.trans (b2.mono B1.out.size))
        have Z2 := Lib.hid ((b2.block _ (lt_of_block Z1.out)).trans Z1.out)
        have Y2 := Lib.hid ((b2.block _ (lt_of_block Y1.out)).trans Y1.out)
        have HV2 := Lib.hid (HV1.out.on b2)
        clear b2
        obtain ⟨z0, z1, z2⟩ := bk3T Z2.out
        have zf := fun j => bk_frz Z2.out j
        obtain ⟨y0, y1, y2⟩ := bk3T Y2.out
        have yf := fun j => bk_frz Y2.out j
        have hce := HCE.out _ B2.out
        go_wp2_with fail
        refine (HP.out _ B2.out).mono ?_
        rintro e w3 ⟨rfl, rfl⟩
        go_wp2_with fail
        refine (HT0.out _ B2.out HV2.out).mono ?_
        clear z0 z1 z2 y0 y1 y2 zf yf hce
        rintro e w3 ⟨b3, v', rfl, hv'⟩
        have B3 := Lib.hid (B2.out.trans (b3.mono B2.out.size))
        have Z3 := Lib.hid ((b3.block _ (lt_of_block Z2.out)).trans Z2.out)
        have Y3 := Lib.hid ((b3.block _ (lt_of_block Y2.out)).trans Y2.out)
        clear b3 HV2
        obtain ⟨A', N', c', room', put', rfl, hv'⟩ := tb_partsR hv'
        have HV3 := Lib.hid hv'
        clear hv'
        obtain ⟨z0, z1, z2⟩ := bk3T Z3.out
        have zf := fun j => bk_frz Z3.out j
        obtain ⟨y0, y1, y2⟩ := bk3T Y3.out
        have yf := fun j => bk_frz Y3.out j
        have hce := HCE.out _ B3.out
        go_upto_region 12 with fail
        obtain ⟨YY, gy⟩ := bk3_blk Z3.out (.int .i64 room') (.int .i64 put') (.slice A' N' c')
        obtain ⟨w4, hw4⟩ : ∃ w9, ((w3.setCell ⟨W.heap.size, 0, none⟩ (.int .i64 room')).setCell ⟨W.heap.size, 1, none⟩ (.int .i64 put')).setCell ⟨W.heap.size, 2, none⟩ (.slice A' N' c') = w9 := ⟨_, rfl⟩
        rw [hw4] at YY gy ⊢
        have Z4 := Lib.hid YY
        have Y4 := Lib.hid ((gy.block _ (lt_of_block Y3.out) (by simp <;> omega)).trans Y3.out)
        have B4 := Lib.hid (gr_from B3.out B3.out.size (Nat.le_refl _) gy)
        have HV4 := Lib.hid ((HV3.out.gr Z3.out gy).more gy.size)
        clear hw4 gy YY HV3
        clear z0 z1 z2 y0 y1 y2 zf yf hce
        obtain ⟨z0, z1, z2⟩ := bk3T Z4.out
        have zf := fun j => bk_frz Z4.out j
        obtain ⟨y0, y1, y2⟩ := bk3T Y4.out
        have yf := fun j => bk_frz Y4.out j
        have hce := HCE.out _ B4.out
        go_wp2_with fail
        obtain ⟨k1, gp⟩ := bk3_blk Y4.out (.int .i64 room') (.int .i64 put') (.slice A' N' c')
        obtain ⟨r0, r1, r2⟩ := bk3T k1
        refine bodyPost_ret (by simp [results, Try.results47, go_sem, r0, r1, r2]; try rfl) rfl ?_
        exact ⟨gr_from B4.out B4.out.size (Nat.le_succ _) gp, _, rfl, (HV4.out.gr Y4.out gp).more gp.size⟩
      · rw [if_pos hx]
        have g : (x != 0) = true := by simp [hx]
        clear HTR hx
        obtain ⟨room, put, rows⟩ := t
        dsimp only at Z0 Y0 HV0 B0  ⊢
        obtain ⟨N, hN⟩ : ∃ n, rows.length = n := ⟨_, rfl⟩
        rw [hN] at Z0 Y0 HV0 B0  ⊢
        obtain ⟨z0, z1, z2⟩ := bk3T Z0.out
        have zf := fun j => bk_frz Z0.out j
        obtain ⟨y0, y1, y2⟩ := bk3T Y0.out
        have yf := fun j => bk_frz Y0.out j
        have hce := HCE.out _ B0.out
        go_enter Try.func47, Try.ntmps47
        go_wp2_with fail
        refine (HB0.out _).mono ?_
        clear z0 z1 z2 y0 y1 y2 zf yf hce
        rintro e w1 ⟨rfl, b1⟩
        have B1 := Lib.hid (B0.out.trans (b1.mono B0.out.size))
        have Z1 := Lib.hid ((b1.block _ (lt_of_block Z0.out)).trans Z0.out)
        have Y1 := Lib.hid ((b1.block _ (lt_of_block Y0.out)).trans Y0.out)
        have HV1 := Lib.hid (HV0.out.on b1)
        clear b1
        obtain ⟨z0, z1, z2⟩ := bk3T Z1.out
        have zf := fun j => bk_frz Z1.out j
        obtain ⟨y0, y1, y2⟩ := bk3T Y1.out
        have yf := fun j => bk_frz Y1.out j
        have hce := HCE.out _ B1.out
        go_wp2_with fail
        refine (HB1.out _).mono ?_
        clear z0 z1 z2 y0 y1 y2 zf yf hce
        rintro e w2 ⟨rfl, b2⟩
        have B2 := Lib.hid (B1.out.trans (b2.mono B1.out.size))
        have Z2 := Lib.hid ((b2.block _ (lt_of_block Z1.out)).trans Z1.out)
        have Y2 := Lib.hid ((b2.block _ (lt_of_block Y1.out)).trans Y1.out)
        have HV2 := Lib.hid (HV1.out.on b2)
        clear b2
        obtain ⟨z0, z1, z2⟩ := bk3T Z2.out
        have zf := fun j => bk_frz Z2.out j
        obtain ⟨y0, y1, y2⟩ := bk3T Y2.out
        have yf := fun j => bk_frz Y2.out j
        have hce := HCE.out _ B2.out
        go_wp2_with fail
        refine (HP.out _ B2.out).mono ?_
        rintro e w3 ⟨rfl, rfl⟩
        go_wp2_with fail
        obtain ⟨k1, gp⟩ := bk3_blk Y2.out (.int .i64 0) (.int .i64 0) (.slice none 0 0)
        obtain ⟨r0, r1, r2⟩ := bk3T k1
        refine bodyPost_ret (by simp [results, Try.results47, go_sem, r0, r1, r2]; try rfl) rfl ?_
        exact ⟨gr_from B2.out B2.out.size (Nat.le_succ _) gp, _, rfl, TbVal.zero _ _⟩
    · have HR := Lib.hid (show chgR t b = (tb0, 0, 2) by unfold chgR; rw [HCC.out, if_neg c1, if_neg c2])
      rw [HR.out]
      have HB0 := Lib.hid (show ∀ w, Calls Try.prog 67 #[.int .u8 c, .int .u8 64, .int .i64 5] w fun e w' => e = .returned (.bool false) ∧ Below w.heap.size w w' from fun w => by have := begins_any c 64 5 32 hc (by decide) w; rwa [show decide (((64) : Int) ≤ c ∧ c < 64 + 32) = false by simp; omega] at this)
      have HB1 := Lib.hid (show ∀ w, Calls Try.prog 67 #[.int .u8 c, .int .u8 32, .int .i64 5] w fun e w' => e = .returned (.bool false) ∧ Below w.heap.size w w' from fun w => by have := begins_any c 32 5 32 hc (by decide) w; rwa [show decide (((32) : Int) ≤ c ∧ c < 32 + 32) = false by simp; omega] at this)
      clear HR HPR HPX HTR HTI hc
      obtain ⟨room, put, rows⟩ := t
      dsimp only at Z0 Y0 HV0 B0  ⊢
      obtain ⟨N, hN⟩ : ∃ n, rows.length = n := ⟨_, rfl⟩
      rw [hN] at Z0 Y0 HV0 B0  ⊢
      obtain ⟨z0, z1, z2⟩ := bk3T Z0.out
      have zf := fun j => bk_frz Z0.out j
      obtain ⟨y0, y1, y2⟩ := bk3T Y0.out
      have yf := fun j => bk_frz Y0.out j
      have hce := HCE.out _ B0.out
      go_enter Try.func47, Try.ntmps47
      go_wp2_with fail
      refine (HB0.out _).mono ?_
      clear z0 z1 z2 y0 y1 y2 zf yf hce
      rintro e w1 ⟨rfl, b1⟩
      have B1 := Lib.hid (B0.out.trans (b1.mono B0.out.size))
      have Z1 := Lib.hid ((b1.block _ (lt_of_block Z0.out)).trans Z0.out)
      have Y1 := Lib.hid ((b1.block _ (lt_of_block Y0.out)).trans Y0.out)
      have HV1 := Lib.hid (HV0.out.on b1)
      clear b1
      obtain ⟨z0, z1, z2⟩ := bk3T Z1.out
      have zf := fun j => bk_frz Z1.out j
      obtain ⟨y0, y1, y2⟩ := bk3T Y1.out
      have yf := fun j => bk_frz Y1.out j
      have hce := HCE.out _ B1.out
      go_wp2_with fail
      refine (HB1.out _).mono ?_
      clear z0 z1 z2 y0 y1 y2 zf yf hce
      rintro e w2 ⟨rfl, b2⟩
      have B2 := Lib.hid (B1.out.trans (b2.mono B1.out.size))
      have Z2 := Lib.hid ((b2.block _ (lt_of_block Z1.out)).trans Z1.out)
      have Y2 := Lib.hid ((b2.block _ (lt_of_block Y1.out)).trans Y1.out)
      have HV2 := Lib.hid (HV1.out.on b2)
      clear b2
      obtain ⟨z0, z1, z2⟩ := bk3T Z2.out
      have zf := fun j => bk_frz Z2.out j
      obtain ⟨y0, y1, y2⟩ := bk3T Y2.out
      have yf := fun j => bk_frz Y2.out j
      have hce := HCE.out _ B2.out
      go_wp2_with fail
      obtain ⟨k1, gp⟩ := bk3_blk Y2.out (.int .i64 0) (.int .i64 0) (.slice none 0 0)
      obtain ⟨r0, r1, r2⟩ := bk3T k1
      refine bodyPost_ret (by simp [results, Try.results47, go_sem, r0, r1, r2]; try rfl) rfl ?_
      exact ⟨gr_from B2.out B2.out.size (Nat.le_succ _) gp, _, rfl, TbVal.zero _ _⟩
end Go.Proofs.Ytlddbojfikkhfaa
