/- The document's answers on fields: applied. -/
import Derived.Test.YtadhdghjlohpcaaRefFd4
namespace Go.Proofs.Ytadhdghjlohpcaa.P
set_option linter.unusedVariables false
open Go.RowKit
/-- one step of what is told ahead: (table, how many bytes, error), by P15.5 -/
def appR (t : Tb) (b : List Int) : Tb × Int × Int :=
  if 32 ≤ b.getD 0 0 ∧ b.getD 0 0 < 64 then (if (pxR b 5).2.2 ≠ 0 then (t, 0, (pxR b 5).2.2) else ((resT t (pxR b 5).1).1, (pxR b 5).2.1, (resT t (pxR b 5).1).2))
  else if 64 ≤ b.getD 0 0 ∧ b.getD 0 0 < 96 then (if (pxTR b 5).2.2 ≠ 0 then (t, 0, (pxTR b 5).2.2) else if (pxTR (b.drop (pxTR b 5).2.1.toNat) 7).2.2 ≠ 0 then (t, 0, (pxTR (b.drop (pxTR b 5).2.1.toNat) 7).2.2) else ((insT t ⟨(pxTR b 5).1, (pxTR (b.drop (pxTR b 5).2.1.toNat) 7).1⟩).1, (pxTR b 5).2.1 + (pxTR (b.drop (pxTR b 5).2.1.toNat) 7).2.1, (insT t ⟨(pxTR b 5).1, (pxTR (b.drop (pxTR b 5).2.1.toNat) 7).1⟩).2))
  else (t, 0, 2)
/-- an answer: a table, a number and an error -/
def TbRes3 (r : Tb × Int × Int) (w : World) (e : Ending) (w' : World) : Prop := Below w.heap.size w w' ∧ ∃ v, e = .returned (.tuple #[v, .int .i64 r.2.1, .int .i64 r.2.2]) ∧ TbVal w' w'.heap.size v r.1
/-- a row of fields lies in no block that holds a table: what is put there leaves it as it was -/
theorem FSl.gr {w w' : World} {B : Nat} {v : Value} {l : List Fld} {k : Nat} {a0 a1 : Int} {p : Option Addr} {n c : Nat} {T : TypeId} (h : FSl w B v l) (hk : w.heap[k]? = some (.cells #[.int .i64 a0, .int .i64 a1, .slice p n c] T (0, 0))) (g : w.grownBy w' (some k)) : FSl w' B v l := by
  obtain ⟨A, cp, e, h1, h2, h3⟩ := h.ex
  refine ⟨A, cp, e, h1, h2, fun hn => ?_⟩
  obtain ⟨b, off, e', hb, hc⟩ := h3 hn
  refine ⟨b, off, e', hb, fun j u hj => g.cell (hc j u hj) ?_⟩
  intro q
  cases q
  have := RowE.at hc 0 0 hn (by decide)
  rw [bk_cell hk] at this
  generalize off + (0 * FdE.k + 0) = o at this
  rcases o with _ | _ | _ | o
  · cases this
  · cases this
  · cases this
  · cases this
theorem TbVal.gr {w w' : World} {B : Nat} {v : Value} {t : Tb} {k : Nat} {a0 a1 : Int} {p : Option Addr} {n c : Nat} {T : TypeId} (h : TbVal w B v t) (hk : w.heap[k]? = some (.cells #[.int .i64 a0, .int .i64 a1, .slice p n c] T (0, 0))) (g : w.grownBy w' (some k)) : TbVal w' B v t := by
  obtain ⟨s, e, h1⟩ := h.ex
  exact ⟨s, e, h1.gr hk g⟩
theorem TbVal.more {w : World} {B B' : Nat} {v : Value} {t : Tb} (h : TbVal w B v t) (hB : B ≤ B') : TbVal w B' v t := by
  obtain ⟨s, e, h1⟩ := h.ex
  exact ⟨s, e, h1.more hB⟩
theorem tb_partsR {w : World} {B : Nat} {v : Value} {t : Tb} (h : TbVal w B v t) : ∃ A n c room put, v = .agg #[.int .i64 room, .int .i64 put, .slice A n c] ∧ TbVal w B (.agg #[.int .i64 room, .int .i64 put, .slice A n c]) t := by
  obtain ⟨s, rfl, h1⟩ := h.ex
  obtain ⟨A, c, rfl, h2⟩ := h1.ex
  exact ⟨A, t.rows.length, c, t.room, t.put, rfl, ⟨_, rfl, ⟨A, c, rfl, h2⟩⟩⟩
end Go.Proofs.Ytadhdghjlohpcaa.P
namespace Go.Proofs.Ytadhdghjlohpcaa
set_option linter.unusedVariables false
open Go.RowKit P

set_option maxRecDepth 100000 in
set_option maxHeartbeats 1000000 in
theorem refAp_any (v : Value) (t : Tb) (b : List Int) (W : World) (hv : TbVal W W.heap.size v t) (hw : TbWf t) (hb : Byt b) (hl : b.length ≤ 140737488355328) (h0 : 0 < b.length) :
    Calls Try.prog 48 #[v, .string (strOfNums b)] W (TbRes3 (appR t b) W) := by
  obtain ⟨A, cp, rfl⟩ := tb_slicesR hv
  have HTR := Lib.hid (fun n w (hb : Below W.heap.size W w) (hv : TbVal w w.heap.size (.agg #[.int .i64 t.room, .int .i64 t.put, .slice A t.rows.length cp]) t) => refTabR_any _ t n w hv hw)
  have HTI := Lib.hid (fun f hf w (hb : Below W.heap.size W w) (hv : TbVal w w.heap.size (.agg #[.int .i64 t.room, .int .i64 t.put, .slice A t.rows.length cp]) t) => refTabI_any _ t f w hv hw hf)
  have HP5a := Lib.hid (fun w => refPxO_any b 5 w hb hl (by decide) (by decide))
  have HT5a := Lib.hid (fun w => refPxT_any b 5 w hb hl (by decide) (by decide))
  have HT7a := Lib.hid (fun k w => refPxT_any (b.drop k) 7 w (hb.drop k) (by rw [List.length_drop]; omega) (by decide) (by decide))
  have HBY := Lib.hid hb
  have HBL := Lib.hid hl
  have hc := hb 0
  have hsz : (strOfNums b).size = b.length := strOfNums_size b
  have HGET := Lib.hid (fun j h => str_get hb j h)
  obtain ⟨c, hcc⟩ : ∃ c, b.getD 0 0 = c := ⟨_, rfl⟩
  have HCC := Lib.hid hcc
  obtain ⟨S, hS⟩ : ∃ S, strOfNums b = S := ⟨_, rfl⟩
  have HSS := Lib.hid hS
  rw [hS] at HGET hsz HP5a HT5a ⊢
  have hs0 : 0 < S.size := by omega
  have g0 := HGET.out 0 hs0
  rw [hcc] at hc g0
  clear HGET
  obtain ⟨g1, g2, g3⟩ := two_bk W #[.int .i64 t.room, .int .i64 t.put, .slice A t.rows.length cp] #[.int .i64 0, .int .i64 0, .slice none 0 0] 24 24
  have Z0 := Lib.hid g1
  have Y0 := Lib.hid g2
  have B0 := Lib.hid g3
  have HV0 := Lib.hid (hv.on g3)
  have HVW := Lib.hid hv
  have hs47 : S.size ≤ 140737488355328 := by omega
  have HSZ := Lib.hid hsz
  unfold TbRes3
  clear hsz
  clear hS hcc g1 g2 g3 hv hw hb hl h0
  by_cases c1 : 32 ≤ c ∧ c < 64
  · have HR := Lib.hid (show appR t b = if (pxR b 5).2.2 ≠ 0 then (t, 0, (pxR b 5).2.2) else ((resT t (pxR b 5).1).1, (pxR b 5).2.1, (resT t (pxR b 5).1).2) by unfold appR; rw [HCC.out, if_pos c1])
    rw [HR.out]
    have HP5 := Lib.hid HP5a.out
    obtain ⟨⟨n, u, x⟩, hr⟩ : ∃ r, pxR b 5 = r := ⟨_, rfl⟩
    rw [hr] at HP5 ⊢
    unfold pxRV at HP5
    dsimp only at HP5 ⊢
    have e1 : decide (32 ≤ c) = true := by simp; omega
    have e2 : decide (c < 64) = true := by simp; omega
    have HT0 := Lib.hid (HTR.out n)
    clear hr HR HP5a HT5a HT7a HTR HTI
    by_cases hx : x = 0
    · subst hx
      rw [if_neg (fun k => k rfl)]
      obtain ⟨⟨T, y⟩, hT⟩ : ∃ r, resT t n = r := ⟨_, rfl⟩
      rw [hT] at HT0 ⊢
      dsimp only
      unfold TbRes at HT0
      dsimp only at HT0
      clear hT
      obtain ⟨room, put, rows⟩ := t
      dsimp only at Z0 Y0 HV0 HT0 HP5 B0 ⊢
      obtain ⟨N, hN⟩ : ∃ n, rows.length = n := ⟨_, rfl⟩
      rw [hN] at Z0 Y0 HV0 HT0 B0 ⊢
      obtain ⟨z0, z1, z2⟩ := bk3T Z0.out
      have zf := fun j => bk_frz Z0.out j
      obtain ⟨y0, y1, y2⟩ := bk3T Y0.out
      have yf := fun j => bk_frz Y0.out j
      go_enter Try.func48, Try.ntmps48
      go_upto_region 5 with (go_at_call 44; refine (HP5.out _).mono ?_; skip; rintro e w1 ⟨rfl, b1⟩; have B1 := Lib.hid (B0.out.trans (b1.mono B0.out.size)); have Z1 := Lib.hid ((b1.block _ (lt_of_block Z0.out)).trans Z0.out); have Y1 := Lib.hid ((b1.block _ (lt_of_block Y0.out)).trans Y0.out); have HV1 := Lib.hid (HV0.out.on b1); clear b1; obtain ⟨z0, z1, z2⟩ := bk3T Z1.out; have zf := fun j => bk_frz Z1.out j; obtain ⟨y0, y1, y2⟩ := bk3T Y1.out; have yf := fun j => bk_frz Y1.out j)
      go_wp2_with fail
      refine (HT0.out _ B1.out HV1.out).mono ?_
      clear z0 z1 z2 y0 y1 y2 zf yf
      rintro e w2 ⟨b2, v', rfl, hv'⟩
      have B2 := Lib.hid (B1.out.trans (b2.mono B1.out.size))
      have Z2 := Lib.hid ((b2.block _ (lt_of_block Z1.out)).trans Z1.out)
      have Y2 := Lib.hid ((b2.block _ (lt_of_block Y1.out)).trans Y1.out)
      clear b2 HV1
      obtain ⟨A', N', c', room', put', rfl, hv'⟩ := tb_partsR hv'
      have HV2 := Lib.hid hv'
      clear hv'
      obtain ⟨z0, z1, z2⟩ := bk3T Z2.out
      have zf := fun j => bk_frz Z2.out j
      obtain ⟨y0, y1, y2⟩ := bk3T Y2.out
      have yf := fun j => bk_frz Y2.out j
      go_upto_region 6 with fail
      obtain ⟨YY, gy⟩ := bk3_blk Z2.out (.int .i64 room') (.int .i64 put') (.slice A' N' c')
      obtain ⟨w3, hw3⟩ : ∃ w9, ((w2.setCell ⟨W.heap.size, 0, none⟩ (.int .i64 room')).setCell ⟨W.heap.size, 1, none⟩ (.int .i64 put')).setCell ⟨W.heap.size, 2, none⟩ (.slice A' N' c') = w9 := ⟨_, rfl⟩
      rw [hw3] at YY gy ⊢
      have Z3 := Lib.hid YY
      have Y3 := Lib.hid ((gy.block _ (lt_of_block Y2.out) (by simp <;> omega)).trans Y2.out)
      have B3 := Lib.hid (gr_from B2.out B2.out.size (Nat.le_refl _) gy)
      have HV3 := Lib.hid ((HV2.out.gr Z2.out gy).more gy.size)
      clear hw3 gy YY HV2
      clear z0 z1 z2 y0 y1 y2 zf yf
      obtain ⟨z0, z1, z2⟩ := bk3T Z3.out
      have zf := fun j => bk_frz Z3.out j
      obtain ⟨y0, y1, y2⟩ := bk3T Y3.out
      have yf := fun j => bk_frz Y3.out j
      go_wp2_with fail
      obtain ⟨k1, gp⟩ := bk3_blk Y3.out (.int .i64 room') (.int .i64 put') (.slice A' N' c')
      obtain ⟨r0, r1, r2⟩ := bk3T k1
      refine bodyPost_ret (by simp [results, Try.results48, go_sem, r0, r1, r2]; try rfl) rfl ?_
      exact ⟨gr_from B3.out B3.out.size (Nat.le_succ _) gp, _, rfl, (HV3.out.gr Y3.out gp).more gp.size⟩
    · rw [if_pos hx]
      have g : (x != 0) = true := by simp [hx]
      clear HT0 hx
      obtain ⟨room, put, rows⟩ := t
      dsimp only at Z0 Y0 HV0 HP5 B0 ⊢
      obtain ⟨N, hN⟩ : ∃ n, rows.length = n := ⟨_, rfl⟩
      rw [hN] at Z0 Y0 HV0 B0 HVW ⊢
      obtain ⟨z0, z1, z2⟩ := bk3T Z0.out
      have zf := fun j => bk_frz Z0.out j
      obtain ⟨y0, y1, y2⟩ := bk3T Y0.out
      have yf := fun j => bk_frz Y0.out j
      go_enter Try.func48, Try.ntmps48
      go_wp2_with (go_at_call 44; refine (HP5.out _).mono ?_; skip; rintro e w1 ⟨rfl, b1⟩; have B1 := Lib.hid (B0.out.trans (b1.mono B0.out.size)); have Z1 := Lib.hid ((b1.block _ (lt_of_block Z0.out)).trans Z0.out); have Y1 := Lib.hid ((b1.block _ (lt_of_block Y0.out)).trans Y0.out); have HV1 := Lib.hid (HV0.out.on b1); clear b1; obtain ⟨z0, z1, z2⟩ := bk3T Z1.out; have zf := fun j => bk_frz Z1.out j; obtain ⟨y0, y1, y2⟩ := bk3T Y1.out; have yf := fun j => bk_frz Y1.out j)
      obtain ⟨k1, gp⟩ := bk3_blk Y1.out (.int .i64 room) (.int .i64 put) (.slice A N cp)
      obtain ⟨r0, r1, r2⟩ := bk3T k1
      refine bodyPost_ret (by simp [results, Try.results48, go_sem, r0, r1, r2]; try rfl) rfl ?_
      exact ⟨gr_from B1.out B1.out.size (Nat.le_succ _) gp, _, rfl, (HV1.out.gr Y1.out gp).more gp.size⟩
  · by_cases c2 : 64 ≤ c ∧ c < 96
    · have HR := Lib.hid (show appR t b = if (pxTR b 5).2.2 ≠ 0 then (t, 0, (pxTR b 5).2.2) else if (pxTR (b.drop (pxTR b 5).2.1.toNat) 7).2.2 ≠ 0 then (t, 0, (pxTR (b.drop (pxTR b 5).2.1.toNat) 7).2.2) else ((insT t ⟨(pxTR b 5).1, (pxTR (b.drop (pxTR b 5).2.1.toNat) 7).1⟩).1, (pxTR b 5).2.1 + (pxTR (b.drop (pxTR b 5).2.1.toNat) 7).2.1, (insT t ⟨(pxTR b 5).1, (pxTR (b.drop (pxTR b 5).2.1.toNat) 7).1⟩).2) by unfold appR; rw [HCC.out, if_neg c1, if_pos c2])
      rw [HR.out]
      have HT5 := Lib.hid HT5a.out
      have HIN := Lib.hid (pxTR_in (b := b) (w := 5) HBY.out)
      have HWN := Lib.hid (pxTR_wf (b := b) 5 HBY.out)
      obtain ⟨⟨nm, u, x⟩, hr⟩ : ∃ r, pxTR b 5 = r := ⟨_, rfl⟩
      rw [hr] at HT5 HIN HWN ⊢
      unfold pxTV at HT5
      dsimp only at HT5 HIN HWN ⊢
      have e1 : decide (32 ≤ c) = true := by simp; omega
      have e2 : decide (c < 64) = false := by simp; omega
      have e3 : decide (64 ≤ c) = true := by simp; omega
      have e4 : decide (c < 96) = true := by simp; omega
      clear hr HR HP5a HT5a HTR
      obtain ⟨u0, u1, _⟩ := HIN.out
      obtain ⟨K, rfl⟩ : ∃ K : Nat, u = K := ⟨u.toNat, by omega⟩
      rw [Int.toNat_natCast]
      obtain ⟨R1, hR1⟩ : ∃ S, strOfNums nm = S := ⟨_, rfl⟩
      rw [hR1] at HT5
      by_cases hx : x = 0
      · subst hx
        rw [if_neg (fun k => k rfl)]
        have hsz := HSZ.out
        have hKS : K ≤ S.size := by omega
        have HX := Lib.hid (show S.extract K S.size = strOfNums (b.drop K) by rw [← HSS.out, str_mid2, strOfNums_size, List.take_of_length_le (by rw [List.length_drop]; omega)])
        have HT7 := Lib.hid (fun w => HT7a.out K w)
        have HMB := Lib.hid (pxTR_in (b := b.drop K) (w := 7) (HBY.out.drop K))
        have HWV := Lib.hid (pxTR_wf (b := b.drop K) 7 (HBY.out.drop K))
        obtain ⟨⟨V, m, y⟩, hv⟩ : ∃ r, pxTR (b.drop K) 7 = r := ⟨_, rfl⟩
        rw [hv] at HT7 HMB HWV ⊢
        unfold pxTV at HT7
        dsimp only at HT7 HMB HWV ⊢
        rw [List.length_drop] at HMB HWV
        have HFW := Lib.hid (show FdWf ⟨nm, V⟩ from ⟨HWN.out.1, HWV.out.1, Nat.le_trans HWN.out.2 HBL.out, Nat.le_trans HWV.out.2 (by have := HBL.out; omega)⟩)
        obtain ⟨X, hX⟩ : ∃ X, strOfNums (b.drop K) = X := ⟨_, rfl⟩
        rw [hX] at HT7 HX
        obtain ⟨R2, hR2⟩ : ∃ S, strOfNums V = S := ⟨_, rfl⟩
        rw [hR2] at HT7
        have hxx := HX.out
        have hKI : (K : Int) ≤ (S.size : Int) := by omega
        have hwr : IntKind.i64.wrap ((K : Int) + m) = (K : Int) + m := by rw [IntKind.wrap_i64]; have := HMB.out; omega
        clear hv hX HX hsz u0 u1
        by_cases hy : y = 0
        · subst hy
          rw [if_neg (fun k => k rfl)]
          have HT0 := Lib.hid (HTI.out ⟨nm, V⟩ HFW.out)
          unfold fdV at HT0
          dsimp only at HT0
          rw [hR1, hR2] at HT0
          clear hR1 hR2 HT7a HTI HIN HWN HWV HFW
          obtain ⟨⟨T, z⟩, hT⟩ : ∃ r, insT t ⟨nm, V⟩ = r := ⟨_, rfl⟩
          rw [hT] at HT0 ⊢
          unfold TbRes at HT0
          dsimp only at HT0 ⊢
          clear hT
          obtain ⟨room, put, rows⟩ := t
          dsimp only at Z0 Y0 HV0 HT0 HT5 HT7 B0 ⊢
          obtain ⟨N, hN⟩ : ∃ n, rows.length = n := ⟨_, rfl⟩
          rw [hN] at Z0 Y0 HV0 HT0 B0 ⊢
          obtain ⟨z0, z1, z2⟩ := bk3T Z0.out
          have zf := fun j => bk_frz Z0.out j
          obtain ⟨y0, y1, y2⟩ := bk3T Y0.out
          have yf := fun j => bk_frz Y0.out j
          go_enter Try.func48, Try.ntmps48
          go_upto_region 11 with (go_at_call 74; refine (HT5.out _).mono ?_; skip; rintro e w1 ⟨rfl, b1⟩; have B1 := Lib.hid (B0.out.trans (b1.mono B0.out.size)); have Z1 := Lib.hid ((b1.block _ (lt_of_block Z0.out)).trans Z0.out); have Y1 := Lib.hid ((b1.block _ (lt_of_block Y0.out)).trans Y0.out); have HV1 := Lib.hid (HV0.out.on b1); clear b1; obtain ⟨z0, z1, z2⟩ := bk3T Z1.out; have zf := fun j => bk_frz Z1.out j; obtain ⟨y0, y1, y2⟩ := bk3T Y1.out; have yf := fun j => bk_frz Y1.out j)
          go_upto_region 14 with (go_at_call 74; refine (HT7.out _).mono ?_; clear z0 z1 z2 y0 y1 y2 zf yf; rintro e w2 ⟨rfl, b2⟩; have B2 := Lib.hid (B1.out.trans (b2.mono B1.out.size)); have Z2 := Lib.hid ((b2.block _ (lt_of_block Z1.out)).trans Z1.out); have Y2 := Lib.hid ((b2.block _ (lt_of_block Y1.out)).trans Y1.out); have HV2 := Lib.hid (HV1.out.on b2); clear b2; obtain ⟨z0, z1, z2⟩ := bk3T Z2.out; have zf := fun j => bk_frz Z2.out j; obtain ⟨y0, y1, y2⟩ := bk3T Y2.out; have yf := fun j => bk_frz Y2.out j)
          go_wp2_with fail
          refine (HT0.out _ B2.out HV2.out).mono ?_
          clear z0 z1 z2 y0 y1 y2 zf yf
          rintro e w3 ⟨b3, v', rfl, hv'⟩
          have B3 := Lib.hid (B2.out.trans (b3.mono B2.out.size))
          have Z3 := Lib.hid ((b3.block _ (lt_of_block Z2.out)).trans Z2.out)
          have Y3 := Lib.hid ((b3.block _ (lt_of_block Y2.out)).trans Y2.out)
          clear b3 HV2
          obtain ⟨A', N', c', room', put', rfl, hv'⟩ := tb_partsR hv'
          have HV3 := Lib.hid hv'
          clear hv'
          obtain ⟨z0, z1, z2⟩ := bk3T Z3.out
          have zf := fun j => bk_frz Z3.out j
          obtain ⟨y0, y1, y2⟩ := bk3T Y3.out
          have yf := fun j => bk_frz Y3.out j
          go_upto_region 15 with fail
          obtain ⟨YY, gy⟩ := bk3_blk Z3.out (.int .i64 room') (.int .i64 put') (.slice A' N' c')
          obtain ⟨w4, hw4⟩ : ∃ w9, ((w3.setCell ⟨W.heap.size, 0, none⟩ (.int .i64 room')).setCell ⟨W.heap.size, 1, none⟩ (.int .i64 put')).setCell ⟨W.heap.size, 2, none⟩ (.slice A' N' c') = w9 := ⟨_, rfl⟩
          rw [hw4] at YY gy ⊢
          have Z4 := Lib.hid YY
          have Y4 := Lib.hid ((gy.block _ (lt_of_block Y3.out) (by simp <;> omega)).trans Y3.out)
          have B4 := Lib.hid (gr_from B3.out B3.out.size (Nat.le_refl _) gy)
          have HV4 := Lib.hid ((HV3.out.gr Z3.out gy).more gy.size)
          clear hw4 gy YY HV3
          clear z0 z1 z2 y0 y1 y2 zf yf
          obtain ⟨z0, z1, z2⟩ := bk3T Z4.out
          have zf := fun j => bk_frz Z4.out j
          obtain ⟨y0, y1, y2⟩ := bk3T Y4.out
          have yf := fun j => bk_frz Y4.out j
          go_wp2_with fail
          obtain ⟨k1, gp⟩ := bk3_blk Y4.out (.int .i64 room') (.int .i64 put') (.slice A' N' c')
          obtain ⟨r0, r1, r2⟩ := bk3T k1
          refine bodyPost_ret (by simp [results, Try.results48, go_sem, r0, r1, r2]; try rfl) rfl ?_
          exact ⟨gr_from B4.out B4.out.size (Nat.le_succ _) gp, _, rfl, (HV4.out.gr Y4.out gp).more gp.size⟩
        · rw [if_pos hy]
          have g : (y != 0) = true := by simp [hy]
          clear hR1 hR2 HT7a HTI HIN HWN HWV HFW hy
          obtain ⟨room, put, rows⟩ := t
          dsimp only at Z0 Y0 HV0 HT5 HT7 B0 ⊢
          obtain ⟨N, hN⟩ : ∃ n, rows.length = n := ⟨_, rfl⟩
          rw [hN] at Z0 Y0 HV0 B0 HVW ⊢
          obtain ⟨z0, z1, z2⟩ := bk3T Z0.out
          have zf := fun j => bk_frz Z0.out j
          obtain ⟨y0, y1, y2⟩ := bk3T Y0.out
          have yf := fun j => bk_frz Y0.out j
          go_enter Try.func48, Try.ntmps48
          go_upto_region 11 with (go_at_call 74; refine (HT5.out _).mono ?_; skip; rintro e w1 ⟨rfl, b1⟩; have B1 := Lib.hid (B0.out.trans (b1.mono B0.out.size)); have Z1 := Lib.hid ((b1.block _ (lt_of_block Z0.out)).trans Z0.out); have Y1 := Lib.hid ((b1.block _ (lt_of_block Y0.out)).trans Y0.out); have HV1 := Lib.hid (HV0.out.on b1); clear b1; obtain ⟨z0, z1, z2⟩ := bk3T Z1.out; have zf := fun j => bk_frz Z1.out j; obtain ⟨y0, y1, y2⟩ := bk3T Y1.out; have yf := fun j => bk_frz Y1.out j)
          go_wp2_with (go_at_call 74; refine (HT7.out _).mono ?_; clear z0 z1 z2 y0 y1 y2 zf yf; rintro e w2 ⟨rfl, b2⟩; have B2 := Lib.hid (B1.out.trans (b2.mono B1.out.size)); have Z2 := Lib.hid ((b2.block _ (lt_of_block Z1.out)).trans Z1.out); have Y2 := Lib.hid ((b2.block _ (lt_of_block Y1.out)).trans Y1.out); have HV2 := Lib.hid (HV1.out.on b2); clear b2; obtain ⟨z0, z1, z2⟩ := bk3T Z2.out; have zf := fun j => bk_frz Z2.out j; obtain ⟨y0, y1, y2⟩ := bk3T Y2.out; have yf := fun j => bk_frz Y2.out j)
          obtain ⟨k1, gp⟩ := bk3_blk Y2.out (.int .i64 room) (.int .i64 put) (.slice A N cp)
          obtain ⟨r0, r1, r2⟩ := bk3T k1
          refine bodyPost_ret (by simp [results, Try.results48, go_sem, r0, r1, r2]; try rfl) rfl ?_
          exact ⟨gr_from B2.out B2.out.size (Nat.le_succ _) gp, _, rfl, (HV2.out.gr Y2.out gp).more gp.size⟩
      · rw [if_pos hx]
        have g : (x != 0) = true := by simp [hx]
        clear hR1 HT7a HTI HIN HWN hx u0 u1
        obtain ⟨room, put, rows⟩ := t
        dsimp only at Z0 Y0 HV0 HT5 B0 ⊢
        obtain ⟨N, hN⟩ : ∃ n, rows.length = n := ⟨_, rfl⟩
        rw [hN] at Z0 Y0 HV0 B0 HVW ⊢
        obtain ⟨z0, z1, z2⟩ := bk3T Z0.out
        have zf := fun j => bk_frz Z0.out j
        obtain ⟨y0, y1, y2⟩ := bk3T Y0.out
        have yf := fun j => bk_frz Y0.out j
        go_enter Try.func48, Try.ntmps48
        go_wp2_with (go_at_call 74; refine (HT5.out _).mono ?_; skip; rintro e w1 ⟨rfl, b1⟩; have B1 := Lib.hid (B0.out.trans (b1.mono B0.out.size)); have Z1 := Lib.hid ((b1.block _ (lt_of_block Z0.out)).trans Z0.out); have Y1 := Lib.hid ((b1.block _ (lt_of_block Y0.out)).trans Y0.out); have HV1 := Lib.hid (HV0.out.on b1); clear b1; obtain ⟨z0, z1, z2⟩ := bk3T Z1.out; have zf := fun j => bk_frz Z1.out j; obtain ⟨y0, y1, y2⟩ := bk3T Y1.out; have yf := fun j => bk_frz Y1.out j)
        obtain ⟨k1, gp⟩ := bk3_blk Y1.out (.int .i64 room) (.int .i64 put) (.slice A N cp)
        obtain ⟨r0, r1, r2⟩ := bk3T k1
        refine bodyPost_ret (by simp [results, Try.results48, go_sem, r0, r1, r2]; try rfl) rfl ?_
        exact ⟨gr_from B1.out B1.out.size (Nat.le_succ _) gp, _, rfl, (HV1.out.gr Y1.out gp).more gp.size⟩
    · have HR := Lib.hid (show appR t b = (t, 0, 2) by unfold appR; rw [HCC.out, if_neg c1, if_neg c2])
      rw [HR.out]
      clear HR HP5a HT5a HT7a HTR HTI
      obtain ⟨room, put, rows⟩ := t
      dsimp only at Z0 Y0 HV0 B0 HVW ⊢
      obtain ⟨N, hN⟩ : ∃ n, rows.length = n := ⟨_, rfl⟩
      rw [hN] at Z0 Y0 HV0 B0 HVW ⊢
      by_cases q1 : 32 ≤ c
      · have e1 : decide (32 ≤ c) = true := by simp; omega
        have e2 : decide (c < 64) = false := by simp; omega
        have e3 : decide (64 ≤ c) = true := by simp; omega
        have e4 : decide (c < 96) = false := by simp; omega
        clear q1
        go_enter Try.func48, Try.ntmps48
        go_wp2_with fail
        refine bodyPost_ret (by simp [results, Try.results48, go_sem]; try rfl) rfl ?_
        have hq := (two_bk W #[.int .i64 room, .int .i64 put, .slice A N cp] #[.int .i64 room, .int .i64 put, .slice A N cp] 24 24).2.2
        exact ⟨hq, _, rfl, HVW.out.on hq⟩
      · have e1 : decide (32 ≤ c) = false := by simp; omega
        have e3 : decide (64 ≤ c) = false := by simp; omega
        clear q1
        go_enter Try.func48, Try.ntmps48
        go_wp2_with fail
        refine bodyPost_ret (by simp [results, Try.results48, go_sem]; try rfl) rfl ?_
        have hq := (two_bk W #[.int .i64 room, .int .i64 put, .slice A N cp] #[.int .i64 room, .int .i64 put, .slice A N cp] 24 24).2.2
        exact ⟨hq, _, rfl, HVW.out.on hq⟩
end Go.Proofs.Ytadhdghjlohpcaa
