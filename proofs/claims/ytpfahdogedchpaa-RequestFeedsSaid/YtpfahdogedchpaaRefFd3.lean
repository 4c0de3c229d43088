/- The document's answers on fields: lineOf. -/
import Derived.Test.YtpfahdogedchpaaGrpF
import Derived.Test.YtpfahdogedchpaaGrpZf
namespace Go.Proofs.Ytpfahdogedchpaa.P
set_option linter.unusedVariables false
theorem knR_in {b : List Int} {w : Int} (hb : Byt b) (h : (knR b w).2.2 = 0) : 0 ≤ (knR b w).2.1 ∧ (knR b w).2.1 ≤ b.length := by
  unfold knR at h ⊢
  by_cases c : (pxR b w).2.2 ≠ 0
  · rw [if_pos c] at h; exact absurd h c
  · rw [if_neg c] at h ⊢
    by_cases d : 10 < (pxR b w).1
    · rw [if_pos d] at h; cases h
    · rw [if_neg d]
      have := pxR_in (fun j => (hb j).1) (Decidable.byContradiction c)
      simp only
      omega
theorem knR_err {b : List Int} {w : Int} (h : (knR b w).2.2 ≠ 0) : (knR b w).1 = fd0 ∧ (knR b w).2.1 = 0 := by
  unfold knR at h ⊢
  by_cases c : (pxR b w).2.2 ≠ 0
  · rw [if_pos c]; exact ⟨rfl, rfl⟩
  · rw [if_neg c] at h ⊢
    by_cases d : 10 < (pxR b w).1
    · rw [if_pos d]; exact ⟨rfl, rfl⟩
    · rw [if_neg d] at h; exact absurd rfl h
theorem pxTR_in {b : List Int} {w : Int} (hb : Byt b) : 0 ≤ (pxTR b w).2.1 ∧ (pxTR b w).2.1 ≤ b.length ∧ ((pxTR b w).2.2 ≠ 0 → (pxTR b w).1 = [] ∧ (pxTR b w).2.1 = 0) := by
  unfold pxTR
  by_cases c : (pxR b w).2.2 ≠ 0
  · rw [if_pos c]; exact ⟨Int.le_refl _, by simp only; omega, fun _ => ⟨rfl, rfl⟩⟩
  · rw [if_neg c]
    by_cases d : 120 < (pxR b w).1
    · rw [if_pos d]; exact ⟨Int.le_refl _, by simp only; omega, fun _ => ⟨rfl, rfl⟩⟩
    · rw [if_neg d]
      by_cases e : (b.length : Int) < (pxR b w).2.1 + (pxR b w).1
      · rw [if_pos e]; exact ⟨Int.le_refl _, by simp only; omega, fun _ => ⟨rfl, rfl⟩⟩
      · rw [if_neg e]
        have := pxR_in (fun j => (hb j).1) (Decidable.byContradiction c)
        exact ⟨by simp only; omega, by simp only; omega, fun h => absurd rfl h⟩
end Go.Proofs.Ytpfahdogedchpaa.P
namespace Go.Proofs.Ytpfahdogedchpaa
set_option linter.unusedVariables false
open Go.RowKit P

theorem tb_slicesR {w : World} {B : Nat} {v : Value} {t : Tb} (h : TbVal w B v t) : ∃ A c, v = .agg #[.int .i64 t.room, .int .i64 t.put, .slice A t.rows.length c] := by
  obtain ⟨s, rfl, h1⟩ := h.ex
  obtain ⟨A, c, rfl, _⟩ := h1.ex
  exact ⟨A, c, rfl⟩
theorem bk2_blkR {w : World} {b : Nat} {a0 a1 : Value} {T : TypeId} (h : w.heap[b]? = some (.cells #[a0, a1] T (0, 0))) (v0 v1 : Value) :
    ((w.setCell ⟨b, 0, none⟩ v0).setCell ⟨b, 1, none⟩ v1).heap[b]? = some (.cells #[v0, v1] T (0, 0)) := by
  have h0 : (w.setCell ⟨b, 0, none⟩ v0).heap[b]? = some (.cells #[v0, a1] T (0, 0)) := by simpa using bk_set h 0 v0
  simpa using bk_set h0 1 v1
set_option maxRecDepth 100000 in
set_option maxHeartbeats 1200000 in
theorem refLn_any (v : Value) (t : Tb) (need : Int) (b : List Int) (W : World) (hv : TbVal W W.heap.size v t) (hw : TbWf t) (hb : Byt b) (hl : b.length ≤ 140737488355328) (h0 : 0 < b.length) (hn0 : 0 ≤ need ∧ need ≤ 4611686018427387904) :
    Calls Try.prog 40 #[v, .int .i64 need, .string (strOfNums b)] W fun e w' => e = .returned (fdRV (lineR t need b)) ∧ Below W.heap.size W w' := by
  have HTG := Lib.hid (fun n hn w (hb : Below W.heap.size W w) => refTabG_any v t n w (hv.on hb) hw hn)
  have HK6a := Lib.hid (fun w => refKo_any b 6 w hb hl (by decide) (by decide))
  have HK4a := Lib.hid (fun w => refKo_any b 4 w hb hl (by decide) (by decide))
  have HP6a := Lib.hid (fun w => refPxO_any b 6 w hb hl (by decide) (by decide))
  have HI6a := Lib.hid (fun h => pxR_in (b := b) (w := 6) (fun j => (hb j).1) h)
  have HT3a := Lib.hid (fun w => refPxT_any b 3 w hb hl (by decide) (by decide))
  have HT7a := Lib.hid (fun k w => refPxT_any (b.drop k) 7 w (hb.drop k) (by rw [List.length_drop]; omega) (by decide) (by decide))
  have HKI := Lib.hid (fun h => knR_in (b := b) (w := 4) hb h)
  have HKE := Lib.hid (fun h => knR_err (b := b) (w := 4) h)
  have HT3I := Lib.hid (pxTR_in (b := b) (w := 3) hb)
  have HTI := Lib.hid (fun b' hb' => pxTR_in (b := b') (w := 7) hb')
  have HBY := Lib.hid hb
  have hc := hb 0
  have hsz : (strOfNums b).size = b.length := strOfNums_size b
  have HGET := Lib.hid (fun j h => str_get hb j h)
  obtain ⟨A, cp, rfl⟩ := tb_slicesR hv
  obtain ⟨c, hcc⟩ : ∃ c, b.getD 0 0 = c := ⟨_, rfl⟩
  have HCC := Lib.hid hcc
  obtain ⟨S, hS⟩ : ∃ S, strOfNums b = S := ⟨_, rfl⟩
  have HSS := Lib.hid hS
  rw [hS] at HGET hsz HK6a HK4a HP6a HT3a ⊢
  have hs0 : 0 < S.size := by omega
  have g0 := HGET.out 0 hs0
  rw [hcc] at hc g0
  clear HGET
  obtain ⟨g1, g2, g3, g4⟩ := three_bk W #[.int .i64 t.room, .int .i64 t.put, .slice A t.rows.length cp] #[.string ⟨#[]⟩, .string ⟨#[]⟩] #[.string ⟨#[]⟩, .string ⟨#[]⟩] 27 66 66
  have F0 := Lib.hid g1
  have Z0 := Lib.hid g2
  have Y0 := Lib.hid g3
  have B0 := Lib.hid g4
  have hs47 : S.size ≤ 140737488355328 := by omega
  have HSZ := Lib.hid hsz
  clear hsz
  clear hS hcc g1 g2 g3 g4 hv hw hb hl h0
  by_cases c1 : 192 ≤ c
  · have HR := Lib.hid (show lineR t need b = knR b 6 by unfold lineR; rw [HCC.out, if_pos c1])
    rw [HR.out]
    have HK6 := Lib.hid HK6a.out
    obtain ⟨⟨z, u, x⟩, hr⟩ : ∃ r, knR b 6 = r := ⟨_, rfl⟩
    rw [hr] at HK6 ⊢
    unfold fdRV fdV at HK6 ⊢
    dsimp only at HK6 ⊢
    obtain ⟨R1, hR1⟩ : ∃ S, strOfNums z.name = S := ⟨_, rfl⟩
    obtain ⟨R2, hR2⟩ : ∃ S, strOfNums z.val = S := ⟨_, rfl⟩
    rw [hR1, hR2] at HK6 ⊢
    have e1 : decide (192 ≤ c) = true := by simp [c1]
    clear hr hR1 hR2 HR HK6a HK4a HP6a HT3a HT7a HTG
    go_enter Try.func40, Try.ntmps40
    go_wp2_with (go_at_call 47; refine (HK6.out _).mono ?_; rintro e w1 ⟨rfl, b1⟩; have B1 := Lib.hid (B0.out.trans (b1.mono B0.out.size)); have F1 := Lib.hid ((b1.block _ (lt_of_block F0.out)).trans F0.out); have Z1 := Lib.hid ((b1.block _ (lt_of_block Z0.out)).trans Z0.out); have Y1 := Lib.hid ((b1.block _ (lt_of_block Y0.out)).trans Y0.out); clear b1; obtain ⟨z0, z1⟩ := bk2F Z1.out; have zf := fun j => bk_frz Z1.out j; obtain ⟨y0, y1⟩ := bk2F Y1.out; have yf := fun j => bk_frz Y1.out j)
    obtain ⟨r0, r1, gp⟩ := bk2_putF Z1.out (.string R1) (.string R2)
    refine bodyPost_ret (by simp [results, Try.results40, go_sem, r0, r1]; try rfl) rfl ?_
    exact ⟨by first | rfl | simp, gr_from B1.out B1.out.size (Nat.le_succ _) gp⟩
  · by_cases c2 : 128 ≤ c
    · have HR := Lib.hid (show lineR t need b = if (pxR b 6).2.2 ≠ 0 then (fd0, 0, (pxR b 6).2.2) else if need ≤ (pxR b 6).1 then (fd0, 0, 6) else ((getT t (need - 1 - (pxR b 6).1)).1, (pxR b 6).2.1, (getT t (need - 1 - (pxR b 6).1)).2) by unfold lineR; rw [HCC.out, if_neg c1, if_pos c2])
      rw [HR.out]
      have HP6 := Lib.hid HP6a.out
      have HIN6 := Lib.hid HI6a.out
      obtain ⟨⟨n, u, x⟩, hr⟩ : ∃ r, pxR b 6 = r := ⟨_, rfl⟩
      rw [hr] at HP6 HIN6 ⊢
      unfold pxRV at HP6
      dsimp only at HP6 HIN6 ⊢
      have e1 : decide (192 ≤ c) = false := by simp; omega
      have e2 : decide (128 ≤ c) = true := by simp [c2]
      clear hr HR HK6a HK4a HP6a HT3a HT7a HI6a
      by_cases hx : x = 0
      · subst hx
        obtain ⟨n0, n1, u0, u1, u2⟩ := HIN6.out rfl
        rw [if_neg (fun k => k rfl)]
        by_cases hn : need ≤ n
        · rw [if_pos hn]
          have e3 : decide (need ≤ n) = true := by simp [hn]
          unfold fdRV fdV
          dsimp only
          clear HTG
          go_enter Try.func40, Try.ntmps40
          go_wp2_with (go_at_call 39; refine (HP6.out _).mono ?_; rintro e w1 ⟨rfl, b1⟩; have B1 := Lib.hid (B0.out.trans (b1.mono B0.out.size)); have F1 := Lib.hid ((b1.block _ (lt_of_block F0.out)).trans F0.out); have Z1 := Lib.hid ((b1.block _ (lt_of_block Z0.out)).trans Z0.out); have Y1 := Lib.hid ((b1.block _ (lt_of_block Y0.out)).trans Y0.out); clear b1; obtain ⟨z0, z1⟩ := bk2F Z1.out; have zf := fun j => bk_frz Z1.out j; obtain ⟨y0, y1⟩ := bk2F Y1.out; have yf := fun j => bk_frz Y1.out j)
          obtain ⟨r0, r1, gp⟩ := bk2_putF Z1.out (.string ⟨#[]⟩) (.string ⟨#[]⟩)
          refine bodyPost_ret (by simp [results, Try.results40, go_sem, r0, r1]; try rfl) rfl ?_
          exact ⟨by first | rfl | simp, gr_from B1.out B1.out.size (Nat.le_succ _) gp⟩
        · rw [if_neg hn]
          have e3 : decide (need ≤ n) = false := by simp; omega
          have hsub : IntKind.i64.wrap (need - 1 - n) = need - 1 - n := by rw [IntKind.wrap_i64]; omega
          have HT0 := Lib.hid (fun w hb => HTG.out (need - 1 - n) (by omega) w hb)
          obtain ⟨⟨z, y⟩, hz⟩ : ∃ r, getT t (need - 1 - n) = r := ⟨_, rfl⟩
          rw [hz] at HT0 ⊢
          unfold fdRV fdV at *
          dsimp only at HT0 ⊢
          obtain ⟨R1, hR1⟩ : ∃ S, strOfNums z.name = S := ⟨_, rfl⟩
          obtain ⟨R2, hR2⟩ : ∃ S, strOfNums z.val = S := ⟨_, rfl⟩
          rw [hR1, hR2] at HT0 ⊢
          clear hz hR1 hR2 HTG
          go_enter Try.func40, Try.ntmps40
          go_upto_region 13 with (go_at_call 39; refine (HP6.out _).mono ?_; rintro e w1 ⟨rfl, b1⟩; have B1 := Lib.hid (B0.out.trans (b1.mono B0.out.size)); have F1 := Lib.hid ((b1.block _ (lt_of_block F0.out)).trans F0.out); have Z1 := Lib.hid ((b1.block _ (lt_of_block Z0.out)).trans Z0.out); have Y1 := Lib.hid ((b1.block _ (lt_of_block Y0.out)).trans Y0.out); clear b1; obtain ⟨z0, z1⟩ := bk2F Z1.out; have zf := fun j => bk_frz Z1.out j; obtain ⟨y0, y1⟩ := bk2F Y1.out; have yf := fun j => bk_frz Y1.out j)
          obtain ⟨q0, q1, q2⟩ := bk3T F1.out
          go_wp2_with fail
          refine (HT0.out _ B1.out).mono ?_
          clear q0 q1 q2 z0 z1 y0 y1 zf yf
          rintro e w2 ⟨b2, rfl⟩
          have B2 := Lib.hid (B1.out.trans (b2.mono B1.out.size)); have F2 := Lib.hid ((b2.block _ (lt_of_block F1.out)).trans F1.out); have Z2 := Lib.hid ((b2.block _ (lt_of_block Z1.out)).trans Z1.out); have Y2 := Lib.hid ((b2.block _ (lt_of_block Y1.out)).trans Y1.out); clear b2
          obtain ⟨z0, z1⟩ := bk2F Z2.out; have zf := fun j => bk_frz Z2.out j; obtain ⟨y0, y1⟩ := bk2F Y2.out; have yf := fun j => bk_frz Y2.out j
          go_upto_region 14 with fail
          obtain ⟨m0, m1, gy⟩ := bk2_putF Y2.out (.string R1) (.string R2)
          obtain ⟨w3, hw3⟩ : ∃ w3, (w2.setCell ⟨W.heap.size + 1 + 1, 0, none⟩ (.string R1)).setCell ⟨W.heap.size + 1 + 1, 1, none⟩ (.string R2) = w3 := ⟨_, rfl⟩
          rw [hw3] at m0 m1 gy ⊢
          have Z3 := Lib.hid ((gy.block _ (lt_of_block Z2.out) (by simp <;> omega)).trans Z2.out)
          have B3 := Lib.hid (gr_from B2.out B2.out.size (Nat.le_add_right _ 2) gy)
          clear hw3 gy z0 z1 y0 y1 zf yf
          obtain ⟨z0, z1⟩ := bk2F Z3.out
          have zf := fun j => bk_frz Z3.out j
          go_wp2_with fail
          obtain ⟨r0, r1, gp⟩ := bk2_putF Z3.out (.string R1) (.string R2)
          refine bodyPost_ret (by simp [results, Try.results40, go_sem, r0, r1]; try rfl) rfl ?_
          exact ⟨by first | rfl | simp, gr_from B3.out B3.out.size (Nat.le_succ _) gp⟩
      · rw [if_pos hx]
        have g : (x != 0) = true := by simp [hx]
        unfold fdRV fdV
        dsimp only
        clear HTG hx
        go_enter Try.func40, Try.ntmps40
        go_wp2_with (go_at_call 39; refine (HP6.out _).mono ?_; rintro e w1 ⟨rfl, b1⟩; have B1 := Lib.hid (B0.out.trans (b1.mono B0.out.size)); have F1 := Lib.hid ((b1.block _ (lt_of_block F0.out)).trans F0.out); have Z1 := Lib.hid ((b1.block _ (lt_of_block Z0.out)).trans Z0.out); have Y1 := Lib.hid ((b1.block _ (lt_of_block Y0.out)).trans Y0.out); clear b1; obtain ⟨z0, z1⟩ := bk2F Z1.out; have zf := fun j => bk_frz Z1.out j; obtain ⟨y0, y1⟩ := bk2F Y1.out; have yf := fun j => bk_frz Y1.out j)
        obtain ⟨r0, r1, gp⟩ := bk2_putF Z1.out (.string ⟨#[]⟩) (.string ⟨#[]⟩)
        refine bodyPost_ret (by simp [results, Try.results40, go_sem, r0, r1]; try rfl) rfl ?_
        exact ⟨by first | rfl | simp, gr_from B1.out B1.out.size (Nat.le_succ _) gp⟩
    · by_cases c3 : 64 ≤ c ∧ c < 80
      · have HR := Lib.hid (show lineR t need b = if (knR b 4).2.2 ≠ 0 then (fd0, 0, (knR b 4).2.2) else (⟨(knR b 4).1.name, (pxTR (b.drop (knR b 4).2.1.toNat) 7).1⟩, (knR b 4).2.1 + (pxTR (b.drop (knR b 4).2.1.toNat) 7).2.1, (pxTR (b.drop (knR b 4).2.1.toNat) 7).2.2) by unfold lineR; rw [HCC.out, if_neg c1, if_neg c2, if_pos c3])
        rw [HR.out]
        have HK4 := Lib.hid HK4a.out
        have HIN := Lib.hid HKI.out
        have HER := Lib.hid HKE.out
        obtain ⟨⟨z, u, x⟩, hr⟩ : ∃ r, knR b 4 = r := ⟨_, rfl⟩
        rw [hr] at HK4 HIN HER ⊢
        unfold fdRV fdV at HK4
        dsimp only at HK4 HIN HER ⊢
        have e1 : decide (192 ≤ c) = false := by simp; omega
        have e2 : decide (128 ≤ c) = false := by simp; omega
        have e3 : decide (64 ≤ c) = true := by simp; omega
        have e4 : decide (c < 80) = true := by simp; omega
        clear hr HR HK6a HK4a HP6a HT3a HI6a HTG HKI HKE
        by_cases hx : x = 0
        · subst hx
          obtain ⟨u0, u1⟩ := HIN.out rfl
          rw [if_neg (fun k => k rfl)]
          obtain ⟨K, rfl⟩ : ∃ K : Nat, u = K := ⟨u.toNat, by omega⟩
          rw [Int.toNat_natCast]
          obtain ⟨R1, hR1⟩ : ∃ S, strOfNums z.name = S := ⟨_, rfl⟩
          obtain ⟨R2, hR2⟩ : ∃ S, strOfNums z.val = S := ⟨_, rfl⟩
          unfold fdRV fdV
          dsimp only
          rw [hR1, hR2] at HK4
          rw [hR1]
          have hsz := HSZ.out
          have hKS : K ≤ S.size := by omega
          have HX := Lib.hid (show S.extract K S.size = strOfNums (b.drop K) by rw [← HSS.out, str_mid2, strOfNums_size, List.take_of_length_le (by rw [List.length_drop]; omega)])
          have HT7 := Lib.hid (fun w => HT7a.out K w)
          have HMB := Lib.hid (HTI.out (b.drop K) (HBY.out.drop K))
          obtain ⟨⟨V, m, y⟩, hv⟩ : ∃ r, pxTR (b.drop K) 7 = r := ⟨_, rfl⟩
          rw [hv] at HT7 HMB ⊢
          unfold pxTV at HT7
          dsimp only at HT7 HMB ⊢
          rw [List.length_drop] at HMB
          obtain ⟨X, hX⟩ : ∃ X, strOfNums (b.drop K) = X := ⟨_, rfl⟩
          rw [hX] at HT7 HX
          obtain ⟨VV, hVV⟩ : ∃ X, strOfNums V = X := ⟨_, rfl⟩
          rw [hVV] at HT7 ⊢
          have hxx := HX.out
          have hKI : (K : Int) ≤ (S.size : Int) := by omega
          have hwr : IntKind.i64.wrap ((K : Int) + m) = (K : Int) + m := by rw [IntKind.wrap_i64]; have := HMB.out; omega
          clear hv hX hVV HX hsz
          clear hR1 hR2 HIN HER HT7a
          go_enter Try.func40, Try.ntmps40
          go_upto_region 16 with fail
          go_wp2_with fail
          refine (HK4.out _).mono ?_
          rintro e w1 ⟨rfl, b1⟩
          have B1 := Lib.hid (B0.out.trans (b1.mono B0.out.size)); have F1 := Lib.hid ((b1.block _ (lt_of_block F0.out)).trans F0.out); have Z1 := Lib.hid ((b1.block _ (lt_of_block Z0.out)).trans Z0.out); have Y1 := Lib.hid ((b1.block _ (lt_of_block Y0.out)).trans Y0.out); clear b1
          obtain ⟨z0, z1⟩ := bk2F Z1.out; have zf := fun j => bk_frz Z1.out j; obtain ⟨y0, y1⟩ := bk2F Y1.out; have yf := fun j => bk_frz Y1.out j
          go_upto_region 19 with fail
          obtain ⟨m0, m1, gy⟩ := bk2_putF Y1.out (.string R1) (.string R2)
          have YY := bk2_blkR Y1.out (.string R1) (.string R2)
          obtain ⟨w2, hw2⟩ : ∃ w9, (w1.setCell ⟨W.heap.size + 1 + 1, 0, none⟩ (.string R1)).setCell ⟨W.heap.size + 1 + 1, 1, none⟩ (.string R2) = w9 := ⟨_, rfl⟩
          rw [hw2] at YY gy ⊢
          have Y2 := Lib.hid YY
          have Z2 := Lib.hid ((gy.block _ (lt_of_block Z1.out) (by simp <;> omega)).trans Z1.out)
          have F2 := Lib.hid ((gy.block _ (lt_of_block F1.out) (by simp <;> omega)).trans F1.out)
          have B2 := Lib.hid (gr_from B1.out B1.out.size (Nat.le_add_right _ 2) gy)
          clear hw2 gy YY m0 m1 z0 z1 y0 y1 zf yf
          obtain ⟨z0, z1⟩ := bk2F Z2.out
          have zf := fun j => bk_frz Z2.out j
          obtain ⟨y0, y1⟩ := bk2F Y2.out
          have yf := fun j => bk_frz Y2.out j
          go_upto_region 22 with (go_at_call 49; refine (HT7.out _).mono ?_; clear z0 z1 y0 y1 zf yf; rintro e w3 ⟨rfl, b3⟩; have B3 := Lib.hid (B2.out.trans (b3.mono B2.out.size)); have F3 := Lib.hid ((b3.block _ (lt_of_block F2.out)).trans F2.out); have Z3 := Lib.hid ((b3.block _ (lt_of_block Z2.out)).trans Z2.out); have Y3 := Lib.hid ((b3.block _ (lt_of_block Y2.out)).trans Y2.out); clear b3; obtain ⟨z0, z1⟩ := bk2F Z3.out; have zf := fun j => bk_frz Z3.out j; obtain ⟨y0, y1⟩ := bk2F Y3.out; have yf := fun j => bk_frz Y3.out j)
          go_upto_region 23 with fail
          have gy := gr_set w3 (W.heap.size + 2) 1 (.string VV)
          have YY : (w3.setCell ⟨W.heap.size + 2, 1, none⟩ (.string VV)).heap[W.heap.size + 2]? = some (.cells #[.string R1, .string VV] 66 (0, 0)) := by simpa using bk_set Y3.out 1 (.string VV)
          obtain ⟨w4, hw4⟩ : ∃ w9, w3.setCell ⟨W.heap.size + 1 + 1, 1, none⟩ (.string VV) = w9 := ⟨_, rfl⟩
          rw [show W.heap.size + 2 = W.heap.size + 1 + 1 from rfl, hw4] at YY gy
          rw [hw4]
          have Y4 := Lib.hid YY
          have Z4 := Lib.hid ((gy.block _ (lt_of_block Z3.out) (by simp <;> omega)).trans Z3.out)
          have F4 := Lib.hid ((gy.block _ (lt_of_block F3.out) (by simp <;> omega)).trans F3.out)
          have B4 := Lib.hid (gr_from B3.out B3.out.size (Nat.le_add_right _ 2) gy)
          clear hw4 gy YY z0 z1 y0 y1 zf yf
          obtain ⟨z0, z1⟩ := bk2F Z4.out
          have zf := fun j => bk_frz Z4.out j
          obtain ⟨y0, y1⟩ := bk2F Y4.out
          have yf := fun j => bk_frz Y4.out j
          go_wp2_with fail
          obtain ⟨r0, r1, gp⟩ := bk2_putF Z4.out (.string R1) (.string VV)
          refine bodyPost_ret (by simp [results, Try.results40, go_sem, r0, r1]; try rfl) rfl ?_
          exact ⟨by first | rfl | simp, gr_from B4.out B4.out.size (Nat.le_succ _) gp⟩
        · rw [if_pos hx]
          have g : (x != 0) = true := by simp [hx]
          obtain ⟨rfl, rfl⟩ := HER.out hx
          rw [show strOfNums fd0.name = ⟨#[]⟩ from rfl, show strOfNums fd0.val = ⟨#[]⟩ from rfl] at HK4
          unfold fdRV fdV
          dsimp only
          rw [show strOfNums fd0.name = ⟨#[]⟩ from rfl, show strOfNums fd0.val = ⟨#[]⟩ from rfl]
          clear HT7a hx HIN HER
          go_enter Try.func40, Try.ntmps40
          go_wp2_with fail
          refine (HK4.out _).mono ?_
          rintro e w1 ⟨rfl, b1⟩
          have B1 := Lib.hid (B0.out.trans (b1.mono B0.out.size)); have F1 := Lib.hid ((b1.block _ (lt_of_block F0.out)).trans F0.out); have Z1 := Lib.hid ((b1.block _ (lt_of_block Z0.out)).trans Z0.out); have Y1 := Lib.hid ((b1.block _ (lt_of_block Y0.out)).trans Y0.out); clear b1
          obtain ⟨z0, z1⟩ := bk2F Z1.out; have zf := fun j => bk_frz Z1.out j; obtain ⟨y0, y1⟩ := bk2F Y1.out; have yf := fun j => bk_frz Y1.out j
          go_upto_region 19 with fail
          obtain ⟨m0, m1, gy⟩ := bk2_putF Y1.out (.string ⟨#[]⟩) (.string ⟨#[]⟩)
          have YY := bk2_blkR Y1.out (.string ⟨#[]⟩) (.string ⟨#[]⟩)
          obtain ⟨w2, hw2⟩ : ∃ w9, (w1.setCell ⟨W.heap.size + 1 + 1, 0, none⟩ (.string ⟨#[]⟩)).setCell ⟨W.heap.size + 1 + 1, 1, none⟩ (.string ⟨#[]⟩) = w9 := ⟨_, rfl⟩
          rw [hw2] at YY gy ⊢
          have Y2 := Lib.hid YY
          have Z2 := Lib.hid ((gy.block _ (lt_of_block Z1.out) (by simp <;> omega)).trans Z1.out)
          have F2 := Lib.hid ((gy.block _ (lt_of_block F1.out) (by simp <;> omega)).trans F1.out)
          have B2 := Lib.hid (gr_from B1.out B1.out.size (Nat.le_add_right _ 2) gy)
          clear hw2 gy YY m0 m1 z0 z1 y0 y1 zf yf
          obtain ⟨z0, z1⟩ := bk2F Z2.out
          have zf := fun j => bk_frz Z2.out j
          obtain ⟨y0, y1⟩ := bk2F Y2.out
          have yf := fun j => bk_frz Y2.out j
          go_wp2_with fail
          obtain ⟨r0, r1, gp⟩ := bk2_putF Z2.out (.string ⟨#[]⟩) (.string ⟨#[]⟩)
          refine bodyPost_ret (by simp [results, Try.results40, go_sem, r0, r1]; try rfl) rfl ?_
          exact ⟨by first | rfl | simp, gr_from B2.out B2.out.size (Nat.le_succ _) gp⟩
      · by_cases c4 : 32 ≤ c ∧ c < 40
        · have HR := Lib.hid (show lineR t need b = if (pxTR b 3).2.2 ≠ 0 then (fd0, 0, (pxTR b 3).2.2) else (⟨(pxTR b 3).1, (pxTR (b.drop (pxTR b 3).2.1.toNat) 7).1⟩, (pxTR b 3).2.1 + (pxTR (b.drop (pxTR b 3).2.1.toNat) 7).2.1, (pxTR (b.drop (pxTR b 3).2.1.toNat) 7).2.2) by unfold lineR; rw [HCC.out, if_neg c1, if_neg c2, if_neg c3, if_pos c4])
          rw [HR.out]
          have HT3 := Lib.hid HT3a.out
          have HIN := Lib.hid (HT3I.out)
          obtain ⟨⟨z, u, x⟩, hr⟩ : ∃ r, pxTR b 3 = r := ⟨_, rfl⟩
          rw [hr] at HT3 HIN ⊢
          unfold pxTV at HT3
          dsimp only at HT3 HIN ⊢
          have e1 : decide (192 ≤ c) = false := by simp; omega
          have e2 : decide (128 ≤ c) = false := by simp; omega
          have e5 : decide (32 ≤ c) = true := by simp; omega
          have e6 : decide (c < 40) = true := by simp; omega
          have e3 : decide (64 ≤ c) = false := by simp; omega
          clear hr HR HK6a HK4a HP6a HT3a HI6a HTG HKI HKE HT3I
          by_cases hx : x = 0
          · subst hx
            obtain ⟨u0, u1, u2⟩ := HIN.out
            rw [if_neg (fun k => k rfl)]
            obtain ⟨K, rfl⟩ : ∃ K : Nat, u = K := ⟨u.toNat, by omega⟩
            rw [Int.toNat_natCast]
            unfold fdRV fdV
            dsimp only
            obtain ⟨R1, hR1⟩ : ∃ S, strOfNums z = S := ⟨_, rfl⟩
            rw [hR1] at HT3 ⊢
            have hsz := HSZ.out
            have hKS : K ≤ S.size := by omega
            have HX := Lib.hid (show S.extract K S.size = strOfNums (b.drop K) by rw [← HSS.out, str_mid2, strOfNums_size, List.take_of_length_le (by rw [List.length_drop]; omega)])
            have HT7 := Lib.hid (fun w => HT7a.out K w)
            have HMB := Lib.hid (HTI.out (b.drop K) (HBY.out.drop K))
            obtain ⟨⟨V, m, y⟩, hv⟩ : ∃ r, pxTR (b.drop K) 7 = r := ⟨_, rfl⟩
            rw [hv] at HT7 HMB ⊢
            unfold pxTV at HT7
            dsimp only at HT7 HMB ⊢
            rw [List.length_drop] at HMB
            obtain ⟨X, hX⟩ : ∃ X, strOfNums (b.drop K) = X := ⟨_, rfl⟩
            rw [hX] at HT7 HX
            obtain ⟨VV, hVV⟩ : ∃ X, strOfNums V = X := ⟨_, rfl⟩
            rw [hVV] at HT7 ⊢
            have hxx := HX.out
            have hKI : (K : Int) ≤ (S.size : Int) := by omega
            have hwr : IntKind.i64.wrap ((K : Int) + m) = (K : Int) + m := by rw [IntKind.wrap_i64]; have := HMB.out; omega
            clear hv hX hVV HX hsz
            clear hR1 HIN HT7a
            go_enter Try.func40, Try.ntmps40
            go_wp2_with fail
            refine (HT3.out _).mono ?_
            rintro e w1 ⟨rfl, b1⟩
            have B1 := Lib.hid (B0.out.trans (b1.mono B0.out.size)); have F1 := Lib.hid ((b1.block _ (lt_of_block F0.out)).trans F0.out); have Z1 := Lib.hid ((b1.block _ (lt_of_block Z0.out)).trans Z0.out); have Y1 := Lib.hid ((b1.block _ (lt_of_block Y0.out)).trans Y0.out); clear b1
            obtain ⟨z0, z1⟩ := bk2F Z1.out; have zf := fun j => bk_frz Z1.out j; obtain ⟨y0, y1⟩ := bk2F Y1.out; have yf := fun j => bk_frz Y1.out j
            go_upto_region 19 with fail
            have gy := gr_set w1 (W.heap.size + 2) 0 (.string R1)
            have YY : (w1.setCell ⟨W.heap.size + 2, 0, none⟩ (.string R1)).heap[W.heap.size + 2]? = some (.cells #[.string R1, .string ⟨#[]⟩] 66 (0, 0)) := by simpa using bk_set Y1.out 0 (.string R1)
            obtain ⟨w2, hw2⟩ : ∃ w9, w1.setCell ⟨W.heap.size + 1 + 1, 0, none⟩ (.string R1) = w9 := ⟨_, rfl⟩
            rw [show W.heap.size + 2 = W.heap.size + 1 + 1 from rfl, hw2] at YY gy
            rw [hw2]
            have Y2 := Lib.hid YY
            have Z2 := Lib.hid ((gy.block _ (lt_of_block Z1.out) (by simp <;> omega)).trans Z1.out)
            have F2 := Lib.hid ((gy.block _ (lt_of_block F1.out) (by simp <;> omega)).trans F1.out)
            have B2 := Lib.hid (gr_from B1.out B1.out.size (Nat.le_add_right _ 2) gy)
            clear hw2 gy YY z0 z1 y0 y1 zf yf
            obtain ⟨z0, z1⟩ := bk2F Z2.out
            have zf := fun j => bk_frz Z2.out j
            obtain ⟨y0, y1⟩ := bk2F Y2.out
            have yf := fun j => bk_frz Y2.out j
            go_upto_region 22 with (go_at_call 49; refine (HT7.out _).mono ?_; clear z0 z1 y0 y1 zf yf; rintro e w3 ⟨rfl, b3⟩; have B3 := Lib.hid (B2.out.trans (b3.mono B2.out.size)); have F3 := Lib.hid ((b3.block _ (lt_of_block F2.out)).trans F2.out); have Z3 := Lib.hid ((b3.block _ (lt_of_block Z2.out)).trans Z2.out); have Y3 := Lib.hid ((b3.block _ (lt_of_block Y2.out)).trans Y2.out); clear b3; obtain ⟨z0, z1⟩ := bk2F Z3.out; have zf := fun j => bk_frz Z3.out j; obtain ⟨y0, y1⟩ := bk2F Y3.out; have yf := fun j => bk_frz Y3.out j)
            go_upto_region 23 with fail
            have gy := gr_set w3 (W.heap.size + 2) 1 (.string VV)
            have YY : (w3.setCell ⟨W.heap.size + 2, 1, none⟩ (.string VV)).heap[W.heap.size + 2]? = some (.cells #[.string R1, .string VV] 66 (0, 0)) := by simpa using bk_set Y3.out 1 (.string VV)
            obtain ⟨w4, hw4⟩ : ∃ w9, w3.setCell ⟨W.heap.size + 1 + 1, 1, none⟩ (.string VV) = w9 := ⟨_, rfl⟩
            rw [show W.heap.size + 2 = W.heap.size + 1 + 1 from rfl, hw4] at YY gy
            rw [hw4]
            have Y4 := Lib.hid YY
            have Z4 := Lib.hid ((gy.block _ (lt_of_block Z3.out) (by simp <;> omega)).trans Z3.out)
            have F4 := Lib.hid ((gy.block _ (lt_of_block F3.out) (by simp <;> omega)).trans F3.out)
            have B4 := Lib.hid (gr_from B3.out B3.out.size (Nat.le_add_right _ 2) gy)
            clear hw4 gy YY z0 z1 y0 y1 zf yf
            obtain ⟨z0, z1⟩ := bk2F Z4.out
            have zf := fun j => bk_frz Z4.out j
            obtain ⟨y0, y1⟩ := bk2F Y4.out
            have yf := fun j => bk_frz Y4.out j
            go_wp2_with fail
            obtain ⟨r0, r1, gp⟩ := bk2_putF Z4.out (.string R1) (.string VV)
            refine bodyPost_ret (by simp [results, Try.results40, go_sem, r0, r1]; try rfl) rfl ?_
            exact ⟨by first | rfl | simp, gr_from B4.out B4.out.size (Nat.le_succ _) gp⟩
          · rw [if_pos hx]
            have g : (x != 0) = true := by simp [hx]
            obtain ⟨u0, u1, u2⟩ := HIN.out
            obtain ⟨rfl, rfl⟩ := u2 hx
            rw [show strOfNums ([] : List Int) = ⟨#[]⟩ from rfl] at HT3
            unfold fdRV fdV
            dsimp only
            rw [show strOfNums fd0.name = ⟨#[]⟩ from rfl, show strOfNums fd0.val = ⟨#[]⟩ from rfl]
            clear HT7a hx HIN u2
            go_enter Try.func40, Try.ntmps40
            go_wp2_with fail
            refine (HT3.out _).mono ?_
            rintro e w1 ⟨rfl, b1⟩
            have B1 := Lib.hid (B0.out.trans (b1.mono B0.out.size)); have F1 := Lib.hid ((b1.block _ (lt_of_block F0.out)).trans F0.out); have Z1 := Lib.hid ((b1.block _ (lt_of_block Z0.out)).trans Z0.out); have Y1 := Lib.hid ((b1.block _ (lt_of_block Y0.out)).trans Y0.out); clear b1
            obtain ⟨z0, z1⟩ := bk2F Z1.out; have zf := fun j => bk_frz Z1.out j; obtain ⟨y0, y1⟩ := bk2F Y1.out; have yf := fun j => bk_frz Y1.out j
            go_upto_region 19 with fail
            have gy := gr_set w1 (W.heap.size + 2) 0 (.string ⟨#[]⟩)
            have YY : (w1.setCell ⟨W.heap.size + 2, 0, none⟩ (.string ⟨#[]⟩)).heap[W.heap.size + 2]? = some (.cells #[.string ⟨#[]⟩, .string ⟨#[]⟩] 66 (0, 0)) := by simpa using bk_set Y1.out 0 (.string ⟨#[]⟩)
            obtain ⟨w2, hw2⟩ : ∃ w9, w1.setCell ⟨W.heap.size + 1 + 1, 0, none⟩ (.string ⟨#[]⟩) = w9 := ⟨_, rfl⟩
            rw [show W.heap.size + 2 = W.heap.size + 1 + 1 from rfl, hw2] at YY gy
            rw [hw2]
            have Y2 := Lib.hid YY
            have Z2 := Lib.hid ((gy.block _ (lt_of_block Z1.out) (by simp <;> omega)).trans Z1.out)
            have F2 := Lib.hid ((gy.block _ (lt_of_block F1.out) (by simp <;> omega)).trans F1.out)
            have B2 := Lib.hid (gr_from B1.out B1.out.size (Nat.le_add_right _ 2) gy)
            clear hw2 gy YY z0 z1 y0 y1 zf yf
            obtain ⟨z0, z1⟩ := bk2F Z2.out
            have zf := fun j => bk_frz Z2.out j
            obtain ⟨y0, y1⟩ := bk2F Y2.out
            have yf := fun j => bk_frz Y2.out j
            go_wp2_with fail
            obtain ⟨r0, r1, gp⟩ := bk2_putF Z2.out (.string ⟨#[]⟩) (.string ⟨#[]⟩)
            refine bodyPost_ret (by simp [results, Try.results40, go_sem, r0, r1]; try rfl) rfl ?_
            exact ⟨by first | rfl | simp, gr_from B2.out B2.out.size (Nat.le_succ _) gp⟩
        · have HR := Lib.hid (show lineR t need b = (fd0, 0, 2) by unfold lineR; rw [HCC.out, if_neg c1, if_neg c2, if_neg c3, if_neg c4])
          rw [HR.out]
          unfold fdRV fdV
          dsimp only
          rw [show strOfNums fd0.name = ⟨#[]⟩ from rfl, show strOfNums fd0.val = ⟨#[]⟩ from rfl]
          obtain ⟨y0, y1⟩ := bk2F Y0.out
          have e1 : decide (192 ≤ c) = false := by simp; omega
          have e2 : decide (128 ≤ c) = false := by simp; omega
          clear HR HK6a HK4a HP6a HT3a HI6a HTG HKI HKE HT3I HT7a
          by_cases q1 : 64 ≤ c
          · have e3 : decide (64 ≤ c) = true := by simp; omega
            have e4 : decide (c < 80) = false := by simp; omega
            have e5 : decide (32 ≤ c) = true := by simp; omega
            have e6 : decide (c < 40) = false := by simp; omega
            clear q1
            go_enter Try.func40, Try.ntmps40
            go_wp2_with fail
            obtain ⟨r0, r1⟩ := bk2F Z0.out
            refine bodyPost_ret (by simp [results, Try.results40, go_sem, r0, r1]; try rfl) rfl ?_
            exact ⟨by first | rfl | simp, B0.out⟩
          · have e3 : decide (64 ≤ c) = false := by simp; omega
            by_cases q2 : 32 ≤ c
            · have e5 : decide (32 ≤ c) = true := by simp; omega
              have e6 : decide (c < 40) = false := by simp; omega
              clear q1 q2
              go_enter Try.func40, Try.ntmps40
              go_wp2_with fail
              obtain ⟨r0, r1⟩ := bk2F Z0.out
              refine bodyPost_ret (by simp [results, Try.results40, go_sem, r0, r1]; try rfl) rfl ?_
              exact ⟨by first | rfl | simp, B0.out⟩
            · have e5 : decide (32 ≤ c) = false := by simp; omega
              clear q1 q2
              go_enter Try.func40, Try.ntmps40
              go_wp2_with fail
              obtain ⟨r0, r1⟩ := bk2F Z0.out
              refine bodyPost_ret (by simp [results, Try.results40, go_sem, r0, r1]; try rfl) rfl ?_
              exact ⟨by first | rfl | simp, B0.out⟩
end Go.Proofs.Ytpfahdogedchpaa
