/- The project's fields: Decode. -/
import Derived.Test.YtadhdghjlohpcaaFdP3
import Derived.Test.YtadhdghjlohpcaaFdLawC
namespace Go.Proofs.Ytadhdghjlohpcaa.P
set_option linter.unusedVariables false
theorem linesR_read (t : Tb) (need : Int) (n : Nat) (b : List Int) (out : List Fld) (hb : b ≠ []) (h8 : ¬ 8 ≤ out.length) : linesR t need (n + 1) b out = if (readR t need b).2.2 ≠ 0 then ([], (readR t need b).2.2) else linesR t need n (b.drop (readR t need b).2.1.toNat) (out ++ [(readR t need b).1]) := by
  obtain ⟨h1, h2⟩ := readR_line t need b
  rw [linesR, if_neg hb, if_neg h8, h1]
  by_cases c : (lineR t need b).2.2 ≠ 0
  · rw [if_pos c, if_pos c]
  · rw [if_neg c, if_neg c, h2 (Decidable.byContradiction c)]
theorem readR_wf {t : Tb} (hw : TbWf t) (need : Int) {b : List Int} (hb : Byt b) (hl : b.length ≤ 140737488355328) (h : (readR t need b).2.2 = 0) : FdWf (readR t need b).1 ∧ 0 ≤ (readR t need b).2.1 ∧ (readR t need b).2.1 ≤ b.length := by
  obtain ⟨h1, h2⟩ := readR_line t need b
  have h0 := h1.symm.trans h
  rw [h2 h0]
  exact ⟨lineR_wf hw need hb hl, lineR_in hb h0⟩
end Go.Proofs.Ytadhdghjlohpcaa.P
namespace Go.Proofs.Ytadhdghjlohpcaa
set_option linter.unusedVariables false
open Go.RowKit P

set_option maxRecDepth 100000 in
set_option maxHeartbeats 2000000 in
theorem fddec_any : FdDec Try.prog 18 := fun v s t b W hv hw hs hl => by
  have HFT := Lib.hid (fun w (hb : Below W.heap.size W w) => tchk_any v t w (hv.on hb) hw)
  have HPO := Lib.hid (fun w (hb : Below W.heap.size W w) => pxDec_any s b 8 w (bsl_onF hs hb) hl (by decide) (by decide))
  have HLN := Lib.hid (fun need s' bs w (hb : Below W.heap.size W w) (h1 : BSl W W.heap.size s' bs) h2 h3 h4 => fdread_any v t need s' bs w (hv.on hb) hw (bsl_onF h1 hb) h2 h3 h4)
  have HLW := Lib.hid (fun need bs h1 h2 h3 => readR_wf hw need (b := bs) h1 h2 h3)
  have hD : decFl t b = if faultTb t ≠ 0 then ([], faultTb t) else if (pxR b 8).2.2 ≠ 0 then ([], (pxR b 8).2.2) else if t.put < (pxR b 8).1 then ([], 14)
    else if (linesR t (pxR b 8).1 9 (b.drop (pxR b 8).2.1.toNat) []).2 ≠ 0 then ([], (linesR t (pxR b 8).1 9 (b.drop (pxR b 8).2.1.toNat) []).2)
    else if faultFl (linesR t (pxR b 8).1 9 (b.drop (pxR b 8).2.1.toNat) []).1 ≠ 0 then ([], faultFl (linesR t (pxR b 8).1 9 (b.drop (pxR b 8).2.1.toNat) []).1) else linesR t (pxR b 8).1 9 (b.drop (pxR b 8).2.1.toNat) [] := rfl
  rw [hD]
  obtain ⟨A0, c0, rfl, hc0, hm0, hn0, hr0⟩ := hs.ex
  have HPI := Lib.hid (fun h => pxR_in (b := b) (w := 8) (fun j => (hr0.1 j).1) h)
  have HSD := Lib.hid (fun K hK => bsl_drop hs K hK)
  have HBL := Lib.hid hl
  obtain ⟨N, hN⟩ : ∃ N, b.length = N := ⟨_, rfl⟩
  rw [hN] at HPO HPI HSD HBL hc0 ⊢
  obtain ⟨At, ct, rfl⟩ := tb_slicesR hv
  have pb := hw.put
  have B0 := Lib.hid ((Below.refl W.heap.size W).alloc (Nat.le_refl _) (.cells #[.int .i64 t.room, .int .i64 t.put, .slice At t.rows.length ct] 24))
  have F0 := Lib.hid (heap_alloc_new W (.cells #[.int .i64 t.room, .int .i64 t.put, .slice At t.rows.length ct] 24))
  obtain ⟨x, hx⟩ : ∃ x, faultTb t = x := ⟨_, rfl⟩
  rw [hx] at HFT ⊢
  have HOKT := Lib.hid (fun h : x = 0 => (faultTb_iff t).1 (hx.trans h))
  obtain ⟨⟨need, u, y⟩, hr⟩ : ∃ r, pxR b 8 = r := ⟨_, rfl⟩
  rw [hr] at HPO HPI ⊢
  unfold pxRV at HPO
  dsimp only at HPO HPI ⊢
  unfold FlRes
  obtain ⟨room, put, rows⟩ := t
  simp only at pb HFT HLN HLW B0 F0 HOKT ⊢
  obtain ⟨Nt, hNt⟩ : ∃ n, rows.length = n := ⟨_, rfl⟩
  rw [hNt] at HFT HLN B0 F0 ⊢
  clear hx hr hv hw hl hD hr0 hs hm0 hn0
  by_cases h0 : x = 0
  · subst h0
    rw [if_neg (fun k => k rfl)]
    by_cases hy : y = 0
    · subst hy
      rw [if_neg (fun k => k rfl)]
      obtain ⟨n0, n1, u0, u1, u2⟩ := HPI.out rfl
      by_cases hp : put < need
      · rw [if_pos hp]
        have e1 : decide (put < need) = true := by simp [hp]
        clear hNt hN
        go_enter Try.func18, Try.ntmps18
        go_wp2_with (first
          | (go_at_call 32; refine (HFT.out _ B0.out).mono ?_; rintro e w1 ⟨rfl, b1⟩; have B1 := Lib.hid (B0.out.trans (b1.mono B0.out.size)); have F1 := Lib.hid ((b1.block _ (lt_of_block F0.out)).trans F0.out); clear b1; obtain ⟨q0, q1, q2⟩ := bk3T F1.out)
          | (go_at_call 42; refine (HPO.out _ B1.out).mono ?_; rintro e w2 ⟨rfl, rfl⟩))
        go_ret2
        exact ⟨B1.out, _, rfl, FSl.nil _ _⟩
      · rw [if_neg hp]
        have e1 : decide (put < need) = false := by simp; omega
        obtain ⟨U, rfl⟩ : ∃ U : Nat, u = U := ⟨u.toNat, by omega⟩
        rw [Int.toNat_natCast]
        have hUN : U ≤ N := by omega
        have hUI0 : (0 : Int) ≤ (U : Int) := by omega
        have hUI : (U : Int) ≤ (N : Int) := by omega
        have hUc : (U : Int) ≤ (c0 : Int) := by omega
        have SD := HSD.out U hUN
        obtain ⟨SA, hSA⟩ : ∃ SA, (if c0 = U then A0 else Option.map (fun x => x.add U) A0) = SA := ⟨_, rfl⟩
        rw [hSA] at SD
        have SDH := Lib.hid SD
        have HDL := Lib.hid (show (b.drop U).length = N - U by rw [List.length_drop, hN])
        obtain ⟨T, hT⟩ : ∃ T : Tb, (⟨room, put, rows⟩ : Tb) = T := ⟨_, rfl⟩
        rw [hT] at HLN HLW ⊢
        obtain ⟨R, hR⟩ : ∃ R, linesR T need 9 (b.drop U) [] = R := ⟨_, rfl⟩
        rw [hR]
        have HRR := Lib.hid hR
        obtain ⟨RS, hRS⟩ : ∃ RS : List Fld × Int, (if R.2 ≠ 0 then ([], R.2) else if faultFl R.1 ≠ 0 then ([], faultFl R.1) else R) = RS := ⟨_, rfl⟩
        rw [hRS]
        have HRS := Lib.hid hRS
        obtain ⟨i0, hi0, hz0, hz1, hz2⟩ := info_partsE infoFd
        have HI := Lib.hid hi0
        have HZ := Lib.hid hz0
        have HZ1 := Lib.hid hz1
        have HZ2 := Lib.hid hz2
        have hn99 := Lib.hid (show 0 ≤ need ∧ need ≤ 4611686018427387904 by omega)
        clear hR hRS hNt hT hp hi0 hz0 hz1 hz2 HOKT SD HPI HSD hN n0 n1 u0 u1 u2
        go_enter Try.func18, Try.ntmps18
        go_wp2_with (first
          | (go_at_call 32; refine (HFT.out _ B0.out).mono ?_; rintro e w1 ⟨rfl, b1⟩; have B1 := Lib.hid (B0.out.trans (b1.mono B0.out.size)); have F1 := Lib.hid ((b1.block _ (lt_of_block F0.out)).trans F0.out); clear b1; obtain ⟨q0, q1, q2⟩ := bk3T F1.out)
          | (go_at_call 42; refine (HPO.out _ B1.out).mono ?_; rintro e w2 ⟨rfl, rfl⟩))
        clear q0 q1 q2 hSA hUN hUI0 hUI hUc e1 pb hc0
        go_loopg [1, 8, 10] 9 (fun gq sv uv ov wr => ∃ (bs : List Int) (out : List Fld) (Ab A1 : Option Addr) (nb cb n c : Nat) (u : Int), sv = .slice Ab nb cb ∧ uv = .int .i64 u ∧ ov = .slice A1 n c ∧ n + gq = 9 ∧ n ≤ 8 ∧ Hid (out.length = n) ∧ Hid (bs.length = nb) ∧ Hid (nb ≤ N) ∧ Hid (BSl W W.heap.size (.slice Ab nb cb) bs) ∧ Hid (linesR T need gq bs out = R) ∧ Hid (∀ x ∈ out, FdWf x) ∧ Hid (OwnE FdE wr (W.heap.size + 1) 57 (.slice A1 n c) out) ∧ Hid (TKF W (.cells #[.int .i64 room, .int .i64 put, .slice At Nt ct] 24 (0, 0)) wr))
        case atStart => exact ⟨b.drop U, [], SA, none, N - U, c0 - U, 0, 0, _, rfl, rfl, rfl, rfl, by omega, Lib.hid rfl, HDL, Lib.hid (Nat.sub_le _ _), SDH, HRR, Lib.hid (fun x hx => by cases hx), Lib.hid (OwnE.nil _ _ _), Lib.hid ⟨F1.out, B1.out⟩⟩
        case round =>
          obtain ⟨bs, out, Ab, A1, nb, cb, n, c, u, rfl, rfl, rfl, hng, hn8, HNL, HNB, HNN, BS, HLR, HOW, OB, TK⟩ := hrel
          by_cases hnb : nb = 0
          · subst hnb
            obtain rfl : bs = [] := List.eq_nil_of_length_eq_zero HNB.out
            have hRo : R = (out, 0) := by
              have := HLR.out
              cases gk with
              | zero => rw [linesR, if_pos rfl] at this; exact this.symm
              | succ g => rw [linesR, if_pos rfl] at this; exact this.symm
            obtain ⟨A2, c2, h8, l8, m8, r8⟩ := OB.out.slice
            injection h8 with a1 a2 a3
            have HFF := Lib.hid (fun w (hb : Below wr.heap.size wr w) => fdchk_any A1 n c out w (a1 ▸ r8.on hb) HNL.out HOW.out (by omega))
            have HFS := Lib.hid (fun w (hb : Below wr.heap.size wr w) => (⟨A1, c, by rw [HNL.out], by rw [a3]; exact l8, by rw [a3]; exact m8, a1 ▸ r8.on hb⟩ : FSl w w.heap.size (.slice A1 n c) out))
            obtain ⟨ff, hff⟩ : ∃ e, faultFl out = e := ⟨_, rfl⟩
            rw [hff] at HFF
            have HRQ := Lib.hid (show RS = if ff ≠ 0 then ([], ff) else (out, 0) by rw [← HRS.out, hRo, if_neg (fun k => k rfl), hff])
            have BK := Lib.hid TK.out.b
            clear hRo a1 a2 a3 l8 m8 r8 hff HRS HRR
            by_cases hf : ff = 0
            · subst hf
              obtain rfl : RS = (out, 0) := by rw [HRQ.out, if_neg (fun k => k rfl)]
              clear HRQ
              go_wp2_with fail
              refine (HFF.out _ (Below.refl _ _)).mono ?_
              rintro e w3 ⟨rfl, b3⟩
              have B3 := Lib.hid (BK.out.trans (b3.mono BK.out.size))
              have S3 := Lib.hid (HFS.out w3 b3)
              clear b3
              go_wp2_with fail
              go_ret2
              exact ⟨B3.out, _, rfl, S3.out⟩
            · obtain rfl : RS = ([], ff) := by rw [HRQ.out, if_pos hf]
              have g : (ff != 0) = true := by simp [hf]
              clear hf HRQ
              go_wp2_with fail
              refine (HFF.out _ (Below.refl _ _)).mono ?_
              rintro e w3 ⟨rfl, b3⟩
              have B3 := Lib.hid (BK.out.trans (b3.mono BK.out.size))
              clear b3
              go_wp2_with fail
              go_ret2
              exact ⟨B3.out, _, rfl, FSl.nil _ _⟩
          · have hnbI : (0 : Int) < (nb : Int) := by omega
            have HNE := Lib.hid (show bs ≠ [] by intro e; have := HNB.out; rw [e] at this; exact hnb this.symm)
            by_cases h8 : n = 8
            · have hRo : R = ([], 1) := by
                have := HLR.out
                cases gk with
                | zero => rw [linesR, if_neg HNE.out] at this; exact this.symm
                | succ g => rw [linesR, if_neg HNE.out, if_pos (by rw [HNL.out]; omega)] at this; exact this.symm
              obtain rfl : RS = ([], 1) := by rw [← HRS.out, hRo, if_pos (by decide)]
              have BK := Lib.hid TK.out.b
              subst h8
              clear hRo HRS HRR hnb
              go_wp2_with fail
              go_ret2
              exact ⟨BK.out, _, rfl, FSl.nil _ _⟩
            · have h8i : ((n : Int) == 8) = false := by simp; omega
              have hn7 := Lib.hid (show n + 1 ≤ 8 by omega)
              obtain ⟨g, rfl⟩ : ∃ g, gk = g + 1 := ⟨gk - 1, by omega⟩
              have HLS := Lib.hid (show R = if (readR T need bs).2.2 ≠ 0 then ([], (readR T need bs).2.2) else linesR T need g (bs.drop (readR T need bs).2.1.toNat) (out ++ [(readR T need bs).1]) by
                have := HLR.out
                rw [linesR_read T need g bs out HNE.out (by rw [HNL.out]; omega)] at this
                exact this.symm)
              obtain ⟨Ab', cb', hq, hq1, hq2, hq3, hqr⟩ := BS.out.ex
              injection hq with a1 a2 a3
              subst a1 a3
              clear a2
              have hbs : bs.length ≤ 140737488355328 := by rw [HNB.out]; have := HNN.out; have := HBL.out; omega
              have HLNE := Lib.hid (fun w hb => HLN.out need _ bs w hb BS.out hbs (by rw [HNB.out]; omega) hn99.out)
              have HFW := Lib.hid (fun h => HLW.out need bs hqr.1 hbs h)
              have HBD := Lib.hid (fun K (hK : K ≤ nb) => bsl_drop BS.out K (by rw [HNB.out]; exact hK))
              have hnc : nb ≤ cb := by have := HNB.out; omega
              obtain ⟨⟨f, u2, y⟩, hln⟩ : ∃ r, readR T need bs = r := ⟨_, rfl⟩
              rw [hln] at HFW HLNE HLS
              unfold fdRV fdV at HLNE
              dsimp only at HFW HLNE HLS
              rw [HNB.out] at HFW
              obtain ⟨S1, hS1⟩ : ∃ S, strOfNums f.name = S := ⟨_, rfl⟩
              obtain ⟨S2, hS2⟩ : ∃ S, strOfNums f.val = S := ⟨_, rfl⟩
              have HFX := Lib.hid (show FdE.f f = [.string S1, .string S2] by rw [← hS1, ← hS2]; rfl)
              rw [hS1, hS2] at HLNE
              obtain ⟨q0, q1, q2⟩ := bk3T TK.out.t
              have b8 := (Below.refl wr.heap.size wr).alloc (Nat.le_refl _) (.cells #[.string ⟨#[]⟩, .string ⟨#[]⟩] 57)
              have TKY := Lib.hid (TK.out.later b8)
              have OBY := Lib.hid (OwnE.later OB.out b8)
              have YY := Lib.hid (heap_alloc_new wr (.cells #[.string ⟨#[]⟩, .string ⟨#[]⟩] 57))
              have hwlt := lt_of_block TK.out.t
              have hwl := Lib.hid (show W.heap.size + 1 ≤ wr.heap.size by omega)
              obtain ⟨f0, f1, f2⟩ := bk3T TKY.out.t
              clear hln hS1 hS2 HLR b8 hq1 hq2 hq3 hqr hnb hbs h8 hwlt
              go_wp2_with fail
              refine (HLNE.out _ TKY.out.b).mono ?_
              clear q0 q1 q2 f0 f1 f2
              rintro e w2 ⟨rfl, b2⟩
              have TK2 := Lib.hid (TKY.out.later b2)
              have OB2 := Lib.hid (OwnE.later OBY.out b2)
              have Y2 := Lib.hid ((b2.block _ (lt_of_block YY.out)).trans YY.out)
              clear b2
              obtain ⟨y0, y1⟩ := bk2F Y2.out
              have yf := fun j => bk_frz Y2.out j
              go_upto_region 17 with fail
              obtain ⟨m0, m1, gy⟩ := bk2_putF Y2.out (.string S1) (.string S2)
              have YY3 := bk2_blkR Y2.out (.string S1) (.string S2)
              obtain ⟨w3, hw3⟩ : ∃ w9, (w2.setCell ⟨wr.heap.size, 0, none⟩ (.string S1)).setCell ⟨wr.heap.size, 1, none⟩ (.string S2) = w9 := ⟨_, rfl⟩
              rw [hw3] at YY3 gy ⊢
              have Y3 := Lib.hid YY3
              have TK3 := Lib.hid (TK2.out.gr gy (fun k e => by cases e; exact hwl.out))
              have OB3 := Lib.hid (OwnE.kept OB2.out gy (fun e => by have := (OwnE.lt OB.out _ e).2; omega))
              clear hw3 gy YY3 m0 m1 y0 y1 yf
              by_cases hy : y = 0
              · subst hy
                rw [if_neg (fun k => k rfl)] at HLS
                obtain ⟨hfw, u0, u1⟩ := HFW.out rfl
                have HFWF := Lib.hid hfw
                obtain ⟨K, rfl⟩ : ∃ K : Nat, u2 = K := ⟨u2.toNat, by omega⟩
                rw [Int.toNat_natCast] at HLS
                have hKn : K ≤ nb := by omega
                have hKI0 : (0 : Int) ≤ (K : Int) := by omega
                have hKI : (K : Int) ≤ (nb : Int) := by omega
                have hKc : (K : Int) ≤ (cb : Int) := by omega
                have BD := HBD.out K hKn
                obtain ⟨SB, hSB⟩ : ∃ SB, (if cb = K then Ab else Option.map (fun x => x.add K) Ab) = SB := ⟨_, rfl⟩
                rw [hSB] at BD
                have BDH := Lib.hid BD
                have HLL := Lib.hid (show out.length ≤ 8 by rw [HNL.out]; exact hn8)
                have R1 := Lib.hid ((RowE.one (E := FdE) w3 f #[.string S1, .string S2] 57 w3.heap.size rfl HFX.out.symm).more (show w3.heap.size + 1 ≤ (w3.alloc (.cells #[.string S1, .string S2] 57)).heap.size by simp))
                have b9 := (Below.refl w3.heap.size w3).alloc (Nat.le_refl _) (.cells #[.string S1, .string S2] 57)
                have OA := Lib.hid (OwnE.later OB3.out b9)
                have TKA := Lib.hid (TK3.out.later b9)
                have hbase := Lib.hid (show W.heap.size + 1 ≤ (w3.alloc (.cells #[.string S1, .string S2] 57)).heap.size from lt_of_block TKA.out.t)
                obtain ⟨y0, y1⟩ := bk2F Y3.out
                clear BD b9 hfw u0 u1
                go_wp2_with (at_builtin
                             refine wpList_appE _ rfl (.tmp 56) (.tmp 58) _ rfl (W.heap.size + 1) 57 i0 (.agg #[.string ⟨#[]⟩, .string ⟨#[]⟩]) 32 Try.underlying22 HI.out HZ.out HZ1.out HZ2.out rfl (by decide) (.slice A1 n c) out rfl OA.out _ (some ⟨w3.heap.size, 0, none⟩) 1 1 [f] rfl R1.out rfl (by have := HLL.out; omega) hbase.out ?_
                             intro v9 u9 own9 g9
                             have O9 := Lib.hid own9
                             have TK9 := Lib.hid (TKA.out.gr g9 (fun k e => (OwnE.lt OA.out k e).1))
                             obtain ⟨A8, c8, h8, _, _, _⟩ := own9.slice
                             have hl1 : (out ++ [f]).length = n + 1 := by rw [List.length_append, HNL.out]; rfl
                             rw [hl1] at h8
                             subst h8
                             have HL1 := Lib.hid hl1
                             clear own9 g9 y0 y1 hl1)
                go_roundg g
                case measure => omega
                case rel => exact ⟨bs.drop K, out ++ [f], SB, A8, nb - K, cb - K, n + 1, c8, _, rfl, rfl, rfl, by omega, hn7.out, HL1, Lib.hid (by rw [List.length_drop, HNB.out]), Lib.hid (Nat.le_trans (Nat.sub_le _ _) HNN.out), BDH, Lib.hid HLS.out.symm, Lib.hid (fun x hx => by rcases List.mem_append.1 hx with hx | hx; (exact HOW.out x hx); (rw [List.mem_singleton.1 hx]; exact HFWF.out)), O9, TK9⟩
              · rw [if_pos hy] at HLS
                have g9 : (y != 0) = true := by simp [hy]
                have hRo := HLS.out
                obtain rfl : RS = ([], y) := by rw [← HRS.out, hRo, if_pos (show (([], y) : List Fld × Int).2 ≠ 0 from hy)]
                have BK := Lib.hid TK3.out.b
                clear hRo HLS hy HRS HRR
                go_wp2_with fail
                go_ret2
                exact ⟨BK.out, _, rfl, FSl.nil _ _⟩
    · rw [if_pos hy]
      have g : (y != 0) = true := by simp [hy]
      clear hNt hy hN
      go_enter Try.func18, Try.ntmps18
      go_wp2_with (first
        | (go_at_call 32; refine (HFT.out _ B0.out).mono ?_; rintro e w1 ⟨rfl, b1⟩; have B1 := Lib.hid (B0.out.trans (b1.mono B0.out.size)); have F1 := Lib.hid ((b1.block _ (lt_of_block F0.out)).trans F0.out); clear b1; obtain ⟨q0, q1, q2⟩ := bk3T F1.out)
        | (go_at_call 42; refine (HPO.out _ B1.out).mono ?_; rintro e w2 ⟨rfl, rfl⟩))
      go_ret2
      exact ⟨B1.out, _, rfl, FSl.nil _ _⟩
  · rw [if_pos h0]
    have g : (x != 0) = true := by simp [h0]
    clear hNt h0 hN
    go_enter Try.func18, Try.ntmps18
    go_wp2_with (go_at_call 32; refine (HFT.out _ B0.out).mono ?_; rintro e w1 ⟨rfl, b1⟩; have B1 := Lib.hid (B0.out.trans (b1.mono B0.out.size)); have F1 := Lib.hid ((b1.block _ (lt_of_block F0.out)).trans F0.out); clear b1; obtain ⟨q0, q1, q2⟩ := bk3T F1.out)
    go_ret2
    exact ⟨B1.out, _, rfl, FSl.nil _ _⟩
end Go.Proofs.Ytadhdghjlohpcaa
