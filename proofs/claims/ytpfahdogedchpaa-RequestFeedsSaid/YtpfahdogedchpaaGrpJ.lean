/- Several texts in one. -/
import Derived.Test.YtpfahdogedchpaaFdP2
import Derived.Test.YtpfahdogedchpaaTabP7
import Derived.Test.YtpfahdogedchpaaRefFd3
import Derived.Test.YtpfahdogedchpaaGrpY
/- The project's readers of fields: readNamed, readReferred, read. -/
namespace Go.Proofs.Ytpfahdogedchpaa.P
set_option linter.unusedVariables false
open Go.RowKit
/-- what the project's read says: a field of a section, or an error alone -/
def readR (t : Tb) (need : Int) (b : List Int) : Fld × Int × Int :=
  if 192 ≤ b.getD 0 0 then knR b 6 else if 128 ≤ b.getD 0 0 then refdR t need b else if 64 ≤ b.getD 0 0 ∧ b.getD 0 0 < 80 then namedR b else if 32 ≤ b.getD 0 0 ∧ b.getD 0 0 < 40 then pairR b 3 else (fd0, 0, 2)
theorem readR_line (t : Tb) (need : Int) (b : List Int) : (readR t need b).2.2 = (lineR t need b).2.2 ∧ ((lineR t need b).2.2 = 0 → readR t need b = lineR t need b) := by
  unfold readR lineR
  by_cases c1 : 192 ≤ b.getD 0 0
  · rw [if_pos c1, if_pos c1]; exact ⟨rfl, fun _ => rfl⟩
  · rw [if_neg c1, if_neg c1]
    by_cases c2 : 128 ≤ b.getD 0 0
    · rw [if_pos c2, if_pos c2]
      unfold refdR
      by_cases x : (pxR b 6).2.2 ≠ 0
      · rw [if_pos x, if_pos x]; exact ⟨rfl, fun _ => rfl⟩
      · rw [if_neg x, if_neg x]
        by_cases y : need ≤ (pxR b 6).1
        · rw [if_pos y, if_pos y]; exact ⟨rfl, fun _ => rfl⟩
        · rw [if_neg y, if_neg y]
          by_cases z : (getT t (need - 1 - (pxR b 6).1)).2 ≠ 0
          · rw [if_pos z]; exact ⟨rfl, fun k => absurd k z⟩
          · have z' := Decidable.byContradiction z
            rw [if_neg z]; exact ⟨z'.symm, fun _ => by rw [z']⟩
    · rw [if_neg c2, if_neg c2]
      by_cases c3 : 64 ≤ b.getD 0 0 ∧ b.getD 0 0 < 80
      · rw [if_pos c3, if_pos c3]
        unfold namedR
        by_cases x : (knR b 4).2.2 ≠ 0
        · rw [if_pos x, if_pos x]; exact ⟨rfl, fun _ => rfl⟩
        · rw [if_neg x, if_neg x]
          by_cases z : (pxTR (b.drop (knR b 4).2.1.toNat) 7).2.2 ≠ 0
          · rw [if_pos z]; exact ⟨rfl, fun k => absurd k z⟩
          · have z' := Decidable.byContradiction z
            rw [if_neg z]; exact ⟨z'.symm, fun _ => by rw [z']⟩
      · rw [if_neg c3, if_neg c3]
        by_cases c4 : 32 ≤ b.getD 0 0 ∧ b.getD 0 0 < 40
        · rw [if_pos c4, if_pos c4]
          unfold pairR
          by_cases x : (pxTR b 3).2.2 ≠ 0
          · rw [if_pos x, if_pos x]; exact ⟨rfl, fun _ => rfl⟩
          · rw [if_neg x, if_neg x]
            by_cases z : (pxTR (b.drop (pxTR b 3).2.1.toNat) 7).2.2 ≠ 0
            · rw [if_pos z]; exact ⟨rfl, fun k => absurd k z⟩
            · have z' := Decidable.byContradiction z
              rw [if_neg z]; exact ⟨z'.symm, fun _ => by rw [z']⟩
        · rw [if_neg c4, if_neg c4]; exact ⟨rfl, fun _ => rfl⟩
end Go.Proofs.Ytpfahdogedchpaa.P
namespace Go.Proofs.Ytpfahdogedchpaa
set_option linter.unusedVariables false
open Go.RowKit P

set_option maxHeartbeats 2000000 in
theorem readNamed_any (v : Value) (b : List Int) (W : World) (hv : BSl W W.heap.size v b) (hl : b.length ≤ 140737488355328) :
    Calls Try.prog 67 #[v] W fun e w' => e = .returned (fdRV (namedR b)) ∧ Below W.heap.size W w' := by
  have HO := Lib.hid (fun w' (hb : Below W.heap.size W w') => readKn_any v b 4 w' (bsl_onF hv hb) hl (by decide) (by decide))
  obtain ⟨A0, c0, rfl, hc0, hm0, hn0, hr0⟩ := hv.ex
  have hby : Byt b := hr0.1
  obtain ⟨N, hN⟩ : ∃ N, b.length = N := ⟨_, rfl⟩
  have HT7a := Lib.hid (fun K (hK : K ≤ N) w' (hb : Below W.heap.size W w') => pxRead_any _ (b.drop K) 7 w' (bsl_onF (bsl_drop hv K (by omega)) hb) (by rw [List.length_drop]; omega) (by decide) (by decide))
  have HTIa := Lib.hid (fun K => (by have := pxTR_in (b := b.drop K) (w := 7) (hby.drop K); rw [List.length_drop, hN] at this; exact this : 0 ≤ (pxTR (b.drop K) 7).2.1 ∧ (pxTR (b.drop K) 7).2.1 ≤ ((N - K : Nat) : Int) ∧ ((pxTR (b.drop K) 7).2.2 ≠ 0 → (pxTR (b.drop K) 7).1 = [] ∧ (pxTR (b.drop K) 7).2.1 = 0)))
  rw [hN] at hc0 HT7a ⊢
  have HKI := Lib.hid (fun h => knR_in (b := b) (w := 4) hby h)
  have HKE := Lib.hid (fun h => knR_err (b := b) (w := 4) h)
  rw [hN] at HKI hl HO
  unfold namedR
  obtain ⟨⟨z, u, x⟩, hr⟩ : ∃ r, knR b 4 = r := ⟨_, rfl⟩
  rw [hr] at HO HKI HKE ⊢
  unfold fdRV fdV at HO
  dsimp only at HO HKI HKE ⊢
  have B0 := Lib.hid ((Below.refl W.heap.size W).alloc (Nat.le_refl _) (.cells #[.string ⟨#[]⟩, .string ⟨#[]⟩] 66))
  have G0 := Lib.hid (heap_alloc_new W (.cells #[.string ⟨#[]⟩, .string ⟨#[]⟩] 66))
  have HLE := Lib.hid (Nat.le_refl W.heap.size)
  unfold fdRV fdV
  clear hr hr0 hv hn0 hby
  obtain ⟨R1, hR1⟩ : ∃ X, strOfNums z.name = X := ⟨_, rfl⟩
  obtain ⟨R2, hR2⟩ : ∃ X, strOfNums z.val = X := ⟨_, rfl⟩
  rw [hR1, hR2] at HO
  by_cases hx : x = 0
  · subst hx
    obtain ⟨u0, u1⟩ := HKI.out rfl
    rw [if_neg (fun k => k rfl)]
    obtain ⟨K, rfl⟩ : ∃ K : Nat, u = K := ⟨u.toNat, by omega⟩
    rw [Int.toNat_natCast]
    clear HKI HKE hN
    obtain ⟨⟨V, m, y⟩, hv7⟩ : ∃ r, pxTR (b.drop K) 7 = r := ⟨_, rfl⟩
    have HT7 := Lib.hid (HT7a.out K)
    have HTI := Lib.hid (HTIa.out K)
    rw [hv7] at HT7 HTI ⊢
    unfold pxTV at HT7
    dsimp only at HT7 HTI ⊢
    obtain ⟨m0, m1, m2⟩ := HTI.out
    obtain ⟨VV, hVV⟩ : ∃ X, strOfNums V = X := ⟨_, rfl⟩
    rw [hVV] at HT7
    have hKN : K ≤ N := by omega
    have hKNI : (K : Int) ≤ (N : Int) := by omega
    have hKI0 : (0 : Int) ≤ (K : Int) := by omega
    have hKc : (K : Int) ≤ (c0 : Int) := by omega
    obtain ⟨SA, hSA⟩ : ∃ SA, (if c0 = K then A0 else Option.map (fun x => x.add K) A0) = SA := ⟨_, rfl⟩
    rw [hSA] at HT7
    clear hv7 HT7a HTIa
    by_cases hy : y = 0
    · subst hy
      rw [if_neg (fun k => k rfl)]
      dsimp only
      rw [hR1, hVV]
      have hwr : IntKind.i64.wrap ((K : Int) + m) = (K : Int) + m := by rw [IntKind.wrap_i64]; omega
      clear hVV HTI m2
      go_enter Try.func67, Try.ntmps67
      go_wp2_with fail
      refine (HO.out _ B0.out).mono ?_
      rintro e w2 ⟨rfl, b1⟩
      have b8 := B0.out.trans (b1.mono B0.out.size)
      have B1 := Lib.hid (b8.alloc b8.size (.cells #[.string R1, .string R2] 66))
      have g8 := (b1.block _ (lt_of_block G0.out)).trans G0.out
      have G1 := Lib.hid ((Below.heap_alloc w2 (.cells #[.string R1, .string R2] 66) _ (lt_of_block g8)).trans g8)
      have Y1 := Lib.hid (heap_alloc_new w2 (.cells #[.string R1, .string R2] 66))
      clear b1 b8 g8
      obtain ⟨q0, q1⟩ := bk2F G1.out
      have qf := fun j => bk_frz G1.out j
      obtain ⟨y0, y1⟩ := bk2F Y1.out
      have yf := fun j => bk_frz Y1.out j
      go_wp2_with fail
      refine (HT7.out hKN _ B1.out).mono ?_
      rintro e w9 ⟨rfl, rfl⟩
      go_wp2_with fail
      obtain ⟨r0, r1, gp⟩ := bk2_putF G1.out (.string R1) (.string VV)
      refine bodyPost_ret (by simp [results, Try.results67, go_sem, r0, r1]; try rfl) rfl ?_
      exact ⟨by first | rfl | simp, gr_from B1.out B1.out.size (HLE.out) gp⟩
    · rw [if_pos hy]
      have g : (y != 0) = true := by simp [hy]
      obtain ⟨rfl, rfl⟩ := m2 hy
      clear hVV HTI m2
      go_enter Try.func67, Try.ntmps67
      go_wp2_with fail
      refine (HO.out _ B0.out).mono ?_
      rintro e w2 ⟨rfl, b1⟩
      have b8 := B0.out.trans (b1.mono B0.out.size)
      have B1 := Lib.hid (b8.alloc b8.size (.cells #[.string R1, .string R2] 66))
      have g8 := (b1.block _ (lt_of_block G0.out)).trans G0.out
      have G1 := Lib.hid ((Below.heap_alloc w2 (.cells #[.string R1, .string R2] 66) _ (lt_of_block g8)).trans g8)
      have Y1 := Lib.hid (heap_alloc_new w2 (.cells #[.string R1, .string R2] 66))
      clear b1 b8 g8
      obtain ⟨q0, q1⟩ := bk2F G1.out
      have qf := fun j => bk_frz G1.out j
      obtain ⟨y0, y1⟩ := bk2F Y1.out
      have yf := fun j => bk_frz Y1.out j
      go_wp2_with fail
      refine (HT7.out hKN _ B1.out).mono ?_
      rintro e w9 ⟨rfl, rfl⟩
      go_wp2_with fail
      obtain ⟨r0, r1, gp⟩ := bk2_putF G1.out (.string ⟨#[]⟩) (.string ⟨#[]⟩)
      refine bodyPost_ret (by simp [results, Try.results67, go_sem, r0, r1]; try rfl) rfl ?_
      exact ⟨by first | rfl | simp, gr_from B1.out B1.out.size (HLE.out) gp⟩
  · rw [if_pos hx]
    have g : (x != 0) = true := by simp [hx]
    clear HT7a HTIa HKI HKE hN
    go_enter Try.func67, Try.ntmps67
    go_wp2_with fail
    refine (HO.out _ B0.out).mono ?_
    rintro e w2 ⟨rfl, b1⟩
    have b8 := B0.out.trans (b1.mono B0.out.size)
    have B1 := Lib.hid (b8.alloc b8.size (.cells #[.string R1, .string R2] 66))
    have g8 := (b1.block _ (lt_of_block G0.out)).trans G0.out
    have G1 := Lib.hid ((Below.heap_alloc w2 (.cells #[.string R1, .string R2] 66) _ (lt_of_block g8)).trans g8)
    have Y1 := Lib.hid (heap_alloc_new w2 (.cells #[.string R1, .string R2] 66))
    clear b1 b8 g8
    obtain ⟨q0, q1⟩ := bk2F G1.out
    have qf := fun j => bk_frz G1.out j
    obtain ⟨y0, y1⟩ := bk2F Y1.out
    have yf := fun j => bk_frz Y1.out j
    go_wp2_with fail
    obtain ⟨r0, r1, gp⟩ := bk2_putF G1.out (.string ⟨#[]⟩) (.string ⟨#[]⟩)
    refine bodyPost_ret (by simp [results, Try.results67, go_sem, r0, r1]; try rfl) rfl ?_
    exact ⟨by first | rfl | simp, gr_from B1.out B1.out.size (HLE.out) gp⟩

set_option maxHeartbeats 2000000 in
theorem readRefd_any (v : Value) (t : Tb) (need : Int) (s : Value) (b : List Int) (W : World) (hv : TbVal W W.heap.size v t) (hw : TbWf t) (hs : BSl W W.heap.size s b) (hl : b.length ≤ 140737488355328) (hn : 0 ≤ need ∧ need ≤ 4611686018427387904) :
    Calls Try.prog 66 #[v, .int .i64 need, s] W fun e w' => e = .returned (fdRV (refdR t need b)) ∧ Below W.heap.size W w' := by
  have HO := Lib.hid (fun w' (hb : Below W.heap.size W w') => pxDec_any s b 6 w' (bsl_onF hs hb) hl (by decide) (by decide))
  have HTG := Lib.hid (fun n hn w (hb : Below W.heap.size W w) => tget_any v t n w (hv.on hb) hw hn)
  obtain ⟨A0, c0, rfl, hc0, hm0, hn0, hr0⟩ := hs.ex
  have HIN := Lib.hid (fun h => pxR_in (b := b) (w := 6) (fun j => (hr0.1 j).1) h)
  obtain ⟨N, hN⟩ : ∃ N, b.length = N := ⟨_, rfl⟩
  rw [hN] at HO HIN ⊢
  obtain ⟨At, ct, rfl⟩ := tb_slicesR hv
  unfold refdR
  obtain ⟨⟨n, u, x⟩, hr⟩ : ∃ r, pxR b 6 = r := ⟨_, rfl⟩
  rw [hr] at HO HIN ⊢
  unfold pxRV at HO
  dsimp only at HO HIN ⊢
  obtain ⟨g1, g2, g4⟩ := two_bk W #[.int .i64 t.room, .int .i64 t.put, .slice At t.rows.length ct] #[.string ⟨#[]⟩, .string ⟨#[]⟩] 27 66
  have F0 := Lib.hid g1
  have G0 := Lib.hid g2
  have B0 := Lib.hid g4
  clear hr hr0 hs hv hw hl g1 g2 g4 hc0 hm0 hn0 hN
  by_cases hx : x = 0
  · subst hx
    obtain ⟨n0, n1, u0, u1, u2⟩ := HIN.out rfl
    rw [if_neg (fun k => k rfl)]
    by_cases hq : need ≤ n
    · rw [if_pos hq]
      have e1 : decide (need ≤ n) = true := by simp [hq]
      unfold fdRV fdV
      clear HTG
      obtain ⟨q0, q1⟩ := bk2F G0.out
      have qf := fun j => bk_frz G0.out j
      go_enter Try.func66, Try.ntmps66
      go_wp2_with fail
      refine (HO.out _ B0.out).mono ?_
      rintro e w2 ⟨rfl, rfl⟩
      go_wp2_with fail
      obtain ⟨r0, r1⟩ := bk2F G0.out
      refine bodyPost_ret (by simp [results, Try.results66, go_sem, r0, r1]; try rfl) rfl ?_
      exact ⟨by first | rfl | simp, B0.out⟩
    · rw [if_neg hq]
      have e1 : decide (need ≤ n) = false := by simp; omega
      have hsub0 : IntKind.i64.wrap (need - 1) = need - 1 := by rw [IntKind.wrap_i64]; omega
      have hsub : IntKind.i64.wrap (need - 1 - n) = need - 1 - n := by rw [IntKind.wrap_i64]; omega
      have HT0 := Lib.hid (fun w hb => HTG.out (need - 1 - n) (by omega) w hb)
      obtain ⟨⟨z, y⟩, hz⟩ : ∃ r, getT t (need - 1 - n) = r := ⟨_, rfl⟩
      rw [hz] at HT0 ⊢
      unfold fdRV
      unfold fdV at HT0 ⊢
      dsimp only at HT0 ⊢
      obtain ⟨R1, hR1⟩ : ∃ X, strOfNums z.name = X := ⟨_, rfl⟩
      obtain ⟨R2, hR2⟩ : ∃ X, strOfNums z.val = X := ⟨_, rfl⟩
      rw [hR1, hR2] at HT0
      obtain ⟨f0, f1, f2⟩ := bk3T F0.out
      clear hz HTG
      by_cases hy : y = 0
      · subst hy
        rw [if_neg (fun k => k rfl)]
        dsimp only
        rw [hR1, hR2]
        clear hR1 hR2
        go_enter Try.func66, Try.ntmps66
        go_wp2_with fail
        refine (HO.out _ B0.out).mono ?_
        rintro e w2 ⟨rfl, rfl⟩
        go_wp2_with fail
        refine (HT0.out _ B0.out).mono ?_
        rintro e w2 ⟨b1, rfl⟩
        clear f0 f1 f2
        have b8 := B0.out.trans (b1.mono B0.out.size)
        have B1 := Lib.hid (b8.alloc b8.size (.cells #[.string R1, .string R2] 66))
        have g8 := (b1.block _ (lt_of_block G0.out)).trans G0.out
        have G1 := Lib.hid ((Below.heap_alloc w2 (.cells #[.string R1, .string R2] 66) _ (lt_of_block g8)).trans g8)
        have Y1 := Lib.hid (heap_alloc_new w2 (.cells #[.string R1, .string R2] 66))
        clear b1 b8 g8
        obtain ⟨q0, q1⟩ := bk2F G1.out
        have qf := fun j => bk_frz G1.out j
        obtain ⟨y0, y1⟩ := bk2F Y1.out
        have yf := fun j => bk_frz Y1.out j
        go_wp2_with fail
        obtain ⟨r0, r1, gp⟩ := bk2_putF G1.out (.string R1) (.string R2)
        refine bodyPost_ret (by simp [results, Try.results66, go_sem, r0, r1]; try rfl) rfl ?_
        exact ⟨by first | rfl | simp, gr_from B1.out B1.out.size (Nat.le_succ _) gp⟩
      · rw [if_pos hy]
        have g : (y != 0) = true := by simp [hy]
        clear hR1 hR2
        go_enter Try.func66, Try.ntmps66
        go_wp2_with fail
        refine (HO.out _ B0.out).mono ?_
        rintro e w2 ⟨rfl, rfl⟩
        go_wp2_with fail
        refine (HT0.out _ B0.out).mono ?_
        rintro e w2 ⟨b1, rfl⟩
        clear f0 f1 f2
        have b8 := B0.out.trans (b1.mono B0.out.size)
        have B1 := Lib.hid (b8.alloc b8.size (.cells #[.string R1, .string R2] 66))
        have g8 := (b1.block _ (lt_of_block G0.out)).trans G0.out
        have G1 := Lib.hid ((Below.heap_alloc w2 (.cells #[.string R1, .string R2] 66) _ (lt_of_block g8)).trans g8)
        have Y1 := Lib.hid (heap_alloc_new w2 (.cells #[.string R1, .string R2] 66))
        clear b1 b8 g8
        obtain ⟨q0, q1⟩ := bk2F G1.out
        have qf := fun j => bk_frz G1.out j
        obtain ⟨y0, y1⟩ := bk2F Y1.out
        have yf := fun j => bk_frz Y1.out j
        go_wp2_with fail
        obtain ⟨r0, r1, gp⟩ := bk2_putF G1.out (.string ⟨#[]⟩) (.string ⟨#[]⟩)
        refine bodyPost_ret (by simp [results, Try.results66, go_sem, r0, r1]; try rfl) rfl ?_
        exact ⟨by first | rfl | simp, gr_from B1.out B1.out.size (Nat.le_succ _) gp⟩
  · rw [if_pos hx]
    have g : (x != 0) = true := by simp [hx]
    unfold fdRV fdV
    clear HTG
    obtain ⟨q0, q1⟩ := bk2F G0.out
    have qf := fun j => bk_frz G0.out j
    go_enter Try.func66, Try.ntmps66
    go_wp2_with fail
    refine (HO.out _ B0.out).mono ?_
    rintro e w2 ⟨rfl, rfl⟩
    go_wp2_with fail
    obtain ⟨r0, r1⟩ := bk2F G0.out
    refine bodyPost_ret (by simp [results, Try.results66, go_sem, r0, r1]; try rfl) rfl ?_
    exact ⟨by first | rfl | simp, B0.out⟩

set_option maxHeartbeats 2000000 in
theorem fdread_any (v : Value) (t : Tb) (need : Int) (s : Value) (b : List Int) (W : World) (hv : TbVal W W.heap.size v t) (hw : TbWf t) (hs : BSl W W.heap.size s b) (hl : b.length ≤ 140737488355328) (h0 : 0 < b.length) (hn : 0 ≤ need ∧ need ≤ 4611686018427387904) :
    Calls Try.prog 52 #[v, .int .i64 need, s] W fun e w' => e = .returned (fdRV (readR t need b)) ∧ Below W.heap.size W w' := by
  have HK := Lib.hid (fun w' (hb : Below W.heap.size W w') => readKn_any s b 6 w' (bsl_onF hs hb) hl (by decide) (by decide))
  have HRF := Lib.hid (fun w' (hb : Below W.heap.size W w') => readRefd_any v t need s b w' (hv.on hb) hw (bsl_onF hs hb) hl hn)
  have HNM := Lib.hid (fun w' (hb : Below W.heap.size W w') => readNamed_any s b w' (bsl_onF hs hb) hl)
  have HPR := Lib.hid (fun w' (hb : Below W.heap.size W w') => readPair_any s b 3 w' (bsl_onF hs hb) hl (by decide) (by decide))
  obtain ⟨A0, c0, rfl, hc0, hm0, hn0, hr0⟩ := hs.ex
  have hc := hr0.1 0
  obtain ⟨gb, off, rfl, hg, hcell⟩ := hr0.2 h0
  have hce := hcell 0 h0
  rw [Nat.add_zero] at hce
  obtain ⟨At, ct, rfl⟩ := tb_slicesR hv
  obtain ⟨c, hcc⟩ : ∃ c, b.getD 0 0 = c := ⟨_, rfl⟩
  have HCC := Lib.hid hcc
  rw [hcc] at hc hce
  replace hc : 0 ≤ c ∧ c < 256 := by omega
  obtain ⟨N, hN⟩ : ∃ N, b.length = N := ⟨_, rfl⟩
  rw [hN] at HK HRF HNM HPR h0 hl hc0 ⊢
  have h0I : (0 : Int) < (N : Int) := by omega
  obtain ⟨g1, g2, g4⟩ := two_bk W #[.int .i64 t.room, .int .i64 t.put, .slice At t.rows.length ct] #[.string ⟨#[]⟩, .string ⟨#[]⟩] 27 66
  have F0 := Lib.hid g1
  have G0 := Lib.hid g2
  have B0 := Lib.hid g4
  obtain ⟨f0, f1, f2⟩ := bk3T F0.out
  have hce0 := (B0.out.cell (p := ⟨gb, off, none⟩) hg).trans hce
  clear hce hcell hr0 hs hv hw hcc hN hn0 hg g1 g2 g4
  by_cases c1 : 192 ≤ c
  · have HR := Lib.hid (show readR t need b = knR b 6 by unfold readR; rw [HCC.out, if_pos c1])
    rw [HR.out]
    have HX := Lib.hid (HK.out)
    obtain ⟨⟨z, u, x⟩, hr⟩ : ∃ r, knR b 6 = r := ⟨_, rfl⟩
    rw [hr] at HX ⊢
    unfold fdRV fdV at HX ⊢
    dsimp only at HX ⊢
    obtain ⟨R1, hR1⟩ : ∃ S, strOfNums z.name = S := ⟨_, rfl⟩
    obtain ⟨R2, hR2⟩ : ∃ S, strOfNums z.val = S := ⟨_, rfl⟩
    rw [hR1, hR2] at HX ⊢
    have HB0 := Lib.hid (show ∀ w, Calls Try.prog 64 #[.int .u8 c, .int .u8 192, .int .i64 6] w fun e w' => e = .returned (.bool true) ∧ Below w.heap.size w w' from fun w => by have := begins_any c 192 6 64 hc (by decide) w; rwa [show decide (((192) : Int) ≤ c ∧ c < 192 + 64) = true by simp; omega] at this)
    clear hr hR1 hR2 HR HK HRF HNM HPR HCC hc
    go_enter Try.func52, Try.ntmps52
    go_wp2_with fail
    refine (HB0.out _).mono ?_
    rintro e w2 ⟨rfl, b1⟩
    have B1 := Lib.hid (B0.out.trans (b1.mono B0.out.size)); have F1 := Lib.hid ((b1.block _ (lt_of_block F0.out)).trans F0.out); have G1 := Lib.hid ((b1.block _ (lt_of_block G0.out)).trans G0.out); clear b1
    clear f0 f1 f2
    obtain ⟨f0, f1, f2⟩ := bk3T F1.out
    obtain ⟨q0, q1⟩ := bk2F G1.out
    have qf := fun j => bk_frz G1.out j
    go_wp2_with fail
    refine (HX.out _ B1.out).mono ?_
    rintro e w8 ⟨rfl, b8⟩
    clear f0 f1 f2 q0 q1 qf
    have B8 := Lib.hid (B1.out.trans (b8.mono B1.out.size))
    have G8 := Lib.hid ((b8.block _ (lt_of_block G1.out)).trans G1.out)
    clear b8
    obtain ⟨q0, q1⟩ := bk2F G8.out
    have qf := fun j => bk_frz G8.out j
    go_wp2_with fail
    obtain ⟨r0, r1, gp⟩ := bk2_putF G8.out (.string R1) (.string R2)
    refine bodyPost_ret (by simp [results, Try.results52, go_sem, r0, r1]; try rfl) rfl ?_
    exact ⟨by first | rfl | simp, gr_from B8.out B8.out.size (Nat.le_succ _) gp⟩
  · by_cases c2 : 128 ≤ c
    · have HR := Lib.hid (show readR t need b = refdR t need b by unfold readR; rw [HCC.out, if_neg c1, if_pos c2])
      rw [HR.out]
      have HX := Lib.hid (HRF.out)
      obtain ⟨⟨z, u, x⟩, hr⟩ : ∃ r, refdR t need b = r := ⟨_, rfl⟩
      rw [hr] at HX ⊢
      unfold fdRV fdV at HX ⊢
      dsimp only at HX ⊢
      obtain ⟨R1, hR1⟩ : ∃ S, strOfNums z.name = S := ⟨_, rfl⟩
      obtain ⟨R2, hR2⟩ : ∃ S, strOfNums z.val = S := ⟨_, rfl⟩
      rw [hR1, hR2] at HX ⊢
      have HB0 := Lib.hid (show ∀ w, Calls Try.prog 64 #[.int .u8 c, .int .u8 192, .int .i64 6] w fun e w' => e = .returned (.bool false) ∧ Below w.heap.size w w' from fun w => by have := begins_any c 192 6 64 hc (by decide) w; rwa [show decide (((192) : Int) ≤ c ∧ c < 192 + 64) = false by simp; omega] at this)
      have HB1 := Lib.hid (show ∀ w, Calls Try.prog 64 #[.int .u8 c, .int .u8 128, .int .i64 6] w fun e w' => e = .returned (.bool true) ∧ Below w.heap.size w w' from fun w => by have := begins_any c 128 6 64 hc (by decide) w; rwa [show decide (((128) : Int) ≤ c ∧ c < 128 + 64) = true by simp; omega] at this)
      clear hr hR1 hR2 HR HK HRF HNM HPR HCC hc
      go_enter Try.func52, Try.ntmps52
      go_wp2_with fail
      refine (HB0.out _).mono ?_
      rintro e w2 ⟨rfl, b1⟩
      have B1 := Lib.hid (B0.out.trans (b1.mono B0.out.size)); have F1 := Lib.hid ((b1.block _ (lt_of_block F0.out)).trans F0.out); have G1 := Lib.hid ((b1.block _ (lt_of_block G0.out)).trans G0.out); clear b1
      go_wp2_with fail
      refine (HB1.out _).mono ?_
      rintro e w3 ⟨rfl, b2⟩
      have B2 := Lib.hid (B1.out.trans (b2.mono B1.out.size)); have F2 := Lib.hid ((b2.block _ (lt_of_block F1.out)).trans F1.out); have G2 := Lib.hid ((b2.block _ (lt_of_block G1.out)).trans G1.out); clear b2
      clear f0 f1 f2
      obtain ⟨f0, f1, f2⟩ := bk3T F2.out
      obtain ⟨q0, q1⟩ := bk2F G2.out
      have qf := fun j => bk_frz G2.out j
      go_wp2_with fail
      refine (HX.out _ B2.out).mono ?_
      rintro e w8 ⟨rfl, b8⟩
      clear f0 f1 f2 q0 q1 qf
      have B8 := Lib.hid (B2.out.trans (b8.mono B2.out.size))
      have G8 := Lib.hid ((b8.block _ (lt_of_block G2.out)).trans G2.out)
      clear b8
      obtain ⟨q0, q1⟩ := bk2F G8.out
      have qf := fun j => bk_frz G8.out j
      go_wp2_with fail
      obtain ⟨r0, r1, gp⟩ := bk2_putF G8.out (.string R1) (.string R2)
      refine bodyPost_ret (by simp [results, Try.results52, go_sem, r0, r1]; try rfl) rfl ?_
      exact ⟨by first | rfl | simp, gr_from B8.out B8.out.size (Nat.le_succ _) gp⟩
    · by_cases c3 : 64 ≤ c ∧ c < 80
      · have HR := Lib.hid (show readR t need b = namedR b by unfold readR; rw [HCC.out, if_neg c1, if_neg c2, if_pos c3])
        rw [HR.out]
        have HX := Lib.hid (HNM.out)
        obtain ⟨⟨z, u, x⟩, hr⟩ : ∃ r, namedR b = r := ⟨_, rfl⟩
        rw [hr] at HX ⊢
        unfold fdRV fdV at HX ⊢
        dsimp only at HX ⊢
        obtain ⟨R1, hR1⟩ : ∃ S, strOfNums z.name = S := ⟨_, rfl⟩
        obtain ⟨R2, hR2⟩ : ∃ S, strOfNums z.val = S := ⟨_, rfl⟩
        rw [hR1, hR2] at HX ⊢
        have HB0 := Lib.hid (show ∀ w, Calls Try.prog 64 #[.int .u8 c, .int .u8 192, .int .i64 6] w fun e w' => e = .returned (.bool false) ∧ Below w.heap.size w w' from fun w => by have := begins_any c 192 6 64 hc (by decide) w; rwa [show decide (((192) : Int) ≤ c ∧ c < 192 + 64) = false by simp; omega] at this)
        have HB1 := Lib.hid (show ∀ w, Calls Try.prog 64 #[.int .u8 c, .int .u8 128, .int .i64 6] w fun e w' => e = .returned (.bool false) ∧ Below w.heap.size w w' from fun w => by have := begins_any c 128 6 64 hc (by decide) w; rwa [show decide (((128) : Int) ≤ c ∧ c < 128 + 64) = false by simp; omega] at this)
        have HB2 := Lib.hid (show ∀ w, Calls Try.prog 64 #[.int .u8 c, .int .u8 64, .int .i64 4] w fun e w' => e = .returned (.bool true) ∧ Below w.heap.size w w' from fun w => by have := begins_any c 64 4 16 hc (by decide) w; rwa [show decide (((64) : Int) ≤ c ∧ c < 64 + 16) = true by simp; omega] at this)
        clear hr hR1 hR2 HR HK HRF HNM HPR HCC hc
        go_enter Try.func52, Try.ntmps52
        go_wp2_with fail
        refine (HB0.out _).mono ?_
        rintro e w2 ⟨rfl, b1⟩
        have B1 := Lib.hid (B0.out.trans (b1.mono B0.out.size)); have F1 := Lib.hid ((b1.block _ (lt_of_block F0.out)).trans F0.out); have G1 := Lib.hid ((b1.block _ (lt_of_block G0.out)).trans G0.out); clear b1
        go_wp2_with fail
        refine (HB1.out _).mono ?_
        rintro e w3 ⟨rfl, b2⟩
        have B2 := Lib.hid (B1.out.trans (b2.mono B1.out.size)); have F2 := Lib.hid ((b2.block _ (lt_of_block F1.out)).trans F1.out); have G2 := Lib.hid ((b2.block _ (lt_of_block G1.out)).trans G1.out); clear b2
        go_wp2_with fail
        refine (HB2.out _).mono ?_
        rintro e w4 ⟨rfl, b3⟩
        have B3 := Lib.hid (B2.out.trans (b3.mono B2.out.size)); have F3 := Lib.hid ((b3.block _ (lt_of_block F2.out)).trans F2.out); have G3 := Lib.hid ((b3.block _ (lt_of_block G2.out)).trans G2.out); clear b3
        clear f0 f1 f2
        obtain ⟨f0, f1, f2⟩ := bk3T F3.out
        obtain ⟨q0, q1⟩ := bk2F G3.out
        have qf := fun j => bk_frz G3.out j
        go_wp2_with fail
        refine (HX.out _ B3.out).mono ?_
        rintro e w8 ⟨rfl, b8⟩
        clear f0 f1 f2 q0 q1 qf
        have B8 := Lib.hid (B3.out.trans (b8.mono B3.out.size))
        have G8 := Lib.hid ((b8.block _ (lt_of_block G3.out)).trans G3.out)
        clear b8
        obtain ⟨q0, q1⟩ := bk2F G8.out
        have qf := fun j => bk_frz G8.out j
        go_wp2_with fail
        obtain ⟨r0, r1, gp⟩ := bk2_putF G8.out (.string R1) (.string R2)
        refine bodyPost_ret (by simp [results, Try.results52, go_sem, r0, r1]; try rfl) rfl ?_
        exact ⟨by first | rfl | simp, gr_from B8.out B8.out.size (Nat.le_succ _) gp⟩
      · by_cases c4 : 32 ≤ c ∧ c < 40
        · have HR := Lib.hid (show readR t need b = pairR b 3 by unfold readR; rw [HCC.out, if_neg c1, if_neg c2, if_neg c3, if_pos c4])
          rw [HR.out]
          have HX := Lib.hid (HPR.out)
          obtain ⟨⟨z, u, x⟩, hr⟩ : ∃ r, pairR b 3 = r := ⟨_, rfl⟩
          rw [hr] at HX ⊢
          unfold fdRV fdV at HX ⊢
          dsimp only at HX ⊢
          obtain ⟨R1, hR1⟩ : ∃ S, strOfNums z.name = S := ⟨_, rfl⟩
          obtain ⟨R2, hR2⟩ : ∃ S, strOfNums z.val = S := ⟨_, rfl⟩
          rw [hR1, hR2] at HX ⊢
          have HB0 := Lib.hid (show ∀ w, Calls Try.prog 64 #[.int .u8 c, .int .u8 192, .int .i64 6] w fun e w' => e = .returned (.bool false) ∧ Below w.heap.size w w' from fun w => by have := begins_any c 192 6 64 hc (by decide) w; rwa [show decide (((192) : Int) ≤ c ∧ c < 192 + 64) = false by simp; omega] at this)
          have HB1 := Lib.hid (show ∀ w, Calls Try.prog 64 #[.int .u8 c, .int .u8 128, .int .i64 6] w fun e w' => e = .returned (.bool false) ∧ Below w.heap.size w w' from fun w => by have := begins_any c 128 6 64 hc (by decide) w; rwa [show decide (((128) : Int) ≤ c ∧ c < 128 + 64) = false by simp; omega] at this)
          have HB2 := Lib.hid (show ∀ w, Calls Try.prog 64 #[.int .u8 c, .int .u8 64, .int .i64 4] w fun e w' => e = .returned (.bool false) ∧ Below w.heap.size w w' from fun w => by have := begins_any c 64 4 16 hc (by decide) w; rwa [show decide (((64) : Int) ≤ c ∧ c < 64 + 16) = false by simp; omega] at this)
          have HB3 := Lib.hid (show ∀ w, Calls Try.prog 64 #[.int .u8 c, .int .u8 32, .int .i64 3] w fun e w' => e = .returned (.bool true) ∧ Below w.heap.size w w' from fun w => by have := begins_any c 32 3 8 hc (by decide) w; rwa [show decide (((32) : Int) ≤ c ∧ c < 32 + 8) = true by simp; omega] at this)
          clear hr hR1 hR2 HR HK HRF HNM HPR HCC hc
          go_enter Try.func52, Try.ntmps52
          go_wp2_with fail
          refine (HB0.out _).mono ?_
          rintro e w2 ⟨rfl, b1⟩
          have B1 := Lib.hid (B0.out.trans (b1.mono B0.out.size)); have F1 := Lib.hid ((b1.block _ (lt_of_block F0.out)).trans F0.out); have G1 := Lib.hid ((b1.block _ (lt_of_block G0.out)).trans G0.out); clear b1
          go_wp2_with fail
          refine (HB1.out _).mono ?_
          rintro e w3 ⟨rfl, b2⟩
          have B2 := Lib.hid (B1.out.trans (b2.mono B1.out.size)); have F2 := Lib.hid ((b2.block _ (lt_of_block F1.out)).trans F1.out); have G2 := Lib.hid ((b2.block _ (lt_of_block G1.out)).trans G1.out); clear b2
          go_wp2_with fail
          refine (HB2.out _).mono ?_
          rintro e w4 ⟨rfl, b3⟩
          have B3 := Lib.hid (B2.out.trans (b3.mono B2.out.size)); have F3 := Lib.hid ((b3.block _ (lt_of_block F2.out)).trans F2.out); have G3 := Lib.hid ((b3.block _ (lt_of_block G2.out)).trans G2.out); clear b3
          go_wp2_with fail
          refine (HB3.out _).mono ?_
          rintro e w5 ⟨rfl, b4⟩
          have B4 := Lib.hid (B3.out.trans (b4.mono B3.out.size)); have F4 := Lib.hid ((b4.block _ (lt_of_block F3.out)).trans F3.out); have G4 := Lib.hid ((b4.block _ (lt_of_block G3.out)).trans G3.out); clear b4
          clear f0 f1 f2
          obtain ⟨f0, f1, f2⟩ := bk3T F4.out
          obtain ⟨q0, q1⟩ := bk2F G4.out
          have qf := fun j => bk_frz G4.out j
          go_wp2_with fail
          refine (HX.out _ B4.out).mono ?_
          rintro e w8 ⟨rfl, b8⟩
          clear f0 f1 f2 q0 q1 qf
          have B8 := Lib.hid (B4.out.trans (b8.mono B4.out.size))
          have G8 := Lib.hid ((b8.block _ (lt_of_block G4.out)).trans G4.out)
          clear b8
          obtain ⟨q0, q1⟩ := bk2F G8.out
          have qf := fun j => bk_frz G8.out j
          go_wp2_with fail
          obtain ⟨r0, r1, gp⟩ := bk2_putF G8.out (.string R1) (.string R2)
          refine bodyPost_ret (by simp [results, Try.results52, go_sem, r0, r1]; try rfl) rfl ?_
          exact ⟨by first | rfl | simp, gr_from B8.out B8.out.size (Nat.le_succ _) gp⟩
        · have HR := Lib.hid (show readR t need b = (fd0, 0, 2) by unfold readR; rw [HCC.out, if_neg c1, if_neg c2, if_neg c3, if_neg c4])
          rw [HR.out]
          unfold fdRV fdV
          have HB0 := Lib.hid (show ∀ w, Calls Try.prog 64 #[.int .u8 c, .int .u8 192, .int .i64 6] w fun e w' => e = .returned (.bool false) ∧ Below w.heap.size w w' from fun w => by have := begins_any c 192 6 64 hc (by decide) w; rwa [show decide (((192) : Int) ≤ c ∧ c < 192 + 64) = false by simp; omega] at this)
          have HB1 := Lib.hid (show ∀ w, Calls Try.prog 64 #[.int .u8 c, .int .u8 128, .int .i64 6] w fun e w' => e = .returned (.bool false) ∧ Below w.heap.size w w' from fun w => by have := begins_any c 128 6 64 hc (by decide) w; rwa [show decide (((128) : Int) ≤ c ∧ c < 128 + 64) = false by simp; omega] at this)
          have HB2 := Lib.hid (show ∀ w, Calls Try.prog 64 #[.int .u8 c, .int .u8 64, .int .i64 4] w fun e w' => e = .returned (.bool false) ∧ Below w.heap.size w w' from fun w => by have := begins_any c 64 4 16 hc (by decide) w; rwa [show decide (((64) : Int) ≤ c ∧ c < 64 + 16) = false by simp; omega] at this)
          have HB3 := Lib.hid (show ∀ w, Calls Try.prog 64 #[.int .u8 c, .int .u8 32, .int .i64 3] w fun e w' => e = .returned (.bool false) ∧ Below w.heap.size w w' from fun w => by have := begins_any c 32 3 8 hc (by decide) w; rwa [show decide (((32) : Int) ≤ c ∧ c < 32 + 8) = false by simp; omega] at this)
          clear HR HK HRF HNM HPR HCC hc
          go_enter Try.func52, Try.ntmps52
          go_wp2_with fail
          refine (HB0.out _).mono ?_
          rintro e w2 ⟨rfl, b1⟩
          have B1 := Lib.hid (B0.out.trans (b1.mono B0.out.size)); have F1 := Lib.hid ((b1.block _ (lt_of_block F0.out)).trans F0.out); have G1 := Lib.hid ((b1.block _ (lt_of_block G0.out)).trans G0.out); clear b1
          go_wp2_with fail
          refine (HB1.out _).mono ?_
          rintro e w3 ⟨rfl, b2⟩
          have B2 := Lib.hid (B1.out.trans (b2.mono B1.out.size)); have F2 := Lib.hid ((b2.block _ (lt_of_block F1.out)).trans F1.out); have G2 := Lib.hid ((b2.block _ (lt_of_block G1.out)).trans G1.out); clear b2
          go_wp2_with fail
          refine (HB2.out _).mono ?_
          rintro e w4 ⟨rfl, b3⟩
          have B3 := Lib.hid (B2.out.trans (b3.mono B2.out.size)); have F3 := Lib.hid ((b3.block _ (lt_of_block F2.out)).trans F2.out); have G3 := Lib.hid ((b3.block _ (lt_of_block G2.out)).trans G2.out); clear b3
          go_wp2_with fail
          refine (HB3.out _).mono ?_
          rintro e w5 ⟨rfl, b4⟩
          have B4 := Lib.hid (B3.out.trans (b4.mono B3.out.size)); have F4 := Lib.hid ((b4.block _ (lt_of_block F3.out)).trans F3.out); have G4 := Lib.hid ((b4.block _ (lt_of_block G3.out)).trans G3.out); clear b4
          clear f0 f1 f2
          obtain ⟨f0, f1, f2⟩ := bk3T F4.out
          obtain ⟨q0, q1⟩ := bk2F G4.out
          have qf := fun j => bk_frz G4.out j
          go_wp2_with fail
          obtain ⟨r0, r1, gp⟩ := bk2_putF G4.out (.string ⟨#[]⟩) (.string ⟨#[]⟩)
          refine bodyPost_ret (by simp [results, Try.results52, go_sem, r0, r1]; try rfl) rfl ?_
          exact ⟨by first | rfl | simp, gr_from B4.out B4.out.size (Nat.le_succ _) gp⟩
end Go.Proofs.Ytpfahdogedchpaa
/- The project's fields: Decode. -/
namespace Go.Proofs.Ytpfahdogedchpaa.P
set_option linter.unusedVariables false
theorem linesR_read (t : Tb) (need : Int) (n : Nat) (b : List Int) (out : List Fld) (hb : b ≠ []) (h8 : ¬ 8 ≤ out.length) : linesR t need (n + 1) b out = if (readR t need b).2.2 ≠ 0 then ([], (readR t need b).2.2) else linesR t need n (b.drop (readR t need b).2.1.toNat) (out ++ [(readR t need b).1]) := by
  obtain ⟨h1, h2⟩ := readR_line t need b
  rw [linesR, if_neg hb, if_neg h8, h1]
  by_cases c : (lineR t need b).2.2 ≠ 0
  · rw [if_pos c, if_pos c]
  · rw [if_neg c, if_neg c, h2 (Decidable.byContradiction c)]
theorem readR_wf {t : Tb} (hw : TbWf t) (need : Int) {b : List Int} (hb : Byt b) (hl : b.length ≤ 140737488355328) (h : (readR t need b).2.2 = 0) : FdWf (readR t need b).1 ∧ 0 ≤ (readR t need b).2.1 ∧ (readR t need b).2.1 ≤ b.length := by
  obtain ⟨h1, h2⟩ := readR_line t need b
  have h0 := h1.symm.trans h
  rw [h2 h0]
  exact ⟨lineR_wf hw need hb hl, lineR_in hb h0⟩
end Go.Proofs.Ytpfahdogedchpaa.P
namespace Go.Proofs.Ytpfahdogedchpaa
set_option linter.unusedVariables false
open Go.RowKit P

set_option maxRecDepth 100000 in
set_option maxHeartbeats 2000000 in
theorem fddec_any : FdDec Try.prog 43 := fun v s t b W hv hw hs hl => by
  have HFT := Lib.hid (fun w (hb : Below W.heap.size W w) => tchk_any v t w (hv.on hb) hw)
  have HPO := Lib.hid (fun w (hb : Below W.heap.size W w) => pxDec_any s b 8 w (bsl_onF hs hb) hl (by decide) (by decide))
  have HLN := Lib.hid (fun need s' bs w (hb : Below W.heap.size W w) (h1 : BSl W W.heap.size s' bs) h2 h3 h4 => fdread_any v t need s' bs w (hv.on hb) hw (bsl_onF h1 hb) h2 h3 h4)
  have HLW := Lib.hid (fun need bs h1 h2 h3 => readR_wf hw need (b := bs) h1 h2 h3)
  have hD : decFl t b = if faultTb t ≠ 0 then ([], faultTb t) else if (pxR b 8).2.2 ≠ 0 then ([], (pxR b 8).2.2) else if t.put < (pxR b 8).1 then ([], 14)
    else if (linesR t (pxR b 8).1 9 (b.drop (pxR b 8).2.1.toNat) []).2 ≠ 0 then ([], (linesR t (pxR b 8).1 9 (b.drop (pxR b 8).2.1.toNat) []).2)
    else if faultFl (linesR t (pxR b 8).1 9 (b.drop (pxR b 8).2.1.toNat) []).1 ≠ 0 then ([], faultFl (linesR t (pxR b 8).1 9 (b.drop (pxR b 8).2.1.toNat) []).1) else linesR t (pxR b 8).1 9 (b.drop (pxR b 8).2.1.toNat) [] := rfl
  rw [hD]
  obtain ⟨A0, c0, rfl, hc0, hm0, hn0, hr0⟩ := hs.ex
  have HPI := Lib.hid (fun h => pxR_in (b := b) (w := 8) (fun j => (hr0.1 j).1) h)
  have HSD := Lib.hid (fun K hK => bsl_drop hs K hK)
  have HBL := Lib.hid hl
  obtain ⟨N, hN⟩ : ∃ N, b.length = N := ⟨_, rfl⟩
  rw [hN] at HPO HPI HSD HBL hc0 ⊢
  obtain ⟨At, ct, rfl⟩ := tb_slicesR hv
  have pb := hw.put
  have B0 := Lib.hid ((Below.refl W.heap.size W).alloc (Nat.le_refl _) (.cells #[.int .i64 t.room, .int .i64 t.put, .slice At t.rows.length ct] 27))
  have F0 := Lib.hid (heap_alloc_new W (.cells #[.int .i64 t.room, .int .i64 t.put, .slice At t.rows.length ct] 27))
  obtain ⟨x, hx⟩ : ∃ x, faultTb t = x := ⟨_, rfl⟩
  rw [hx] at HFT ⊢
  have HOKT := Lib.hid (fun h : x = 0 => (faultTb_iff t).1 (hx.trans h))
  obtain ⟨⟨need, u, y⟩, hr⟩ : ∃ r, pxR b 8 = r := ⟨_, rfl⟩
  rw [hr] at HPO HPI ⊢
  unfold pxRV at HPO
  dsimp only at HPO HPI ⊢
  unfold FlRes
  obtain ⟨room, put, rows⟩ := t
  simp only at pb HFT HLN HLW B0 F0 HOKT ⊢
  obtain ⟨Nt, hNt⟩ : ∃ n, rows.length = n := ⟨_, rfl⟩
  rw [hNt] at HFT HLN B0 F0 ⊢
  clear hx hr hv hw hl hD hr0 hs hm0 hn0
  by_cases h0 : x = 0
  · subst h0
    rw [if_neg (fun k => k rfl)]
    by_cases hy : y = 0
    · subst hy
      rw [if_neg (fun k => k rfl)]
      obtain ⟨n0, n1, u0, u1, u2⟩ := HPI.out rfl
      by_cases hp : put < need
      · rw [if_pos hp]
        have e1 : decide (put < need) = true := by simp [hp]
        clear hNt hN
        go_enter Try.func43, Try.ntmps43
        go_wp2_with (first
          | (go_at_call 50; refine (HFT.out _ B0.out).mono ?_; rintro e w1 ⟨rfl, b1⟩; have B1 := Lib.hid (B0.out.trans (b1.mono B0.out.size)); have F1 := Lib.hid ((b1.block _ (lt_of_block F0.out)).trans F0.out); clear b1; obtain ⟨q0, q1, q2⟩ := bk3T F1.out)
          | (go_at_call 51; refine (HPO.out _ B1.out).mono ?_; rintro e w2 ⟨rfl, rfl⟩))
        go_ret2
        exact ⟨B1.out, _, rfl, FSl.nil _ _⟩
      · rw [if_neg hp]
        have e1 : decide (put < need) = false := by simp; omega
        obtain ⟨U, rfl⟩ : ∃ U : Nat, u = U := ⟨u.toNat, by omega⟩
        rw [Int.toNat_natCast]
        have hUN : U ≤ N := by omega
        have hUI0 : (0 : Int) ≤ (U : Int) := by omega
        have hUI : (U : Int) ≤ (N : Int) := by omega
        have hUc : (U : Int) ≤ (c0 : Int) := by omega
        have SD := HSD.out U hUN
        obtain ⟨SA, hSA⟩ : ∃ SA, (if c0 = U then A0 else Option.map (fun x => x.add U) A0) = SA := ⟨_, rfl⟩
        rw [hSA] at SD
        have SDH := Lib.hid SD
        have HDL := Lib.hid (show (b.drop U).length = N - U by rw [List.length_drop, hN])
        obtain ⟨T, hT⟩ : ∃ T : Tb, (⟨room, put, rows⟩ : Tb) = T := ⟨_, rfl⟩
        rw [hT] at HLN HLW ⊢
        obtain ⟨R, hR⟩ : ∃ R, linesR T need 9 (b.drop U) [] = R := ⟨_, rfl⟩
        rw [hR]
        have HRR := Lib.hid hR
        obtain ⟨RS, hRS⟩ : ∃ RS : List Fld × Int, (if R.2 ≠ 0 then ([], R.2) else if faultFl R.1 ≠ 0 then ([], faultFl R.1) else R) = RS := ⟨_, rfl⟩
        rw [hRS]
        have HRS := Lib.hid hRS
        obtain ⟨i0, hi0, hz0, hz1, hz2⟩ := info_partsE infoFd
        have HI := Lib.hid hi0
        have HZ := Lib.hid hz0
        have HZ1 := Lib.hid hz1
        have HZ2 := Lib.hid hz2
        have hn99 := Lib.hid (show 0 ≤ need ∧ need ≤ 4611686018427387904 by omega)
        clear hR hRS hNt hT hp hi0 hz0 hz1 hz2 HOKT SD HPI HSD hN n0 n1 u0 u1 u2
        go_enter Try.func43, Try.ntmps43
        go_wp2_with (first
          | (go_at_call 50; refine (HFT.out _ B0.out).mono ?_; rintro e w1 ⟨rfl, b1⟩; have B1 := Lib.hid (B0.out.trans (b1.mono B0.out.size)); have F1 := Lib.hid ((b1.block _ (lt_of_block F0.out)).trans F0.out); clear b1; obtain ⟨q0, q1, q2⟩ := bk3T F1.out)
          | (go_at_call 51; refine (HPO.out _ B1.out).mono ?_; rintro e w2 ⟨rfl, rfl⟩))
        clear q0 q1 q2 hSA hUN hUI0 hUI hUc e1 pb hc0
        go_loopg [1, 8, 10] 9 (fun gq sv uv ov wr => ∃ (bs : List Int) (out : List Fld) (Ab A1 : Option Addr) (nb cb n c : Nat) (u : Int), sv = .slice Ab nb cb ∧ uv = .int .i64 u ∧ ov = .slice A1 n c ∧ n + gq = 9 ∧ n ≤ 8 ∧ Hid (out.length = n) ∧ Hid (bs.length = nb) ∧ Hid (nb ≤ N) ∧ Hid (BSl W W.heap.size (.slice Ab nb cb) bs) ∧ Hid (linesR T need gq bs out = R) ∧ Hid (∀ x ∈ out, FdWf x) ∧ Hid (OwnE FdE wr (W.heap.size + 1) 66 (.slice A1 n c) out) ∧ Hid (TKF W (.cells #[.int .i64 room, .int .i64 put, .slice At Nt ct] 27 (0, 0)) wr))
        case atStart => exact ⟨b.drop U, [], SA, none, N - U, c0 - U, 0, 0, _, rfl, rfl, rfl, rfl, by omega, Lib.hid rfl, HDL, Lib.hid (Nat.sub_le _ _), SDH, HRR, Lib.hid (fun x hx => by cases hx), Lib.hid (OwnE.nil _ _ _), Lib.hid ⟨F1.out, B1.out⟩⟩
        case round =>
          obtain ⟨bs, out, Ab, A1, nb, cb, n, c, u, rfl, rfl, rfl, hng, hn8, HNL, HNB, HNN, BS, HLR, HOW, OB, TK⟩ := hrel
          by_cases hnb : nb = 0
          · subst hnb
            obtain rfl : bs = [] := List.eq_nil_of_length_eq_zero HNB.out
            have hRo : R = (out, 0) := by
              have := HLR.out
              cases gk with
              | zero => rw [linesR, if_pos rfl] at this; exact this.symm
              | succ g => rw [linesR, if_pos rfl] at this; exact this.symm
            obtain ⟨A2, c2, h8, l8, m8, r8⟩ := OB.out.slice
            injection h8 with a1 a2 a3
            have HFF := Lib.hid (fun w (hb : Below wr.heap.size wr w) => fdchk_any A1 n c out w (a1 ▸ r8.on hb) HNL.out HOW.out (by omega))
            have HFS := Lib.hid (fun w (hb : Below wr.heap.size wr w) => (⟨A1, c, by rw [HNL.out], by rw [a3]; exact l8, by rw [a3]; exact m8, a1 ▸ r8.on hb⟩ : FSl w w.heap.size (.slice A1 n c) out))
            obtain ⟨ff, hff⟩ : ∃ e, faultFl out = e := ⟨_, rfl⟩
            rw [hff] at HFF
            have HRQ := Lib.hid (show RS = if ff ≠ 0 then ([], ff) else (out, 0) by rw [← HRS.out, hRo, if_neg (fun k => k rfl), hff])
            have BK := Lib.hid TK.out.b
            clear hRo a1 a2 a3 l8 m8 r8 hff HRS HRR
            by_cases hf : ff = 0
            · subst hf
              obtain rfl : RS = (out, 0) := by rw [HRQ.out, if_neg (fun k => k rfl)]
              clear HRQ
              go_wp2_with fail
              refine (HFF.out _ (Below.refl _ _)).mono ?_
              rintro e w3 ⟨rfl, b3⟩
              have B3 := Lib.hid (BK.out.trans (b3.mono BK.out.size))
              have S3 := Lib.hid (HFS.out w3 b3)
              clear b3
              go_wp2_with fail
              go_ret2
              exact ⟨B3.out, _, rfl, S3.out⟩
            · obtain rfl : RS = ([], ff) := by rw [HRQ.out, if_pos hf]
              have g : (ff != 0) = true := by simp [hf]
              clear hf HRQ
              go_wp2_with fail
              refine (HFF.out _ (Below.refl _ _)).mono ?_
              rintro e w3 ⟨rfl, b3⟩
              have B3 := Lib.hid (BK.out.trans (b3.mono BK.out.size))
              clear b3
              go_wp2_with fail
              go_ret2
              exact ⟨B3.out, _, rfl, FSl.nil _ _⟩
          · have hnbI : (0 : Int) < (nb : Int) := by omega
            have HNE := Lib.hid (show bs ≠ [] by intro e; have := HNB.out; rw [e] at this; exact hnb this.symm)
            by_cases h8 : n = 8
            · have hRo : R = ([], 1) := by
                have := HLR.out
                cases gk with
                | zero => rw [linesR, if_neg HNE.out] at this; exact this.symm
                | succ g => rw [linesR, if_neg HNE.out, if_pos (by rw [HNL.out]; omega)] at this; exact this.symm
              obtain rfl : RS = ([], 1) := by rw [← HRS.out, hRo, if_pos (by decide)]
              have BK := Lib.hid TK.out.b
              subst h8
              clear hRo HRS HRR hnb
              go_wp2_with fail
              go_ret2
              exact ⟨BK.out, _, rfl, FSl.nil _ _⟩
            · have h8i : ((n : Int) == 8) = false := by simp; omega
              have hn7 := Lib.hid (show n + 1 ≤ 8 by omega)
              obtain ⟨g, rfl⟩ : ∃ g, gk = g + 1 := ⟨gk - 1, by omega⟩
              have HLS := Lib.hid (show R = if (readR T need bs).2.2 ≠ 0 then ([], (readR T need bs).2.2) else linesR T need g (bs.drop (readR T need bs).2.1.toNat) (out ++ [(readR T need bs).1]) by
                have := HLR.out
                rw [linesR_read T need g bs out HNE.out (by rw [HNL.out]; omega)] at this
                exact this.symm)
              obtain ⟨Ab', cb', hq, hq1, hq2, hq3, hqr⟩ := BS.out.ex
              injection hq with a1 a2 a3
              subst a1 a3
              clear a2
              have hbs : bs.length ≤ 140737488355328 := by rw [HNB.out]; have := HNN.out; have := HBL.out; omega
              have HLNE := Lib.hid (fun w hb => HLN.out need _ bs w hb BS.out hbs (by rw [HNB.out]; omega) hn99.out)
              have HFW := Lib.hid (fun h => HLW.out need bs hqr.1 hbs h)
              have HBD := Lib.hid (fun K (hK : K ≤ nb) => bsl_drop BS.out K (by rw [HNB.out]; exact hK))
              have hnc : nb ≤ cb := by have := HNB.out; omega
              obtain ⟨⟨f, u2, y⟩, hln⟩ : ∃ r, readR T need bs = r := ⟨_, rfl⟩
              rw [hln] at HFW HLNE HLS
              unfold fdRV fdV at HLNE
              dsimp only at HFW HLNE HLS
              rw [HNB.out] at HFW
              obtain ⟨S1, hS1⟩ : ∃ S, strOfNums f.name = S := ⟨_, rfl⟩
              obtain ⟨S2, hS2⟩ : ∃ S, strOfNums f.val = S := ⟨_, rfl⟩
              have HFX := Lib.hid (show FdE.f f = [.string S1, .string S2] by rw [← hS1, ← hS2]; rfl)
              rw [hS1, hS2] at HLNE
              obtain ⟨q0, q1, q2⟩ := bk3T TK.out.t
              have b8 := (Below.refl wr.heap.size wr).alloc (Nat.le_refl _) (.cells #[.string ⟨#[]⟩, .string ⟨#[]⟩] 66)
              have TKY := Lib.hid (TK.out.later b8)
              have OBY := Lib.hid (OwnE.later OB.out b8)
              have YY := Lib.hid (heap_alloc_new wr (.cells #[.string ⟨#[]⟩, .string ⟨#[]⟩] 66))
              have hwlt := lt_of_block TK.out.t
              have hwl := Lib.hid (show W.heap.size + 1 ≤ wr.heap.size by omega)
              obtain ⟨f0, f1, f2⟩ := bk3T TKY.out.t
              clear hln hS1 hS2 HLR b8 hq1 hq2 hq3 hqr hnb hbs h8 hwlt
              go_wp2_with fail
              refine (HLNE.out _ TKY.out.b).mono ?_
              clear q0 q1 q2 f0 f1 f2
              rintro e w2 ⟨rfl, b2⟩
              have TK2 := Lib.hid (TKY.out.later b2)
              have OB2 := Lib.hid (OwnE.later OBY.out b2)
              have Y2 := Lib.hid ((b2.block _ (lt_of_block YY.out)).trans YY.out)
              clear b2
              obtain ⟨y0, y1⟩ := bk2F Y2.out
              have yf := fun j => bk_frz Y2.out j
              go_upto_region 17 with fail
              obtain ⟨m0, m1, gy⟩ := bk2_putF Y2.out (.string S1) (.string S2)
              have YY3 := bk2_blkR Y2.out (.string S1) (.string S2)
              obtain ⟨w3, hw3⟩ : ∃ w9, (w2.setCell ⟨wr.heap.size, 0, none⟩ (.string S1)).setCell ⟨wr.heap.size, 1, none⟩ (.string S2) = w9 := ⟨_, rfl⟩
              rw [hw3] at YY3 gy ⊢
              have Y3 := Lib.hid YY3
              have TK3 := Lib.hid (TK2.out.gr gy (fun k e => by cases e; exact hwl.out))
              have OB3 := Lib.hid (OwnE.kept OB2.out gy (fun e => by have := (OwnE.lt OB.out _ e).2; omega))
              clear hw3 gy YY3 m0 m1 y0 y1 yf
              by_cases hy : y = 0
              · subst hy
                rw [if_neg (fun k => k rfl)] at HLS
                obtain ⟨hfw, u0, u1⟩ := HFW.out rfl
                have HFWF := Lib.hid hfw
                obtain ⟨K, rfl⟩ : ∃ K : Nat, u2 = K := ⟨u2.toNat, by omega⟩
                rw [Int.toNat_natCast] at HLS
                have hKn : K ≤ nb := by omega
                have hKI0 : (0 : Int) ≤ (K : Int) := by omega
                have hKI : (K : Int) ≤ (nb : Int) := by omega
                have hKc : (K : Int) ≤ (cb : Int) := by omega
                have BD := HBD.out K hKn
                obtain ⟨SB, hSB⟩ : ∃ SB, (if cb = K then Ab else Option.map (fun x => x.add K) Ab) = SB := ⟨_, rfl⟩
                rw [hSB] at BD
                have BDH := Lib.hid BD
                have HLL := Lib.hid (show out.length ≤ 8 by rw [HNL.out]; exact hn8)
                have R1 := Lib.hid ((RowE.one (E := FdE) w3 f #[.string S1, .string S2] 66 w3.heap.size rfl HFX.out.symm).more (show w3.heap.size + 1 ≤ (w3.alloc (.cells #[.string S1, .string S2] 66)).heap.size by simp))
                have b9 := (Below.refl w3.heap.size w3).alloc (Nat.le_refl _) (.cells #[.string S1, .string S2] 66)
                have OA := Lib.hid (OwnE.later OB3.out b9)
                have TKA := Lib.hid (TK3.out.later b9)
                have hbase := Lib.hid (show W.heap.size + 1 ≤ (w3.alloc (.cells #[.string S1, .string S2] 66)).heap.size from lt_of_block TKA.out.t)
                obtain ⟨y0, y1⟩ := bk2F Y3.out
                clear BD b9 hfw u0 u1
                go_wp2_with (at_builtin
                             refine wpList_appE _ rfl (.tmp 56) (.tmp 58) _ rfl (W.heap.size + 1) 66 i0 (.agg #[.string ⟨#[]⟩, .string ⟨#[]⟩]) 32 Try.underlying23 HI.out HZ.out HZ1.out HZ2.out rfl (by decide) (.slice A1 n c) out rfl OA.out _ (some ⟨w3.heap.size, 0, none⟩) 1 1 [f] rfl R1.out rfl (by have := HLL.out; omega) hbase.out ?_
                             intro v9 u9 own9 g9
                             have O9 := Lib.hid own9
                             have TK9 := Lib.hid (TKA.out.gr g9 (fun k e => (OwnE.lt OA.out k e).1))
                             obtain ⟨A8, c8, h8, _, _, _⟩ := own9.slice
                             have hl1 : (out ++ [f]).length = n + 1 := by rw [List.length_append, HNL.out]; rfl
                             rw [hl1] at h8
                             subst h8
                             have HL1 := Lib.hid hl1
                             clear own9 g9 y0 y1 hl1)
                go_roundg g
                case measure => omega
                case rel => exact ⟨bs.drop K, out ++ [f], SB, A8, nb - K, cb - K, n + 1, c8, _, rfl, rfl, rfl, by omega, hn7.out, HL1, Lib.hid (by rw [List.length_drop, HNB.out]), Lib.hid (Nat.le_trans (Nat.sub_le _ _) HNN.out), BDH, Lib.hid HLS.out.symm, Lib.hid (fun x hx => by rcases List.mem_append.1 hx with hx | hx; (exact HOW.out x hx); (rw [List.mem_singleton.1 hx]; exact HFWF.out)), O9, TK9⟩
              · rw [if_pos hy] at HLS
                have g9 : (y != 0) = true := by simp [hy]
                have hRo := HLS.out
                obtain rfl : RS = ([], y) := by rw [← HRS.out, hRo, if_pos (show (([], y) : List Fld × Int).2 ≠ 0 from hy)]
                have BK := Lib.hid TK3.out.b
                clear hRo HLS hy HRS HRR
                go_wp2_with fail
                go_ret2
                exact ⟨BK.out, _, rfl, FSl.nil _ _⟩
    · rw [if_pos hy]
      have g : (y != 0) = true := by simp [hy]
      clear hNt hy hN
      go_enter Try.func43, Try.ntmps43
      go_wp2_with (first
        | (go_at_call 50; refine (HFT.out _ B0.out).mono ?_; rintro e w1 ⟨rfl, b1⟩; have B1 := Lib.hid (B0.out.trans (b1.mono B0.out.size)); have F1 := Lib.hid ((b1.block _ (lt_of_block F0.out)).trans F0.out); clear b1; obtain ⟨q0, q1, q2⟩ := bk3T F1.out)
        | (go_at_call 51; refine (HPO.out _ B1.out).mono ?_; rintro e w2 ⟨rfl, rfl⟩))
      go_ret2
      exact ⟨B1.out, _, rfl, FSl.nil _ _⟩
  · rw [if_pos h0]
    have g : (x != 0) = true := by simp [h0]
    clear hNt h0 hN
    go_enter Try.func43, Try.ntmps43
    go_wp2_with (go_at_call 50; refine (HFT.out _ B0.out).mono ?_; rintro e w1 ⟨rfl, b1⟩; have B1 := Lib.hid (B0.out.trans (b1.mono B0.out.size)); have F1 := Lib.hid ((b1.block _ (lt_of_block F0.out)).trans F0.out); clear b1; obtain ⟨q0, q1, q2⟩ := bk3T F1.out)
    go_ret2
    exact ⟨B1.out, _, rfl, FSl.nil _ _⟩
end Go.Proofs.Ytpfahdogedchpaa
