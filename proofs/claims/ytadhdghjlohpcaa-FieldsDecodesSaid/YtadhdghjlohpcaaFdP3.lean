/- The project's readers of fields: readNamed, readReferred, read. -/
import Derived.Test.YtadhdghjlohpcaaFdP2
import Derived.Test.YtadhdghjlohpcaaTabP7
import Derived.Test.YtadhdghjlohpcaaRefFd3
namespace Go.Proofs.Ytadhdghjlohpcaa.P
set_option linter.unusedVariables false
open Go.RowKit
/-- what the project's read says: a field of a section, or an error alone -/
def readR (t : Tb) (need : Int) (b : List Int) : Fld × Int × Int :=
  if 192 ≤ b.getD 0 0 then knR b 6 else if 128 ≤ b.getD 0 0 then refdR t need b else if 64 ≤ b.getD 0 0 ∧ b.getD 0 0 < 80 then namedR b else if 32 ≤ b.getD 0 0 ∧ b.getD 0 0 < 40 then pairR b 3 else (fd0, 0, 2)
theorem readR_line (t : Tb) (need : Int) (b : List Int) : (readR t need b).2.2 = (lineR t need b).2.2 ∧ ((lineR t need b).2.2 = 0 → readR t need b = lineR t need b) := by
  unfold readR lineR
  by_cases c1 : 192 ≤ b.getD 0 0
  · rw [if_pos c1, if_pos c1]; exact ⟨rfl, fun _ => rfl⟩
  · rw [if_neg c1, if_neg c1]
    by_cases c2 : 128 ≤ b.getD 0 0
    · rw [if_pos c2, if_pos c2]
      unfold refdR
      by_cases x : (pxR b 6).2.2 ≠ 0
      · rw [if_pos x, if_pos x]; exact ⟨rfl, fun _ => rfl⟩
      · rw [if_neg x, if_neg x]
        by_cases y : need ≤ (pxR b 6).1
        · rw [if_pos y, if_pos y]; exact ⟨rfl, fun _ => rfl⟩
        · rw [if_neg y, if_neg y]
          by_cases z : (getT t (need - 1 - (pxR b 6).1)).2 ≠ 0
          · rw [if_pos z]; exact ⟨rfl, fun k => absurd k z⟩
          · have z' := Decidable.byContradiction z
            rw [if_neg z]; exact ⟨z'.symm, fun _ => by rw [z']⟩
    · rw [if_neg c2, if_neg c2]
      by_cases c3 : 64 ≤ b.getD 0 0 ∧ b.getD 0 0 < 80
      · rw [if_pos c3, if_pos c3]
        unfold namedR
        by_cases x : (knR b 4).2.2 ≠ 0
        · rw [if_pos x, if_pos x]; exact ⟨rfl, fun _ => rfl⟩
        · rw [if_neg x, if_neg x]
          by_cases z : (pxTR (b.drop (knR b 4).2.1.toNat) 7).2.2 ≠ 0
          · rw [if_pos z]; exact ⟨rfl, fun k => absurd k z⟩
          · have z' := Decidable.byContradiction z
            rw [if_neg z]; exact ⟨z'.symm, fun _ => by rw [z']⟩
      · rw [if_neg c3, if_neg c3]
        by_cases c4 : 32 ≤ b.getD 0 0 ∧ b.getD 0 0 < 40
        · rw [if_pos c4, if_pos c4]
          unfold pairR
          by_cases x : (pxTR b 3).2.2 ≠ 0
          · rw [if_pos x, if_pos x]; exact ⟨rfl, fun _ => rfl⟩
          · rw [if_neg x, if_neg x]
            by_cases z : (pxTR (b.drop (pxTR b 3).2.1.toNat) 7).2.2 ≠ 0
            · rw [if_pos z]; exact ⟨rfl, fun k => absurd k z⟩
            · have z' := Decidable.byContradiction z
              rw [if_neg z]; exact ⟨z'.symm, fun _ => by rw [z']⟩
        · rw [if_neg c4, if_neg c4]; exact ⟨rfl, fun _ => rfl⟩
end Go.Proofs.Ytadhdghjlohpcaa.P
namespace Go.Proofs.Ytadhdghjlohpcaa
set_option linter.unusedVariables false
open Go.RowKit P

set_option maxHeartbeats 2000000 in
theorem readNamed_any (v : Value) (b : List Int) (W : World) (hv : BSl W W.heap.size v b) (hl : b.length ≤ 140737488355328) :
    Calls Try.prog 70 #[v] W fun e w' => e = .returned (fdRV (namedR b)) ∧ Below W.heap.size W w' := by
  have HO := Lib.hid (fun w' (hb : Below W.heap.size W w') => readKn_any v b 4 w' (bsl_onF hv hb) hl (by decide) (by decide))
  obtain ⟨A0, c0, rfl, hc0, hm0, hn0, hr0⟩ := hv.ex
  have hby : Byt b := hr0.1
  obtain ⟨N, hN⟩ : ∃ N, b.length = N := ⟨_, rfl⟩
  have HT7a := Lib.hid (fun K (hK : K ≤ N) w' (hb : Below W.heap.size W w') => pxRead_any _ (b.drop K) 7 w' (bsl_onF (bsl_drop hv K (by omega)) hb) (by rw [List.length_drop]; omega) (by decide) (by decide))
  have HTIa := Lib.hid (fun K => (by have := pxTR_in (b := b.drop K) (w := 7) (hby.drop K); rw [List.length_drop, hN] at this; exact this : 0 ≤ (pxTR (b.drop K) 7).2.1 ∧ (pxTR (b.drop K) 7).2.1 ≤ ((N - K : Nat) : Int) ∧ ((pxTR (b.drop K) 7).2.2 ≠ 0 → (pxTR (b.drop K) 7).1 = [] ∧ (pxTR (b.drop K) 7).2.1 = 0)))
  rw [hN] at hc0 HT7a ⊢
  have HKI := Lib.hid (fun h => knR_in (b := b) (w := 4) hby h)
  have HKE := Lib.hid (fun h => knR_err (b := b) (w := 4) h)
  rw [hN] at HKI hl HO
  unfold namedR
  obtain ⟨⟨z, u, x⟩, hr⟩ : ∃ r, knR b 4 = r := ⟨_, rfl⟩
  rw [hr] at HO HKI HKE ⊢
  unfold fdRV fdV at HO
  dsimp only at HO HKI HKE ⊢
  have B0 := Lib.hid ((Below.refl W.heap.size W).alloc (Nat.le_refl _) (.cells #[.string ⟨#[]⟩, .string ⟨#[]⟩] 57))
  have G0 := Lib.hid (heap_alloc_new W (.cells #[.string ⟨#[]⟩, .string ⟨#[]⟩] 57))
  have HLE := Lib.hid (Nat.le_refl W.heap.size)
  unfold fdRV fdV
  clear hr hr0 hv hn0 hby
  obtain ⟨R1, hR1⟩ : ∃ X, strOfNums z.name = X := ⟨_, rfl⟩
  obtain ⟨R2, hR2⟩ : ∃ X, strOfNums z.val = X := ⟨_, rfl⟩
  rw [hR1, hR2] at HO
  by_cases hx : x = 0
  · subst hx
    obtain ⟨u0, u1⟩ := HKI.out rfl
    rw [if_neg (fun k => k rfl)]
    obtain ⟨K, rfl⟩ : ∃ K : Nat, u = K := ⟨u.toNat, by omega⟩
    rw [Int.toNat_natCast]
    clear HKI HKE hN
    obtain ⟨⟨V, m, y⟩, hv7⟩ : ∃ r, pxTR (b.drop K) 7 = r := ⟨_, rfl⟩
    have HT7 := Lib.hid (HT7a.out K)
    have HTI := Lib.hid (HTIa.out K)
    rw [hv7] at HT7 HTI ⊢
    unfold pxTV at HT7
    dsimp only at HT7 HTI ⊢
    obtain ⟨m0, m1, m2⟩ := HTI.out
    obtain ⟨VV, hVV⟩ : ∃ X, strOfNums V = X := ⟨_, rfl⟩
    rw [hVV] at HT7
    have hKN : K ≤ N := by omega
    have hKNI : (K : Int) ≤ (N : Int) := by omega
    have hKI0 : (0 : Int) ≤ (K : Int) := by omega
    have hKc : (K : Int) ≤ (c0 : Int) := by omega
    obtain ⟨SA, hSA⟩ : ∃ SA, (if c0 = K then A0 else Option.map (fun x => x.add K) A0) = SA := ⟨_, rfl⟩
    rw [hSA] at HT7
    clear hv7 HT7a HTIa
    by_cases hy : y = 0
    · subst hy
      rw [if_neg (fun k => k rfl)]
      dsimp only
      rw [hR1, hVV]
      have hwr : IntKind.i64.wrap ((K : Int) + m) = (K : Int) + m := by rw [IntKind.wrap_i64]; omega
      clear hVV HTI m2
      go_enter Try.func70, Try.ntmps70
      go_wp2_with fail
      refine (HO.out _ B0.out).mono ?_
      rintro e w2 ⟨rfl, b1⟩
      have b8 := B0.out.trans (b1.mono B0.out.size)
      have B1 := Lib.hid (b8.alloc b8.size (.cells #[.string R1, .string R2] 57))
      have g8 := (b1.block _ (lt_of_block G0.out)).trans G0.out
      have G1 := Lib.hid ((Below.heap_alloc w2 (.cells #[.string R1, .string R2] 57) _ (lt_of_block g8)).trans g8)
      have Y1 := Lib.hid (heap_alloc_new w2 (.cells #[.string R1, .string R2] 57))
      clear b1 b8 g8
      obtain ⟨q0, q1⟩ := bk2F G1.out
      have qf := fun j => bk_frz G1.out j
      obtain ⟨y0, y1⟩ := bk2F Y1.out
      have yf := fun j => bk_frz Y1.out j
      go_wp2_with fail
      refine (HT7.out hKN _ B1.out).mono ?_
      rintro e w9 ⟨rfl, rfl⟩
      go_wp2_with fail
      obtain ⟨r0, r1, gp⟩ := bk2_putF G1.out (.string R1) (.string VV)
      refine bodyPost_ret (by simp [results, Try.results70, go_sem, r0, r1]; try rfl) rfl ?_
      exact ⟨by first | rfl | simp, gr_from B1.out B1.out.size (HLE.out) gp⟩
    · rw [if_pos hy]
      have g : (y != 0) = true := by simp [hy]
      obtain ⟨rfl, rfl⟩ := m2 hy
      clear hVV HTI m2
      go_enter Try.func70, Try.ntmps70
      go_wp2_with fail
      refine (HO.out _ B0.out).mono ?_
      rintro e w2 ⟨rfl, b1⟩
      have b8 := B0.out.trans (b1.mono B0.out.size)
      have B1 := Lib.hid (b8.alloc b8.size (.cells #[.string R1, .string R2] 57))
      have g8 := (b1.block _ (lt_of_block G0.out)).trans G0.out
      have G1 := Lib.hid ((Below.heap_alloc w2 (.cells #[.string R1, .string R2] 57) _ (lt_of_block g8)).trans g8)
      have Y1 := Lib.hid (heap_alloc_new w2 (.cells #[.string R1, .string R2] 57))
      clear b1 b8 g8
      obtain ⟨q0, q1⟩ := bk2F G1.out
      have qf := fun j => bk_frz G1.out j
      obtain ⟨y0, y1⟩ := bk2F Y1.out
      have yf := fun j => bk_frz Y1.out j
      go_wp2_with fail
      refine (HT7.out hKN _ B1.out).mono ?_
      rintro e w9 ⟨rfl, rfl⟩
      go_wp2_with fail
      obtain ⟨r0, r1, gp⟩ := bk2_putF G1.out (.string ⟨#[]⟩) (.string ⟨#[]⟩)
      refine bodyPost_ret (by simp [results, Try.results70, go_sem, r0, r1]; try rfl) rfl ?_
      exact ⟨by first | rfl | simp, gr_from B1.out B1.out.size (HLE.out) gp⟩
  · rw [if_pos hx]
    have g : (x != 0) = true := by simp [hx]
    clear HT7a HTIa HKI HKE hN
    go_enter Try.func70, Try.ntmps70
    go_wp2_with fail
    refine (HO.out _ B0.out).mono ?_
    rintro e w2 ⟨rfl, b1⟩
    have b8 := B0.out.trans (b1.mono B0.out.size)
    have B1 := Lib.hid (b8.alloc b8.size (.cells #[.string R1, .string R2] 57))
    have g8 := (b1.block _ (lt_of_block G0.out)).trans G0.out
    have G1 := Lib.hid ((Below.heap_alloc w2 (.cells #[.string R1, .string R2] 57) _ (lt_of_block g8)).trans g8)
    have Y1 := Lib.hid (heap_alloc_new w2 (.cells #[.string R1, .string R2] 57))
    clear b1 b8 g8
    obtain ⟨q0, q1⟩ := bk2F G1.out
    have qf := fun j => bk_frz G1.out j
    obtain ⟨y0, y1⟩ := bk2F Y1.out
    have yf := fun j => bk_frz Y1.out j
    go_wp2_with fail
    obtain ⟨r0, r1, gp⟩ := bk2_putF G1.out (.string ⟨#[]⟩) (.string ⟨#[]⟩)
    refine bodyPost_ret (by simp [results, Try.results70, go_sem, r0, r1]; try rfl) rfl ?_
    exact ⟨by first | rfl | simp, gr_from B1.out B1.out.size (HLE.out) gp⟩

set_option maxHeartbeats 2000000 in
theorem readRefd_any (v : Value) (t : Tb) (need : Int) (s : Value) (b : List Int) (W : World) (hv : TbVal W W.heap.size v t) (hw : TbWf t) (hs : BSl W W.heap.size s b) (hl : b.length ≤ 140737488355328) (hn : 0 ≤ need ∧ need ≤ 4611686018427387904) :
    Calls Try.prog 69 #[v, .int .i64 need, s] W fun e w' => e = .returned (fdRV (refdR t need b)) ∧ Below W.heap.size W w' := by
  have HO := Lib.hid (fun w' (hb : Below W.heap.size W w') => pxDec_any s b 6 w' (bsl_onF hs hb) hl (by decide) (by decide))
  have HTG := Lib.hid (fun n hn w (hb : Below W.heap.size W w) => tget_any v t n w (hv.on hb) hw hn)
  obtain ⟨A0, c0, rfl, hc0, hm0, hn0, hr0⟩ := hs.ex
  have HIN := Lib.hid (fun h => pxR_in (b := b) (w := 6) (fun j => (hr0.1 j).1) h)
  obtain ⟨N, hN⟩ : ∃ N, b.length = N := ⟨_, rfl⟩
  rw [hN] at HO HIN ⊢
  obtain ⟨At, ct, rfl⟩ := tb_slicesR hv
  unfold refdR
  obtain ⟨⟨n, u, x⟩, hr⟩ : ∃ r, pxR b 6 = r := ⟨_, rfl⟩
  rw [hr] at HO HIN ⊢
  unfold pxRV at HO
  dsimp only at HO HIN ⊢
  obtain ⟨g1, g2, g4⟩ := two_bk W #[.int .i64 t.room, .int .i64 t.put, .slice At t.rows.length ct] #[.string ⟨#[]⟩, .string ⟨#[]⟩] 24 57
  have F0 := Lib.hid g1
  have G0 := Lib.hid g2
  have B0 := Lib.hid g4
  clear hr hr0 hs hv hw hl g1 g2 g4 hc0 hm0 hn0 hN
  by_cases hx : x = 0
  · subst hx
    obtain ⟨n0, n1, u0, u1, u2⟩ := HIN.out rfl
    rw [if_neg (fun k => k rfl)]
    by_cases hq : need ≤ n
    · rw [if_pos hq]
      have e1 : decide (need ≤ n) = true := by simp [hq]
      unfold fdRV fdV
      clear HTG
      obtain ⟨q0, q1⟩ := bk2F G0.out
      have qf := fun j => bk_frz G0.out j
      go_enter Try.func69, Try.ntmps69
      go_wp2_with fail
      refine (HO.out _ B0.out).mono ?_
      rintro e w2 ⟨rfl, rfl⟩
      go_wp2_with fail
      obtain ⟨r0, r1⟩ := bk2F G0.out
      refine bodyPost_ret (by simp [results, Try.results69, go_sem, r0, r1]; try rfl) rfl ?_
      exact ⟨by first | rfl | simp, B0.out⟩
    · rw [if_neg hq]
      have e1 : decide (need ≤ n) = false := by simp; omega
      have hsub0 : IntKind.i64.wrap (need - 1) = need - 1 := by rw [IntKind.wrap_i64]; omega
      have hsub : IntKind.i64.wrap (need - 1 - n) = need - 1 - n := by rw [IntKind.wrap_i64]; omega
      have HT0 := Lib.hid (fun w hb => HTG.out (need - 1 - n) (by omega) w hb)
      obtain ⟨⟨z, y⟩, hz⟩ : ∃ r, getT t (need - 1 - n) = r := ⟨_, rfl⟩
      rw [hz] at HT0 ⊢
      unfold fdRV
      unfold fdV at HT0 ⊢
      dsimp only at HT0 ⊢
      obtain ⟨R1, hR1⟩ : ∃ X, strOfNums z.name = X := ⟨_, rfl⟩
      obtain ⟨R2, hR2⟩ : ∃ X, strOfNums z.val = X := ⟨_, rfl⟩
      rw [hR1, hR2] at HT0
      obtain ⟨f0, f1, f2⟩ := bk3T F0.out
      clear hz HTG
      by_cases hy : y = 0
      · subst hy
        rw [if_neg (fun k => k rfl)]
        dsimp only
        rw [hR1, hR2]
        clear hR1 hR2
        go_enter Try.func69, Try.ntmps69
        go_wp2_with fail
        refine (HO.out _ B0.out).mono ?_
        rintro e w2 ⟨rfl, rfl⟩
        go_wp2_with fail
        refine (HT0.out _ B0.out).mono ?_
        rintro e w2 ⟨b1, rfl⟩
        clear f0 f1 f2
        have b8 := B0.out.trans (b1.mono B0.out.size)
        have B1 := Lib.hid (b8.alloc b8.size (.cells #[.string R1, .string R2] 57))
        have g8 := (b1.block _ (lt_of_block G0.out)).trans G0.out
        have G1 := Lib.hid ((Below.heap_alloc w2 (.cells #[.string R1, .string R2] 57) _ (lt_of_block g8)).trans g8)
        have Y1 := Lib.hid (heap_alloc_new w2 (.cells #[.string R1, .string R2] 57))
        clear b1 b8 g8
        obtain ⟨q0, q1⟩ := bk2F G1.out
        have qf := fun j => bk_frz G1.out j
        obtain ⟨y0, y1⟩ := bk2F Y1.out
        have yf := fun j => bk_frz Y1.out j
        go_wp2_with fail
        obtain ⟨r0, r1, gp⟩ := bk2_putF G1.out (.string R1) (.string R2)
        refine bodyPost_ret (by simp [results, Try.results69, go_sem, r0, r1]; try rfl) rfl ?_
        exact ⟨by first | rfl | simp, gr_from B1.out B1.out.size (Nat.le_succ _) gp⟩
      · rw [if_pos hy]
        have g : (y != 0) = true := by simp [hy]
        clear hR1 hR2
        go_enter Try.func69, Try.ntmps69
        go_wp2_with fail
        refine (HO.out _ B0.out).mono ?_
        rintro e w2 ⟨rfl, rfl⟩
        go_wp2_with fail
        refine (HT0.out _ B0.out).mono ?_
        rintro e w2 ⟨b1, rfl⟩
        clear f0 f1 f2
        have b8 := B0.out.trans (b1.mono B0.out.size)
        have B1 := Lib.hid (b8.alloc b8.size (.cells #[.string R1, .string R2] 57))
        have g8 := (b1.block _ (lt_of_block G0.out)).trans G0.out
        have G1 := Lib.hid ((Below.heap_alloc w2 (.cells #[.string R1, .string R2] 57) _ (lt_of_block g8)).trans g8)
        have Y1 := Lib.hid (heap_alloc_new w2 (.cells #[.string R1, .string R2] 57))
        clear b1 b8 g8
        obtain ⟨q0, q1⟩ := bk2F G1.out
        have qf := fun j => bk_frz G1.out j
        obtain ⟨y0, y1⟩ := bk2F Y1.out
        have yf := fun j => bk_frz Y1.out j
        go_wp2_with fail
        obtain ⟨r0, r1, gp⟩ := bk2_putF G1.out (.string ⟨#[]⟩) (.string ⟨#[]⟩)
        refine bodyPost_ret (by simp [results, Try.results69, go_sem, r0, r1]; try rfl) rfl ?_
        exact ⟨by first | rfl | simp, gr_from B1.out B1.out.size (Nat.le_succ _) gp⟩
  · rw [if_pos hx]
    have g : (x != 0) = true := by simp [hx]
    unfold fdRV fdV
    clear HTG
    obtain ⟨q0, q1⟩ := bk2F G0.out
    have qf := fun j => bk_frz G0.out j
    go_enter Try.func69, Try.ntmps69
    go_wp2_with fail
    refine (HO.out _ B0.out).mono ?_
    rintro e w2 ⟨rfl, rfl⟩
    go_wp2_with fail
    obtain ⟨r0, r1⟩ := bk2F G0.out
    refine bodyPost_ret (by simp [results, Try.results69, go_sem, r0, r1]; try rfl) rfl ?_
    exact ⟨by first | rfl | simp, B0.out⟩

set_option maxHeartbeats 2000000 in
theorem fdread_any (v : Value) (t : Tb) (need : Int) (s : Value) (b : List Int) (W : World) (hv : TbVal W W.heap.size v t) (hw : TbWf t) (hs : BSl W W.heap.size s b) (hl : b.length ≤ 140737488355328) (h0 : 0 < b.length) (hn : 0 ≤ need ∧ need ≤ 4611686018427387904) :
    Calls Try.prog 43 #[v, .int .i64 need, s] W fun e w' => e = .returned (fdRV (readR t need b)) ∧ Below W.heap.size W w' := by
  have HK := Lib.hid (fun w' (hb : Below W.heap.size W w') => readKn_any s b 6 w' (bsl_onF hs hb) hl (by decide) (by decide))
  have HRF := Lib.hid (fun w' (hb : Below W.heap.size W w') => readRefd_any v t need s b w' (hv.on hb) hw (bsl_onF hs hb) hl hn)
  have HNM := Lib.hid (fun w' (hb : Below W.heap.size W w') => readNamed_any s b w' (bsl_onF hs hb) hl)
  have HPR := Lib.hid (fun w' (hb : Below W.heap.size W w') => readPair_any s b 3 w' (bsl_onF hs hb) hl (by decide) (by decide))
  obtain ⟨A0, c0, rfl, hc0, hm0, hn0, hr0⟩ := hs.ex
  have hc := hr0.1 0
  obtain ⟨gb, off, rfl, hg, hcell⟩ := hr0.2 h0
  have hce := hcell 0 h0
  rw [Nat.add_zero] at hce
  obtain ⟨At, ct, rfl⟩ := tb_slicesR hv
  obtain ⟨c, hcc⟩ : ∃ c, b.getD 0 0 = c := ⟨_, rfl⟩
  have HCC := Lib.hid hcc
  rw [hcc] at hc hce
  replace hc : 0 ≤ c ∧ c < 256 := by omega
  obtain ⟨N, hN⟩ : ∃ N, b.length = N := ⟨_, rfl⟩
  rw [hN] at HK HRF HNM HPR h0 hl hc0 ⊢
  have h0I : (0 : Int) < (N : Int) := by omega
  obtain ⟨g1, g2, g4⟩ := two_bk W #[.int .i64 t.room, .int .i64 t.put, .slice At t.rows.length ct] #[.string ⟨#[]⟩, .string ⟨#[]⟩] 24 57
  have F0 := Lib.hid g1
  have G0 := Lib.hid g2
  have B0 := Lib.hid g4
  obtain ⟨f0, f1, f2⟩ := bk3T F0.out
  have hce0 := (B0.out.cell (p := ⟨gb, off, none⟩) hg).trans hce
  clear hce hcell hr0 hs hv hw hcc hN hn0 hg g1 g2 g4
  by_cases c1 : 192 ≤ c
  · have HR := Lib.hid (show readR t need b = knR b 6 by unfold readR; rw [HCC.out, if_pos c1])
    rw [HR.out]
    have HX := Lib.hid (HK.out)
    obtain ⟨⟨z, u, x⟩, hr⟩ : ∃ r, knR b 6 = r := ⟨_, rfl⟩
    rw [hr] at HX ⊢
    unfold fdRV fdV at HX ⊢
    dsimp only at HX ⊢
    obtain ⟨R1, hR1⟩ : ∃ S, strOfNums z.name = S := ⟨_, rfl⟩
    obtain ⟨R2, hR2⟩ : ∃ S, strOfNums z.val = S := ⟨_, rfl⟩
    rw [hR1, hR2] at HX ⊢
    have HB0 := Lib.hid (show ∀ w, Calls Try.prog 67 #[.int .u8 c, .int .u8 192, .int .i64 6] w fun e w' => e = .returned (.bool true) ∧ Below w.heap.size w w' from fun w => by have := begins_any c 192 6 64 hc (by decide) w; rwa [show decide (((192) : Int) ≤ c ∧ c < 192 + 64) = true by simp; omega] at this)
    clear hr hR1 hR2 HR HK HRF HNM HPR HCC hc
    go_enter Try.func43, Try.ntmps43
    go_wp2_with fail
    refine (HB0.out _).mono ?_
    rintro e w2 ⟨rfl, b1⟩
    have B1 := Lib.hid (B0.out.trans (b1.mono B0.out.size)); have F1 := Lib.hid ((b1.block _ (lt_of_block F0.out)).trans F0.out); have G1 := Lib.hid ((b1.block _ (lt_of_block G0.out)).trans G0.out); clear b1
    clear f0 f1 f2
    obtain ⟨f0, f1, f2⟩ := bk3T F1.out
    obtain ⟨q0, q1⟩ := bk2F G1.out
    have qf := fun j => bk_frz G1.out j
    go_wp2_with fail
    refine (HX.out _ B1.out).mono ?_
    rintro e w8 ⟨rfl, b8⟩
    clear f0 f1 f2 q0 q1 qf
    have B8 := Lib.hid (B1.out.trans (b8.mono B1.out.size))
    have G8 := Lib.hid ((b8.block _ (lt_of_block G1.out)).trans G1.out)
    clear b8
    obtain ⟨q0, q1⟩ := bk2F G8.out
    have qf := fun j => bk_frz G8.out j
    go_wp2_with fail
    obtain ⟨r0, r1, gp⟩ := bk2_putF G8.out (.string R1) (.string R2)
    refine bodyPost_ret (by simp [results, Try.results43, go_sem, r0, r1]; try rfl) rfl ?_
    exact ⟨by first | rfl | simp, gr_from B8.out B8.out.size (Nat.le_succ _) gp⟩
  · by_cases c2 : 128 ≤ c
    · have HR := Lib.hid (show readR t need b = refdR t need b by unfold readR; rw [HCC.out, if_neg c1, if_pos c2])
      rw [HR.out]
      have HX := Lib.hid (HRF.out)
      obtain ⟨⟨z, u, x⟩, hr⟩ : ∃ r, refdR t need b = r := ⟨_, rfl⟩
      rw [hr] at HX ⊢
      unfold fdRV fdV at HX ⊢
      dsimp only at HX ⊢
      obtain ⟨R1, hR1⟩ : ∃ S, strOfNums z.name = S := ⟨_, rfl⟩
      obtain ⟨R2, hR2⟩ : ∃ S, strOfNums z.val = S := ⟨_, rfl⟩
      rw [hR1, hR2] at HX ⊢
      have HB0 := Lib.hid (show ∀ w, Calls Try.prog 67 #[.int .u8 c, .int .u8 192, .int .i64 6] w fun e w' => e = .returned (.bool false) ∧ Below w.heap.size w w' from fun w => by have := begins_any c 192 6 64 hc (by decide) w; rwa [show decide (((192) : Int) ≤ c ∧ c < 192 + 64) = false by simp; omega] at this)
      have HB1 := Lib.hid (show ∀ w, Calls Try.prog 67 #[.int .u8 c, .int .u8 128, .int .i64 6] w fun e w' => e = .returned (.bool true) ∧ Below w.heap.size w w' from fun w => by have := begins_any c 128 6 64 hc (by decide) w; rwa [show decide (((128) : Int) ≤ c ∧ c < 128 + 64) = true by simp; omega] at this)
      clear hr hR1 hR2 HR HK HRF HNM HPR HCC hc
      go_enter Try.func43, Try.ntmps43
      go_wp2_with fail
      refine (HB0.out _).mono ?_
      rintro e w2 ⟨rfl, b1⟩
      have B1 := Lib.hid (B0.out.trans (b1.mono B0.out.size)); have F1 := Lib.hid ((b1.block _ (lt_of_block F0.out)).trans F0.out); have G1 := Lib.hid ((b1.block _ (lt_of_block G0.out)).trans G0.out); clear b1
      go_wp2_with fail
      refine (HB1.out _).mono ?_
      rintro e w3 ⟨rfl, b2⟩
      have B2 := Lib.hid (B1.out.trans (b2.mono B1.out.size)); have F2 := Lib.hid ((b2.block _ (lt_of_block F1.out)).trans F1.out); have G2 := Lib.hid ((b2.block _ (lt_of_block G1.out)).trans G1.out); clear b2
      clear f0 f1 f2
      obtain ⟨f0, f1, f2⟩ := bk3T F2.out
      obtain ⟨q0, q1⟩ := bk2F G2.out
      have qf := fun j => bk_frz G2.out j
      go_wp2_with fail
      refine (HX.out _ B2.out).mono ?_
      rintro e w8 ⟨rfl, b8⟩
      clear f0 f1 f2 q0 q1 qf
      have B8 := Lib.hid (B2.out.trans (b8.mono B2.out.size))
      have G8 := Lib.hid ((b8.block _ (lt_of_block G2.out)).trans G2.out)
      clear b8
      obtain ⟨q0, q1⟩ := bk2F G8.out
      have qf := fun j => bk_frz G8.out j
      go_wp2_with fail
      obtain ⟨r0, r1, gp⟩ := bk2_putF G8.out (.string R1) (.string R2)
      refine bodyPost_ret (by simp [results, Try.results43, go_sem, r0, r1]; try rfl) rfl ?_
      exact ⟨by first | rfl | simp, gr_from B8.out B8.out.size (Nat.le_succ _) gp⟩
    · by_cases c3 : 64 ≤ c ∧ c < 80
      · have HR := Lib.hid (show readR t need b = namedR b by unfold readR; rw [HCC.out, if_neg c1, if_neg c2, if_pos c3])
        rw [HR.out]
        have HX := Lib.hid (HNM.out)
        obtain ⟨⟨z, u, x⟩, hr⟩ : ∃ r, namedR b = r := ⟨_, rfl⟩
        rw [hr] at HX ⊢
        unfold fdRV fdV at HX ⊢
        dsimp only at HX ⊢
        obtain ⟨R1, hR1⟩ : ∃ S, strOfNums z.name = S := ⟨_, rfl⟩
        obtain ⟨R2, hR2⟩ : ∃ S, strOfNums z.val = S := ⟨_, rfl⟩
        rw [hR1, hR2] at HX ⊢
        have HB0 := Lib.hid (show ∀ w, Calls Try.prog 67 #[.int .u8 c, .int .u8 192, .int .i64 6] w fun e w' => e = .returned (.bool false) ∧ Below w.heap.size w w' from fun w => by have := begins_any c 192 6 64 hc (by decide) w; rwa [show decide (((192) : Int) ≤ c ∧ c < 192 + 64) = false by simp; omega] at this)
        have HB1 := Lib.hid (show ∀ w, Calls Try.prog 67 #[.int .u8 c, .int .u8 128, .int .i64 6] w fun e w' => e = .returned (.bool false) ∧ Below w.heap.size w w' from fun w => by have := begins_any c 128 6 64 hc (by decide) w; rwa [show decide (((128) : Int) ≤ c ∧ c < 128 + 64) = false by simp; omega] at this)
        have HB2 := Lib.hid (show ∀ w, Calls Try.prog 67 #[.int .u8 c, .int .u8 64, .int .i64 4] w fun e w' => e = .returned (.bool true) ∧ Below w.heap.size w w' from fun w => by have := begins_any c 64 4 16 hc (by decide) w; rwa [show decide (((64) : Int) ≤ c ∧ c < 64 + 16) = true by simp; omega] at this)
        clear hr hR1 hR2 HR HK HRF HNM HPR HCC hc
        go_enter Try.func43, Try.ntmps43
        go_wp2_with fail
        refine (HB0.out _).mono ?_
        rintro e w2 ⟨rfl, b1⟩
        have B1 := Lib.hid (B0.out.trans (b1.mono B0.out.size)); have F1 := Lib.hid ((b1.block _ (lt_of_block F0.out)).trans F0.out); have G1 := Lib.hid ((b1.block _ (lt_of_block G0.out)).trans G0.out); clear b1
        go_wp2_with fail
        refine (HB1.out _).mono ?_
        rintro e w3 ⟨rfl, b2⟩
        have B2 := Lib.hid (B1.out.trans (b2.mono B1.out.size)); have F2 := Lib.hid ((b2.block _ (lt_of_block F1.out)).trans F1.out); have G2 := Lib.hid ((b2.block _ (lt_of_block G1.out)).trans G1.out); clear b2
        go_wp2_with fail
        refine (HB2.out _).mono ?_
        rintro e w4 ⟨rfl, b3⟩
        have B3 := Lib.hid (B2.out.trans (b3.mono B2.out.size)); have F3 := Lib.hid ((b3.block _ (lt_of_block F2.out)).trans F2.out); have G3 := Lib.hid ((b3.block _ (lt_of_block G2.out)).trans G2.out); clear b3
        clear f0 f1 f2
        obtain ⟨f0, f1, f2⟩ := bk3T F3.out
        obtain ⟨q0, q1⟩ := bk2F G3.out
        have qf := fun j => bk_frz G3.out j
        go_wp2_with fail
        refine (HX.out _ B3.out).mono ?_
        rintro e w8 ⟨rfl, b8⟩
        clear f0 f1 f2 q0 q1 qf
        have B8 := Lib.hid (B3.out.trans (b8.mono B3.out.size))
        have G8 := Lib.hid ((b8.block _ (lt_of_block G3.out)).trans G3.out)
        clear b8
        obtain ⟨q0, q1⟩ := bk2F G8.out
        have qf := fun j => bk_frz G8.out j
        go_wp2_with fail
        obtain ⟨r0, r1, gp⟩ := bk2_putF G8.out (.string R1) (.string R2)
        refine bodyPost_ret (by simp [results, Try.results43, go_sem, r0, r1]; try rfl) rfl ?_
        exact ⟨by first | rfl | simp, gr_from B8.out B8.out.size (Nat.le_succ _) gp⟩
      · by_cases c4 : 32 ≤ c ∧ c < 40
        · have HR := Lib.hid (show readR t need b = pairR b 3 by unfold readR; rw [HCC.out, if_neg c1, if_neg c2, if_neg c3, if_pos c4])
          rw [HR.out]
          have HX := Lib.hid (HPR.out)
          obtain ⟨⟨z, u, x⟩, hr⟩ : ∃ r, pairR b 3 = r := ⟨_, rfl⟩
          rw [hr] at HX ⊢
          unfold fdRV fdV at HX ⊢
          dsimp only at HX ⊢
          obtain ⟨R1, hR1⟩ : ∃ S, strOfNums z.name = S := ⟨_, rfl⟩
          obtain ⟨R2, hR2⟩ : ∃ S, strOfNums z.val = S := ⟨_, rfl⟩
          rw [hR1, hR2] at HX ⊢
          have HB0 := Lib.hid (show ∀ w, Calls Try.prog 67 #[.int .u8 c, .int .u8 192, .int .i64 6] w fun e w' => e = .returned (.bool false) ∧ Below w.heap.size w w' from fun w => by have := begins_any c 192 6 64 hc (by decide) w; rwa [show decide (((192) : Int) ≤ c ∧ c < 192 + 64) = false by simp; omega] at this)
          have HB1 := Lib.hid (show ∀ w, Calls Try.prog 67 #[.int .u8 c, .int .u8 128, .int .i64 6] w fun e w' => e = .returned (.bool false) ∧ Below w.heap.size w w' from fun w => by have := begins_any c 128 6 64 hc (by decide) w; rwa [show decide (((128) : Int) ≤ c ∧ c < 128 + 64) = false by simp; omega] at this)
          have HB2 := Lib.hid (show ∀ w, Calls Try.prog 67 #[.int .u8 c, .int .u8 64, .int .i64 4] w fun e w' => e = .returned (.bool false) ∧ Below w.heap.size w w' from fun w => by have := begins_any c 64 4 16 hc (by decide) w; rwa [show decide (((64) : Int) ≤ c ∧ c < 64 + 16) = false by simp; omega] at this)
          have HB3 := Lib.hid (show ∀ w, Calls Try.prog 67 #[.int .u8 c, .int .u8 32, .int .i64 3] w fun e w' => e = .returned (.bool true) ∧ Below w.heap.size w w' from fun w => by have := begins_any c 32 3 8 hc (by decide) w; rwa [show decide (((32) : Int) ≤ c ∧ c < 32 + 8) = true by simp; omega] at this)
          clear hr hR1 hR2 HR HK HRF HNM HPR HCC hc
          go_enter Try.func43, Try.ntmps43
          go_wp2_with fail
          refine (HB0.out _).mono ?_
          rintro e w2 ⟨rfl, b1⟩
          have B1 := Lib.hid (B0.out.trans (b1.mono B0.out.size)); have F1 := Lib.hid ((b1.block _ (lt_of_block F0.out)).trans F0.out); have G1 := Lib.hid ((b1.block _ (lt_of_block G0.out)).trans G0.out); clear b1
          go_wp2_with fail
          refine (HB1.out _).mono ?_
          rintro e w3 ⟨rfl, b2⟩
          have B2 := Lib.hid (B1.out.trans (b2.mono B1.out.size)); have F2 := Lib.hid ((b2.block _ (lt_of_block F1.out)).trans F1.out); have G2 := Lib.hid ((b2.block _ (lt_of_block G1.out)).trans G1.out); clear b2
          go_wp2_with fail
          refine (HB2.out _).mono ?_
          rintro e w4 ⟨rfl, b3⟩
          have B3 := Lib.hid (B2.out.trans (b3.mono B2.out.size)); have F3 := Lib.hid ((b3.block _ (lt_of_block F2.out)).trans F2.out); have G3 := Lib.hid ((b3.block _ (lt_of_block G2.out)).trans G2.out); clear b3
          go_wp2_with fail
          refine (HB3.out _).mono ?_
          rintro e w5 ⟨rfl, b4⟩
          have B4 := Lib.hid (B3.out.trans (b4.mono B3.out.size)); have F4 := Lib.hid ((b4.block _ (lt_of_block F3.out)).trans F3.out); have G4 := Lib.hid ((b4.block _ (lt_of_block G3.out)).trans G3.out); clear b4
          clear f0 f1 f2
          obtain ⟨f0, f1, f2⟩ := bk3T F4.out
          obtain ⟨q0, q1⟩ := bk2F G4.out
          have qf := fun j => bk_frz G4.out j
          go_wp2_with fail
          refine (HX.out _ B4.out).mono ?_
          rintro e w8 ⟨rfl, b8⟩
          clear f0 f1 f2 q0 q1 qf
          have B8 := Lib.hid (B4.out.trans (b8.mono B4.out.size))
          have G8 := Lib.hid ((b8.block _ (lt_of_block G4.out)).trans G4.out)
          clear b8
          obtain ⟨q0, q1⟩ := bk2F G8.out
          have qf := fun j => bk_frz G8.out j
          go_wp2_with fail
          obtain ⟨r0, r1, gp⟩ := bk2_putF G8.out (.string R1) (.string R2)
          refine bodyPost_ret (by simp [results, Try.results43, go_sem, r0, r1]; try rfl) rfl ?_
          exact ⟨by first | rfl | simp, gr_from B8.out B8.out.size (Nat.le_succ _) gp⟩
        · have HR := Lib.hid (show readR t need b = (fd0, 0, 2) by unfold readR; rw [HCC.out, if_neg c1, if_neg c2, if_neg c3, if_neg c4])
          rw [HR.out]
          unfold fdRV fdV
          have HB0 := Lib.hid (show ∀ w, Calls Try.prog 67 #[.int .u8 c, .int .u8 192, .int .i64 6] w fun e w' => e = .returned (.bool false) ∧ Below w.heap.size w w' from fun w => by have := begins_any c 192 6 64 hc (by decide) w; rwa [show decide (((192) : Int) ≤ c ∧ c < 192 + 64) = false by simp; omega] at this)
          have HB1 := Lib.hid (show ∀ w, Calls Try.prog 67 #[.int .u8 c, .int .u8 128, .int .i64 6] w fun e w' => e = .returned (.bool false) ∧ Below w.heap.size w w' from fun w => by have := begins_any c 128 6 64 hc (by decide) w; rwa [show decide (((128) : Int) ≤ c ∧ c < 128 + 64) = false by simp; omega] at this)
          have HB2 := Lib.hid (show ∀ w, Calls Try.prog 67 #[.int .u8 c, .int .u8 64, .int .i64 4] w fun e w' => e = .returned (.bool false) ∧ Below w.heap.size w w' from fun w => by have := begins_any c 64 4 16 hc (by decide) w; rwa [show decide (((64) : Int) ≤ c ∧ c < 64 + 16) = false by simp; omega] at this)
          have HB3 := Lib.hid (show ∀ w, Calls Try.prog 67 #[.int .u8 c, .int .u8 32, .int .i64 3] w fun e w' => e = .returned (.bool false) ∧ Below w.heap.size w w' from fun w => by have := begins_any c 32 3 8 hc (by decide) w; rwa [show decide (((32) : Int) ≤ c ∧ c < 32 + 8) = false by simp; omega] at this)
          clear HR HK HRF HNM HPR HCC hc
          go_enter Try.func43, Try.ntmps43
          go_wp2_with fail
          refine (HB0.out _).mono ?_
          rintro e w2 ⟨rfl, b1⟩
          have B1 := Lib.hid (B0.out.trans (b1.mono B0.out.size)); have F1 := Lib.hid ((b1.block _ (lt_of_block F0.out)).trans F0.out); have G1 := Lib.hid ((b1.block _ (lt_of_block G0.out)).trans G0.out); clear b1
          go_wp2_with fail
          refine (HB1.out _).mono ?_
          rintro e w3 ⟨rfl, b2⟩
          have B2 := Lib.hid (B1.out.trans (b2.mono B1.out.size)); have F2 := Lib.hid ((b2.block _ (lt_of_block F1.out)).trans F1.out); have G2 := Lib.hid ((b2.block _ (lt_of_block G1.out)).trans G1.out); clear b2
          go_wp2_with fail
          refine (HB2.out _).mono ?_
          rintro e w4 ⟨rfl, b3⟩
          have B3 := Lib.hid (B2.out.trans (b3.mono B2.out.size)); have F3 := Lib.hid ((b3.block _ (lt_of_block F2.out)).trans F2.out); have G3 := Lib.hid ((b3.block _ (lt_of_block G2.out)).trans G2.out); clear b3
          go_wp2_with fail
          refine (HB3.out _).mono ?_
          rintro e w5 ⟨rfl, b4⟩
          have B4 := Lib.hid (B3.out.trans (b4.mono B3.out.size)); have F4 := Lib.hid ((b4.block _ (lt_of_block F3.out)).trans F3.out); have G4 := Lib.hid ((b4.block _ (lt_of_block G3.out)).trans G3.out); clear b4
          clear f0 f1 f2
          obtain ⟨f0, f1, f2⟩ := bk3T F4.out
          obtain ⟨q0, q1⟩ := bk2F G4.out
          have qf := fun j => bk_frz G4.out j
          go_wp2_with fail
          obtain ⟨r0, r1, gp⟩ := bk2_putF G4.out (.string ⟨#[]⟩) (.string ⟨#[]⟩)
          refine bodyPost_ret (by simp [results, Try.results43, go_sem, r0, r1]; try rfl) rfl ?_
          exact ⟨by first | rfl | simp, gr_from B4.out B4.out.size (Nat.le_succ _) gp⟩
end Go.Proofs.Ytadhdghjlohpcaa
