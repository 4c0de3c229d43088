/- The walk of TableSame. -/
import Derived.Test.YtajjelcjgcgfdaaTableStaysW
import Derived.Test.YtajjelcjgcgfdaaTabP6
import Derived.Test.YtajjelcjgcgfdaaTabSameK
import Derived.Test.YtajjelcjgcgfdaaExt
namespace Go.Proofs.Ytajjelcjgcgfdaa
set_option linter.unusedVariables false
open Go.RowKit P

theorem young_young {a b : Int} (h : a ≤ b) (l : List Fld) : young b (young a l) = young a l := by
  by_cases h0 : 0 ≤ a
  · exact young_fits (by have := young_wt h0 l; omega)
  · induction l with
    | nil => rfl
    | cons x l ih =>
      rw [young_step (by omega)]
      exact ih
theorem resT_yes {t : Tb} {n : Int} (h : faultTb t = 0) (hn : 0 ≤ n ∧ n ≤ 160) : resT t n = (⟨n, t.put, young n t.rows⟩, 0) := by
  unfold resT
  rw [if_neg (fun k => k h), if_neg (fun k => k hn)]
set_option maxRecDepth 100000 in
set_option maxHeartbeats 8000000 in
theorem tableSame_walk (a0 : Int) (a1 : Option Addr) (n c : Nat) (rs : List RawT) (a2 : Int) (W : World) (hrow : RawRow W W.heap.size a1 rs) (hn : rs.length = n) (hnc : n ≤ c) (hc : c ≤ maxLen) (hbt : ∀ i, i < n → (rs.getD i raw0).text.size ≤ maxLen) :
    Calls Try.prog 9 #[.int .i64 a0, .slice a1 n c, .int .i64 a2] W fun e w' => e = .returned (.bool true) ∧ Below W.heap.size W w' := by
  have HTO := Lib.hid (tableOf_any tinsN_any tsize_any a0 a1 n c rs W hrow hn hnc hc hbt)
  have HTT := Lib.hid (fun w => tableTells_core tins_any tget_any w)
  obtain ⟨room, hroom⟩ : ∃ room, 40 + a0 % 121 = room := ⟨_, rfl⟩
  have hrb : 0 ≤ room ∧ room ≤ 160 := by omega
  rw [hroom] at HTO
  clear hrow hbt hc hroom hn
  go_enter Try.func9, Try.ntmps9
  go_wp2_with fail
  refine HTO.out.mono ?_
  rintro e w1 ⟨all, At, Aa, ct, ca, hall, rfl, h1, h2, h3, h4, r1, r2, b1⟩
  obtain ⟨f1, f2, f3, f4, f5, f6⟩ := tabOf_facts hrb hall
  have hok := (faultTb_iff _).2 (tabF_ok hrb (all := all) (by omega) (fun x hx => (f2 x hx).1))
  -- the three tables
  obtain ⟨k, hk⟩ : ∃ k, a2 % (room + 1) = k := ⟨_, rfl⟩
  have hkb : 0 ≤ k ∧ k ≤ room := by
    have := Int.emod_lt_of_pos a2 (show (0 : Int) < room + 1 by omega)
    have := Int.emod_nonneg a2 (show room + 1 ≠ 0 by omega)
    omega
  have HPK := Lib.hid (fun w => hk ▸ picked_any a2 (room + 1) (by omega) (by omega) w)
  obtain ⟨X, hX⟩ : ∃ X, young room all = X := ⟨_, rfl⟩
  have hXX : young room X = X := by rw [← hX]; exact young_young (Int.le_refl _) _
  obtain ⟨Y, hY⟩ : ∃ Y, young k X = Y := ⟨_, rfl⟩
  have hYY : young 160 Y = Y := by rw [← hY]; exact young_young (by omega) _
  obtain ⟨p, hp⟩ : ∃ p : Int, (all.length : Int) = p := ⟨_, rfl⟩
  have hpb : 0 ≤ p ∧ p ≤ 12 := by omega
  have hT1 : tabF room all = ⟨room, p, X⟩ := by unfold tabF; rw [hX, hp]
  rw [hT1] at hok f3
  have e1 := resT_yes hok hrb
  have e2 := resT_yes hok (n := k) (by omega)
  simp only at e1 e2
  rw [hXX] at e1
  rw [hY] at e2
  have hokY := resT_ok (t := ⟨room, p, X⟩) (n := k) (by rw [e2])
  rw [e2] at hokY
  have hokY' := (faultTb_iff _).2 hokY
  have e3 := resT_yes hokY' (n := 160) (by decide)
  simp only at e3
  rw [hYY] at e3
  have hok3 := resT_ok (t := ⟨k, p, Y⟩) (n := 160) (by rw [e3])
  rw [e3] at hok3
  have hok3' := (faultTb_iff _).2 hok3
  obtain ⟨d, hd1, hd2⟩ := young_suffix k X
  rw [hY] at hd2
  have hwfX : TbWf ⟨room, p, X⟩ := f3
  have hwfY : TbWf ⟨k, p, Y⟩ := ⟨by simp only; omega, by simp only; omega, by simp only; rw [hd2, List.length_drop]; have := hwfX.len; simp only at this; omega, fun x hx => hwfX.rows x (by simp only at hx ⊢; rw [hd2] at hx; exact List.mem_of_mem_drop hx)⟩
  have hwfZ : TbWf ⟨160, p, Y⟩ := ⟨by simp only; omega, hwfY.put, hwfY.len, hwfY.rows⟩
  have hlX := hwfX.len
  have hlY := hwfY.len
  simp only at hlX hlY
  rw [hX] at r1 h1 f4 ⊢
  rw [hp]
  obtain ⟨M, hM⟩ : ∃ M, X.length = M := ⟨_, rfl⟩
  obtain ⟨N, hN⟩ : ∃ N, Y.length = N := ⟨_, rfl⟩
  have hNd : N = M - d := by rw [← hN, hd2, List.length_drop, hM]
  have HXM := Lib.hid hM
  have HYN := Lib.hid hN
  rw [hM] at hlX hd1 h1 f4 ⊢
  rw [hN] at hlY
  have HD := Lib.hid hd2
  have RX := Lib.hid r1
  have W1 := Lib.hid hwfX
  have W2 := Lib.hid hwfY
  have W3 := Lib.hid hwfZ
  have hct : ct ≤ maxLen := h2
  have HV1 := Lib.hid (fun w (hr : RowE FdE w w.heap.size At X) => (⟨.slice At M ct, rfl, At, ct, by rw [← hM], by rw [hM]; exact h1, hct, hr⟩ : TbVal w w.heap.size (.agg #[.int .i64 room, .int .i64 p, .slice At M ct]) ⟨room, p, X⟩))
  have HR1 := Lib.hid (fun w (hb : Below w1.heap.size w1 w) => show Calls Try.prog 16 #[.agg #[.int .i64 room, .int .i64 p, .slice At M ct], .int .i64 room] w (fun e w' => Below w.heap.size w w' ∧ ∃ A c, e = .returned (.tuple #[.agg #[.int .i64 room, .int .i64 p, .slice A M c], .int .i64 0]) ∧ M ≤ c ∧ c ≤ maxLen ∧ RowE FdE w' w'.heap.size A X) from
    (tresN_any _ _ room w (HV1.out w (RX.out.on hb)) W1.out).mono fun e w' h => by
      rw [e1] at h
      obtain ⟨b, A, c, he, l1, l2, l3⟩ := h
      simp only [hM] at he l1
      exact ⟨b, A, c, he, l1, l2, l3.row⟩)
  have HR2 := Lib.hid (fun w (hb : Below w1.heap.size w1 w) => show Calls Try.prog 16 #[.agg #[.int .i64 room, .int .i64 p, .slice At M ct], .int .i64 k] w (fun e w' => Below w.heap.size w w' ∧ ∃ A c, e = .returned (.tuple #[.agg #[.int .i64 k, .int .i64 p, .slice A N c], .int .i64 0]) ∧ N ≤ c ∧ c ≤ maxLen ∧ RowE FdE w' w'.heap.size A Y) from
    (tresN_any _ _ k w (HV1.out w (RX.out.on hb)) W1.out).mono fun e w' h => by
      rw [e2] at h
      obtain ⟨b, A, c, he, l1, l2, l3⟩ := h
      simp only [hN] at he l1
      exact ⟨b, A, c, he, l1, l2, l3.row⟩)
  have HR3 := Lib.hid (fun w A c (l1 : N ≤ c) (l2 : c ≤ maxLen) (hr : RowE FdE w w.heap.size A Y) => show Calls Try.prog 16 #[.agg #[.int .i64 k, .int .i64 p, .slice A N c], .int .i64 160] w (fun e w' => Below w.heap.size w w' ∧ ∃ A c, e = .returned (.tuple #[.agg #[.int .i64 160, .int .i64 p, .slice A N c], .int .i64 0]) ∧ N ≤ c ∧ c ≤ maxLen ∧ RowE FdE w' w'.heap.size A Y) from
    (tresN_any _ ⟨k, p, Y⟩ 160 w ⟨.slice A N c, rfl, A, c, by rw [← hN], by rw [hN]; exact l1, l2, hr⟩ W2.out).mono fun e w' h => by
      rw [e3] at h
      obtain ⟨b, A, c, he, l1, l2, l3⟩ := h
      simp only [hN] at he l1
      exact ⟨b, A, c, he, l1, l2, l3.row⟩)
  have HC3 := Lib.hid (fun w A c (l1 : N ≤ c) (l2 : c ≤ maxLen) (hr : RowE FdE w w.heap.size A Y) => show Calls Try.prog 10 #[.agg #[.int .i64 160, .int .i64 p, .slice A N c]] w (fun e w' => e = .returned (.int .i64 0) ∧ Below w.heap.size w w') from
    hok3' ▸ tchk_any (.agg #[.int .i64 160, .int .i64 p, .slice A N c]) ⟨160, p, Y⟩ w ⟨.slice A N c, rfl, A, c, by rw [← hN], by rw [hN]; exact l1, l2, hr⟩ W3.out)
  have HSX := Lib.hid (fun w A A' c c' (ha : RowE FdE w w.heap.size A X) (hb : RowE FdE w w.heap.size A' X) => ksameFd_eq A A' M c c' X w ha hb hM hlX)
  have HSY := Lib.hid (fun w A A' c c' (ha : RowE FdE w w.heap.size A Y) (hb : RowE FdE w w.heap.size A' Y) => ksameFd_eq A A' N c c' Y w ha hb hN hlY)
  have X1 := Lib.hid ((Below.refl w1.heap.size w1).alloc (Nat.le_refl _) (.cells #[.int .i64 room, .int .i64 p, .slice At M ct] 24))
  have F1 := Lib.hid (heap_alloc_new w1 (.cells #[.int .i64 room, .int .i64 p, .slice At M ct] 24))
  have B1 := Lib.hid (b1.trans (X1.out.mono b1.size))
  have HNd := Lib.hid hNd
  clear hall r1 r2 b1 f2 f3 f5 f6 hok hX hY hT1 e1 e2 e3 hokY hokY' hok3 hok3' hd2 hwfX hwfY hwfZ hM hN hk HV1 hp hXX hYY h3 h4 h2 W1 W2 W3 hNd
  obtain ⟨q0, q1, q2⟩ := bk3T F1.out
  go_wp2_with fail
  refine (HR1.out _ X1.out).mono ?_
  rintro e w2 ⟨b2, A2, c2, rfl, l2, m2, R2⟩
  have X2 := Lib.hid ((Below.refl w2.heap.size w2).alloc (Nat.le_refl _) (.cells #[.int .i64 room, .int .i64 p, .slice A2 M c2] 24))
  have G2 := Lib.hid (heap_alloc_new w2 (.cells #[.int .i64 room, .int .i64 p, .slice A2 M c2] 24))
  have b3 := b2.trans (X2.out.mono b2.size)
  have B2 := Lib.hid (B1.out.trans (b3.mono B1.out.size))
  have Y2 := Lib.hid (X1.out.trans (b3.mono X1.out.size))
  have F2 := Lib.hid ((b3.block _ (lt_of_block F1.out)).trans F1.out)
  have RU := Lib.hid (R2.on X2.out)
  clear b2 b3 R2 q0 q1 q2
  obtain ⟨q0, q1, q2⟩ := bk3T F2.out
  go_wp2_with (go_at_call 23; refine (HPK.out _).mono ?_; rintro e w' ⟨rfl, rfl⟩)
  refine (HR2.out _ Y2.out).mono ?_
  rintro e w3 ⟨b2, A3, c3, rfl, l3, m3, R3⟩
  have X3 := Lib.hid ((Below.refl w3.heap.size w3).alloc (Nat.le_refl _) (.cells #[.int .i64 k, .int .i64 p, .slice A3 N c3] 24))
  have H3 := Lib.hid (heap_alloc_new w3 (.cells #[.int .i64 k, .int .i64 p, .slice A3 N c3] 24))
  have b3 := b2.trans (X3.out.mono b2.size)
  have B3 := Lib.hid (B2.out.trans (b3.mono B2.out.size))
  have Y3 := Lib.hid (Y2.out.trans (b3.mono Y2.out.size))
  have F3 := Lib.hid ((b3.block _ (lt_of_block F2.out)).trans F2.out)
  have G3 := Lib.hid ((b3.block _ (lt_of_block G2.out)).trans G2.out)
  have RU3 := Lib.hid (RU.out.on b3)
  have RV := Lib.hid (R3.on X3.out)
  clear b2 b3 R3 q0 q1 q2
  obtain ⟨v0, v1, v2⟩ := bk3T H3.out
  go_wp2_with fail
  refine (HR3.out _ _ _ l3 m3 RV.out).mono ?_
  rintro e w4 ⟨b2, A4, c4, rfl, l4, m4, R4⟩
  have X4 := Lib.hid ((Below.refl w4.heap.size w4).alloc (Nat.le_refl _) (.cells #[.int .i64 160, .int .i64 p, .slice A4 N c4] 24))
  have I4 := Lib.hid (heap_alloc_new w4 (.cells #[.int .i64 160, .int .i64 p, .slice A4 N c4] 24))
  have b3 := b2.trans (X4.out.mono b2.size)
  have B4 := Lib.hid (B3.out.trans (b3.mono B3.out.size))
  have Y4 := Lib.hid (Y3.out.trans (b3.mono Y3.out.size))
  have F4 := Lib.hid ((b3.block _ (lt_of_block F3.out)).trans F3.out)
  have G4 := Lib.hid ((b3.block _ (lt_of_block G3.out)).trans G3.out)
  have H4 := Lib.hid ((b3.block _ (lt_of_block H3.out)).trans H3.out)
  have RU4 := Lib.hid (RU3.out.on b3)
  have RV4 := Lib.hid (RV.out.on b3)
  have RW4 := Lib.hid (R4.on X4.out)
  have RX4 := Lib.hid (RX.out.on Y4.out)
  clear b2 b3 R4 v0 v1 v2
  obtain ⟨q0, q1, q2⟩ := bk3T F4.out
  obtain ⟨v0, v1, v2⟩ := bk3T H4.out
  have RX4 := Lib.hid (RX.out.on Y4.out)
  obtain ⟨D, hD⟩ : ∃ D, M - N = D := ⟨_, rfl⟩
  have hND := HNd.out
  have hMN : (M : Int) - (N : Int) = (D : Int) := by omega
  have hDM : (D : Int) ≤ (M : Int) := by omega
  have hD0 : (0 : Int) ≤ (D : Int) := by omega
  have hMD : M - D = N := by omega
  have hDc : D ≤ ct := by omega
  have HDY := Lib.hid (show Y = X.drop D by
    rw [HD.out]
    by_cases hdm : d ≤ M
    · congr 1; omega
    · rw [List.drop_eq_nil_of_le (by rw [HXM.out]; omega), List.drop_eq_nil_of_le (by rw [HXM.out]; omega)])
  obtain ⟨SA, hSA⟩ : ∃ SA, (if ct = D then At else Option.map (fun x : Addr => x.add (D * 2)) At) = SA := ⟨_, rfl⟩
  have RS4 := Lib.hid (show RowE FdE (w4.alloc (.cells #[.int .i64 160, .int .i64 p, .slice A4 N c4] 24)) (w4.alloc (.cells #[.int .i64 160, .int .i64 p, .slice A4 N c4] 24)).heap.size SA Y by rw [HDY.out, ← hSA]; exact RowE.cut RX4.out D ct (by rw [HXM.out]; omega))
  clear hD hND
  go_upto_region 7 with fail
  obtain ⟨u0, u1, u2⟩ := bk3T G4.out
  obtain ⟨x0, x1, x2⟩ := bk3T I4.out
  obtain ⟨w5, hw5⟩ : ∃ x, w4.alloc (.cells #[.int .i64 160, .int .i64 p, .slice A4 N c4] 24) = x := ⟨_, rfl⟩
  rw [hw5] at q0 q1 q2 v0 v1 v2 u0 u1 u2 x0 x1 x2 RX4 RS4 RU4 RV4 RW4 B4 ⊢
  clear hw5
  have HS1 := Lib.hid (fun w' (hb : Below w5.heap.size w5 w') => HSX.out w' At A2 ct c2 (RX4.out.on hb) (RU4.out.on hb))
  have HS2 := Lib.hid (fun w' (hb : Below w5.heap.size w5 w') => HSY.out w' A3 SA c3 (ct - D) (RV4.out.on hb) (RS4.out.on hb))
  have HS3 := Lib.hid (fun w' (hb : Below w5.heap.size w5 w') => HSY.out w' A3 A4 c3 c4 (RV4.out.on hb) (RW4.out.on hb))
  have HCC := Lib.hid (fun w' (hb : Below w5.heap.size w5 w') => HC3.out w' A4 c4 l4 m4 (RW4.out.on hb))
  have z0 := Ext.cell q0
  have z1 := Ext.cell q1
  have z2 := Ext.cell q2
  have z3 := Ext.cell v0
  have z4 := Ext.cell v1
  have z5 := Ext.cell v2
  have z6 := Ext.cell u0
  have z7 := Ext.cell u1
  have z8 := Ext.cell u2
  have z9 := Ext.cell x0
  have za := Ext.cell x1
  have zb := Ext.cell x2
  clear q0 q1 q2 v0 v1 v2 u0 u1 u2 x0 x1 x2 F1 F2 F3 F4 G2 G3 G4 H3 H4 I4 X1 X2 X3 X4 Y2 Y3 Y4 B1 B2 B3 RX RU RU3 RV HR1 HR2 HR3
  dsimp only [List.append]
  refine wp_region_ext (by kernel_rfl) (by kernel_rfl) ?_
  repeat (go_big_quiet_step (first
    | (go_at_call 24; with_reducible exact Ext.call (HTT.out _))
    | (go_at_call 26; with_reducible exact Ext.call (HS1.out _ (Ext.h _)))
    | (go_at_call 26; with_reducible exact Ext.call (HS2.out _ (Ext.h _)))
    | (go_at_call 26; with_reducible exact Ext.call (HS3.out _ (Ext.h _)))
    | (go_at_call 10; with_reducible exact Ext.call (HCC.out _ (Ext.h _)))))
  refine wpQuiet_nil ?_
  intro w6 hb6
  have B6 := Lib.hid (B4.out.trans (hb6.mono B4.out.size))
  clear z0 z1 z2 z3 z4 z5 z6 z7 z8 z9 za zb hb6
  go_wp2_with fail
  go_ret
  exact ⟨by first | rfl | simp, B6.out⟩
end Go.Proofs.Ytajjelcjgcgfdaa
