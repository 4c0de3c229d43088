/- The walk of SpaceLate. -/
import Derived.Test.YtnccibaifffhhaaSpLtM
import Derived.Test.YtnccibaifffhhaaSpTells
import Derived.Test.YtnccibaifffhhaaSpAcked
import Derived.Test.YtnccibaifffhhaaGrpC
import Derived.Deep.LoopGhost
namespace Go.Proofs.Ytnccibaifffhhaa
set_option linter.unusedVariables false
open Go.RowKit P

theorem sK_len (k : Nat) : (sK k).sent.length = k := by simp [sK]
theorem sK_wf {k : Nat} (h : k < 23) : SpWf (sK k) := ⟨by unfold i64N sK; dsimp only; omega, by unfold i64N sK; dsimp only; omega, by rw [sK_len]; omega, by simp [sK], by simp [sK], (fun p hp => by
  simp only [sK, List.mem_map, List.mem_range] at hp
  obtain ⟨i, hi, rfl⟩ := hp
  exact ⟨⟨by unfold i64N; dsimp only; omega, by unfold i64N; dsimp only; omega, by unfold i64N; dsimp only; omega⟩, frs0_wf⟩), (fun n hn => by cases hn)⟩
theorem sK_begin (lo : Nat) (w : World) : SpU lo w (.agg #[.int .i64 0, .slice none 0 0, .int .i64 (-1), .slice none 0 0, .slice none 0 0]) (sK 0) := fun _ _ => ⟨_, _, _, rfl, PlSl.nil _ _, RSl.nil _ _, ISl.nil _ _⟩
theorem sK_parts {lo : Nat} {w : World} {u : Value} {k : Nat} (h : SpU lo w u (sK k)) : ∃ (Aa Ah Ak : Option Addr) (ca ch ck : Nat), u = .agg #[.int .i64 (k : Int), .slice Aa k ca, .int .i64 (-1), .slice Ah 0 ch, .slice Ak 0 ck] := by
  obtain ⟨Aa, Ah, Ak, ca, ch, ck, e, _⟩ := h.parts
  rw [sK_len] at e
  exact ⟨Aa, Ah, Ak, ca, ch, ck, e⟩
theorem one_num {l : List Pcl} {n : Int} (h : nums l = [n]) : ∃ p, l = [p] ∧ p.num = n := by
  cases l with
  | nil => cases h
  | cons p l =>
    cases l with
    | nil => exact ⟨p, rfl, by simpa [nums] using h⟩
    | cons q l => simp [nums] at h
theorem pl_first {w : World} {B : Nat} {v : Value} {ps : List Pcl} (h : PlSl w B v ps) (hn : 0 < ps.length) : ∃ b off c, v = .slice (some ⟨b, off, none⟩) ps.length c ∧ b < B ∧ ps.length ≤ c ∧ c ≤ maxLen ∧ w.cell? ⟨b, off, none⟩ = some (.int .i64 ((nums ps).getD 0 0)) := by
  obtain ⟨A, c, css, rfl, h1, h2, h3, h4⟩ := h.ex
  obtain ⟨b, off, v, rfl, hb, _, c0, _⟩ := pc_cells h3 h4 0 hn
  refine ⟨b, off, c, rfl, hb, h1, h2, ?_⟩
  rw [show (nums ps).getD 0 0 = (ps[0]).num by
    cases ps with
    | nil => cases hn
    | cons p l => rfl]
  simpa using c0
set_option maxRecDepth 100000 in
set_option maxHeartbeats 4000000 in
theorem spaceLate_walk (a0 a1 : Int) (w : World) :
    Calls Try.prog 5 #[.int .i64 a0, .int .i64 a1] w fun e w' => e = .returned (.bool true) ∧ Below w.heap.size w w' := by
  obtain ⟨KI, hKI⟩ : ∃ x, a0 % 20 = x := ⟨_, rfl⟩
  have HPK := Lib.hid (fun w => hKI ▸ picked_any a0 20 (by omega) (by omega) w)
  obtain ⟨K, hK⟩ : ∃ K : Nat, 2 + KI = (K : Int) := ⟨(2 + KI).toNat, by omega⟩
  have k2 : 2 ≤ K := by omega
  have k22 : K < 22 := by omega
  have hwK : IntKind.i64.wrap (2 + KI) = (K : Int) := by rw [IntKind.wrap_i64]; omega
  obtain ⟨X1, hX1⟩ : ∃ x, a1 % (K : Int) = x := ⟨_, rfl⟩
  have hx0 : 0 ≤ X1 := by rw [← hX1]; exact Int.emod_nonneg _ (by omega)
  have hx1 : X1 < K := by rw [← hX1]; exact Int.emod_lt_of_pos _ (by omega)
  have HPW := Lib.hid (fun w => hX1 ▸ picked_any a1 (K : Int) (by omega) (by omega) w)
  obtain ⟨W, hW⟩ : ∃ W : Nat, X1 = (W : Int) := ⟨X1.toNat, by omega⟩
  subst hW
  have hWK : W < K := by omega
  clear hKI hK hX1 hx0 hx1
  obtain ⟨⟨r1, o1, o2, e1⟩, hr1⟩ : ∃ r, ackSp (sK K) [((W : Int), (W : Int))] = r := ⟨_, rfl⟩
  have HA := ack_K K k22 W hWK
  rw [hr1] at HA
  obtain ⟨ha0, ha1, ha2, ha3, ha4, ha5⟩ := HA
  dsimp only at ha0 ha1 ha2 ha3 ha4 ha5
  subst ha0
  obtain ⟨p1, rfl, hp1⟩ := one_num ha1
  have HACK := Lib.hid (fun (v vl : Value) (w : World) (h : SpVal w w.heap.size v (sK K)) (hl : RSl w w.heap.size vl [((W : Int), (W : Int))]) => hr1 ▸ spAck_any v vl (sK K) [((W : Int), (W : Int))] w h (sK_wf (by omega)) hl (by simp))
  have HA2 := Lib.hid ha2
  have HA3 := Lib.hid ha3
  have HA4 := Lib.hid ha4
  have HA5 := Lib.hid ha5
  have HP1 := Lib.hid hp1
  clear hr1 ha1 ha2 ha3 ha4 ha5 hp1
  go_enter Try.func5, Try.ntmps5
  go_wp2_with fail
  refine (spBegin_any _).mono ?_
  rintro e w1 ⟨rfl, b1⟩
  have B1 := Lib.hid (b1.alloc b1.size (.cells #[.int .i64 0, .slice none 0 0, .int .i64 (-1), .slice none 0 0, .slice none 0 0] 48))
  have F1 := Lib.hid (heap_alloc_new w1 (.cells #[.int .i64 0, .slice none 0 0, .int .i64 (-1), .slice none 0 0, .slice none 0 0] 48))
  have hVw : w.heap.size ≤ w1.heap.size := b1.size
  clear b1
  go_upto_region 2 with fail
  obtain ⟨V, hV⟩ : ∃ V, w1.heap.size = V := ⟨_, rfl⟩
  obtain ⟨W1, hW1⟩ : ∃ W, w1.alloc (.cells #[.int .i64 0, .slice none 0 0, .int .i64 (-1), .slice none 0 0, .slice none 0 0] 48) = W := ⟨_, rfl⟩
  rw [hV] at hVw F1
  rw [hW1] at B1 F1 ⊢
  try rw [hV]
  clear hW1 hV
  have U1 := Lib.hid (sK_begin (V + 1) W1)
  go_wp2_with fail
  refine (HPK.out _).mono ?_
  rintro e w' ⟨rfl, rfl⟩
  go_wp2_with fail
  go_loopg [21] K (fun gq iv wr => ∃ (i : Nat) (Aa Ah Ak : Option Addr) (ca ch ck : Nat), iv = .int .i64 (i : Int) ∧ i + gq = K ∧ Hid (Below w.heap.size w wr) ∧ Hid (wr.heap[V]? = some (.cells #[.int .i64 ((i : Int)), .slice Aa (i) ca, .int .i64 (-1), .slice Ah 0 ch, .slice Ak 0 ck] 48 (0, 0))) ∧ Hid (SpU (V + 1) wr (.agg #[.int .i64 ((i : Int)), .slice Aa (i) ca, .int .i64 (-1), .slice Ah 0 ch, .slice Ak 0 ck]) (sK i)))
  case atStart => exact ⟨0, none, none, none, 0, 0, 0, rfl, by omega, B1, F1, U1⟩
  case round =>
    obtain ⟨i, Aa, Ah, Ak, ca, ch, ck, rfl, hkg, BX, FX, UX⟩ := hrel
    clear B1 F1 U1
    obtain ⟨X, hX⟩ : ∃ X, X = wr := ⟨_, rfl⟩
    subst hX
    have hVX : V < X.heap.size := lt_of_block FX.out
    obtain ⟨q0, q1, q2, q3, q4⟩ := sp5 FX.out
    by_cases hk : i < K
    · have hkL : (i : Int) < (K : Int) := by omega
      have HSN := Lib.hid (fun (v : Value) (w : World) (h : SpVal w w.heap.size v (sK i)) => send_K i (by omega) ▸ spSend_any v (.slice none 0 0) (sK i) (i : Int) 10 [] w h (sK_wf (by omega)) (FsSl.nil _ _) frs0_wf)
      obtain ⟨j, hj⟩ : ∃ j, i + 1 = j := ⟨_, rfl⟩
      rw [hj] at HSN
      have HJ := Lib.hid hj
      clear hj
      go_wp2_with fail
      refine (HSN.out _ _ UX.out.now).mono ?_
      rintro e w2 ⟨b2, u2, rfl, hu2⟩
      dsimp only at hu2 ⊢
      obtain ⟨Aa2, Ah2, Ak2, ca2, ch2, ck2, rfl⟩ := sK_parts hu2
      have C2 := (Below.refl w2.heap.size w2).alloc (Nat.le_refl _) (.cells #[.int .i64 ((j : Int)), .slice Aa2 (j) ca2, .int .i64 (-1), .slice Ah2 0 ch2, .slice Ak2 0 ck2] 48)
      have G2 := Lib.hid (heap_alloc_new w2 (.cells #[.int .i64 ((j : Int)), .slice Aa2 (j) ca2, .int .i64 (-1), .slice Ah2 0 ch2, .slice Ak2 0 ck2] 48))
      have D2 := b2.trans (C2.mono b2.size)
      have B2 := Lib.hid (BX.out.trans (D2.mono BX.out.size))
      have F2 := Lib.hid ((D2.block _ hVX).trans FX.out)
      have U2 := Lib.hid ((hu2.low (lo' := V + 1) hVX).on (KpS.below C2))
      have hV2 : V < w2.heap.size := Nat.lt_of_lt_of_le hVX b2.size
      clear b2 hu2 C2 D2 q0 q1 q2 q3 q4
      go_upto_region 7 with fail
      obtain ⟨V2, hV2'⟩ : ∃ V, w2.heap.size = V := ⟨_, rfl⟩
      obtain ⟨W2, hW2⟩ : ∃ W, w2.alloc (.cells #[.int .i64 ((j : Int)), .slice Aa2 (j) ca2, .int .i64 (-1), .slice Ah2 0 ch2, .slice Ak2 0 ck2] 48) = W := ⟨_, rfl⟩
      rw [hV2'] at hV2 G2
      rw [hW2] at G2 B2 F2 U2 ⊢
      try rw [hV2']
      clear hW2 hV2'
      obtain ⟨q0, q1, q2, q3, q4⟩ := sp5 G2.out
      obtain ⟨y0, y1, y2, y3, y4⟩ := sp5 F2.out
      have yf := fun i => bk_frz F2.out i
      obtain ⟨RY, gp⟩ := sp5_put F2.out (.int .i64 (j : Int)) (.slice Aa2 j ca2) (.int .i64 (-1)) (.slice Ah2 0 ch2) (.slice Ak2 0 ck2)
      have F4 := Lib.hid RY
      have B4 := Lib.hid (gr_from B2.out B2.out.size hVw gp)
      have U4 := Lib.hid (U2.out.on (KpS.gr gp (Nat.lt_succ_self V)))
      clear RY gp
      go_wp2_with fail
      go_roundg (gk - 1)
      case measure => omega
      case rel => exact ⟨j, Aa2, Ah2, Ak2, ca2, ch2, ck2, by have h := HJ.out; subst h; first | rfl | go_num, by have h := HJ.out; omega, B4, F4, U4⟩
    · have hkN : i = K := by omega
      subst hkN
      go_wp2_with fail
      refine (HPW.out _).mono ?_
      rintro e w' ⟨rfl, rfl⟩
      have BO := (Below.refl X.heap.size X).alloc (Nat.le_refl _) (.cells #[.int .i64 (W : Int), .int .i64 (W : Int)] 63)
      have RO := Lib.hid (rsl_ownT (own_oneR (w := X) (base := 0) (W : Int) (W : Int) (Nat.zero_le _)))
      have UO := Lib.hid (UX.out.on (KpS.below BO))
      go_wp2_with fail
      refine (HACK.out _ _ _ UO.out.now RO.out).mono ?_
      rintro e w2 ⟨b2, u2, l2, m2, rfl, hu2, hl2, hm2⟩
      dsimp only at hu2 hl2 hm2 ⊢
      obtain ⟨Aa2, Ah2, Ak2, ca2, ch2, ck2, rfl, S2⟩ := hu2.parts
      obtain ⟨bh, oh, chh, rfl, hbh, hhc, hhm, xh⟩ := pl_first hl2.now (by simp)
      obtain ⟨Al, cl, cssl, rfl, _, _, _, _⟩ := hm2.now.ex
      have C2 := (Below.refl w2.heap.size w2).alloc (Nat.le_refl _) (.cells #[.int .i64 r1.next, .slice Aa2 r1.sent.length ca2, .int .i64 r1.top, .slice Ah2 r1.heard.length ch2, .slice Ak2 r1.skip.length ck2] 48)
      have G2 := Lib.hid (heap_alloc_new w2 (.cells #[.int .i64 r1.next, .slice Aa2 r1.sent.length ca2, .int .i64 r1.top, .slice Ah2 r1.heard.length ch2, .slice Ak2 r1.skip.length ck2] 48))
      have D2 := b2.trans (C2.mono b2.size)
      have B2 := Lib.hid ((BX.out.trans (BO.mono BX.out.size)).trans (D2.mono (Nat.le_trans BX.out.size BO.size)))
      have U2 := Lib.hid (StS.now (hu2.on (KpS.below C2)))
      have x1 := (C2.cell (p := ⟨bh, oh, none⟩) hbh).trans xh
      obtain ⟨V2, hV2'⟩ : ∃ V, w2.heap.size = V := ⟨_, rfl⟩
      obtain ⟨W2, hW2⟩ : ∃ W, w2.alloc (.cells #[.int .i64 r1.next, .slice Aa2 r1.sent.length ca2, .int .i64 r1.top, .slice Ah2 r1.heard.length ch2, .slice Ak2 r1.skip.length ck2] 48) = W := ⟨_, rfl⟩
      obtain ⟨nS, hnS⟩ : ∃ n, r1.sent.length = n := ⟨_, rfl⟩
      obtain ⟨nL, hnL⟩ : ∃ n, o2.length = n := ⟨_, rfl⟩
      have HS := Lib.hid (show nS = i - 1 - (W - 2) by rw [← hnS]; exact HA3.out)
      have HL := Lib.hid (show nL = W - 2 by rw [← hnL]; exact HA2.out)
      have HT := Lib.hid HA4.out
      have hft : 0 < nS → ∃ b off c, (Value.slice Aa2 nS ca2) = .slice (some ⟨b, off, none⟩) nS c ∧ W2.cell? ⟨b, off, none⟩ = some (.int .i64 ((nums r1.sent).getD 0 0)) ∧ (W : Int) - 3 < (nums r1.sent).getD 0 0 := by
        intro h0
        rw [← hnS] at h0
        have hs := S2.a.on (KpS.below C2)
        obtain ⟨b, off, c, e, _, _, _, x⟩ := pl_first hs.now h0
        rw [← hW2, ← hnS]
        exact ⟨b, off, c, e, x, HA5.out h0⟩
      obtain ⟨f0, hf0⟩ : ∃ x, (nums r1.sent).getD 0 0 = x := ⟨_, rfl⟩
      rw [hf0] at hft
      rw [hnS, HT.out] at hW2 G2 B2 x1
      rw [hV2'] at G2
      rw [hW2] at G2 B2 x1
      have hz : W2 = W2 := rfl
      clear b2 hu2 hl2 hm2 C2 D2 S2 xh q0 q1 q2 q3 q4 U2 hz hf0
      rw [hnS, hnL, HT.out]
      go_upto_region 13 with fail
      try rw [hW2]
      try rw [hV2']
      clear hW2 hV2' hnS hnL
      simp only [nums, List.map_cons, List.getD_cons_zero, HP1.out] at x1
      have hSv := HS.out
      have hLv := HL.out
      have HFT := Lib.hid hft
      have hw2 : IntKind.i64.wrap ((W : Int) - 2) = (W : Int) - 2 := by rw [IntKind.wrap_i64]; omega
      have hw3 : IntKind.i64.wrap ((W : Int) - 3) = (W : Int) - 3 := by rw [IntKind.wrap_i64]; omega
      have hwi : IntKind.i64.wrap ((i : Int) - 1) = (i : Int) - 1 := by rw [IntKind.wrap_i64]; omega
      have hwn : IntKind.i64.wrap ((i : Int) - 1 - (nL : Int)) = (i : Int) - 1 - (nL : Int) := by rw [IntKind.wrap_i64]; omega
      have hm1 : (if (0 : Int) < (W : Int) - 2 then (W : Int) - 2 else 0) = (nL : Int) := by split <;> omega
      have hm2 : (if (W : Int) - 2 < 0 then 0 else (W : Int) - 2) = (nL : Int) := by split <;> omega
      have gS3 : (nS : Int) = (i : Int) - 1 - (nL : Int) := by omega
      have HG3 := Lib.hid gS3
      clear hft hSv hLv gS3
      obtain ⟨q0, q1, q2, q3, q4⟩ := sp5 G2.out
      rcases Nat.lt_trichotomy W 2 with hc | hc | hc
      · have gm1 : decide ((0 : Int) < (W : Int) - 2) = false := by simp; omega
        have gm2 : decide ((W : Int) - 2 < 0) = true := by simp; omega
        have gm3 : (W : Int) - 2 < 0 := by omega
        have hnl : nL = 0 := by rw [HL.out]; omega
        subst hnl
        have gS : ((nS : Int) == (i : Int) - 1) = true := by have := HG3.out; simp; omega
        by_cases h0 : nS = 0
        · have g0 : ((nS : Int) == 0) = true := by simp [h0]
          clear h0 HFT
          go_wp2_with fail
          refine (spaceTells_any _).mono ?_
          rintro e w4 ⟨rfl, b4⟩
          have B4 := Lib.hid (B2.out.trans (b4.mono B2.out.size))
          have G4 := Lib.hid ((b4.block _ (lt_of_block G2.out)).trans G2.out)
          have x2 := (b4.cell (World.block_lt_of_cell? _ _ x1)).trans x1
          clear b4 q0 q1 q2 q3 q4 x1
          obtain ⟨q0, q1, q2, q3, q4⟩ := sp5 G4.out
          go_wp2_with fail
          go_ret
          exact ⟨by first | rfl | simp, B4.out⟩
        · have g0 : ((nS : Int) == 0) = false := by simp; omega
          obtain ⟨bs, os, cs, es, xs, hxf⟩ := HFT.out (by omega)
          have e1 := Value.slice.inj es
          obtain ⟨ea, _, ec⟩ := e1
          subst ea ec
          have hn0 : 0 < nS := by omega
          have gf : decide ((W : Int) - 3 < f0) = true := by simp; omega
          clear h0 HFT es hxf
          go_wp2_with fail
          refine (spaceTells_any _).mono ?_
          rintro e w4 ⟨rfl, b4⟩
          have B4 := Lib.hid (B2.out.trans (b4.mono B2.out.size))
          have G4 := Lib.hid ((b4.block _ (lt_of_block G2.out)).trans G2.out)
          have x2 := (b4.cell (World.block_lt_of_cell? _ _ x1)).trans x1
          have x3 := (b4.cell (World.block_lt_of_cell? _ _ xs)).trans xs
          clear b4 q0 q1 q2 q3 q4 x1 xs
          obtain ⟨q0, q1, q2, q3, q4⟩ := sp5 G4.out
          go_wp2_with fail
          go_ret
          exact ⟨by first | rfl | simp, B4.out⟩
      · subst hc
        have hnl : nL = 0 := by rw [HL.out]
        subst hnl
        have gS : ((nS : Int) == (i : Int) - 1) = true := by have := HG3.out; simp; omega
        by_cases h0 : nS = 0
        · have g0 : ((nS : Int) == 0) = true := by simp [h0]
          clear h0 HFT
          go_wp2_with fail
          refine (spaceTells_any _).mono ?_
          rintro e w4 ⟨rfl, b4⟩
          have B4 := Lib.hid (B2.out.trans (b4.mono B2.out.size))
          have G4 := Lib.hid ((b4.block _ (lt_of_block G2.out)).trans G2.out)
          have x2 := (b4.cell (World.block_lt_of_cell? _ _ x1)).trans x1
          clear b4 q0 q1 q2 q3 q4 x1
          obtain ⟨q0, q1, q2, q3, q4⟩ := sp5 G4.out
          go_wp2_with fail
          go_ret
          exact ⟨by first | rfl | simp, B4.out⟩
        · have g0 : ((nS : Int) == 0) = false := by simp; omega
          obtain ⟨bs, os, cs, es, xs, hxf⟩ := HFT.out (by omega)
          have e1 := Value.slice.inj es
          obtain ⟨ea, _, ec⟩ := e1
          subst ea ec
          have hn0 : 0 < nS := by omega
          have gf : decide (-1 < f0) = true := by simp; omega
          clear h0 HFT es hxf
          go_wp2_with fail
          refine (spaceTells_any _).mono ?_
          rintro e w4 ⟨rfl, b4⟩
          have B4 := Lib.hid (B2.out.trans (b4.mono B2.out.size))
          have G4 := Lib.hid ((b4.block _ (lt_of_block G2.out)).trans G2.out)
          have x2 := (b4.cell (World.block_lt_of_cell? _ _ x1)).trans x1
          have x3 := (b4.cell (World.block_lt_of_cell? _ _ xs)).trans xs
          clear b4 q0 q1 q2 q3 q4 x1 xs
          obtain ⟨q0, q1, q2, q3, q4⟩ := sp5 G4.out
          go_wp2_with fail
          go_ret
          exact ⟨by first | rfl | simp, B4.out⟩
      · have gm1 : decide ((0 : Int) < (W : Int) - 2) = true := by simp; omega
        have gm2 : decide ((W : Int) - 2 < 0) = false := by simp; omega
        have gm3 : (0 : Int) < (W : Int) - 2 := by omega
        have gS : ((nS : Int) == (i : Int) - 1 - (nL : Int)) = true := by have := HG3.out; simp; omega
        have gm4 : ((nL : Int) == (W : Int) - 2) = true := by have := HL.out; simp; omega
        by_cases h0 : nS = 0
        · have g0 : ((nS : Int) == 0) = true := by simp [h0]
          clear h0 HFT
          go_wp2_with fail
          refine (spaceTells_any _).mono ?_
          rintro e w4 ⟨rfl, b4⟩
          have B4 := Lib.hid (B2.out.trans (b4.mono B2.out.size))
          have G4 := Lib.hid ((b4.block _ (lt_of_block G2.out)).trans G2.out)
          have x2 := (b4.cell (World.block_lt_of_cell? _ _ x1)).trans x1
          clear b4 q0 q1 q2 q3 q4 x1
          obtain ⟨q0, q1, q2, q3, q4⟩ := sp5 G4.out
          go_wp2_with fail
          go_ret
          exact ⟨by first | rfl | simp, B4.out⟩
        · have g0 : ((nS : Int) == 0) = false := by simp; omega
          obtain ⟨bs, os, cs, es, xs, hxf⟩ := HFT.out (by omega)
          have e1 := Value.slice.inj es
          obtain ⟨ea, _, ec⟩ := e1
          subst ea ec
          have hn0 : 0 < nS := by omega
          have gf : decide ((W : Int) - 3 < f0) = true := by simp; omega
          clear h0 HFT es hxf
          go_wp2_with fail
          refine (spaceTells_any _).mono ?_
          rintro e w4 ⟨rfl, b4⟩
          have B4 := Lib.hid (B2.out.trans (b4.mono B2.out.size))
          have G4 := Lib.hid ((b4.block _ (lt_of_block G2.out)).trans G2.out)
          have x2 := (b4.cell (World.block_lt_of_cell? _ _ x1)).trans x1
          have x3 := (b4.cell (World.block_lt_of_cell? _ _ xs)).trans xs
          clear b4 q0 q1 q2 q3 q4 x1 xs
          obtain ⟨q0, q1, q2, q3, q4⟩ := sp5 G4.out
          go_wp2_with fail
          go_ret
          exact ⟨by first | rfl | simp, B4.out⟩
end Go.Proofs.Ytnccibaifffhhaa
