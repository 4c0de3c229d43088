/- The walk of SpaceTells. -/
import Derived.Test.YtnccibaifffhhaaSpTlM
import Derived.Test.YtnccibaifffhhaaSpTells
import Derived.Test.YtnccibaifffhhaaSpHear
import Derived.Test.YtnccibaifffhhaaIRow
import Derived.Test.YtnccibaifffhhaaGrpC
import Derived.Deep.LoopGhost
namespace Go.Proofs.Ytnccibaifffhhaa
set_option linter.unusedVariables false
open Go.RowKit P

theorem hSp_wf {H : List (Int × Int)} {top : Int} (h : HI H top) : SpWf (hSp H) := ⟨by unfold i64N hSp; dsimp only; omega, by unfold i64N hSp; dsimp only; omega, by simp [hSp], by have := h.len; show H.length * 16 ≤ _; omega, by simp [hSp], (fun p hp => by cases hp), (fun n hn => by cases hn)⟩
theorem hSp_begin (lo : Nat) (w : World) : SpU lo w (.agg #[.int .i64 0, .slice none 0 0, .int .i64 (-1), .slice none 0 0, .slice none 0 0]) (hSp []) := fun _ _ => ⟨_, _, _, rfl, PlSl.nil _ _, RSl.nil _ _, ISl.nil _ _⟩
theorem hSp_parts {lo : Nat} {w : World} {u : Value} {H : List (Int × Int)} (h : SpU lo w u (hSp H)) : ∃ (Aa Ah Ak : Option Addr) (ca ch ck : Nat), u = .agg #[.int .i64 0, .slice Aa 0 ca, .int .i64 (-1), .slice Ah H.length ch, .slice Ak 0 ck] := by
  obtain ⟨Aa, Ah, Ak, ca, ch, ck, e, _⟩ := h.parts
  exact ⟨Aa, Ah, Ak, ca, ch, ck, e⟩
theorem ok_all_rev {H : List (Int × Int)} {top : Int} (h : HI H top) (i : Nat) (hi : i < H.reverse.length) : 0 ≤ (H.reverse.getD i (0, 0)).1 ∧ (H.reverse.getD i (0, 0)).1 ≤ 4611686018427387903 := by
  rw [List.length_reverse] at hi
  rw [rev_get H i hi]
  have := (ok_get h.ok (H.length - 1 - i) (by omega))
  exact ⟨this.1, Int.le_trans this.2.1 this.2.2⟩
set_option maxRecDepth 100000 in
set_option maxHeartbeats 4000000 in
theorem spaceTells_walk (a0 : Option Addr) (len0 cap0 : Nat) (z0 : List Int) (w : World) (h0 : IsRow .i64 w a0 len0 cap0 z0) :
    Calls Try.prog 7 #[.slice a0 len0 cap0] w fun e w' => e = .returned (.bool true) ∧ Below w.heap.size w w' := by
  obtain ⟨hrow, hlc, hcm⟩ := IRowN.of h0
  have HROW := Lib.hid hrow
  obtain ⟨L, hL⟩ : ∃ L, min len0 30 = L := ⟨_, rfl⟩
  have hmn : (if (30 : Int) < (len0 : Int) then 30 else (len0 : Int)) = (L : Int) := by split <;> omega
  have hLl : L ≤ len0 := by omega
  have hL30 : L ≤ 30 := by omega
  unfold maxLen at hcm
  clear hrow h0 hL
  go_enter Try.func7, Try.ntmps7
  go_wp2_with fail
  refine (spBegin_any _).mono ?_
  rintro e w1 ⟨rfl, b1⟩
  have B1 := Lib.hid (b1.alloc b1.size (.cells #[.int .i64 0, .slice none 0 0, .int .i64 (-1), .slice none 0 0, .slice none 0 0] 48))
  have F1 := Lib.hid (heap_alloc_new w1 (.cells #[.int .i64 0, .slice none 0 0, .int .i64 (-1), .slice none 0 0, .slice none 0 0] 48))
  have hVw : w.heap.size ≤ w1.heap.size := b1.size
  clear b1
  go_upto_region 2 with fail
  obtain ⟨V, hV⟩ : ∃ V, w1.heap.size = V := ⟨_, rfl⟩
  obtain ⟨W1, hW1⟩ : ∃ W, w1.alloc (.cells #[.int .i64 0, .slice none 0 0, .int .i64 (-1), .slice none 0 0, .slice none 0 0] 48) = W := ⟨_, rfl⟩
  rw [hV] at hVw F1
  rw [hW1] at B1 F1 ⊢
  try rw [hV]
  clear hW1 hV
  have U1 := Lib.hid (hSp_begin (V + 1) W1)
  have I1 := Lib.hid HI.nil
  go_wp2_with fail
  go_loopg [4, 24] L (fun gq tv iv wr => ∃ (kk : Nat) (top : Int) (H : List (Int × Int)) (Aa Ah Ak : Option Addr) (ca ch ck : Nat), tv = .int .i64 top ∧ iv = .int .i64 kk ∧ kk + gq = L ∧ top < 60 ∧ Hid (HI H top) ∧ Hid (Below w.heap.size w wr) ∧ Hid (wr.heap[V]? = some (.cells #[.int .i64 0, .slice Aa 0 ca, .int .i64 (-1), .slice Ah H.length ch, .slice Ak 0 ck] 48 (0, 0))) ∧ Hid (SpU (V + 1) wr (.agg #[.int .i64 0, .slice Aa 0 ca, .int .i64 (-1), .slice Ah H.length ch, .slice Ak 0 ck]) (hSp H)))
  case atStart => exact ⟨0, -1, [], none, none, none, 0, 0, 0, rfl, rfl, by omega, by omega, I1, B1, F1, U1⟩
  case round =>
    obtain ⟨kk, top, H, Aa, Ah, Ak, ca, ch, ck, rfl, rfl, hkg, t60, HH, BX, FX, UX⟩ := hrel
    clear B1 F1 U1 I1
    obtain ⟨X, hX⟩ : ∃ X, X = wr := ⟨_, rfl⟩
    subst hX
    have hVX : V < X.heap.size := lt_of_block FX.out
    have t0 := HH.out.top_lo
    obtain ⟨q0, q1, q2, q3, q4⟩ := sp5 FX.out
    by_cases hk : kk < L
    · obtain ⟨bR, o, hA, hb0, hc⟩ := HROW.out.cells (by omega)
      subst hA
      have x0 := (BX.out.cell (p := ⟨bR, o + kk, none⟩) hb0).trans (hc kk (by omega))
      obtain ⟨z, hzz⟩ : ∃ z, z0.getD kk 0 = z := ⟨_, rfl⟩
      rw [hzz] at x0
      have hkL : (kk : Int) < (L : Int) := by omega
      obtain ⟨n, hn⟩ : ∃ n, z % 60 = n := ⟨_, rfl⟩
      have m0 : 0 ≤ n := by omega
      have m1 : n < 60 := by omega
      have HPN := Lib.hid (fun w => hn ▸ picked_any z 60 (by omega) (by omega) w)
      obtain ⟨H', f, S, e1, e3, HH', e2⟩ := hear_step HH.out m0 (by omega)
      have HW1 := Lib.hid (hSp_wf HH.out)
      have HW2 := Lib.hid (hSp_wf HH')
      have HP1 := Lib.hid (fun (w : World) (h : SpVal w w.heap.size (.agg #[.int .i64 0, .slice Aa 0 ca, .int .i64 (-1), .slice Ah H.length ch, .slice Ak 0 ck]) (hSp H)) => e1 ▸ spHear_any _ (hSp H) n w h HW1.out)
      have HP2 := Lib.hid (fun (v : Value) (w : World) (h : SpVal w w.heap.size v (hSp H')) => e2 ▸ spHear_any v (hSp H') n w h HW2.out)
      have HE := Lib.hid e3
      have HI' := Lib.hid HH'
      clear hc hzz hn e1 e2 e3 HH' HW1 HW2
      go_wp2_with fail
      refine (HPN.out _).mono ?_
      rintro e w' ⟨rfl, rfl⟩
      go_wp2_with fail
      refine (HP1.out _ UX.out.now).mono ?_
      rintro e w2 ⟨b2, u2, rfl, hu2⟩
      dsimp only at hu2 ⊢
      obtain ⟨Aa2, Ah2, Ak2, ca2, ch2, ck2, rfl⟩ := hSp_parts hu2
      have C2 := (Below.refl w2.heap.size w2).alloc (Nat.le_refl _) (.cells #[.int .i64 0, .slice Aa2 0 ca2, .int .i64 (-1), .slice Ah2 H'.length ch2, .slice Ak2 0 ck2] 48)
      have G2 := Lib.hid (heap_alloc_new w2 (.cells #[.int .i64 0, .slice Aa2 0 ca2, .int .i64 (-1), .slice Ah2 H'.length ch2, .slice Ak2 0 ck2] 48))
      have D2 := b2.trans (C2.mono b2.size)
      have B2 := Lib.hid (BX.out.trans (D2.mono BX.out.size))
      have F2 := Lib.hid ((D2.block _ hVX).trans FX.out)
      have U2 := Lib.hid ((hu2.low (lo' := V + 1) hVX).on (KpS.below C2))
      have hV2 : V < w2.heap.size := Nat.lt_of_lt_of_le hVX b2.size
      clear b2 hu2 C2 D2 q0 q1 q2 q3 q4
      obtain ⟨q0, q1, q2, q3, q4⟩ := sp5 G2.out
      go_upto_region 8 with fail
      obtain ⟨V2, hV2'⟩ : ∃ V, w2.heap.size = V := ⟨_, rfl⟩
      obtain ⟨W2, hW2⟩ : ∃ W, w2.alloc (.cells #[.int .i64 0, .slice Aa2 0 ca2, .int .i64 (-1), .slice Ah2 H'.length ch2, .slice Ak2 0 ck2] 48) = W := ⟨_, rfl⟩
      rw [hV2'] at hV2 G2
      rw [hW2] at G2 B2 F2 U2 ⊢
      try rw [hV2']
      clear hW2 hV2' q0 q1 q2 q3 q4
      obtain ⟨q0, q1, q2, q3, q4⟩ := sp5 G2.out
      go_wp2_with fail
      refine (HP2.out _ _ U2.out.now).mono ?_
      rintro e w3 ⟨b3, u3, rfl, hu3⟩
      dsimp only at hu3 ⊢
      obtain ⟨Aa3, Ah3, Ak3, ca3, ch3, ck3, rfl, _⟩ := hu3.parts
      have C3 := (Below.refl w3.heap.size w3).alloc (Nat.le_refl _) (.cells #[.int .i64 S.next, .slice Aa3 S.sent.length ca3, .int .i64 S.top, .slice Ah3 S.heard.length ch3, .slice Ak3 S.skip.length ck3] 48)
      have D3 := b3.trans (C3.mono b3.size)
      have G3 := Lib.hid ((D3.block _ (lt_of_block G2.out)).trans G2.out)
      have F3 := Lib.hid ((D3.block _ (lt_of_block F2.out)).trans F2.out)
      have B3 := Lib.hid (B2.out.trans (D3.mono B2.out.size))
      have U3 := Lib.hid (U2.out.on (KpS.below D3))
      clear b3 hu3 C3 D3 q0 q1 q2 q3 q4
      go_upto_region 9 with fail
      obtain ⟨W3, hW3⟩ : ∃ W, w3.alloc (.cells #[.int .i64 S.next, .slice Aa3 S.sent.length ca3, .int .i64 S.top, .slice Ah3 S.heard.length ch3, .slice Ak3 S.skip.length ck3] 48) = W := ⟨_, rfl⟩
      rw [hW3] at G3 B3 F3 U3 ⊢
      clear hW3
      obtain ⟨q0, q1, q2, q3, q4⟩ := sp5 G3.out
      obtain ⟨y0, y1, y2, y3, y4⟩ := sp5 F3.out
      have yf := fun i => bk_frz F3.out i
      obtain ⟨RY, gp⟩ := sp5_put F3.out (.int .i64 0) (.slice Aa2 0 ca2) (.int .i64 (-1)) (.slice Ah2 H'.length ch2) (.slice Ak2 0 ck2)
      have F4 := Lib.hid RY
      have B4 := Lib.hid (gr_from B3.out B3.out.size hVw gp)
      have U4 := Lib.hid (U3.out.on (KpS.gr gp (Nat.lt_succ_self V)))
      clear RY gp
      by_cases ht : top < n
      · have hf := HE.out ht
        subst hf
        have gt : decide (top < n) = true := by simp [ht]
        have hm : max top n = n := by omega
        rw [hm] at HI'
        have hmx : (if top < n then n else top) = n := if_pos ht
        have hmx2 : (if n < top then top else n) = n := if_neg (by omega)
        clear hm
        go_wp2_with fail
        go_roundg (gk - 1)
        case measure => omega
        case rel => exact ⟨kk + 1, n, H', Aa2, Ah2, Ak2, ca2, ch2, ck2, by first | rfl | (rw [hmx2]) | (rw [hmx]), by first | rfl | go_num, by omega, by omega, HI', B4, F4, U4⟩
      · have gt : decide (top < n) = false := by simp; omega
        have hm : max top n = top := by omega
        rw [hm] at HI'
        have hmx : (if top < n then n else top) = top := if_neg ht
        have hmx2 : (if n < top then top else n) = top := by split <;> omega
        clear hm
        go_wp2_with fail
        go_roundg (gk - 1)
        case measure => omega
        case rel => exact ⟨kk + 1, top, H', Aa2, Ah2, Ak2, ca2, ch2, ck2, by first | rfl | (rw [hmx2]) | (rw [hmx]), by first | rfl | go_num, by omega, by omega, HI', B4, F4, U4⟩
    · have hkN : kk = L := by omega
      subst hkN
      have HTL := Lib.hid (fun (w : World) (h : SpVal w w.heap.size (.agg #[.int .i64 0, .slice Aa 0 ca, .int .i64 (-1), .slice Ah H.length ch, .slice Ak 0 ck]) (hSp H)) => tell_h HH.out ▸ spTell_any _ (hSp H) w h (hSp_wf HH.out))
      have HCK := Lib.hid (fun (w : World) (h : SpVal w w.heap.size (.agg #[.int .i64 0, .slice Aa 0 ca, .int .i64 (-1), .slice Ah H.length ch, .slice Ak 0 ck]) (hSp H)) => HH.out.fault ▸ spChk_any _ (hSp H) w h (hSp_wf HH.out))
      go_wp2_with fail
      refine (HTL.out _ UX.out.now).mono ?_
      rintro e w2 ⟨b2, u2, rfl, hu2⟩
      dsimp only at hu2 ⊢
      obtain ⟨AT, cT, rfl, hlT, hmT, hrT⟩ := hu2.ex
      have HRT := Lib.hid hrT
      have B2 := Lib.hid (BX.out.trans (b2.mono BX.out.size))
      have F2 := Lib.hid ((b2.block _ hVX).trans FX.out)
      have U2 := Lib.hid (UX.out.on (KpS.below b2))
      obtain ⟨nR, hnR⟩ : ∃ n, H.reverse.length = n := ⟨_, rfl⟩
      have HNR := Lib.hid hnR
      have n6 : nR ≤ 6 := by have := HH.out.len; rw [List.length_reverse] at hnR; omega
      rw [hnR] at hlT ⊢
      unfold maxLen at hmT
      clear b2 hu2 hrT hnR HTL q0 q1 q2 q3 q4
      by_cases h0 : nR = 0
      · have ht : top = -1 := HH.out.none (by have := HNR.out; rw [List.length_reverse] at this; omega)
        subst ht
        subst h0
        go_wp2_with fail
        refine (spaceTells_any _).mono ?_
        rintro e w4 ⟨rfl, b4⟩
        have B4 := Lib.hid (B2.out.trans (b4.mono B2.out.size))
        clear b4
        go_wp2_with fail
        go_ret
        exact ⟨by first | rfl | simp, B4.out⟩
      · have g0 : ((nR : Int) == 0) = false := by simp; omega
        have HFI := Lib.hid (HH.out.first (by have := HNR.out; rw [List.length_reverse] at this; omega))
        have hn0 : 0 < nR := by omega
        clear h0
        go_wp2_with fail
        go_loopg [16] (nR - 1) (fun gq iv wr => ∃ (i : Nat), iv = .int .i64 i ∧ 1 ≤ i ∧ i + gq = nR ∧ Hid (Below w2.heap.size w2 wr))
        case atStart => exact ⟨1, rfl, by omega, by omega, Lib.hid (Below.refl _ _)⟩
        case round =>
          obtain ⟨i, rfl, i1, hig, BW⟩ := hrel
          obtain ⟨bT, oT, hAT, hbT, hcT⟩ := HRT.out (by rw [HNR.out]; omega)
          subst hAT
          by_cases hi : i < nR
          · have hiR : (i : Int) < (nR : Int) := by omega
            have c1 := (BW.out.cell (p := ⟨bT, oT + i * 2 + 1, none⟩) hbT).trans (hcT i (by rw [HNR.out]; omega)).2
            have c0 := (BW.out.cell (p := ⟨bT, oT + (i - 1) * 2, none⟩) hbT).trans (hcT (i - 1) (by rw [HNR.out]; omega)).1
            have hp := HH.out.pair i (by omega) (by rw [HNR.out]; omega)
            have ob := (ok_all_rev HH.out (i - 1) (by rw [HNR.out]; omega))
            obtain ⟨hi1, hh1⟩ : ∃ x, (H.reverse.getD i (0, 0)).2 = x := ⟨_, rfl⟩
            obtain ⟨lo0, hl0⟩ : ∃ x, (H.reverse.getD (i - 1) (0, 0)).1 = x := ⟨_, rfl⟩
            rw [hh1] at c1 hp
            rw [hl0] at c0 hp ob
            have g1 : decide (lo0 - 1 ≤ hi1) = false := by simp; omega
            have i0 : (0 : Int) ≤ (i : Int) - 1 := by omega
            have i1' : (i : Int) - 1 < (nR : Int) := by omega
            have i2 : ((i : Int) - 1).toNat = i - 1 := by omega
            have hw0 : IntKind.i64.wrap (lo0 - 1) = lo0 - 1 := by rw [IntKind.wrap_i64]; omega
            have hw1 : IntKind.i64.wrap ((i : Int) - 1) = (i : Int) - 1 := by rw [IntKind.wrap_i64]; omega
            clear hh1 hl0 hcT
            go_wp2_with fail
            have d0 := Ext.cell c0
            have d1 := Ext.cell c1
            refine wp_region_ext (by kernel_rfl) (by kernel_rfl) ?_
            repeat (go_big_quiet_step (fail))
            refine wpQuiet_nil ?_
            intro w5 hb5
            have BW5 := Lib.hid (BW.out.trans (hb5.mono BW.out.size))
            clear hb5 d0 d1 c0 c1
            go_wp2_with fail
            go_roundg (gk - 1)
            case measure => omega
            case rel => exact ⟨i + 1, by first | rfl | go_num, by omega, by omega, BW5⟩
          · have hiN : i = nR := by omega
            subst hiN
            have gi : decide ((i : Int) < (i : Int)) = false := by simp
            have B3 := Lib.hid (B2.out.trans (BW.out.mono B2.out.size))
            have F3 := Lib.hid ((BW.out.block _ (lt_of_block F2.out)).trans F2.out)
            have U3 := Lib.hid (U2.out.on (KpS.below BW.out))
            have x1 := (BW.out.cell (p := ⟨bT, oT + 0 * 2 + 1, none⟩) hbT).trans (hcT 0 (by rw [HNR.out]; omega)).2
            rw [HFI.out] at x1
            have g6 : decide ((i : Int) ≤ 6) = true := by simp; omega
            clear hcT
            obtain ⟨q0, q1, q2, q3, q4⟩ := sp5 F3.out
            go_wp2_with fail
            refine (spaceTells_any _).mono ?_
            rintro e w4 ⟨rfl, b4⟩
            have B4 := Lib.hid (B3.out.trans (b4.mono B3.out.size))
            have F4 := Lib.hid ((b4.block _ (lt_of_block F3.out)).trans F3.out)
            have U4 := Lib.hid (U3.out.on (KpS.below b4))
            have x2 := (b4.cell (p := ⟨bT, oT + 0 * 2 + 1, none⟩) (Nat.lt_of_lt_of_le hbT BW.out.size)).trans x1
            clear b4 q0 q1 q2 q3 q4 x1
            simp only [Nat.zero_mul, Nat.add_zero] at x2
            obtain ⟨q0, q1, q2, q3, q4⟩ := sp5 F4.out
            go_wp2_with fail
            refine (HCK.out _ U4.out.now).mono ?_
            rintro e w5 ⟨rfl, b5⟩
            have B5 := Lib.hid (B4.out.trans (b5.mono B4.out.size))
            clear b5 q0 q1 q2 q3 q4 x2
            go_wp2_with fail
            go_ret
            exact ⟨by first | rfl | simp, B5.out⟩
end Go.Proofs.Ytnccibaifffhhaa
