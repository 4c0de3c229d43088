/- Contracts of package space: refuse. -/
import Derived.Test.YtnccibaifffhhaaSpHear
import Derived.Test.YtnccibaifffhhaaSpSplit
namespace Go.Proofs.Ytnccibaifffhhaa
set_option linter.unusedVariables false
open Go.RowKit P

set_option maxRecDepth 100000 in
set_option maxHeartbeats 2000000 in
theorem spRefuse_any (v vl : Value) (s : Sp) (l : List (Int × Int)) (w : World) (hv : SpVal w w.heap.size v s) (hw : SpWf s) (hl : RSl w w.heap.size vl l) (hlm : l.length * 16 ≤ 140737488355328) : Calls Try.prog 50 #[v, vl] w fun e w' => e = .returned (.int .i64 (ackF s l)) ∧ Below w.heap.size w w' := by
  have HCK := Lib.hid (fun w' (hb : Below w.heap.size w w') => spChk_any v s w' ((hv.below hb).more hb.size) hw)
  obtain ⟨Al, cl, rfl, hl1, hl2, hlr⟩ := hl.ex
  obtain ⟨a, h, kk, rfl, ha, hh, hk⟩ := hv.ex
  obtain ⟨Aa, ca, csa, rfl, _, _, _, _⟩ := ha.ex
  obtain ⟨Ah, ch, rfl, _, _, _⟩ := hh.ex
  obtain ⟨Ak, ck, rfl, _, _, hkr⟩ := hk.ex
  obtain ⟨g0, g1, g2⟩ := twoX w #[.int .i64 s.next, .slice Aa s.sent.length ca, .int .i64 s.top, .slice Ah s.heard.length ch, .slice Ak s.skip.length ck] #[.slice Al l.length cl] 48 25
  have F0 := Lib.hid g0
  have Z0 := Lib.hid g1
  have B0 := Lib.hid g2
  have HLR := Lib.hid hlr
  have HKR := Lib.hid hkr
  have hkl := hw.kl
  clear g0 g1 g2 hv ha hh hk hl hlr hkr
  obtain ⟨nl, hnl⟩ : ∃ x, l.length = x := ⟨_, rfl⟩
  have HNL := Lib.hid hnl
  rw [hnl] at Z0 B0 hlm F0 hl1 ⊢
  clear hnl
  obtain ⟨q0, q1, q2, q3, q4⟩ := sp5 F0.out
  have z0 := bk_cell Z0.out 0
  simp only [List.getElem?_toArray, List.getElem?_cons_zero] at z0
  go_enter Try.func50, Try.ntmps50
  go_wp2_with fail
  refine (HCK.out _ B0.out).mono ?_
  rintro e w1 ⟨rfl, b1⟩
  have B1 := Lib.hid (B0.out.trans (b1.mono B0.out.size))
  have F1 := Lib.hid ((b1.block _ (lt_of_block F0.out)).trans F0.out)
  have Z1 := Lib.hid ((b1.block _ (lt_of_block Z0.out)).trans Z0.out)
  clear b1 z0
  clear q0 q1 q2 q3 q4
  obtain ⟨q0, q1, q2, q3, q4⟩ := sp5 F1.out
  have z0 := bk_cell Z1.out 0
  simp only [List.getElem?_toArray, List.getElem?_cons_zero] at z0
  rcases faultSp_two s with f | f
  · have HA := Lib.hid (show ackF s l = if rngF s.next l ≠ 0 then rngF s.next l else if s.skip.any (memB l) then 13 else 0 from by unfold ackF; rw [if_neg (by simp [f])])
    have HNX := Lib.hid ((faultSp_iff s).1 f).1
    rw [f]
    obtain ⟨rv, hrv⟩ : ∃ x, rngF s.next l = x := ⟨_, rfl⟩
    have HRV := Lib.hid (show rngF s.next (l.drop 0) = rv from by rw [List.drop_zero]; exact hrv)
    rw [hrv] at HA
    clear hrv
    go_wp2_with fail
    go_loopg [15] nl (fun gq iv wr => ∃ k : Nat, iv = .int .i64 k ∧ k + gq = nl ∧ Hid (rngF s.next (l.drop k) = rv) ∧ Hid (Below w1.heap.size w1 wr))
    case atStart => exact ⟨0, rfl, by omega, HRV, Lib.hid (Below.refl _ _)⟩
    case round =>
      obtain ⟨k, rfl, hkg, HP, BK⟩ := hrel
      obtain ⟨X, hX⟩ : ∃ X, X = wr := ⟨_, rfl⟩
      subst hX
      clear q0 q1 q2 q3 q4 z0 HRV
      have BX := Lib.hid (B1.out.trans (BK.out.mono B1.out.size))
      by_cases hlt : k < nl
      · have hkl' : k < l.length := by rw [HNL.out]; exact hlt
        obtain ⟨b, off, rfl, hbb, hc⟩ := HLR.out (by omega)
        obtain ⟨c0, c1⟩ := hc k hkl'
        obtain ⟨⟨lo, hi⟩, hp⟩ : ∃ p, l.getD k (0, 0) = p := ⟨_, rfl⟩
        rw [hp] at c0 c1
        simp only at c0 c1
        have x0 := (BX.out.cell (p := ⟨b, off + k * 2, none⟩) hbb).trans c0
        have x1 := (BX.out.cell (p := ⟨b, off + k * 2 + 1, none⟩) hbb).trans c1
        have hq := HP.out
        rw [List.drop_eq_getElem_cons hkl', show l[k] = (lo, hi) from by rw [← hp, List.getD_eq_getElem?_getD, List.getElem?_eq_getElem hkl']; rfl] at hq
        unfold rngF at hq
        have HQ := Lib.hid hq
        have hki : (k : Int) < (nl : Int) := by omega
        have AB := Lib.hid ((Below.refl X.heap.size X).alloc (Nat.le_refl _) (.cells #[.int .i64 lo, .int .i64 hi] 63))
        have PB := Lib.hid (heap_alloc_new X (.cells #[.int .i64 lo, .int .i64 hi] 63))
        have F4 := Lib.hid ((BK.out.block _ (lt_of_block F1.out)).trans F1.out)
        have F5 := Lib.hid ((AB.out.block _ (lt_of_block F4.out)).trans F4.out)
        clear hc hp c0 c1 hq HP
        go_upto_region 7 with fail
        clear x0 x1
        obtain ⟨Y, hY⟩ : ∃ x, X.alloc (.cells #[.int .i64 lo, .int .i64 hi] 63) = x := ⟨_, rfl⟩
        rw [hY] at AB PB F5
        try rw [hY]
        clear hY
        have y0 := bk_cell PB.out 0
        have y1 := bk_cell PB.out 1
        simp only [List.getElem?_toArray, List.getElem?_cons_zero, List.getElem?_cons_succ] at y0 y1
        have BY := Lib.hid (BX.out.trans (AB.out.mono BX.out.size))
        have BK2 := Lib.hid (BK.out.trans (AB.out.mono BK.out.size))
        obtain ⟨q0, q1, q2, q3, q4⟩ := sp5 F5.out
        by_cases e1 : lo < 0
        · have HV := Lib.hid (show (3 : Int) = rv from by have := HQ.out; rw [if_pos (.inl e1)] at this; exact this)
          have d1 : decide (lo < 0) = true := by simp [e1]
          clear HQ e1
          go_wp2_with fail
          go_ret
          exact ⟨by rw [HA.out, ← HV.out]; rfl, BY.out⟩
        have d1 : decide (lo < 0) = false := by simp; omega
        by_cases e2 : hi < lo
        · have HV := Lib.hid (show (3 : Int) = rv from by have := HQ.out; rw [if_pos (.inr e2)] at this; exact this)
          have d2 : decide (hi < lo) = true := by simp [e2]
          clear HQ e1 e2
          go_wp2_with fail
          go_ret
          exact ⟨by rw [HA.out, ← HV.out]; rfl, BY.out⟩
        have d2 : decide (hi < lo) = false := by simp; omega
        by_cases e3 : s.next ≤ hi
        · have HV := Lib.hid (show (13 : Int) = rv from by have := HQ.out; rw [if_neg (by omega), if_pos e3] at this; exact this)
          have d3 : decide (s.next ≤ hi) = true := by simp [e3]
          clear HQ e1 e2 e3
          go_wp2_with fail
          go_ret
          exact ⟨by rw [HA.out, ← HV.out]; rfl, BY.out⟩
        have d3 : decide (s.next ≤ hi) = false := by simp; omega
        have HV := Lib.hid (show rngF s.next (l.drop (k + 1)) = rv from by have := HQ.out; rw [if_neg (by omega), if_neg e3] at this; exact this)
        clear HQ e1 e2 e3
        go_wp2_with fail
        go_roundg (gk - 1)
        case measure => omega
        case rel => exact ⟨k + 1, by first | rfl | go_num, by omega, HV, BK2⟩
      · have hkn : k = nl := by omega
        subst k
        have hr0 : rv = 0 := by
          have := HP.out
          rw [List.drop_eq_nil_of_le (by rw [HNL.out]; exact Nat.le_refl _)] at this
          exact this.symm
        subst hr0
        have F4 := Lib.hid ((BK.out.block _ (lt_of_block F1.out)).trans F1.out)
        have Z4 := Lib.hid ((BK.out.block _ (lt_of_block Z1.out)).trans Z1.out)
        have HB := Lib.hid (has_refu Ak s.skip.length ck s.skip (w.heap.size + 1) (memB l) X ((HKR.out.below BX.out).more BX.out.size) rfl (by omega)
          (fun i hi w' hb => refuC_any Al nl cl l _ (w.heap.size + 1) w' ((hb.block _ (lt_of_block Z4.out)).trans Z4.out) ((HLR.out.below (BX.out.trans (hb.mono BX.out.size))).more (Nat.le_trans BX.out.size hb.size)) HNL.out (by omega)))
        obtain ⟨rb, hrb⟩ : ∃ x, s.skip.any (memB l) = x := ⟨_, rfl⟩
        rw [hrb] at HA HB
        clear hrb HP
        obtain ⟨q0, q1, q2, q3, q4⟩ := sp5 F4.out
        go_wp2_with fail
        refine (HB.out).mono ?_
        rintro e w5 ⟨rfl, b5⟩
        have B5 := Lib.hid (BX.out.trans (b5.mono BX.out.size))
        clear b5 q0 q1 q2 q3 q4
        cases rb with
        | true =>
          go_wp2_with fail
          go_ret
          exact ⟨by rw [HA.out]; rfl, B5.out⟩
        | false =>
          go_wp2_with fail
          go_ret
          exact ⟨by rw [HA.out]; rfl, B5.out⟩
  · have HA := Lib.hid (show ackF s l = 9 from by unfold ackF; rw [f]; rfl)
    rw [f]
    go_wp2_with fail
    go_ret
    exact ⟨by rw [HA.out]; rfl, B1.out⟩
end Go.Proofs.Ytnccibaifffhhaa
