/- The walk of TokenOnly, over what is asked of Make and Check. -/
import Derived.Test.YtncbdcklemkmdaaTokenGoodC
import Derived.Test.YtncbdcklemkmdaaMem
import Derived.Deep.LoopGhost
import Derived.Lib.SmallJoins
namespace Go.Proofs.Ytncbdcklemkmdaa
set_option linter.unusedVariables false
open Go.RowKit P

theorem own_bd2 {w : World} {base e n m c : Nat} {A : Option Addr} {xs : List Value} (h : w.ownsRow base e 1 (.slice A n c) m xs) : n = m ∧ m ≤ c ∧ c ≤ maxLen := by
  obtain ⟨A', c', h1, h2, h3⟩ := own_slice h
  injection h1 with e1 e2 e3
  subst e3
  exact ⟨e2, h2, h3⟩
set_option maxHeartbeats 2000000 in
theorem tokenOnly_core (hM : TokMake Try.prog 8 5) (hC : TokChk Try.prog 11) (x a o now at_ y : Int) (y0 : 0 ≤ y) (y1 : y ≤ 255) (W : World) :
    Calls Try.prog 6 #[.int .i64 x, .int .i64 a, .int .i64 o, .int .i64 now, .int .i64 at_, .int .u8 y] W fun e w' => e = .returned (.bool true) ∧ Below W.heap.size W w' := by
  have hw : IntKind.u64.wrap x = (wd x : Int) := by rw [IntKind.wrap_u64]; unfold wd; omega
  have hk := wd_lt x
  obtain ⟨s, hs⟩ : ∃ s, wd x = s := ⟨_, rfl⟩
  rw [hs] at hw hk
  obtain ⟨t, ht⟩ : ∃ t, now % 1073741824 = t := ⟨_, rfl⟩
  obtain ⟨i, hi⟩ : ∃ i : Nat, at_ % 16 = (i : Int) := ⟨(at_ % 16).toNat, by omega⟩
  have t0 : 0 ≤ t := by omega
  have t1 : t < 1073741824 := by omega
  have i1 : i < 16 := by omega
  have HPT := Lib.hid (fun w => ht ▸ picked_any now 1073741824 (by omega) (by omega) w)
  have HPI := Lib.hid (fun w => hi ▸ picked_any at_ 16 (by omega) (by omega) w)
  have HM := Lib.hid (fun w => tokMake_ok hM s hk o t t0 (by omega) w)
  have hxb := tokL_byt s o t
  have hxl := tokL_len s o t
  obtain ⟨X, hX⟩ : ∃ X, tokL s o t = X := ⟨_, rfl⟩
  rw [hX] at HM hxb hxl
  have hzb := hxb i
  obtain ⟨z, hz⟩ : ∃ z, X.getD i 0 = z := ⟨_, rfl⟩
  rw [hz] at hzb
  obtain ⟨hu0, hu1, _⟩ := xor8 z y hzb.1 hzb.2 y0 y1
  obtain ⟨u, hu⟩ : ∃ u, bits .xor .u8 z y = u := ⟨_, rfl⟩
  rw [hu] at hu0 hu1
  have hX'b := byt_set hxb i ⟨hu0, hu1⟩
  obtain ⟨X', hX'⟩ : ∃ X', X.set i u = X' := ⟨_, rfl⟩
  have hX'l : X'.length = 16 := by rw [← hX', List.length_set, hxl]
  rw [hX'] at hX'b
  have HXB := Lib.hid hX'b
  have HMAP := Lib.hid (show (X.map (Value.int .u8)).set i (.int .u8 u) = X'.map (.int .u8) by rw [← hX', List.map_set])
  have HCELL := Lib.hid (show (X.map (Value.int .u8))[i]? = some (.int .u8 z) by
    rw [List.getElem?_map, List.getElem?_eq_getElem (by omega)]
    simp only [Option.map_some, Option.some.injEq, Value.int.injEq, true_and]
    rw [← hz, List.getD_eq_getElem?_getD, List.getElem?_eq_getElem (by omega)]; rfl)
  have HC := Lib.hid (fun v w (h : BSl w w.heap.size v X') => hC s a t v X' w hk ⟨by omega, by omega⟩ h (by omega))
  have HL := Lib.hid hX'l
  have HMK := Lib.hid hM
  have HK := Lib.hid hk
  clear hM hC hs ht hi hX hX' hz hxb hxl hX'b hX'l hk
  by_cases hf : tokF s a t X' = 0
  · obtain ⟨t', p0, p1, p2, p3, p4⟩ := tokF_only HXB.out hf
    obtain ⟨D, hD⟩ : ∃ D : Nat, t - t' = (D : Int) := ⟨(t - t').toNat, by omega⟩
    have hD50 : D ≤ 50 := by omega
    have HP4 := Lib.hid (show tokL s a (t - D) = X' by rw [show t - (D : Int) = t' by omega]; exact p4)
    have htD : (D : Int) ≤ t := by omega
    rw [hf] at HC
    clear hf p4 hD p0 p1 p2 p3
    go_enter Try.func6, Try.ntmps6
    go_wp2_with fail
    refine (HPT.out _).mono ?_
    rintro e w' ⟨rfl, rfl⟩
    go_wp2_with fail
    refine (HM.out _).mono ?_
    rintro e w1 ⟨b1, v1, rfl, o1⟩
    obtain ⟨g, c3, rfl⟩ := Joins.ownsRow_form o1 (by omega)
    obtain ⟨_, h33, h34⟩ := own_bd2 o1
    have hcell := (o1.cellAt i (by omega)).trans HCELL.out
    have hfrz := o1.frozenAt i
    obtain ⟨hst, hgr⟩ := o1.stored i (.int .u8 u)
    rw [HMAP.out] at hst
    have R1 := Lib.hid (own_bsl hst HXB.out)
    have B1 := Lib.hid (gr_from b1 b1.size ((World.ownsRow.lt o1 g rfl).1) hgr)
    clear b1 o1 hst hgr
    go_wp2_with fail
    refine (HPI.out _).mono ?_
    rintro e w' ⟨rfl, rfl⟩
    go_wp2_with fail
    refine (HC.out _ _ (by have := R1.out; exact this)).mono ?_
    rintro e w2 ⟨rfl, b2⟩
    have B2 := Lib.hid (B1.out.trans (b2.mono B1.out.size))
    have R2 := Lib.hid (R1.out.on b2)
    clear b2 hcell hfrz
    go_wp2_with fail
    go_loopg [51] 51 (fun gq iv wr => ∃ k : Nat, k + gq = 51 ∧ iv = .int .i64 k ∧ k ≤ D ∧ Hid (Below W.heap.size W wr) ∧ Hid (BSl wr wr.heap.size (.slice (some ⟨g, 0, none⟩) 16 c3) X'))
    case atStart => exact ⟨0, rfl, rfl, Nat.zero_le _, B2, Lib.hid (by have := R2.out; exact this)⟩
    case round =>
      obtain ⟨k, hkg, rfl, hkD, BK, RK⟩ := hrel
      have hwk : IntKind.i64.wrap (t - (k : Int)) = t - (k : Int) := by rw [IntKind.wrap_i64]; omega
      have hk51 : (k : Int) < 51 := by omega
      have MK := Lib.hid (fun w => tokMake_ok HMK.out s HK.out a (t - (k : Int)) (by omega) (by omega) w)
      have HYB := Lib.hid (tokL_byt s a (t - (k : Int)))
      have HYL := Lib.hid (tokL_len s a (t - (k : Int)))
      have HYD := Lib.hid (show tokL s a (t - (k : Int)) ≠ X' → k < D from fun h => by
        rcases Nat.lt_or_ge k D with h1 | h1
        · exact h1
        · exfalso
          have : k = D := by omega
          subst this
          exact h HP4.out)
      obtain ⟨Y, hY⟩ : ∃ Y, tokL s a (t - (k : Int)) = Y := ⟨_, rfl⟩
      rw [hY] at MK HYB HYL HYD
      clear hY
      by_cases q : Y = X'
      · have q' : ((strOfNums Y).toList == (strOfNums X').toList) = true := by rw [q]; simp
        clear q
        go_wp2_with fail
        refine (MK.out _).mono ?_
        rintro e w3 ⟨b3, v3, rfl, o3⟩
        obtain ⟨A3, c5, rfl, _, _⟩ := own_slice o3
        have R3 := own_brow o3 HYB.out
        obtain ⟨_, _, e5, _, _, _, hr5⟩ := (RK.out.on b3).ex
        injection e5 with e6 e7 e8
        subst e6 e8
        have B3 := Lib.hid (BK.out.trans (b3.mono BK.out.size))
        have s1 := run_str (P := Try.prog) R3 HYL.out 23 9 5 c5 Try.underlying23 Try.underlying5 Try.underlying9
        have s2 := run_str (P := Try.prog) hr5 HL.out 23 9 5 c3 Try.underlying23 Try.underlying5 Try.underlying9
        clear b3 o3 R3 hr5 e7
        go_wp2_with fail
        go_ret
        exact ⟨rfl, B3.out⟩
      · have q' : ((strOfNums Y).toList == (strOfNums X').toList) = false := by rw [tk_eqB HYB.out HXB.out]; simpa using q
        have hkD2 := HYD.out q
        clear q
        go_wp2_with fail
        refine (MK.out _).mono ?_
        rintro e w3 ⟨b3, v3, rfl, o3⟩
        obtain ⟨A3, c5, rfl, _, _⟩ := own_slice o3
        have R3 := own_brow o3 HYB.out
        have RK3 := Lib.hid (RK.out.on b3)
        obtain ⟨_, _, e5, _, _, _, hr5⟩ := RK3.out.ex
        injection e5 with e6 e7 e8
        subst e6 e8
        have B3 := Lib.hid (BK.out.trans (b3.mono BK.out.size))
        have s1 := run_str (P := Try.prog) R3 HYL.out 23 9 5 c5 Try.underlying23 Try.underlying5 Try.underlying9
        have s2 := run_str (P := Try.prog) hr5 HL.out 23 9 5 c3 Try.underlying23 Try.underlying5 Try.underlying9
        clear b3 o3 R3 hr5 e7
        go_wp2_with fail
        go_roundg (gk - 1)
        case measure => omega
        case rel => exact ⟨k + 1, by omega, by first | rfl | go_num, by omega, B3, RK3⟩
  · obtain ⟨q, hq⟩ : ∃ q, tokF s a t X' = q := ⟨_, rfl⟩
    rw [hq] at HC hf
    have g0 : (q != 0) = true := by simp [hf]
    clear hf hq
    go_enter Try.func6, Try.ntmps6
    go_wp2_with fail
    refine (HPT.out _).mono ?_
    rintro e w' ⟨rfl, rfl⟩
    go_wp2_with fail
    refine (HM.out _).mono ?_
    rintro e w1 ⟨b1, v1, rfl, o1⟩
    obtain ⟨g, c3, rfl⟩ := Joins.ownsRow_form o1 (by omega)
    obtain ⟨_, h33, h34⟩ := own_bd2 o1
    have hcell := (o1.cellAt i (by omega)).trans HCELL.out
    have hfrz := o1.frozenAt i
    obtain ⟨hst, hgr⟩ := o1.stored i (.int .u8 u)
    rw [HMAP.out] at hst
    have R1 := Lib.hid (own_bsl hst HXB.out)
    have B1 := Lib.hid (gr_from b1 b1.size ((World.ownsRow.lt o1 g rfl).1) hgr)
    clear b1 o1 hst hgr
    go_wp2_with fail
    refine (HPI.out _).mono ?_
    rintro e w' ⟨rfl, rfl⟩
    go_wp2_with fail
    refine (HC.out _ _ (by have := R1.out; exact this)).mono ?_
    rintro e w2 ⟨rfl, b2⟩
    have B2 := Lib.hid (B1.out.trans (b2.mono B1.out.size))
    clear b2 hcell hfrz
    go_wp2_with fail
    go_ret
    exact ⟨rfl, B2.out⟩
end Go.Proofs.Ytncbdcklemkmdaa
