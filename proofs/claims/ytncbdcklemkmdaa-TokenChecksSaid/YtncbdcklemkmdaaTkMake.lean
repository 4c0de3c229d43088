/- Contracts of the project's token.Make and token.Check. -/
import Derived.Test.YtncbdcklemkmdaaTkWord
import Derived.Test.YtncbdcklemkmdaaLkMix
import Derived.Test.YtncbdcklemkmdaaMkRoom
import Derived.Test.YtncbdcklemkmdaaBEqual
namespace Go.Proofs.Ytncbdcklemkmdaa
set_option linter.unusedVariables false
open Go.RowKit P

theorem tk_own {w w' : World} {base e n : Nat} {v : Value} {xs : List Value} (h : w.ownsRow base e 1 v n xs) (hb : Below w.heap.size w w') : w'.ownsRow base e 1 v n xs :=
  World.ownsRow.kept h (⟨hb.os, hb.tape, hb.output, hb.size, fun k hk _ => hb.block k hk⟩ : w.grownBy w' none) (by cases hv : v.ownBlock with | none => exact .inl rfl | some k => exact .inr (by simp))
set_option maxHeartbeats 400000 in
theorem make_any : TokMake Try.prog 8 5 := by
  intro s a now w hs hw
  by_cases h : 0 ≤ now ∧ now ≤ 1099511627776
  · have he : tokE now = 0 := if_pos h
    rw [he, if_pos rfl]
    have ht : decide (0 ≤ now ∧ now ≤ 1099511627776) = true := by simp [h]
    have HT := Lib.hid (fun w => isTime_any now w)
    rw [ht] at HT
    obtain ⟨t, rfl⟩ : ∃ t : Nat, now = t := ⟨now.toNat, by omega⟩
    have htl : t < 18446744073709551616 := by omega
    have hwt : IntKind.u64.wrap (t : Int) = (t : Int) := by rw [IntKind.wrap_u64]; omega
    have HM1 := Lib.hid (fun w => mix_any t htl w)
    have HK := Lib.hid (fun w => key_any s hs a w)
    have hwd : wd (t : Int) = t := by unfold wd; omega
    have HTL := Lib.hid (show tokL s a (t : Int) = lowB 8 ((t : Nat) : Int) ++ lowB 8 ((mx (keyN s a ^^^ mx t) : Nat) : Int) by unfold tokL tokW; rw [hwd])
    have hkl : keyN s a < 18446744073709551616 := by unfold keyN; exact mx_lt _
    have hxo : bits .xor .u64 (keyN s a : Int) (mx t : Int) = ((keyN s a ^^^ mx t : Nat) : Int) := bits_xor_u64_nat _ _ hkl (mx_lt _)
    have HM2 := Lib.hid (fun w => mix_any (keyN s a ^^^ mx t) (xor_lt hkl (mx_lt _)) w)
    have hml := mx_lt (keyN s a ^^^ mx t)
    generalize keyN s a ^^^ mx t = q at *
    generalize mx q = r at *
    generalize mx t = m at *
    generalize keyN s a = k at *
    have HA1 := Lib.hid (fun B0 X A c w hX hB own => appWord_any t htl B0 X A c w hX hB own)
    have HA2 := Lib.hid (fun B0 X A c w hX hB own => appWord_any r hml B0 X A c w hX hB own)
    have HX1 := Lib.hid (lowB_len 8 ((t : Nat) : Int))
    have HX2 := Lib.hid (lowB_len 8 ((r : Nat) : Int))
    obtain ⟨X1, hX1⟩ : ∃ X, lowB 8 ((t : Nat) : Int) = X := ⟨_, rfl⟩
    obtain ⟨X2, hX2⟩ : ∃ X, lowB 8 ((r : Nat) : Int) = X := ⟨_, rfl⟩
    rw [hX1] at HA1 HX1 HTL
    rw [hX2] at HA2 HX2 HTL
    obtain ⟨i0, hi0, hz0, hz1, hz2⟩ := info_parts infoB1
    have HI := Lib.hid hi0
    have HZ := Lib.hid hz0
    have HZ1 := Lib.hid hz1
    have HZ2 := Lib.hid hz2
    rw [HTL.out]
    clear hX1 hX2 hi0 hz0 hz1 hz2 hml htl hwd hkl hs ht h hw he
    go_enter Try.func8, Try.ntmps8
    go_wp2_with fail
    refine (HT.out _).mono ?_
    rintro e w' ⟨rfl, rfl⟩
    go_wp2_with (at_make
                 refine wpList_make_room _ rfl _ _ _ rfl w'.heap.size 5 i0 _ Try.underlying23 HI.out HZ.out HZ1.out rfl _ _ _ _ 0 16 rfl rfl rfl rfl (by omega) (by rw [HZ2.out]; omega) (by unfold maxLen; omega) (Nat.le_refl _) ?_
                 intro w3 own3 g3
                 have O3 := Lib.hid (show w3.ownsRow w'.heap.size 5 1 (.slice (some ⟨w'.heap.size, 0, none⟩) ([] : List Int).length 16) ([] : List Int).length (([] : List Int).map (.int .u8)) from own3)
                 have B3 := Lib.hid ((Below.refl w'.heap.size w').grown g3 (Nat.le_refl _) (fun _ h => by cases h))
                 clear own3 g3)
    refine (HA1.out w'.heap.size [] _ _ _ (by simp) B3.out.size O3.out).mono ?_
    rintro e w4 ⟨b4, d4, rfl, o4⟩
    rw [List.nil_append] at o4
    obtain ⟨A4, c4, rfl, _, _⟩ := own_slice o4
    have B4 := Lib.hid (B3.out.trans b4)
    have O4 := Lib.hid o4
    clear b4 o4
    go_wp2_with fail
    refine (HK.out _).mono ?_
    rintro e w5 ⟨rfl, b5⟩
    have B5 := Lib.hid (B4.out.trans (b5.mono B4.out.size))
    have O5 := Lib.hid (tk_own O4.out b5)
    clear b5
    go_wp2_with fail
    refine (HM1.out _).mono ?_
    rintro e w6 ⟨rfl, b6⟩
    have B6 := Lib.hid (B5.out.trans (b6.mono B5.out.size))
    have O6 := Lib.hid (tk_own O5.out b6)
    clear b6
    go_wp2_with fail
    refine (HM2.out _).mono ?_
    rintro e w7 ⟨rfl, b7⟩
    have B7 := Lib.hid (B6.out.trans (b7.mono B6.out.size))
    have O7 := Lib.hid (tk_own O6.out b7)
    clear b7
    go_wp2_with fail
    refine (HA2.out w'.heap.size X1 _ _ _ (by have := HX1.out; omega) B7.out.size O7.out).mono ?_
    rintro e w8 ⟨b8, d8, rfl, o8⟩
    have B8 := Lib.hid (B7.out.trans b8)
    have O8 := Lib.hid o8
    clear b8 o8
    go_wp2_with fail
    go_ret2
    exact ⟨B8.out, _, rfl, O8.out⟩
  · have he : tokE now = 6 := if_neg h
    rw [he, if_neg (by decide)]
    have ht : decide (0 ≤ now ∧ now ≤ 1099511627776) = false := by simp; omega
    have HT := Lib.hid (fun w => isTime_any now w)
    rw [ht] at HT
    clear h ht
    go_enter Try.func8, Try.ntmps8
    go_wp2_with fail
    refine (HT.out _).mono ?_
    rintro e w' ⟨rfl, rfl⟩
    go_wp2_with fail
    go_ret2
    exact ⟨Below.refl _ _, _, rfl, ⟨rfl, .inl ⟨rfl, rfl⟩⟩⟩

theorem tokF_time {s : Nat} {a now : Int} {zs : List Int} (h : ¬(0 ≤ now ∧ now ≤ 1099511627776)) : tokF s a now zs = 6 := by
  unfold tokF; rw [if_pos h]
theorem tokF_form {s : Nat} {a now : Int} {zs : List Int} (h : 0 ≤ now ∧ now ≤ 1099511627776) (hl : zs.length ≠ 16) : tokF s a now zs = 3 := by
  unfold tokF; rw [if_neg (fun k => k h), if_pos hl]
theorem tokF_rest {s : Nat} {a now y : Int} {zs : List Int} (h : 0 ≤ now ∧ now ≤ 1099511627776) (hl : zs.length = 16) (hy : beFrom 0 (zs.take 8) = y) :
    tokF s a now zs = if 1099511627776 < y then 10 else if tokL s a y ≠ zs then 10 else if ¬(0 ≤ now - y ∧ now - y ≤ 50) then 16 else 0 := by
  unfold tokF; rw [if_neg (fun k => k h), if_neg (fun k => k hl), hy]
theorem chk_early (s : Nat) (a now : Int) (A : Option Addr) (n c : Nat) (w : World) (h : ¬(0 ≤ now ∧ now ≤ 1099511627776)) :
    Calls Try.prog 11 #[.int .u64 s, .int .i64 a, .int .i64 now, .slice A n c] w fun e w' => e = .returned (.int .i64 6) ∧ Below w.heap.size w w' := by
  have ht : decide (0 ≤ now ∧ now ≤ 1099511627776) = false := by simp; omega
  have HT := Lib.hid (fun w => isTime_any now w)
  rw [ht] at HT
  clear h ht
  go_enter Try.func11, Try.ntmps11
  go_wp2_with fail
  refine (HT.out _).mono ?_
  rintro e w' ⟨rfl, rfl⟩
  go_wp2_with fail
  go_ret
  exact ⟨rfl, Below.refl _ _⟩
theorem chk_form (s : Nat) (a now : Int) (A : Option Addr) (n c : Nat) (w : World) (h : 0 ≤ now ∧ now ≤ 1099511627776) (hn : n ≠ 16) :
    Calls Try.prog 11 #[.int .u64 s, .int .i64 a, .int .i64 now, .slice A n c] w fun e w' => e = .returned (.int .i64 3) ∧ Below w.heap.size w w' := by
  have ht : decide (0 ≤ now ∧ now ≤ 1099511627776) = true := by simp; omega
  have HT := Lib.hid (fun w => isTime_any now w)
  rw [ht] at HT
  have g : ((n : Int) != 16) = true := by simp; omega
  clear h ht
  go_enter Try.func11, Try.ntmps11
  go_wp2_with fail
  refine (HT.out _).mono ?_
  rintro e w' ⟨rfl, rfl⟩
  go_wp2_with fail
  go_ret
  exact ⟨rfl, Below.refl _ _⟩
set_option maxHeartbeats 1000000 in
theorem chk_rest (s : Nat) (hs : s < 18446744073709551616) (a now : Int) (A : Option Addr) (c : Nat) (zs : List Int) (w : World) (h : 0 ≤ now ∧ now ≤ 1099511627776) (hl : zs.length = 16) (hc : 16 ≤ c) (hm : c ≤ maxLen) (hn : A = none → c = 0) (hr : BRow w w.heap.size A zs) :
    Calls Try.prog 11 #[.int .u64 s, .int .i64 a, .int .i64 now, .slice A 16 c] w fun e w' => e = .returned (.int .i64 (tokF s a now zs)) ∧ Below w.heap.size w w' := by
  have ht : decide (0 ≤ now ∧ now ≤ 1099511627776) = true := by simp; omega
  have HT := Lib.hid (fun w => isTime_any now w)
  rw [ht] at HT
  have hbe := beFrom_all 0 (zs.take 8) (hr.1.take 8) (Int.le_refl 0)
  rw [List.length_take, hl] at hbe
  have HFW := Lib.hid (fun w hr => firstWord_any A 16 c zs w (by omega) hl.symm hc hm hr)
  obtain ⟨y, hy⟩ : ∃ y, beFrom 0 (zs.take 8) = y := ⟨_, rfl⟩
  have HF := Lib.hid (tokF_rest (s := s) (a := a) h hl hy)
  rw [hy] at hbe HFW
  have y0 : 0 ≤ y := hbe.1
  have y1 : y ≤ 18446744073709551615 := by have := hbe.2; simp at this; omega
  have HR := Lib.hid hr
  have V : Hid (BSl w w.heap.size (.slice A 16 c) zs) := Lib.hid ⟨A, c, by rw [hl], by omega, hm, hn, hr⟩
  rw [HF.out]
  have n0 := h.1
  have n1 := h.2
  clear hbe hr hy hn hl HF ht h
  by_cases g : 1099511627776 < y
  · rw [if_pos g]
    obtain ⟨u, hu⟩ : ∃ u, IntKind.i64.wrap y = u := ⟨_, rfl⟩
    have hub : -9223372036854775808 ≤ u ∧ u ≤ 9223372036854775807 := by rw [← hu, IntKind.wrap_i64]; omega
    have hue : tokE u = 6 := if_neg (by rw [← hu, IntKind.wrap_i64]; omega)
    have HM := Lib.hid (fun w => make_any s a u w hs hub)
    rw [hue, if_neg (by decide)] at HM
    clear hue g hub
    go_enter Try.func11, Try.ntmps11
    go_wp2_with fail
    refine (HT.out _).mono ?_
    rintro e w' ⟨rfl, rfl⟩
    go_wp2_with fail
    refine (HFW.out _ HR.out).mono ?_
    rintro e w' ⟨rfl, rfl⟩
    go_wp2_with fail
    refine (HM.out _).mono ?_
    rintro e w1 ⟨b1, d1, rfl, o1⟩
    have B1 := Lib.hid b1
    clear b1 o1
    go_wp2_with fail
    go_ret
    exact ⟨rfl, B1.out⟩
  · rw [if_neg g]
    have hu : IntKind.i64.wrap y = y := by rw [IntKind.wrap_i64]; omega
    have hue : tokE y = 0 := if_pos ⟨y0, by omega⟩
    have HM := Lib.hid (fun w => make_any s a y w hs (by omega))
    rw [hue, if_pos rfl] at HM
    have HTB := Lib.hid (tokL_byt s a y)
    obtain ⟨X, hX⟩ : ∃ X, tokL s a y = X := ⟨_, rfl⟩
    rw [hX] at HM HTB ⊢
    have hwd : IntKind.i64.wrap (now - y) = now - y := by rw [IntKind.wrap_i64]; omega
    have HEQ := Lib.hid (fun (d : Value) (w : World) (h1 : BSl w w.heap.size (.slice A 16 c) zs) (h2 : BSl w w.heap.size d X) => bequal_any (.slice A 16 c) d zs X w h1 h2)
    clear hX hue hs
    by_cases q : X = zs
    · rw [if_neg (fun k => k q)]
      have q' : decide (zs = X) = true := by simp [q]
      rw [q'] at HEQ
      clear q q'
      by_cases k : y ≤ now
      · by_cases k2 : now - y ≤ 50
        · rw [if_neg (fun h => h ⟨by omega, k2⟩)]
          go_enter Try.func11, Try.ntmps11
          go_wp2_with fail
          refine (HT.out _).mono ?_
          rintro e w' ⟨rfl, rfl⟩
          go_wp2_with fail
          refine (HFW.out _ HR.out).mono ?_
          rintro e w' ⟨rfl, rfl⟩
          go_wp2_with fail
          refine (HM.out _).mono ?_
          rintro e w1 ⟨b1, d1, rfl, o1⟩
          have B1 := Lib.hid b1
          have V2 := Lib.hid (own_bsl o1 HTB.out)
          have V1 := Lib.hid ((V.out.below b1).more b1.size)
          clear b1 o1
          go_wp2_with fail
          refine (HEQ.out _ _ V1.out V2.out).mono ?_
          rintro e w' ⟨rfl, rfl⟩
          go_wp2_with fail
          go_ret
          exact ⟨by simp [Int.not_lt.2 k, k2], B1.out⟩
        · rw [if_pos (by omega)]
          go_enter Try.func11, Try.ntmps11
          go_wp2_with fail
          refine (HT.out _).mono ?_
          rintro e w' ⟨rfl, rfl⟩
          go_wp2_with fail
          refine (HFW.out _ HR.out).mono ?_
          rintro e w' ⟨rfl, rfl⟩
          go_wp2_with fail
          refine (HM.out _).mono ?_
          rintro e w1 ⟨b1, d1, rfl, o1⟩
          have B1 := Lib.hid b1
          have V2 := Lib.hid (own_bsl o1 HTB.out)
          have V1 := Lib.hid ((V.out.below b1).more b1.size)
          clear b1 o1
          go_wp2_with fail
          refine (HEQ.out _ _ V1.out V2.out).mono ?_
          rintro e w' ⟨rfl, rfl⟩
          go_wp2_with fail
          go_ret
          exact ⟨by simp [Int.not_lt.2 k, k2], B1.out⟩
      · rw [if_pos (by omega)]
        go_enter Try.func11, Try.ntmps11
        go_wp2_with fail
        refine (HT.out _).mono ?_
        rintro e w' ⟨rfl, rfl⟩
        go_wp2_with fail
        refine (HFW.out _ HR.out).mono ?_
        rintro e w' ⟨rfl, rfl⟩
        go_wp2_with fail
        refine (HM.out _).mono ?_
        rintro e w1 ⟨b1, d1, rfl, o1⟩
        have B1 := Lib.hid b1
        have V2 := Lib.hid (own_bsl o1 HTB.out)
        have V1 := Lib.hid ((V.out.below b1).more b1.size)
        clear b1 o1
        go_wp2_with fail
        refine (HEQ.out _ _ V1.out V2.out).mono ?_
        rintro e w' ⟨rfl, rfl⟩
        go_wp2_with fail
        go_ret
        exact ⟨by simp [k], B1.out⟩
    · rw [if_pos q]
      have q' : decide (zs = X) = false := decide_eq_false (fun k => q k.symm)
      rw [q'] at HEQ
      clear q q'
      go_enter Try.func11, Try.ntmps11
      go_wp2_with fail
      refine (HT.out _).mono ?_
      rintro e w' ⟨rfl, rfl⟩
      go_wp2_with fail
      refine (HFW.out _ HR.out).mono ?_
      rintro e w' ⟨rfl, rfl⟩
      go_wp2_with fail
      refine (HM.out _).mono ?_
      rintro e w1 ⟨b1, d1, rfl, o1⟩
      have B1 := Lib.hid b1
      have V2 := Lib.hid (own_bsl o1 HTB.out)
      have V1 := Lib.hid ((V.out.below b1).more b1.size)
      clear b1 o1
      go_wp2_with fail
      refine (HEQ.out _ _ V1.out V2.out).mono ?_
      rintro e w' ⟨rfl, rfl⟩
      go_wp2_with fail
      go_ret
      exact ⟨rfl, B1.out⟩
theorem check_any : TokChk Try.prog 11 := by
  intro s a now v zs w hs hw hv hl
  obtain ⟨A, c, rfl, hc, hm, hn, hr⟩ := hv.ex
  by_cases h : 0 ≤ now ∧ now ≤ 1099511627776
  · by_cases hl : zs.length = 16
    · rw [hl]
      exact chk_rest s hs a now A c zs w h hl (by omega) hm hn hr
    · rw [tokF_form h hl]
      exact chk_form s a now A zs.length c w h hl
  · rw [tokF_time h]
    exact chk_early s a now A _ c w h
end Go.Proofs.Ytncbdcklemkmdaa
