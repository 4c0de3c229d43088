/- The document's answers on tokens: TokenOf, TokenFault. -/
import Derived.Test.YtncbdcklemkmdaaTkMath
import Derived.Test.YtncbdcklemkmdaaRefMix
import Derived.Test.YtncbdcklemkmdaaBig
import Derived.Test.YtncbdcklemkmdaaRefUp2
import Derived.Test.YtncbdcklemkmdaaRefNum
import Derived.Test.YtncbdcklemkmdaaConvS
namespace Go.Proofs.Ytncbdcklemkmdaa
set_option linter.unusedVariables false
open Go.RowKit P

/-- what the document's maker of tokens says -/
def TokOut (s : Nat) (a now : Int) (w : World) (e : Ending) (w' : World) : Prop := Below w.heap.size w w' ∧ ∃ d, e = .returned (.tuple #[d, .int .i64 (tokE now)]) ∧ BSl w' w'.heap.size d (if tokE now = 0 then tokL s a now else [])
theorem refTok_any (s : Nat) (hs : s < 18446744073709551616) (a now : Int) (w : World) :
    Calls Try.prog 9 #[.int .u64 s, .int .i64 a, .int .i64 now] w (TokOut s a now w) := by
  by_cases h : 0 ≤ now ∧ now ≤ 1099511627776
  · have he : tokE now = 0 := if_pos h
    unfold TokOut
    rw [he, if_pos rfl]
    have u1 : upB2 now 1099511627776 = true := by unfold upB2; simp [h]
    have hwd : IntKind.u64.wrap now = now := by rw [IntKind.wrap_u64]; omega
    have hwn : (wd now : Int) = now := by unfold wd; omega
    have HB8 := Lib.hid (fun w => big_any now 8 h.1 (by omega) (by omega) w)
    have HK := Lib.hid (fun w => refKey_any s hs a w)
    have HM : Hid (∀ w, Calls Try.prog 20 #[.int .u64 now] w fun e w' => e = .returned (.int .u64 (mx (wd now))) ∧ Below w.heap.size w w') := Lib.hid (fun w => by have := refMix_any (wd now) (wd_lt now) w; rwa [hwn] at this)
    have hx : bits .xor .u64 (keyN s a : Int) (mx (wd now) : Int) = ((keyN s a ^^^ mx (wd now) : Nat) : Int) := bits_xor_u64_nat _ _ (by unfold keyN; exact mx_lt _) (mx_lt _)
    have HW : Hid (∀ w, Calls Try.prog 20 #[.int .u64 ((keyN s a ^^^ mx (wd now) : Nat) : Int)] w fun e w' => e = .returned (.int .u64 (tokW s a now)) ∧ Below w.heap.size w w') := Lib.hid (fun w => refMix_any _ (xor_lt (by unfold keyN; exact mx_lt _) (mx_lt _)) w)
    have HBW := Lib.hid (fun w => big_any (tokW s a now) 8 (by omega) (by have := tokW_lt s a now; omega) (by omega) w)
    have hl := tokL_len s a now
    have hst : strOfNums (lowB 8 now) ++ strOfNums (lowB 8 (tokW s a now)) = strOfNums (tokL s a now) := str_cat _ _
    have l1 : (strOfNums (lowB 8 now)).size = 8 := by rw [strOfNums_size, lowB_len]
    have l2 : (strOfNums (lowB 8 (tokW s a now))).size = 8 := by rw [strOfNums_size, lowB_len]
    have HL := Lib.hid hl
    have HST := Lib.hid hst
    have HCV := Lib.hid (fun w => conv_str (tokL s a now) (tokL_byt s a now) (by rw [hl]; omega) w)
    have HE := Lib.hid he
    generalize tokL s a now = X at *
    generalize tokW s a now = t at *
    generalize keyN s a = k at *
    generalize hm : mx (wd now) = m at *
    generalize k ^^^ m = km at *
    generalize strOfNums (lowB 8 now) = S1 at *
    generalize strOfNums (lowB 8 (t : Int)) = S2 at *
    clear he hl hs hm
    go_enter Try.func9, Try.ntmps9
    go_wp2_with (go_at_call 18; refine (upTo_any _ _ _).mono ?_; rintro e w' ⟨rfl, rfl⟩)
    refine (HB8.out _).mono ?_
    rintro e w1 ⟨rfl, b1⟩
    have B1 := Lib.hid b1
    clear b1
    go_wp2_with fail
    refine (HK.out _).mono ?_
    rintro e w2 ⟨rfl, b2⟩
    have B2 := Lib.hid (B1.out.trans (b2.mono B1.out.size))
    clear b2
    go_wp2_with fail
    refine (HM.out _).mono ?_
    rintro e w3 ⟨rfl, b3⟩
    have B3 := Lib.hid (B2.out.trans (b3.mono B2.out.size))
    clear b3
    go_wp2_with fail
    refine (HW.out _).mono ?_
    rintro e w4 ⟨rfl, b4⟩
    have B4 := Lib.hid (B3.out.trans (b4.mono B3.out.size))
    clear b4
    go_wp2_with fail
    refine (HBW.out _).mono ?_
    rintro e w5 ⟨rfl, b5⟩
    have B5 := Lib.hid (B4.out.trans (b5.mono B4.out.size))
    clear b5
    obtain ⟨C, w6, hrun, b6, _, hd6⟩ := HCV.out w5
    have B6 := Lib.hid (B5.out.trans (b6.mono B5.out.size))
    have HD6 := Lib.hid hd6
    clear b6 hd6
    go_wp2_with fail
    go_ret2
    exact ⟨B6.out, _, rfl, HD6.out⟩
  · have he : tokE now = 6 := if_neg h
    have u1 : upB2 now 1099511627776 = false := by unfold upB2; simp; omega
    have HE := Lib.hid he
    clear he h
    unfold TokOut
    rw [HE.out, if_neg (by decide)]
    go_enter Try.func9, Try.ntmps9
    go_wp2_with (go_at_call 18; refine (upTo_any _ _ _).mono ?_; rintro e w' ⟨rfl, rfl⟩)
    go_ret2
    exact ⟨Below.refl _ _, _, rfl, BSl.nil _ _⟩

theorem refTokF_time (s : Nat) (a now : Int) (v : Value) (zs : List Int) (w : World) (h : ¬(0 ≤ now ∧ now ≤ 1099511627776)) :
    Calls Try.prog 12 #[.int .u64 s, .int .i64 a, .int .i64 now, v] w fun e w' => e = .returned (.int .i64 6) ∧ Below w.heap.size w w' := by
  have u1 : upB2 now 1099511627776 = false := by unfold upB2; simp; omega
  clear h
  go_enter Try.func12, Try.ntmps12
  go_wp2_with (go_at_call 18; refine (upTo_any _ _ _).mono ?_; rintro e w' ⟨rfl, rfl⟩)
  go_ret
  exact ⟨rfl, Below.refl _ _⟩
theorem refTokF_form (s : Nat) (a now : Int) (A : Option Addr) (n c : Nat) (w : World) (u1 : upB2 now 1099511627776 = true) (hn : n ≠ 16) :
    Calls Try.prog 12 #[.int .u64 s, .int .i64 a, .int .i64 now, .slice A n c] w fun e w' => e = .returned (.int .i64 3) ∧ Below w.heap.size w w' := by
  have g : ((n : Int) != 16) = true := by simp; omega
  go_enter Try.func12, Try.ntmps12
  go_wp2_with (go_at_call 18; refine (upTo_any _ _ _).mono ?_; rintro e w' ⟨rfl, rfl⟩)
  go_ret
  exact ⟨rfl, Below.refl _ _⟩
set_option maxHeartbeats 1000000 in
theorem refTokF_any (s : Nat) (hs : s < 18446744073709551616) (a now : Int) (v : Value) (zs : List Int) (w : World) (hv : BSl w w.heap.size v zs) (hw : -9223372036854775808 ≤ now ∧ now ≤ 9223372036854775807) :
    Calls Try.prog 12 #[.int .u64 s, .int .i64 a, .int .i64 now, v] w fun e w' => e = .returned (.int .i64 (tokF s a now zs)) ∧ Below w.heap.size w w' := by
  by_cases h : 0 ≤ now ∧ now ≤ 1099511627776
  · have u1 : upB2 now 1099511627776 = true := by unfold upB2; simp [h]
    obtain ⟨A, c, rfl, hc, hm, hn, hr⟩ := hv.ex
    by_cases hl : zs.length = 16
    · have hb := hr.1
      have hbe := beFrom_all 0 (zs.take 8) (hb.take 8) (Int.le_refl 0)
      rw [List.length_take, hl] at hbe
      have HZS := Lib.hid (show tokF s a now zs = (if 1099511627776 < beFrom 0 (zs.take 8) then 10 else if tokL s a (beFrom 0 (zs.take 8)) ≠ zs then 10 else if ¬(0 ≤ now - beFrom 0 (zs.take 8) ∧ now - beFrom 0 (zs.take 8) ≤ 50) then 16 else 0) by unfold tokF; rw [if_neg (by omega), if_neg (by omega)])
      rw [hl]
      have hc16 : 16 ≤ c := by omega
      obtain ⟨y, hy⟩ : ∃ y, beFrom 0 (zs.take 8) = y := ⟨_, rfl⟩
      rw [hy] at hbe HZS
      have y0 : 0 ≤ y := hbe.1
      have y1 : y ≤ 18446744073709551615 := by have := hbe.2; simp at this; omega
      have HR := Lib.hid hr
      have HL := Lib.hid hl
      have HNUM : Hid (∀ w, Calls Try.prog 24 #[.string (strOfNums (zs.take 8))] w fun e w' => e = .returned (.int .u64 y) ∧ w = w') := Lib.hid (fun w => hy ▸ refnum_any _ (zs.take 8) rfl (hb.take 8) (by rw [List.length_take]; omega) w)
      have s8 := run_str (P := Try.prog) (n := 8) (hr.take 8) (by rw [List.length_take]; omega) 23 9 5 c Try.underlying23 Try.underlying5 Try.underlying9
      have HBT := Lib.hid hb
      unfold maxLen at hm
      clear hv hr hb hbe hy hl hn
      rw [HZS.out]
      by_cases g : 1099511627776 < y
      · rw [if_pos g]
        go_enter Try.func12, Try.ntmps12
        go_wp2_with (first
          | (go_at_call 18; refine (upTo_any _ _ _).mono ?_; rintro e w' ⟨rfl, rfl⟩)
          | (go_at_call 24; refine (HNUM.out _).mono ?_; rintro e w' ⟨rfl, rfl⟩))
        go_ret
        exact ⟨rfl, Below.refl _ _⟩
      · rw [if_neg g]
        have HT := Lib.hid (fun w => refTok_any s hs a y w)
        have hte : tokE y = 0 := if_pos ⟨y0, by omega⟩
        unfold TokOut at HT
        rw [hte, if_pos rfl] at HT
        have hwy : IntKind.i64.wrap y = y := by rw [IntKind.wrap_i64]; omega
        have htl := tokL_len s a y
        have htb := tokL_byt s a y
        obtain ⟨X, hX⟩ : ∃ X, tokL s a y = X := ⟨_, rfl⟩
        rw [hX] at HT htl htb ⊢
        have HTL := Lib.hid htl
        have HTB := Lib.hid htb
        clear hte hX htl htb
        by_cases q : X = zs
        · have q' : ((strOfNums X).toList == (strOfNums zs).toList) = true := by rw [q]; simp
          rw [if_neg (fun h => h q)]
          clear q
          have hwd : IntKind.i64.wrap (now - y) = now - y := by rw [IntKind.wrap_i64]; omega
          by_cases k : 0 ≤ now - y ∧ now - y ≤ 50
          · have u2 : upB2 (now - y) 50 = true := by unfold upB2; simp; omega
            rw [if_neg (fun h => h k)]
            go_enter Try.func12, Try.ntmps12
            go_wp2_with (first
              | (go_at_call 18; refine (upTo_any _ _ _).mono ?_; rintro e w' ⟨rfl, rfl⟩)
              | (go_at_call 24; refine (HNUM.out _).mono ?_; rintro e w' ⟨rfl, rfl⟩)
              | (go_at_call 9; refine (HT.out _).mono ?_; rintro e w1 ⟨b1, d1, rfl, hd1⟩; obtain ⟨A1, c1, rfl, _, _, _, hr1⟩ := hd1.ex; have B1 := Lib.hid b1; have s1 := run_str (P := Try.prog) hr1 rfl 23 9 5 c1 Try.underlying23 Try.underlying5 Try.underlying9; have s2 := run_str (P := Try.prog) (HR.out.below b1) HL.out 23 9 5 c Try.underlying23 Try.underlying5 Try.underlying9; clear b1 hd1 hr1))
            go_ret
            exact ⟨rfl, B1.out⟩
          · have u2 : upB2 (now - y) 50 = false := by unfold upB2; simp; omega
            rw [if_pos k]
            go_enter Try.func12, Try.ntmps12
            go_wp2_with (first
              | (go_at_call 18; refine (upTo_any _ _ _).mono ?_; rintro e w' ⟨rfl, rfl⟩)
              | (go_at_call 24; refine (HNUM.out _).mono ?_; rintro e w' ⟨rfl, rfl⟩)
              | (go_at_call 9; refine (HT.out _).mono ?_; rintro e w1 ⟨b1, d1, rfl, hd1⟩; obtain ⟨A1, c1, rfl, _, _, _, hr1⟩ := hd1.ex; have B1 := Lib.hid b1; have s1 := run_str (P := Try.prog) hr1 rfl 23 9 5 c1 Try.underlying23 Try.underlying5 Try.underlying9; have s2 := run_str (P := Try.prog) (HR.out.below b1) HL.out 23 9 5 c Try.underlying23 Try.underlying5 Try.underlying9; clear b1 hd1 hr1))
            go_ret
            exact ⟨rfl, B1.out⟩
        · have q' : ((strOfNums X).toList == (strOfNums zs).toList) = false := by rw [tk_eqB HTB.out HBT.out]; simpa using q
          rw [if_pos q]
          go_enter Try.func12, Try.ntmps12
          go_wp2_with (first
            | (go_at_call 18; refine (upTo_any _ _ _).mono ?_; rintro e w' ⟨rfl, rfl⟩)
            | (go_at_call 24; refine (HNUM.out _).mono ?_; rintro e w' ⟨rfl, rfl⟩)
            | (go_at_call 9; refine (HT.out _).mono ?_; rintro e w1 ⟨b1, d1, rfl, hd1⟩; obtain ⟨A1, c1, rfl, _, _, _, hr1⟩ := hd1.ex; have B1 := Lib.hid b1; have s1 := run_str (P := Try.prog) hr1 rfl 23 9 5 c1 Try.underlying23 Try.underlying5 Try.underlying9; have s2 := run_str (P := Try.prog) (HR.out.below b1) HL.out 23 9 5 c Try.underlying23 Try.underlying5 Try.underlying9; clear b1 hd1 hr1))
          go_ret
          exact ⟨rfl, B1.out⟩
    · have hf : tokF s a now zs = 3 := by unfold tokF; rw [if_neg (by omega), if_pos hl]
      rw [hf]
      exact refTokF_form s a now A zs.length c w u1 hl
  · have hf : tokF s a now zs = 6 := by unfold tokF; rw [if_pos h]
    rw [hf]
    exact refTokF_time s a now v zs w h
end Go.Proofs.Ytncbdcklemkmdaa
