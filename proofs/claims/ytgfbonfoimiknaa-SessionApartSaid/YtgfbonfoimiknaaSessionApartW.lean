/- The walk of SessionApart. -/
import Derived.Test.YtgfbonfoimiknaaGtKeys
namespace Go.Proofs.Ytgfbonfoimiknaa
set_option linter.unusedVariables false
set_option maxRecDepth 100000
open Go.RowKit P

theorem sessionApart_walk (a b c d : Int) (a0 : -9223372036854775808 ≤ a ∧ a ≤ 9223372036854775807) (b0 : -9223372036854775808 ≤ b ∧ b ≤ 9223372036854775807) (c0 : -9223372036854775808 ≤ c ∧ c ≤ 9223372036854775807) (d0 : -9223372036854775808 ≤ d ∧ d ≤ 9223372036854775807) (w : World) :
    Calls Try.prog 16 #[.int .i64 a, .int .i64 b, .int .i64 c, .int .i64 d] w fun e w' => e = .returned (.bool true) ∧ Below w.heap.size w w' := by
  have hw : ∀ n : Int, IntKind.u64.wrap n = (wd n : Int) := fun n => by rw [IntKind.wrap_u64]; unfold wd; omega
  have ha := hw a
  have hb := hw b
  have hc := hw c
  have hd := hw d
  have S1 := Lib.hid (fun w => session_any (wd a) (wd c) (wd_lt a) (wd_lt c) w)
  have S2 := Lib.hid (fun w => session_any (wd b) (wd c) (wd_lt b) (wd_lt c) w)
  have S3 := Lib.hid (fun w => session_any (wd a) (wd d) (wd_lt a) (wd_lt d) w)
  have W1 := Lib.hid (fun w => way_any (sesN (wd a) (wd c)) (sesN_lt _ _) true w)
  have W2 := Lib.hid (fun w => way_any (sesN (wd a) (wd c)) (sesN_lt _ _) false w)
  have W3 := Lib.hid (fun w => way_any (sesN (wd b) (wd c)) (sesN_lt _ _) true w)
  have F1 := Lib.hid (fun w => first_any a w)
  have F2 := Lib.hid (fun w => first_any b w)
  have hq : (((sesN (wd a) (wd c) : Nat) : Int) == ((sesN (wd b) (wd c) : Nat) : Int)) = decide (a = b) ∧ (((sesN (wd a) (wd c) : Nat) : Int) == ((sesN (wd a) (wd d) : Nat) : Int)) = decide (c = d) ∧ (((wayN (sesN (wd a) (wd c)) true : Nat) : Int) == ((wayN (sesN (wd a) (wd c)) false : Nat) : Int)) = false
      ∧ (((wayN (sesN (wd a) (wd c)) true : Nat) : Int) == ((wayN (sesN (wd b) (wd c)) true : Nat) : Int)) = decide (a = b) ∧ (((keyN 1 a : Nat) : Int) == ((keyN 1 b : Nat) : Int)) = decide (a = b) ∧ (a == b) = decide (a = b) ∧ (c == d) = decide (c = d) := by
    have k3 := wayN_apart (sesN_lt (wd a) (wd c))
    have k3' : (((wayN (sesN (wd a) (wd c)) true : Nat) : Int) == ((wayN (sesN (wd a) (wd c)) false : Nat) : Int)) = false := beq_eq_false_iff_ne.2 (by omega)
    have kcd : (((sesN (wd a) (wd c) : Nat) : Int) == ((sesN (wd a) (wd d) : Nat) : Int)) = decide (c = d) ∧ (c == d) = decide (c = d) := by
      by_cases h : c = d
      · rw [h]; simp
      · have e1 : sesN (wd a) (wd c) ≠ sesN (wd a) (wd d) := fun e => h (wd_inj c0 d0 (sesN_inj2 (wd_lt a) (wd_lt c) (wd_lt d) e))
        rw [decide_eq_false h]
        exact ⟨beq_eq_false_iff_ne.2 (by omega), beq_eq_false_iff_ne.2 h⟩
    have kab : (((sesN (wd a) (wd c) : Nat) : Int) == ((sesN (wd b) (wd c) : Nat) : Int)) = decide (a = b) ∧ (((wayN (sesN (wd a) (wd c)) true : Nat) : Int) == ((wayN (sesN (wd b) (wd c)) true : Nat) : Int)) = decide (a = b) ∧ (((keyN 1 a : Nat) : Int) == ((keyN 1 b : Nat) : Int)) = decide (a = b) ∧ (a == b) = decide (a = b) := by
      by_cases h : a = b
      · rw [h]; simp
      · have e1 : sesN (wd a) (wd c) ≠ sesN (wd b) (wd c) := fun e => h (wd_inj a0 b0 (sesN_inj1 (wd_lt a) (wd_lt b) e))
        have e2 : wayN (sesN (wd a) (wd c)) true ≠ wayN (sesN (wd b) (wd c)) true := fun e => e1 (wayN_inj (sesN_lt _ _) (sesN_lt _ _) e)
        have e3 : keyN 1 a ≠ keyN 1 b := fun e => h (keyN_inj a0 b0 e)
        rw [decide_eq_false h]
        exact ⟨beq_eq_false_iff_ne.2 (by omega), beq_eq_false_iff_ne.2 (by omega), beq_eq_false_iff_ne.2 (by omega), beq_eq_false_iff_ne.2 h⟩
    exact ⟨kab.1, kcd.1, k3', kab.2.1, kab.2.2.1, kab.2.2.2, kcd.2⟩
  obtain ⟨q1, q2, q3, q4, q5, q6, q7⟩ := hq
  generalize decide (a = b) = t at *
  generalize decide (c = d) = t' at *
  clear hw a0 b0 c0 d0
  generalize wayN (sesN (wd a) (wd c)) true = x1 at *
  generalize wayN (sesN (wd a) (wd c)) false = x2 at *
  generalize wayN (sesN (wd b) (wd c)) true = x3 at *
  generalize sesN (wd a) (wd c) = y1 at *
  generalize sesN (wd b) (wd c) = y2 at *
  generalize sesN (wd a) (wd d) = y3 at *
  generalize keyN 1 a = ka at *
  generalize keyN 1 b = kb at *
  generalize wd a = da at *
  generalize wd b = db at *
  generalize wd c = dc at *
  generalize wd d = dd at *
  have q3' : ((x1 : Int) != (x2 : Int)) = true := by simp [bne, q3]
  go_enter Try.func16, Try.ntmps16
  go_wp2_with fail
  refine (S1.out _).mono ?_
  rintro e w1 ⟨rfl, b1⟩
  have B1 := Lib.hid b1
  clear b1
  go_wp2_with fail
  refine (S2.out _).mono ?_
  rintro e w2 ⟨rfl, b2⟩
  have B2 := Lib.hid (B1.out.trans (b2.mono B1.out.size))
  clear b2
  go_wp2_with fail
  refine (S3.out _).mono ?_
  rintro e w3 ⟨rfl, b3⟩
  have B3 := Lib.hid (B2.out.trans (b3.mono B2.out.size))
  clear b3
  go_wp2_with fail
  refine (W1.out _).mono ?_
  rintro e w4 ⟨rfl, b4⟩
  have B4 := Lib.hid (B3.out.trans (b4.mono B3.out.size))
  clear b4
  go_wp2_with fail
  refine (W2.out _).mono ?_
  rintro e w5 ⟨rfl, b5⟩
  have B5 := Lib.hid (B4.out.trans (b5.mono B4.out.size))
  clear b5
  go_wp2_with fail
  refine (W1.out _).mono ?_
  rintro e w6 ⟨rfl, b6⟩
  have B6 := Lib.hid (B5.out.trans (b6.mono B5.out.size))
  clear b6
  go_wp2_with fail
  refine (W3.out _).mono ?_
  rintro e w7 ⟨rfl, b7⟩
  have B7 := Lib.hid (B6.out.trans (b7.mono B6.out.size))
  clear b7
  go_wp2_with fail
  refine (F1.out _).mono ?_
  rintro e w8 ⟨rfl, b8⟩
  have B8 := Lib.hid (B7.out.trans (b8.mono B7.out.size))
  clear b8
  go_wp2_with fail
  refine (F2.out _).mono ?_
  rintro e w9 ⟨rfl, b9⟩
  have B9 := Lib.hid (B8.out.trans (b9.mono B8.out.size))
  clear b9
  go_wp2_with fail
  go_ret
  exact ⟨by simp, B9.out⟩
end Go.Proofs.Ytgfbonfoimiknaa
