/- The document's answers on heads: HeadFault. -/
import Derived.Test.YtaccedlpnngdhaaDoorRefUp2
import Derived.Test.YtaccedlpnngdhaaDoorHdVal
import Derived.Deep.QuietTactic
import Derived.BigQuiet
namespace Go.Proofs.YtaccedlpnngdhaaDoor
set_option linter.unusedVariables false
open Go.RowKit P

section
variable {kd to fr num size : Int} {A : Option Addr} {n c : Nat} {w : World}
theorem refHdF_kind (u1 : upB2 kd 2 = false) :
    Calls Tryd.prog 8 #[.agg #[.int .i64 kd, .int .i64 to, .int .i64 fr, .slice A n c, .int .i64 num, .int .i64 size]] w fun e w' => e = .returned (.int .i64 2) ∧ Below w.heap.size w w' := by

  go_enter Tryd.func8, Tryd.ntmps8
  go_wp2_with (go_at_call 19; refine (upTo_any _ _ _).mono ?_; rintro e w' ⟨rfl, rfl⟩)
  go_ret
  exact ⟨rfl, (Below.refl _ _).alloc (Nat.le_refl _) _⟩
theorem refHdF_len (u1 : upB2 kd 2 = true) (h2 : 120 < n) :
    Calls Tryd.prog 8 #[.agg #[.int .i64 kd, .int .i64 to, .int .i64 fr, .slice A n c, .int .i64 num, .int .i64 size]] w fun e w' => e = .returned (.int .i64 1) ∧ Below w.heap.size w w' := by

  go_enter Tryd.func8, Tryd.ntmps8
  go_wp2_with (go_at_call 19; refine (upTo_any _ _ _).mono ?_; rintro e w' ⟨rfl, rfl⟩)
  go_ret
  exact ⟨rfl, (Below.refl _ _).alloc (Nat.le_refl _) _⟩
theorem refHdF_to (u1 : upB2 kd 2 = true) (h2 : n ≤ 120) (u2 : upB2 to 255 = false) :
    Calls Tryd.prog 8 #[.agg #[.int .i64 kd, .int .i64 to, .int .i64 fr, .slice A n c, .int .i64 num, .int .i64 size]] w fun e w' => e = .returned (.int .i64 6) ∧ Below w.heap.size w w' := by

  go_enter Tryd.func8, Tryd.ntmps8
  go_wp2_with (go_at_call 19; refine (upTo_any _ _ _).mono ?_; rintro e w' ⟨rfl, rfl⟩)
  go_ret
  exact ⟨rfl, (Below.refl _ _).alloc (Nat.le_refl _) _⟩
theorem refHdF_fr (u1 : upB2 kd 2 = true) (h2 : n ≤ 120) (u2 : upB2 to 255 = true) (u3 : upB2 fr 255 = false) :
    Calls Tryd.prog 8 #[.agg #[.int .i64 kd, .int .i64 to, .int .i64 fr, .slice A n c, .int .i64 num, .int .i64 size]] w fun e w' => e = .returned (.int .i64 6) ∧ Below w.heap.size w w' := by

  go_enter Tryd.func8, Tryd.ntmps8
  go_wp2_with (go_at_call 19; refine (upTo_any _ _ _).mono ?_; rintro e w' ⟨rfl, rfl⟩)
  go_ret
  exact ⟨rfl, (Below.refl _ _).alloc (Nat.le_refl _) _⟩
theorem refHdF_rsize (u1 : upB2 kd 2 = true) (h2 : n ≤ 120) (u2 : upB2 to 255 = true) (u3 : upB2 fr 255 = true) (k1 : (kd == 1) = true) (s1 : (size != 0) = true) :
    Calls Tryd.prog 8 #[.agg #[.int .i64 kd, .int .i64 to, .int .i64 fr, .slice A n c, .int .i64 num, .int .i64 size]] w fun e w' => e = .returned (.int .i64 3) ∧ Below w.heap.size w w' := by

  go_enter Tryd.func8, Tryd.ntmps8
  go_wp2_with (go_at_call 19; refine (upTo_any _ _ _).mono ?_; rintro e w' ⟨rfl, rfl⟩)
  go_ret
  exact ⟨rfl, (Below.refl _ _).alloc (Nat.le_refl _) _⟩
theorem refHdF_rnum (u1 : upB2 kd 2 = true) (h2 : n ≤ 120) (u2 : upB2 to 255 = true) (u3 : upB2 fr 255 = true) (k1 : (kd == 1) = true) (s1 : (size != 0) = false) (s2 : (num != 0) = true) :
    Calls Tryd.prog 8 #[.agg #[.int .i64 kd, .int .i64 to, .int .i64 fr, .slice A n c, .int .i64 num, .int .i64 size]] w fun e w' => e = .returned (.int .i64 3) ∧ Below w.heap.size w w' := by

  go_enter Tryd.func8, Tryd.ntmps8
  go_wp2_with (go_at_call 19; refine (upTo_any _ _ _).mono ?_; rintro e w' ⟨rfl, rfl⟩)
  go_ret
  exact ⟨rfl, (Below.refl _ _).alloc (Nat.le_refl _) _⟩
theorem refHdF_rok (u1 : upB2 kd 2 = true) (h2 : n ≤ 120) (u2 : upB2 to 255 = true) (u3 : upB2 fr 255 = true) (k1 : (kd == 1) = true) (s1 : (size != 0) = false) (s2 : (num != 0) = false) :
    Calls Tryd.prog 8 #[.agg #[.int .i64 kd, .int .i64 to, .int .i64 fr, .slice A n c, .int .i64 num, .int .i64 size]] w fun e w' => e = .returned (.int .i64 0) ∧ Below w.heap.size w w' := by

  go_enter Tryd.func8, Tryd.ntmps8
  go_wp2_with (go_at_call 19; refine (upTo_any _ _ _).mono ?_; rintro e w' ⟨rfl, rfl⟩)
  go_ret
  exact ⟨rfl, (Below.refl _ _).alloc (Nat.le_refl _) _⟩
theorem refHdF_size (u1 : upB2 kd 2 = true) (h2 : n ≤ 120) (u2 : upB2 to 255 = true) (u3 : upB2 fr 255 = true) (k1 : (kd == 1) = false) {m : Int} (hm : IntKind.i64.wrap (size - 1) = m) (s1 : upB2 m 3 = false) :
    Calls Tryd.prog 8 #[.agg #[.int .i64 kd, .int .i64 to, .int .i64 fr, .slice A n c, .int .i64 num, .int .i64 size]] w fun e w' => e = .returned (.int .i64 6) ∧ Below w.heap.size w w' := by

  go_enter Tryd.func8, Tryd.ntmps8
  go_wp2_with (go_at_call 19; refine (upTo_any _ _ _).mono ?_; rintro e w' ⟨rfl, rfl⟩)
  go_quiet ((go_at_call 19; exact Calls.quiet_of_same ((upTo_any _ _ _).mono fun _ _ ⟨a, b⟩ => ⟨a, b.symm⟩)))
  go_wp2
  go_ret
  exact ⟨rfl, Go.below_drewN ((Below.refl _ _).alloc (Nat.le_refl _) _) _⟩
theorem refHdF_num1 (u1 : upB2 kd 2 = true) (h2 : n ≤ 120) (u2 : upB2 to 255 = true) (u3 : upB2 fr 255 = true) (k1 : (kd == 1) = false) (s1 : upB2 num 255 = false) :
    Calls Tryd.prog 8 #[.agg #[.int .i64 kd, .int .i64 to, .int .i64 fr, .slice A n c, .int .i64 num, .int .i64 1]] w fun e w' => e = .returned (.int .i64 6) ∧ Below w.heap.size w w' := by
  have e1 : upB2 0 3 = true := by decide
  have e2 : upB2 1 3 = true := by decide
  have e3 : upB2 2 3 = true := by decide
  have e4 : upB2 3 3 = true := by decide
  go_enter Tryd.func8, Tryd.ntmps8
  go_wp2_with (go_at_call 19; refine (upTo_any _ _ _).mono ?_; rintro e w' ⟨rfl, rfl⟩)
  go_quiet ((go_at_call 19; exact Calls.quiet_of_same ((upTo_any _ _ _).mono fun _ _ ⟨a, b⟩ => ⟨a, b.symm⟩)))
  go_wp2
  go_ret
  exact ⟨rfl, Go.below_drewN ((Below.refl _ _).alloc (Nat.le_refl _) _) _⟩
theorem refHdF_num2 (u1 : upB2 kd 2 = true) (h2 : n ≤ 120) (u2 : upB2 to 255 = true) (u3 : upB2 fr 255 = true) (k1 : (kd == 1) = false) (s1 : upB2 num 65535 = false) :
    Calls Tryd.prog 8 #[.agg #[.int .i64 kd, .int .i64 to, .int .i64 fr, .slice A n c, .int .i64 num, .int .i64 2]] w fun e w' => e = .returned (.int .i64 6) ∧ Below w.heap.size w w' := by
  have e1 : upB2 0 3 = true := by decide
  have e2 : upB2 1 3 = true := by decide
  have e3 : upB2 2 3 = true := by decide
  have e4 : upB2 3 3 = true := by decide
  go_enter Tryd.func8, Tryd.ntmps8
  go_wp2_with (go_at_call 19; refine (upTo_any _ _ _).mono ?_; rintro e w' ⟨rfl, rfl⟩)
  go_quiet ((go_at_call 19; exact Calls.quiet_of_same ((upTo_any _ _ _).mono fun _ _ ⟨a, b⟩ => ⟨a, b.symm⟩)))
  go_wp2
  go_ret
  exact ⟨rfl, Go.below_drewN ((Below.refl _ _).alloc (Nat.le_refl _) _) _⟩
theorem refHdF_num3 (u1 : upB2 kd 2 = true) (h2 : n ≤ 120) (u2 : upB2 to 255 = true) (u3 : upB2 fr 255 = true) (k1 : (kd == 1) = false) (s1 : upB2 num 16777215 = false) :
    Calls Tryd.prog 8 #[.agg #[.int .i64 kd, .int .i64 to, .int .i64 fr, .slice A n c, .int .i64 num, .int .i64 3]] w fun e w' => e = .returned (.int .i64 6) ∧ Below w.heap.size w w' := by
  have e1 : upB2 0 3 = true := by decide
  have e2 : upB2 1 3 = true := by decide
  have e3 : upB2 2 3 = true := by decide
  have e4 : upB2 3 3 = true := by decide
  go_enter Tryd.func8, Tryd.ntmps8
  go_wp2_with (go_at_call 19; refine (upTo_any _ _ _).mono ?_; rintro e w' ⟨rfl, rfl⟩)
  go_quiet ((go_at_call 19; exact Calls.quiet_of_same ((upTo_any _ _ _).mono fun _ _ ⟨a, b⟩ => ⟨a, b.symm⟩)))
  go_wp2
  go_ret
  exact ⟨rfl, Go.below_drewN ((Below.refl _ _).alloc (Nat.le_refl _) _) _⟩
theorem refHdF_num4 (u1 : upB2 kd 2 = true) (h2 : n ≤ 120) (u2 : upB2 to 255 = true) (u3 : upB2 fr 255 = true) (k1 : (kd == 1) = false) (s1 : upB2 num 4294967295 = false) :
    Calls Tryd.prog 8 #[.agg #[.int .i64 kd, .int .i64 to, .int .i64 fr, .slice A n c, .int .i64 num, .int .i64 4]] w fun e w' => e = .returned (.int .i64 6) ∧ Below w.heap.size w w' := by
  have e1 : upB2 0 3 = true := by decide
  have e2 : upB2 1 3 = true := by decide
  have e3 : upB2 2 3 = true := by decide
  have e4 : upB2 3 3 = true := by decide
  go_enter Tryd.func8, Tryd.ntmps8
  go_wp2_with (go_at_call 19; refine (upTo_any _ _ _).mono ?_; rintro e w' ⟨rfl, rfl⟩)
  go_quiet ((go_at_call 19; exact Calls.quiet_of_same ((upTo_any _ _ _).mono fun _ _ ⟨a, b⟩ => ⟨a, b.symm⟩)))
  go_wp2
  go_ret
  exact ⟨rfl, Go.below_drewN ((Below.refl _ _).alloc (Nat.le_refl _) _) _⟩
theorem refHdF_init1 (u1 : upB2 kd 2 = true) (h2 : n ≤ 120) (u2 : upB2 to 255 = true) (u3 : upB2 fr 255 = true) (k1 : (kd == 1) = false) (s1 : upB2 num 255 = true) (k2 : (kd == 2) = false) :
    Calls Tryd.prog 8 #[.agg #[.int .i64 kd, .int .i64 to, .int .i64 fr, .slice A n c, .int .i64 num, .int .i64 1]] w fun e w' => e = .returned (.int .i64 0) ∧ Below w.heap.size w w' := by
  have e1 : upB2 0 3 = true := by decide
  have e2 : upB2 1 3 = true := by decide
  have e3 : upB2 2 3 = true := by decide
  have e4 : upB2 3 3 = true := by decide
  go_enter Tryd.func8, Tryd.ntmps8
  go_wp2_with (go_at_call 19; refine (upTo_any _ _ _).mono ?_; rintro e w' ⟨rfl, rfl⟩)
  go_quiet ((go_at_call 19; exact Calls.quiet_of_same ((upTo_any _ _ _).mono fun _ _ ⟨a, b⟩ => ⟨a, b.symm⟩)))
  go_wp2
  go_ret
  exact ⟨rfl, Go.below_drewN ((Below.refl _ _).alloc (Nat.le_refl _) _) _⟩
theorem refHdF_form1 (u1 : upB2 kd 2 = true) (h2 : n ≤ 120) (u2 : upB2 to 255 = true) (u3 : upB2 fr 255 = true) (k1 : (kd == 1) = false) (s1 : upB2 num 255 = true) (k2 : (kd == 2) = true) (f0 : 0 ≤ fr) (f1 : fr ≤ 255) (g : decide (0 < fr + (n : Int)) = true) :
    Calls Tryd.prog 8 #[.agg #[.int .i64 kd, .int .i64 to, .int .i64 fr, .slice A n c, .int .i64 num, .int .i64 1]] w fun e w' => e = .returned (.int .i64 3) ∧ Below w.heap.size w w' := by
  have e1 : upB2 0 3 = true := by decide
  have e2 : upB2 1 3 = true := by decide
  have e3 : upB2 2 3 = true := by decide
  have e4 : upB2 3 3 = true := by decide
  go_enter Tryd.func8, Tryd.ntmps8
  go_wp2_with (go_at_call 19; refine (upTo_any _ _ _).mono ?_; rintro e w' ⟨rfl, rfl⟩)
  go_quiet ((go_at_call 19; exact Calls.quiet_of_same ((upTo_any _ _ _).mono fun _ _ ⟨a, b⟩ => ⟨a, b.symm⟩)))
  go_wp2
  go_ret
  exact ⟨rfl, Go.below_drewN ((Below.refl _ _).alloc (Nat.le_refl _) _) _⟩
theorem refHdF_short1 (u1 : upB2 kd 2 = true) (h2 : n ≤ 120) (u2 : upB2 to 255 = true) (u3 : upB2 fr 255 = true) (k1 : (kd == 1) = false) (s1 : upB2 num 255 = true) (k2 : (kd == 2) = true) (f0 : 0 ≤ fr) (f1 : fr ≤ 255) (g : decide (0 < fr + (n : Int)) = false) :
    Calls Tryd.prog 8 #[.agg #[.int .i64 kd, .int .i64 to, .int .i64 fr, .slice A n c, .int .i64 num, .int .i64 1]] w fun e w' => e = .returned (.int .i64 0) ∧ Below w.heap.size w w' := by
  have e1 : upB2 0 3 = true := by decide
  have e2 : upB2 1 3 = true := by decide
  have e3 : upB2 2 3 = true := by decide
  have e4 : upB2 3 3 = true := by decide
  go_enter Tryd.func8, Tryd.ntmps8
  go_wp2_with (go_at_call 19; refine (upTo_any _ _ _).mono ?_; rintro e w' ⟨rfl, rfl⟩)
  go_quiet ((go_at_call 19; exact Calls.quiet_of_same ((upTo_any _ _ _).mono fun _ _ ⟨a, b⟩ => ⟨a, b.symm⟩)))
  go_wp2
  go_ret
  exact ⟨rfl, Go.below_drewN ((Below.refl _ _).alloc (Nat.le_refl _) _) _⟩
theorem refHdF_init2 (u1 : upB2 kd 2 = true) (h2 : n ≤ 120) (u2 : upB2 to 255 = true) (u3 : upB2 fr 255 = true) (k1 : (kd == 1) = false) (s1 : upB2 num 65535 = true) (k2 : (kd == 2) = false) :
    Calls Tryd.prog 8 #[.agg #[.int .i64 kd, .int .i64 to, .int .i64 fr, .slice A n c, .int .i64 num, .int .i64 2]] w fun e w' => e = .returned (.int .i64 0) ∧ Below w.heap.size w w' := by
  have e1 : upB2 0 3 = true := by decide
  have e2 : upB2 1 3 = true := by decide
  have e3 : upB2 2 3 = true := by decide
  have e4 : upB2 3 3 = true := by decide
  go_enter Tryd.func8, Tryd.ntmps8
  go_wp2_with (go_at_call 19; refine (upTo_any _ _ _).mono ?_; rintro e w' ⟨rfl, rfl⟩)
  go_quiet ((go_at_call 19; exact Calls.quiet_of_same ((upTo_any _ _ _).mono fun _ _ ⟨a, b⟩ => ⟨a, b.symm⟩)))
  go_wp2
  go_ret
  exact ⟨rfl, Go.below_drewN ((Below.refl _ _).alloc (Nat.le_refl _) _) _⟩
theorem refHdF_form2 (u1 : upB2 kd 2 = true) (h2 : n ≤ 120) (u2 : upB2 to 255 = true) (u3 : upB2 fr 255 = true) (k1 : (kd == 1) = false) (s1 : upB2 num 65535 = true) (k2 : (kd == 2) = true) (f0 : 0 ≤ fr) (f1 : fr ≤ 255) (g : decide (0 < fr + (n : Int)) = true) :
    Calls Tryd.prog 8 #[.agg #[.int .i64 kd, .int .i64 to, .int .i64 fr, .slice A n c, .int .i64 num, .int .i64 2]] w fun e w' => e = .returned (.int .i64 3) ∧ Below w.heap.size w w' := by
  have e1 : upB2 0 3 = true := by decide
  have e2 : upB2 1 3 = true := by decide
  have e3 : upB2 2 3 = true := by decide
  have e4 : upB2 3 3 = true := by decide
  go_enter Tryd.func8, Tryd.ntmps8
  go_wp2_with (go_at_call 19; refine (upTo_any _ _ _).mono ?_; rintro e w' ⟨rfl, rfl⟩)
  go_quiet ((go_at_call 19; exact Calls.quiet_of_same ((upTo_any _ _ _).mono fun _ _ ⟨a, b⟩ => ⟨a, b.symm⟩)))
  go_wp2
  go_ret
  exact ⟨rfl, Go.below_drewN ((Below.refl _ _).alloc (Nat.le_refl _) _) _⟩
theorem refHdF_short2 (u1 : upB2 kd 2 = true) (h2 : n ≤ 120) (u2 : upB2 to 255 = true) (u3 : upB2 fr 255 = true) (k1 : (kd == 1) = false) (s1 : upB2 num 65535 = true) (k2 : (kd == 2) = true) (f0 : 0 ≤ fr) (f1 : fr ≤ 255) (g : decide (0 < fr + (n : Int)) = false) :
    Calls Tryd.prog 8 #[.agg #[.int .i64 kd, .int .i64 to, .int .i64 fr, .slice A n c, .int .i64 num, .int .i64 2]] w fun e w' => e = .returned (.int .i64 0) ∧ Below w.heap.size w w' := by
  have e1 : upB2 0 3 = true := by decide
  have e2 : upB2 1 3 = true := by decide
  have e3 : upB2 2 3 = true := by decide
  have e4 : upB2 3 3 = true := by decide
  go_enter Tryd.func8, Tryd.ntmps8
  go_wp2_with (go_at_call 19; refine (upTo_any _ _ _).mono ?_; rintro e w' ⟨rfl, rfl⟩)
  go_quiet ((go_at_call 19; exact Calls.quiet_of_same ((upTo_any _ _ _).mono fun _ _ ⟨a, b⟩ => ⟨a, b.symm⟩)))
  go_wp2
  go_ret
  exact ⟨rfl, Go.below_drewN ((Below.refl _ _).alloc (Nat.le_refl _) _) _⟩
theorem refHdF_init3 (u1 : upB2 kd 2 = true) (h2 : n ≤ 120) (u2 : upB2 to 255 = true) (u3 : upB2 fr 255 = true) (k1 : (kd == 1) = false) (s1 : upB2 num 16777215 = true) (k2 : (kd == 2) = false) :
    Calls Tryd.prog 8 #[.agg #[.int .i64 kd, .int .i64 to, .int .i64 fr, .slice A n c, .int .i64 num, .int .i64 3]] w fun e w' => e = .returned (.int .i64 0) ∧ Below w.heap.size w w' := by
  have e1 : upB2 0 3 = true := by decide
  have e2 : upB2 1 3 = true := by decide
  have e3 : upB2 2 3 = true := by decide
  have e4 : upB2 3 3 = true := by decide
  go_enter Tryd.func8, Tryd.ntmps8
  go_wp2_with (go_at_call 19; refine (upTo_any _ _ _).mono ?_; rintro e w' ⟨rfl, rfl⟩)
  go_quiet ((go_at_call 19; exact Calls.quiet_of_same ((upTo_any _ _ _).mono fun _ _ ⟨a, b⟩ => ⟨a, b.symm⟩)))
  go_wp2
  go_ret
  exact ⟨rfl, Go.below_drewN ((Below.refl _ _).alloc (Nat.le_refl _) _) _⟩
theorem refHdF_form3 (u1 : upB2 kd 2 = true) (h2 : n ≤ 120) (u2 : upB2 to 255 = true) (u3 : upB2 fr 255 = true) (k1 : (kd == 1) = false) (s1 : upB2 num 16777215 = true) (k2 : (kd == 2) = true) (f0 : 0 ≤ fr) (f1 : fr ≤ 255) (g : decide (0 < fr + (n : Int)) = true) :
    Calls Tryd.prog 8 #[.agg #[.int .i64 kd, .int .i64 to, .int .i64 fr, .slice A n c, .int .i64 num, .int .i64 3]] w fun e w' => e = .returned (.int .i64 3) ∧ Below w.heap.size w w' := by
  have e1 : upB2 0 3 = true := by decide
  have e2 : upB2 1 3 = true := by decide
  have e3 : upB2 2 3 = true := by decide
  have e4 : upB2 3 3 = true := by decide
  go_enter Tryd.func8, Tryd.ntmps8
  go_wp2_with (go_at_call 19; refine (upTo_any _ _ _).mono ?_; rintro e w' ⟨rfl, rfl⟩)
  go_quiet ((go_at_call 19; exact Calls.quiet_of_same ((upTo_any _ _ _).mono fun _ _ ⟨a, b⟩ => ⟨a, b.symm⟩)))
  go_wp2
  go_ret
  exact ⟨rfl, Go.below_drewN ((Below.refl _ _).alloc (Nat.le_refl _) _) _⟩
theorem refHdF_short3 (u1 : upB2 kd 2 = true) (h2 : n ≤ 120) (u2 : upB2 to 255 = true) (u3 : upB2 fr 255 = true) (k1 : (kd == 1) = false) (s1 : upB2 num 16777215 = true) (k2 : (kd == 2) = true) (f0 : 0 ≤ fr) (f1 : fr ≤ 255) (g : decide (0 < fr + (n : Int)) = false) :
    Calls Tryd.prog 8 #[.agg #[.int .i64 kd, .int .i64 to, .int .i64 fr, .slice A n c, .int .i64 num, .int .i64 3]] w fun e w' => e = .returned (.int .i64 0) ∧ Below w.heap.size w w' := by
  have e1 : upB2 0 3 = true := by decide
  have e2 : upB2 1 3 = true := by decide
  have e3 : upB2 2 3 = true := by decide
  have e4 : upB2 3 3 = true := by decide
  go_enter Tryd.func8, Tryd.ntmps8
  go_wp2_with (go_at_call 19; refine (upTo_any _ _ _).mono ?_; rintro e w' ⟨rfl, rfl⟩)
  go_quiet ((go_at_call 19; exact Calls.quiet_of_same ((upTo_any _ _ _).mono fun _ _ ⟨a, b⟩ => ⟨a, b.symm⟩)))
  go_wp2
  go_ret
  exact ⟨rfl, Go.below_drewN ((Below.refl _ _).alloc (Nat.le_refl _) _) _⟩
theorem refHdF_init4 (u1 : upB2 kd 2 = true) (h2 : n ≤ 120) (u2 : upB2 to 255 = true) (u3 : upB2 fr 255 = true) (k1 : (kd == 1) = false) (s1 : upB2 num 4294967295 = true) (k2 : (kd == 2) = false) :
    Calls Tryd.prog 8 #[.agg #[.int .i64 kd, .int .i64 to, .int .i64 fr, .slice A n c, .int .i64 num, .int .i64 4]] w fun e w' => e = .returned (.int .i64 0) ∧ Below w.heap.size w w' := by
  have e1 : upB2 0 3 = true := by decide
  have e2 : upB2 1 3 = true := by decide
  have e3 : upB2 2 3 = true := by decide
  have e4 : upB2 3 3 = true := by decide
  go_enter Tryd.func8, Tryd.ntmps8
  go_wp2_with (go_at_call 19; refine (upTo_any _ _ _).mono ?_; rintro e w' ⟨rfl, rfl⟩)
  go_quiet ((go_at_call 19; exact Calls.quiet_of_same ((upTo_any _ _ _).mono fun _ _ ⟨a, b⟩ => ⟨a, b.symm⟩)))
  go_wp2
  go_ret
  exact ⟨rfl, Go.below_drewN ((Below.refl _ _).alloc (Nat.le_refl _) _) _⟩
theorem refHdF_form4 (u1 : upB2 kd 2 = true) (h2 : n ≤ 120) (u2 : upB2 to 255 = true) (u3 : upB2 fr 255 = true) (k1 : (kd == 1) = false) (s1 : upB2 num 4294967295 = true) (k2 : (kd == 2) = true) (f0 : 0 ≤ fr) (f1 : fr ≤ 255) (g : decide (0 < fr + (n : Int)) = true) :
    Calls Tryd.prog 8 #[.agg #[.int .i64 kd, .int .i64 to, .int .i64 fr, .slice A n c, .int .i64 num, .int .i64 4]] w fun e w' => e = .returned (.int .i64 3) ∧ Below w.heap.size w w' := by
  have e1 : upB2 0 3 = true := by decide
  have e2 : upB2 1 3 = true := by decide
  have e3 : upB2 2 3 = true := by decide
  have e4 : upB2 3 3 = true := by decide
  go_enter Tryd.func8, Tryd.ntmps8
  go_wp2_with (go_at_call 19; refine (upTo_any _ _ _).mono ?_; rintro e w' ⟨rfl, rfl⟩)
  go_quiet ((go_at_call 19; exact Calls.quiet_of_same ((upTo_any _ _ _).mono fun _ _ ⟨a, b⟩ => ⟨a, b.symm⟩)))
  go_wp2
  go_ret
  exact ⟨rfl, Go.below_drewN ((Below.refl _ _).alloc (Nat.le_refl _) _) _⟩
theorem refHdF_short4 (u1 : upB2 kd 2 = true) (h2 : n ≤ 120) (u2 : upB2 to 255 = true) (u3 : upB2 fr 255 = true) (k1 : (kd == 1) = false) (s1 : upB2 num 4294967295 = true) (k2 : (kd == 2) = true) (f0 : 0 ≤ fr) (f1 : fr ≤ 255) (g : decide (0 < fr + (n : Int)) = false) :
    Calls Tryd.prog 8 #[.agg #[.int .i64 kd, .int .i64 to, .int .i64 fr, .slice A n c, .int .i64 num, .int .i64 4]] w fun e w' => e = .returned (.int .i64 0) ∧ Below w.heap.size w w' := by
  have e1 : upB2 0 3 = true := by decide
  have e2 : upB2 1 3 = true := by decide
  have e3 : upB2 2 3 = true := by decide
  have e4 : upB2 3 3 = true := by decide
  go_enter Tryd.func8, Tryd.ntmps8
  go_wp2_with (go_at_call 19; refine (upTo_any _ _ _).mono ?_; rintro e w' ⟨rfl, rfl⟩)
  go_quiet ((go_at_call 19; exact Calls.quiet_of_same ((upTo_any _ _ _).mono fun _ _ ⟨a, b⟩ => ⟨a, b.symm⟩)))
  go_wp2
  go_ret
  exact ⟨rfl, Go.below_drewN ((Below.refl _ _).alloc (Nat.le_refl _) _) _⟩
theorem refHdF_way1 (u1 : upB2 kd 2 = true) (h2 : n ≤ 120) (u2 : upB2 to 255 = true) (u3 : upB2 fr 255 = true) (k1 : (kd == 1) = false) (f0 : 0 ≤ fr) (f1 : fr ≤ 255) :
    Calls Tryd.prog 8 #[.agg #[.int .i64 kd, .int .i64 to, .int .i64 fr, .slice A n c, .int .i64 num, .int .i64 1]] w fun e w' => e = .returned (.int .i64 (if ¬((1 : Int) ≤ 1 ∧ (1 : Int) ≤ 4) ∨ ¬(0 ≤ num ∧ num < winOf 1) then 6 else if kd = 2 ∧ (fr ≠ 0 ∨ 0 < n) then 3 else 0)) ∧ Below w.heap.size w w' := by
  have hwin : winOf 1 = 256 := by decide
  rw [hwin]
  by_cases c : 0 ≤ num ∧ num < 256
  · have s1 : upB2 num 255 = true := upB2_yes c.1 (by omega)
    rw [if_neg (by omega)]
    by_cases k2 : kd = 2
    · have e2 : (kd == 2) = true := by rw [k2]; rfl
      by_cases g : fr ≠ 0 ∨ 0 < n
      · rw [if_pos ⟨k2, g⟩]
        exact refHdF_form1 u1 h2 u2 u3 k1 s1 e2 f0 f1 (decide_eq_true (by omega))
      · rw [if_neg (fun e => g e.2)]
        exact refHdF_short1 u1 h2 u2 u3 k1 s1 e2 f0 f1 (decide_eq_false (by omega))
    · have e2 : (kd == 2) = false := by simpa using k2
      rw [if_neg (fun e => k2 e.1)]
      exact refHdF_init1 u1 h2 u2 u3 k1 s1 e2
  · rw [if_pos (.inr c)]
    exact refHdF_num1 u1 h2 u2 u3 k1 (upB2_no (by omega))
theorem refHdF_way2 (u1 : upB2 kd 2 = true) (h2 : n ≤ 120) (u2 : upB2 to 255 = true) (u3 : upB2 fr 255 = true) (k1 : (kd == 1) = false) (f0 : 0 ≤ fr) (f1 : fr ≤ 255) :
    Calls Tryd.prog 8 #[.agg #[.int .i64 kd, .int .i64 to, .int .i64 fr, .slice A n c, .int .i64 num, .int .i64 2]] w fun e w' => e = .returned (.int .i64 (if ¬((1 : Int) ≤ 2 ∧ (2 : Int) ≤ 4) ∨ ¬(0 ≤ num ∧ num < winOf 2) then 6 else if kd = 2 ∧ (fr ≠ 0 ∨ 0 < n) then 3 else 0)) ∧ Below w.heap.size w w' := by
  have hwin : winOf 2 = 65536 := by decide
  rw [hwin]
  by_cases c : 0 ≤ num ∧ num < 65536
  · have s1 : upB2 num 65535 = true := upB2_yes c.1 (by omega)
    rw [if_neg (by omega)]
    by_cases k2 : kd = 2
    · have e2 : (kd == 2) = true := by rw [k2]; rfl
      by_cases g : fr ≠ 0 ∨ 0 < n
      · rw [if_pos ⟨k2, g⟩]
        exact refHdF_form2 u1 h2 u2 u3 k1 s1 e2 f0 f1 (decide_eq_true (by omega))
      · rw [if_neg (fun e => g e.2)]
        exact refHdF_short2 u1 h2 u2 u3 k1 s1 e2 f0 f1 (decide_eq_false (by omega))
    · have e2 : (kd == 2) = false := by simpa using k2
      rw [if_neg (fun e => k2 e.1)]
      exact refHdF_init2 u1 h2 u2 u3 k1 s1 e2
  · rw [if_pos (.inr c)]
    exact refHdF_num2 u1 h2 u2 u3 k1 (upB2_no (by omega))
theorem refHdF_way3 (u1 : upB2 kd 2 = true) (h2 : n ≤ 120) (u2 : upB2 to 255 = true) (u3 : upB2 fr 255 = true) (k1 : (kd == 1) = false) (f0 : 0 ≤ fr) (f1 : fr ≤ 255) :
    Calls Tryd.prog 8 #[.agg #[.int .i64 kd, .int .i64 to, .int .i64 fr, .slice A n c, .int .i64 num, .int .i64 3]] w fun e w' => e = .returned (.int .i64 (if ¬((1 : Int) ≤ 3 ∧ (3 : Int) ≤ 4) ∨ ¬(0 ≤ num ∧ num < winOf 3) then 6 else if kd = 2 ∧ (fr ≠ 0 ∨ 0 < n) then 3 else 0)) ∧ Below w.heap.size w w' := by
  have hwin : winOf 3 = 16777216 := by decide
  rw [hwin]
  by_cases c : 0 ≤ num ∧ num < 16777216
  · have s1 : upB2 num 16777215 = true := upB2_yes c.1 (by omega)
    rw [if_neg (by omega)]
    by_cases k2 : kd = 2
    · have e2 : (kd == 2) = true := by rw [k2]; rfl
      by_cases g : fr ≠ 0 ∨ 0 < n
      · rw [if_pos ⟨k2, g⟩]
        exact refHdF_form3 u1 h2 u2 u3 k1 s1 e2 f0 f1 (decide_eq_true (by omega))
      · rw [if_neg (fun e => g e.2)]
        exact refHdF_short3 u1 h2 u2 u3 k1 s1 e2 f0 f1 (decide_eq_false (by omega))
    · have e2 : (kd == 2) = false := by simpa using k2
      rw [if_neg (fun e => k2 e.1)]
      exact refHdF_init3 u1 h2 u2 u3 k1 s1 e2
  · rw [if_pos (.inr c)]
    exact refHdF_num3 u1 h2 u2 u3 k1 (upB2_no (by omega))
theorem refHdF_way4 (u1 : upB2 kd 2 = true) (h2 : n ≤ 120) (u2 : upB2 to 255 = true) (u3 : upB2 fr 255 = true) (k1 : (kd == 1) = false) (f0 : 0 ≤ fr) (f1 : fr ≤ 255) :
    Calls Tryd.prog 8 #[.agg #[.int .i64 kd, .int .i64 to, .int .i64 fr, .slice A n c, .int .i64 num, .int .i64 4]] w fun e w' => e = .returned (.int .i64 (if ¬((1 : Int) ≤ 4 ∧ (4 : Int) ≤ 4) ∨ ¬(0 ≤ num ∧ num < winOf 4) then 6 else if kd = 2 ∧ (fr ≠ 0 ∨ 0 < n) then 3 else 0)) ∧ Below w.heap.size w w' := by
  have hwin : winOf 4 = 4294967296 := by decide
  rw [hwin]
  by_cases c : 0 ≤ num ∧ num < 4294967296
  · have s1 : upB2 num 4294967295 = true := upB2_yes c.1 (by omega)
    rw [if_neg (by omega)]
    by_cases k2 : kd = 2
    · have e2 : (kd == 2) = true := by rw [k2]; rfl
      by_cases g : fr ≠ 0 ∨ 0 < n
      · rw [if_pos ⟨k2, g⟩]
        exact refHdF_form4 u1 h2 u2 u3 k1 s1 e2 f0 f1 (decide_eq_true (by omega))
      · rw [if_neg (fun e => g e.2)]
        exact refHdF_short4 u1 h2 u2 u3 k1 s1 e2 f0 f1 (decide_eq_false (by omega))
    · have e2 : (kd == 2) = false := by simpa using k2
      rw [if_neg (fun e => k2 e.1)]
      exact refHdF_init4 u1 h2 u2 u3 k1 s1 e2
  · rw [if_pos (.inr c)]
    exact refHdF_num4 u1 h2 u2 u3 k1 (upB2_no (by omega))
end

theorem wf_wrap {size : Int} (hs : (Lit.int .i64 size).wf = true) (h : ¬(1 ≤ size ∧ size ≤ 4)) : upB2 (IntKind.i64.wrap (size - 1)) 3 = false := by
  rw [wf_i64] at hs
  apply upB2_no
  rw [IntKind.wrap_i64]
  omega
theorem refHdFault_any (v : Value) (h : Hd) (w : World) (hv : HdVal w w.heap.size v h) (hw : HdWf h) :
    Calls Tryd.prog 8 #[v] w fun e w' => e = .returned (.int .i64 (faultH h)) ∧ Below w.heap.size w w' := by
  obtain ⟨d, rfl, hd⟩ := hv.ex
  obtain ⟨A, c, rfl, -, -, -, -⟩ := hd.ex
  clear hv hd
  unfold faultH
  by_cases c1 : 0 ≤ h.kind ∧ h.kind ≤ 2
  · have u1 : upB2 h.kind 2 = true := upB2_yes c1.1 c1.2
    rw [if_neg (not_not_intro c1)]
    by_cases c2 : 120 < h.tok.length
    · rw [if_pos c2]; exact refHdF_len u1 c2
    have h2 : h.tok.length ≤ 120 := by omega
    rw [if_neg c2]
    by_cases c3 : 0 ≤ h.to ∧ h.to ≤ 255
    · have u2 : upB2 h.to 255 = true := upB2_yes c3.1 c3.2
      by_cases c4 : 0 ≤ h.frm ∧ h.frm ≤ 255
      · have u3 : upB2 h.frm 255 = true := upB2_yes c4.1 c4.2
        rw [if_neg (fun e => e.elim (fun e => e c3) fun e => e c4)]
        by_cases k : h.kind = 1
        · have k1 : (h.kind == 1) = true := by rw [k]; rfl
          rw [if_pos k]
          by_cases s1 : h.size = 0
          · have e1 : (h.size != 0) = false := by rw [s1]; rfl
            by_cases s2 : h.num = 0
            · have e2 : (h.num != 0) = false := by rw [s2]; rfl
              rw [if_neg (fun e => e.elim (fun e => e s1) fun e => e s2)]
              exact refHdF_rok u1 h2 u2 u3 k1 e1 e2
            · have e2 : (h.num != 0) = true := by simpa using s2
              rw [if_pos (.inr s2)]
              exact refHdF_rnum u1 h2 u2 u3 k1 e1 e2
          · have e1 : (h.size != 0) = true := by simpa using s1
            rw [if_pos (.inl s1)]
            exact refHdF_rsize u1 h2 u2 u3 k1 e1
        · have k1 : (h.kind == 1) = false := by simpa using k
          rw [if_neg k]
          by_cases s1 : 1 ≤ h.size ∧ h.size ≤ 4
          · rcases (show h.size = 1 ∨ h.size = 2 ∨ h.size = 3 ∨ h.size = 4 by omega) with e | e | e | e
            all_goals rw [e]
            · exact refHdF_way1 u1 h2 u2 u3 k1 c4.1 c4.2
            · exact refHdF_way2 u1 h2 u2 u3 k1 c4.1 c4.2
            · exact refHdF_way3 u1 h2 u2 u3 k1 c4.1 c4.2
            · exact refHdF_way4 u1 h2 u2 u3 k1 c4.1 c4.2
          · rw [if_pos (.inl s1)]
            exact refHdF_size u1 h2 u2 u3 k1 rfl (wf_wrap hw.size s1)
      · rw [if_pos (.inr c4)]
        exact refHdF_fr u1 h2 u2 (upB2_no (by omega))
    · rw [if_pos (.inl c3)]
      exact refHdF_to u1 h2 (upB2_no (by omega))
  · rw [if_pos c1]
    exact refHdF_kind (upB2_no (by omega))
end Go.Proofs.YtaccedlpnngdhaaDoor
