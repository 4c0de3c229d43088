/- The walks of LockSeals and LockOpens, over what is asked of the functions. -/
import Derived.Test.YtlmckklgmijapaaLkVal
import Derived.Test.YtlmckklgmijapaaFrVal
import Derived.Test.YtlmckklgmijapaaStr
import Derived.Test.YtlmckklgmijapaaRows
import Derived.WalkLawsBesides
import Derived.WalkSpells
import Derived.Outline
import Derived.Handy
import Derived.Below
namespace Go.Proofs.Ytlmckklgmijapaa
set_option linter.unusedVariables false
open Go.RowKit P

theorem lockSeals_core (hSEAL : ∀ (key : Nat) (n : Int) (A1 A2 : Option Addr) (n1 c1 n2 c2 : Nat) (hd tx : List Int) (w : World), key < 18446744073709551616 → BRow w w.heap.size A1 hd → hd.length = n1 → n1 ≤ c1 → c1 ≤ maxLen → (A1 = none → c1 = 0) → n1 ≤ 140737488351232 → BRow w w.heap.size A2 tx → tx.length = n2 → n2 ≤ c2 → c2 ≤ maxLen → (A2 = none → c2 = 0) → n2 ≤ 140737488351232 →
      Calls Try.prog 13 #[.int .u64 key, .int .i64 n, .slice A1 n1 c1, .slice A2 n2 c2] w fun e w' => Below w.heap.size w w' ∧ ∃ d, e = .returned d ∧ BSl w' w'.heap.size d (sealL key n hd tx))
    (rLOCK : ∀ (key : Nat) (n : Int) (hd tx : List Int) (w : World), key < 18446744073709551616 → Byt hd → Byt tx → hd.length ≤ 140737488351232 → tx.length ≤ 140737488351232 →
      Calls Try.prog 14 #[.int .u64 key, .int .i64 n, .string (strOfNums hd), .string (strOfNums tx)] w fun e w' => e = .returned (.string (strOfNums (sealL key n hd tx))) ∧ Below w.heap.size w w')
    (x n : Int) (x0 : 0 ≤ x) (x1 : x ≤ 18446744073709551615) (A1 A2 : Option Addr) (n1 c1 n2 c2 : Nat) (z1 z2 : List Int) (W : World) (h1 : IsRow .u8 W A1 n1 c1 z1) (r1 : c1 * 1 ≤ 140737488351232) (h2 : IsRow .u8 W A2 n2 c2 z2) (r2 : c2 * 1 ≤ 140737488351232) :
    Calls Try.prog 4 #[.int .u64 x, .int .i64 n, .slice A1 n1 c1, .slice A2 n2 c2] W fun e w' => e = .returned (.bool true) ∧ Below W.heap.size W w' := by
  obtain ⟨key, rfl⟩ : ∃ y : Nat, x = y := ⟨x.toNat, by omega⟩
  have hk : key < 18446744073709551616 := by omega
  obtain ⟨hb1, hl1, hc1, hm1⟩ := InRow.brow (show InRow W A1 n1 c1 z1 from h1)
  obtain ⟨hb2, hl2, hc2, hm2⟩ := InRow.brow (show InRow W A2 n2 c2 z2 from h2)
  have hn1 : A1 = none → c1 = 0 := fun e => by subst e; rcases h1 with ⟨_, _, e, _⟩ | ⟨x, e, _⟩ <;> first | exact e | cases e
  have hn2 : A2 = none → c2 = 0 := fun e => by subst e; rcases h2 with ⟨_, _, e, _⟩ | ⟨x, e, _⟩ <;> first | exact e | cases e
  obtain ⟨hd, hz1⟩ : ∃ zs, z1.take n1 = zs := ⟨_, rfl⟩
  obtain ⟨tx, hz2⟩ : ∃ zs, z2.take n2 = zs := ⟨_, rfl⟩
  rw [hz1] at hb1 hl1
  rw [hz2] at hb2 hl2
  have HS := Lib.hid (hSEAL key n A1 A2 n1 c1 n2 c2 hd tx W hk hb1 hl1 hc1 hm1 hn1 (by omega) hb2 hl2 hc2 hm2 hn2 (by omega))
  have HL := Lib.hid (fun w => rLOCK key n hd tx w hk hb1.1 hb2.1 (by omega) (by omega))
  have HB1 := Lib.hid hb1
  have HB2 := Lib.hid hb2
  have HL1 := Lib.hid hl1
  have HL2 := Lib.hid hl2
  generalize sealL key n hd tx = X at *
  clear hSEAL rLOCK h1 h2 hb1 hb2 hl1 hl2 hn1 hn2 hz1 hz2 hk
  go_enter Try.func4, Try.ntmps4
  go_wp2_with fail
  refine HS.out.mono ?_
  rintro e w1 ⟨b1, d, rfl, hd1⟩
  obtain ⟨A3, c3, rfl, hc3, hm3, hn3, hr3⟩ := hd1.ex
  have B1 := Lib.hid b1
  have s1 := run_str (P := Try.prog) (HB1.out.below b1) HL1.out 26 9 5 c1 Try.underlying26 Try.underlying5 Try.underlying9
  have s2 := run_str (P := Try.prog) (HB2.out.below b1) HL2.out 26 9 5 c2 Try.underlying26 Try.underlying5 Try.underlying9
  have HR3 := Lib.hid hr3
  clear b1 hd1 hr3 hn3
  go_wp2_with fail
  refine (HL.out _).mono ?_
  rintro e w2 ⟨rfl, b2⟩
  have s3 := run_str (P := Try.prog) (HR3.out.below b2) rfl 26 9 5 c3 Try.underlying26 Try.underlying5 Try.underlying9
  have B2 := Lib.hid (B1.out.trans (b2.mono B1.out.size))
  clear b2 s1 s2
  go_wp2_with fail
  go_ret
  exact ⟨by simp, B2.out⟩
theorem lockOpens_core (hOPEN : ∀ (key : Nat) (n : Int) (A1 A2 : Option Addr) (n1 c1 n2 c2 : Nat) (hd tx : List Int) (w : World), key < 18446744073709551616 → BRow w w.heap.size A1 hd → hd.length = n1 → n1 ≤ c1 → c1 ≤ maxLen → (A1 = none → c1 = 0) → n1 ≤ 140737488351232 → BRow w w.heap.size A2 tx → tx.length = n2 → n2 ≤ c2 → c2 ≤ maxLen → (A2 = none → c2 = 0) → n2 ≤ 140737488351232 →
      Calls Try.prog 15 #[.int .u64 key, .int .i64 n, .slice A1 n1 c1, .slice A2 n2 c2] w (LkOpen key n hd tx w))
    (rUN : ∀ (key : Nat) (n : Int) (hd tx : List Int) (w : World), key < 18446744073709551616 → Byt hd → Byt tx → hd.length ≤ 140737488351232 → tx.length ≤ 140737488351232 →
      Calls Try.prog 16 #[.int .u64 key, .int .i64 n, .string (strOfNums hd), .string (strOfNums tx)] w fun e w' => LkStr key n hd tx e ∧ Below w.heap.size w w')
    (x n : Int) (x0 : 0 ≤ x) (x1 : x ≤ 18446744073709551615) (A1 A2 : Option Addr) (n1 c1 n2 c2 : Nat) (z1 z2 : List Int) (W : World) (h1 : IsRow .u8 W A1 n1 c1 z1) (r1 : c1 * 1 ≤ 140737488351232) (h2 : IsRow .u8 W A2 n2 c2 z2) (r2 : c2 * 1 ≤ 140737488351232) :
    Calls Try.prog 5 #[.int .u64 x, .int .i64 n, .slice A1 n1 c1, .slice A2 n2 c2] W fun e w' => e = .returned (.bool true) ∧ Below W.heap.size W w' := by
  obtain ⟨key, rfl⟩ : ∃ y : Nat, x = y := ⟨x.toNat, by omega⟩
  have hk : key < 18446744073709551616 := by omega
  obtain ⟨hb1, hl1, hc1, hm1⟩ := InRow.brow (show InRow W A1 n1 c1 z1 from h1)
  obtain ⟨hb2, hl2, hc2, hm2⟩ := InRow.brow (show InRow W A2 n2 c2 z2 from h2)
  have hn1 : A1 = none → c1 = 0 := fun e => by subst e; rcases h1 with ⟨_, _, e, _⟩ | ⟨x, e, _⟩ <;> first | exact e | cases e
  have hn2 : A2 = none → c2 = 0 := fun e => by subst e; rcases h2 with ⟨_, _, e, _⟩ | ⟨x, e, _⟩ <;> first | exact e | cases e
  obtain ⟨hd, hz1⟩ : ∃ zs, z1.take n1 = zs := ⟨_, rfl⟩
  obtain ⟨tx, hz2⟩ : ∃ zs, z2.take n2 = zs := ⟨_, rfl⟩
  rw [hz1] at hb1 hl1
  rw [hz2] at hb2 hl2
  have HS := Lib.hid (hOPEN key n A1 A2 n1 c1 n2 c2 hd tx W hk hb1 hl1 hc1 hm1 hn1 (by omega) hb2 hl2 hc2 hm2 hn2 (by omega))
  have HL := Lib.hid (fun w => rUN key n hd tx w hk hb1.1 hb2.1 (by omega) (by omega))
  have HB1 := Lib.hid hb1
  have HB2 := Lib.hid hb2
  have HL1 := Lib.hid hl1
  have HL2 := Lib.hid hl2
  unfold LkOpen at HS
  unfold LkStr at HL
  clear hOPEN rUN h1 h2 hb1 hb2 hl1 hl2 hn1 hn2 hz1 hz2 hk
  cases ho : openL key n hd tx with
  | ok t =>
    rw [ho] at HS HL
    simp only at HS HL
    clear ho
    go_enter Try.func5, Try.ntmps5
    go_wp2_with fail
    refine HS.out.mono ?_
    rintro e w1 ⟨b1, d, rfl, hd1⟩
    obtain ⟨A3, c3, rfl, hc3, hm3, hn3, hr3⟩ := hd1.ex
    have B1 := Lib.hid b1
    have s1 := run_str (P := Try.prog) (HB1.out.below b1) HL1.out 26 9 5 c1 Try.underlying26 Try.underlying5 Try.underlying9
    have s2 := run_str (P := Try.prog) (HB2.out.below b1) HL2.out 26 9 5 c2 Try.underlying26 Try.underlying5 Try.underlying9
    have HR3 := Lib.hid hr3
    clear b1 hd1 hr3 hn3
    go_wp2_with fail
    refine (HL.out _).mono ?_
    rintro e w2 ⟨rfl, b2⟩
    have s3 := run_str (P := Try.prog) (HR3.out.below b2) rfl 26 9 5 c3 Try.underlying26 Try.underlying5 Try.underlying9
    have B2 := Lib.hid (B1.out.trans (b2.mono B1.out.size))
    clear b2 s1 s2
    go_wp2_with fail
    go_ret
    exact ⟨by simp, B2.out⟩
  | error x =>
    rw [ho] at HS HL
    simp only at HS HL
    clear ho
    go_enter Try.func5, Try.ntmps5
    go_wp2_with fail
    refine HS.out.mono ?_
    rintro e w1 ⟨b1, d, rfl, hd1⟩
    obtain ⟨A3, c3, rfl, hc3, hm3, hn3, hr3⟩ := hd1.ex
    have B1 := Lib.hid b1
    have s1 := run_str (P := Try.prog) (HB1.out.below b1) HL1.out 26 9 5 c1 Try.underlying26 Try.underlying5 Try.underlying9
    have s2 := run_str (P := Try.prog) (HB2.out.below b1) HL2.out 26 9 5 c2 Try.underlying26 Try.underlying5 Try.underlying9
    have HR3 := Lib.hid hr3
    clear b1 hd1 hr3 hn3
    go_wp2_with fail
    refine (HL.out _).mono ?_
    rintro e w2 ⟨rfl, b2⟩
    have s3 : (convert 26 9 (.slice A3 0 c3)).run Try.prog w2 = .ok (.string ⟨#[]⟩) w2 := run_str (P := Try.prog) (n := 0) (HR3.out.below b2) rfl 26 9 5 c3 Try.underlying26 Try.underlying5 Try.underlying9
    have B2 := Lib.hid (B1.out.trans (b2.mono B1.out.size))
    clear b2 s1 s2
    go_wp2_with fail
    go_ret
    exact ⟨by simp, B2.out⟩
end Go.Proofs.Ytlmckklgmijapaa
