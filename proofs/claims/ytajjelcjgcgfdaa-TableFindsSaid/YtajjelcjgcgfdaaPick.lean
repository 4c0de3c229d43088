/- The verifier's texts' own 'picked': a number's remainder, never below nought. -/
import Derived.Test.YtajjelcjgcgfdaaRows
import Derived.WalkKit
import Derived.Handy
import Derived.Lib.Hide
import Derived.Outline
namespace Go.Proofs.Ytajjelcjgcgfdaa
set_option linter.unusedVariables false
open Go.RowKit

theorem tmod_facts (n m : Int) (hm : 0 < m) : (0 ≤ n.tmod m → n.tmod m = n % m) ∧ (n.tmod m < 0 → n.tmod m + m = n % m) ∧ -m < n.tmod m ∧ n.tmod m < m := by
  have e0 := Int.emod_nonneg n (show m ≠ 0 by omega)
  have e1 := Int.emod_lt_of_pos n hm
  rcases Int.le_total 0 n with h | h
  · rw [Int.tmod_eq_emod_of_nonneg h]
    refine ⟨fun _ => rfl, fun h' => by omega, by omega, e1⟩
  · by_cases hd : m ∣ n
    · have h1 : n.tmod m = 0 := Int.tmod_eq_zero_of_dvd hd
      have h2 : n % m = 0 := Int.emod_eq_zero_of_dvd hd
      rw [h1, h2]
      refine ⟨fun _ => rfl, fun h' => by omega, by omega, hm⟩
    · have h3 : n.tmod m = n % m - m := by
        rw [Int.tmod_eq_emod]
        have : ¬ (0 ≤ n ∨ m ∣ n) := by
          intro h'
          rcases h' with h' | h'
          · have : n = 0 := by omega
            subst this; exact hd (Int.dvd_zero m)
          · exact hd h'
        rw [if_neg this]
        omega
      have h4 : n % m ≠ 0 := fun h => hd (Int.dvd_of_emod_eq_zero h)
      rw [h3]
      refine ⟨fun h' => by omega, fun _ => by omega, by omega, by omega⟩

theorem picked_any (n m : Int) (hm : 0 < m) (hm1 : m ≤ 9223372036854775807) (w : World) :
    Calls Try.prog 23 #[.int .i64 n, .int .i64 m] w fun e w' => e = .returned (.int .i64 (n % m)) ∧ w = w' := by
  obtain ⟨f1, f2, f3, f4⟩ := tmod_facts n m hm
  have hm0 : (m == 0) = false := by simp; omega
  by_cases h : n.tmod m < 0
  · have e := Lib.hid (f2 h)
    clear f1 f2
    generalize hq : n.tmod m = q at *
    go_enter Try.func23, Try.ntmps23
    go_wp2
    go_ret
    exact ⟨by rw [← e.out]; rfl, rfl⟩
  · have e := Lib.hid (f1 (by omega))
    clear f1 f2
    generalize hq : n.tmod m = q at *
    go_enter Try.func23, Try.ntmps23
    go_wp2
    go_ret
    exact ⟨by rw [← e.out]; rfl, rfl⟩
end Go.Proofs.Ytajjelcjgcgfdaa
