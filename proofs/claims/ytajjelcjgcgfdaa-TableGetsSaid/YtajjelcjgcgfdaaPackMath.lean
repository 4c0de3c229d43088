/- Plain arithmetic of cut numbers: nothing of the program's. -/
import Derived.Test.YtajjelcjgcgfdaaLow
import Derived.Test.YtajjelcjgcgfdaaStr
namespace Go.Proofs.Ytajjelcjgcgfdaa.P
set_option linter.unusedVariables false
open Go.RowKit

theorem cutK_bd (d : Int) : cutK d = 1 ∨ cutK d = 2 ∨ cutK d = 3 ∨ cutK d = 4 := by have := cutK_cases d; omega
theorem winOf_cases (k : Nat) (h : k = 1 ∨ k = 2 ∨ k = 3 ∨ k = 4) : (k = 1 ∧ winOf k = 256) ∨ (k = 2 ∧ winOf k = 65536) ∨ (k = 3 ∧ winOf k = 16777216) ∨ (k = 4 ∧ winOf k = 4294967296) := by
  rcases h with rfl | rfl | rfl | rfl
  · exact .inl ⟨rfl, rfl⟩
  · exact .inr (.inl ⟨rfl, rfl⟩)
  · exact .inr (.inr (.inl ⟨rfl, rfl⟩))
  · exact .inr (.inr (.inr ⟨rfl, rfl⟩))

/-- the lowest bytes, read again, are the remainder -/
theorem be_low (k : Nat) (h : k = 1 ∨ k = 2 ∨ k = 3 ∨ k = 4) (n : Int) : beFrom 0 (lowB k n) = n % winOf k := by
  rcases h with rfl | rfl | rfl | rfl
  · show 0 * 256 + n % 256 = n % 256
    omega
  · show (0 * 256 + n / 256 % 256) * 256 + n % 256 = n % 65536
    omega
  · show ((0 * 256 + n / 256 / 256 % 256) * 256 + n / 256 % 256) * 256 + n % 256 = n % 16777216
    omega
  · show (((0 * 256 + n / 256 / 256 / 256 % 256) * 256 + n / 256 / 256 % 256) * 256 + n / 256 % 256) * 256 + n % 256 = n % 4294967296
    omega

/-- who has seen any one from the last that was told of on makes it whole -/
theorem whole_back (m acked top : Int) (k : Nat) (hk : k = cutK (m - acked)) (h1 : m ≤ 4611686018427387903) (a0 : -1 ≤ acked) (a1 : acked ≤ top) (t1 : top < m) (hd : m - acked ≤ 2147483648) :
    wholeV top (winOf k) (beFrom 0 (lowB k m)) = m := by
  have hb := cutK_bd (m - acked)
  rw [← hk] at hb
  rw [be_low k hb]
  have c := cutK_cases (m - acked)
  rw [← hk] at c
  unfold wholeV
  rcases winOf_cases k hb with ⟨e, ew⟩ | ⟨e, ew⟩ | ⟨e, ew⟩ | ⟨e, ew⟩
  all_goals
    rw [ew]
    have hp := pick3_cases (top + 1 - (top + 1) % winOf k + m % winOf k) (top + 1) (winOf k) (winOf k / 2) (by omega)
    rw [ew] at hp
    omega

theorem be_bd (k : Nat) (h : k = 1 ∨ k = 2 ∨ k = 3 ∨ k = 4) (zs : List Int) (hz : zs.length = k) (hb : Byt zs) : 0 ≤ beFrom 0 zs ∧ beFrom 0 zs < winOf k := by
  have b := beFrom_all 0 zs hb (by omega)
  rw [hz] at b
  rcases h with rfl | rfl | rfl | rfl
  · have e : (256 : Int) ^ 1 = 256 := rfl
    have e' : winOf (1 : Nat) = 256 := rfl
    omega
  · have e : (256 : Int) ^ 2 = 65536 := rfl
    have e' : winOf (2 : Nat) = 65536 := rfl
    omega
  · have e : (256 : Int) ^ 3 = 16777216 := rfl
    have e' : winOf (3 : Nat) = 16777216 := rfl
    omega
  · have e : (256 : Int) ^ 4 = 4294967296 := rfl
    have e' : winOf (4 : Nat) = 4294967296 := rfl
    omega

/-- what is made whole ends as it was cut, and is no farther off than it need be -/
theorem whole_near (t low : Int) (k : Nat) (hk : k = 1 ∨ k = 2 ∨ k = 3 ∨ k = 4) (t0 : 0 ≤ t) (t1 : t < 1152921504606846976) (l0 : 0 ≤ low) (l1 : low < winOf k) :
    let n := wholeV t (winOf k) low
    0 ≤ n ∧ n % winOf k = low ∧ n ≤ t + 1 + winOf k ∧ (t + 1 - winOf k / 2 ≤ n ∨ n - low = 0) ∧ (n ≤ t + 1 + winOf k / 2 ∨ n < winOf k) := by
  intro n
  have hn : n = pick3 (t + 1 - (t + 1) % winOf k + low) (t + 1) (winOf k) (winOf k / 2) := rfl
  clear_value n
  rcases winOf_cases k hk with ⟨e, ew⟩ | ⟨e, ew⟩ | ⟨e, ew⟩ | ⟨e, ew⟩
  all_goals
    have hp := pick3_cases (t + 1 - (t + 1) % winOf k + low) (t + 1) (winOf k) (winOf k / 2) (by omega)
    rw [← hn] at hp
    rw [ew] at hp l1 ⊢
    clear hn
    omega
end Go.Proofs.Ytajjelcjgcgfdaa.P
