/- Bits taken away by a top. Nothing of the program's. -/
import Derived.Test.YtenhdnanfgnfjaaPxTop
namespace Go.Proofs.Ytenhdnanfgnfjaa
set_option linter.unusedVariables false
open Go.RowKit P

theorem not_dec : ∀ x : Fin 256, bits .andNot .u8 (x.val : Int) 1 = x.val - x.val % 2 ∧ bits .andNot .u8 (x.val : Int) 3 = x.val - x.val % 4 ∧ bits .andNot .u8 (x.val : Int) 7 = x.val - x.val % 8 ∧ bits .andNot .u8 (x.val : Int) 15 = x.val - x.val % 16 ∧ bits .andNot .u8 (x.val : Int) 31 = x.val - x.val % 32 ∧ bits .andNot .u8 (x.val : Int) 63 = x.val - x.val % 64 ∧ bits .andNot .u8 (x.val : Int) 127 = x.val - x.val % 128 ∧ bits .andNot .u8 (x.val : Int) 255 = x.val - x.val % 256 := by decide +kernel
theorem not_top (x : Int) (h0 : 0 ≤ x) (h1 : x < 256) (w : Int) (hw : 1 ≤ w ∧ w ≤ 8) : bits .andNot .u8 x (topW w) = x - x % (topW w + 1) := by
  obtain ⟨n, rfl⟩ : ∃ n : Nat, x = n := ⟨x.toNat, by omega⟩
  have hn : n < 256 := by omega
  have a := not_dec ⟨n, hn⟩
  revert w
  exact eight (P := fun w => bits .andNot .u8 (n : Int) (topW w) = n - n % (topW w + 1)) a.1 a.2.1 a.2.2.1 a.2.2.2.1 a.2.2.2.2.1 a.2.2.2.2.2.1 a.2.2.2.2.2.2.1 a.2.2.2.2.2.2.2
/-- a byte of which the bits below are taken away -/
theorem not_in (x : Int) (h0 : 0 ≤ x) (h1 : x < 256) (w : Int) (hw : 1 ≤ w ∧ w ≤ 8) : 0 ≤ x - x % (topW w + 1) ∧ x - x % (topW w + 1) < 256 ∧ (x - x % (topW w + 1)) % (topW w + 1) = 0 := by
  have t := topW_in w
  have e := Int.emod_nonneg x (show topW w + 1 ≠ 0 by omega)
  have l := Int.mul_nonneg (show 0 ≤ topW w + 1 by omega) (Int.ediv_nonneg h0 (show 0 ≤ topW w + 1 by omega))
  have l2 := Int.mul_ediv_add_emod x (topW w + 1)
  exact ⟨by omega, by omega, by rw [Int.sub_emod, Int.emod_emod_of_dvd _ (Int.dvd_refl _), Int.sub_self, Int.zero_emod]⟩
theorem shl_top (w : Int) (hw : 1 ≤ w ∧ w ≤ 8) : ((2 : Int) ^ w.toNat % 256 - 1) % 256 = topW w := by
  revert w
  exact eight (by decide) (by decide) (by decide) (by decide) (by decide) (by decide) (by decide) (by decide)
end Go.Proofs.Ytenhdnanfgnfjaa
