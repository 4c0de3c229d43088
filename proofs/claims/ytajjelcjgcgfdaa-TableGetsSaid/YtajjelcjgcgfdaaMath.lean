/- Plain facts on numbers that the walks lean on: nothing of the program's. -/
import Derived.WalkKit
namespace Go.Proofs.Ytajjelcjgcgfdaa.P
set_option linter.unusedVariables false
open Go.RowKit

/-- a number masked to 62 bits -/
def num (n : Int) : Int := n % 4611686018427387904
theorem num_bd (n : Int) : 0 ≤ num n ∧ num n ≤ 4611686018427387903 := by unfold num; omega
theorem and_num (n : Int) : bits .and .i64 n 4611686018427387903 = num n := by
  have hm : (BitVec.ofInt 64 4611686018427387903).toNat = 2 ^ 62 - 1 := by decide
  have key : (BitVec.ofInt 64 n &&& BitVec.ofInt 64 4611686018427387903).toNat = (n % ((2 ^ 64 : Nat) : Int)).toNat % 2 ^ 62 := by
    rw [BitVec.toNat_and, BitVec.toNat_ofInt, hm, Nat.and_two_pow_sub_one_eq_mod]
  show IntKind.i64.wrap ((BitVec.ofInt 64 n &&& BitVec.ofInt 64 4611686018427387903).toNat : Nat) = _
  unfold num
  rw [key, IntKind.wrap_i64]
  omega
end Go.Proofs.Ytajjelcjgcgfdaa.P
