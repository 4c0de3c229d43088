/- Contracts of package head: told, begun. -/
import Derived.Test.YtaccedlpnngdhaaDoorHdVal
import Derived.Test.YtaccedlpnngdhaaDoorMem
import Derived.Test.YtaccedlpnngdhaaDoorOwnB
namespace Go.Proofs.YtaccedlpnngdhaaDoor
set_option linter.unusedVariables false
open Go.RowKit P

theorem low2_u8 (z : Int) (h0 : 0 ≤ z) (h1 : z ≤ 255) : bits .and .u8 z 3 = z % 4 := by
  have key : ∀ i : Fin 256, bits .and .u8 (i.val : Int) 3 = (i.val : Int) % 4 := by decide +kernel
  have := key ⟨z.toNat, by omega⟩
  simpa [Int.toNat_of_nonneg h0] using this
theorem high6_u8 (z : Int) (h0 : 0 ≤ z) (h1 : z ≤ 255) : bits .andNot .u8 z 3 = z - z % 4 := by
  have key : ∀ i : Fin 256, bits .andNot .u8 (i.val : Int) 3 = (i.val : Int) - (i.val : Int) % 4 := by decide +kernel
  have := key ⟨z.toNat, by omega⟩
  simpa [Int.toNat_of_nonneg h0] using this

/-- the head that a first byte tells, the rest nothing yet -/
def tHd (k n : Int) : Value := .agg #[.int .i64 k, .int .i64 0, .int .i64 0, .slice none 0 0, .int .i64 0, .int .i64 n]
theorem told_no (z : Int) (h0 : 0 ≤ z) (h1 : z ≤ 255) (h : kindH z = none) (w : World) :
    Calls Tryd.prog 29 #[.int .u8 z] w fun e w' => e = .returned (.tuple #[tHd 0 0, .bool false]) ∧ Below w.heap.size w w' := by
  have hl := low2_u8 z h0 h1
  have hh := high6_u8 z h0 h1
  unfold kindH at h
  have a1 : ¬ (64 ≤ z ∧ z < 68) := fun e => by rw [if_pos e] at h; cases h
  rw [if_neg a1] at h
  have a2 : ¬ (192 ≤ z ∧ z < 196) := fun e => by rw [if_pos e] at h; cases h
  rw [if_neg a2] at h
  have a3 : ¬ z = 240 := fun e => by rw [if_pos e] at h; cases h
  have g1 : (z == 240) = false := by simp [a3]
  have g2 : (z - z % 4 == 64) = false := by simp; omega
  have g3 : (z - z % 4 == 192) = false := by simp; omega
  have B := Lib.hid ((Below.refl w.heap.size w).alloc (Nat.le_refl _) (.cells #[.int .i64 0, .int .i64 0, .int .i64 0, .slice none 0 0, .int .i64 0, .int .i64 0] 24))
  clear h a1 a2 a3
  go_enter Tryd.func29, Tryd.ntmps29
  go_wp2
  refine bodyPost_ret (by simp [results, Tryd.results29, go_sem]; try rfl) rfl ?_
  exact ⟨rfl, by first | exact B.out | skip⟩
theorem told_yes (z k n : Int) (h : kindH z = some (k, n)) (w : World) :
    Calls Tryd.prog 29 #[.int .u8 z] w fun e w' => e = .returned (.tuple #[tHd k n, .bool true]) ∧ Below w.heap.size w w' := by
  rcases kindH_some h with ⟨rfl, rfl, z0, z1⟩ | ⟨rfl, rfl, z0, z1⟩ | ⟨rfl, rfl, rfl⟩
  · clear h
    rcases (show z = 64 ∨ z = 65 ∨ z = 66 ∨ z = 67 by omega) with rfl | rfl | rfl | rfl
    all_goals
      clear z0 z1
      go_enter Tryd.func29, Tryd.ntmps29
      go_wp2
      refine bodyPost_ret (by simp [results, Tryd.results29, go_sem]; try rfl) rfl ?_
      exact ⟨by first | rfl | kernel_rfl, (Below.refl w.heap.size w).alloc (Nat.le_refl _) _⟩
  · clear h
    rcases (show z = 192 ∨ z = 193 ∨ z = 194 ∨ z = 195 by omega) with rfl | rfl | rfl | rfl
    all_goals
      clear z0 z1
      go_enter Tryd.func29, Tryd.ntmps29
      go_wp2
      refine bodyPost_ret (by simp [results, Tryd.results29, go_sem]; try rfl) rfl ?_
      exact ⟨by first | rfl | kernel_rfl, (Below.refl w.heap.size w).alloc (Nat.le_refl _) _⟩
  · clear h
    go_enter Tryd.func29, Tryd.ntmps29
    go_wp2
    refine bodyPost_ret (by simp [results, Tryd.results29, go_sem]; try rfl) rfl ?_
    exact ⟨by first | rfl | kernel_rfl, (Below.refl w.heap.size w).alloc (Nat.le_refl _) _⟩
end Go.Proofs.YtaccedlpnngdhaaDoor
