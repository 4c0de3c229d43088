/- Contracts of package head: heldBy, what it answers, numbered. -/
import Derived.Test.YtaccedlpnngdhaaDoorRows
import Derived.WalkLawsBesides
import Derived.WalkSpells
import Derived.Outline
import Derived.Handy
import Derived.Deep.QuietTactic
import Derived.BigQuiet
import Derived.Test.YtaccedlpnngdhaaDoorHdVal
import Derived.Test.YtaccedlpnngdhaaDoorMem
import Derived.Deep.RegionWith
namespace Go.Proofs.YtaccedlpnngdhaaDoor
set_option linter.unusedVariables false
open Go.RowKit P

theorem heldBy_any (s m : Int) (h1 : 1 ≤ s) (h4 : s ≤ 4) (hm : winOf s - 1 = m) (w : World) :
    Calls Tryd.prog 15 #[.int .i64 s] w fun e w' => e = .returned (.func (.func 24) #[] #[.pointer (some ⟨w.heap.size, 0, none⟩)]) ∧ w' = w.alloc (.cells #[.int .i64 m] 3) := by
  have hmf : ∀ (fn : Fn) (first cap : Array Value) (w : World), (Instr.makeFunc fn first cap).run Tryd.prog w = .ok (.func fn first cap) w := fun fn first cap w => rfl
  subst hm
  rcases (show s = 1 ∨ s = 2 ∨ s = 3 ∨ s = 4 by omega) with rfl | rfl | rfl | rfl
  all_goals
    go_enter Tryd.func15, Tryd.ntmps15
    go_wp2
    go_ret
    exact ⟨rfl, rfl⟩
theorem heldC_any (n m : Int) (k : Nat) (w : World) (h : w.cell? ⟨k, 0, none⟩ = some (.int .i64 m)) :
    Calls Tryd.prog 24 #[.int .i64 n, .pointer (some ⟨k, 0, none⟩)] w fun e w' => e = .returned (.bool (decide (0 ≤ n) && decide (n ≤ m))) ∧ w = w' := by
  by_cases a : 0 ≤ n
  · go_enter Tryd.func24, Tryd.ntmps24
    go_wp2
    go_ret
    exact ⟨by simp [a], rfl⟩
  · have g : decide (0 ≤ n) = false := by simp; omega
    go_enter Tryd.func24, Tryd.ntmps24
    go_wp2
    go_ret
    exact ⟨by simp [a], rfl⟩
set_option maxRecDepth 100000 in
set_option maxHeartbeats 4000000 in
theorem numbered_any (kd to fr num size : Int) (d : Value) (w : World) :
    Calls Tryd.prog 16 #[.agg #[.int .i64 kd, .int .i64 to, .int .i64 fr, d, .int .i64 num, .int .i64 size]] w fun e w' => e = .returned (.bool (decide (1 ≤ size ∧ size ≤ 4) && (decide (0 ≤ num) && decide (num ≤ winOf size - 1)))) ∧ Below w.heap.size w w' := by
  have B0 := Lib.hid ((Below.refl w.heap.size w).alloc (Nat.le_refl _) (.cells #[.int .i64 kd, .int .i64 to, .int .i64 fr, d, .int .i64 num, .int .i64 size] 24))
  by_cases a : 1 ≤ size
  · by_cases b : size ≤ 4
    · have e : decide (1 ≤ size ∧ size ≤ 4) = true := by simp; omega
      rw [e, Bool.true_and]
      obtain ⟨m, hm⟩ : ∃ m, winOf size - 1 = m := ⟨_, rfl⟩
      rw [hm]
      have HM := Lib.hid hm
      clear hm e
      go_enter Tryd.func16, Tryd.ntmps16
      go_wp2_with fail
      go_region_with (first
        | (go_at_call 15; refine (heldBy_any size m a b HM.out _).mono ?_; rintro e w' ⟨rfl, rfl⟩)
        | (go_at_call 24; refine (heldC_any num m _ _ (by simp)).mono ?_; rintro e w' ⟨rfl, rfl⟩))
      all_goals
        go_wp2
        go_ret
        refine ⟨rfl, ?_⟩
        first
        | exact Go.below_drewN ((Go.below_drewN B0.out _).alloc (by simp) _) _
        | exact ((Go.below_drewN B0.out _).alloc (by simp) _)
        | exact (B0.out.alloc (by simp) _)
        | exact Go.below_drewN (B0.out.alloc (by simp) _) _
    · have g : decide (size ≤ 4) = false := by simp; omega
      have e : decide (1 ≤ size ∧ size ≤ 4) = false := by simp; omega
      rw [e, Bool.false_and]
      clear e
      go_enter Tryd.func16, Tryd.ntmps16
      go_wp2
      go_quiet (fail)
      go_wp2
      go_ret
      exact ⟨rfl, Go.below_drewN B0.out _⟩
  · have g : decide (1 ≤ size) = false := by simp; omega
    have e : decide (1 ≤ size ∧ size ≤ 4) = false := by simp; omega
    rw [e, Bool.false_and]
    clear e
    go_enter Tryd.func16, Tryd.ntmps16
    go_wp2
    go_quiet (fail)
    go_wp2
    go_ret
    exact ⟨rfl, Go.below_drewN B0.out _⟩
end Go.Proofs.YtaccedlpnngdhaaDoor
