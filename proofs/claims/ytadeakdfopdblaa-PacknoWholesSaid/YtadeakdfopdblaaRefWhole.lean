/- The reference's WholeNumber. -/
import Derived.Test.YtadeakdfopdblaaWholeOf
namespace Go.Proofs.Ytadeakdfopdblaa
set_option linter.unusedVariables false
open Go.RowKit P

theorem refWhole_size (t : Int) (A : Option Addr) (n c : Nat) (h : n = 0 ∨ 4 < n) (hl : n ≤ c) (hm : c ≤ maxLen) (w : World) :
    Calls Try.prog 12 #[.int .i64 t, .slice A n c] w fun e w' => e = .returned (.tuple #[.int .i64 0, .int .i64 1]) ∧ Below w.heap.size w w' := by
  unfold maxLen at hm
  rcases h with rfl | h
  · go_enter Try.func12, Try.ntmps12
    go_wp2
    go_ret2
    exact ⟨rfl, Below.refl _ _⟩
  · have hn' : ((n : Int) == 0) = false := by simp; omega
    go_enter Try.func12, Try.ntmps12
    go_wp2
    go_ret2
    exact ⟨rfl, Below.refl _ _⟩

theorem refWhole_range (t : Int) (A : Option Addr) (n c : Nat) (h : 1 ≤ n) (h4 : n ≤ 4) (ht : t < -1 ∨ 4611686018427387903 < t) (hl : n ≤ c) (hm : c ≤ maxLen) (w : World) :
    Calls Try.prog 12 #[.int .i64 t, .slice A n c] w fun e w' => e = .returned (.tuple #[.int .i64 0, .int .i64 6]) ∧ Below w.heap.size w w' := by
  unfold maxLen at hm
  have hn' : ((n : Int) == 0) = false := by simp; omega
  by_cases a : t < -1
  · go_enter Try.func12, Try.ntmps12
    go_wp2
    go_ret2
    exact ⟨rfl, Below.refl _ _⟩
  · have a' : 4611686018427387903 < t := by omega
    go_enter Try.func12, Try.ntmps12
    go_wp2
    go_ret2
    exact ⟨rfl, Below.refl _ _⟩

theorem refWhole_in (t : Int) (A : Option Addr) (n cap B : Nat) (zs : List Int) (w : World) (h : BRow w B A zs) (hzn : zs.length = n) (hk : n = 1 ∨ n = 2 ∨ n = 3 ∨ n = 4) (t0 : -1 ≤ t) (t1 : t ≤ 4611686018427387903) (hl : n ≤ cap) (hm : cap ≤ maxLen) :
    Calls Try.prog 12 #[.int .i64 t, .slice A n cap] w fun e w' => e = .returned (.tuple #[.int .i64 (wholeV t (winOf n) (beFrom 0 zs)), .int .i64 0]) ∧ Below w.heap.size w w' := by
  unfold maxLen at hm
  have hcv := fun n => run_str (P := Try.prog) (h.below (Go.below_drewN (Below.refl B w) n)) hzn 22 9 5 cap Try.underlying22 Try.underlying5 Try.underlying9
  have HN := Lib.hid (fun w => refnum_any _ zs rfl h.1 (by omega) w)
  have bd := be_bd n hk zs hzn h.1
  generalize strOfNums zs = s at *
  generalize beFrom 0 zs = y at *
  clear h hzn
  unfold wholeV
  have hp := pick3_cases (t + 1 - (t + 1) % winOf n + y) (t + 1) (winOf n) (winOf n / 2) (by have := winOf_cases n hk; omega)
  generalize pick3 (t + 1 - (t + 1) % winOf n + y) (t + 1) (winOf n) (winOf n / 2) = v at hp ⊢
  rcases winOf_cases n hk with ⟨rfl, ew⟩ | ⟨rfl, ew⟩ | ⟨rfl, ew⟩ | ⟨rfl, ew⟩
  all_goals
    rw [ew] at hp bd
    have HP := Lib.hid hp
    clear hp ew
    have m0 : 0 ≤ (t + 1) % 256 ∧ (t + 1) % 256 < 256 ∧ (t + 1) % 256 ≤ t + 1 := by omega
    have m1 : 0 ≤ (t + 1) % 65536 ∧ (t + 1) % 65536 < 65536 ∧ (t + 1) % 65536 ≤ t + 1 := by omega
    have m2 : 0 ≤ (t + 1) % 16777216 ∧ (t + 1) % 16777216 < 16777216 ∧ (t + 1) % 16777216 ≤ t + 1 := by omega
    have m3 : 0 ≤ (t + 1) % 4294967296 ∧ (t + 1) % 4294967296 < 4294967296 ∧ (t + 1) % 4294967296 ≤ t + 1 := by omega
    go_enter Try.func12, Try.ntmps12
    go_wp2
    go_quiet ((go_at_call 18; exact Calls.quiet_of_same ((HN.out _).mono fun _ _ ⟨a, b⟩ => ⟨a, b.symm⟩)))
    go_wp2
    all_goals
      go_ret2
      exact ⟨ret_whole (by have := HP.out; omega), Go.below_drewN (Below.refl _ _) _⟩
end Go.Proofs.Ytadeakdfopdblaa
