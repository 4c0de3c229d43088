/- Contract of packno.Whole. -/
import Derived.Test.YtadeakdfopdblaaPackno
namespace Go.Proofs.Ytadeakdfopdblaa
set_option linter.unusedVariables false
open Go.RowKit P

theorem ret_whole {a b : Int} (h : a = b) : Ending.returned (.tuple #[.int .i64 a, .int .i64 0]) = .returned (.tuple #[.int .i64 b, .int .i64 0]) := by rw [h]

theorem whole_size (t : Int) (A : Option Addr) (n c : Nat) (h : n = 0 ∨ 4 < n) (hl : n ≤ c) (hm : c ≤ maxLen) (w : World) :
    Calls Try.prog 11 #[.int .i64 t, .slice A n c] w fun e w' => e = .returned (.tuple #[.int .i64 0, .int .i64 1]) ∧ w = w' := by
  unfold maxLen at hm
  rcases h with rfl | h
  all_goals
    go_enter Try.func11, Try.ntmps11
    go_wp2
    go_ret2
    exact ⟨rfl, rfl⟩

theorem whole_range (t : Int) (A : Option Addr) (n c : Nat) (h : 1 ≤ n) (h4 : n ≤ 4) (ht : t < -1 ∨ 4611686018427387903 < t) (hl : n ≤ c) (hm : c ≤ maxLen) (w : World) :
    Calls Try.prog 11 #[.int .i64 t, .slice A n c] w fun e w' => e = .returned (.tuple #[.int .i64 0, .int .i64 6]) ∧ w = w' := by
  unfold maxLen at hm
  by_cases a : t < -1
  · go_enter Try.func11, Try.ntmps11
    go_wp2
    go_ret2
    exact ⟨rfl, rfl⟩
  · have a' : 4611686018427387903 < t := by omega
    go_enter Try.func11, Try.ntmps11
    go_wp2
    go_ret2
    exact ⟨rfl, rfl⟩

theorem whole_1 (t : Int) (b off c : Nat) (z0 : Int) (w : World) (t0 : -1 ≤ t) (t1 : t ≤ 4611686018427387903) (h0 : 0 ≤ z0 ∧ z0 ≤ 255) (c0 : w.cell? ⟨b, off, none⟩ = some (.int .u8 z0)) (hl : 1 ≤ c) (hm : c ≤ maxLen) :
    Calls Try.prog 11 #[.int .i64 t, .slice (some ⟨b, off, none⟩) 1 c] w fun e w' => e = .returned (.tuple #[.int .i64 (wholeV t 256 (0 * 256 + z0)), .int .i64 0]) ∧ w = w' := by
  unfold maxLen at hm
  have W1 : winOf 1 = 256 := rfl
  have hv := pick3_cases (t + 1 - (t + 1) % 256 + (0 * 256 + z0)) (t + 1) 256 128 (by omega)
  show Calls _ _ _ _ fun e w' => e = .returned (.tuple #[.int .i64 (pick3 (t + 1 - (t + 1) % 256 + (0 * 256 + z0)) (t + 1) 256 128), .int .i64 0]) ∧ w = w'
  generalize pick3 (t + 1 - (t + 1) % 256 + (0 * 256 + z0)) (t + 1) 256 128 = v at hv ⊢
  have m0 : 0 ≤ (t + 1) % 256 ∧ (t + 1) % 256 < 256 ∧ (t + 1) % 256 ≤ t + 1 := by omega
  have HV := Lib.hid hv
  clear hv
  go_enter Try.func11, Try.ntmps11
  go_wp2_with (go_at_call 14; refine (window_any _ (by omega) _).mono ?_; rintro e w' ⟨rfl, rfl⟩)
  go_rounds 2
  all_goals
    go_ret2
    exact ⟨ret_whole (by have := HV.out; omega), rfl⟩
theorem whole_2 (t : Int) (b off c : Nat) (z0 z1 : Int) (w : World) (t0 : -1 ≤ t) (t1 : t ≤ 4611686018427387903) (h0 : 0 ≤ z0 ∧ z0 ≤ 255) (h1 : 0 ≤ z1 ∧ z1 ≤ 255) (c0 : w.cell? ⟨b, off, none⟩ = some (.int .u8 z0)) (c1 : w.cell? ⟨b, off + 1, none⟩ = some (.int .u8 z1)) (hl : 2 ≤ c) (hm : c ≤ maxLen) :
    Calls Try.prog 11 #[.int .i64 t, .slice (some ⟨b, off, none⟩) 2 c] w fun e w' => e = .returned (.tuple #[.int .i64 (wholeV t 65536 ((0 * 256 + z0) * 256 + z1)), .int .i64 0]) ∧ w = w' := by
  unfold maxLen at hm
  have W1 : winOf 2 = 65536 := rfl
  have hv := pick3_cases (t + 1 - (t + 1) % 65536 + ((0 * 256 + z0) * 256 + z1)) (t + 1) 65536 32768 (by omega)
  show Calls _ _ _ _ fun e w' => e = .returned (.tuple #[.int .i64 (pick3 (t + 1 - (t + 1) % 65536 + ((0 * 256 + z0) * 256 + z1)) (t + 1) 65536 32768), .int .i64 0]) ∧ w = w'
  generalize pick3 (t + 1 - (t + 1) % 65536 + ((0 * 256 + z0) * 256 + z1)) (t + 1) 65536 32768 = v at hv ⊢
  have m0 : 0 ≤ (t + 1) % 65536 ∧ (t + 1) % 65536 < 65536 ∧ (t + 1) % 65536 ≤ t + 1 := by omega
  have HV := Lib.hid hv
  clear hv
  go_enter Try.func11, Try.ntmps11
  go_wp2_with (go_at_call 14; refine (window_any _ (by omega) _).mono ?_; rintro e w' ⟨rfl, rfl⟩)
  go_rounds 3
  all_goals
    go_ret2
    exact ⟨ret_whole (by have := HV.out; omega), rfl⟩
theorem whole_3 (t : Int) (b off c : Nat) (z0 z1 z2 : Int) (w : World) (t0 : -1 ≤ t) (t1 : t ≤ 4611686018427387903) (h0 : 0 ≤ z0 ∧ z0 ≤ 255) (h1 : 0 ≤ z1 ∧ z1 ≤ 255) (h2 : 0 ≤ z2 ∧ z2 ≤ 255) (c0 : w.cell? ⟨b, off, none⟩ = some (.int .u8 z0)) (c1 : w.cell? ⟨b, off + 1, none⟩ = some (.int .u8 z1)) (c2 : w.cell? ⟨b, off + 2, none⟩ = some (.int .u8 z2)) (hl : 3 ≤ c) (hm : c ≤ maxLen) :
    Calls Try.prog 11 #[.int .i64 t, .slice (some ⟨b, off, none⟩) 3 c] w fun e w' => e = .returned (.tuple #[.int .i64 (wholeV t 16777216 (((0 * 256 + z0) * 256 + z1) * 256 + z2)), .int .i64 0]) ∧ w = w' := by
  unfold maxLen at hm
  have W1 : winOf 3 = 16777216 := rfl
  have hv := pick3_cases (t + 1 - (t + 1) % 16777216 + (((0 * 256 + z0) * 256 + z1) * 256 + z2)) (t + 1) 16777216 8388608 (by omega)
  show Calls _ _ _ _ fun e w' => e = .returned (.tuple #[.int .i64 (pick3 (t + 1 - (t + 1) % 16777216 + (((0 * 256 + z0) * 256 + z1) * 256 + z2)) (t + 1) 16777216 8388608), .int .i64 0]) ∧ w = w'
  generalize pick3 (t + 1 - (t + 1) % 16777216 + (((0 * 256 + z0) * 256 + z1) * 256 + z2)) (t + 1) 16777216 8388608 = v at hv ⊢
  have m0 : 0 ≤ (t + 1) % 16777216 ∧ (t + 1) % 16777216 < 16777216 ∧ (t + 1) % 16777216 ≤ t + 1 := by omega
  have HV := Lib.hid hv
  clear hv
  go_enter Try.func11, Try.ntmps11
  go_wp2_with (go_at_call 14; refine (window_any _ (by omega) _).mono ?_; rintro e w' ⟨rfl, rfl⟩)
  go_rounds 4
  all_goals
    go_ret2
    exact ⟨ret_whole (by have := HV.out; omega), rfl⟩
theorem whole_4 (t : Int) (b off c : Nat) (z0 z1 z2 z3 : Int) (w : World) (t0 : -1 ≤ t) (t1 : t ≤ 4611686018427387903) (h0 : 0 ≤ z0 ∧ z0 ≤ 255) (h1 : 0 ≤ z1 ∧ z1 ≤ 255) (h2 : 0 ≤ z2 ∧ z2 ≤ 255) (h3 : 0 ≤ z3 ∧ z3 ≤ 255) (c0 : w.cell? ⟨b, off, none⟩ = some (.int .u8 z0)) (c1 : w.cell? ⟨b, off + 1, none⟩ = some (.int .u8 z1)) (c2 : w.cell? ⟨b, off + 2, none⟩ = some (.int .u8 z2)) (c3 : w.cell? ⟨b, off + 3, none⟩ = some (.int .u8 z3)) (hl : 4 ≤ c) (hm : c ≤ maxLen) :
    Calls Try.prog 11 #[.int .i64 t, .slice (some ⟨b, off, none⟩) 4 c] w fun e w' => e = .returned (.tuple #[.int .i64 (wholeV t 4294967296 ((((0 * 256 + z0) * 256 + z1) * 256 + z2) * 256 + z3)), .int .i64 0]) ∧ w = w' := by
  unfold maxLen at hm
  have W1 : winOf 4 = 4294967296 := rfl
  have hv := pick3_cases (t + 1 - (t + 1) % 4294967296 + ((((0 * 256 + z0) * 256 + z1) * 256 + z2) * 256 + z3)) (t + 1) 4294967296 2147483648 (by omega)
  show Calls _ _ _ _ fun e w' => e = .returned (.tuple #[.int .i64 (pick3 (t + 1 - (t + 1) % 4294967296 + ((((0 * 256 + z0) * 256 + z1) * 256 + z2) * 256 + z3)) (t + 1) 4294967296 2147483648), .int .i64 0]) ∧ w = w'
  generalize pick3 (t + 1 - (t + 1) % 4294967296 + ((((0 * 256 + z0) * 256 + z1) * 256 + z2) * 256 + z3)) (t + 1) 4294967296 2147483648 = v at hv ⊢
  have m0 : 0 ≤ (t + 1) % 4294967296 ∧ (t + 1) % 4294967296 < 4294967296 ∧ (t + 1) % 4294967296 ≤ t + 1 := by omega
  have HV := Lib.hid hv
  clear hv
  go_enter Try.func11, Try.ntmps11
  go_wp2_with (go_at_call 14; refine (window_any _ (by omega) _).mono ?_; rintro e w' ⟨rfl, rfl⟩)
  go_rounds 5
  all_goals
    go_ret2
    exact ⟨ret_whole (by have := HV.out; omega), rfl⟩
end Go.Proofs.Ytadeakdfopdblaa
