/- varint.Encode's contract. -/
import Derived.Test.YtaccedlpnngdhaaDoorTz
import Derived.Test.YtaccedlpnngdhaaDoorMk
import Derived.StillTailTactics
import Derived.RegionTactic
import Derived.Deep.RegionWith
namespace Go.Proofs.YtaccedlpnngdhaaDoor
set_option linter.unusedVariables false
open Go.RowKit P

theorem encode_1 (n : Int) (h0 : 0 ≤ n) (h1 : n < 64) (w : World) (ht : Tab w) :
    Calls Tryd.prog 18 #[.int .i64 n] w (EncPost [n] w) := by
  have hs : sz n = 1 := by unfold sz; rw [if_pos h1]
  have hmk := mk1
  have hw1 : IntKind.u64.wrap 1 = 1 := by kernel_rfl
  have hw2 : IntKind.u8.wrap 0 = 0 := by kernel_rfl
  have hor := or_top n 0 h0 h1 (by omega)
  rw [Int.add_zero] at hor
  have HT := Lib.hid ht
  clear ht
  go_enter Tryd.func18, Tryd.ntmps18
  go_wp2_with (go_at_call 25; refine (size_in _ h0 (by omega) _).mono ?_; rintro e w' ⟨rfl, rfl⟩)
  go_rounds 2
  go_region_with ((go_at_call 26; refine (tz1 _ (HT.out.alloc _).drew).mono ?_; rintro e w' ⟨rfl, rfl⟩))
  all_goals
    go_wp2
    go_ret2
    exact ⟨rfl, ((Below.refl _ _).alloc (Nat.le_refl _) _).drew, heap_new _ _⟩

theorem encode_2 (n : Int) (h0 : 64 ≤ n) (h1 : n < 16384) (w : World) (ht : Tab w) :
    Calls Tryd.prog 18 #[.int .i64 n] w (EncPost [n / 256 + 64, n % 256] w) := by
  have hs : sz n = 2 := by unfold sz; rw [if_neg (by omega), if_pos h1]
  have hmk := mk2
  have hw1 : IntKind.u64.wrap 2 = 2 := by kernel_rfl
  have hw2 : IntKind.u8.wrap 1 = 1 := by kernel_rfl
  have hw3 : IntKind.u8.wrap 64 = 64 := by kernel_rfl
  have hor := or_top (n / 256) 64 (by omega) (by omega) (by omega)
  have HT := Lib.hid ht
  clear ht
  go_enter Tryd.func18, Tryd.ntmps18
  go_wp2_with (go_at_call 25; refine (size_in _ (by omega) (by omega) _).mono ?_; rintro e w' ⟨rfl, rfl⟩)
  go_rounds 3
  go_region_with ((go_at_call 26; refine (tz2 _ (HT.out.alloc _).drew).mono ?_; rintro e w' ⟨rfl, rfl⟩))
  all_goals
    go_wp2
    go_ret2
    exact ⟨rfl, ((Below.refl _ _).alloc (Nat.le_refl _) _).drew, heap_new _ _⟩

theorem encode_4 (n : Int) (h0 : 16384 ≤ n) (h1 : n < 1073741824) (w : World) (ht : Tab w) :
    Calls Tryd.prog 18 #[.int .i64 n] w (EncPost [n / 256 / 256 / 256 + 128, n / 256 / 256 % 256, n / 256 % 256, n % 256] w) := by
  have hs : sz n = 4 := by unfold sz; rw [if_neg (by omega), if_neg (by omega), if_pos h1]
  have hmk := mk4
  have hw1 : IntKind.u64.wrap 4 = 4 := by kernel_rfl
  have hw2 : IntKind.u8.wrap 2 = 2 := by kernel_rfl
  have hw3 : IntKind.u8.wrap 128 = 128 := by kernel_rfl
  have hor := or_top (n / 256 / 256 / 256) 128 (by omega) (by omega) (by omega)
  have HT := Lib.hid ht
  clear ht
  go_enter Tryd.func18, Tryd.ntmps18
  go_wp2_with (go_at_call 25; refine (size_in _ (by omega) (by omega) _).mono ?_; rintro e w' ⟨rfl, rfl⟩)
  go_rounds 5
  go_region_with ((go_at_call 26; refine (tz4 _ (HT.out.alloc _).drew).mono ?_; rintro e w' ⟨rfl, rfl⟩))
  all_goals
    go_wp2
    go_ret2
    exact ⟨rfl, ((Below.refl _ _).alloc (Nat.le_refl _) _).drew, heap_new _ _⟩

theorem encode_8 (n : Int) (h0 : 1073741824 ≤ n) (h1 : n < 4611686018427387904) (w : World) (ht : Tab w) :
    Calls Tryd.prog 18 #[.int .i64 n] w (EncPost [n / 256 / 256 / 256 / 256 / 256 / 256 / 256 + 192, n / 256 / 256 / 256 / 256 / 256 / 256 % 256, n / 256 / 256 / 256 / 256 / 256 % 256, n / 256 / 256 / 256 / 256 % 256, n / 256 / 256 / 256 % 256, n / 256 / 256 % 256, n / 256 % 256, n % 256] w) := by
  have hs : sz n = 8 := by unfold sz; rw [if_neg (by omega), if_neg (by omega), if_neg (by omega)]
  have hmk := mk8
  have hw1 : IntKind.u64.wrap 8 = 8 := by kernel_rfl
  have hw2 : IntKind.u8.wrap 3 = 3 := by kernel_rfl
  have hw3 : IntKind.u8.wrap 192 = 192 := by kernel_rfl
  have hor := or_top (n / 256 / 256 / 256 / 256 / 256 / 256 / 256) 192 (by omega) (by omega) (by omega)
  have HT := Lib.hid ht
  clear ht
  go_enter Tryd.func18, Tryd.ntmps18
  go_wp2_with (go_at_call 25; refine (size_in _ (by omega) (by omega) _).mono ?_; rintro e w' ⟨rfl, rfl⟩)
  go_rounds 9
  go_region_with ((go_at_call 26; refine (tz8 _ (HT.out.alloc _).drew).mono ?_; rintro e w' ⟨rfl, rfl⟩))
  all_goals
    go_wp2
    go_ret2
    exact ⟨rfl, ((Below.refl _ _).alloc (Nat.le_refl _) _).drew, heap_new _ _⟩

theorem encode_in (n : Int) (h0 : 0 ≤ n) (h1 : n ≤ 4611686018427387903) (w : World) (ht : Tab w) :
    Calls Tryd.prog 18 #[.int .i64 n] w (EncPost (enc n) w) := by
  unfold enc
  by_cases a : n < 64
  · rw [if_pos a]; exact encode_1 n h0 a w ht
  rw [if_neg a]
  by_cases b : n < 16384
  · rw [if_pos b]; exact encode_2 n (by omega) b w ht
  rw [if_neg b]
  by_cases c : n < 1073741824
  · rw [if_pos c]; exact encode_4 n (by omega) c w ht
  rw [if_neg c]
  exact encode_8 n (by omega) (by omega) w ht

theorem encode_out (n : Int) (h : n < 0 ∨ 4611686018427387903 < n) (w : World) :
    Calls Tryd.prog 18 #[.int .i64 n] w fun e w' => e = .returned (.tuple #[.slice none 0 0, .int .i64 6]) ∧ w = w' := by
  go_enter Tryd.func18, Tryd.ntmps18
  go_wp2_with (go_at_call 25; refine (size_out _ h _).mono ?_; rintro e w' ⟨rfl, rfl⟩)
  go_ret2
  exact ⟨rfl, rfl⟩


end Go.Proofs.YtaccedlpnngdhaaDoor
