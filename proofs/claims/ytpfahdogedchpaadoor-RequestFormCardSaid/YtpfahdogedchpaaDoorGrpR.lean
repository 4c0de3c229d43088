/- Several texts in one. -/
import Derived.Test.YtpfahdogedchpaaDoorGrpA
import Derived.Test.YtpfahdogedchpaaDoorRows
import Derived.WalkKit
import Derived.Handy
import Derived.Lib.Hide
import Derived.WalkLawsBesides
import Derived.WalkSpells
import Derived.Outline
import Derived.Deep.QuietTactic
import Derived.BigQuiet
import Derived.Test.YtpfahdogedchpaaDoorGrpC
import Derived.StillTailTactics
import Derived.RegionTactic
import Derived.Deep.RegionWith
/- What varint.Size answers, and the mask of the verifier's texts: contracts by a walk of the Go text. -/
namespace Go.Proofs.YtpfahdogedchpaaDoor
set_option linter.unusedVariables false
open Go.RowKit P

theorem size_in (n : Int) (h0 : 0 ≤ n) (h1 : n ≤ 4611686018427387903) (w : World) :
    Calls Tryd.prog 70 #[.int .i64 n] w fun e w' => e = .returned (.tuple #[.int .i64 (sz n), .int .i64 0]) ∧ w = w' := by
  unfold sz
  by_cases a : n < 64
  · go_enter Tryd.func70, Tryd.ntmps70
    go_wp2
    go_ret2
    exact ⟨rfl, rfl⟩
  by_cases b : n < 16384
  · go_enter Tryd.func70, Tryd.ntmps70
    go_wp2
    go_ret2
    exact ⟨rfl, rfl⟩
  by_cases c : n < 1073741824
  · go_enter Tryd.func70, Tryd.ntmps70
    go_wp2
    go_ret2
    exact ⟨rfl, rfl⟩
  go_enter Tryd.func70, Tryd.ntmps70
  go_wp2
  go_ret2
  exact ⟨rfl, rfl⟩

theorem size_out (n : Int) (h : n < 0 ∨ 4611686018427387903 < n) (w : World) :
    Calls Tryd.prog 70 #[.int .i64 n] w fun e w' => e = .returned (.tuple #[.int .i64 0, .int .i64 6]) ∧ w = w' := by
  rcases h with h | h
  · go_enter Tryd.func70, Tryd.ntmps70
    go_wp2
    go_ret2
    exact ⟨rfl, rfl⟩
  · have h' : ¬ n < 0 := by omega
    go_enter Tryd.func70, Tryd.ntmps70
    go_wp2
    go_ret2
    exact ⟨rfl, rfl⟩

end Go.Proofs.YtpfahdogedchpaaDoor
/- math/bits.TrailingZeros at the four sizes of a number, off the laid table's cells. -/
namespace Go.Proofs.YtpfahdogedchpaaDoor
set_option linter.unusedVariables false
open Go.RowKit P

/-- the cells of the listed table that the four sizes lead to -/
structure Tab (w : World) : Prop where
  c0 : w.cell? ⟨1, 0, none⟩ = some (.int .u8 0)
  c1 : w.cell? ⟨1, 1, none⟩ = some (.int .u8 1)
  c3 : w.cell? ⟨1, 3, none⟩ = some (.int .u8 2)
  c7 : w.cell? ⟨1, 7, none⟩ = some (.int .u8 3)
  lt : 1 < w.heap.size

theorem Tab.below {w w' : World} (h : Tab w) (hb : Below w.heap.size w w') : Tab w' :=
  have k : ∀ o, w'.cell? ⟨1, o, none⟩ = w.cell? ⟨1, o, none⟩ := fun o => hb.cell (p := ⟨1, o, none⟩) h.lt
  ⟨(k _).trans h.c0, (k _).trans h.c1, (k _).trans h.c3, (k _).trans h.c7, Nat.lt_of_lt_of_le h.lt hb.size⟩

theorem tz_any (k x t : Nat) (hc : (k = 1 ∧ x = 0 ∧ t = 0) ∨ (k = 2 ∧ x = 1 ∧ t = 1) ∨ (k = 4 ∧ x = 3 ∧ t = 2) ∨ (k = 8 ∧ x = 7 ∧ t = 3)) (w : World) (h : w.cell? ⟨1, x, none⟩ = some (.int .u8 t)) :
    Calls Tryd.prog 71 #[.int .u64 k] w fun e w' => e = .returned (.int .i64 t) ∧ w = w' := by
  have e1 : bits .and .u64 1 (IntKind.u64.wrap (-1)) = 1 := by kernel_rfl
  have e2 : bits .and .u64 2 (IntKind.u64.wrap (-2)) = 2 := by kernel_rfl
  have e4 : bits .and .u64 4 (IntKind.u64.wrap (-4)) = 4 := by kernel_rfl
  have e8 : bits .and .u64 8 (IntKind.u64.wrap (-8)) = 8 := by kernel_rfl
  rcases hc with ⟨rfl, rfl, rfl⟩ | ⟨rfl, rfl, rfl⟩ | ⟨rfl, rfl, rfl⟩ | ⟨rfl, rfl, rfl⟩
  all_goals
    go_enter Tryd.func71, Tryd.ntmps71
    go_wp2
    go_ret
    exact ⟨rfl, rfl⟩
theorem tz1 (w : World) (h : Tab w) : Calls Tryd.prog 71 #[.int .u64 1] w fun e w' => e = .returned (.int .i64 0) ∧ w = w' := tz_any 1 0 0 (by omega) w h.c0
theorem tz2 (w : World) (h : Tab w) : Calls Tryd.prog 71 #[.int .u64 2] w fun e w' => e = .returned (.int .i64 1) ∧ w = w' := tz_any 2 1 1 (by omega) w h.c1
theorem tz4 (w : World) (h : Tab w) : Calls Tryd.prog 71 #[.int .u64 4] w fun e w' => e = .returned (.int .i64 2) ∧ w = w' := tz_any 4 3 2 (by omega) w h.c3
theorem tz8 (w : World) (h : Tab w) : Calls Tryd.prog 71 #[.int .u64 8] w fun e w' => e = .returned (.int .i64 3) ∧ w = w' := tz_any 8 7 3 (by omega) w h.c7
theorem Tab.alloc {w : World} (h : Tab w) (o : Obj) : Tab (w.alloc o) := h.below ((Below.refl _ _).alloc (Nat.le_refl _) _)
theorem Tab.drew {w : World} (h : Tab w) : Tab w.drew := h.below (Below.refl _ _).drew
end Go.Proofs.YtpfahdogedchpaaDoor
/- varint.Encode's contract. -/
namespace Go.Proofs.YtpfahdogedchpaaDoor
set_option linter.unusedVariables false
open Go.RowKit P

theorem encode_1 (n : Int) (h0 : 0 ≤ n) (h1 : n < 64) (w : World) (ht : Tab w) :
    Calls Tryd.prog 43 #[.int .i64 n] w (EncPost [n] w) := by
  have hs : sz n = 1 := by unfold sz; rw [if_pos h1]
  have hmk := mk1
  have hw1 : IntKind.u64.wrap 1 = 1 := by kernel_rfl
  have hw2 : IntKind.u8.wrap 0 = 0 := by kernel_rfl
  have hor := or_top n 0 h0 h1 (by omega)
  rw [Int.add_zero] at hor
  have HT := Lib.hid ht
  clear ht
  go_enter Tryd.func43, Tryd.ntmps43
  go_wp2_with (go_at_call 70; refine (size_in _ h0 (by omega) _).mono ?_; rintro e w' ⟨rfl, rfl⟩)
  go_rounds 2
  go_region_with ((go_at_call 71; refine (tz1 _ (HT.out.alloc _).drew).mono ?_; rintro e w' ⟨rfl, rfl⟩))
  all_goals
    go_wp2
    go_ret2
    exact ⟨rfl, ((Below.refl _ _).alloc (Nat.le_refl _) _).drew, heap_new _ _⟩

theorem encode_2 (n : Int) (h0 : 64 ≤ n) (h1 : n < 16384) (w : World) (ht : Tab w) :
    Calls Tryd.prog 43 #[.int .i64 n] w (EncPost [n / 256 + 64, n % 256] w) := by
  have hs : sz n = 2 := by unfold sz; rw [if_neg (by omega), if_pos h1]
  have hmk := mk2
  have hw1 : IntKind.u64.wrap 2 = 2 := by kernel_rfl
  have hw2 : IntKind.u8.wrap 1 = 1 := by kernel_rfl
  have hw3 : IntKind.u8.wrap 64 = 64 := by kernel_rfl
  have hor := or_top (n / 256) 64 (by omega) (by omega) (by omega)
  have HT := Lib.hid ht
  clear ht
  go_enter Tryd.func43, Tryd.ntmps43
  go_wp2_with (go_at_call 70; refine (size_in _ (by omega) (by omega) _).mono ?_; rintro e w' ⟨rfl, rfl⟩)
  go_rounds 3
  go_region_with ((go_at_call 71; refine (tz2 _ (HT.out.alloc _).drew).mono ?_; rintro e w' ⟨rfl, rfl⟩))
  all_goals
    go_wp2
    go_ret2
    exact ⟨rfl, ((Below.refl _ _).alloc (Nat.le_refl _) _).drew, heap_new _ _⟩

theorem encode_4 (n : Int) (h0 : 16384 ≤ n) (h1 : n < 1073741824) (w : World) (ht : Tab w) :
    Calls Tryd.prog 43 #[.int .i64 n] w (EncPost [n / 256 / 256 / 256 + 128, n / 256 / 256 % 256, n / 256 % 256, n % 256] w) := by
  have hs : sz n = 4 := by unfold sz; rw [if_neg (by omega), if_neg (by omega), if_pos h1]
  have hmk := mk4
  have hw1 : IntKind.u64.wrap 4 = 4 := by kernel_rfl
  have hw2 : IntKind.u8.wrap 2 = 2 := by kernel_rfl
  have hw3 : IntKind.u8.wrap 128 = 128 := by kernel_rfl
  have hor := or_top (n / 256 / 256 / 256) 128 (by omega) (by omega) (by omega)
  have HT := Lib.hid ht
  clear ht
  go_enter Tryd.func43, Tryd.ntmps43
  go_wp2_with (go_at_call 70; refine (size_in _ (by omega) (by omega) _).mono ?_; rintro e w' ⟨rfl, rfl⟩)
  go_rounds 5
  go_region_with ((go_at_call 71; refine (tz4 _ (HT.out.alloc _).drew).mono ?_; rintro e w' ⟨rfl, rfl⟩))
  all_goals
    go_wp2
    go_ret2
    exact ⟨rfl, ((Below.refl _ _).alloc (Nat.le_refl _) _).drew, heap_new _ _⟩

theorem encode_8 (n : Int) (h0 : 1073741824 ≤ n) (h1 : n < 4611686018427387904) (w : World) (ht : Tab w) :
    Calls Tryd.prog 43 #[.int .i64 n] w (EncPost [n / 256 / 256 / 256 / 256 / 256 / 256 / 256 + 192, n / 256 / 256 / 256 / 256 / 256 / 256 % 256, n / 256 / 256 / 256 / 256 / 256 % 256, n / 256 / 256 / 256 / 256 % 256, n / 256 / 256 / 256 % 256, n / 256 / 256 % 256, n / 256 % 256, n % 256] w) := by
  have hs : sz n = 8 := by unfold sz; rw [if_neg (by omega), if_neg (by omega), if_neg (by omega)]
  have hmk := mk8
  have hw1 : IntKind.u64.wrap 8 = 8 := by kernel_rfl
  have hw2 : IntKind.u8.wrap 3 = 3 := by kernel_rfl
  have hw3 : IntKind.u8.wrap 192 = 192 := by kernel_rfl
  have hor := or_top (n / 256 / 256 / 256 / 256 / 256 / 256 / 256) 192 (by omega) (by omega) (by omega)
  have HT := Lib.hid ht
  clear ht
  go_enter Tryd.func43, Tryd.ntmps43
  go_wp2_with (go_at_call 70; refine (size_in _ (by omega) (by omega) _).mono ?_; rintro e w' ⟨rfl, rfl⟩)
  go_rounds 9
  go_region_with ((go_at_call 71; refine (tz8 _ (HT.out.alloc _).drew).mono ?_; rintro e w' ⟨rfl, rfl⟩))
  all_goals
    go_wp2
    go_ret2
    exact ⟨rfl, ((Below.refl _ _).alloc (Nat.le_refl _) _).drew, heap_new _ _⟩

theorem encode_in (n : Int) (h0 : 0 ≤ n) (h1 : n ≤ 4611686018427387903) (w : World) (ht : Tab w) :
    Calls Tryd.prog 43 #[.int .i64 n] w (EncPost (enc n) w) := by
  unfold enc
  by_cases a : n < 64
  · rw [if_pos a]; exact encode_1 n h0 a w ht
  rw [if_neg a]
  by_cases b : n < 16384
  · rw [if_pos b]; exact encode_2 n (by omega) b w ht
  rw [if_neg b]
  by_cases c : n < 1073741824
  · rw [if_pos c]; exact encode_4 n (by omega) c w ht
  rw [if_neg c]
  exact encode_8 n (by omega) (by omega) w ht

theorem encode_out (n : Int) (h : n < 0 ∨ 4611686018427387903 < n) (w : World) :
    Calls Tryd.prog 43 #[.int .i64 n] w fun e w' => e = .returned (.tuple #[.slice none 0 0, .int .i64 6]) ∧ w = w' := by
  go_enter Tryd.func43, Tryd.ntmps43
  go_wp2_with (go_at_call 70; refine (size_out _ h _).mono ?_; rintro e w' ⟨rfl, rfl⟩)
  go_ret2
  exact ⟨rfl, rfl⟩


end Go.Proofs.YtpfahdogedchpaaDoor
