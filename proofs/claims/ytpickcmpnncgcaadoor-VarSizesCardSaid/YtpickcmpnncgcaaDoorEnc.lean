/- varint.Encode's contract. -/
import Derived.Test.YtpickcmpnncgcaaDoorTz
import Derived.Test.YtpickcmpnncgcaaDoorBytes
import Derived.StillTailTactics
import Derived.RegionTactic
import Derived.Deep.RegionWith
namespace Go.Proofs.YtpickcmpnncgcaaDoor
set_option linter.unusedVariables false
open Go.RowKit P

theorem mk1 (w : World) : (Instr.makeSlice 25 (.int .i64 1) (.int .i64 1)).run Tryd.prog w = .ok (.slice (some ⟨w.heap.size, 0, none⟩) 1 1) (w.alloc (.cells #[.int .u8 0] 5)) := by kernel_rfl
theorem mk2 (w : World) : (Instr.makeSlice 25 (.int .i64 2) (.int .i64 2)).run Tryd.prog w = .ok (.slice (some ⟨w.heap.size, 0, none⟩) 2 2) (w.alloc (.cells #[.int .u8 0, .int .u8 0] 5)) := by kernel_rfl
theorem mk4 (w : World) : (Instr.makeSlice 25 (.int .i64 4) (.int .i64 4)).run Tryd.prog w = .ok (.slice (some ⟨w.heap.size, 0, none⟩) 4 4) (w.alloc (.cells #[.int .u8 0, .int .u8 0, .int .u8 0, .int .u8 0] 5)) := by kernel_rfl
theorem mk8 (w : World) : (Instr.makeSlice 25 (.int .i64 8) (.int .i64 8)).run Tryd.prog w = .ok (.slice (some ⟨w.heap.size, 0, none⟩) 8 8) (w.alloc (.cells #[.int .u8 0, .int .u8 0, .int .u8 0, .int .u8 0, .int .u8 0, .int .u8 0, .int .u8 0, .int .u8 0] 5)) := by kernel_rfl

def EncPost (zs : List Int) (w : World) (e : Ending) (w' : World) : Prop :=
  e = .returned (.tuple #[.slice (some ⟨w.heap.size, 0, none⟩) zs.length zs.length, .int .i64 0]) ∧ Below w.heap.size w w' ∧ w'.heap[w.heap.size]? = some (.cells (zs.map (.int .u8)).toArray 5 (0, 0))

theorem Shape.heap_new (w : World) (o : Obj) : (w.alloc o).drew.heap[w.heap.size]? = some o := by
  show (w.heap.push o)[w.heap.size]? = _
  simp

theorem encode_1 (n : Int) (h0 : 0 ≤ n) (h1 : n < 64) (w : World) (ht : Tab w) :
    Calls Tryd.prog 7 #[.int .i64 n] w (EncPost [n] w) := by
  have hs : sz n = 1 := by unfold sz; rw [if_pos h1]
  have hmk := mk1
  have hw1 : IntKind.u64.wrap 1 = 1 := by kernel_rfl
  have hw2 : IntKind.u8.wrap 0 = 0 := by kernel_rfl
  have hor := or_top n 0 h0 h1 (by omega)
  rw [Int.add_zero] at hor
  have HT := Lib.hid ht
  clear ht
  go_enter Tryd.func7, Tryd.ntmps7
  go_wp2_with (go_at_call 6; refine (size_in _ h0 (by omega) _).mono ?_; rintro e w' ⟨rfl, rfl⟩)
  go_rounds 2
  go_region_with ((go_at_call 14; refine (tz1 _ (HT.out.alloc _).drew).mono ?_; rintro e w' ⟨rfl, rfl⟩))
  all_goals
    go_wp2
    go_ret2
    exact ⟨rfl, ((Below.refl _ _).alloc (Nat.le_refl _) _).drew, Shape.heap_new _ _⟩

theorem encode_2 (n : Int) (h0 : 64 ≤ n) (h1 : n < 16384) (w : World) (ht : Tab w) :
    Calls Tryd.prog 7 #[.int .i64 n] w (EncPost [n / 256 + 64, n % 256] w) := by
  have hs : sz n = 2 := by unfold sz; rw [if_neg (by omega), if_pos h1]
  have hmk := mk2
  have hw1 : IntKind.u64.wrap 2 = 2 := by kernel_rfl
  have hw2 : IntKind.u8.wrap 1 = 1 := by kernel_rfl
  have hw3 : IntKind.u8.wrap 64 = 64 := by kernel_rfl
  have hor := or_top (n / 256) 64 (by omega) (by omega) (by omega)
  have HT := Lib.hid ht
  clear ht
  go_enter Tryd.func7, Tryd.ntmps7
  go_wp2_with (go_at_call 6; refine (size_in _ (by omega) (by omega) _).mono ?_; rintro e w' ⟨rfl, rfl⟩)
  go_rounds 3
  go_region_with ((go_at_call 14; refine (tz2 _ (HT.out.alloc _).drew).mono ?_; rintro e w' ⟨rfl, rfl⟩))
  all_goals
    go_wp2
    go_ret2
    exact ⟨rfl, ((Below.refl _ _).alloc (Nat.le_refl _) _).drew, Shape.heap_new _ _⟩

theorem encode_4 (n : Int) (h0 : 16384 ≤ n) (h1 : n < 1073741824) (w : World) (ht : Tab w) :
    Calls Tryd.prog 7 #[.int .i64 n] w (EncPost [n / 256 / 256 / 256 + 128, n / 256 / 256 % 256, n / 256 % 256, n % 256] w) := by
  have hs : sz n = 4 := by unfold sz; rw [if_neg (by omega), if_neg (by omega), if_pos h1]
  have hmk := mk4
  have hw1 : IntKind.u64.wrap 4 = 4 := by kernel_rfl
  have hw2 : IntKind.u8.wrap 2 = 2 := by kernel_rfl
  have hw3 : IntKind.u8.wrap 128 = 128 := by kernel_rfl
  have hor := or_top (n / 256 / 256 / 256) 128 (by omega) (by omega) (by omega)
  have HT := Lib.hid ht
  clear ht
  go_enter Tryd.func7, Tryd.ntmps7
  go_wp2_with (go_at_call 6; refine (size_in _ (by omega) (by omega) _).mono ?_; rintro e w' ⟨rfl, rfl⟩)
  go_rounds 5
  go_region_with ((go_at_call 14; refine (tz4 _ (HT.out.alloc _).drew).mono ?_; rintro e w' ⟨rfl, rfl⟩))
  all_goals
    go_wp2
    go_ret2
    exact ⟨rfl, ((Below.refl _ _).alloc (Nat.le_refl _) _).drew, Shape.heap_new _ _⟩

theorem encode_8 (n : Int) (h0 : 1073741824 ≤ n) (h1 : n < 4611686018427387904) (w : World) (ht : Tab w) :
    Calls Tryd.prog 7 #[.int .i64 n] w (EncPost [n / 256 / 256 / 256 / 256 / 256 / 256 / 256 + 192, n / 256 / 256 / 256 / 256 / 256 / 256 % 256, n / 256 / 256 / 256 / 256 / 256 % 256, n / 256 / 256 / 256 / 256 % 256, n / 256 / 256 / 256 % 256, n / 256 / 256 % 256, n / 256 % 256, n % 256] w) := by
  have hs : sz n = 8 := by unfold sz; rw [if_neg (by omega), if_neg (by omega), if_neg (by omega)]
  have hmk := mk8
  have hw1 : IntKind.u64.wrap 8 = 8 := by kernel_rfl
  have hw2 : IntKind.u8.wrap 3 = 3 := by kernel_rfl
  have hw3 : IntKind.u8.wrap 192 = 192 := by kernel_rfl
  have hor := or_top (n / 256 / 256 / 256 / 256 / 256 / 256 / 256) 192 (by omega) (by omega) (by omega)
  have HT := Lib.hid ht
  clear ht
  go_enter Tryd.func7, Tryd.ntmps7
  go_wp2_with (go_at_call 6; refine (size_in _ (by omega) (by omega) _).mono ?_; rintro e w' ⟨rfl, rfl⟩)
  go_rounds 9
  go_region_with ((go_at_call 14; refine (tz8 _ (HT.out.alloc _).drew).mono ?_; rintro e w' ⟨rfl, rfl⟩))
  all_goals
    go_wp2
    go_ret2
    exact ⟨rfl, ((Below.refl _ _).alloc (Nat.le_refl _) _).drew, Shape.heap_new _ _⟩

/-- a number's bytes, by P1.2 -/
def enc (n : Int) : List Int :=
  if n < 64 then [n] else if n < 16384 then [n / 256 + 64, n % 256]
  else if n < 1073741824 then [n / 256 / 256 / 256 + 128, n / 256 / 256 % 256, n / 256 % 256, n % 256]
  else [n / 256 / 256 / 256 / 256 / 256 / 256 / 256 + 192, n / 256 / 256 / 256 / 256 / 256 / 256 % 256, n / 256 / 256 / 256 / 256 / 256 % 256, n / 256 / 256 / 256 / 256 % 256, n / 256 / 256 / 256 % 256, n / 256 / 256 % 256, n / 256 % 256, n % 256]

theorem encode_in (n : Int) (h0 : 0 ≤ n) (h1 : n ≤ 4611686018427387903) (w : World) (ht : Tab w) :
    Calls Tryd.prog 7 #[.int .i64 n] w (EncPost (enc n) w) := by
  unfold enc
  by_cases a : n < 64
  · rw [if_pos a]; exact encode_1 n h0 a w ht
  rw [if_neg a]
  by_cases b : n < 16384
  · rw [if_pos b]; exact encode_2 n (by omega) b w ht
  rw [if_neg b]
  by_cases c : n < 1073741824
  · rw [if_pos c]; exact encode_4 n (by omega) c w ht
  rw [if_neg c]
  exact encode_8 n (by omega) (by omega) w ht

theorem encode_out (n : Int) (h : n < 0 ∨ 4611686018427387903 < n) (w : World) :
    Calls Tryd.prog 7 #[.int .i64 n] w fun e w' => e = .returned (.tuple #[.slice none 0 0, .int .i64 6]) ∧ w = w' := by
  go_enter Tryd.func7, Tryd.ntmps7
  go_wp2_with (go_at_call 6; refine (size_out _ h _).mono ?_; rintro e w' ⟨rfl, rfl⟩)
  go_ret2
  exact ⟨rfl, rfl⟩

theorem enc_len (n : Int) : ((enc n).length : Int) = sz n := by
  unfold enc sz
  split <;> (try split) <;> (try split) <;> rfl
theorem byt_all {zs : List Int} (h : ∀ z ∈ zs, 0 ≤ z ∧ z ≤ 255) : Byt zs := fun j => by
  by_cases hj : j < zs.length
  · rw [List.getD_eq_getElem?_getD, List.getElem?_eq_getElem hj]
    exact h _ (List.getElem_mem hj)
  · rw [getD_long (by omega)]; omega
theorem enc_byt (n : Int) (h0 : 0 ≤ n) (h1 : n ≤ 4611686018427387903) : Byt (enc n) := by
  apply byt_all
  unfold enc
  split
  · intro z hz; simp at hz; omega
  split
  · intro z hz; simp at hz; omega
  split
  · intro z hz; simp at hz; omega
  · intro z hz; simp at hz; omega

/-- EncPost, by what the caller wants of it -/
theorem EncPost.row {zs : List Int} {w w' : World} {e : Ending} (h : EncPost zs w e w') (hb : Byt zs) : BRow w' (w.heap.size + 1) (some ⟨w.heap.size, 0, none⟩) zs :=
  ⟨hb, fun _ => ⟨_, 0, rfl, by omega, fun j hj => by
    rw [cell_of_row w' w.heap.size (0 + j) _ _ _ h.2.2]
    simp [hj]⟩⟩
theorem EncPost.lt {zs : List Int} {w w' : World} {e : Ending} (h : EncPost zs w e w') : w.heap.size < w'.heap.size := by
  rcases Nat.lt_or_ge w.heap.size w'.heap.size with hlt | hge
  · exact hlt
  · have := h.2.2
    rw [Array.getElem?_eq_none hge] at this
    cases this
end Go.Proofs.YtpickcmpnncgcaaDoor
