/- Contracts of package packno: window, lowest, Cut. -/
import Derived.Test.YtadeakdfopdblaaMk
import Derived.Test.YtadeakdfopdblaaLow
import Derived.Handy
import Derived.Lib.Hide
import Derived.Deep.QuietTactic
import Derived.BigQuiet
namespace Go.Proofs.Ytadeakdfopdblaa
set_option linter.unusedVariables false
open Go.RowKit P

theorem window_any (k : Int) (h : k = 1 ∨ k = 2 ∨ k = 3 ∨ k = 4) (w : World) :
    Calls Try.prog 14 #[.int .i64 k] w fun e w' => e = .returned (.int .i64 (winOf k)) ∧ w = w' := by
  rcases h with rfl | rfl | rfl | rfl
  all_goals
    go_enter Try.func14, Try.ntmps14
    go_wp2
    go_ret
    exact ⟨rfl, rfl⟩

/-- a new row of bytes is handed on -/
def RowPost (zs : List Int) (w : World) (e : Ending) (w' : World) : Prop :=
  e = .returned (.slice (some ⟨w.heap.size, 0, none⟩) zs.length zs.length) ∧ Below w.heap.size w w' ∧ w'.heap[w.heap.size]? = some (.cells (zs.map (.int .u8)).toArray 5 (0, 0))

theorem lowest_1 (n : Int) (h0 : 0 ≤ n) (h1 : n ≤ 4611686018427387903) (w : World) :
    Calls Try.prog 15 #[.int .i64 n, .int .i64 1] w (RowPost (lowB 1 n) w) := by
  have hmk := mk1
  go_enter Try.func15, Try.ntmps15
  go_wp2
  go_rounds 2
  go_ret
  exact ⟨rfl, ((Below.refl _ _).alloc (Nat.le_refl _) _), heap_new _ _⟩
theorem lowest_2 (n : Int) (h0 : 0 ≤ n) (h1 : n ≤ 4611686018427387903) (w : World) :
    Calls Try.prog 15 #[.int .i64 n, .int .i64 2] w (RowPost (lowB 2 n) w) := by
  have hmk := mk2
  go_enter Try.func15, Try.ntmps15
  go_wp2
  go_rounds 3
  go_ret
  exact ⟨rfl, ((Below.refl _ _).alloc (Nat.le_refl _) _), heap_new _ _⟩
theorem lowest_3 (n : Int) (h0 : 0 ≤ n) (h1 : n ≤ 4611686018427387903) (w : World) :
    Calls Try.prog 15 #[.int .i64 n, .int .i64 3] w (RowPost (lowB 3 n) w) := by
  have hmk := mk3
  go_enter Try.func15, Try.ntmps15
  go_wp2
  go_rounds 4
  go_ret
  exact ⟨rfl, ((Below.refl _ _).alloc (Nat.le_refl _) _), heap_new _ _⟩
theorem lowest_4 (n : Int) (h0 : 0 ≤ n) (h1 : n ≤ 4611686018427387903) (w : World) :
    Calls Try.prog 15 #[.int .i64 n, .int .i64 4] w (RowPost (lowB 4 n) w) := by
  have hmk := mk4
  go_enter Try.func15, Try.ntmps15
  go_wp2
  go_rounds 5
  go_ret
  exact ⟨rfl, ((Below.refl _ _).alloc (Nat.le_refl _) _), heap_new _ _⟩

theorem lowest_any (n : Int) (k : Nat) (hk : k = 1 ∨ k = 2 ∨ k = 3 ∨ k = 4) (h0 : 0 ≤ n) (h1 : n ≤ 4611686018427387903) (w : World) :
    Calls Try.prog 15 #[.int .i64 n, .int .i64 k] w (RowPost (lowB k n) w) := by
  rcases hk with rfl | rfl | rfl | rfl
  · exact lowest_1 n h0 h1 w
  · exact lowest_2 n h0 h1 w
  · exact lowest_3 n h0 h1 w
  · exact lowest_4 n h0 h1 w

theorem cut_out (n k : Int) (h : n < 0 ∨ 4611686018427387903 < n ∨ k < -1 ∨ n ≤ k) (w : World) :
    Calls Try.prog 8 #[.int .i64 n, .int .i64 k] w fun e w' => e = .returned (.tuple #[.slice none 0 0, .int .i64 6]) ∧ w = w' := by
  by_cases a : n < 0
  · go_enter Try.func8, Try.ntmps8
    go_wp2
    go_ret2
    exact ⟨rfl, rfl⟩
  by_cases b : 4611686018427387903 < n
  · go_enter Try.func8, Try.ntmps8
    go_wp2
    go_ret2
    exact ⟨rfl, rfl⟩
  by_cases c : k < -1
  · go_enter Try.func8, Try.ntmps8
    go_wp2
    go_ret2
    exact ⟨rfl, rfl⟩
  have d : n ≤ k := by omega
  go_enter Try.func8, Try.ntmps8
  go_wp2
  go_ret2
  exact ⟨rfl, rfl⟩

theorem cut_1 (n k : Int) (h0 : 0 ≤ n) (h1 : n ≤ 4611686018427387903) (k0 : -1 ≤ k) (k1 : k < n) (b : n - k ≤ 128) (w : World) :
    Calls Try.prog 8 #[.int .i64 n, .int .i64 k] w (EncPost (lowB 1 n) w) := by
  have W1 : winOf 1 = 256 := rfl
  have W2 : winOf 2 = 65536 := rfl
  have W3 : winOf 3 = 16777216 := rfl
  have W4 : winOf 4 = 4294967296 := rfl
  go_enter Try.func8, Try.ntmps8
  go_wp2
  refine wp_loop_rounds 2 ?_
  repeat any_goals (rw [rounds_succ]; go_wp2_with (first | (go_at_call 14; refine (window_any _ (by omega) _).mono ?_; rintro e w' ⟨rfl, rfl⟩) | (go_at_call 15; refine (lowest_1 _ h0 h1 _).mono ?_; rintro e w' ⟨rfl, hb, hh⟩)))
  go_ret2
  exact ⟨rfl, hb, hh⟩
theorem cut_2 (n k : Int) (h0 : 0 ≤ n) (h1 : n ≤ 4611686018427387903) (k0 : -1 ≤ k) (k1 : k < n) (a : 128 < n - k) (b : n - k ≤ 32768) (w : World) :
    Calls Try.prog 8 #[.int .i64 n, .int .i64 k] w (EncPost (lowB 2 n) w) := by
  have W1 : winOf 1 = 256 := rfl
  have W2 : winOf 2 = 65536 := rfl
  have W3 : winOf 3 = 16777216 := rfl
  have W4 : winOf 4 = 4294967296 := rfl
  go_enter Try.func8, Try.ntmps8
  go_wp2
  refine wp_loop_rounds 3 ?_
  repeat any_goals (rw [rounds_succ]; go_wp2_with (first | (go_at_call 14; refine (window_any _ (by omega) _).mono ?_; rintro e w' ⟨rfl, rfl⟩) | (go_at_call 15; refine (lowest_2 _ h0 h1 _).mono ?_; rintro e w' ⟨rfl, hb, hh⟩)))
  go_ret2
  exact ⟨rfl, hb, hh⟩
theorem cut_3 (n k : Int) (h0 : 0 ≤ n) (h1 : n ≤ 4611686018427387903) (k0 : -1 ≤ k) (k1 : k < n) (a : 32768 < n - k) (b : n - k ≤ 8388608) (w : World) :
    Calls Try.prog 8 #[.int .i64 n, .int .i64 k] w (EncPost (lowB 3 n) w) := by
  have W1 : winOf 1 = 256 := rfl
  have W2 : winOf 2 = 65536 := rfl
  have W3 : winOf 3 = 16777216 := rfl
  have W4 : winOf 4 = 4294967296 := rfl
  go_enter Try.func8, Try.ntmps8
  go_wp2
  refine wp_loop_rounds 4 ?_
  repeat any_goals (rw [rounds_succ]; go_wp2_with (first | (go_at_call 14; refine (window_any _ (by omega) _).mono ?_; rintro e w' ⟨rfl, rfl⟩) | (go_at_call 15; refine (lowest_3 _ h0 h1 _).mono ?_; rintro e w' ⟨rfl, hb, hh⟩)))
  go_ret2
  exact ⟨rfl, hb, hh⟩
theorem cut_4 (n k : Int) (h0 : 0 ≤ n) (h1 : n ≤ 4611686018427387903) (k0 : -1 ≤ k) (k1 : k < n) (a : 8388608 < n - k) (b : n - k ≤ 2147483648) (w : World) :
    Calls Try.prog 8 #[.int .i64 n, .int .i64 k] w (EncPost (lowB 4 n) w) := by
  have W1 : winOf 1 = 256 := rfl
  have W2 : winOf 2 = 65536 := rfl
  have W3 : winOf 3 = 16777216 := rfl
  have W4 : winOf 4 = 4294967296 := rfl
  go_enter Try.func8, Try.ntmps8
  go_wp2
  refine wp_loop_rounds 5 ?_
  repeat any_goals (rw [rounds_succ]; go_wp2_with (first | (go_at_call 14; refine (window_any _ (by omega) _).mono ?_; rintro e w' ⟨rfl, rfl⟩) | (go_at_call 15; refine (lowest_4 _ h0 h1 _).mono ?_; rintro e w' ⟨rfl, hb, hh⟩)))
  go_ret2
  exact ⟨rfl, hb, hh⟩
theorem cut_in (n k : Int) (h0 : 0 ≤ n) (h1 : n ≤ 4611686018427387903) (k0 : -1 ≤ k) (k1 : k < n) (hd : n - k ≤ 2147483648) (w : World) :
    Calls Try.prog 8 #[.int .i64 n, .int .i64 k] w (EncPost (lowB (cutK (n - k)) n) w) := by
  rcases cutK_cases (n - k) with ⟨e, b⟩ | ⟨e, a, b⟩ | ⟨e, a, b⟩ | ⟨e, b⟩
  · rw [e]; exact cut_1 n k h0 h1 k0 k1 b w
  · rw [e]; exact cut_2 n k h0 h1 k0 k1 a b w
  · rw [e]; exact cut_3 n k h0 h1 k0 k1 a b w
  · rw [e]; exact cut_4 n k h0 h1 k0 k1 b hd w
/-- too far from the last one told of -/
theorem cut_far (n k : Int) (h0 : 0 ≤ n) (h1 : n ≤ 4611686018427387903) (k0 : -1 ≤ k) (k1 : k < n) (hd : 2147483648 < n - k) (w : World) :
    Calls Try.prog 8 #[.int .i64 n, .int .i64 k] w fun e w' => e = .returned (.tuple #[.slice none 0 0, .int .i64 6]) ∧ w = w' := by
  have W1 : winOf 1 = 256 := rfl
  have W2 : winOf 2 = 65536 := rfl
  have W3 : winOf 3 = 16777216 := rfl
  have W4 : winOf 4 = 4294967296 := rfl
  go_enter Try.func8, Try.ntmps8
  go_wp2
  refine wp_loop_rounds 5 ?_
  repeat any_goals (rw [rounds_succ]; go_wp2_with (first | (go_at_call 14; refine (window_any _ (by omega) _).mono ?_; rintro e w' ⟨rfl, rfl⟩)))
  go_ret2
  exact ⟨rfl, rfl⟩
end Go.Proofs.Ytadeakdfopdblaa
