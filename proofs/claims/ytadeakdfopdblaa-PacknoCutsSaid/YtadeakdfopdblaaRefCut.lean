/- The reference's CutNumber. -/
import Derived.Test.YtadeakdfopdblaaPackno
import Derived.Test.YtadeakdfopdblaaBig
import Derived.Test.YtadeakdfopdblaaConv
namespace Go.Proofs.Ytadeakdfopdblaa
set_option linter.unusedVariables false
open Go.RowKit P

theorem refCut_out (n k : Int) (h : n < 0 ∨ 4611686018427387903 < n ∨ k < -1 ∨ n ≤ k) (w : World) :
    Calls Try.prog 9 #[.int .i64 n, .int .i64 k] w fun e w' => e = .returned (.tuple #[.slice none 0 0, .int .i64 6]) ∧ w = w' := by
  by_cases a : n < 0
  · have a' : ¬ 0 ≤ n := by omega
    go_enter Try.func9, Try.ntmps9
    go_wp2
    go_ret2
    exact ⟨rfl, rfl⟩
  have a' : 0 ≤ n := by omega
  by_cases b : 4611686018427387903 < n
  · have b' : ¬ n ≤ 4611686018427387903 := by omega
    go_enter Try.func9, Try.ntmps9
    go_wp2
    go_ret2
    exact ⟨rfl, rfl⟩
  by_cases c : k < -1
  · go_enter Try.func9, Try.ntmps9
    go_wp2
    go_ret2
    exact ⟨rfl, rfl⟩
  have d : n ≤ k := by omega
  go_enter Try.func9, Try.ntmps9
  go_wp2
  go_ret2
  exact ⟨rfl, rfl⟩

theorem refCut_far (n k : Int) (h0 : 0 ≤ n) (h1 : n ≤ 4611686018427387903) (k0 : -1 ≤ k) (k1 : k < n) (hd : 2147483648 < n - k) (w : World) :
    Calls Try.prog 9 #[.int .i64 n, .int .i64 k] w fun e w' => e = .returned (.tuple #[.slice none 0 0, .int .i64 6]) ∧ w = w' := by
  go_enter Try.func9, Try.ntmps9
  go_wp2
  go_rounds 5
  go_ret2
  exact ⟨rfl, rfl⟩

theorem refCut_at (n k : Int) (i : Nat) (h0 : 0 ≤ n) (h1 : n ≤ 4611686018427387903) (k0 : -1 ≤ k) (k1 : k < n)
    (hc : (i = 1 ∧ n - k ≤ 128) ∨ (i = 2 ∧ 128 < n - k ∧ n - k ≤ 32768) ∨ (i = 3 ∧ 32768 < n - k ∧ n - k ≤ 8388608) ∨ (i = 4 ∧ 8388608 < n - k ∧ n - k ≤ 2147483648)) (w : World) :
    Calls Try.prog 9 #[.int .i64 n, .int .i64 k] w (BytesPost (lowB i n) w) := by
  have hbs := fun w => run_bytes_of_string (P := Try.prog) w 9 22 5 (strOfNums (lowB i n)) Try.underlying9 Try.underlying22 Try.underlying5
  have hl : (strOfNums (lowB i n)).size = i := by rw [strOfNums_size, lowB_len]
  have HG := Lib.hid (fun w => big_any n i h0 (by omega) (by omega) w)
  have HB := Lib.hid (lowB_byt i n)
  have HL := Lib.hid (lowB_len i n)
  rcases hc with ⟨rfl, a⟩ | ⟨rfl, a, b⟩ | ⟨rfl, a, b⟩ | ⟨rfl, a, b⟩
  all_goals
    generalize lowB _ n = zs at *
    go_enter Try.func9, Try.ntmps9
    go_wp2
    refine wp_loop_rounds 5 ?_
    repeat any_goals (rw [rounds_succ]; go_wp2_with (go_at_call 17; refine (HG.out _).mono ?_; rintro e w1 ⟨rfl, hb⟩))
    go_ret2
    exact ⟨w1.heap.size, _, by rw [HL.out]; rfl, (hb.trans ((Below.refl _ _).alloc hb.size _).drew), (bytesRow_brow w1 zs HB.out _ _ _).more (by simp)⟩

theorem refCut_in (n k : Int) (h0 : 0 ≤ n) (h1 : n ≤ 4611686018427387903) (k0 : -1 ≤ k) (k1 : k < n) (hd : n - k ≤ 2147483648) (w : World) :
    Calls Try.prog 9 #[.int .i64 n, .int .i64 k] w (BytesPost (lowB (cutK (n - k)) n) w) :=
  refCut_at n k _ h0 h1 k0 k1 (by have := cutK_cases (n - k); omega) w
end Go.Proofs.Ytadeakdfopdblaa
