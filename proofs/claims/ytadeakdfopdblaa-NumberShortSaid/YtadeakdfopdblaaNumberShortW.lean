/- NumberShort's walk. -/
import Derived.Test.YtadeakdfopdblaaPackno
import Derived.Test.YtadeakdfopdblaaPick
namespace Go.Proofs.Ytadeakdfopdblaa
set_option linter.unusedVariables false
open Go.RowKit P

theorem numberShort_core (n far p q : Int) (hp : n % 1099511627776 = p) (hq : far % 2147483648 = q) (p0 : 0 ≤ p) (p1 : p < 1099511627776) (q0 : 0 ≤ q) (q1 : q < 2147483648) (w : World) :
    Calls Try.prog 7 #[.int .i64 n, .int .i64 far] w fun e w' => e = .returned (.bool true) ∧ Below w.heap.size w w' := by
  have HP := Lib.hid hp
  have HQ := Lib.hid hq
  have H1 := Lib.hid (fun w => cut_in (8589934592 + p) (8589934592 + p - (1 + q)) (by omega) (by omega) (by omega) (by omega) (by omega) w)
  rw [show 8589934592 + p - (8589934592 + p - (1 + q)) = 1 + q by omega] at H1
  have HL := Lib.hid (lowB_len (cutK (1 + q)) (8589934592 + p))
  have c := cutK_cases (1 + q)
  generalize lowB (cutK (1 + q)) (8589934592 + p) = zs at *
  generalize cutK (1 + q) = i at *
  clear hp hq
  rcases c with ⟨rfl, a⟩ | ⟨rfl, a, b⟩ | ⟨rfl, a, b⟩ | ⟨rfl, a⟩
  all_goals
    go_enter Try.func7, Try.ntmps7
    go_wp2_with (go_at_call 13; refine (picked_any _ _ (by omega) (by omega) _).mono ?_; rintro e w' ⟨rfl, rfl⟩; simp only [HP.out, HQ.out])
    refine (H1.out _).mono ?_
    rintro e w1 hp1
    have b1 := Lib.hid hp1.2.1
    obtain ⟨rfl, _, _⟩ := hp1
    simp only [HL.out]
    go_wp2
    go_ret
    exact ⟨rfl, b1.out⟩

theorem numberShort_walk (n far : Int) (w : World) :
    Calls Try.prog 7 #[.int .i64 n, .int .i64 far] w fun e w' => e = .returned (.bool true) ∧ Below w.heap.size w w' :=
  numberShort_core n far _ _ rfl rfl (by omega) (by omega) (by omega) (by omega) w
end Go.Proofs.Ytadeakdfopdblaa
