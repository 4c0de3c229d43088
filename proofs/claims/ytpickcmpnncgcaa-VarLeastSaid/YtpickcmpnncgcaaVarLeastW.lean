/- VarLeast's walk: the text returns true, by varint.Size's contract. -/
import Derived.Test.YtpickcmpnncgcaaVar
namespace Go.Proofs.Ytpickcmpnncgcaa
open Go.RowKit P

theorem varLeast_core (x y : Int) (hx0 : 0 ≤ x) (hx : x ≤ 4611686018427387903) (hy0 : 0 ≤ y) (hy : y ≤ 4611686018427387903) (n m : Int) (hn : num n = x) (hm : num m = y) (w : World) :
    Calls Try.prog 4 #[.int .i64 n, .int .i64 m] w fun e w' => e = .returned (.bool true) ∧ w = w' := by
  have HN := Lib.hid hn
  have HM := Lib.hid hm
  clear hn hm
  have bx := sz_bd x
  have by' := sz_bd y
  rcases Int.lt_trichotomy x y with c | rfl | c
  · have mo := sz_mono x y (by omega)
    rcases sz_cases y with ⟨e, b⟩ | ⟨e, b⟩ | ⟨e, b⟩ | ⟨e, b⟩
    all_goals
      go_enter Try.func4, Try.ntmps4
      go_wp2_with (first | (go_at_call 8; refine (number_any _ _).mono ?_; rintro e w' ⟨rfl, rfl⟩; simp only [HN.out, HM.out]) | (go_at_call 9; first | (refine (size_in _ (by omega) (by omega) _).mono ?_; rintro e w' ⟨rfl, rfl⟩) | (refine (size_out _ (by omega) _).mono ?_; rintro e w' ⟨rfl, rfl⟩)))
      all_goals (go_ret; exact ⟨rfl, rfl⟩)
  · rcases sz_cases x with ⟨e, b⟩ | ⟨e, b⟩ | ⟨e, b⟩ | ⟨e, b⟩
    all_goals
      go_enter Try.func4, Try.ntmps4
      go_wp2_with (first | (go_at_call 8; refine (number_any _ _).mono ?_; rintro e w' ⟨rfl, rfl⟩; simp only [HN.out, HM.out]) | (go_at_call 9; first | (refine (size_in _ (by omega) (by omega) _).mono ?_; rintro e w' ⟨rfl, rfl⟩) | (refine (size_out _ (by omega) _).mono ?_; rintro e w' ⟨rfl, rfl⟩)))
      all_goals (go_ret; exact ⟨rfl, rfl⟩)
  · have mo := sz_mono y x (by omega)
    rcases sz_cases x with ⟨e, b⟩ | ⟨e, b⟩ | ⟨e, b⟩ | ⟨e, b⟩
    all_goals
      go_enter Try.func4, Try.ntmps4
      go_wp2_with (first | (go_at_call 8; refine (number_any _ _).mono ?_; rintro e w' ⟨rfl, rfl⟩; simp only [HN.out, HM.out]) | (go_at_call 9; first | (refine (size_in _ (by omega) (by omega) _).mono ?_; rintro e w' ⟨rfl, rfl⟩) | (refine (size_out _ (by omega) _).mono ?_; rintro e w' ⟨rfl, rfl⟩)))
      all_goals (go_ret; exact ⟨rfl, rfl⟩)

theorem varLeast_walk (n m : Int) (w : World) :
    Calls Try.prog 4 #[.int .i64 n, .int .i64 m] w fun e w' => e = .returned (.bool true) ∧ Grown w w' :=
  (varLeast_core _ _ (num_bd n).1 (num_bd n).2 (num_bd m).1 (num_bd m).2 n m rfl rfl w).mono fun _ _ ⟨h, e⟩ => ⟨h, e ▸ Grown.refl _⟩
end Go.Proofs.Ytpickcmpnncgcaa
