/- NumberBack's walk. -/
import Derived.Test.YtadeakdfopdblaaWholeOf
import Derived.Test.YtadeakdfopdblaaPick
namespace Go.Proofs.Ytadeakdfopdblaa
set_option linter.unusedVariables false
open Go.RowKit P

theorem numberBack_core (n far seen p q s M : Int) (hp : n % 2305843009213693952 = p) (hq : far % M = q) (hs : seen % (1 + p - (1 + p - 1 - q)) = s) (p0 : 0 ≤ p) (p1 : p < 2305843009213693952)
    (hM : (M = 1 + p + 1 ∧ 1 + p + 1 ≤ 1048576) ∨ (M = 1048576 ∧ 1048576 < 1 + p + 1)) (q0 : 0 ≤ q) (q1 : q < M) (s0 : 0 ≤ s) (s1 : s < 1 + q) (w : World) :
    Calls Try.prog 5 #[.int .i64 n, .int .i64 far, .int .i64 seen] w fun e w' => e = .returned (.bool true) ∧ Below w.heap.size w w' := by
  have HP := Lib.hid hp
  have HQ := Lib.hid hq
  have HS := Lib.hid hs
  have H1 := Lib.hid (fun w => cut_in (1 + p) (1 + p - 1 - q) (by omega) (by omega) (by omega) (by omega) (by omega) w)
  have HC := Lib.hid (fun w => cut_out (1 + p) (1 + p) (by omega) w)
  have kb := cutK_bd (1 + p - (1 + p - 1 - q))
  have HV := Lib.hid (whole_back (1 + p) (1 + p - 1 - q) (1 + p - 1 - q + s) _ rfl (by omega) (by omega) (by omega) (by omega) (by omega))
  have HB := Lib.hid (lowB_byt (cutK (1 + p - (1 + p - 1 - q))) (1 + p))
  have HL := Lib.hid (lowB_len (cutK (1 + p - (1 + p - 1 - q))) (1 + p))
  generalize lowB (cutK (1 + p - (1 + p - 1 - q))) (1 + p) = zs at *
  generalize cutK (1 + p - (1 + p - 1 - q)) = i at *
  clear hp hq hs
  rcases hM with ⟨rfl, hM⟩ | ⟨rfl, hM⟩
  all_goals
    go_enter Try.func5, Try.ntmps5
    go_wp2_with (go_at_call 13; refine (picked_any _ _ (by omega) (by omega) _).mono ?_; rintro e w' ⟨rfl, rfl⟩; simp only [HP.out, HQ.out, HS.out])
    refine (H1.out _).mono ?_
    rintro e w1 hp1
    have r1 := Lib.hid (EncPost.row hp1 HB.out)
    have b1 := Lib.hid hp1.2.1
    obtain ⟨rfl, _, _⟩ := hp1
    have HW := Lib.hid (whole_in (1 + p - 1 - q + s) (some ⟨w.heap.size, 0, none⟩) zs.length zs.length _ zs w1 r1.out rfl (by rw [HL.out]; exact kb) (by omega) (by omega) (Nat.le_refl _) (by rw [HL.out]; unfold maxLen; omega))
    rw [HL.out] at HW
    rw [HV.out] at HW
    simp only [HL.out]
    go_wp2_with (first | (go_at_call 13; refine (picked_any _ _ (by omega) (by omega) _).mono ?_; rintro e w' ⟨rfl, rfl⟩; simp only [HP.out, HQ.out, HS.out]) | (go_at_call 11; refine HW.out.mono ?_; rintro e w' ⟨rfl, rfl⟩) | (go_at_call 8; refine (HC.out _).mono ?_; rintro e w' ⟨rfl, rfl⟩))
    go_ret
    exact ⟨rfl, b1.out⟩

theorem numberBack_walk (n far seen : Int) (w : World) :
    Calls Try.prog 5 #[.int .i64 n, .int .i64 far, .int .i64 seen] w fun e w' => e = .returned (.bool true) ∧ Below w.heap.size w w' := by
  obtain ⟨p, hp⟩ : ∃ p, n % 2305843009213693952 = p := ⟨_, rfl⟩
  have p0 : 0 ≤ p := by omega
  have p1 : p < 2305843009213693952 := by omega
  obtain ⟨M, hM⟩ : ∃ M : Int, (M = 1 + p + 1 ∧ 1 + p + 1 ≤ 1048576) ∨ (M = 1048576 ∧ 1048576 < 1 + p + 1) := by
    by_cases h : 1 + p + 1 ≤ 1048576
    · exact ⟨_, .inl ⟨rfl, h⟩⟩
    · exact ⟨_, .inr ⟨rfl, by omega⟩⟩
  have q0 := Int.emod_nonneg far (show M ≠ 0 by omega)
  have q1 := Int.emod_lt_of_pos far (show 0 < M by omega)
  have s0 := Int.emod_nonneg seen (show 1 + p - (1 + p - 1 - far % M) ≠ 0 by omega)
  have s1 := Int.emod_lt_of_pos seen (show 0 < 1 + p - (1 + p - 1 - far % M) by omega)
  exact numberBack_core n far seen p _ _ M hp rfl rfl p0 p1 hM q0 q1 s0 (by omega) w
end Go.Proofs.Ytadeakdfopdblaa
