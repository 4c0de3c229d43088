/- PacknoCuts' walk. -/
import Derived.Test.YtadeakdfopdblaaRefCut
import Derived.Test.YtadeakdfopdblaaSame
namespace Go.Proofs.Ytadeakdfopdblaa
set_option linter.unusedVariables false
open Go.RowKit P

theorem packnoCuts_none (n k : Int) (w : World)
    (h1 : Calls Try.prog 8 #[.int .i64 n, .int .i64 k] w fun e w' => e = .returned (.tuple #[.slice none 0 0, .int .i64 6]) ∧ w = w')
    (h2 : Calls Try.prog 9 #[.int .i64 n, .int .i64 k] w fun e w' => e = .returned (.tuple #[.slice none 0 0, .int .i64 6]) ∧ w = w') :
    Calls Try.prog 3 #[.int .i64 n, .int .i64 k] w fun e w' => e = .returned (.bool true) ∧ Below w.heap.size w w' := by
  have S := Lib.hid (fun w => sameBytes_eq w 0 0 0 0 0 0 none none [] (BRow.nil _ _ _) (BRow.nil _ _ _) rfl rfl)
  have H1 := Lib.hid h1
  have H2 := Lib.hid h2
  clear h1 h2
  go_enter Try.func3, Try.ntmps3
  go_wp2_with (first | (go_at_call 8; refine H1.out.mono ?_; rintro e w' ⟨rfl, rfl⟩) | (go_at_call 9; refine H2.out.mono ?_; rintro e w' ⟨rfl, rfl⟩) | (go_at_call 10; refine (S.out _).mono ?_; rintro e w' ⟨rfl, rfl⟩))
  go_ret
  exact ⟨rfl, Below.refl _ _⟩

theorem packnoCuts_in (n k : Int) (h0 : 0 ≤ n) (h1 : n ≤ 4611686018427387903) (k0 : -1 ≤ k) (k1 : k < n) (hd : n - k ≤ 2147483648) (w : World) :
    Calls Try.prog 3 #[.int .i64 n, .int .i64 k] w fun e w' => e = .returned (.bool true) ∧ Below w.heap.size w w' := by
  have HB := Lib.hid (lowB_byt (cutK (n - k)) n)
  have H1 := Lib.hid (fun w => cut_in n k h0 h1 k0 k1 hd w)
  have H2 := Lib.hid (fun w => refCut_in n k h0 h1 k0 k1 hd w)
  generalize lowB (cutK (n - k)) n = zs at *
  go_enter Try.func3, Try.ntmps3
  go_wp2_with (fail)
  refine (H1.out _).mono ?_
  rintro e w1 hp1
  have r1 := Lib.hid (EncPost.row hp1 HB.out)
  have s1 := EncPost.lt hp1
  have b1 := Lib.hid hp1.2.1
  obtain ⟨rfl, _, _⟩ := hp1
  go_wp2_with (fail)
  refine (H2.out _).mono ?_
  rintro e w2 ⟨g, cap, rfl, hb2, r2⟩
  have b2 := Lib.hid hb2
  have S := Lib.hid (sameBytes_eq w2 _ _ _ zs.length _ cap _ _ zs ((r1.out.more (B' := w1.heap.size) (by omega)).below b2.out) r2 rfl rfl)
  clear hb2 r2
  go_wp2_with (first | (go_at_call 10; refine S.out.mono ?_; rintro e w' ⟨rfl, rfl⟩))
  go_ret
  exact ⟨rfl, b1.out.trans (b2.out.mono (Nat.le_of_lt s1))⟩

theorem packnoCuts_walk (n k : Int) (w : World) :
    Calls Try.prog 3 #[.int .i64 n, .int .i64 k] w fun e w' => e = .returned (.bool true) ∧ Below w.heap.size w w' := by
  by_cases h : n < 0 ∨ 4611686018427387903 < n ∨ k < -1 ∨ n ≤ k
  · exact packnoCuts_none n k w (cut_out n k h w) (refCut_out n k h w)
  by_cases d : n - k ≤ 2147483648
  · exact packnoCuts_in n k (by omega) (by omega) (by omega) (by omega) d w
  · exact packnoCuts_none n k w (cut_far n k (by omega) (by omega) (by omega) (by omega) (by omega) w) (refCut_far n k (by omega) (by omega) (by omega) (by omega) (by omega) w)
end Go.Proofs.Ytadeakdfopdblaa
