/- PacknoWholes' walk. -/
import Derived.Test.YtadeakdfopdblaaRefWhole
namespace Go.Proofs.Ytadeakdfopdblaa
set_option linter.unusedVariables false
open Go.RowKit P

theorem packnoWholes_same (t : Int) (A : Option Addr) (n cap : Nat) (v e0 : Int) (w : World)
    (h1 : Calls Try.prog 11 #[.int .i64 t, .slice A n cap] w fun e w' => e = .returned (.tuple #[.int .i64 v, .int .i64 e0]) ∧ w = w')
    (h2 : Calls Try.prog 12 #[.int .i64 t, .slice A n cap] w fun e w' => e = .returned (.tuple #[.int .i64 v, .int .i64 e0]) ∧ Below w.heap.size w w') :
    Calls Try.prog 4 #[.int .i64 t, .slice A n cap] w fun e w' => e = .returned (.bool true) ∧ Below w.heap.size w w' := by
  have H1 := Lib.hid h1
  have H2 := Lib.hid h2
  clear h1 h2
  go_enter Try.func4, Try.ntmps4
  go_wp2_with (first | (go_at_call 11; refine H1.out.mono ?_; rintro e w' ⟨rfl, rfl⟩) | (go_at_call 12; refine H2.out.mono ?_; rintro e w' ⟨rfl, hb⟩))
  go_ret
  exact ⟨rfl, by assumption⟩

theorem packnoWholes_walk (t : Int) (a : Option Addr) (len cap : Nat) (z : List Int) (w : World) (h : IsRow .u8 w a len cap z) :
    Calls Try.prog 4 #[.int .i64 t, .slice a len cap] w fun e w' => e = .returned (.bool true) ∧ Below w.heap.size w w' := by
  obtain ⟨hr, hn, hl, hm⟩ := InRow.brow (show InRow w a len cap z from h)
  by_cases s : len = 0 ∨ 4 < len
  · exact packnoWholes_same t a len cap _ _ w (whole_size t a len cap s hl hm w) (refWhole_size t a len cap s hl hm w)
  by_cases r : t < -1 ∨ 4611686018427387903 < t
  · exact packnoWholes_same t a len cap _ _ w (whole_range t a len cap (by omega) (by omega) r hl hm w) (refWhole_range t a len cap (by omega) (by omega) r hl hm w)
  exact packnoWholes_same t a len cap _ _ w (whole_in t a len cap _ _ w hr hn (by omega) (by omega) (by omega) hl hm) (refWhole_in t a len cap _ _ w hr hn (by omega) (by omega) (by omega) hl hm)
end Go.Proofs.Ytadeakdfopdblaa
