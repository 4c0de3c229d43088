/- VarDecodes' walk. -/
import Derived.Test.YtpickcmpnncgcaaVarOf
namespace Go.Proofs.Ytpickcmpnncgcaa
open Go.RowKit P

theorem varDecodes_walk (a : Option Addr) (len cap : Nat) (z : List Int) (w : World) (h : InRow w a len cap z) :
    Calls Try.prog 3 #[.slice a len cap] w fun e w' => e = .returned (.bool true) ∧ Below w.heap.size w w' := by
  obtain ⟨hr, hn, hl, hm⟩ := h.brow
  generalize z.take len = zs at hr hn
  clear h
  have hcv := run_str (P := Try.prog) hr hn 22 9 5 cap Try.underlying22 Try.underlying5 Try.underlying9
  by_cases hok : decOk zs
  · have HY := Lib.hid (decode_yes a len cap _ zs w hr hn hl hm hok)
    have HZ := Lib.hid (varOf_long _ zs rfl hr.1 hok)
    clear hr hn hok
    generalize decV zs = v at *
    generalize kOf (zs.getD 0 0) = k at *
    go_enter Try.func3, Try.ntmps3
    go_wp2_with (first | (go_at_call 6; refine HY.out.mono ?_; rintro e w' ⟨rfl, rfl⟩) | (go_at_call 7; refine (HZ.out _).mono ?_; rintro e w' ⟨rfl, hb⟩))
    go_ret
    exact ⟨rfl, by assumption⟩
  · have HY := Lib.hid (decode_no a len cap _ zs w hr hn hl hm hok)
    have HZ : Hid (∀ w, Calls Try.prog 7 #[.string (strOfNums zs)] w fun e w' => e = .returned (.tuple #[.int .i64 0, .int .i64 0, .int .i64 4]) ∧ Below w.heap.size w w') := fun w => by
      rcases Nat.eq_zero_or_pos zs.length with h0 | h0
      · have e := List.eq_nil_of_length_eq_zero h0
        subst e
        exact varOf_empty w
      · exact varOf_short _ zs rfl hr.1 h0 (by unfold decOk at hok; omega) w
    clear hr hn hok
    go_enter Try.func3, Try.ntmps3
    go_wp2_with (first | (go_at_call 6; refine HY.out.mono ?_; rintro e w' ⟨rfl, rfl⟩) | (go_at_call 7; refine (HZ.out _).mono ?_; rintro e w' ⟨rfl, hb⟩))
    go_ret
    exact ⟨rfl, by assumption⟩
end Go.Proofs.Ytpickcmpnncgcaa
