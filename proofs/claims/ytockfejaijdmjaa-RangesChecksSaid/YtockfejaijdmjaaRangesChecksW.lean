/- RangesChecks' walk. -/
import Derived.Test.YtockfejaijdmjaaRefRng
import Derived.Test.YtockfejaijdmjaaOpen
namespace Go.Proofs.Ytockfejaijdmjaa
set_option linter.unusedVariables false
open Go.RowKit P

theorem rangesChecks_walk (A : Option Addr) (len cap : Nat) (ps : List (Int × Int)) (n : Int) (w : World) (h : RRow w w.heap.size A ps) (hl : ps.length = len) (hlc : len ≤ cap) (hcm : cap ≤ maxLen) (hn : n ≤ 9223372036854775807) :
    Calls Try.prog 3 #[.slice A len cap, .int .i64 n] w fun e w' => e = .returned (.bool true) ∧ Below w.heap.size w w' := by
  have HR := Lib.hid h
  have HL := Lib.hid hl
  have hm : len ≤ 9223372036854775807 := by unfold maxLen at hcm; omega
  obtain ⟨x, y, z, hck, hhe⟩ : ∃ (x : Int) (y : Bool) (z : Int), ckV ps = x ∧ HasE ps n = .tuple #[.bool y, .int .i64 z] := by
    by_cases hok : okL ps
    · exact ⟨_, _, _, rfl, if_pos hok⟩
    · exact ⟨_, _, _, rfl, if_neg hok⟩
  have HC := Lib.hid hck
  have HE := Lib.hid hhe
  clear h hl hcm hck hhe
  cases y
  all_goals
    go_enter Try.func3, Try.ntmps3
    go_wp2_with (first
      | (go_at_call 9; refine (check_any _ _ _ _ _ HR.out HL.out hm).mono ?_; rintro e w1 ⟨rfl, hb1⟩; have HB1 := Lib.hid hb1; clear hb1; rw [HC.out])
      | (go_at_call 10; refine (hasE_any _ _ _ _ _ _ (HR.out.on HB1.out) HL.out hm).mono ?_; rintro e w2 ⟨rfl, hb2⟩; have HB2 := Lib.hid (bt HB1.out hb2); clear hb2; rw [HE.out])
      | (go_at_call 11; refine (fault_any _ _ _ _ _ (HR.out.on HB2.out) HL.out hm).mono ?_; rintro e w3 ⟨rfl, hb3⟩; have HB3 := Lib.hid (bt HB2.out hb3); clear hb3; rw [HC.out])
      | (go_at_call 12; refine (refhas_any _ _ _ _ _ _ (HR.out.on HB3.out) HL.out hm hn).mono ?_; rintro e w4 ⟨rfl, hb4⟩; have HB4 := Lib.hid (bt HB3.out hb4); clear hb4; rw [HE.out]))
    go_ret
    exact ⟨ret_bool (by first | rfl | (simp; done)), HB4.out⟩
end Go.Proofs.Ytockfejaijdmjaa
