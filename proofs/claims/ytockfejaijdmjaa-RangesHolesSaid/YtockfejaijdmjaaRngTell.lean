/- The verifier's texts' 'has' and 'rangesTell'. -/
import Derived.Test.YtockfejaijdmjaaRngCut
namespace Go.Proofs.Ytockfejaijdmjaa
set_option linter.unusedVariables false
open Go.RowKit P

theorem khas_any (A : Option Addr) (len cap : Nat) (ps : List (Int × Int)) (n : Int) (w : World) (h : RRow w w.heap.size A ps) (hl : ps.length = len) (hok : okL ps) (hm : len ≤ 9223372036854775807) :
    Calls Try.prog 25 #[.slice A len cap, .int .i64 n] w (HasPost (hasB ps n) w) := by
  have HR := Lib.hid h
  have HL := Lib.hid hl
  have HE := Lib.hid (show HasE ps n = .tuple #[.bool (hasB ps n), .int .i64 0] from if_pos hok)
  clear h hl hok
  cases hb : hasB ps n with
  | true =>
    rw [hb] at HE
    clear hb
    go_enter Try.func25, Try.ntmps25
    go_wp2_with (first
      | (go_at_call 10; refine (hasE_any _ _ _ _ _ _ HR.out HL.out hm).mono ?_; rintro e w1 ⟨rfl, hb1⟩; have HB1 := Lib.hid hb1; clear hb1; rw [HE.out]))
    go_ret
    exact ⟨rfl, HB1.out⟩
  | false =>
    rw [hb] at HE
    clear hb
    go_enter Try.func25, Try.ntmps25
    go_wp2_with (first
      | (go_at_call 10; refine (hasE_any _ _ _ _ _ _ HR.out HL.out hm).mono ?_; rintro e w1 ⟨rfl, hb1⟩; have HB1 := Lib.hid hb1; clear hb1; rw [HE.out]))
    go_ret
    exact ⟨rfl, HB1.out⟩

theorem tell34 : insR (3, 4) [] = [(3, 4)] := rfl
theorem ok34 : okL [(3, 4)] := by decide
theorem has3 : hasB [(3, 4)] 3 = true := by decide
theorem has4 : hasB [(3, 4)] 4 = true := by decide
theorem has5 : hasB [(3, 4)] 5 = false := by decide

theorem tell_any (w : World) : Calls Try.prog 24 #[] w (HasPost true w) := by
  go_enter Try.func24, Try.ntmps24
  go_wp2_with (first
    | (go_at_call 13
       refine (add_any _ 0 _ [] _ _ _ (RRow.nil _ _ _) rfl trivial (by decide) (by omega) (Nat.le_refl _) (Nat.zero_le _)).mono ?_
       rintro e w1 ⟨A1, c1, rfl, l1, m1, r1, hb1⟩
       have R1 : Hid (RRow w1 w1.heap.size A1 [(3, 4)]) := r1
       have HB1 := Lib.hid hb1
       rw [show (insR (3, 4) []).length = 1 from rfl]
       clear hb1 r1 m1 l1)
    | (go_at_call 25
       (with_reducible refine (khas_any _ 1 _ [(3, 4)] 5 _ (R1.out.on (HB2.out.trans (HB3.out.mono HB2.out.size))) rfl ok34 (by omega)).mono ?_)
       rintro e w4 ⟨rfl, hb4⟩
       have HB4 := Lib.hid hb4
       clear hb4
       rw [has5])
    | (go_at_call 25
       (with_reducible refine (khas_any _ 1 _ [(3, 4)] 4 _ (R1.out.on HB2.out) rfl ok34 (by omega)).mono ?_)
       rintro e w3 ⟨rfl, hb3⟩
       have HB3 := Lib.hid hb3
       clear hb3
       rw [has4])
    | (go_at_call 25
       (with_reducible refine (khas_any _ 1 _ [(3, 4)] 3 _ R1.out rfl ok34 (by omega)).mono ?_)
       rintro e w2 ⟨rfl, hb2⟩
       have HB2 := Lib.hid hb2
       clear hb2
       rw [has3]))
  go_ret
  exact ⟨rfl, ((HB1.out.trans (HB2.out.mono HB1.out.size)).trans (HB3.out.mono (HB1.out.trans (HB2.out.mono HB1.out.size)).size)).trans (HB4.out.mono ((HB1.out.trans (HB2.out.mono HB1.out.size)).trans (HB3.out.mono (HB1.out.trans (HB2.out.mono HB1.out.size)).size)).size)⟩
end Go.Proofs.Ytockfejaijdmjaa
