/- RangesNotes' walk. -/
import Derived.Test.YtockfejaijdmjaaRefNote
import Derived.Test.YtockfejaijdmjaaRngSameL
import Derived.Test.YtockfejaijdmjaaOpen
namespace Go.Proofs.Ytockfejaijdmjaa
set_option linter.unusedVariables false
open Go.RowKit P

theorem rangesNotes_walk (A : Option Addr) (len cap : Nat) (ps : List (Int × Int)) (n : Int) (w : World) (h : RRow w w.heap.size A ps) (hl : ps.length = len) (hlc : len ≤ cap) (hcm : cap ≤ maxLen) (hreach : cap * 16 ≤ 140737488351232) :
    Calls Try.prog 6 #[.slice A len cap, .int .i64 n] w fun e w' => e = .returned (.bool true) ∧ Below w.heap.size w w' := by
  have HR := Lib.hid h
  have HL := Lib.hid hl
  have hm : (len + 2) * 16 ≤ 140737488355328 := by omega
  have hm1 : (len + 1) * 16 ≤ 140737488355328 := by omega
  have hm2 : len ≤ 9223372036854775807 := by omega
  rcases rf_cases ps (n, n) with ⟨ok, hr, _⟩ | hbad
  · have HO := Lib.hid ok
    have HK := Lib.hid hr
    have cl : (noteL ps n).length ≤ len + 1 := by
      have := ins_len (n, n) ps
      unfold noteL
      rw [List.length_drop]
      omega
    obtain ⟨V, hV⟩ : ∃ V, noteL ps n = V := ⟨_, rfl⟩
    rw [hV] at cl
    have HV := Lib.hid hV
    obtain ⟨b, hb⟩ : ∃ b, hasB ps n = b := ⟨_, rfl⟩
    have HB := Lib.hid hb
    clear h hl ok hr hV hb
    cases b <;>
    · go_enter Try.func6, Try.ntmps6
      go_wp2_with (first
        | (go_at_call 20
           refine (note_any _ _ _ ps _ _ HR.out HL.out HO.out HK.out hm1 hlc hcm).mono ?_
           rintro e w1 ⟨A1, c1, rfl, l1, m1, r1, hb1⟩
           rw [HV.out] at l1 r1 ⊢
           rw [HB.out]
           have R1 := Lib.hid r1
           have HB1 := Lib.hid hb1
           clear hb1 r1 m1)
        | (go_at_call 21
           refine (rnoted_any _ _ _ ps _ _ (HR.out.on HB1.out) HL.out HO.out HK.out hm).mono ?_
           rintro e w3 ⟨A3, c3, rfl, l3, m3, r3, hb3⟩
           rw [HV.out] at l3 r3 ⊢
           rw [HB.out]
           have R3 := Lib.hid r3
           have HB3 := Lib.hid hb3
           clear hb3 r3 m3)
        | (go_at_call 15
           (with_reducible refine (lsame_any _ _ _ _ _ V _ (R1.out.on HB3.out) R3.out rfl (by omega)).mono ?_)
           rintro e w5 ⟨rfl, hb5⟩
           have HB5 := Lib.hid hb5
           clear hb5))
      go_ret
      exact ⟨ret_bool (by first | rfl | (simp; done)), bt HB1.out (bt HB3.out HB5.out)⟩
  · have hc : rfV ps (n, n) = 3 ∨ rfV ps (n, n) = 6 := hbad.imp (fun h => h.1) (fun h => h.1)
    have HC := Lib.hid hc
    obtain ⟨x, hx⟩ : ∃ x, rfV ps (n, n) = x := ⟨_, rfl⟩
    have HXx := Lib.hid hx
    clear h hl hbad hc hx
    go_enter Try.func6, Try.ntmps6
    go_wp2_with (first
      | (go_at_call 20
         refine (note_bad _ _ _ ps _ _ HR.out HL.out HC.out hm2).mono ?_
         rintro e w1 ⟨rfl, hb1⟩
         rw [HXx.out]
         have HB1 := Lib.hid hb1
         clear hb1)
      | (go_at_call 21
         refine (rnoted_bad _ _ _ ps _ _ (HR.out.on HB1.out) HL.out HC.out hm2).mono ?_
         rintro e w3 ⟨rfl, hb3⟩
         rw [HXx.out]
         have HB3 := Lib.hid hb3
         clear hb3)
      | (go_at_call 15
         (with_reducible refine (lsame_any none none 0 0 0 [] _ (RRow.nil _ _ _) (RRow.nil _ _ _) rfl (by omega)).mono ?_)
         rintro e w5 ⟨rfl, hb5⟩
         have HB5 := Lib.hid hb5
         clear hb5))
    go_ret
    exact ⟨ret_bool (by first | rfl | (simp; done)), bt HB1.out (bt HB3.out HB5.out)⟩
end Go.Proofs.Ytockfejaijdmjaa
