/- RangesAdds' walk. -/
import Derived.Test.YtockfejaijdmjaaRefAdd
import Derived.Test.YtockfejaijdmjaaRngSameL
import Derived.Test.YtockfejaijdmjaaOpen
namespace Go.Proofs.Ytockfejaijdmjaa
set_option linter.unusedVariables false
open Go.RowKit P

theorem rangesAdds_walk (A : Option Addr) (len cap : Nat) (ps : List (Int × Int)) (lo hi : Int) (w : World) (h : RRow w w.heap.size A ps) (hl : ps.length = len) (hlc : len ≤ cap) (hcm : cap ≤ maxLen) (hreach : cap * 16 ≤ 140737488351232) :
    Calls Try.prog 4 #[.slice A len cap, .agg #[.int .i64 lo, .int .i64 hi]] w fun e w' => e = .returned (.bool true) ∧ Below w.heap.size w w' := by
  have HW := Lib.hid ((Below.refl w.heap.size w).alloc (Nat.le_refl _) (.cells #[.int .i64 lo, .int .i64 hi] 29))
  have HR := Lib.hid (h.on HW.out)
  have HL := Lib.hid hl
  have hm : (len + 2) * 16 ≤ 140737488355328 := by omega
  have hm1 : (len + 1) * 16 ≤ 140737488355328 := by omega
  have hm2 : len ≤ 9223372036854775807 := by omega
  rcases rf_cases ps (lo, hi) with ⟨ok, hr, _⟩ | hbad
  · have HO := Lib.hid ok
    have HK := Lib.hid hr
    have cl := ins_len (lo, hi) ps
    rw [hl] at cl
    obtain ⟨V, hV⟩ : ∃ V, insR (lo, hi) ps = V := ⟨_, rfl⟩
    rw [hV] at cl
    have HV := Lib.hid hV
    clear h hl ok hr hV
    go_enter Try.func4, Try.ntmps4
    go_wp2_with (first
      | (go_at_call 13
         refine (add_any _ _ _ ps _ _ _ HR.out HL.out HO.out HK.out hm1 hlc hcm).mono ?_
         rintro e w1 ⟨A1, c1, rfl, l1, m1, r1, hb1⟩
         rw [HV.out] at l1 r1 ⊢
         have R1 := Lib.hid r1
         have HB1 := Lib.hid hb1
         have d0 := (hb1.cell (p := ⟨w.heap.size, 0, none⟩) (by simp)).trans (by simp : _ = some (.int .i64 lo))
         have d1 := (hb1.cell (p := ⟨w.heap.size, 1, none⟩) (by simp)).trans (by simp : _ = some (.int .i64 hi))
         have z1 := World.block_lt_of_cell? w1 _ d0
         clear hb1 r1 m1)
      | (go_at_call 14
         refine (radded_any _ _ _ ps _ _ _ (HR.out.on HB1.out) HL.out HO.out HK.out hm).mono ?_
         rintro e w3 ⟨A3, c3, rfl, l3, m3, r3, hb3⟩
         rw [HV.out] at l3 r3 ⊢
         have R3 := Lib.hid r3
         have HB3 := Lib.hid hb3
         clear hb3 r3 m3)
      | (go_at_call 15
         (with_reducible refine (lsame_any _ _ _ _ _ V _ (R1.out.on HB3.out) R3.out rfl (by omega)).mono ?_)
         rintro e w5 ⟨rfl, hb5⟩
         have HB5 := Lib.hid hb5
         clear hb5))
    go_ret
    exact ⟨rfl, HW.out.trans ((bt HB1.out (bt HB3.out HB5.out)).mono HW.out.size)⟩
  · have hc : rfV ps (lo, hi) = 3 ∨ rfV ps (lo, hi) = 6 := hbad.imp (fun h => h.1) (fun h => h.1)
    have HC := Lib.hid hc
    obtain ⟨x, hx⟩ : ∃ x, rfV ps (lo, hi) = x := ⟨_, rfl⟩
    have HXx := Lib.hid hx
    clear h hl hbad hc hx
    go_enter Try.func4, Try.ntmps4
    go_wp2_with (first
      | (go_at_call 13
         refine (add_bad _ _ _ ps _ _ _ HR.out HL.out HC.out hm2).mono ?_
         rintro e w1 ⟨rfl, hb1⟩
         rw [HXx.out]
         have HB1 := Lib.hid hb1
         have d0 := (hb1.cell (p := ⟨w.heap.size, 0, none⟩) (by simp)).trans (by simp : _ = some (.int .i64 lo))
         have d1 := (hb1.cell (p := ⟨w.heap.size, 1, none⟩) (by simp)).trans (by simp : _ = some (.int .i64 hi))
         clear hb1)
      | (go_at_call 14
         refine (radded_bad _ _ _ ps _ _ _ (HR.out.on HB1.out) HL.out HC.out hm2).mono ?_
         rintro e w3 ⟨rfl, hb3⟩
         rw [HXx.out]
         have HB3 := Lib.hid hb3
         clear hb3)
      | (go_at_call 15
         (with_reducible refine (lsame_any none none 0 0 0 [] _ (RRow.nil _ _ _) (RRow.nil _ _ _) rfl (by omega)).mono ?_)
         rintro e w5 ⟨rfl, hb5⟩
         have HB5 := Lib.hid hb5
         clear hb5))
    go_ret
    exact ⟨ret_bool (by first | rfl | (simp; done)), HW.out.trans ((bt HB1.out (bt HB3.out HB5.out)).mono HW.out.size)⟩
end Go.Proofs.Ytockfejaijdmjaa
