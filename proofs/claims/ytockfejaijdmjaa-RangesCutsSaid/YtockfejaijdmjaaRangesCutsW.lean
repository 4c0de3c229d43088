/- RangesCuts' walk. -/
import Derived.Test.YtockfejaijdmjaaRefWo
import Derived.Test.YtockfejaijdmjaaRngHol
import Derived.Test.YtockfejaijdmjaaRngSameL
import Derived.Test.YtockfejaijdmjaaOpen
namespace Go.Proofs.Ytockfejaijdmjaa
set_option linter.unusedVariables false
open Go.RowKit P

theorem rangesCuts_walk (A : Option Addr) (len cap : Nat) (ps : List (Int × Int)) (lo hi : Int) (w : World) (h : RRow w w.heap.size A ps) (hl : ps.length = len) (hlc : len ≤ cap) (hcm : cap ≤ maxLen) (hreach : cap * 16 ≤ 140737488351232) :
    Calls Try.prog 5 #[.slice A len cap, .agg #[.int .i64 lo, .int .i64 hi]] w fun e w' => e = .returned (.bool true) ∧ Below w.heap.size w w' := by
  have HW := Lib.hid ((Below.refl w.heap.size w).alloc (Nat.le_refl _) (.cells #[.int .i64 lo, .int .i64 hi] 29))
  have HR := Lib.hid (h.on HW.out)
  have HL := Lib.hid hl
  have hm : (len + 2) * 16 ≤ 140737488355328 := by omega
  have hm2 : len ≤ 9223372036854775807 := by omega
  rcases rf_cases ps (lo, hi) with ⟨ok, hr, _⟩ | hbad
  · have HO := Lib.hid ok
    have HK := Lib.hid hr
    have cl := cut_len hr ok
    have hll := holes_len hi ps lo
    rw [hl] at cl hll
    obtain ⟨V, hV⟩ : ∃ V, cutL (lo, hi) ps = V := ⟨_, rfl⟩
    obtain ⟨Q, hQ⟩ : ∃ Q, holesF hi lo ps = Q := ⟨_, rfl⟩
    rw [hV] at cl
    rw [hQ] at hll
    have HV := Lib.hid hV
    have HQ := Lib.hid hQ
    clear h hl ok hr hV hQ
    go_enter Try.func5, Try.ntmps5
    go_wp2_with (first
      | (go_at_call 16
         refine (cut_any _ _ _ ps _ _ _ HR.out HL.out HO.out HK.out hm).mono ?_
         rintro e w1 ⟨A1, c1, rfl, l1, m1, r1, hb1⟩
         rw [HV.out] at l1 r1 ⊢
         have R1 := Lib.hid r1
         have HB1 := Lib.hid hb1
         have d0 := (hb1.cell (p := ⟨w.heap.size, 0, none⟩) (by simp)).trans (by simp : _ = some (.int .i64 lo))
         have d1 := (hb1.cell (p := ⟨w.heap.size, 1, none⟩) (by simp)).trans (by simp : _ = some (.int .i64 hi))
         have z1 := World.block_lt_of_cell? w1 _ d0
         clear hb1 r1 m1)
      | (go_at_call 17
         refine (holes_any _ _ _ ps _ _ _ (HR.out.on HB1.out) HL.out HO.out HK.out hm).mono ?_
         rintro e w2 ⟨A2, c2, rfl, l2, m2, r2, hb2⟩
         rw [HQ.out] at l2 r2 ⊢
         have R2 := Lib.hid r2
         have HB2 := Lib.hid hb2
         have e0 := (hb2.cell (p := ⟨w.heap.size, 0, none⟩) z1).trans d0
         have e1 := (hb2.cell (p := ⟨w.heap.size, 1, none⟩) z1).trans d1
         have z2 := World.block_lt_of_cell? w2 _ e0
         clear hb2 r2 m2)
      | (go_at_call 18
         refine (rcut_any _ _ _ ps _ _ _ (HR.out.on (bt HB1.out HB2.out)) HL.out HO.out HK.out hm).mono ?_
         rintro e w3 ⟨A3, c3, rfl, l3, m3, r3, hb3⟩
         rw [HV.out] at l3 r3 ⊢
         have R3 := Lib.hid r3
         have HB3 := Lib.hid hb3
         have f0 := (hb3.cell (p := ⟨w.heap.size, 0, none⟩) z2).trans e0
         have f1 := (hb3.cell (p := ⟨w.heap.size, 1, none⟩) z2).trans e1
         clear hb3 r3 m3)
      | (go_at_call 19
         refine (rholes_any _ _ _ ps _ _ _ (HR.out.on (bt HB1.out (bt HB2.out HB3.out))) HL.out HO.out HK.out hm).mono ?_
         rintro e w4 ⟨A4, c4, rfl, l4, m4, r4, hb4⟩
         rw [HQ.out] at l4 r4 ⊢
         have R4 := Lib.hid r4
         have HB4 := Lib.hid hb4
         clear hb4 r4 m4)
      | (go_at_call 15
         (with_reducible refine (lsame_any _ _ _ _ _ Q _ (R2.out.on (bt HB3.out (bt HB4.out HB5.out))) (R4.out.on HB5.out) rfl (by omega)).mono ?_)
         rintro e w6 ⟨rfl, hb6⟩
         have HB6 := Lib.hid hb6
         clear hb6)
      | (go_at_call 15
         (with_reducible refine (lsame_any _ _ _ _ _ V _ (R1.out.on (bt HB2.out (bt HB3.out HB4.out))) (R3.out.on HB4.out) rfl (by omega)).mono ?_)
         rintro e w5 ⟨rfl, hb5⟩
         have HB5 := Lib.hid hb5
         clear hb5))
    go_ret
    exact ⟨rfl, HW.out.trans ((bt HB1.out (bt HB2.out (bt HB3.out (bt HB4.out (bt HB5.out HB6.out))))).mono HW.out.size)⟩
  · have hc : rfV ps (lo, hi) = 3 ∨ rfV ps (lo, hi) = 6 := hbad.imp (fun h => h.1) (fun h => h.1)
    have HC := Lib.hid hc
    obtain ⟨x, hx⟩ : ∃ x, rfV ps (lo, hi) = x := ⟨_, rfl⟩
    have HXx := Lib.hid hx
    clear h hl hbad hc hx
    go_enter Try.func5, Try.ntmps5
    go_wp2_with (first
      | (go_at_call 16
         refine (cut_bad _ _ _ ps _ _ _ HR.out HL.out HC.out hm2).mono ?_
         rintro e w1 ⟨rfl, hb1⟩
         rw [HXx.out]
         have HB1 := Lib.hid hb1
         have d0 := (hb1.cell (p := ⟨w.heap.size, 0, none⟩) (by simp)).trans (by simp : _ = some (.int .i64 lo))
         have d1 := (hb1.cell (p := ⟨w.heap.size, 1, none⟩) (by simp)).trans (by simp : _ = some (.int .i64 hi))
         have z1 := World.block_lt_of_cell? w1 _ d0
         clear hb1)
      | (go_at_call 17
         refine (holes_bad _ _ _ ps _ _ _ (HR.out.on HB1.out) HL.out HC.out hm2).mono ?_
         rintro e w2 ⟨rfl, hb2⟩
         rw [HXx.out]
         have HB2 := Lib.hid hb2
         have e0 := (hb2.cell (p := ⟨w.heap.size, 0, none⟩) z1).trans d0
         have e1 := (hb2.cell (p := ⟨w.heap.size, 1, none⟩) z1).trans d1
         have z2 := World.block_lt_of_cell? w2 _ e0
         clear hb2)
      | (go_at_call 18
         refine (rcut_bad _ _ _ ps _ _ _ (HR.out.on (bt HB1.out HB2.out)) HL.out HC.out hm2).mono ?_
         rintro e w3 ⟨rfl, hb3⟩
         rw [HXx.out]
         have HB3 := Lib.hid hb3
         have f0 := (hb3.cell (p := ⟨w.heap.size, 0, none⟩) z2).trans e0
         have f1 := (hb3.cell (p := ⟨w.heap.size, 1, none⟩) z2).trans e1
         clear hb3)
      | (go_at_call 19
         refine (rholes_bad _ _ _ ps _ _ _ (HR.out.on (bt HB1.out (bt HB2.out HB3.out))) HL.out HC.out hm2).mono ?_
         rintro e w4 ⟨rfl, hb4⟩
         rw [HXx.out]
         have HB4 := Lib.hid hb4
         clear hb4)
      | (go_at_call 15
         (with_reducible refine (lsame_any none none 0 0 0 [] _ (RRow.nil _ _ _) (RRow.nil _ _ _) rfl (by omega)).mono ?_)
         rintro e w6 ⟨rfl, hb6⟩
         have HB6 := Lib.hid (bt HB5.out hb6)
         clear hb6)
      | (go_at_call 15
         (with_reducible refine (lsame_any none none 0 0 0 [] _ (RRow.nil _ _ _) (RRow.nil _ _ _) rfl (by omega)).mono ?_)
         rintro e w5 ⟨rfl, hb5⟩
         have HB5 := Lib.hid hb5
         clear hb5))
    go_ret
    exact ⟨ret_bool (by first | rfl | (simp; done)), HW.out.trans ((bt HB1.out (bt HB2.out (bt HB3.out (bt HB4.out HB6.out)))).mono HW.out.size)⟩
end Go.Proofs.Ytockfejaijdmjaa
