/- RangesBack's walk. -/
import Derived.Test.YtockfejaijdmjabRngSet
import Derived.Test.YtockfejaijdmjabRngTell
import Derived.Test.YtockfejaijdmjabRngSame
import Derived.Test.YtockfejaijdmjabOpen
namespace Go.Proofs.Ytockfejaijdmjab
set_option linter.unusedVariables false
open Go.RowKit P

theorem one_set {w : World} {g : Nat} {u0 u1 v1 : Value} {t : TypeId} (h : w.heap[g]? = some (.cells #[u0, u1] t (0, 0))) :
    ((w.setCell ⟨g, 1, none⟩ v1).drew).heap[g]? = some (.cells #[u0, v1] t (0, 0)) := by
  show (w.setCell ⟨g, 1, none⟩ v1).heap[g]? = _
  simp [World.setCell, Array.getElem?_modify, h]

theorem rangesBack_walk (A : Option Addr) (len cap : Nat) (rs : List RawT) (a b : Int) (w : World) (h : RawRow w w.heap.size A rs) (hl : rs.length = len) (hlc : len ≤ cap) (hcm : cap ≤ maxLen) :
    Calls Try.prog 5 #[.slice A len cap, .int .i64 a, .int .i64 b] w fun e w' => e = .returned (.bool true) ∧ Below w.heap.size w w' := by
  have HR := Lib.hid h
  have HL := Lib.hid hl
  obtain ⟨pa, hpa⟩ : ∃ x, a % 60 = x := ⟨_, rfl⟩
  obtain ⟨pb, hpb⟩ : ∃ x, b % 9 = x := ⟨_, rfl⟩
  have a0 : 0 ≤ pa := by omega
  have a1 : pa < 60 := by omega
  have b0 : 0 ≤ pb := by omega
  have b1 : pb < 9 := by omega
  have HA := Lib.hid hpa
  have HB := Lib.hid hpb
  have HX := Lib.hid (show okR (pa, pa + pb) from ⟨a0, by simp only; omega, by simp only; omega⟩)
  clear h hl hpa hpb
  go_enter Try.func5, Try.ntmps5
  go_wp2_with (first
    | (go_at_call 6; refine (set_any _ _ _ _ _ HR.out HL.out hlc hcm).mono ?_; rintro e w1 ⟨C, A0, c0, rfl, ok0, l20, l0, m0, r0, hb0⟩; have O0 := Lib.hid ok0; have R0 := Lib.hid r0; have M0 := Lib.hid m0; have H0 := Lib.hid hb0; clear ok0 r0 m0 hb0)
    | (go_at_call 7; refine (picked_any _ _ (by omega) (by omega) _).mono ?_; rintro e w' ⟨rfl, rfl⟩; simp only [HA.out, HB.out]))
  have hx : (w1.alloc (.cells #[.int .i64 pa, .int .i64 0] 28)).heap[w1.heap.size]? = some (.cells #[.int .i64 pa, .int .i64 0] 28 (0, 0)) := by show (w1.heap.push _)[w1.heap.size]? = _; simp
  have hb1 := (Below.refl w1.heap.size w1).alloc (Nat.le_refl _) (.cells #[.int .i64 pa, .int .i64 0] 28)
  generalize w1.alloc (.cells #[.int .i64 pa, .int .i64 0] 28) = W1 at hx hb1 ⊢
  have e0 := cell_of_row W1 w1.heap.size 0 _ _ _ hx
  have e1 := cell_of_row W1 w1.heap.size 1 _ _ _ hx
  simp at e0 e1
  have f1 := frozen_of_row hx 1
  have HX1 := Lib.hid hx
  have HB1 := Lib.hid hb1
  clear hx hb1
  go_still_tail 6, (by kernel_rfl)
  still_call ((picked_any _ _ (by omega) (by omega) _).mono fun e w' h => ⟨h.1, h.2.symm⟩)
  simp only [HB.out]
  repeat still_step
  refine wpStill_nil ?_
  change wpList _ _ _ _ _ W1.drew
  go_wp2_with fail
  have hx3 : (W1.setCell ⟨w1.heap.size, 1, none⟩ (.int .i64 (pa + pb))).drew.heap[w1.heap.size]? = some (.cells #[.int .i64 pa, .int .i64 (pa + pb)] 28 (0, 0)) := one_set HX1.out
  have hb3 := (HB1.out.setCell (p := ⟨w1.heap.size, 1, none⟩) (Nat.le_refl _) (.int .i64 (pa + pb))).drew
  clear e0 e1 f1
  generalize (W1.setCell ⟨w1.heap.size, 1, none⟩ (.int .i64 (pa + pb))).drew = W3 at hx3 hb3 ⊢
  have e0 := cell_of_row W3 w1.heap.size 0 _ _ _ hx3
  have e1 := cell_of_row W3 w1.heap.size 1 _ _ _ hx3
  simp at e0 e1
  have z0 := World.block_lt_of_cell? W3 _ e0
  have HB3 := Lib.hid hb3
  have HW3 := Lib.hid (H0.out.trans (hb3.mono H0.out.size))
  clear hx3 hb3 HX1 HB1
  have u1 := ins_len (pa, pa + pb) C
  have v1 := cut_len HX.out O0.out
  have U0 := Lib.hid (insL_ok O0.out HX.out)
  have V0 := Lib.hid (cutL_ok O0.out HX.out)
  obtain ⟨U, hU⟩ : ∃ U, insR (pa, pa + pb) C = U := ⟨_, rfl⟩
  obtain ⟨V, hV⟩ : ∃ V, cutL (pa, pa + pb) C = V := ⟨_, rfl⟩
  rw [hU] at u1 U0
  rw [hV] at v1 V0
  have X0 := insL_ok V0.out.1 HX.out
  have Y0 := cutL_ok U0.out.1 HX.out
  have HUX := Lib.hid (ok_ext X0.1 U0.out.1 (fun n => by rw [X0.2 n, U0.out.2 n, V0.out.2 n]; by_cases c : inR (pa, pa + pb) n <;> simp [c]))
  have HVY := Lib.hid (ok_ext Y0.1 V0.out.1 (fun n => by rw [Y0.2 n, U0.out.2 n, V0.out.2 n]; by_cases c : inR (pa, pa + pb) n <;> simp [c]))
  have HU := Lib.hid hU
  have HV := Lib.hid hV
  clear X0 Y0 hU hV
  go_wp2_with (first
    | (go_at_call 14
       (with_reducible refine (cut_any _ _ _ U _ _ _ (R1.out.on (HB5.out.trans (HB6.out.mono HB5.out.size))) rfl U0.out.1 HX.out (by omega)).mono ?_)
       rintro e w7 ⟨A7, c7, rfl, l7, m7, r7, hb7⟩
       rw [HVY.out] at l7 r7 ⊢
       have R7 := Lib.hid r7
       have HB7 := Lib.hid hb7
       clear hb7 r7 m7)
    | (go_at_call 8
       (with_reducible refine (add_any _ _ _ V _ _ _ R5.out rfl V0.out.1 HX.out (by omega) l5 M5.out).mono ?_)
       rintro e w6 ⟨A6, c6, rfl, l6, m6, r6, hb6⟩
       rw [HUX.out] at l6 r6 ⊢
       have R6 := Lib.hid r6
       have HB6 := Lib.hid hb6
       have q0 := (hb6.cell (Nat.lt_of_lt_of_le z0 H5.out)).trans p0
       have q1 := (hb6.cell (Nat.lt_of_lt_of_le z0 H5.out)).trans p1
       clear hb6 r6 m6)
    | (go_at_call 14
       (with_reducible refine (cut_any _ _ _ C _ _ _ (R0.out.on (HB3.out.trans (HB4.out.mono HB3.out.size))) rfl O0.out HX.out (by omega)).mono ?_)
       rintro e w5 ⟨A5, c5, rfl, l5, m5, r5, hb5⟩
       rw [HV.out] at l5 r5 ⊢
       have R5 := Lib.hid r5
       have M5 := Lib.hid m5
       have HB5 := Lib.hid hb5
       have H5 := Lib.hid (Nat.le_trans H4.out hb5.size)
       have p0 := (hb5.cell (Nat.lt_of_lt_of_le z0 H4.out)).trans o0
       have p1 := (hb5.cell (Nat.lt_of_lt_of_le z0 H4.out)).trans o1
       clear hb5 r5 m5)
    | (go_at_call 8
       (with_reducible refine (add_any _ _ _ C _ _ _ (R0.out.on HB3.out) rfl O0.out HX.out (by omega) l0 M0.out).mono ?_)
       rintro e w4 ⟨A4, c4, rfl, l4, m4, r4, hb4⟩
       rw [HU.out] at l4 r4 ⊢
       have R1 := Lib.hid r4
       have HB4 := Lib.hid hb4
       have H4 := Lib.hid hb4.size
       have o0 := (hb4.cell z0).trans e0
       have o1 := (hb4.cell z0).trans e1
       clear hb4 r4 m4))
  go_wp2_with (first
    | (go_at_call 9
       refine (tell_any _).mono ?_
       rintro e w8 ⟨rfl, hb8⟩
       have HB8 := Lib.hid hb8
       clear hb8)
    | (go_at_call 10
       (with_reducible refine (same_any _ _ _ _ _ V _ (R5.out.on (bt HB6.out (bt HB7.out (bt HB8.out HB9.out)))) (R7.out.on (bt HB8.out HB9.out)) rfl (by omega)).mono ?_)
       rintro e w10 ⟨rfl, hb10⟩
       have HB10 := Lib.hid hb10
       clear hb10)
    | (go_at_call 10
       (with_reducible refine (same_any _ _ _ _ _ U _ (R1.out.on (bt HB5.out (bt HB6.out (bt HB7.out HB8.out)))) (R6.out.on (bt HB7.out HB8.out)) rfl (by omega)).mono ?_)
       rintro e w9 ⟨rfl, hb9⟩
       have HB9 := Lib.hid hb9
       clear hb9))
  go_ret
  exact ⟨rfl, bt HW3.out (bt HB4.out (bt HB5.out (bt HB6.out (bt HB7.out (bt HB8.out (bt HB9.out HB10.out))))))⟩
end Go.Proofs.Ytockfejaijdmjab
