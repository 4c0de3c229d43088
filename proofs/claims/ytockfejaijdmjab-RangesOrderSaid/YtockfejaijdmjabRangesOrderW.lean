/- RangesOrder's walk. -/
import Derived.Test.YtockfejaijdmjabRngSet
import Derived.Test.YtockfejaijdmjabRngTell
import Derived.Test.YtockfejaijdmjabRngSame
import Derived.Test.YtockfejaijdmjabOpen
import Derived.Deep.RegionHeld3
namespace Go.Proofs.Ytockfejaijdmjab
set_option linter.unusedVariables false
open Go.RowKit P

theorem set_far {w : World} {p q : Addr} {u v : Value} (h : w.cell? q = some v) (hne : p ≠ q) : ((w.setCell p u).drew).cell? q = some v :=
  (World.cell?_setCell_other w p q u hne).trans h
theorem set_far2 {w : World} {p p' q : Addr} {u u' v : Value} (h : w.cell? q = some v) (hne : p ≠ q) (hne' : p' ≠ q) : (((w.setCell p u).setCell p' u').drew).cell? q = some v :=
  (World.cell?_setCell_other _ p' q u' hne').trans ((World.cell?_setCell_other w p q u hne).trans h)

theorem pair_set {w : World} {g : Nat} {x0 x1 y0 y1 : Value} {t : TypeId} (h : w.heap[g]? = some (.cells #[x0, x1] t (0, 0))) (k : w.heap[g + 1]? = some (.cells #[y0, y1] t (0, 0))) (u v : Value) :
    (((w.setCell ⟨g, 1, none⟩ u).setCell ⟨g + 1, 1, none⟩ v).drew).heap[g]? = some (.cells #[x0, u] t (0, 0)) ∧ (((w.setCell ⟨g, 1, none⟩ u).setCell ⟨g + 1, 1, none⟩ v).drew).heap[g + 1]? = some (.cells #[y0, v] t (0, 0)) := by
  constructor
  · show ((w.setCell ⟨g, 1, none⟩ u).setCell ⟨g + 1, 1, none⟩ v).heap[g]? = _
    simp [World.setCell, Array.getElem?_modify, h]
  · show ((w.setCell ⟨g, 1, none⟩ u).setCell ⟨g + 1, 1, none⟩ v).heap[g + 1]? = _
    simp [World.setCell, Array.getElem?_modify, k]
theorem bt3 {a b c d : World} (h : Below a.heap.size a b) (k : Below b.heap.size b c) (l : Below c.heap.size c d) : Below a.heap.size a d := bt h (bt k l)

theorem rangesOrder_walk (A : Option Addr) (len cap : Nat) (rs : List RawT) (a b c d : Int) (w : World) (h : RawRow w w.heap.size A rs) (hl : rs.length = len) (hlc : len ≤ cap) (hcm : cap ≤ maxLen) :
    Calls Try.prog 3 #[.slice A len cap, .int .i64 a, .int .i64 b, .int .i64 c, .int .i64 d] w fun e w' => e = .returned (.bool true) ∧ Below w.heap.size w w' := by
  have HR := Lib.hid h
  have HL := Lib.hid hl
  obtain ⟨pa, hpa⟩ : ∃ x, a % 60 = x := ⟨_, rfl⟩
  obtain ⟨pb, hpb⟩ : ∃ x, b % 9 = x := ⟨_, rfl⟩
  obtain ⟨pc, hpc⟩ : ∃ x, c % 60 = x := ⟨_, rfl⟩
  obtain ⟨pd, hpd⟩ : ∃ x, d % 9 = x := ⟨_, rfl⟩
  have a0 : 0 ≤ pa := by omega
  have a1 : pa < 60 := by omega
  have b0 : 0 ≤ pb := by omega
  have b1 : pb < 9 := by omega
  have c0 : 0 ≤ pc := by omega
  have c1 : pc < 60 := by omega
  have d0 : 0 ≤ pd := by omega
  have d1 : pd < 9 := by omega
  have HA := Lib.hid hpa
  have HB := Lib.hid hpb
  have HC := Lib.hid hpc
  have HD := Lib.hid hpd
  have HX := Lib.hid (show okR (pa, pa + pb) from ⟨a0, by simp only; omega, by simp only; omega⟩)
  have HY := Lib.hid (show okR (pc, pc + pd) from ⟨c0, by simp only; omega, by simp only; omega⟩)
  clear h hl hpa hpb hpc hpd
  go_enter Try.func3, Try.ntmps3
  go_wp2_with (first
    | (go_at_call 6; refine (set_any _ _ _ _ _ HR.out HL.out hlc hcm).mono ?_; rintro e w1 ⟨C, A0, c0', rfl, ok0, l20, l0, m0, r0, hb0⟩; have O0 := Lib.hid ok0; have R0 := Lib.hid r0; have M0 := Lib.hid m0; have H0 := Lib.hid hb0; clear ok0 r0 m0 hb0)
    | (go_at_call 7; refine (picked_any _ _ (by omega) (by omega) _).mono ?_; rintro e w' ⟨rfl, rfl⟩; simp only [HA.out, HB.out, HC.out, HD.out]))
  have hx : ((w1.alloc (.cells #[.int .i64 pa, .int .i64 0] 28)).alloc (.cells #[.int .i64 pc, .int .i64 0] 28)).heap[w1.heap.size]? = some (.cells #[.int .i64 pa, .int .i64 0] 28 (0, 0)) := by
    show ((w1.heap.push _).push _)[w1.heap.size]? = _; rw [Array.getElem?_push]; simp
  have hy : ((w1.alloc (.cells #[.int .i64 pa, .int .i64 0] 28)).alloc (.cells #[.int .i64 pc, .int .i64 0] 28)).heap[w1.heap.size + 1]? = some (.cells #[.int .i64 pc, .int .i64 0] 28 (0, 0)) := by
    show ((w1.heap.push _).push _)[w1.heap.size + 1]? = _; rw [Array.getElem?_push]; simp
  have hb1 := (((Below.refl w1.heap.size w1).alloc (Nat.le_refl _) (.cells #[.int .i64 pa, .int .i64 0] 28)).alloc (by simp) (.cells #[.int .i64 pc, .int .i64 0] 28))
  generalize (w1.alloc (.cells #[.int .i64 pa, .int .i64 0] 28)).alloc (.cells #[.int .i64 pc, .int .i64 0] 28) = W1 at hx hy hb1 ⊢
  have HX1 := Lib.hid hx
  have HY1 := Lib.hid hy
  have HB1 := Lib.hid hb1
  clear hx hy hb1
  have e0 := cell_of_row W1 w1.heap.size 0 _ _ _ HX1.out
  have e1 := cell_of_row W1 (w1.heap.size + 1) 0 _ _ _ HY1.out
  simp at e0 e1
  have f0 := frozen_of_row HX1.out 1
  have f1 := frozen_of_row HY1.out 1
  have g0 := cell_of_row W1 w1.heap.size 1 _ _ _ HX1.out
  have g1 := cell_of_row W1 (w1.heap.size + 1) 1 _ _ _ HY1.out
  simp at g0 g1
  have w0 : IntKind.i64.wrap (pa + pb) = pa + pb := IntWalk.i64_in _ (by omega)
  have w1' : IntKind.i64.wrap (pc + pd) = pc + pd := IntWalk.i64_in _ (by omega)
  have t1 : (W1.setCell ⟨w1.heap.size, 1, none⟩ (.int .i64 (pa + pb))).drew.cell? ⟨w1.heap.size, 0, none⟩ = some (.int .i64 pa) ∧ (W1.setCell ⟨w1.heap.size, 1, none⟩ (.int .i64 (pa + pb))).drew.cell? ⟨w1.heap.size + 1, 0, none⟩ = some (.int .i64 pc) := ⟨set_far e0 (by simp), set_far e1 (by simp)⟩
  have t2 : (W1.setCell ⟨w1.heap.size + 1, 1, none⟩ (.int .i64 (pc + pd))).drew.cell? ⟨w1.heap.size, 0, none⟩ = some (.int .i64 pa) ∧ (W1.setCell ⟨w1.heap.size + 1, 1, none⟩ (.int .i64 (pc + pd))).drew.cell? ⟨w1.heap.size + 1, 0, none⟩ = some (.int .i64 pc) := ⟨set_far e0 (by simp), set_far e1 (by simp)⟩
  have t3 : ((W1.setCell ⟨w1.heap.size, 1, none⟩ (.int .i64 (pa + pb))).setCell ⟨w1.heap.size + 1, 1, none⟩ (.int .i64 (pc + pd))).drew.cell? ⟨w1.heap.size, 0, none⟩ = some (.int .i64 pa) ∧ ((W1.setCell ⟨w1.heap.size, 1, none⟩ (.int .i64 (pa + pb))).setCell ⟨w1.heap.size + 1, 1, none⟩ (.int .i64 (pc + pd))).drew.cell? ⟨w1.heap.size + 1, 0, none⟩ = some (.int .i64 pc) := ⟨set_far2 e0 (by simp) (by simp), set_far2 e1 (by simp) (by simp)⟩
  have t4 : ((W1.setCell ⟨w1.heap.size + 1, 1, none⟩ (.int .i64 (pc + pd))).setCell ⟨w1.heap.size, 1, none⟩ (.int .i64 (pa + pb))).drew.cell? ⟨w1.heap.size, 0, none⟩ = some (.int .i64 pa) ∧ ((W1.setCell ⟨w1.heap.size + 1, 1, none⟩ (.int .i64 (pc + pd))).setCell ⟨w1.heap.size, 1, none⟩ (.int .i64 (pa + pb))).drew.cell? ⟨w1.heap.size + 1, 0, none⟩ = some (.int .i64 pc) := ⟨set_far2 e0 (by simp) (by simp), set_far2 e1 (by simp) (by simp)⟩
  go_region_held3 (fun w' => w'.cell? ⟨w1.heap.size, 0, none⟩ = some (.int .i64 pa) ∧ w'.cell? ⟨w1.heap.size + 1, 0, none⟩ = some (.int .i64 pc)) (go_keep)
    (first | (go_at_call 7; refine (picked_any _ _ (by omega) (by omega) _).mono ?_; rintro e w' ⟨rfl, rfl⟩; simp only [HA.out, HB.out, HC.out, HD.out]))
  go_wp2_with fail
  have hx3 := pair_set HX1.out HY1.out (.int .i64 (pa + pb)) (.int .i64 (pc + pd))
  have hb3 := ((HB1.out.setCell (p := ⟨w1.heap.size, 1, none⟩) (Nat.le_refl _) (.int .i64 (pa + pb))).setCell (p := ⟨w1.heap.size + 1, 1, none⟩) (by simp) (.int .i64 (pc + pd))).drew
  clear e0 e1 f0 f1 g0 g1 t1 t2 t3 t4 w0 w1'
  generalize ((W1.setCell ⟨w1.heap.size, 1, none⟩ (.int .i64 (pa + pb))).setCell ⟨w1.heap.size + 1, 1, none⟩ (.int .i64 (pc + pd))).drew = W3 at hx3 hb3 ⊢
  have e0 := cell_of_row W3 w1.heap.size 0 _ _ _ hx3.1
  have e1 := cell_of_row W3 w1.heap.size 1 _ _ _ hx3.1
  have e2 := cell_of_row W3 (w1.heap.size + 1) 0 _ _ _ hx3.2
  have e3 := cell_of_row W3 (w1.heap.size + 1) 1 _ _ _ hx3.2
  simp at e0 e1 e2 e3
  have z0 := World.block_lt_of_cell? W3 _ e2
  have z1 := World.block_lt_of_cell? W3 _ e0
  have HB3 := Lib.hid hb3
  have HW3 := Lib.hid (H0.out.trans (hb3.mono H0.out.size))
  clear hx3 hb3 HX1 HY1 HB1
  have pl := ins_len (pa, pa + pb) C
  have ql := ins_len (pc, pc + pd) C
  have P0 := Lib.hid (insL_ok O0.out HX.out)
  have Q0 := Lib.hid (insL_ok O0.out HY.out)
  obtain ⟨P, hP⟩ : ∃ P, insR (pa, pa + pb) C = P := ⟨_, rfl⟩
  obtain ⟨Q, hQ⟩ : ∃ Q, insR (pc, pc + pd) C = Q := ⟨_, rfl⟩
  rw [hP] at pl P0
  rw [hQ] at ql Q0
  have sl := ins_len (pc, pc + pd) P
  have S0 := Lib.hid (insL_ok P0.out.1 HY.out)
  obtain ⟨S, hS⟩ : ∃ S, insR (pc, pc + pd) P = S := ⟨_, rfl⟩
  rw [hS] at sl S0
  have T0 := insL_ok Q0.out.1 HX.out
  have A1 := insL_ok S0.out.1 HX.out
  have HT := Lib.hid (ok_ext T0.1 S0.out.1 (fun n => by rw [T0.2 n, S0.out.2 n, P0.out.2 n, Q0.out.2 n]; exact or_left_comm))
  have HG := Lib.hid (ok_ext A1.1 S0.out.1 (fun n => by rw [A1.2 n, S0.out.2 n, P0.out.2 n]; by_cases c : inR (pa, pa + pb) n <;> simp [c]))
  have HP := Lib.hid hP
  have HQ := Lib.hid hQ
  have HS := Lib.hid hS
  clear T0 A1 hP hQ hS
  go_wp2_with (first
    | (go_at_call 9
       refine (tell_any _).mono ?_
       rintro e w9 ⟨rfl, hb9⟩
       have HB9 := Lib.hid hb9
       clear hb9)
    | (go_at_call 10
       (with_reducible refine (same_any _ _ _ _ _ S _ (R7.out.on (bt HB8.out (bt HB9.out HB10.out))) (R8.out.on (bt HB9.out HB10.out)) rfl (by omega)).mono ?_)
       rintro e w11 ⟨rfl, hb11⟩
       have HB11 := Lib.hid hb11
       clear hb11)
    | (go_at_call 10
       (with_reducible refine (same_any _ _ _ _ _ S _ (R5.out.on (bt HB6.out (bt HB7.out (bt HB8.out HB9.out)))) (R7.out.on (bt HB8.out HB9.out)) rfl (by omega)).mono ?_)
       rintro e w10 ⟨rfl, hb10⟩
       have HB10 := Lib.hid hb10
       clear hb10)
    | (go_at_call 8
       (with_reducible refine (add_any _ _ _ S _ _ _ R7.out rfl S0.out.1 HX.out (by omega) l7 M7.out).mono ?_)
       rintro e w8 ⟨A8, c8, rfl, l8, m8, r8, hb8⟩
       rw [HG.out] at l8 r8 ⊢
       have R8 := Lib.hid r8
       have HB8 := Lib.hid hb8
       clear hb8 r8 m8)
    | (go_at_call 8
       (with_reducible refine (add_any _ _ _ Q _ _ _ R6.out rfl Q0.out.1 HX.out (by omega) l6 M6.out).mono ?_)
       rintro e w7 ⟨A7, c7, rfl, l7, m7, r7, hb7⟩
       rw [HT.out] at l7 r7 ⊢
       have R7 := Lib.hid r7
       have M7 := Lib.hid m7
       have HB7 := Lib.hid hb7
       have r0 := (hb7.cell (Nat.lt_of_lt_of_le z1 H6.out)).trans q0
       have r1 := (hb7.cell (Nat.lt_of_lt_of_le z1 H6.out)).trans q1
       clear hb7 r7 m7)
    | (go_at_call 8
       (with_reducible refine (add_any _ _ _ C _ _ _ (R0.out.on (bt3 HB3.out HB4.out HB5.out)) rfl O0.out HY.out (by omega) l0 M0.out).mono ?_)
       rintro e w6 ⟨A6, c6, rfl, l6, m6, r6, hb6⟩
       rw [HQ.out] at l6 r6 ⊢
       have R6 := Lib.hid r6
       have M6 := Lib.hid m6
       have HB6 := Lib.hid hb6
       have H6 := Lib.hid (Nat.le_trans H5.out hb6.size)
       have q0 := (hb6.cell (Nat.lt_of_lt_of_le z1 H5.out)).trans p0
       have q1 := (hb6.cell (Nat.lt_of_lt_of_le z1 H5.out)).trans p1
       clear hb6 r6 m6)
    | (go_at_call 8
       (with_reducible refine (add_any _ _ _ P _ _ _ R4.out rfl P0.out.1 HY.out (by omega) l4 M4.out).mono ?_)
       rintro e w5 ⟨A5, c5, rfl, l5, m5, r5, hb5⟩
       rw [HS.out] at l5 r5 ⊢
       have R5 := Lib.hid r5
       have HB5 := Lib.hid hb5
       have H5 := Lib.hid (Nat.le_trans H4.out hb5.size)
       have p0 := (hb5.cell (Nat.lt_of_lt_of_le z1 H4.out)).trans o0
       have p1 := (hb5.cell (Nat.lt_of_lt_of_le z1 H4.out)).trans o1
       have p2 := (hb5.cell (Nat.lt_of_lt_of_le z0 H4.out)).trans o2
       have p3 := (hb5.cell (Nat.lt_of_lt_of_le z0 H4.out)).trans o3
       clear hb5 r5 m5)
    | (go_at_call 8
       (with_reducible refine (add_any _ _ _ C _ _ _ (R0.out.on HB3.out) rfl O0.out HX.out (by omega) l0 M0.out).mono ?_)
       rintro e w4 ⟨A4, c4, rfl, l4, m4, r4, hb4⟩
       rw [HP.out] at l4 r4 ⊢
       have R4 := Lib.hid r4
       have M4 := Lib.hid m4
       have HB4 := Lib.hid hb4
       have H4 := Lib.hid hb4.size
       have o0 := (hb4.cell z1).trans e0
       have o1 := (hb4.cell z1).trans e1
       have o2 := (hb4.cell z0).trans e2
       have o3 := (hb4.cell z0).trans e3
       clear hb4 r4 m4))
  go_ret
  exact ⟨rfl, bt HW3.out (bt HB4.out (bt HB5.out (bt HB6.out (bt HB7.out (bt HB8.out (bt HB9.out (bt HB10.out HB11.out)))))))⟩
end Go.Proofs.Ytockfejaijdmjab
