/- RangesSet's walk. -/
import Derived.Test.YtockfejaijdmjaaRngSet
import Derived.Test.YtockfejaijdmjaaRngTell
import Derived.Test.YtockfejaijdmjaaOpen
import Derived.StillTailTactics
namespace Go.Proofs.Ytockfejaijdmjaa
set_option linter.unusedVariables false
open Go.RowKit P

theorem one_set {w : World} {g : Nat} {u0 u1 v1 : Value} {t : TypeId} (h : w.heap[g]? = some (.cells #[u0, u1] t (0, 0))) :
    ((w.setCell ⟨g, 1, none⟩ v1).drew).heap[g]? = some (.cells #[u0, v1] t (0, 0)) := by
  show (w.setCell ⟨g, 1, none⟩ v1).heap[g]? = _
  simp [World.setCell, Array.getElem?_modify, h]

theorem hasB_of {ps : List (Int × Int)} {n : Int} {b : Bool} (h : mem ps n ↔ b = true) : hasB ps n = b := by
  unfold hasB
  cases b with
  | true => exact decide_eq_true (h.2 rfl)
  | false => exact decide_eq_false (fun k => by cases h.1 k)
theorem hasB_iff {ps : List (Int × Int)} {n : Int} {b : Bool} (h : hasB ps n = b) : mem ps n ↔ b = true := by
  subst h
  unfold hasB
  simp

set_option maxHeartbeats 3200000 in
theorem rangesSet_walk (A : Option Addr) (len cap : Nat) (rs : List RawT) (a b n : Int) (w : World) (h : RawRow w w.heap.size A rs) (hl : rs.length = len) (hlc : len ≤ cap) (hcm : cap ≤ maxLen) :
    Calls Try.prog 7 #[.slice A len cap, .int .i64 a, .int .i64 b, .int .i64 n] w fun e w' => e = .returned (.bool true) ∧ Below w.heap.size w w' := by
  have HR := Lib.hid h
  have HL := Lib.hid hl
  obtain ⟨pa, hpa⟩ : ∃ x, a % 60 = x := ⟨_, rfl⟩
  obtain ⟨pb, hpb⟩ : ∃ x, b % 9 = x := ⟨_, rfl⟩
  obtain ⟨pk, hpk⟩ : ∃ x, n % 80 = x := ⟨_, rfl⟩
  have a0 : 0 ≤ pa := by omega
  have a1 : pa < 60 := by omega
  have b0 : 0 ≤ pb := by omega
  have b1 : pb < 9 := by omega
  have k0 : 0 ≤ pk := by omega
  have k1 : pk < 80 := by omega
  have HA := Lib.hid hpa
  have HB := Lib.hid hpb
  have HKK := Lib.hid hpk
  have HX := Lib.hid (show okR (pa, pa + pb) from ⟨a0, by simp only; omega, by simp only; omega⟩)
  clear h hl hpa hpb hpk
  go_enter Try.func7, Try.ntmps7
  go_wp2_with (first
    | (go_at_call 22; refine (set_any _ _ _ _ _ HR.out HL.out hlc hcm).mono ?_; rintro e w1 ⟨C, A0, c0, rfl, ok0, l20, l0, m0, r0, hb0⟩; have O0 := Lib.hid ok0; have R0 := Lib.hid r0; have M0 := Lib.hid m0; have H0 := Lib.hid hb0; clear ok0 r0 m0 hb0)
    | (go_at_call 23; refine (picked_any _ _ (by omega) (by omega) _).mono ?_; rintro e w' ⟨rfl, rfl⟩; simp only [HA.out, HB.out, HKK.out]))
  have hx : (w1.alloc (.cells #[.int .i64 pa, .int .i64 0] 29)).heap[w1.heap.size]? = some (.cells #[.int .i64 pa, .int .i64 0] 29 (0, 0)) := by show (w1.heap.push _)[w1.heap.size]? = _; simp
  have hb1 := (Below.refl w1.heap.size w1).alloc (Nat.le_refl _) (.cells #[.int .i64 pa, .int .i64 0] 29)
  generalize w1.alloc (.cells #[.int .i64 pa, .int .i64 0] 29) = W1 at hx hb1 ⊢
  have e0 := cell_of_row W1 w1.heap.size 0 _ _ _ hx
  have e1 := cell_of_row W1 w1.heap.size 1 _ _ _ hx
  simp at e0 e1
  have f1 := frozen_of_row hx 1
  have HX1 := Lib.hid hx
  have HB1 := Lib.hid hb1
  clear hx hb1
  go_still_tail 6, (by kernel_rfl)
  still_call ((picked_any _ _ (by omega) (by omega) _).mono fun e w' h => ⟨h.1, h.2.symm⟩)
  simp only [HB.out]
  repeat still_step
  refine wpStill_nil ?_
  change wpList _ _ _ _ _ W1.drew
  go_wp2_with fail
  have hx3 : (W1.setCell ⟨w1.heap.size, 1, none⟩ (.int .i64 (pa + pb))).drew.heap[w1.heap.size]? = some (.cells #[.int .i64 pa, .int .i64 (pa + pb)] 29 (0, 0)) := one_set HX1.out
  have hb3 := (HB1.out.setCell (p := ⟨w1.heap.size, 1, none⟩) (Nat.le_refl _) (.int .i64 (pa + pb))).drew
  clear e0 e1 f1
  generalize (W1.setCell ⟨w1.heap.size, 1, none⟩ (.int .i64 (pa + pb))).drew = W3 at hx3 hb3 ⊢
  have e0 := cell_of_row W3 w1.heap.size 0 _ _ _ hx3
  have e1 := cell_of_row W3 w1.heap.size 1 _ _ _ hx3
  simp at e0 e1
  have z0 := World.block_lt_of_cell? W3 _ e0
  have HB3 := Lib.hid hb3
  have HW3 := Lib.hid (H0.out.trans (hb3.mono H0.out.size))
  clear hx3 hb3 HX1 HB1
  have u1 := ins_len (pa, pa + pb) C
  have v1 := cut_len HX.out O0.out
  have U0 := Lib.hid (insL_ok O0.out HX.out)
  have V0 := Lib.hid (cutL_ok O0.out HX.out)
  obtain ⟨U, hU⟩ : ∃ U, insR (pa, pa + pb) C = U := ⟨_, rfl⟩
  obtain ⟨V, hV⟩ : ∃ V, cutL (pa, pa + pb) C = V := ⟨_, rfl⟩
  rw [hU] at u1 U0
  rw [hV] at v1 V0
  have HU := Lib.hid hU
  have HV := Lib.hid hV
  have ckc := Lib.hid (show ckV C = 0 from if_pos O0.out)
  have cku := Lib.hid (show ckV U = 0 from if_pos U0.out.1)
  have ckv := Lib.hid (show ckV V = 0 from if_pos V0.out.1)
  clear hU hV
  obtain ⟨x, g1⟩ : ∃ x, decide (pa ≤ pk) = x := ⟨_, rfl⟩
  obtain ⟨y, g2⟩ : ∃ y, decide (pk ≤ pa + pb) = y := ⟨_, rfl⟩
  obtain ⟨sb, hsb⟩ : ∃ sb, hasB C pk = sb := ⟨_, rfl⟩
  have hin : inR (pa, pa + pb) pk ↔ (x && y) = true := by rw [← g1, ← g2]; simp [inR]
  have hub := hasB_of (b := (x && y) || sb) (by rw [U0.out.2 pk, hin, hasB_iff hsb]; cases x <;> cases y <;> cases sb <;> simp)
  have hvb := hasB_of (b := sb && !(x && y)) (by rw [V0.out.2 pk, hin, hasB_iff hsb]; cases x <;> cases y <;> cases sb <;> simp)
  have Hsb := Lib.hid hsb
  have Hub := Lib.hid hub
  have Hvb := Lib.hid hvb
  clear hin hub hvb hsb
  cases x <;> cases y <;> cases sb
  all_goals
    simp only [Bool.false_and, Bool.true_and, Bool.and_false, Bool.and_true, Bool.false_or, Bool.true_or, Bool.or_false, Bool.or_true, Bool.not_false, Bool.not_true] at Hub Hvb
    go_wp2_with (first
      | (go_at_call 23; refine (picked_any _ _ (by omega) (by omega) _).mono ?_; rintro e w' ⟨rfl, rfl⟩; simp only [HKK.out])
      | (go_at_call 13
         (with_reducible refine (add_any _ _ _ C _ _ _ (R0.out.on HB3.out) rfl O0.out HX.out (by omega) l0 M0.out).mono ?_)
         rintro e w4 ⟨A4, c4, rfl, l4, m4, r4, hb4⟩
         rw [HU.out] at l4 r4 ⊢
         have R4 := Lib.hid r4
         have HB4 := Lib.hid hb4
         have o0 := (hb4.cell z0).trans e0
         have o1 := (hb4.cell z0).trans e1
         clear hb4 r4 m4)
      | (go_at_call 16
         (with_reducible refine (cut_any _ _ _ C _ _ _ (R0.out.on (HB3.out.trans (HB4.out.mono HB3.out.size))) rfl O0.out HX.out (by omega)).mono ?_)
         rintro e w5 ⟨A5, c5, rfl, l5, m5, r5, hb5⟩
         rw [HV.out] at l5 r5 ⊢
         have R5 := Lib.hid r5
         have HB5 := Lib.hid hb5
         have HC5 := Lib.hid ((HB3.out.trans (HB4.out.mono HB3.out.size)).trans (hb5.mono (HB3.out.trans (HB4.out.mono HB3.out.size)).size))
         clear hb5 r5 m5)
      | (go_at_call 24
         refine (tell_any _).mono ?_
         rintro e w6 ⟨rfl, hb6⟩
         have HB6 := Lib.hid hb6
         clear hb6)
      | (go_at_call 9
         (with_reducible refine (check_any _ _ _ V _ (R5.out.on (bt HB6.out (bt HB7.out HB8.out))) rfl (by omega)).mono ?_)
         rintro e w9 ⟨rfl, hb9⟩
         have HB9 := Lib.hid hb9
         clear hb9
         rw [ckv.out])
      | (go_at_call 9
         (with_reducible refine (check_any _ _ _ U _ (R4.out.on (bt HB5.out (bt HB6.out HB7.out))) rfl (by omega)).mono ?_)
         rintro e w8 ⟨rfl, hb8⟩
         have HB8 := Lib.hid hb8
         clear hb8
         rw [cku.out])
      | (go_at_call 9
         (with_reducible refine (check_any _ _ _ C _ (R0.out.on (HC5.out.trans (HB6.out.mono HC5.out.size))) rfl (by omega)).mono ?_)
         rintro e w7 ⟨rfl, hb7⟩
         have HB7 := Lib.hid hb7
         clear hb7
         rw [ckc.out])
      | (go_at_call 25
         (with_reducible refine (khas_any _ _ _ C _ _ (R0.out.on (HD11.out.trans ((bt HB11.out HB12.out).mono HD11.out.size))) rfl O0.out (by omega)).mono ?_)
         rintro e w13 ⟨rfl, hb13⟩
         have HB13 := Lib.hid hb13
         clear hb13
         rw [Hsb.out])
      | (go_at_call 25
         (with_reducible refine (khas_any _ _ _ V _ _ (R5.out.on (bt HB6.out (bt HB7.out (bt HB8.out (bt HB9.out (bt HB10.out HB11.out)))))) rfl V0.out.1 (by omega)).mono ?_)
         rintro e w12 ⟨rfl, hb12⟩
         have HB12 := Lib.hid hb12
         clear hb12
         rw [Hvb.out])
      | (go_at_call 25
         (with_reducible refine (khas_any _ _ _ C _ _ (R0.out.on HD11.out) rfl O0.out (by omega)).mono ?_)
         rintro e w11 ⟨rfl, hb11⟩
         have HB11 := Lib.hid hb11
         clear hb11
         rw [Hsb.out])
      | (go_at_call 25
         (with_reducible refine (khas_any _ _ _ U _ _ (R4.out.on (bt HB5.out (bt HB6.out (bt HB7.out (bt HB8.out HB9.out))))) rfl U0.out.1 (by omega)).mono ?_)
         rintro e w10 ⟨rfl, hb10⟩
         have HB10 := Lib.hid hb10
         have HD11 := Lib.hid (HC5.out.trans ((bt HB6.out (bt HB7.out (bt HB8.out (bt HB9.out hb10)))).mono HC5.out.size))
         clear hb10
         rw [Hub.out]))
    go_ret
    exact ⟨rfl, bt HW3.out (bt HB4.out (bt HB5.out (bt HB6.out (bt HB7.out (bt HB8.out (bt HB9.out (bt HB10.out (bt HB11.out (bt HB12.out HB13.out)))))))))⟩
end Go.Proofs.Ytockfejaijdmjaa
