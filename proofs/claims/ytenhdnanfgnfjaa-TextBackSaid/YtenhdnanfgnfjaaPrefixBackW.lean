/- The walk of PrefixBack. -/
import Derived.Test.YtenhdnanfgnfjaaPxNot
import Derived.Test.YtenhdnanfgnfjaaPxEnc
import Derived.Test.YtenhdnanfgnfjaaPxDec
import Derived.Test.YtenhdnanfgnfjaaPxLawW
import Derived.Test.YtenhdnanfgnfjaaPick
import Derived.Test.YtenhdnanfgnfjaaVar
import Derived.Test.YtenhdnanfgnfjaaApp
import Derived.BigQuiet
namespace Go.Proofs.Ytenhdnanfgnfjaa
set_option linter.unusedVariables false
open Go.RowKit P

theorem full_top (w : Int) (hw : 1 ≤ w ∧ w ≤ 8) : (255 : Int) % (topW w + 1) ≠ 0 := by
  revert w
  exact eight (by decide) (by decide) (by decide) (by decide) (by decide) (by decide) (by decide) (by decide)
theorem own0P (w : World) : (w.alloc (.cells #[] 5)).ownsRow w.heap.size 5 1 (.slice (some ⟨w.heap.size, 0, none⟩) 0 0) 0 [] :=
  ⟨rfl, .inr ⟨w.heap.size, 0, #[], rfl, Nat.le_refl _, heap_alloc_new w (.cells #[] 5), Nat.le_refl _, by unfold maxLen; omega, rfl, rfl⟩⟩
theorem row0P {w : World} {A : Option Addr} {X : List Int} (h : BRow w w.heap.size A X) : BRow (w.alloc (.cells #[] 5)) w.heap.size A X := h.below ((Below.refl _ _).alloc (Nat.le_refl _) _)
/-- the first byte, its own bits taken away, is what was laid ahead -/
theorem px_first {c w m : Int} (h0 : 0 ≤ c) (h1 : c < 256) (hw : 1 ≤ w ∧ w ≤ 8) (hF : pxF c w m = 0) : 0 ≤ (pxL c w m).getD 0 0 ∧ (pxL c w m).getD 0 0 < 256 ∧ bits .andNot .u8 ((pxL c w m).getD 0 0) (topW w) = c := by
  obtain ⟨a, b, m0, m1, hz⟩ := pxF_ok hF
  have t := topW_in w
  have f := first_in h0 h1 hz
  have key : ∀ x, 0 ≤ x → x ≤ topW w → 0 ≤ c + x ∧ c + x < 256 ∧ bits .andNot .u8 (c + x) (topW w) = c := fun x x0 x1 => by
    refine ⟨by omega, by omega, ?_⟩
    rw [not_top (c + x) (by omega) (by omega) w hw, first_mod hz x0 x1]
    omega
  unfold pxL
  split
  · exact key m m0 (by omega)
  · exact key (topW w) (by omega) (by omega)

set_option maxHeartbeats 1000000 in
theorem prefixBack_walk (f wd n : Int) (A : Option Addr) (len cap : Nat) (z : List Int) (at_ : Int) (W : World) (h : InRow W A len cap z) (hreach : cap ≤ 140737488351232) :
    Calls Try.prog 5 #[.int .i64 f, .int .i64 wd, .int .i64 n, .slice A len cap, .int .i64 at_] W fun e w' => e = .returned (.bool true) ∧ Below W.heap.size W w' := by
  obtain ⟨hb, hl, hc, hm⟩ := h.brow
  have hbs := in_bsl h
  obtain ⟨zs, hz⟩ : ∃ zs, z.take len = zs := ⟨_, rfl⟩
  rw [hz] at hb hl hbs
  obtain ⟨wi, hwi⟩ : ∃ wi, 1 + wd % 8 = wi := ⟨_, rfl⟩
  have hw : 1 ≤ wi ∧ wi ≤ 8 := by omega
  obtain ⟨m, hm0, hm1, hms⟩ : ∃ m, 0 ≤ m ∧ m ≤ 4611686018427387903 ∧ ((f % 3 = 0 ∧ n % 300 = m) ∨ (f % 3 ≠ 0 ∧ num n = m)) := by
    by_cases q : f % 3 = 0
    · exact ⟨_, by omega, by omega, .inl ⟨q, rfl⟩⟩
    · exact ⟨num n, (num_bd n).1, (num_bd n).2, .inr ⟨q, rfl⟩⟩
  obtain ⟨hc1, hc2, hc3⟩ := not_in (f % 256) (by omega) (by omega) wi hw
  have hnot := not_top (f % 256) (by omega) (by omega) wi hw
  have hshl := shl_top wi hw
  obtain ⟨c, hcc⟩ : ∃ c, f % 256 - f % 256 % (topW wi + 1) = c := ⟨_, rfl⟩
  rw [hcc] at hnot hc1 hc2 hc3
  have hF : pxF c wi m = 0 := by unfold pxF; rw [if_neg (by omega), if_neg (by omega)]
  have hG : pxF 255 wi m = 3 := by unfold pxF; rw [if_neg (by omega), if_pos (full_top wi hw)]
  have hfst := px_first hc1 hc2 hw hF
  have HDEC := Lib.hid (px_back hF zs)
  have HCUT := Lib.hid (fun j hj => px_cut hF j hj)
  have hX0 := (pxL_len hF).1
  have hX10 := (pxL_len hF).2
  have hXb := pxL_byt' hc1 hc2 hF
  have E1 := Lib.hid (fun w => pxEnc_any.enc c wi m w hc1 hc2 (by omega) (by omega))
  have E2 := Lib.hid (fun w => pxEnc_any.enc 255 wi m w (by omega) (by omega) (by omega) (by omega))
  unfold PxPost at E1 E2
  rw [hF] at E1
  rw [hG] at E2
  simp only [if_pos] at E1
  obtain ⟨X, hX⟩ : ∃ X, pxL c wi m = X := ⟨_, rfl⟩
  rw [hX] at HDEC HCUT hX0 hX10 hXb E1 hfst
  obtain ⟨T, hT⟩ : ∃ T, topW wi = T := ⟨_, rfl⟩
  rw [hT] at hnot hshl hc3 hfst
  obtain ⟨x0, hx0⟩ : ∃ x0, X.getD 0 0 = x0 := ⟨_, rfl⟩
  have HX0 := Lib.hid hx0
  rw [hx0] at hfst
  obtain ⟨hx01, hx02, hfirst⟩ := hfst
  have HDc := Lib.hid (fun v b w hv hl => pxDec_any v b wi w hv hl (by omega) (by omega))
  obtain ⟨k, rfl⟩ : ∃ k : Nat, wi = k := ⟨wi.toNat, by omega⟩
  rw [Int.toNat_natCast] at hshl
  have PK := Lib.hid (fun w => picked_any wd 8 (by decide) (by decide) w)
  have PN := Lib.hid (fun w => number_any n w)
  have P3 := Lib.hid (fun w => picked_any f 3 (by decide) (by decide) w)
  have P300 := Lib.hid (fun w => picked_any n 300 (by decide) (by decide) w)
  have P256 := Lib.hid (fun w => picked_any f 256 (by decide) (by decide) w)
  obtain ⟨nf, hnf⟩ : ∃ nf, f % 256 = nf := ⟨_, rfl⟩
  rw [hnf] at hnot P256
  have nf0 : 0 ≤ nf ∧ nf < 256 := by omega
  obtain ⟨i0, hi0, hz0, hz1, hz2⟩ := info_parts infoB1
  have HI := Lib.hid hi0
  have HZ := Lib.hid hz0
  have HZ1 := Lib.hid hz1
  have HZ2 := Lib.hid hz2
  have HR := Lib.hid hb
  have HL := Lib.hid hl
  have HXB := Lib.hid hXb
  have hn : A = none → cap = 0 := fun e => by subst e; rcases h with ⟨_, _, e, _⟩ | ⟨x, e, _⟩ <;> first | exact e | cases e
  have HN := Lib.hid hn
  obtain ⟨j, hj, hjl⟩ : ∃ j : Nat, at_ % (X.length : Int) = j ∧ j < X.length := ⟨(at_ % (X.length : Int)).toNat, by have := Int.emod_nonneg at_ (show (X.length : Int) ≠ 0 by omega); omega, by have := Int.emod_lt_of_pos at_ (show (0 : Int) < X.length by omega); have := Int.emod_nonneg at_ (show (X.length : Int) ≠ 0 by omega); omega⟩
  have HP : Hid (∀ w, Calls Try.prog 16 #[.int .i64 at_, .int .i64 (X.length : Int)] w fun e w' => e = .returned (.int .i64 j) ∧ w = w') := Lib.hid (fun w => by
    have := picked_any at_ X.length (by omega) (by omega) w
    rwa [hj] at this)
  have HXL := Lib.hid (show (X ++ zs).length = X.length + len by rw [List.length_append, hl])
  clear h hz hcc hnf hX hT hx0 hF hG hXb hi0 hz0 hz1 hz2 hb hl hn hj hbs hc3 hc1 hc2
  rcases hms with ⟨q, hm'⟩ | ⟨q, hm'⟩
  · have e3 : (f % 3 == 0) = true := by simp [q]
    rw [hm'] at P300
    clear q hm'
    go_enter Try.func5, Try.ntmps5
    go_wp2_with fail
    refine (PK.out _).mono ?_
    rintro e w' ⟨rfl, rfl⟩
    go_wp2_with fail
    refine (PN.out _).mono ?_
    rintro e w' ⟨rfl, rfl⟩
    go_wp2_with fail
    refine (P3.out _).mono ?_
    rintro e w' ⟨rfl, rfl⟩
    go_wp2_with fail
    refine (P300.out _).mono ?_
    rintro e w' ⟨rfl, rfl⟩
    go_wp2_with fail
    go_quiet ((go_at_call 16; exact Calls.quiet_of_same ((P256.out _).mono fun _ _ ⟨a, b⟩ => ⟨a, b.symm⟩)))
    rename_i nq
    have B1 := Lib.hid (Go.below_drewN (Below.refl W.heap.size W) nq)
    obtain ⟨w1, hw1⟩ : ∃ w1, W.drewN nq = w1 := ⟨_, rfl⟩
    rw [hw1] at B1 ⊢
    clear hw1 PK PN P3 P300 P256 hnot e3
    go_wp2_with fail
    refine (E1.out _).mono ?_
    rintro e w3 ⟨b3, d3, rfl, h3⟩
    have B3 := Lib.hid (B1.out.trans (b3.mono B1.out.size))
    obtain ⟨A3, c3, rfl, hc3, hm3, hn3, hr3⟩ := h3.ex
    have HR3 := Lib.hid hr3
    have HN3 := Lib.hid hn3
    have O0 := Lib.hid (own0P w3)
    have R1 := Lib.hid (row0P hr3)
    clear b3 h3 hr3 hn3 E1
    go_wp2_with (first
      | (at_builtin
         refine wpList_app _ rfl (.tmp 49) (.tmp 50) _ rfl w3.heap.size 5 i0 Try.underlying22 HI.out HZ.out HZ1.out HZ2.out _ 0 [] rfl O0.out w3.heap.size A3 X.length c3 X rfl R1.out rfl HN3.out (by omega) (by simp) ?_
         intro v4 w4 own4 g4 at4
         simp only [Nat.zero_add, List.nil_append] at own4
         have B4 : Hid (Below w3.heap.size w3 w4) := Lib.hid (((Below.refl _ _).alloc (Nat.le_refl _) _).grown g4 (by simp) (fun k h => by cases h; exact Nat.le_refl _))
         have O4 := Lib.hid own4
         have sz4 : w3.heap.size + 1 ≤ w4.heap.size := by have := g4.size; simpa using this
         clear own4 g4 at4
         have R4 : Hid (BRow w4 W.heap.size A zs) := Lib.hid ((HR.out.below B3.out).below (B4.out.mono B3.out.size)))
      | (at_builtin
         refine wpList_app _ rfl (.tmp 51) (.tmp 52) _ rfl w3.heap.size 5 i0 Try.underlying22 HI.out HZ.out HZ1.out HZ2.out v4 X.length _ rfl O4.out W.heap.size A len cap zs rfl R4.out HL.out HN.out (by omega) (by omega) ?_
         intro v5 w5 own5 g5 at5
         have O5 := Lib.hid own5
         have G5 := Lib.hid g5
         clear own5 g5 at5))
    have B5 : Hid (Below w3.heap.size w4 w5) := Lib.hid ((Below.refl _ _).grown G5.out (by have := B4.out.size; omega) (fun k hk => (O4.out.lt k hk).1))
    have O6 := O5.out
    rw [← List.map_append] at O6
    have V5 := own_bsl O6 (Byt.append HXB.out HR.out.1)
    have b45 := B4.out.trans B5.out
    have B6 := Lib.hid (B3.out.trans (b45.mono B3.out.size))
    have HR6 := Lib.hid (HR3.out.on b45)
    clear O6 O5 G5 b45 O4 R4 R1 O0
    refine (HDc.out v5 (X ++ zs) _ V5 (by have := HXL.out; omega)).mono ?_
    rintro e w7 ⟨rfl, rfl⟩
    rw [HDEC.out]
    unfold pxRV
    clear V5
    go_wp2_with (go_at_call 16; refine (HP.out _).mono ?_; rintro e w' ⟨rfl, rfl⟩)
    have hjc : j ≤ c3 := by omega
    have hjt : (X.take j).length = j := by rw [List.length_take]; omega
    refine (HDc.out (.slice A3 j c3) (X.take j) _ ⟨A3, c3, by rw [hjt], by omega, hm3, HN3.out, HR6.out.take j⟩ (by omega)).mono ?_
    rintro e w8 ⟨rfl, rfl⟩
    rw [HCUT.out j hjl]
    unfold pxRV
    clear hjt hjc
    go_wp2_with fail
    refine (E2.out _).mono ?_
    rintro e w9 ⟨b9, d9, rfl, _⟩
    have B9 := Lib.hid (B6.out.trans (b9.mono B6.out.size))
    obtain ⟨g, off, hA3, hg, hcell⟩ := HR6.out.2 hX0
    have hc0 := hcell 0 hX0
    rw [HX0.out, Nat.add_zero] at hc0
    have hc9 := (b9.cell (p := ⟨g, off, none⟩) hg).trans hc0
    subst hA3
    clear b9 hcell hc0
    go_wp2_with fail
    go_quiet (fail)
    go_wp2_with fail
    go_ret
    exact ⟨by first | rfl | simp, Go.below_drewN B9.out _⟩
  · have e3 : (f % 3 == 0) = false := by simp [q]
    rw [hm'] at PN
    clear q hm'
    go_enter Try.func5, Try.ntmps5
    go_wp2_with fail
    refine (PK.out _).mono ?_
    rintro e w' ⟨rfl, rfl⟩
    go_wp2_with fail
    refine (PN.out _).mono ?_
    rintro e w' ⟨rfl, rfl⟩
    go_wp2_with fail
    refine (P3.out _).mono ?_
    rintro e w' ⟨rfl, rfl⟩
    go_wp2_with fail
    go_quiet ((go_at_call 16; exact Calls.quiet_of_same ((P256.out _).mono fun _ _ ⟨a, b⟩ => ⟨a, b.symm⟩)))
    rename_i nq
    have B1 := Lib.hid (Go.below_drewN (Below.refl W.heap.size W) nq)
    obtain ⟨w1, hw1⟩ : ∃ w1, W.drewN nq = w1 := ⟨_, rfl⟩
    rw [hw1] at B1 ⊢
    clear hw1 PK PN P3 P300 P256 hnot e3
    go_wp2_with fail
    refine (E1.out _).mono ?_
    rintro e w3 ⟨b3, d3, rfl, h3⟩
    have B3 := Lib.hid (B1.out.trans (b3.mono B1.out.size))
    obtain ⟨A3, c3, rfl, hc3, hm3, hn3, hr3⟩ := h3.ex
    have HR3 := Lib.hid hr3
    have HN3 := Lib.hid hn3
    have O0 := Lib.hid (own0P w3)
    have R1 := Lib.hid (row0P hr3)
    clear b3 h3 hr3 hn3 E1
    go_wp2_with (first
      | (at_builtin
         refine wpList_app _ rfl (.tmp 49) (.tmp 50) _ rfl w3.heap.size 5 i0 Try.underlying22 HI.out HZ.out HZ1.out HZ2.out _ 0 [] rfl O0.out w3.heap.size A3 X.length c3 X rfl R1.out rfl HN3.out (by omega) (by simp) ?_
         intro v4 w4 own4 g4 at4
         simp only [Nat.zero_add, List.nil_append] at own4
         have B4 : Hid (Below w3.heap.size w3 w4) := Lib.hid (((Below.refl _ _).alloc (Nat.le_refl _) _).grown g4 (by simp) (fun k h => by cases h; exact Nat.le_refl _))
         have O4 := Lib.hid own4
         have sz4 : w3.heap.size + 1 ≤ w4.heap.size := by have := g4.size; simpa using this
         clear own4 g4 at4
         have R4 : Hid (BRow w4 W.heap.size A zs) := Lib.hid ((HR.out.below B3.out).below (B4.out.mono B3.out.size)))
      | (at_builtin
         refine wpList_app _ rfl (.tmp 51) (.tmp 52) _ rfl w3.heap.size 5 i0 Try.underlying22 HI.out HZ.out HZ1.out HZ2.out v4 X.length _ rfl O4.out W.heap.size A len cap zs rfl R4.out HL.out HN.out (by omega) (by omega) ?_
         intro v5 w5 own5 g5 at5
         have O5 := Lib.hid own5
         have G5 := Lib.hid g5
         clear own5 g5 at5))
    have B5 : Hid (Below w3.heap.size w4 w5) := Lib.hid ((Below.refl _ _).grown G5.out (by have := B4.out.size; omega) (fun k hk => (O4.out.lt k hk).1))
    have O6 := O5.out
    rw [← List.map_append] at O6
    have V5 := own_bsl O6 (Byt.append HXB.out HR.out.1)
    have b45 := B4.out.trans B5.out
    have B6 := Lib.hid (B3.out.trans (b45.mono B3.out.size))
    have HR6 := Lib.hid (HR3.out.on b45)
    clear O6 O5 G5 b45 O4 R4 R1 O0
    refine (HDc.out v5 (X ++ zs) _ V5 (by have := HXL.out; omega)).mono ?_
    rintro e w7 ⟨rfl, rfl⟩
    rw [HDEC.out]
    unfold pxRV
    clear V5
    go_wp2_with (go_at_call 16; refine (HP.out _).mono ?_; rintro e w' ⟨rfl, rfl⟩)
    have hjc : j ≤ c3 := by omega
    have hjt : (X.take j).length = j := by rw [List.length_take]; omega
    refine (HDc.out (.slice A3 j c3) (X.take j) _ ⟨A3, c3, by rw [hjt], by omega, hm3, HN3.out, HR6.out.take j⟩ (by omega)).mono ?_
    rintro e w8 ⟨rfl, rfl⟩
    rw [HCUT.out j hjl]
    unfold pxRV
    clear hjt hjc
    go_wp2_with fail
    refine (E2.out _).mono ?_
    rintro e w9 ⟨b9, d9, rfl, _⟩
    have B9 := Lib.hid (B6.out.trans (b9.mono B6.out.size))
    obtain ⟨g, off, hA3, hg, hcell⟩ := HR6.out.2 hX0
    have hc0 := hcell 0 hX0
    rw [HX0.out, Nat.add_zero] at hc0
    have hc9 := (b9.cell (p := ⟨g, off, none⟩) hg).trans hc0
    subst hA3
    clear b9 hcell hc0
    go_wp2_with fail
    go_quiet (fail)
    go_wp2_with fail
    go_ret
    exact ⟨by first | rfl | simp, Go.below_drewN B9.out _⟩
end Go.Proofs.Ytenhdnanfgnfjaa
