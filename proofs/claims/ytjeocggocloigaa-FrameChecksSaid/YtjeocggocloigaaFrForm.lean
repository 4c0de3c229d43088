/- Contracts of package frame: inForm, Check. -/
import Derived.Test.YtjeocggocloigaaFrChk
namespace Go.Proofs.Ytjeocggocloigaa
set_option linter.unusedVariables false
open Go.RowKit P

/-- behind a block of seven cells, in a world that leaves it as it is -/
theorem seven {w w' : World} {k id off : Int} {fin : Bool} {code : Int} {r d : Value} {t : TypeId} (hb : Below (w.alloc (.cells #[.int .i64 k, .int .i64 id, .int .i64 off, .bool fin, .int .i64 code, r, d] t)).heap.size (w.alloc (.cells #[.int .i64 k, .int .i64 id, .int .i64 off, .bool fin, .int .i64 code, r, d] t)) w') :
    w'.cell? ⟨w.heap.size, 0, none⟩ = some (.int .i64 k) ∧ w'.cell? ⟨w.heap.size, 1, none⟩ = some (.int .i64 id) ∧ w'.cell? ⟨w.heap.size, 2, none⟩ = some (.int .i64 off) ∧ w'.cell? ⟨w.heap.size, 3, none⟩ = some (.bool fin) ∧ w'.cell? ⟨w.heap.size, 4, none⟩ = some (.int .i64 code) ∧ w'.cell? ⟨w.heap.size, 5, none⟩ = some r ∧ w'.cell? ⟨w.heap.size, 6, none⟩ = some d := by
  refine ⟨?_, ?_, ?_, ?_, ?_, ?_, ?_⟩ <;> exact (hb.cell (by simp)).trans (by simp)

set_option maxHeartbeats 6000000 in
theorem inForm_any (v : Value) (f : Fr) (m : Int) (w : World) (h : FrVal w w.heap.size v f) (hr6 : f.rs.length ≤ 6) :
    Calls Try.prog 16 #[v, .int .u64 m] w fun e w' => e = .returned (.bool (inFV m f)) ∧ Below w.heap.size w w' := by
  obtain ⟨r, d, rfl, hr, hd⟩ := h.ex
  obtain ⟨A', n', rfl, _, _, _, _⟩ := hd.ex
  obtain ⟨A, c, hrv, _, _, _⟩ := hr.ex
  subst hrv
  have HW := Lib.hid ((Below.refl w.heap.size w).alloc (Nat.le_refl _) (.cells #[.int .i64 f.kind, .int .i64 f.id, .int .i64 f.off, .bool f.fin, .int .i64 f.code, .slice A f.rs.length c, .slice A' f.data.length n'] 25))
  have HR := Lib.hid ((hr.below HW.out).more HW.out.size)
  have HI := Lib.hid (show inFV m f = (!(decide (0 < f.data.length) && !hasM m 32) && !(f.fin && !hasM m 4) && (decide (0 < f.rs.length) == hasM m 64) && decide (downL f.rs)) from rfl)
  have HD := Lib.hid (downL_iff f.rs)
  have HL := Lib.hid (show f.rs.reverse.length = f.rs.length by simp)
  clear hd hr h
  obtain ⟨k, id, off, fin, code, rs, data⟩ := f
  simp only at hr6 HW HR HI HD HL ⊢
  obtain ⟨n, hnn⟩ : ∃ n : Nat, data.length = n := ⟨_, rfl⟩
  rw [hnn] at HW HR HI ⊢
  clear hnn
  obtain ⟨x, hx⟩ : ∃ x, inFV m ⟨k, id, off, fin, code, rs, data⟩ = x := ⟨_, rfl⟩
  rw [hx]
  have HX := Lib.hid (HI.out.symm.trans hx)
  have HQ := Lib.hid (fun q => HR.out.below (Go.below_drewN (Below.refl _ _) q) : ∀ q, RSl _ _ _ rs)
  clear hx HI
  by_cases c1 : 0 < n ∧ hasM m 32 = false
  · obtain ⟨n1, f1⟩ := c1
    have hv := Lib.hid (show x = false by rw [← HX.out]; simp [n1, f1])
    clear HX HD HL
    go_enter Try.func16, Try.ntmps16
    go_wp2_with (go_at_call 28; refine (hasP_any _ _ _).mono ?_; rintro e w' ⟨rfl, rfl⟩)
    go_ret
    exact ⟨by rw [hv.out]; rfl, HW.out⟩
  have c1' : n = 0 ∨ (0 < n ∧ hasM m 32 = true) := by
    rcases Nat.eq_zero_or_pos n with e | e
    · exact .inl e
    · exact .inr ⟨e, by cases a : hasM m 32; exact absurd ⟨e, a⟩ c1; rfl⟩
  clear c1
  rcases c1' with rfl | ⟨n1, f1⟩
  · cases fin
    · cases f3 : hasM m 64
      · by_cases hj : 0 < rs.length
        · skip
          have hv := Lib.hid (show x = false by rw [← HX.out]; simp [f3, hj])
          clear HX HD HL
          go_enter Try.func16, Try.ntmps16
          go_wp2_with (go_at_call 28; refine (hasP_any _ _ _).mono ?_; rintro e w' ⟨rfl, rfl⟩)
          go_quiet ((go_at_call 28; exact Calls.quiet_of_same ((hasP_any _ _ _).mono fun _ _ ⟨a, b⟩ => ⟨a, b.symm⟩)))
          go_wp2
          go_ret
          exact ⟨by rw [hv.out]; rfl, Go.below_drewN HW.out _⟩
        · obtain rfl : rs = [] := List.eq_nil_of_length_eq_zero (by omega)
          clear hj
          by_cases hok : okL [].reverse
          · have hk := Lib.hid (show ckV [].reverse = 0 from if_pos hok)
            have hv := Lib.hid (show x = true by rw [← HX.out, show decide (downL []) = true from decide_eq_true (HD.out.2 hok)]; simp [f3])
            clear HX HD hok
            go_enter Try.func16, Try.ntmps16
            go_wp2_with (go_at_call 28; refine (hasP_any _ _ _).mono ?_; rintro e w' ⟨rfl, rfl⟩)
            go_quiet ((go_at_call 28; exact Calls.quiet_of_same ((hasP_any _ _ _).mono fun _ _ ⟨a, b⟩ => ⟨a, b.symm⟩)))
            go_wp2_with (first
              | (go_at_call 29; refine (clone_any _ [] _ (HQ.out _) (by first | omega | (simp <;> omega))).mono ?_; rintro e w1 ⟨u, rfl, o1, hb1⟩; have O1 := Lib.hid o1; have B1 := Lib.hid ((Go.below_drewN HW.out _).trans (hb1.mono (Go.below_drewN HW.out _).size)); obtain ⟨A1, c1, hv1, _, _, _⟩ := o1.slice; subst hv1; clear o1 hb1)
              | (go_at_call 30; refine (rev_any _ _ _ _ O1.out).mono ?_; rintro e w2 ⟨rfl, r2, hb2⟩; have R2 := Lib.hid (r2 _ _ _ rfl); have B2 := Lib.hid (B1.out.trans (hb2.mono (Go.below_drewN HW.out _).size)); clear r2 hb2)
              | (go_at_call 31; refine (check_any _ _ _ _ _ R2.out HL.out (by first | omega | (simp <;> omega))).mono ?_; rintro e w3 ⟨rfl, hb3⟩; have B3 := Lib.hid (B2.out.trans (hb3.mono B2.out.size)); clear hb3; rw [hk.out]))
            go_ret
            exact ⟨by rw [hv.out]; rfl, B3.out⟩
          · have hk := Lib.hid (show ckV [].reverse = 3 from if_neg hok)
            have hv := Lib.hid (show x = false by rw [← HX.out, show decide (downL []) = false from decide_eq_false (fun h => hok (HD.out.1 h))]; simp [f3])
            clear HX HD hok
            go_enter Try.func16, Try.ntmps16
            go_wp2_with (go_at_call 28; refine (hasP_any _ _ _).mono ?_; rintro e w' ⟨rfl, rfl⟩)
            go_quiet ((go_at_call 28; exact Calls.quiet_of_same ((hasP_any _ _ _).mono fun _ _ ⟨a, b⟩ => ⟨a, b.symm⟩)))
            go_wp2_with (first
              | (go_at_call 29; refine (clone_any _ [] _ (HQ.out _) (by first | omega | (simp <;> omega))).mono ?_; rintro e w1 ⟨u, rfl, o1, hb1⟩; have O1 := Lib.hid o1; have B1 := Lib.hid ((Go.below_drewN HW.out _).trans (hb1.mono (Go.below_drewN HW.out _).size)); obtain ⟨A1, c1, hv1, _, _, _⟩ := o1.slice; subst hv1; clear o1 hb1)
              | (go_at_call 30; refine (rev_any _ _ _ _ O1.out).mono ?_; rintro e w2 ⟨rfl, r2, hb2⟩; have R2 := Lib.hid (r2 _ _ _ rfl); have B2 := Lib.hid (B1.out.trans (hb2.mono (Go.below_drewN HW.out _).size)); clear r2 hb2)
              | (go_at_call 31; refine (check_any _ _ _ _ _ R2.out HL.out (by first | omega | (simp <;> omega))).mono ?_; rintro e w3 ⟨rfl, hb3⟩; have B3 := Lib.hid (B2.out.trans (hb3.mono B2.out.size)); clear hb3; rw [hk.out]))
            go_ret
            exact ⟨by rw [hv.out]; rfl, B3.out⟩
      · by_cases hj : 0 < rs.length
        · skip
          by_cases hok : okL rs.reverse
          · have hk := Lib.hid (show ckV rs.reverse = 0 from if_pos hok)
            have hv := Lib.hid (show x = true by rw [← HX.out, show decide (downL rs) = true from decide_eq_true (HD.out.2 hok)]; simp [f3, hj])
            clear HX HD hok
            go_enter Try.func16, Try.ntmps16
            go_wp2_with (go_at_call 28; refine (hasP_any _ _ _).mono ?_; rintro e w' ⟨rfl, rfl⟩)
            go_quiet ((go_at_call 28; exact Calls.quiet_of_same ((hasP_any _ _ _).mono fun _ _ ⟨a, b⟩ => ⟨a, b.symm⟩)))
            go_wp2_with (first
              | (go_at_call 29; refine (clone_any _ rs _ (HQ.out _) (by first | omega | (simp <;> omega))).mono ?_; rintro e w1 ⟨u, rfl, o1, hb1⟩; have O1 := Lib.hid o1; have B1 := Lib.hid ((Go.below_drewN HW.out _).trans (hb1.mono (Go.below_drewN HW.out _).size)); obtain ⟨A1, c1, hv1, _, _, _⟩ := o1.slice; subst hv1; clear o1 hb1)
              | (go_at_call 30; refine (rev_any _ _ _ _ O1.out).mono ?_; rintro e w2 ⟨rfl, r2, hb2⟩; have R2 := Lib.hid (r2 _ _ _ rfl); have B2 := Lib.hid (B1.out.trans (hb2.mono (Go.below_drewN HW.out _).size)); clear r2 hb2)
              | (go_at_call 31; refine (check_any _ _ _ _ _ R2.out HL.out (by first | omega | (simp <;> omega))).mono ?_; rintro e w3 ⟨rfl, hb3⟩; have B3 := Lib.hid (B2.out.trans (hb3.mono B2.out.size)); clear hb3; rw [hk.out]))
            go_ret
            exact ⟨by rw [hv.out]; rfl, B3.out⟩
          · have hk := Lib.hid (show ckV rs.reverse = 3 from if_neg hok)
            have hv := Lib.hid (show x = false by rw [← HX.out, show decide (downL rs) = false from decide_eq_false (fun h => hok (HD.out.1 h))]; simp [f3, hj])
            clear HX HD hok
            go_enter Try.func16, Try.ntmps16
            go_wp2_with (go_at_call 28; refine (hasP_any _ _ _).mono ?_; rintro e w' ⟨rfl, rfl⟩)
            go_quiet ((go_at_call 28; exact Calls.quiet_of_same ((hasP_any _ _ _).mono fun _ _ ⟨a, b⟩ => ⟨a, b.symm⟩)))
            go_wp2_with (first
              | (go_at_call 29; refine (clone_any _ rs _ (HQ.out _) (by first | omega | (simp <;> omega))).mono ?_; rintro e w1 ⟨u, rfl, o1, hb1⟩; have O1 := Lib.hid o1; have B1 := Lib.hid ((Go.below_drewN HW.out _).trans (hb1.mono (Go.below_drewN HW.out _).size)); obtain ⟨A1, c1, hv1, _, _, _⟩ := o1.slice; subst hv1; clear o1 hb1)
              | (go_at_call 30; refine (rev_any _ _ _ _ O1.out).mono ?_; rintro e w2 ⟨rfl, r2, hb2⟩; have R2 := Lib.hid (r2 _ _ _ rfl); have B2 := Lib.hid (B1.out.trans (hb2.mono (Go.below_drewN HW.out _).size)); clear r2 hb2)
              | (go_at_call 31; refine (check_any _ _ _ _ _ R2.out HL.out (by first | omega | (simp <;> omega))).mono ?_; rintro e w3 ⟨rfl, hb3⟩; have B3 := Lib.hid (B2.out.trans (hb3.mono B2.out.size)); clear hb3; rw [hk.out]))
            go_ret
            exact ⟨by rw [hv.out]; rfl, B3.out⟩
        · obtain rfl : rs = [] := List.eq_nil_of_length_eq_zero (by omega)
          clear hj
          have hv := Lib.hid (show x = false by rw [← HX.out]; simp [f3])
          clear HX HD HL
          go_enter Try.func16, Try.ntmps16
          go_wp2_with (go_at_call 28; refine (hasP_any _ _ _).mono ?_; rintro e w' ⟨rfl, rfl⟩)
          go_quiet ((go_at_call 28; exact Calls.quiet_of_same ((hasP_any _ _ _).mono fun _ _ ⟨a, b⟩ => ⟨a, b.symm⟩)))
          go_wp2
          go_ret
          exact ⟨by rw [hv.out]; rfl, Go.below_drewN HW.out _⟩
    · cases f2 : hasM m 4
      · skip
        have hv := Lib.hid (show x = false by rw [← HX.out]; simp [f2])
        clear HX HD HL
        go_enter Try.func16, Try.ntmps16
        go_wp2_with (go_at_call 28; refine (hasP_any _ _ _).mono ?_; rintro e w' ⟨rfl, rfl⟩)
        go_ret
        exact ⟨by rw [hv.out]; rfl, HW.out⟩
      · cases f3 : hasM m 64
        · by_cases hj : 0 < rs.length
          · skip
            have hv := Lib.hid (show x = false by rw [← HX.out]; simp [f3, hj])
            clear HX HD HL
            go_enter Try.func16, Try.ntmps16
            go_wp2_with (go_at_call 28; refine (hasP_any _ _ _).mono ?_; rintro e w' ⟨rfl, rfl⟩)
            go_quiet ((go_at_call 28; exact Calls.quiet_of_same ((hasP_any _ _ _).mono fun _ _ ⟨a, b⟩ => ⟨a, b.symm⟩)))
            go_wp2
            go_ret
            exact ⟨by rw [hv.out]; rfl, Go.below_drewN HW.out _⟩
          · obtain rfl : rs = [] := List.eq_nil_of_length_eq_zero (by omega)
            clear hj
            by_cases hok : okL [].reverse
            · have hk := Lib.hid (show ckV [].reverse = 0 from if_pos hok)
              have hv := Lib.hid (show x = true by rw [← HX.out, show decide (downL []) = true from decide_eq_true (HD.out.2 hok)]; simp [f2, f3])
              clear HX HD hok
              go_enter Try.func16, Try.ntmps16
              go_wp2_with (go_at_call 28; refine (hasP_any _ _ _).mono ?_; rintro e w' ⟨rfl, rfl⟩)
              go_quiet ((go_at_call 28; exact Calls.quiet_of_same ((hasP_any _ _ _).mono fun _ _ ⟨a, b⟩ => ⟨a, b.symm⟩)))
              go_wp2_with (first
                | (go_at_call 29; refine (clone_any _ [] _ (HQ.out _) (by first | omega | (simp <;> omega))).mono ?_; rintro e w1 ⟨u, rfl, o1, hb1⟩; have O1 := Lib.hid o1; have B1 := Lib.hid ((Go.below_drewN HW.out _).trans (hb1.mono (Go.below_drewN HW.out _).size)); obtain ⟨A1, c1, hv1, _, _, _⟩ := o1.slice; subst hv1; clear o1 hb1)
                | (go_at_call 30; refine (rev_any _ _ _ _ O1.out).mono ?_; rintro e w2 ⟨rfl, r2, hb2⟩; have R2 := Lib.hid (r2 _ _ _ rfl); have B2 := Lib.hid (B1.out.trans (hb2.mono (Go.below_drewN HW.out _).size)); clear r2 hb2)
                | (go_at_call 31; refine (check_any _ _ _ _ _ R2.out HL.out (by first | omega | (simp <;> omega))).mono ?_; rintro e w3 ⟨rfl, hb3⟩; have B3 := Lib.hid (B2.out.trans (hb3.mono B2.out.size)); clear hb3; rw [hk.out]))
              go_ret
              exact ⟨by rw [hv.out]; rfl, B3.out⟩
            · have hk := Lib.hid (show ckV [].reverse = 3 from if_neg hok)
              have hv := Lib.hid (show x = false by rw [← HX.out, show decide (downL []) = false from decide_eq_false (fun h => hok (HD.out.1 h))]; simp [f2, f3])
              clear HX HD hok
              go_enter Try.func16, Try.ntmps16
              go_wp2_with (go_at_call 28; refine (hasP_any _ _ _).mono ?_; rintro e w' ⟨rfl, rfl⟩)
              go_quiet ((go_at_call 28; exact Calls.quiet_of_same ((hasP_any _ _ _).mono fun _ _ ⟨a, b⟩ => ⟨a, b.symm⟩)))
              go_wp2_with (first
                | (go_at_call 29; refine (clone_any _ [] _ (HQ.out _) (by first | omega | (simp <;> omega))).mono ?_; rintro e w1 ⟨u, rfl, o1, hb1⟩; have O1 := Lib.hid o1; have B1 := Lib.hid ((Go.below_drewN HW.out _).trans (hb1.mono (Go.below_drewN HW.out _).size)); obtain ⟨A1, c1, hv1, _, _, _⟩ := o1.slice; subst hv1; clear o1 hb1)
                | (go_at_call 30; refine (rev_any _ _ _ _ O1.out).mono ?_; rintro e w2 ⟨rfl, r2, hb2⟩; have R2 := Lib.hid (r2 _ _ _ rfl); have B2 := Lib.hid (B1.out.trans (hb2.mono (Go.below_drewN HW.out _).size)); clear r2 hb2)
                | (go_at_call 31; refine (check_any _ _ _ _ _ R2.out HL.out (by first | omega | (simp <;> omega))).mono ?_; rintro e w3 ⟨rfl, hb3⟩; have B3 := Lib.hid (B2.out.trans (hb3.mono B2.out.size)); clear hb3; rw [hk.out]))
              go_ret
              exact ⟨by rw [hv.out]; rfl, B3.out⟩
        · by_cases hj : 0 < rs.length
          · skip
            by_cases hok : okL rs.reverse
            · have hk := Lib.hid (show ckV rs.reverse = 0 from if_pos hok)
              have hv := Lib.hid (show x = true by rw [← HX.out, show decide (downL rs) = true from decide_eq_true (HD.out.2 hok)]; simp [f2, f3, hj])
              clear HX HD hok
              go_enter Try.func16, Try.ntmps16
              go_wp2_with (go_at_call 28; refine (hasP_any _ _ _).mono ?_; rintro e w' ⟨rfl, rfl⟩)
              go_quiet ((go_at_call 28; exact Calls.quiet_of_same ((hasP_any _ _ _).mono fun _ _ ⟨a, b⟩ => ⟨a, b.symm⟩)))
              go_wp2_with (first
                | (go_at_call 29; refine (clone_any _ rs _ (HQ.out _) (by first | omega | (simp <;> omega))).mono ?_; rintro e w1 ⟨u, rfl, o1, hb1⟩; have O1 := Lib.hid o1; have B1 := Lib.hid ((Go.below_drewN HW.out _).trans (hb1.mono (Go.below_drewN HW.out _).size)); obtain ⟨A1, c1, hv1, _, _, _⟩ := o1.slice; subst hv1; clear o1 hb1)
                | (go_at_call 30; refine (rev_any _ _ _ _ O1.out).mono ?_; rintro e w2 ⟨rfl, r2, hb2⟩; have R2 := Lib.hid (r2 _ _ _ rfl); have B2 := Lib.hid (B1.out.trans (hb2.mono (Go.below_drewN HW.out _).size)); clear r2 hb2)
                | (go_at_call 31; refine (check_any _ _ _ _ _ R2.out HL.out (by first | omega | (simp <;> omega))).mono ?_; rintro e w3 ⟨rfl, hb3⟩; have B3 := Lib.hid (B2.out.trans (hb3.mono B2.out.size)); clear hb3; rw [hk.out]))
              go_ret
              exact ⟨by rw [hv.out]; rfl, B3.out⟩
            · have hk := Lib.hid (show ckV rs.reverse = 3 from if_neg hok)
              have hv := Lib.hid (show x = false by rw [← HX.out, show decide (downL rs) = false from decide_eq_false (fun h => hok (HD.out.1 h))]; simp [f2, f3, hj])
              clear HX HD hok
              go_enter Try.func16, Try.ntmps16
              go_wp2_with (go_at_call 28; refine (hasP_any _ _ _).mono ?_; rintro e w' ⟨rfl, rfl⟩)
              go_quiet ((go_at_call 28; exact Calls.quiet_of_same ((hasP_any _ _ _).mono fun _ _ ⟨a, b⟩ => ⟨a, b.symm⟩)))
              go_wp2_with (first
                | (go_at_call 29; refine (clone_any _ rs _ (HQ.out _) (by first | omega | (simp <;> omega))).mono ?_; rintro e w1 ⟨u, rfl, o1, hb1⟩; have O1 := Lib.hid o1; have B1 := Lib.hid ((Go.below_drewN HW.out _).trans (hb1.mono (Go.below_drewN HW.out _).size)); obtain ⟨A1, c1, hv1, _, _, _⟩ := o1.slice; subst hv1; clear o1 hb1)
                | (go_at_call 30; refine (rev_any _ _ _ _ O1.out).mono ?_; rintro e w2 ⟨rfl, r2, hb2⟩; have R2 := Lib.hid (r2 _ _ _ rfl); have B2 := Lib.hid (B1.out.trans (hb2.mono (Go.below_drewN HW.out _).size)); clear r2 hb2)
                | (go_at_call 31; refine (check_any _ _ _ _ _ R2.out HL.out (by first | omega | (simp <;> omega))).mono ?_; rintro e w3 ⟨rfl, hb3⟩; have B3 := Lib.hid (B2.out.trans (hb3.mono B2.out.size)); clear hb3; rw [hk.out]))
              go_ret
              exact ⟨by rw [hv.out]; rfl, B3.out⟩
          · obtain rfl : rs = [] := List.eq_nil_of_length_eq_zero (by omega)
            clear hj
            have hv := Lib.hid (show x = false by rw [← HX.out]; simp [f3])
            clear HX HD HL
            go_enter Try.func16, Try.ntmps16
            go_wp2_with (go_at_call 28; refine (hasP_any _ _ _).mono ?_; rintro e w' ⟨rfl, rfl⟩)
            go_quiet ((go_at_call 28; exact Calls.quiet_of_same ((hasP_any _ _ _).mono fun _ _ ⟨a, b⟩ => ⟨a, b.symm⟩)))
            go_wp2
            go_ret
            exact ⟨by rw [hv.out]; rfl, Go.below_drewN HW.out _⟩
  · cases fin
    · cases f3 : hasM m 64
      · by_cases hj : 0 < rs.length
        · skip
          have hv := Lib.hid (show x = false by rw [← HX.out]; simp [f3, hj])
          clear HX HD HL
          go_enter Try.func16, Try.ntmps16
          go_wp2_with (go_at_call 28; refine (hasP_any _ _ _).mono ?_; rintro e w' ⟨rfl, rfl⟩)
          go_quiet ((go_at_call 28; exact Calls.quiet_of_same ((hasP_any _ _ _).mono fun _ _ ⟨a, b⟩ => ⟨a, b.symm⟩)))
          go_wp2
          go_ret
          exact ⟨by rw [hv.out]; rfl, Go.below_drewN HW.out _⟩
        · obtain rfl : rs = [] := List.eq_nil_of_length_eq_zero (by omega)
          clear hj
          by_cases hok : okL [].reverse
          · have hk := Lib.hid (show ckV [].reverse = 0 from if_pos hok)
            have hv := Lib.hid (show x = true by rw [← HX.out, show decide (downL []) = true from decide_eq_true (HD.out.2 hok)]; simp [n1, f1, f3])
            clear HX HD hok
            go_enter Try.func16, Try.ntmps16
            go_wp2_with (go_at_call 28; refine (hasP_any _ _ _).mono ?_; rintro e w' ⟨rfl, rfl⟩)
            go_quiet ((go_at_call 28; exact Calls.quiet_of_same ((hasP_any _ _ _).mono fun _ _ ⟨a, b⟩ => ⟨a, b.symm⟩)))
            go_wp2_with (first
              | (go_at_call 29; refine (clone_any _ [] _ (HQ.out _) (by first | omega | (simp <;> omega))).mono ?_; rintro e w1 ⟨u, rfl, o1, hb1⟩; have O1 := Lib.hid o1; have B1 := Lib.hid ((Go.below_drewN HW.out _).trans (hb1.mono (Go.below_drewN HW.out _).size)); obtain ⟨A1, c1, hv1, _, _, _⟩ := o1.slice; subst hv1; clear o1 hb1)
              | (go_at_call 30; refine (rev_any _ _ _ _ O1.out).mono ?_; rintro e w2 ⟨rfl, r2, hb2⟩; have R2 := Lib.hid (r2 _ _ _ rfl); have B2 := Lib.hid (B1.out.trans (hb2.mono (Go.below_drewN HW.out _).size)); clear r2 hb2)
              | (go_at_call 31; refine (check_any _ _ _ _ _ R2.out HL.out (by first | omega | (simp <;> omega))).mono ?_; rintro e w3 ⟨rfl, hb3⟩; have B3 := Lib.hid (B2.out.trans (hb3.mono B2.out.size)); clear hb3; rw [hk.out]))
            go_ret
            exact ⟨by rw [hv.out]; rfl, B3.out⟩
          · have hk := Lib.hid (show ckV [].reverse = 3 from if_neg hok)
            have hv := Lib.hid (show x = false by rw [← HX.out, show decide (downL []) = false from decide_eq_false (fun h => hok (HD.out.1 h))]; simp [n1, f1, f3])
            clear HX HD hok
            go_enter Try.func16, Try.ntmps16
            go_wp2_with (go_at_call 28; refine (hasP_any _ _ _).mono ?_; rintro e w' ⟨rfl, rfl⟩)
            go_quiet ((go_at_call 28; exact Calls.quiet_of_same ((hasP_any _ _ _).mono fun _ _ ⟨a, b⟩ => ⟨a, b.symm⟩)))
            go_wp2_with (first
              | (go_at_call 29; refine (clone_any _ [] _ (HQ.out _) (by first | omega | (simp <;> omega))).mono ?_; rintro e w1 ⟨u, rfl, o1, hb1⟩; have O1 := Lib.hid o1; have B1 := Lib.hid ((Go.below_drewN HW.out _).trans (hb1.mono (Go.below_drewN HW.out _).size)); obtain ⟨A1, c1, hv1, _, _, _⟩ := o1.slice; subst hv1; clear o1 hb1)
              | (go_at_call 30; refine (rev_any _ _ _ _ O1.out).mono ?_; rintro e w2 ⟨rfl, r2, hb2⟩; have R2 := Lib.hid (r2 _ _ _ rfl); have B2 := Lib.hid (B1.out.trans (hb2.mono (Go.below_drewN HW.out _).size)); clear r2 hb2)
              | (go_at_call 31; refine (check_any _ _ _ _ _ R2.out HL.out (by first | omega | (simp <;> omega))).mono ?_; rintro e w3 ⟨rfl, hb3⟩; have B3 := Lib.hid (B2.out.trans (hb3.mono B2.out.size)); clear hb3; rw [hk.out]))
            go_ret
            exact ⟨by rw [hv.out]; rfl, B3.out⟩
      · by_cases hj : 0 < rs.length
        · skip
          by_cases hok : okL rs.reverse
          · have hk := Lib.hid (show ckV rs.reverse = 0 from if_pos hok)
            have hv := Lib.hid (show x = true by rw [← HX.out, show decide (downL rs) = true from decide_eq_true (HD.out.2 hok)]; simp [n1, f1, f3, hj])
            clear HX HD hok
            go_enter Try.func16, Try.ntmps16
            go_wp2_with (go_at_call 28; refine (hasP_any _ _ _).mono ?_; rintro e w' ⟨rfl, rfl⟩)
            go_quiet ((go_at_call 28; exact Calls.quiet_of_same ((hasP_any _ _ _).mono fun _ _ ⟨a, b⟩ => ⟨a, b.symm⟩)))
            go_wp2_with (first
              | (go_at_call 29; refine (clone_any _ rs _ (HQ.out _) (by first | omega | (simp <;> omega))).mono ?_; rintro e w1 ⟨u, rfl, o1, hb1⟩; have O1 := Lib.hid o1; have B1 := Lib.hid ((Go.below_drewN HW.out _).trans (hb1.mono (Go.below_drewN HW.out _).size)); obtain ⟨A1, c1, hv1, _, _, _⟩ := o1.slice; subst hv1; clear o1 hb1)
              | (go_at_call 30; refine (rev_any _ _ _ _ O1.out).mono ?_; rintro e w2 ⟨rfl, r2, hb2⟩; have R2 := Lib.hid (r2 _ _ _ rfl); have B2 := Lib.hid (B1.out.trans (hb2.mono (Go.below_drewN HW.out _).size)); clear r2 hb2)
              | (go_at_call 31; refine (check_any _ _ _ _ _ R2.out HL.out (by first | omega | (simp <;> omega))).mono ?_; rintro e w3 ⟨rfl, hb3⟩; have B3 := Lib.hid (B2.out.trans (hb3.mono B2.out.size)); clear hb3; rw [hk.out]))
            go_ret
            exact ⟨by rw [hv.out]; rfl, B3.out⟩
          · have hk := Lib.hid (show ckV rs.reverse = 3 from if_neg hok)
            have hv := Lib.hid (show x = false by rw [← HX.out, show decide (downL rs) = false from decide_eq_false (fun h => hok (HD.out.1 h))]; simp [n1, f1, f3, hj])
            clear HX HD hok
            go_enter Try.func16, Try.ntmps16
            go_wp2_with (go_at_call 28; refine (hasP_any _ _ _).mono ?_; rintro e w' ⟨rfl, rfl⟩)
            go_quiet ((go_at_call 28; exact Calls.quiet_of_same ((hasP_any _ _ _).mono fun _ _ ⟨a, b⟩ => ⟨a, b.symm⟩)))
            go_wp2_with (first
              | (go_at_call 29; refine (clone_any _ rs _ (HQ.out _) (by first | omega | (simp <;> omega))).mono ?_; rintro e w1 ⟨u, rfl, o1, hb1⟩; have O1 := Lib.hid o1; have B1 := Lib.hid ((Go.below_drewN HW.out _).trans (hb1.mono (Go.below_drewN HW.out _).size)); obtain ⟨A1, c1, hv1, _, _, _⟩ := o1.slice; subst hv1; clear o1 hb1)
              | (go_at_call 30; refine (rev_any _ _ _ _ O1.out).mono ?_; rintro e w2 ⟨rfl, r2, hb2⟩; have R2 := Lib.hid (r2 _ _ _ rfl); have B2 := Lib.hid (B1.out.trans (hb2.mono (Go.below_drewN HW.out _).size)); clear r2 hb2)
              | (go_at_call 31; refine (check_any _ _ _ _ _ R2.out HL.out (by first | omega | (simp <;> omega))).mono ?_; rintro e w3 ⟨rfl, hb3⟩; have B3 := Lib.hid (B2.out.trans (hb3.mono B2.out.size)); clear hb3; rw [hk.out]))
            go_ret
            exact ⟨by rw [hv.out]; rfl, B3.out⟩
        · obtain rfl : rs = [] := List.eq_nil_of_length_eq_zero (by omega)
          clear hj
          have hv := Lib.hid (show x = false by rw [← HX.out]; simp [f3])
          clear HX HD HL
          go_enter Try.func16, Try.ntmps16
          go_wp2_with (go_at_call 28; refine (hasP_any _ _ _).mono ?_; rintro e w' ⟨rfl, rfl⟩)
          go_quiet ((go_at_call 28; exact Calls.quiet_of_same ((hasP_any _ _ _).mono fun _ _ ⟨a, b⟩ => ⟨a, b.symm⟩)))
          go_wp2
          go_ret
          exact ⟨by rw [hv.out]; rfl, Go.below_drewN HW.out _⟩
    · cases f2 : hasM m 4
      · skip
        have hv := Lib.hid (show x = false by rw [← HX.out]; simp [f2])
        clear HX HD HL
        go_enter Try.func16, Try.ntmps16
        go_wp2_with (go_at_call 28; refine (hasP_any _ _ _).mono ?_; rintro e w' ⟨rfl, rfl⟩)
        go_ret
        exact ⟨by rw [hv.out]; rfl, HW.out⟩
      · cases f3 : hasM m 64
        · by_cases hj : 0 < rs.length
          · skip
            have hv := Lib.hid (show x = false by rw [← HX.out]; simp [f3, hj])
            clear HX HD HL
            go_enter Try.func16, Try.ntmps16
            go_wp2_with (go_at_call 28; refine (hasP_any _ _ _).mono ?_; rintro e w' ⟨rfl, rfl⟩)
            go_quiet ((go_at_call 28; exact Calls.quiet_of_same ((hasP_any _ _ _).mono fun _ _ ⟨a, b⟩ => ⟨a, b.symm⟩)))
            go_wp2
            go_ret
            exact ⟨by rw [hv.out]; rfl, Go.below_drewN HW.out _⟩
          · obtain rfl : rs = [] := List.eq_nil_of_length_eq_zero (by omega)
            clear hj
            by_cases hok : okL [].reverse
            · have hk := Lib.hid (show ckV [].reverse = 0 from if_pos hok)
              have hv := Lib.hid (show x = true by rw [← HX.out, show decide (downL []) = true from decide_eq_true (HD.out.2 hok)]; simp [n1, f1, f2, f3])
              clear HX HD hok
              go_enter Try.func16, Try.ntmps16
              go_wp2_with (go_at_call 28; refine (hasP_any _ _ _).mono ?_; rintro e w' ⟨rfl, rfl⟩)
              go_quiet ((go_at_call 28; exact Calls.quiet_of_same ((hasP_any _ _ _).mono fun _ _ ⟨a, b⟩ => ⟨a, b.symm⟩)))
              go_wp2_with (first
                | (go_at_call 29; refine (clone_any _ [] _ (HQ.out _) (by first | omega | (simp <;> omega))).mono ?_; rintro e w1 ⟨u, rfl, o1, hb1⟩; have O1 := Lib.hid o1; have B1 := Lib.hid ((Go.below_drewN HW.out _).trans (hb1.mono (Go.below_drewN HW.out _).size)); obtain ⟨A1, c1, hv1, _, _, _⟩ := o1.slice; subst hv1; clear o1 hb1)
                | (go_at_call 30; refine (rev_any _ _ _ _ O1.out).mono ?_; rintro e w2 ⟨rfl, r2, hb2⟩; have R2 := Lib.hid (r2 _ _ _ rfl); have B2 := Lib.hid (B1.out.trans (hb2.mono (Go.below_drewN HW.out _).size)); clear r2 hb2)
                | (go_at_call 31; refine (check_any _ _ _ _ _ R2.out HL.out (by first | omega | (simp <;> omega))).mono ?_; rintro e w3 ⟨rfl, hb3⟩; have B3 := Lib.hid (B2.out.trans (hb3.mono B2.out.size)); clear hb3; rw [hk.out]))
              go_ret
              exact ⟨by rw [hv.out]; rfl, B3.out⟩
            · have hk := Lib.hid (show ckV [].reverse = 3 from if_neg hok)
              have hv := Lib.hid (show x = false by rw [← HX.out, show decide (downL []) = false from decide_eq_false (fun h => hok (HD.out.1 h))]; simp [n1, f1, f2, f3])
              clear HX HD hok
              go_enter Try.func16, Try.ntmps16
              go_wp2_with (go_at_call 28; refine (hasP_any _ _ _).mono ?_; rintro e w' ⟨rfl, rfl⟩)
              go_quiet ((go_at_call 28; exact Calls.quiet_of_same ((hasP_any _ _ _).mono fun _ _ ⟨a, b⟩ => ⟨a, b.symm⟩)))
              go_wp2_with (first
                | (go_at_call 29; refine (clone_any _ [] _ (HQ.out _) (by first | omega | (simp <;> omega))).mono ?_; rintro e w1 ⟨u, rfl, o1, hb1⟩; have O1 := Lib.hid o1; have B1 := Lib.hid ((Go.below_drewN HW.out _).trans (hb1.mono (Go.below_drewN HW.out _).size)); obtain ⟨A1, c1, hv1, _, _, _⟩ := o1.slice; subst hv1; clear o1 hb1)
                | (go_at_call 30; refine (rev_any _ _ _ _ O1.out).mono ?_; rintro e w2 ⟨rfl, r2, hb2⟩; have R2 := Lib.hid (r2 _ _ _ rfl); have B2 := Lib.hid (B1.out.trans (hb2.mono (Go.below_drewN HW.out _).size)); clear r2 hb2)
                | (go_at_call 31; refine (check_any _ _ _ _ _ R2.out HL.out (by first | omega | (simp <;> omega))).mono ?_; rintro e w3 ⟨rfl, hb3⟩; have B3 := Lib.hid (B2.out.trans (hb3.mono B2.out.size)); clear hb3; rw [hk.out]))
              go_ret
              exact ⟨by rw [hv.out]; rfl, B3.out⟩
        · by_cases hj : 0 < rs.length
          · skip
            by_cases hok : okL rs.reverse
            · have hk := Lib.hid (show ckV rs.reverse = 0 from if_pos hok)
              have hv := Lib.hid (show x = true by rw [← HX.out, show decide (downL rs) = true from decide_eq_true (HD.out.2 hok)]; simp [n1, f1, f2, f3, hj])
              clear HX HD hok
              go_enter Try.func16, Try.ntmps16
              go_wp2_with (go_at_call 28; refine (hasP_any _ _ _).mono ?_; rintro e w' ⟨rfl, rfl⟩)
              go_quiet ((go_at_call 28; exact Calls.quiet_of_same ((hasP_any _ _ _).mono fun _ _ ⟨a, b⟩ => ⟨a, b.symm⟩)))
              go_wp2_with (first
                | (go_at_call 29; refine (clone_any _ rs _ (HQ.out _) (by first | omega | (simp <;> omega))).mono ?_; rintro e w1 ⟨u, rfl, o1, hb1⟩; have O1 := Lib.hid o1; have B1 := Lib.hid ((Go.below_drewN HW.out _).trans (hb1.mono (Go.below_drewN HW.out _).size)); obtain ⟨A1, c1, hv1, _, _, _⟩ := o1.slice; subst hv1; clear o1 hb1)
                | (go_at_call 30; refine (rev_any _ _ _ _ O1.out).mono ?_; rintro e w2 ⟨rfl, r2, hb2⟩; have R2 := Lib.hid (r2 _ _ _ rfl); have B2 := Lib.hid (B1.out.trans (hb2.mono (Go.below_drewN HW.out _).size)); clear r2 hb2)
                | (go_at_call 31; refine (check_any _ _ _ _ _ R2.out HL.out (by first | omega | (simp <;> omega))).mono ?_; rintro e w3 ⟨rfl, hb3⟩; have B3 := Lib.hid (B2.out.trans (hb3.mono B2.out.size)); clear hb3; rw [hk.out]))
              go_ret
              exact ⟨by rw [hv.out]; rfl, B3.out⟩
            · have hk := Lib.hid (show ckV rs.reverse = 3 from if_neg hok)
              have hv := Lib.hid (show x = false by rw [← HX.out, show decide (downL rs) = false from decide_eq_false (fun h => hok (HD.out.1 h))]; simp [n1, f1, f2, f3, hj])
              clear HX HD hok
              go_enter Try.func16, Try.ntmps16
              go_wp2_with (go_at_call 28; refine (hasP_any _ _ _).mono ?_; rintro e w' ⟨rfl, rfl⟩)
              go_quiet ((go_at_call 28; exact Calls.quiet_of_same ((hasP_any _ _ _).mono fun _ _ ⟨a, b⟩ => ⟨a, b.symm⟩)))
              go_wp2_with (first
                | (go_at_call 29; refine (clone_any _ rs _ (HQ.out _) (by first | omega | (simp <;> omega))).mono ?_; rintro e w1 ⟨u, rfl, o1, hb1⟩; have O1 := Lib.hid o1; have B1 := Lib.hid ((Go.below_drewN HW.out _).trans (hb1.mono (Go.below_drewN HW.out _).size)); obtain ⟨A1, c1, hv1, _, _, _⟩ := o1.slice; subst hv1; clear o1 hb1)
                | (go_at_call 30; refine (rev_any _ _ _ _ O1.out).mono ?_; rintro e w2 ⟨rfl, r2, hb2⟩; have R2 := Lib.hid (r2 _ _ _ rfl); have B2 := Lib.hid (B1.out.trans (hb2.mono (Go.below_drewN HW.out _).size)); clear r2 hb2)
                | (go_at_call 31; refine (check_any _ _ _ _ _ R2.out HL.out (by first | omega | (simp <;> omega))).mono ?_; rintro e w3 ⟨rfl, hb3⟩; have B3 := Lib.hid (B2.out.trans (hb3.mono B2.out.size)); clear hb3; rw [hk.out]))
              go_ret
              exact ⟨by rw [hv.out]; rfl, B3.out⟩
          · obtain rfl : rs = [] := List.eq_nil_of_length_eq_zero (by omega)
            clear hj
            have hv := Lib.hid (show x = false by rw [← HX.out]; simp [f3])
            clear HX HD HL
            go_enter Try.func16, Try.ntmps16
            go_wp2_with (go_at_call 28; refine (hasP_any _ _ _).mono ?_; rintro e w' ⟨rfl, rfl⟩)
            go_quiet ((go_at_call 28; exact Calls.quiet_of_same ((hasP_any _ _ _).mono fun _ _ ⟨a, b⟩ => ⟨a, b.symm⟩)))
            go_wp2
            go_ret
            exact ⟨by rw [hv.out]; rfl, Go.below_drewN HW.out _⟩
end Go.Proofs.Ytjeocggocloigaa
