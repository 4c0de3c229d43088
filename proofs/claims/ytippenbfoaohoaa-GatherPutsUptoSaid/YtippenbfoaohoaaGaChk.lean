/- Contracts of package gather: reach, Check, refuse, Begin. -/
import Derived.Test.YtippenbfoaohoaaGaApart
import Derived.Test.YtippenbfoaohoaaGatherLawC
namespace Go.Proofs.Ytippenbfoaohoaa
set_option linter.unusedVariables false
open Go.RowKit P

set_option maxRecDepth 100000 in
set_option maxHeartbeats 1000000 in
theorem reach_any (A : Option Addr) (c : Nat) (g : Ga) (w : World) (hrow : PRow w w.heap.size A g.held) (hc : g.held.length ≤ c ∧ c ≤ maxLen) (hb : ∀ p ∈ g.held, -9223372036854775808 ≤ endP p ∧ endP p ≤ 9223372036854775807) :
    Calls Try.prog 27 #[.agg #[.int .i64 g.done, .slice A g.held.length c, .int .i64 g.final, .int .i64 g.window]] w fun e w' => e = .returned (.int .i64 (reachP g.done g.held)) ∧ Below w.heap.size w w' := by
  have B0 := Lib.hid ((Below.refl w.heap.size w).alloc (Nat.le_refl _) (.cells #[.int .i64 g.done, .slice A g.held.length c, .int .i64 g.final, .int .i64 g.window] 24))
  obtain ⟨n, hn⟩ : ∃ n, g.held.length = n := ⟨_, rfl⟩
  obtain ⟨hc1, hc2⟩ := hc
  rw [hn] at hc1 B0 ⊢
  unfold maxLen at hc2
  by_cases h0 : n = 0
  · have hr : reachP g.done g.held = g.done := by
      have : g.held = [] := List.eq_nil_of_length_eq_zero (by omega)
      rw [this]; rfl
    have HR := Lib.hid hr
    subst h0
    clear hr hrow hb hn
    go_enter Try.func27, Try.ntmps27
    go_wp2
    go_ret
    exact ⟨by rw [HR.out]; rfl, B0.out⟩
  · obtain ⟨b0, o, hA, hb0, hcl⟩ := hrow (by omega)
    subst hA
    obtain ⟨e1, d, e2, hd⟩ := hcl (n - 1) (by omega)
    obtain ⟨Ad, cd, rfl, _, _, _, _⟩ := hd.ex
    have x0 := (B0.out.cell (p := ⟨b0, o + (n - 1) * 2, none⟩) hb0).trans e1
    have x1 := (B0.out.cell (p := ⟨b0, o + (n - 1) * 2 + 1, none⟩) hb0).trans e2
    have hmem : g.held.getD (n - 1) pc0 ∈ g.held := by rw [List.getD_eq_getElem?_getD, List.getElem?_eq_getElem (by omega)]; exact List.getElem_mem (by omega)
    have hbp := hb _ hmem
    have hr := reach_step (ps := g.held) (d := g.done) (k := n - 1) (by omega)
    rw [show n - 1 + 1 = g.held.length by omega, List.take_length] at hr
    obtain ⟨p, hp⟩ : ∃ p, g.held.getD (n - 1) pc0 = p := ⟨_, rfl⟩
    rw [hp] at x0 x1 hbp hr
    obtain ⟨off, ds⟩ := p
    have hme : endP (off, ds) = off + (ds.length : Int) := rfl
    rw [hme] at hbp hr
    simp only at x0 x1
    obtain ⟨m, hm⟩ : ∃ m, ds.length = m := ⟨_, rfl⟩
    rw [hm] at x1 hbp hr
    have HR := Lib.hid hr
    clear hcl e1 e2 hd hmem hp hm hme hr hrow hb hn
    have i0 : (0 : Int) ≤ (n : Int) - 1 := by omega
    have i1 : (n : Int) - 1 < (n : Int) := by omega
    have i2 : ((n : Int) - 1).toNat = n - 1 := by omega
    have i3 : IntKind.i64.wrap ((n : Int) - 1) = (n : Int) - 1 := by rw [IntKind.wrap_i64]; omega
    have h0' : ((n : Int) == 0) = false := by simp; omega
    go_enter Try.func27, Try.ntmps27
    go_wp2_with (go_at_call 31; refine (end_any _ _ _ _ _ hbp).mono ?_; rintro e w1 ⟨rfl, b1⟩; have B1 := Lib.hid (B0.out.trans (b1.mono B0.out.size)); clear b1)
    go_ret
    exact ⟨by rw [HR.out]; rfl, B1.out⟩
theorem bool_of {b : Bool} {p : Prop} [Decidable p] (h : p) (e : b = decide p) : b = true := by rw [e]; exact decide_eq_true h
theorem apG_bd {g : Ga} (h : apG g.done g.held) (h0 : 0 ≤ g.done) : ∀ p ∈ g.held, -9223372036854775808 ≤ endP p ∧ endP p ≤ 9223372036854775807 := by
  obtain ⟨o1, o2, o3⟩ := h
  intro p hp
  have := o3 p hp
  obtain ⟨i, hi, rfl⟩ := List.getElem_of_mem hp
  have t := ok_take o2 (i + 1)
  rw [take_step hi] at t
  obtain ⟨t1, t2, t3⟩ := (ok_snoc _ _ _).1 t
  have e : g.held.getD i pc0 = g.held[i] := by rw [List.getD_eq_getElem?_getD, List.getElem?_eq_getElem hi]; rfl
  rw [e] at t2 t3
  have := reach_mono _ _ t1
  have := end_gt t2
  constructor <;> omega
theorem okG_apG {g : Ga} (h : okG g) : apG g.done g.held ∧ g.done ≤ g.window := by
  obtain ⟨o1, o2, o3, o4, o5, o6, o7⟩ := h
  have hge := reach_ge g.held (g.done - 1) g.done o5 (by omega) (by omega)
  refine ⟨⟨o4, o5, fun p hp => ?_⟩, by omega⟩
  obtain ⟨i, hi, rfl⟩ := List.getElem_of_mem hp
  have r1 := reach_take (d := g.done) o5 (i + 1) (by omega) (by omega)
  rw [reach_step hi] at r1
  have e : g.held.getD i pc0 = g.held[i] := by rw [List.getD_eq_getElem?_getD, List.getElem?_eq_getElem hi]; rfl
  rw [e] at r1
  omega
/-- what Check asks, in its order -/
theorem faultG_eq (g : Ga) : faultG g = if g.done < 0 ∨ g.window < g.done ∨ 4611686018427387903 < g.window then 9 else if g.final < -1 ∨ apB g.done g.held = false then 9 else if g.window < reachP g.done g.held ∨ (g.final ≠ -1 ∧ g.final < reachP g.done g.held) then 9 else 0 := by
  unfold faultG
  by_cases h : okG g
  · rw [if_pos h]
    obtain ⟨a1, a2⟩ := okG_apG h
    have : apB g.done g.held = true := decide_eq_true a1
    obtain ⟨o1, o2, o3, o4, o5, o6, o7⟩ := h
    rw [if_neg (by omega), if_neg (by rw [this]; simp; omega), if_neg (by omega)]
  · rw [if_neg h]
    by_cases c1 : g.done < 0 ∨ g.window < g.done ∨ 4611686018427387903 < g.window
    · rw [if_pos c1]
    rw [if_neg c1]
    by_cases c2 : g.final < -1 ∨ apB g.done g.held = false
    · rw [if_pos c2]
    rw [if_neg c2]
    by_cases c3 : g.window < reachP g.done g.held ∨ (g.final ≠ -1 ∧ g.final < reachP g.done g.held)
    · rw [if_pos c3]
    exfalso
    have a : apG g.done g.held := by
      by_cases q : apB g.done g.held = false
      · exact absurd (.inr q) c2
      · exact of_decide_eq_true (by simpa [apB] using q)
    exact h ⟨by omega, by omega, by omega, a.1, a.2.1, by omega, fun _ => by omega⟩
set_option maxRecDepth 100000 in
set_option maxHeartbeats 2000000 in
theorem gaChk_any : GaChk Try.prog 11 := by
  intro v g w hv hw hlen
  obtain ⟨s, rfl, hs⟩ := hv.ex
  obtain ⟨A, c, rfl, hnc, hcm, hrow⟩ := hs.ex
  have hf := faultG_eq g
  have B0 := Lib.hid ((Below.refl w.heap.size w).alloc (Nat.le_refl _) (.cells #[.int .i64 g.done, .slice A g.held.length c, .int .i64 g.final, .int .i64 g.window] 24))
  have F0 := Lib.hid (heap_alloc_new w (.cells #[.int .i64 g.done, .slice A g.held.length c, .int .i64 g.final, .int .i64 g.window] 24))
  have HAP := Lib.hid (fun w' (hb : Below w.heap.size w w') => apart_any A c g.done g.held w' ((hrow.below hb).more hb.size) ⟨hnc, hcm⟩ hw.held hlen)
  have HRC := Lib.hid (fun w' (hb : Below w.heap.size w w') (h : apG g.done g.held) (h0 : 0 ≤ g.done) => reach_any A c g w' ((hrow.below hb).more hb.size) ⟨hnc, hcm⟩ (apG_bd h h0))
  by_cases c1 : g.done < 0 ∨ g.window < g.done ∨ 4611686018427387903 < g.window
  · rw [if_pos c1] at hf
    have HF := Lib.hid hf
    clear hf HAP HRC hv hs hrow hw hlen F0
    by_cases a1 : g.done < 0
    · go_enter Try.func11, Try.ntmps11
      go_wp2
      go_ret
      exact ⟨by rw [HF.out]; rfl, B0.out⟩
    · by_cases a2 : g.window < g.done
      · have d1 : decide (g.done < 0) = false := by simp; omega
        go_enter Try.func11, Try.ntmps11
        go_wp2
        go_ret
        exact ⟨by rw [HF.out]; rfl, B0.out⟩
      · have d1 : decide (g.done < 0) = false := by simp; omega
        have d2 : decide (g.window < g.done) = false := by simp; omega
        have d3 : decide (4611686018427387903 < g.window) = true := by simp; omega
        go_enter Try.func11, Try.ntmps11
        go_wp2
        go_ret
        exact ⟨by rw [HF.out]; rfl, B0.out⟩
  rw [if_neg c1] at hf
  have d1 : decide (g.done < 0) = false := by simp; omega
  have d2 : decide (g.window < g.done) = false := by simp; omega
  have d3 : decide (4611686018427387903 < g.window) = false := by simp; omega
  by_cases c2 : g.final < -1
  · rw [if_pos (.inl c2)] at hf
    have HF := Lib.hid hf
    clear hf HAP HRC hv hs hrow hw hlen F0 c1
    go_enter Try.func11, Try.ntmps11
    go_wp2
    go_ret
    exact ⟨by rw [HF.out]; rfl, B0.out⟩
  have d4 : decide (g.final < -1) = false := by simp; omega
  by_cases c3 : apB g.done g.held = false
  · rw [if_pos (.inr c3)] at hf
    rw [c3] at HAP
    have HF := Lib.hid hf
    clear hf HRC hv hs hrow hw hlen F0 c1 c2 c3
    go_enter Try.func11, Try.ntmps11
    go_wp2_with (go_at_call 26; refine (HAP.out _ B0.out).mono ?_; rintro e w1 ⟨rfl, b1⟩; have B1 := Lib.hid (B0.out.trans (b1.mono B0.out.size)); clear b1)
    go_ret
    exact ⟨by rw [HF.out]; rfl, B1.out⟩
  have hap : apB g.done g.held = true := by simpa using c3
  have hag : apG g.done g.held := of_decide_eq_true hap
  rw [if_neg (fun h => h.elim (fun h => c2 h) c3)] at hf
  rw [hap] at HAP
  have HRD := Lib.hid (fun w' (hb : Below w.heap.size w w') => HRC.out w' hb hag (by omega))
  obtain ⟨R, hR⟩ : ∃ R, reachP g.done g.held = R := ⟨_, rfl⟩
  rw [hR] at HRD hf
  have HF := Lib.hid hf
  have e4 : (g.final != -1) = decide (g.final ≠ -1) := by by_cases h : g.final = -1 <;> simp [h]
  clear hf HRC hv hs hrow hw hlen c1 c2 c3 hap hag hR
  by_cases a1 : g.window < R
  · have HF1 := Lib.hid (HF.out.trans (if_pos (.inl a1)))
    have g1 : decide (g.window < R) = true := by simp [a1]
    clear HF e4
    go_enter Try.func11, Try.ntmps11
    go_wp2_with (go_at_call 26; refine (HAP.out _ B0.out).mono ?_; rintro e w1 ⟨rfl, b1⟩; have B1 := Lib.hid (B0.out.trans (b1.mono B0.out.size)); have F1 := Lib.hid ((b1.block _ (lt_of_block F0.out)).trans F0.out); clear b1)
    obtain ⟨q0, q1, q2, q3⟩ := bkG F1.out
    have z0 := Ext.cell q0
    have z1 := Ext.cell q1
    have z2 := Ext.cell q2
    have z3 := Ext.cell q3
    refine wp_region_ext (by kernel_rfl) (by kernel_rfl) ?_
    repeat (go_big_quiet_step ((go_at_call 27; exact Ext.call (HRD.out _ (B1.out.trans ((Ext.h _).mono B1.out.size))))))
    refine wpQuiet_nil ?_
    intro w2 hb2
    clear z0 z1 z2 z3 q0 q1 q2 q3
    have B2 := Lib.hid (B1.out.trans (hb2.mono B1.out.size))
    clear hb2
    go_wp2
    go_ret
    exact ⟨by rw [HF1.out]; rfl, B2.out⟩
  · have g1 : decide (g.window < R) = false := by simp; omega
    by_cases a2 : g.final = -1
    · have HF1 := Lib.hid (HF.out.trans (if_neg (fun h => h.elim a1 (fun h => h.1 a2))))
      have g2 : (g.final != -1) = false := by simp [a2]
      clear HF e4 a2
      go_enter Try.func11, Try.ntmps11
      go_wp2_with (go_at_call 26; refine (HAP.out _ B0.out).mono ?_; rintro e w1 ⟨rfl, b1⟩; have B1 := Lib.hid (B0.out.trans (b1.mono B0.out.size)); have F1 := Lib.hid ((b1.block _ (lt_of_block F0.out)).trans F0.out); clear b1)
      obtain ⟨q0, q1, q2, q3⟩ := bkG F1.out
      have z0 := Ext.cell q0
      have z1 := Ext.cell q1
      have z2 := Ext.cell q2
      have z3 := Ext.cell q3
      refine wp_region_ext (by kernel_rfl) (by kernel_rfl) ?_
      repeat (go_big_quiet_step ((go_at_call 27; exact Ext.call (HRD.out _ (B1.out.trans ((Ext.h _).mono B1.out.size))))))
      refine wpQuiet_nil ?_
      intro w2 hb2
      clear z0 z1 z2 z3 q0 q1 q2 q3
      have B2 := Lib.hid (B1.out.trans (hb2.mono B1.out.size))
      clear hb2
      go_wp2
      go_ret
      exact ⟨by rw [HF1.out]; rfl, B2.out⟩
    · have g2 : (g.final != -1) = true := by simp [a2]
      by_cases a3 : g.final < R
      · have HF1 := Lib.hid (HF.out.trans (if_pos (.inr ⟨a2, a3⟩)))
        have g3 : decide (g.final < R) = true := by simp [a3]
        clear HF e4 a2
        go_enter Try.func11, Try.ntmps11
        go_wp2_with (go_at_call 26; refine (HAP.out _ B0.out).mono ?_; rintro e w1 ⟨rfl, b1⟩; have B1 := Lib.hid (B0.out.trans (b1.mono B0.out.size)); have F1 := Lib.hid ((b1.block _ (lt_of_block F0.out)).trans F0.out); clear b1)
        obtain ⟨q0, q1, q2, q3⟩ := bkG F1.out
        have z0 := Ext.cell q0
        have z1 := Ext.cell q1
        have z2 := Ext.cell q2
        have z3 := Ext.cell q3
        refine wp_region_ext (by kernel_rfl) (by kernel_rfl) ?_
        repeat (go_big_quiet_step ((go_at_call 27; exact Ext.call (HRD.out _ (B1.out.trans ((Ext.h _).mono B1.out.size))))))
        refine wpQuiet_nil ?_
        intro w2 hb2
        clear z0 z1 z2 z3 q0 q1 q2 q3
        have B2 := Lib.hid (B1.out.trans (hb2.mono B1.out.size))
        clear hb2
        go_wp2
        go_ret
        exact ⟨by rw [HF1.out]; rfl, B2.out⟩
      · have HF1 := Lib.hid (HF.out.trans (if_neg (fun h => h.elim a1 (fun h => a3 h.2))))
        have g3 : decide (g.final < R) = false := by simp; omega
        clear HF e4 a2
        go_enter Try.func11, Try.ntmps11
        go_wp2_with (go_at_call 26; refine (HAP.out _ B0.out).mono ?_; rintro e w1 ⟨rfl, b1⟩; have B1 := Lib.hid (B0.out.trans (b1.mono B0.out.size)); have F1 := Lib.hid ((b1.block _ (lt_of_block F0.out)).trans F0.out); clear b1)
        obtain ⟨q0, q1, q2, q3⟩ := bkG F1.out
        have z0 := Ext.cell q0
        have z1 := Ext.cell q1
        have z2 := Ext.cell q2
        have z3 := Ext.cell q3
        refine wp_region_ext (by kernel_rfl) (by kernel_rfl) ?_
        repeat (go_big_quiet_step ((go_at_call 27; exact Ext.call (HRD.out _ (B1.out.trans ((Ext.h _).mono B1.out.size))))))
        refine wpQuiet_nil ?_
        intro w2 hb2
        clear z0 z1 z2 z3 q0 q1 q2 q3
        have B2 := Lib.hid (B1.out.trans (hb2.mono B1.out.size))
        clear hb2
        go_wp2
        go_ret
        exact ⟨by rw [HF1.out]; rfl, B2.out⟩
end Go.Proofs.Ytippenbfoaohoaa
