/- Contract of package frame: Check. -/
import Derived.Test.YtjeocggocloigaaFrForm
namespace Go.Proofs.Ytjeocggocloigaa
set_option linter.unusedVariables false
open Go.RowKit P

set_option maxHeartbeats 2000000 in
theorem frCheck_any (v : Value) (f : Fr) (w : World) (h : FrVal w w.heap.size v f) :
    Calls Try.prog 6 #[v] w fun e w' => e = .returned (.int .i64 (faultF f)) ∧ Below w.heap.size w w' := by
  obtain ⟨r, d, rfl, hr, hd⟩ := h.ex
  obtain ⟨A', n', hdv, _, _, _, _⟩ := hd.ex
  obtain ⟨A, c, hrv, _, _, _⟩ := hr.ex
  subst hrv hdv
  have HF0 := Lib.hid (fun h => faultF_no (f := f) h)
  have HF1 := Lib.hid (fun s h => faultF_some (f := f) (s := s) h)
  have HW := Lib.hid ((Below.refl w.heap.size w).alloc (Nat.le_refl _) (.cells #[.int .i64 f.kind, .int .i64 f.id, .int .i64 f.off, .bool f.fin, .int .i64 f.code, .slice A f.rs.length c, .slice A' f.data.length n'] 25))
  have HV := Lib.hid (h.on HW.out)
  clear hr hd h
  obtain ⟨x, hx⟩ : ∃ x, faultF f = x := ⟨_, rfl⟩
  rw [hx] at HF0 HF1 ⊢
  clear hx
  obtain ⟨k, id, off, fin, code, rs, data⟩ := f
  simp only at HF0 HF1 HW HV ⊢
  cases hp : partsOf k with
  | none =>
    have hs : (partsOf k).isSome = false := by rw [hp]; rfl
    have hv := Lib.hid (HF0.out hp)
    clear HF0 HF1 hp HV
    go_enter Try.func6, Try.ntmps6
    go_wp2_with (go_at_call 14; refine (partsOf_any _ _).mono ?_; rintro e w' ⟨rfl, rfl⟩)
    go_ret
    exact ⟨by rw [hv.out]; rfl, HW.out⟩
  | some s =>
    have hs : (partsOf k).isSome = true := by rw [hp]; rfl
    have hv := Lib.hid (HF1.out s hp)
    clear HF0 HF1 hp
    by_cases c1 : 120 < data.length
    · rw [if_pos (.inl c1)] at hv
      clear HV
      go_enter Try.func6, Try.ntmps6
      go_wp2_with (go_at_call 14; refine (partsOf_any _ _).mono ?_; rintro e w' ⟨rfl, rfl⟩)
      go_ret
      exact ⟨by rw [hv.out]; rfl, HW.out⟩
    by_cases c2 : 6 < rs.length
    · rw [if_pos (.inr c2)] at hv
      clear HV
      go_enter Try.func6, Try.ntmps6
      go_wp2_with (go_at_call 14; refine (partsOf_any _ _).mono ?_; rintro e w' ⟨rfl, rfl⟩)
      go_ret
      exact ⟨by rw [hv.out]; rfl, HW.out⟩
    rw [if_neg (by omega)] at hv
    obtain ⟨b1, g1⟩ : ∃ b, inBV (maskOf k) id off code data.length = b := ⟨_, rfl⟩
    obtain ⟨b2, g2⟩ : ∃ b, inFV (maskOf k) ⟨k, id, off, fin, code, rs, data⟩ = b := ⟨_, rfl⟩
    rw [g1, g2] at hv
    have G1 := Lib.hid g1
    have G2 := Lib.hid g2
    clear g1 g2
    cases b1
    · rw [if_pos rfl] at hv
      go_enter Try.func6, Try.ntmps6
      go_wp2_with (first
        | (go_at_call 14; refine (partsOf_any _ _).mono ?_; rintro e w' ⟨rfl, rfl⟩)
        | (go_at_call 15; refine (inBounds_any _ _ _ _ HV.out (show data.length ≤ 120 by omega)).mono ?_; rintro e w1 ⟨he, hb1⟩; obtain rfl : e = .returned (.bool false) := he.trans (congrArg (fun b => Ending.returned (.bool b)) G1.out); have HB1 := Lib.hid (HW.out.trans (hb1.mono HW.out.size)); clear hb1 he))
      go_ret
      exact ⟨by rw [hv.out]; rfl, HB1.out⟩
    · rw [if_neg (by decide : ¬ true = false)] at hv
      cases b2
      · rw [if_pos rfl] at hv
        go_enter Try.func6, Try.ntmps6
        go_wp2_with (first
          | (go_at_call 14; refine (partsOf_any _ _).mono ?_; rintro e w' ⟨rfl, rfl⟩)
          | (go_at_call 15; refine (inBounds_any _ _ _ _ HV.out (show data.length ≤ 120 by omega)).mono ?_; rintro e w1 ⟨he, hb1⟩; obtain rfl : e = .returned (.bool true) := he.trans (congrArg (fun b => Ending.returned (.bool b)) G1.out); have HB1 := Lib.hid (HW.out.trans (hb1.mono HW.out.size)); have HV1 := Lib.hid (HV.out.on hb1); obtain ⟨d0, d1, d2, d3, d4, d5, d6⟩ := seven hb1; clear hb1 he)
          | (go_at_call 16; refine (inForm_any _ _ _ _ HV1.out (show rs.length ≤ 6 by omega)).mono ?_; rintro e w2 ⟨he2, hb2⟩; obtain rfl : e = .returned (.bool false) := he2.trans (congrArg (fun b => Ending.returned (.bool b)) G2.out); have HB2 := Lib.hid (HB1.out.trans (hb2.mono HB1.out.size)); clear hb2 he2))
        go_ret
        exact ⟨by rw [hv.out]; rfl, HB2.out⟩
      · rw [if_neg (by decide : ¬ true = false)] at hv
        go_enter Try.func6, Try.ntmps6
        go_wp2_with (first
          | (go_at_call 14; refine (partsOf_any _ _).mono ?_; rintro e w' ⟨rfl, rfl⟩)
          | (go_at_call 15; refine (inBounds_any _ _ _ _ HV.out (show data.length ≤ 120 by omega)).mono ?_; rintro e w1 ⟨he, hb1⟩; obtain rfl : e = .returned (.bool true) := he.trans (congrArg (fun b => Ending.returned (.bool b)) G1.out); have HB1 := Lib.hid (HW.out.trans (hb1.mono HW.out.size)); have HV1 := Lib.hid (HV.out.on hb1); obtain ⟨d0, d1, d2, d3, d4, d5, d6⟩ := seven hb1; clear hb1 he)
          | (go_at_call 16; refine (inForm_any _ _ _ _ HV1.out (show rs.length ≤ 6 by omega)).mono ?_; rintro e w2 ⟨he2, hb2⟩; obtain rfl : e = .returned (.bool true) := he2.trans (congrArg (fun b => Ending.returned (.bool b)) G2.out); have HB2 := Lib.hid (HB1.out.trans (hb2.mono HB1.out.size)); clear hb2 he2))
        go_ret
        exact ⟨by rw [hv.out]; rfl, HB2.out⟩
end Go.Proofs.Ytjeocggocloigaa
