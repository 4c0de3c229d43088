/- Texts of the proofs, joined. -/
import Derived.Test.YtjeocggocloigaaQU
import Derived.Test.YtjeocggocloigaaQV
/- The document's answers on frames: FrameFault, whole. -/
namespace Go.Proofs.Ytjeocggocloigaa
set_option linter.unusedVariables false
open Go.RowKit P

set_option maxHeartbeats 2000000 in
theorem refFault_any (v : Value) (f : Fr) (w : World) (h : FrVal w w.heap.size v f) (hk : (Lit.int .i64 f.kind).wf = true) :
    Calls Try.prog 7 #[v] w fun e w' => e = .returned (.int .i64 (faultF f)) ∧ Below w.heap.size w w' := by
  have hAB : ∀ s, partsOf f.kind = some s → ¬ 120 < f.data.length → ¬ 6 < f.rs.length → Calls Try.prog 7 #[v] w fun e w' => e = .returned (.int .i64 (faultF f)) ∧ Below w.heap.size w w' := fun s hp c1 c2 => by
    cases hg : inS s 99
    · exact refFault_A v f w h hk s hp c1 c2 hg
    · exact refFault_B v f w h hk s hp c1 c2 hg
  obtain ⟨r, d, rfl, hr, hd⟩ := h.ex
  obtain ⟨A', n', hdv, _, _, _, _⟩ := hd.ex
  obtain ⟨A, c, hrv, _, _, hrr⟩ := hr.ex
  subst hrv hdv
  have HF0 := Lib.hid (fun h => faultF_no (f := f) h)
  have HF1 := Lib.hid (fun s h => faultF_some (f := f) (s := s) h)
  have HFR := Lib.hid (fun s h => faultR (f := f) (s := s) h)
  have HW := Lib.hid ((Below.refl w.heap.size w).alloc (Nat.le_refl _) (.cells #[.int .i64 f.kind, .int .i64 f.id, .int .i64 f.off, .bool f.fin, .int .i64 f.code, .slice A f.rs.length c, .slice A' f.data.length n'] 25))
  have HR := Lib.hid (hrr.on HW.out)
  clear hr hd h hrr
  obtain ⟨x, hx⟩ : ∃ x, faultF f = x := ⟨_, rfl⟩
  rw [hx] at HF0 HF1 HFR hAB ⊢
  clear hx
  obtain ⟨k, id, off, fin, code, rs, data⟩ := f
  simp only at HF0 HF1 HFR HW HR hk hAB ⊢
  have HAB := Lib.hid hAB
  clear hAB
  have HK := Lib.hid hk
  clear hk
  cases hp : partsOf k with
  | none =>
    have hv := Lib.hid (HF0.out hp)
    have HP := Lib.hid hp
    clear HF0 HF1 HFR HR hp
    go_enter Try.func7, Try.ntmps7
    go_wp2_with (go_at_call 17; refine (refHas_none HP.out HK.out _).mono ?_; rintro e w1 ⟨rfl, hb1⟩; have HB1 := Lib.hid (HW.out.trans (hb1.mono HW.out.size)); clear hb1)
    go_ret
    exact ⟨by rw [hv.out]; rfl, HB1.out⟩
  | some s =>
    have HV1 := Lib.hid (HF1.out s hp)
    have HVR := Lib.hid (HFR.out s hp)
    have HP := Lib.hid hp
    have HIN := Lib.hid (refInS hp)
    clear HF0 HF1 HFR hp
    obtain ⟨S, hS⟩ : ∃ S, strOfNums s = S := ⟨_, rfl⟩
    have HH := Lib.hid (fun w => hS ▸ refHas_some HP.out HK.out w : ∀ w, Calls Try.prog 17 #[.int .i64 k] w fun e w' => e = .returned (.tuple #[.string S, .bool true]) ∧ Below w.heap.size w w')
    have HI := Lib.hid (HIN.out S hS.symm)
    clear hS HIN
    by_cases c1 : 120 < data.length
    · have hv := Lib.hid (HV1.out.trans (if_pos (.inl c1)))
      clear HV1 HVR HR
      go_enter Try.func7, Try.ntmps7
      go_wp2_with (go_at_call 17; refine (HH.out _).mono ?_; rintro e w1 ⟨rfl, hb1⟩; obtain ⟨d0, d1, d2, d3, d4, d5, d6⟩ := seven hb1; have HB1 := Lib.hid (HW.out.trans (hb1.mono HW.out.size)); clear hb1)
      go_ret
      exact ⟨by rw [hv.out]; rfl, HB1.out⟩
    by_cases c2 : 6 < rs.length
    · have hv := Lib.hid (HV1.out.trans (if_pos (.inr c2)))
      clear HV1 HVR HR
      go_enter Try.func7, Try.ntmps7
      go_wp2_with (go_at_call 17; refine (HH.out _).mono ?_; rintro e w1 ⟨rfl, hb1⟩; obtain ⟨d0, d1, d2, d3, d4, d5, d6⟩ := seven hb1; have HB1 := Lib.hid (HW.out.trans (hb1.mono HW.out.size)); clear hb1)
      go_ret
      exact ⟨by rw [hv.out]; rfl, HB1.out⟩
    exact HAB.out s HP.out c1 c2
end Go.Proofs.Ytjeocggocloigaa
