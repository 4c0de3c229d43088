/- Contracts of package frame: partsOf, has, mayBe, inBounds, inForm, Check. -/
import Derived.Test.YtjeocggocloigaaRev
import Derived.Test.YtjeocggocloigaaFrSet
import Derived.Deep.QuietTactic
import Derived.BigQuiet
namespace Go.Proofs.Ytjeocggocloigaa
set_option linter.unusedVariables false
open Go.RowKit P

theorem partsOf_any (k : Int) (w : World) :
    Calls Try.prog 14 #[.int .i64 k] w fun e w' => e = .returned (.tuple #[.int .u64 (maskOf k), .bool (partsOf k).isSome]) ∧ w = w' := by
  by_cases h : k = 0 ∨ k = 1 ∨ k = 2 ∨ k = 4 ∨ k = 5 ∨ k = 6 ∨ k = 7 ∨ k = 8 ∨ k = 16 ∨ k = 17 ∨ k = 18 ∨ k = 26 ∨ k = 27 ∨ k = 28 ∨ k = 30
  · rcases h with rfl | rfl | rfl | rfl | rfl | rfl | rfl | rfl | rfl | rfl | rfl | rfl | rfl | rfl | rfl
    all_goals
      go_enter Try.func14, Try.ntmps14
      go_wp2
      go_ret2
      exact ⟨rfl, rfl⟩
  · simp only [not_or] at h
    obtain ⟨h0, h1, h2, h3, h4, h5, h6, h7, h8, h9, ha, hb, hc, hd, he⟩ := h
    have e1 : maskOf k = 0 := by unfold maskOf; simp only [h2, h3, h4, h5, h6, h7, h8, h9, ha, hb, hc, hd, if_false]
    have e2 : (partsOf k).isSome = false := by unfold partsOf; simp only [h0, h1, h2, h3, h4, h5, h6, h7, h8, h9, ha, hb, hc, hd, he, if_false, Option.isSome_none]
    go_enter Try.func14, Try.ntmps14
    go_wp2
    go_ret2
    exact ⟨by first | rfl | (rw [e1, e2]; rfl), rfl⟩

theorem hasP_any (m x : Int) (w : World) :
    Calls Try.prog 28 #[.int .u64 m, .int .u64 x] w fun e w' => e = .returned (.bool (hasM m x)) ∧ w = w' := by
  obtain ⟨y, hy⟩ : ∃ y, bits .and .u64 m x = y := ⟨_, rfl⟩
  have HY := Lib.hid (show hasM m x = decide (y = x) by unfold hasM; rw [hy])
  go_enter Try.func28, Try.ntmps28
  go_wp2
  go_ret
  exact ⟨by rw [HY.out]; first | rfl | simp [beq_eq_decide], rfl⟩

theorem mayBe_any (n : Int) (h : Bool) (w : World) :
    Calls Try.prog 27 #[.int .i64 n, .bool h] w fun e w' => e = .returned (.bool (mbV h n)) ∧ w = w' := by
  by_cases n0 : n = 0
  · subst n0
    go_enter Try.func27, Try.ntmps27
    go_wp2
    go_ret
    exact ⟨by cases h <;> rfl, rfl⟩
  have g0 : (n == 0) = false := by simp [n0]
  cases h
  · have hv : mbV false n = false := by unfold mbV numBad; simp [n0]
    go_enter Try.func27, Try.ntmps27
    go_wp2
    go_ret
    exact ⟨by first | rfl | (rw [hv]; rfl), rfl⟩
  by_cases n1 : 0 < n
  · by_cases n2 : n ≤ 4611686018427387903
    · have hv : mbV true n = true := by unfold mbV numBad; simp; omega
      go_enter Try.func27, Try.ntmps27
      go_wp2
      go_ret
      exact ⟨by first | rfl | (rw [hv]; rfl), rfl⟩
    · have hv : mbV true n = false := by unfold mbV numBad; simp; omega
      go_enter Try.func27, Try.ntmps27
      go_wp2
      go_ret
      exact ⟨by first | rfl | (rw [hv]; rfl), rfl⟩
  · have hv : mbV true n = false := by unfold mbV numBad; simp; omega
    go_enter Try.func27, Try.ntmps27
    go_wp2
    go_ret
    exact ⟨by first | rfl | (rw [hv]; rfl), rfl⟩

set_option maxHeartbeats 2000000 in
theorem inBounds_any (v : Value) (f : Fr) (m : Int) (w : World) (h : FrVal w w.heap.size v f) (hn : f.data.length ≤ 120) :
    Calls Try.prog 15 #[v, .int .u64 m] w fun e w' => e = .returned (.bool (inBV m f.id f.off f.code f.data.length)) ∧ Below w.heap.size w w' := by
  obtain ⟨r, d, rfl, hr, hd⟩ := h.ex
  obtain ⟨A, c, rfl, _, _, _, _⟩ := hd.ex
  clear hd hr h
  obtain ⟨k, id, off, fin, code, rs, data⟩ := f
  simp only at hn ⊢
  obtain ⟨n, hnn⟩ : ∃ n : Nat, data.length = n := ⟨_, rfl⟩
  rw [hnn] at hn ⊢
  clear hnn
  have HI := Lib.hid (show inBV m id off code n = (mbV (hasM m 1) id && mbV (hasM m 2) off && mbV (hasM m 8) code && (!hasM m 34 || decide (off + n ≤ 4611686018427387903))) from rfl)
  have HW := Lib.hid ((Below.refl w.heap.size w).alloc (Nat.le_refl _) (.cells #[.int .i64 k, .int .i64 id, .int .i64 off, .bool fin, .int .i64 code, r, .slice A n c] 25))
  rw [HI.out]
  have ho : mbV (hasM m 2) off = true → 0 ≤ off ∧ off ≤ 4611686018427387903 := fun f2 => by
    unfold mbV numBad at f2
    cases hasM m 2 <;> simp at f2 <;> omega
  clear HI
  cases f1 : mbV (hasM m 1) id
  · clear ho
    go_enter Try.func15, Try.ntmps15
    go_wp2
    go_quiet (first
      | (go_at_call 28; exact Calls.quiet_of_same ((hasP_any _ _ _).mono fun _ _ ⟨a, b⟩ => ⟨a, b.symm⟩))
      | (go_at_call 27; exact Calls.quiet_of_same ((mayBe_any _ _ _).mono fun _ _ ⟨a, b⟩ => ⟨a, b.symm⟩)))
    go_wp2
    go_ret
    exact ⟨rfl, Go.below_drewN HW.out _⟩
  cases f2 : mbV (hasM m 2) off
  · clear ho
    go_enter Try.func15, Try.ntmps15
    go_wp2
    go_quiet (first
      | (go_at_call 28; exact Calls.quiet_of_same ((hasP_any _ _ _).mono fun _ _ ⟨a, b⟩ => ⟨a, b.symm⟩))
      | (go_at_call 27; exact Calls.quiet_of_same ((mayBe_any _ _ _).mono fun _ _ ⟨a, b⟩ => ⟨a, b.symm⟩)))
    go_wp2
    go_ret
    exact ⟨rfl, Go.below_drewN HW.out _⟩
  obtain ⟨o0, o1⟩ := ho f2
  clear ho
  cases f3 : mbV (hasM m 8) code
  · go_enter Try.func15, Try.ntmps15
    go_wp2
    go_quiet (first
      | (go_at_call 28; exact Calls.quiet_of_same ((hasP_any _ _ _).mono fun _ _ ⟨a, b⟩ => ⟨a, b.symm⟩))
      | (go_at_call 27; exact Calls.quiet_of_same ((mayBe_any _ _ _).mono fun _ _ ⟨a, b⟩ => ⟨a, b.symm⟩)))
    go_wp2
    go_ret
    exact ⟨rfl, Go.below_drewN HW.out _⟩
  cases f4 : hasM m 34
  · go_enter Try.func15, Try.ntmps15
    go_wp2
    go_quiet (first
      | (go_at_call 28; exact Calls.quiet_of_same ((hasP_any _ _ _).mono fun _ _ ⟨a, b⟩ => ⟨a, b.symm⟩))
      | (go_at_call 27; exact Calls.quiet_of_same ((mayBe_any _ _ _).mono fun _ _ ⟨a, b⟩ => ⟨a, b.symm⟩)))
    go_wp2_with (go_at_call 28; refine (hasP_any _ _ _).mono ?_; rintro e w' ⟨rfl, rfl⟩)
    go_ret
    exact ⟨rfl, Go.below_drewN HW.out _⟩
  · by_cases hle : off + n ≤ 4611686018427387903
    · go_enter Try.func15, Try.ntmps15
      go_wp2
      go_quiet (first
      | (go_at_call 28; exact Calls.quiet_of_same ((hasP_any _ _ _).mono fun _ _ ⟨a, b⟩ => ⟨a, b.symm⟩))
      | (go_at_call 27; exact Calls.quiet_of_same ((mayBe_any _ _ _).mono fun _ _ ⟨a, b⟩ => ⟨a, b.symm⟩)))
      go_wp2_with (go_at_call 28; refine (hasP_any _ _ _).mono ?_; rintro e w' ⟨rfl, rfl⟩)
      go_ret
      exact ⟨by simp [hle], Go.below_drewN HW.out _⟩
    · go_enter Try.func15, Try.ntmps15
      go_wp2
      go_quiet (first
      | (go_at_call 28; exact Calls.quiet_of_same ((hasP_any _ _ _).mono fun _ _ ⟨a, b⟩ => ⟨a, b.symm⟩))
      | (go_at_call 27; exact Calls.quiet_of_same ((mayBe_any _ _ _).mono fun _ _ ⟨a, b⟩ => ⟨a, b.symm⟩)))
      go_wp2_with (go_at_call 28; refine (hasP_any _ _ _).mono ?_; rintro e w' ⟨rfl, rfl⟩)
      go_ret
      exact ⟨by simp [hle], Go.below_drewN HW.out _⟩

end Go.Proofs.Ytjeocggocloigaa
