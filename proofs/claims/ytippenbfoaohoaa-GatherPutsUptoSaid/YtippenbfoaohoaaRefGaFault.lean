/- The document's answers on gathers: GatherFault. -/
import Derived.Test.YtippenbfoaohoaaGaVal
import Derived.Test.YtippenbfoaohoaaRefUp2
import Derived.Test.YtippenbfoaohoaaMem
import Derived.Deep.LoopGhost
namespace Go.Proofs.Ytippenbfoaohoaa
set_option linter.unusedVariables false
open Go.RowKit P

/-- the four cells of a gather's block -/
theorem bkG {w : World} {b : Nat} {a0 a1 a2 a3 : Value} {T : TypeId} (h : w.heap[b]? = some (.cells #[a0, a1, a2, a3] T (0, 0))) :
    w.cell? ⟨b, 0, none⟩ = some a0 ∧ w.cell? ⟨b, 1, none⟩ = some a1 ∧ w.cell? ⟨b, 2, none⟩ = some a2 ∧ w.cell? ⟨b, 3, none⟩ = some a3 :=
  ⟨bk_cell h 0, bk_cell h 1, bk_cell h 2, bk_cell h 3⟩
/-- what holds of ok and at behind so many pieces -/
def GInv (g : Ga) (k : Nat) (b : Bool) (a : Int) : Prop := (b = true → okPs (g.done - 1) (g.held.take k) ∧ a = reachP g.done (g.held.take k)) ∧ (b = false → ¬ okG g)
theorem gInv_step {g : Ga} {k : Nat} {a : Int} (h : GInv g k true a) (hk : k < g.held.length) (h1 : (g.held.getD k pc0).2 ≠ []) (h2 : endP (g.held.getD k pc0) ≤ 4611686018427387903) (h3 : a < (g.held.getD k pc0).1 ∨ k = 0 ∧ (g.held.getD k pc0).1 = a) : GInv g (k + 1) true (endP (g.held.getD k pc0)) := by
  obtain ⟨q1, q2⟩ := h.1 rfl
  refine ⟨fun _ => ?_, fun e => by cases e⟩
  rw [take_step hk]
  refine ⟨(ok_snoc _ _ _).2 ⟨q1, h1, ?_⟩, (reach_snoc _ _ _).symm⟩
  cases k with
  | zero =>
    simp only [List.take_zero, reachP] at q2 ⊢
    omega
  | succ k =>
    have : reachP (g.done - 1) (g.held.take (k + 1)) = reachP g.done (g.held.take (k + 1)) := by
      cases hps : g.held.take (k + 1) with
      | nil => exfalso; have := congrArg List.length hps; rw [List.length_take, List.length_nil] at this; omega
      | cons p q => rfl
    omega
theorem gInv_bad {g : Ga} {k : Nat} {a b : Int} (h : GInv g k true a) (hk : k < g.held.length) (hb : (g.held.getD k pc0).2 = [] ∨ (g.held.getD k pc0).1 < 0 ∨ 4611686018427387903 < endP (g.held.getD k pc0) ∨ ¬(a < (g.held.getD k pc0).1 ∨ k = 0 ∧ (g.held.getD k pc0).1 = a)) : GInv g (k + 1) false b := by
  refine ⟨fun e => (by cases e), fun _ hg => ?_⟩
  obtain ⟨o1, o2, o3, o4, o5, o6, o7⟩ := hg
  obtain ⟨q1, q2⟩ := h.1 rfl
  have e := List.take_append_drop (k + 1) g.held
  rw [← e] at o5
  have t := (ok_app _ _ _).1 o5
  rw [take_step hk] at t
  have t2 := (ok_snoc _ _ _).1 t.1
  have rm := reach_take (d := g.done) (by rw [e] at o5; exact o5) (k + 1) (by omega) (by omega)
  rw [take_step hk, reach_snoc] at rm
  have lo : g.done - 1 ≤ reachP (g.done - 1) (g.held.take k) := reach_mono _ _ t2.1
  rcases hb with hb | hb | hb | hb
  · exact t2.2.1 hb
  · omega
  · omega
  · apply hb
    cases k with
    | zero =>
      simp only [List.take_zero, reachP] at q2 t2 ⊢
      omega
    | succ k =>
      have : reachP (g.done - 1) (g.held.take (k + 1)) = reachP g.done (g.held.take (k + 1)) := by
        cases hps : g.held.take (k + 1) with
        | nil => exfalso; have := congrArg List.length hps; rw [List.length_take, List.length_nil] at this; omega
        | cons p q => rfl
      omega
/-- in the end -/
theorem gInv_end {g : Ga} {b : Bool} {a : Int} (h : GInv g g.held.length b a) (h0 : 0 ≤ g.done ∧ -1 ≤ g.final ∧ (0 ≤ g.window ∧ g.window ≤ 4611686018427387903) ∧ g.held.length ≤ 4) :
    faultG g = if b = true ∧ a ≤ g.window ∧ (0 ≤ g.final → a ≤ g.final) then 0 else 9 := by
  unfold faultG
  cases b with
  | false => rw [if_neg (h.2 rfl), if_neg (by simp)]
  | true =>
    obtain ⟨q1, q2⟩ := h.1 rfl
    rw [drop_nil_of (Nat.le_refl _)] at q1 q2
    by_cases k : a ≤ g.window ∧ (0 ≤ g.final → a ≤ g.final)
    · rw [if_pos ⟨h0.1, h0.2.1, h0.2.2.1, h0.2.2.2, q1, q2 ▸ k.1, q2 ▸ k.2⟩, if_pos ⟨rfl, k⟩]
    · rw [if_neg (fun hg => k ⟨q2 ▸ hg.2.2.2.2.2.1, q2 ▸ hg.2.2.2.2.2.2⟩), if_neg (fun hg => k hg.2)]

section
variable {done final window : Int} {A : Option Addr} {n c : Nat} {w : World}
theorem refGaF_early (hb : ((decide (0 ≤ done) && decide (-1 ≤ final)) && upB2 window 4611686018427387903 && decide (n ≤ 4)) = false) :
    Calls Try.prog 13 #[.agg #[.int .i64 done, .slice A n c, .int .i64 final, .int .i64 window]] w fun e w' => e = .returned (.int .i64 9) ∧ Below w.heap.size w w' := by
  have B0 := Lib.hid ((Below.refl w.heap.size w).alloc (Nat.le_refl _) (.cells #[.int .i64 done, .slice A n c, .int .i64 final, .int .i64 window] 24))
  by_cases h0 : 0 ≤ done
  · by_cases h1 : -1 ≤ final
    · by_cases h2 : upB2 window 4611686018427387903 = true
      · have h3 : ¬ n ≤ 4 := fun e => by simp [h0, h1, h2, e] at hb
        have h3' : decide ((n : Int) ≤ 4) = false := by simp; omega
        clear hb
        go_enter Try.func13, Try.ntmps13
        go_wp2_with (go_at_call 28; refine (upTo_any _ _ _).mono ?_; rintro e w' ⟨rfl, rfl⟩)
        go_rounds 1
        go_ret
        exact ⟨rfl, B0.out⟩
      · have h2' : upB2 window 4611686018427387903 = false := by simpa using h2
        clear hb h2
        go_enter Try.func13, Try.ntmps13
        go_wp2_with (go_at_call 28; refine (upTo_any _ _ _).mono ?_; rintro e w' ⟨rfl, rfl⟩)
        go_rounds 1
        go_ret
        exact ⟨rfl, B0.out⟩
    · have h1' : decide (-1 ≤ final) = false := by simp; omega
      clear hb
      go_enter Try.func13, Try.ntmps13
      go_wp2_with fail
      go_rounds 1
      go_ret
      exact ⟨rfl, B0.out⟩
  · have h0' : decide (0 ≤ done) = false := by simp; omega
    clear hb
    go_enter Try.func13, Try.ntmps13
    go_wp2_with fail
    go_rounds 1
    go_ret
    exact ⟨rfl, B0.out⟩
end
end Go.Proofs.Ytippenbfoaohoaa
