/- Ranges told the highest first are a set told the lowest first. Nothing of the program's. -/
import Derived.Test.YtjeocggocloigaaFrMath
namespace Go.Proofs.Ytjeocggocloigaa.P
set_option linter.unusedVariables false

theorem lastHi_rev (t : List (Int × Int)) : lastHi (-2) t.reverse = (t.head?.map (·.2)).getD (-2) := by
  cases t with
  | nil => rfl
  | cons y t => rw [List.reverse_cons, lastHi_snoc]; rfl
theorem down_iff : ∀ (l : List (Int × Int)) (b : Int), downFrom b l ↔ okL l.reverse ∧ ∀ x, l.head? = some x → x.2 + 2 ≤ b
  | [], b => by simp [downFrom, okL, okFrom]
  | x :: t, b => by
    have ih := down_iff t x.1
    show (okR x ∧ x.2 + 2 ≤ b ∧ downFrom x.1 t) ↔ _
    rw [ih, List.reverse_cons]
    unfold okL
    rw [okFrom_snoc, lastHi_rev]
    constructor
    · rintro ⟨h1, h2, h3, h4⟩
      refine ⟨⟨h3, h1, ?_⟩, fun y hy => by simp at hy; subst hy; exact h2⟩
      cases t with
      | nil => have := h1.1; simp; omega
      | cons y t => have := h4 y rfl; simpa using this
    · rintro ⟨⟨h3, h1, h5⟩, h2⟩
      refine ⟨h1, h2 x rfl, h3, fun y hy => ?_⟩
      rw [hy] at h5
      simpa using h5
theorem downL_iff (l : List (Int × Int)) : downL l ↔ okL l.reverse := by
  unfold downL
  rw [down_iff]
  constructor
  · exact fun h => h.1
  · refine fun h => ⟨h, fun x hx => ?_⟩
    have hm : x ∈ l.reverse := List.mem_reverse.2 (List.mem_of_head? hx)
    have := (okFrom_all h hm).1.2.2
    omega
/-- one range more: read from the highest on -/
theorem down_step (l : List (Int × Int)) (k : Nat) (h : k < l.length) : downL (l.take (k + 1)) ↔ downL (l.take k) ∧ okR (l.getD k (0, 0)) ∧ (0 < k → (l.getD k (0, 0)).2 + 2 ≤ (l.getD (k - 1) (0, 0)).1) := by
  have key : ∀ (l : List (Int × Int)) (k : Nat) (b : Int), k < l.length → (downFrom b (l.take (k + 1)) ↔ downFrom b (l.take k) ∧ okR (l.getD k (0, 0)) ∧ (l.getD k (0, 0)).2 + 2 ≤ (if k = 0 then b else (l.getD (k - 1) (0, 0)).1)) := by
    intro l
    induction l with
    | nil => intro k b h; simp at h
    | cons x t ih =>
      intro k b h
      cases k with
      | zero => simp [downFrom]
      | succ k =>
        have := ih k x.1 (by simpa using h)
        rw [List.take_succ_cons, List.take_succ_cons]
        show (okR x ∧ x.2 + 2 ≤ b ∧ downFrom x.1 (t.take (k + 1))) ↔ (okR x ∧ x.2 + 2 ≤ b ∧ downFrom x.1 (t.take k)) ∧ _
        rw [this]
        have e1 : (x :: t).getD (k + 1) (0, 0) = t.getD k (0, 0) := rfl
        have e2 : (if k = 0 then x.1 else (t.getD (k - 1) (0, 0)).1) = (if k + 1 = 0 then b else ((x :: t).getD (k + 1 - 1) (0, 0)).1) := by
          rw [if_neg (by omega : ¬ k + 1 = 0)]
          cases k with
          | zero => rfl
          | succ k => rfl
        rw [e1, e2]
        simp only [and_assoc]
  unfold downL
  rw [key l k _ h]
  cases k with
  | zero =>
    simp only [if_true]
    constructor
    · rintro ⟨a, b, c⟩; exact ⟨a, b, fun h => absurd h (by omega)⟩
    · rintro ⟨a, b, c⟩; exact ⟨a, b, by have := b.2.2; omega⟩
  | succ k =>
    rw [if_neg (by omega)]
    constructor
    · rintro ⟨a, b, c⟩; exact ⟨a, b, fun _ => c⟩
    · rintro ⟨a, b, c⟩; exact ⟨a, b, c (by omega)⟩
theorem down_not {l : List (Int × Int)} {k : Nat} (h : ¬ downL (l.take k)) : ¬ downL l := by
  have key : ∀ (l : List (Int × Int)) (k : Nat) (b : Int), downFrom b l → downFrom b (l.take k) := by
    intro l
    induction l with
    | nil => intro k b h; simpa using h
    | cons x t ih =>
      intro k b h
      cases k with
      | zero => trivial
      | succ k => exact ⟨h.1, h.2.1, ih k _ h.2.2⟩
  exact fun h' => h (key l k _ h')
end Go.Proofs.Ytjeocggocloigaa.P
