/- A set without many ranges, one after the other: what SenderOver and SenderLost of the document do. Nothing of the program's. -/
import Derived.Test.YtkpkgegonfcgnaaSnMath
namespace Go.Proofs.Ytkpkgegonfcgnaa.P
set_option linter.unusedVariables false

/-- l without each of xs, in their order -/
def wosL (l xs : List (Int × Int)) : List (Int × Int) := xs.foldl (fun l x => cutL x l) l
theorem wos_snoc (l xs : List (Int × Int)) (k : Nat) (h : k < xs.length) : wosL l (xs.take (k + 1)) = cutL (xs.getD k (0, 0)) (wosL l (xs.take k)) := by
  rw [takeR_snoc xs k h]
  simp [wosL, List.foldl_append]
theorem wos_ok : ∀ (xs : List (Int × Int)) {l : List (Int × Int)}, okL l → (∀ x ∈ xs, okR x) → okL (wosL l xs) ∧ (∀ n, mem (wosL l xs) n ↔ mem l n ∧ ¬ mem xs n) ∧ (wosL l xs).length ≤ l.length + xs.length
  | [], l, h, _ => ⟨h, fun n => by simp [wosL, mem], by simp [wosL]⟩
  | x :: xs, l, h, hx => by
    have h1 := cutL_ok h (hx x (List.mem_cons_self ..))
    have h2 := wos_ok xs h1.1 (fun y hy => hx y (List.mem_cons_of_mem _ hy))
    have h3 := cut_len (hx x (List.mem_cons_self ..)) h
    refine ⟨h2.1, fun n => ?_, by
      have := h2.2.2
      simp only [List.length_cons]
      show (wosL (cutL x l) xs).length ≤ _
      omega⟩
    show mem (wosL (cutL x l) xs) n ↔ _
    rw [h2.2.1 n, h1.2 n]
    simp only [mem]
    constructor
    · rintro ⟨⟨a, b⟩, c⟩
      exact ⟨a, fun e => e.elim b c⟩
    · rintro ⟨a, b⟩
      exact ⟨⟨a, fun e => b (.inl e)⟩, fun e => b (.inr e)⟩
theorem okL_all {l : List (Int × Int)} (h : okL l) : ∀ x ∈ l, okR x := fun x hx => (okFrom_all h hx).1
theorem okL_one {r : Int × Int} (hr : okR r) : okL [r] := ⟨hr, by have := hr.1; omega, trivial⟩
/-- one range without each of a set: the holes -/
theorem wos_holes {l : List (Int × Int)} {r : Int × Int} (h : okL l) (hr : okR r) : wosL [r] l = holesF r.2 r.1 l := by
  have a := wos_ok l (okL_one hr) (okL_all h)
  have b := holesL_ok h hr
  refine ok_ext a.1 b.1 fun n => ?_
  rw [a.2.1 n, b.2 n]
  simp [mem]
/-- is all of the data heard of -/
theorem wos_all {s : Sn} (ok : okSn s) : (if s.data.length = 0 then [] else wosL [(0, (s.data.length : Int) - 1)] s.acked) = [] ↔ allA s = true := by
  have k1 := ok.1
  by_cases h0 : s.data.length = 0
  · rw [if_pos h0]
    have : s.data = [] := List.eq_nil_of_length_eq_zero h0
    unfold allA
    simp [this]
  · rw [if_neg h0, wos_holes ok.2.2.2.2.1 (⟨Int.le_refl _, by simp only; omega, by simp only; omega⟩ : okR (0, (s.data.length : Int) - 1))]
    unfold allA
    rw [decide_eq_true_iff]
    constructor
    · exact .inr
    · rintro (h | h)
      · rw [h] at h0; exact absurd rfl h0
      · exact h
end Go.Proofs.Ytkpkgegonfcgnaa.P
