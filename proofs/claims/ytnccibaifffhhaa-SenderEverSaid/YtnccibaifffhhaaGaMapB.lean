/- A map of bytes as a reading says it; its keys, collected and sorted. Nothing of the program's. -/
import Derived.Test.YtnccibaifffhhaaGaGrp
import Derived.Maps.RangeWalk
import Derived.Maps.OwnOps
namespace Go.Proofs.Ytnccibaifffhhaa.P
set_option linter.unusedVariables false
open Go.RowKit

abbrev ky (x : Int) : Lit := .int .i64 x
theorem ky_key (x : Int) : WideAt.IsKeyLit (ky x) := trivial
theorem ky_ne {x y : Int} (h : x ≠ y) : ky x ≠ ky y := fun e => h (by cases e; rfl)
/-- what a map's reading says: f -/
structure MapB {H : Type} (D : DataW H) (f : Int → Option Int) : Prop where
  map : Maps.IsMap D
  no : ∀ x, f x = none → Maps.has D (ky x) = false
  yes : ∀ x c, f x = some c → Maps.has D (ky x) = true ∧ ∀ z, D.atKey (ky x) z = .lit (.int .u8 c)
theorem MapB.empty {H : Type} : MapB (.map [] : DataW H) (fun _ => none) := ⟨Maps.isMap_empty, fun x _ => rfl, fun x c h => by cases h⟩
theorem MapB.put {H : Type} {D : DataW H} {f : Int → Option Int} (h : MapB D f) (x c : Int) : MapB (D.put (ky x) (.lit (.int .u8 c))) (fun y => if y = x then some c else f y) := by
  refine ⟨h.map.put _ _, fun y hy => ?_, fun y d hy => ?_⟩
  · by_cases e : y = x
    · simp [e] at hy
    · rw [if_neg e] at hy
      rw [Maps.has_put_other (ky_ne e)]
      exact h.no y hy
  · by_cases e : y = x
    · subst e
      simp at hy
      subst hy
      exact ⟨Maps.has_put_same h.map (ky_key _) _, fun z => Maps.atKey_put_same h.map (ky_key _) _ z⟩
    · rw [if_neg e] at hy
      rw [Maps.has_put_other (ky_ne e)]
      exact ⟨(h.yes y d hy).1, fun z => by rw [Maps.atKey_put_other (ky_ne e)]; exact (h.yes y d hy).2 z⟩
theorem MapB.congr {H : Type} {D : DataW H} {f g : Int → Option Int} (h : MapB D f) (e : ∀ x, f x = g x) : MapB D g := ⟨h.map, fun x hx => h.no x (by rw [e, hx]), fun x c hx => h.yes x c (by rw [e, hx])⟩
theorem MapB.has {H : Type} {D : DataW H} {f : Int → Option Int} (h : MapB D f) (x : Int) : Maps.has D (ky x) = (f x).isSome := by
  cases hf : f x with
  | none => rw [h.no x hf]; rfl
  | some c => rw [(h.yes x c hf).1]; rfl
/-- the keys met so far -/
def CollI {H : Type} (D0 : DataW H) (left : Lit → Bool) (ks : List Int) : Prop := ks.Nodup ∧ ∀ x, x ∈ ks ↔ (Maps.has D0 (ky x) = true ∧ left (ky x) = false)
theorem CollI.start {H : Type} (D0 : DataW H) : CollI D0 (Maps.has D0) [] := ⟨List.nodup_nil, fun x => by cases Maps.has D0 (ky x) <;> simp⟩
theorem CollI.step {H : Type} {D0 : DataW H} {left : Lit → Bool} {ks : List Int} (h : CollI D0 left ks) {x : Int} {y : DataW H} (hlk : left (ky x) = true) (hat : ∀ zd, D0.atKey (ky x) zd = y) : CollI D0 (fun z => left z && !z.sameKey (ky x)) (ks ++ [x]) := by
  have hhas : Maps.has D0 (ky x) = true := Maps.has_true_of_atKey hat
  have hnew : x ∉ ks := fun hx => by have := ((h.2 x).1 hx).2; rw [hlk] at this; cases this
  refine ⟨List.nodup_append.2 ⟨h.1, by simp, fun a ha b hb => by simp at hb; subst hb; exact fun e => hnew (e ▸ ha)⟩, fun y => ?_⟩
  by_cases hy : y = x
  · subst hy; simp [hhas, Lit.sameKey]
  · simp [h.2 y, hy, Lit.sameKey]
theorem CollI.done {H : Type} {D0 : DataW H} {f : Int → Option Int} {left : Lit → Bool} {ks : List Int} (h : CollI D0 left ks) (hm : MapB D0 f) (hl : ∀ kl, left kl = false) (x : Int) : x ∈ ks ↔ (f x).isSome := by
  rw [h.2 x, hl, hm.has x]; simp
/-- a list without doubles, sorted: it rises -/
theorem sort_rises {ks : List Int} (h : ks.Nodup) : (ks.mergeSort fun x y => decide (x ≤ y)).Pairwise (· < ·) := by
  have tr : ∀ a b c : Int, decide (a ≤ b) = true → decide (b ≤ c) = true → decide (a ≤ c) = true := fun a b c h1 h2 => by simp only [decide_eq_true_eq] at *; omega
  have to : ∀ a b : Int, (decide (a ≤ b) || decide (b ≤ a)) = true := fun a b => by simp only [Bool.or_eq_true, decide_eq_true_eq]; omega
  have p1 := List.pairwise_mergeSort tr to ks
  have p2 : (ks.mergeSort fun x y => decide (x ≤ y)).Nodup := (List.mergeSort_perm ks _).nodup_iff.2 h
  refine (List.pairwise_and_iff.2 ⟨p1, p2⟩).imp ?_
  rintro a b ⟨h1, h2⟩
  simp only [decide_eq_true_eq] at h1
  omega
theorem sort_mem {ks : List Int} {x : Int} : x ∈ (ks.mergeSort fun x y => decide (x ≤ y)) ↔ x ∈ ks := (List.mergeSort_perm ks _).mem_iff
theorem sort_len {ks : List Int} : (ks.mergeSort fun x y => decide (x ≤ y)).length = ks.length := (List.mergeSort_perm ks _).length_eq
theorem size_le {H : Type} {P : Program} {k : TypeId} {R : Value → Option (DataW H × List MemPlace)} {w : World} {b n : Nat} {D : DataW H} (h : w.ownsMap P k R b n D) : Maps.size D ≤ n := by
  obtain ⟨es, clock, _, _, hs, rfl⟩ := h
  simp only [Maps.size, length_sorted, List.length_map, Array.length_toList]
  exact hs
/-- one step further in a rising list -/
theorem rise_step {pl : List Int} (h : pl.Pairwise (· < ·)) {k : Nat} (hk : k < pl.length) : (∀ y ∈ pl.take k, y < pl.getD k 0) ∧ pl.take (k + 1) = pl.take k ++ [pl.getD k 0] ∧ (pl.take k).getLast? = if k = 0 then none else some (pl.getD (k - 1) 0) := by
  have e : pl.getD k 0 = pl[k] := by rw [List.getD_eq_getElem?_getD, List.getElem?_eq_getElem hk]; rfl
  refine ⟨fun y hy => ?_, by rw [List.take_succ_eq_append_getElem hk, e], ?_⟩
  · obtain ⟨i, hi, rfl⟩ := List.getElem_of_mem hy
    rw [List.length_take] at hi
    rw [e, List.getElem_take]
    exact List.pairwise_iff_getElem.1 h i k (by omega) hk (by omega)
  · by_cases k0 : k = 0
    · subst k0; simp
    · rw [if_neg k0, List.getLast?_eq_getElem?, List.length_take, show min k pl.length - 1 = k - 1 by omega, List.getElem?_take_of_lt (by omega), List.getElem?_eq_getElem (by omega), List.getD_eq_getElem?_getD, List.getElem?_eq_getElem (by omega)]
      rfl
end Go.Proofs.Ytnccibaifffhhaa.P
