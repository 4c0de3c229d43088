/- A map of numbers to numbers, as a reading says it. Nothing of the program's. -/
import Derived.Test.YtnccibaifffhhaaMapSz
import Derived.DataShut
namespace Go.Proofs.Ytnccibaifffhhaa.P
set_option linter.unusedVariables false
open Go.RowKit

abbrev kyI (x : Int) : Lit := .int .i64 x
theorem kyI_key (x : Int) : WideAt.IsKeyLit (kyI x) := trivial
theorem kyI_ne {x y : Int} (h : x ≠ y) : kyI x ≠ kyI y := fun e => h (by cases e; rfl)
/-- what a map's reading says: f; it has n entries -/
structure MapI (D : DataW Unit) (f : Int → Option Int) : Prop where
  map : Maps.IsMap D
  no : ∀ x, f x = none → Maps.has D (kyI x) = false
  yes : ∀ x c, f x = some c → Maps.has D (kyI x) = true ∧ ∀ z, D.atKey (kyI x) z = .lit (.int .i64 c)
theorem MapI.empty : MapI (.map [] : DataW Unit) (fun _ => none) := ⟨Maps.isMap_empty, fun x _ => rfl, fun x c h => by cases h⟩
theorem MapI.put {D : DataW Unit} {f : Int → Option Int} (h : MapI D f) (x c : Int) : MapI (D.put (kyI x) (.lit (.int .i64 c))) (fun y => if y = x then some c else f y) := by
  refine ⟨h.map.put _ _, fun y hy => ?_, fun y d hy => ?_⟩
  · by_cases e : y = x
    · simp [e] at hy
    · rw [if_neg e] at hy
      rw [Maps.has_put_other (kyI_ne e)]
      exact h.no y hy
  · by_cases e : y = x
    · subst e
      simp at hy
      subst hy
      exact ⟨Maps.has_put_same h.map (kyI_key _) _, fun z => Maps.atKey_put_same h.map (kyI_key _) _ z⟩
    · rw [if_neg e] at hy
      rw [Maps.has_put_other (kyI_ne e)]
      exact ⟨(h.yes y d hy).1, fun z => by rw [Maps.atKey_put_other (kyI_ne e)]; exact (h.yes y d hy).2 z⟩
theorem MapI.congr {D : DataW Unit} {f g : Int → Option Int} (h : MapI D f) (e : ∀ x, f x = g x) : MapI D g := ⟨h.map, fun x hx => h.no x (by rw [e, hx]), fun x c hx => h.yes x c (by rw [e, hx])⟩
theorem MapI.has {D : DataW Unit} {f : Int → Option Int} (h : MapI D f) (x : Int) : Maps.has D (kyI x) = (f x).isSome := by
  cases hf : f x with
  | none => rw [h.no x hf]; rfl
  | some c => rw [(h.yes x c hf).1]; rfl
theorem own_same {H : Type} {w w' : World} {P : Program} {k : TypeId} {R : Value → Option (DataW H × List MemPlace)} {b n : Nat} {D : DataW H} (h : w.ownsMap P k R b n D) (e : w'.heap[b]? = w.heap[b]?) : w'.ownsMap P k R b n D := by
  obtain ⟨es, c, hb, r⟩ := h
  exact ⟨es, c, e.trans hb, r⟩
end Go.Proofs.Ytnccibaifffhhaa.P
