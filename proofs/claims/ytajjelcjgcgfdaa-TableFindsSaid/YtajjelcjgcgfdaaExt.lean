/- A region that draws its order, whose operations only read old memory, and whose callees may make new memory: one walk, in the text's order. The class of worlds: all that leave old memory as it is. Nothing of the program's. -/
import Derived.Deep.QuietTactic
import Derived.BigQuiet
import Derived.Below
namespace Go.Proofs.Ytajjelcjgcgfdaa.P
set_option linter.unusedVariables false
open Go.RowKit

/-- a later world, in which what was there is as it was -/
structure Ext (W : World) where
  w : World
  h : Below W.heap.size W w

instance (W : World) : Nonempty (Ext W) := ⟨⟨W, Below.refl _ _⟩⟩
theorem Ext.cell {W : World} {p : Addr} {v : Value} (h : W.cell? p = some v) : ∀ x : Ext W, x.w.cell? p = some v := fun x =>
  (x.h.cell (World.block_lt_of_cell? W p h)).trans h
theorem Ext.more {W : World} (x : Ext W) {w' : World} (h : Below x.w.heap.size x.w w') : Below W.heap.size W w' := x.h.trans (h.mono x.h.size)

section
variable {P : Program} {W : World} {f : FuncId} {args : Array Value} {v : Value}
/-- a callee that makes new memory, met in whatever later world -/
theorem Ext.call {x : Ext W} (h : Calls P f args x.w fun e w' => e = .returned v ∧ Below x.w.heap.size x.w w') : Calls P f args x.w fun e w'' => e = .returned v ∧ ∃ y : Ext W, w'' = y.w :=
  h.mono fun e w' ⟨he, hb⟩ => ⟨he, ⟨⟨w', x.more hb⟩, rfl⟩⟩
/-- a callee that leaves the world alone -/
theorem Ext.call_same {x : Ext W} (h : Calls P f args x.w fun e w' => e = .returned v ∧ x.w = w') : Calls P f args x.w fun e w'' => e = .returned v ∧ ∃ y : Ext W, w'' = y.w :=
  h.mono fun e w' ⟨he, hb⟩ => ⟨he, ⟨x, hb.symm⟩⟩

theorem wp_region_ext {id : Nat} {Q : Exit → Act → World → Prop} {a : Act} {l : List Oper} (hm : P.follows .mixedOrders = true) (hB : Region.lexB .any l.toArray = true)
    (h : wpQuiet P l.toArray (fun w' => ∃ x : Ext W, w' = x.w) (fun a' => ∀ w', Below W.heap.size W w' → Q .normal a' w') l a) : (Code.region id l.toArray true).wp P Q a W := by
  refine wp_region_quiet (C := fun w' => ∃ x : Ext W, w' = x.w) hm hB ⟨⟨W.drew, (Below.refl _ _).drew⟩, rfl⟩ ?_
  have e : (fun a' => ∀ w', Below W.heap.size W w' → Q .normal a' w') = (fun a' => ∀ w', (∃ x : Ext W, w' = x.w) → Q .normal a' w') := by
    funext a'
    refine propext ⟨fun h w' ⟨x, hx⟩ => hx ▸ h x.w x.h, fun h w' hw => h w' ⟨⟨w', hw⟩, rfl⟩⟩
  rw [e] at h
  simpa using h
end
end Go.Proofs.Ytajjelcjgcgfdaa.P
