/- What stays true as long as all blocks but some are as they were. Nothing of the program's. -/
import Derived.Test.YtkmkcpjmhcpjpaaGrpB
import Derived.Test.YtkmkcpjmhcpjpaaGrpZd
namespace Go.Proofs.Ytkmkcpjmhcpjpaa
set_option linter.unusedVariables false
open Go.RowKit P

/-- all blocks but some are as they were -/
structure KpS (S : Nat → Prop) (w w' : World) : Prop where
  size : w.heap.size ≤ w'.heap.size
  block : ∀ k, ¬ S k → k < w.heap.size → w'.heap[k]? = w.heap[k]?
theorem KpS.refl (S : Nat → Prop) (w : World) : KpS S w w := ⟨Nat.le_refl _, fun _ _ _ => rfl⟩
theorem KpS.trans {S : Nat → Prop} {a b c : World} (h : KpS S a b) (k : KpS S b c) : KpS S a c := ⟨Nat.le_trans h.size k.size, fun i h1 h2 => (k.block i h1 (Nat.lt_of_lt_of_le h2 h.size)).trans (h.block i h1 h2)⟩
theorem KpS.below {S : Nat → Prop} {w w' : World} (h : Below w.heap.size w w') : KpS S w w' := ⟨h.size, fun k _ hk => h.block k hk⟩
theorem KpS.gr {S : Nat → Prop} {y : Nat} {w w' : World} (g : w.grownBy w' (some y)) (hy : S y) : KpS S w w' := ⟨g.size, fun k h1 h2 => g.block k h2 (fun e => h1 (by cases e; exact hy))⟩
theorem KpS.grO {S : Nat → Prop} {r : Option Nat} {w w' : World} (g : w.grownBy w' r) (hy : ∀ y, r = some y → S y) : KpS S w w' := ⟨g.size, fun k h1 h2 => g.block k h2 (fun e => h1 (hy k e.symm))⟩
theorem KpS.mono {S S' : Nat → Prop} {w w' : World} (h : KpS S w w') (hs : ∀ j, S j → S' j) : KpS S' w w' := ⟨h.size, fun k h1 h2 => h.block k (fun q => h1 (hs k q)) h2⟩
/-- a fact that holds as long as all blocks but those of S are as they were -/
def StS (w : World) (S : Nat → Prop) (R : World → Prop) : Prop := ∀ w', KpS S w w' → R w'
theorem StS.now {w : World} {S : Nat → Prop} {R : World → Prop} (h : StS w S R) : R w := h w (KpS.refl _ _)
theorem StS.on {w w' : World} {S : Nat → Prop} {R : World → Prop} (h : StS w S R) (k : KpS S w w') : StS w' S R := fun _ k2 => h _ (k.trans k2)
theorem StS.later {w w' : World} {S : Nat → Prop} {R : World → Prop} (h : StS w S R) (b : Below w.heap.size w w') : StS w' S R := h.on (KpS.below b)
theorem StS.anti {w : World} {S S' : Nat → Prop} {R : World → Prop} (h : StS w S R) (hs : ∀ j, S' j → S j) : StS w S' R := fun _ k => h _ (k.mono hs)
theorem StS.new {w w' : World} {S : Nat → Prop} {R : World → Prop} (h : StS w S R) (hb : Below w.heap.size w w') : StS w' (fun j => S j ∨ w.heap.size ≤ j) R := fun w'' k =>
  h w'' ⟨Nat.le_trans hb.size k.size, fun i h1 h2 => (k.block i (fun q => q.elim h1 (by omega)) (Nat.lt_of_lt_of_le h2 hb.size)).trans (hb.block i h2)⟩
theorem StS.imp {w : World} {S : Nat → Prop} {R R' : World → Prop} (h : StS w S R) (hr : ∀ w, R w → R' w) : StS w S R' := fun w' k => hr _ (h w' k)
theorem StS.and {w : World} {S : Nat → Prop} {R R' : World → Prop} (h : StS w S R) (h' : StS w S R') : StS w S (fun w => R w ∧ R' w) := fun w' k => ⟨h w' k, h' w' k⟩
theorem keeps_kpS {w w' : World} {lo : Nat} (k : KpS (fun j => j < lo) w w') : Keeps lo w w' := ⟨k.size, fun i h1 h2 => k.block i (Nat.not_lt.2 h1) h2⟩
/-- the blocks ahead of a world, and a variable, once it is there -/
def SXv (w0 : World) (b : Bool) (x : Value) : Nat → Prop := fun j => j < w0.heap.size ∨ (b = true ∧ x = .pointer (some ⟨j, 0, none⟩))
theorem StS.made {w0 w w' : World} {x : Value} {R : World → Prop} (h : StS w (SXv w0 false x) R) (hb : Below w.heap.size w w') : StS w' (SXv w0 true (.pointer (some ⟨w.heap.size, 0, none⟩))) R :=
  (h.new hb).anti fun j hj => by
    rcases hj with hj | ⟨_, hj⟩
    · exact .inl (.inl hj)
    · cases hj
      exact .inr (Nat.le_refl _)
theorem StS.toX {w0 w w1 : World} {b : Bool} {x : Value} {R : World → Prop} (h : StS w1 (fun j => j < w.heap.size) R) (h0 : w0.heap.size ≤ w.heap.size) (hx : b = true → ∃ k, x = .pointer (some ⟨k, 0, none⟩) ∧ k < w.heap.size) : StS w1 (SXv w0 b x) R :=
  h.anti fun j hj => by
    rcases hj with hj | ⟨hb, hj⟩
    · show j < w.heap.size; omega
    · obtain ⟨k, e, hk⟩ := hx hb
      rw [e] at hj
      cases hj
      exact hk
end Go.Proofs.Ytkmkcpjmhcpjpaa
