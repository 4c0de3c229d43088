/- Ranges over a function: a round's regions that draw their order, by an invariant; blocks that such a loop keeps. Nothing of the program's. -/
import Derived.Test.YtlddbojfikkhfaaGrpC
import Derived.Below
import Derived.RangeFuncNested
import Derived.RangeFuncBound
import Derived.RangeFuncCalls
import Derived.RangeFuncLeaves
import Derived.Shelf.Abstract
import Derived.Shelf.RegionOpen
import Derived.WalkKit
import Derived.OwnWalkIn
import Derived.TacticsInMore
import Derived.LoopNIn
import Derived.LoopIn
namespace Go.Proofs.Ytlddbojfikkhfaa.P
set_option linter.unusedVariables false
open Go.RowKit
section
variable {P : Program} {ops : Array Oper} {Q : Exit → Act → World → Prop} {md : Region.Mode} {n l : Nat}
/-- an operation that is no defer statement, carried out in a round as everywhere -/
theorem opIn_of_wp {o : Oper} {a : Act} {w : World} {K : Act → World → Prop} (hnd : ∀ c, o.op ≠ .defer c) (h : Oper.wp P o a w K Q) : o.wpIn (Fence.wide.inRound l) n P a w K Q := by
  refine ⟨fun _ _ => trivial, ?_⟩
  rw [Fence.inRound_round, Oper.semAt_some l _ _ hnd]
  unfold Oper.wp at h
  generalize (execOp a.eval o).run P w = r at h ⊢
  cases r with
  | ok x w' =>
    cases x with
    | value v => exact h
    | skip => exact h
    | «defer» d => exact h
    | enter f args => exact ⟨fun hd => by simp [Fence.wide] at hd, CallsIn.inRound l (callsIn_wide.2 h)⟩
    | row r args => exact ⟨fun hd => by simp [Fence.wide] at hd, fun c cs _ => let ⟨v, w', r, s⟩ := h c cs; ⟨v, w', r, stepsIn_wide.2 s⟩⟩
    | _ => exact h.elim
  | halt x w' => cases x <;> exact h
theorem wpOpIn_stepR {i : Nat} {o : Oper} {K : Act → World → Prop} {a : Act} {w : World} (ho : ops[i]? = some o) (hnd : ∀ c, o.op ≠ .defer c)
    (h : ∀ K' : Act → World → Prop, (∀ a w, K a w → K' a w) → if Region.wanted o (yielded ops a.tmps) = true then Oper.wp P o a w K' Q else K' (a.put o.dst undef) w) : wpOpIn (Fence.wide.inRound l) n P ops Q i K a w := by
  have := h K (fun _ _ h => h)
  unfold wpOpIn
  rw [ho]
  show if Region.wanted o (yielded ops a.tmps) = true then _ else _
  split
  · rename_i hw
    rw [if_pos hw] at this
    exact opIn_of_wp hnd this
  · rename_i hw
    rw [if_neg hw] at this
    exact ⟨fun _ _ => trivial, this⟩
theorem wpAnyIn_inv {F : Fence} (I : Array Bool → Act → World → Prop) (hfin : ∀ listed a w, I listed a w → Region.ready md ops listed = [] → Q .normal a w)
    (hI : ∀ listed a w, I listed a w → ∀ i ∈ Region.ready md ops listed, wpOpIn F n P ops Q i (I (listed.setIfInBounds i true)) a w) :
    ∀ fuel (listed : Array Bool) a w, pend listed.toList ≤ fuel → I listed a w → wpAnyIn F n P md ops Q fuel listed a w
  | 0, listed, a, w, hp, h => by
    have hr : Region.ready md ops listed = [] := by
      rcases hc : Region.ready md ops listed with _ | ⟨i, l⟩
      · rfl
      · exact absurd (ready_bit (i := i) (md := md) (ops := ops) (by rw [hc]; simp)) (pend_zero _ (by omega) i)
    exact ⟨hr, hfin _ _ _ h hr⟩
  | fuel + 1, listed, a, w, hp, h => by
    refine ⟨fun hr => hfin _ _ _ h hr, fun i hi => ?_⟩
    have hb := pend_set _ _ (ready_bit hi)
    refine wpOpIn_mono (fun a' w' h' => ?_) (hI _ _ _ h i hi)
    exact wpAnyIn_inv I hfin hI fuel _ _ _ (by rw [Array.toList_setIfInBounds]; omega) h'
theorem wpIn_region_inv {F : Fence} {id : Nat} {a : Act} {w : World} (I : Array Bool → Act → World → Prop) (hm : P.follows .mixedOrders = true) (h0 : I (Array.replicate ops.size false) a w.drew)
    (hfin : ∀ listed a w, I listed a w → Region.ready .any ops listed = [] → Q .normal a w)
    (hI : ∀ listed a w, I listed a w → ∀ i ∈ Region.ready .any ops listed, wpOpIn F n P ops Q i (I (listed.setIfInBounds i true)) a w) : (Code.region id ops true).wpIn F n P Q a w :=
  wpIn_region_any hm (wpAnyIn_inv I hfin hI _ _ _ _ (by rw [Array.toList_replicate]; unfold pend; exact Nat.le_trans List.countP_le_length (by simp)) h0)
end
/-- a block of cells is kept by whoever keeps cells -/
theorem own_blk {β : Type} (b : Nat) (o : β → Obj) (ho : ∀ s, (o s).isCells = true) : Own (fun (s : β) W => W.heap[b]? = some (o s)) := fun s X Y row hs hg hrow =>
  (hg.block b (Array.getElem?_eq_some_iff.1 hs).1 (fun e => by
    obtain ⟨o', h1, h2⟩ := hrow b e.symm
    rw [show X.heap[b]? = _ from hs] at h1
    cases h1
    rw [ho s] at h2
    cases h2)).trans hs
theorem keepsFrom_zero {w w' : World} (h : KeepsFrom 0 w w') (B : Nat) : KeepsFrom B w w' := ⟨h.size, fun k o _ hk ho => h.same k o (Nat.zero_le _) hk ho⟩
theorem keepsFrom_below {B B' : Nat} {w w' : World} (h : Below B' w w') (hB : w.heap.size ≤ B') : KeepsFrom B w w' := ⟨h.size, fun k o _ hk _ => (h.block k (Nat.lt_of_lt_of_le (Array.getElem?_eq_some_iff.1 hk).1 hB)).trans hk⟩
end Go.Proofs.Ytlddbojfikkhfaa.P
