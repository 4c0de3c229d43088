/- Several texts in one. -/
import Derived.Test.YtnccibaifffhhaaGrpC
import Derived.Test.YtnccibaifffhhaaGrpB
/- What lies in new memory: bytes that read so in every later world in which the blocks from a place on are as they were. Nothing of the program's. -/
namespace Go.Proofs.Ytnccibaifffhhaa
set_option linter.unusedVariables false
open Go.RowKit P

/-- the blocks from lo on are as they were -/
structure Keeps (lo : Nat) (w w' : World) : Prop where
  size : w.heap.size ≤ w'.heap.size
  block : ∀ k, lo ≤ k → k < w.heap.size → w'.heap[k]? = w.heap[k]?
theorem Keeps.refl (lo : Nat) (w : World) : Keeps lo w w := ⟨Nat.le_refl _, fun _ _ _ => rfl⟩
theorem Keeps.trans {lo : Nat} {a b c : World} (h : Keeps lo a b) (k : Keeps lo b c) : Keeps lo a c := ⟨Nat.le_trans h.size k.size, fun i h1 h2 => (k.block i h1 (Nat.lt_of_lt_of_le h2 h.size)).trans (h.block i h1 h2)⟩
theorem Keeps.below {lo : Nat} {w w' : World} (h : Below w.heap.size w w') : Keeps lo w w' := ⟨h.size, fun k _ hk => h.block k hk⟩
theorem Keeps.gr {lo y : Nat} {w w' : World} (g : w.grownBy w' (some y)) (hy : y < lo) : Keeps lo w w' := ⟨g.size, fun k h1 h2 => g.block k h2 (fun e => by cases e; omega)⟩
theorem Keeps.grown {lo : Nat} {w w' : World} {r : Option Nat} (g : w.grownBy w' r) (hr : ∀ y, r = some y → y < lo) : Keeps lo w w' := ⟨g.size, fun k h1 h2 => g.block k h2 (fun e => by have := hr k e.symm; omega)⟩
/-- bytes in new memory -/
def BF (w : World) (lo : Nat) (v : Value) (zs : List Int) : Prop := ∀ w'', Keeps lo w w'' → BSl w'' w''.heap.size v zs
theorem BF.nil (w : World) (lo : Nat) : BF w lo (.slice none 0 0) [] := fun w'' _ => BSl.nil _ _
theorem BF.on {w w' : World} {lo : Nat} {v : Value} {zs : List Int} (h : BF w lo v zs) (k : Keeps lo w w') : BF w' lo v zs := fun w'' k2 => h w'' (k.trans k2)
theorem BF.now {w : World} {lo : Nat} {v : Value} {zs : List Int} (h : BF w lo v zs) : BSl w w.heap.size v zs := h w (Keeps.refl _ _)
theorem BF.more {w : World} {lo lo' : Nat} {v : Value} {zs : List Int} (h : BF w lo v zs) (hl : lo' ≤ lo) : BF w lo' v zs := fun w'' k => h w'' ⟨k.size, fun i h1 h2 => k.block i (Nat.le_trans hl h1) h2⟩
theorem cell_of_blk {w w' : World} {k i : Nat} (h : w'.heap[k]? = w.heap[k]?) : w'.cell? ⟨k, i, none⟩ = w.cell? ⟨k, i, none⟩ := by simp only [World.cell?, h]
/-- an own row of bytes lies in new memory -/
theorem bf_own {w : World} {base n lo : Nat} {v : Value} {zs : List Int} (h : w.ownsRow base 5 1 v n (zs.map (.int .u8))) (hb : Byt zs) (hl : lo ≤ base) : BF w lo v zs := fun w'' k => by
  have h0 := own_bsl h hb
  rcases h.2 with ⟨rfl, e⟩ | ⟨g, cap, cur, rfl, hbg, hh, _⟩
  · have hz : zs = [] := by
      have h1 := h.1
      rw [List.length_map] at h1
      exact List.eq_nil_of_length_eq_zero (by omega)
    subst hz
    exact BSl.nil _ _
  · obtain ⟨A, c, e, h1, h2, h3, h4⟩ := h0.ex
    have kb := k.block g (by omega) (lt_of_block hh)
    refine ⟨A, c, e, h1, h2, h3, h4.1, fun hz => ?_⟩
    obtain ⟨b, off, e2, hb2, hc⟩ := h4.2 hz
    injection e with ea _ _
    rw [e2] at ea
    cases ea
    exact ⟨_, _, e2, Nat.lt_of_lt_of_le hb2 k.size, fun j hj => (cell_of_blk kb).trans (hc j hj)⟩
end Go.Proofs.Ytnccibaifffhhaa
