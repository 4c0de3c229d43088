/- What lies in memory apart from some blocks; variables that hold a gather. Nothing of the program's but the shapes. -/
import Derived.Test.YtfbjgbnlgaajaaaGaTells
namespace Go.Proofs.Ytfbjgbnlgaajaaa
set_option linter.unusedVariables false
open Go.RowKit P

/-- all blocks but some are as they were -/
structure KeepsS (S : Nat → Prop) (w w' : World) : Prop where
  size : w.heap.size ≤ w'.heap.size
  block : ∀ k, ¬ S k → k < w.heap.size → w'.heap[k]? = w.heap[k]?
theorem KeepsS.refl (S : Nat → Prop) (w : World) : KeepsS S w w := ⟨Nat.le_refl _, fun _ _ _ => rfl⟩
theorem KeepsS.trans {S : Nat → Prop} {a b c : World} (h : KeepsS S a b) (k : KeepsS S b c) : KeepsS S a c := ⟨Nat.le_trans h.size k.size, fun i h1 h2 => (k.block i h1 (Nat.lt_of_lt_of_le h2 h.size)).trans (h.block i h1 h2)⟩
theorem KeepsS.below {S : Nat → Prop} {w w' : World} (h : Below w.heap.size w w') : KeepsS S w w' := ⟨h.size, fun k _ hk => h.block k hk⟩
theorem KeepsS.gr {S : Nat → Prop} {y : Nat} {w w' : World} (g : w.grownBy w' (some y)) (hy : S y) : KeepsS S w w' := ⟨g.size, fun k h1 h2 => g.block k h2 (fun e => h1 (by cases e; exact hy))⟩
/-- pieces, bytes apart from those -/
def PFS (w : World) (S : Nat → Prop) (v : Value) (ps : List Pc) : Prop := ∀ w'', KeepsS S w w'' → PSl w'' w''.heap.size v ps
def BFS (w : World) (S : Nat → Prop) (v : Value) (zs : List Int) : Prop := ∀ w'', KeepsS S w w'' → BSl w'' w''.heap.size v zs
theorem PF.toS {w : World} {lo : Nat} {v : Value} {ps : List Pc} (h : PF w lo v ps) : PFS w (fun j => j < lo) v ps := fun w'' k => h w'' ⟨k.size, fun i h1 h2 => k.block i (Nat.not_lt.2 h1) h2⟩
theorem BF.toS {w : World} {lo : Nat} {v : Value} {zs : List Int} (h : BF w lo v zs) : BFS w (fun j => j < lo) v zs := fun w'' k => h w'' ⟨k.size, fun i h1 h2 => k.block i (Nat.not_lt.2 h1) h2⟩
theorem PFS.on {w w' : World} {S : Nat → Prop} {v : Value} {ps : List Pc} (h : PFS w S v ps) (k : KeepsS S w w') : PFS w' S v ps := fun w'' k2 => h w'' (k.trans k2)
theorem PFS.anti {w : World} {S S' : Nat → Prop} {v : Value} {ps : List Pc} (h : PFS w S v ps) (hs : ∀ j, S' j → S j) : PFS w S' v ps := fun w'' k => h w'' ⟨k.size, fun i h1 h2 => k.block i (fun q => h1 (hs i q)) h2⟩
theorem PFS.new {w w' : World} {S : Nat → Prop} {v : Value} {ps : List Pc} (h : PFS w S v ps) (hb : Below w.heap.size w w') : PFS w' (fun j => S j ∨ w.heap.size ≤ j) v ps := fun w'' k =>
  h w'' ⟨Nat.le_trans hb.size k.size, fun i h1 h2 => (k.block i (fun q => q.elim h1 (by omega)) (Nat.lt_of_lt_of_le h2 hb.size)).trans (hb.block i h2)⟩
theorem PFS.now {w : World} {S : Nat → Prop} {v : Value} {ps : List Pc} (h : PFS w S v ps) : PSl w w.heap.size v ps := h w (KeepsS.refl _ _)
structure GaFS (w : World) (S : Nat → Prop) (v : Value) (g : Ga) : Prop where
  ex : ∃ A n c, v = .agg #[.int .i64 g.done, .slice A n c, .int .i64 g.final, .int .i64 g.window] ∧ PFS w S (.slice A n c) g.held
theorem GaF.toS {w : World} {lo : Nat} {v : Value} {g : Ga} (h : GaF w lo v g) : GaFS w (fun j => j < lo) v g := by
  obtain ⟨A, n, c, e, h1⟩ := h.slice
  exact ⟨A, n, c, e, h1.toS⟩
theorem GaFS.on {w w' : World} {S : Nat → Prop} {v : Value} {g : Ga} (h : GaFS w S v g) (k : KeepsS S w w') : GaFS w' S v g := by
  obtain ⟨A, n, c, e, h1⟩ := h.ex
  exact ⟨A, n, c, e, h1.on k⟩
theorem GaFS.anti {w : World} {S S' : Nat → Prop} {v : Value} {g : Ga} (h : GaFS w S v g) (hs : ∀ j, S' j → S j) : GaFS w S' v g := by
  obtain ⟨A, n, c, e, h1⟩ := h.ex
  exact ⟨A, n, c, e, h1.anti hs⟩
/-- the blocks ahead of a world, and a variable, once it is there -/
def SX (w0 : World) (b : Bool) (x : Value) : Nat → Prop := fun j => j < w0.heap.size ∨ (b = true ∧ x = .pointer (some ⟨j, 0, none⟩))
/-- the variable is made behind it -/
theorem GaFS.made {w0 w w' : World} {x v : Value} {g : Ga} (h : GaFS w (SX w0 false x) v g) (hb : Below w.heap.size w w') : GaFS w' (SX w0 true (.pointer (some ⟨w.heap.size, 0, none⟩))) v g := by
  obtain ⟨A, n, c, e, h1⟩ := h.ex
  refine ⟨A, n, c, e, (h1.new hb).anti fun j hj => ?_⟩
  rcases hj with hj | ⟨_, hj⟩
  · exact .inl (.inl hj)
  · cases hj
    exact .inr (Nat.le_refl _)
/-- an answer made in a world that has the variable already, or not yet -/
theorem GaF.toX {w0 w w1 : World} {b : Bool} {x v : Value} {g : Ga} (h : GaF w1 w.heap.size v g) (h0 : w0.heap.size ≤ w.heap.size) (hx : b = true → ∃ k, x = .pointer (some ⟨k, 0, none⟩) ∧ k < w.heap.size) : GaFS w1 (SX w0 b x) v g :=
  h.toS.anti fun j hj => by
    rcases hj with hj | ⟨hb, hj⟩
    · show j < w.heap.size; omega
    · obtain ⟨k, e, hk⟩ := hx hb
      rw [e] at hj
      cases hj
      exact hk
/-- a variable that holds a gather -/
structure GW (w : World) (b : Nat) (g : Ga) (A : Option Addr) (n c : Nat) : Prop where
  blk : w.heap[b]? = some (.cells #[.int .i64 g.done, .slice A n c, .int .i64 g.final, .int .i64 g.window] 24 (0, 0))
  ps : PSl w w.heap.size (.slice A n c) g.held
theorem GW.below {w w' : World} {b : Nat} {g : Ga} {A : Option Addr} {n c : Nat} (h : GW w b g A n c) (hb : Below w.heap.size w w') : GW w' b g A n c :=
  ⟨(hb.block _ (lt_of_block h.blk)).trans h.blk, (h.ps.below hb).more hb.size⟩
theorem GW.val {w : World} {b : Nat} {g : Ga} {A : Option Addr} {n c : Nat} (h : GW w b g A n c) : GaVal w w.heap.size (.agg #[.int .i64 g.done, .slice A n c, .int .i64 g.final, .int .i64 g.window]) g := ⟨_, rfl, h.ps⟩
theorem GW.new {w : World} {S : Nat → Prop} {g : Ga} {A : Option Addr} {n c : Nat} (h : PFS w S (.slice A n c) g.held) : GW (w.alloc (.cells #[.int .i64 g.done, .slice A n c, .int .i64 g.final, .int .i64 g.window] 24)) w.heap.size g A n c :=
  ⟨heap_alloc_new w _, (h.on (KeepsS.below ((Below.refl w.heap.size w).alloc (Nat.le_refl _) _))).now⟩
/-- an answer laid into a variable that was there -/
theorem GW.put {w : World} {b : Nat} {S : Nat → Prop} {a0 a1 a2 a3 : Value} {g : Ga} {A : Option Addr} {n c : Nat} (hb : w.heap[b]? = some (.cells #[a0, a1, a2, a3] 24 (0, 0))) (h : PFS w S (.slice A n c) g.held) (hs : S b) :
    GW ((((w.setCell ⟨b, 0, none⟩ (.int .i64 g.done)).setCell ⟨b, 1, none⟩ (.slice A n c)).setCell ⟨b, 2, none⟩ (.int .i64 g.final)).setCell ⟨b, 3, none⟩ (.int .i64 g.window)) b g A n c ∧
    w.grownBy ((((w.setCell ⟨b, 0, none⟩ (.int .i64 g.done)).setCell ⟨b, 1, none⟩ (.slice A n c)).setCell ⟨b, 2, none⟩ (.int .i64 g.final)).setCell ⟨b, 3, none⟩ (.int .i64 g.window)) (some b) := by
  obtain ⟨k1, k2⟩ := bkG_blk hb (.int .i64 g.done) (.slice A n c) (.int .i64 g.final) (.int .i64 g.window)
  exact ⟨⟨k1, (h.on (KeepsS.gr k2 hs)).now⟩, k2⟩
/-- a new variable that holds an answer; its rows apart from all that was there -/
structure NewV (w0 : World) (k : Nat) (g : Ga) (A : Option Addr) (n c : Nat) (w : World) : Prop where
  blk : w.heap[k]? = some (.cells #[.int .i64 g.done, .slice A n c, .int .i64 g.final, .int .i64 g.window] 24 (0, 0))
  new : w0.heap.size ≤ k
  pf : PFS w (fun j => j < w0.heap.size) (.slice A n c) g.held
theorem NewV.mk' {w0 w : World} {k : Nat} {g : Ga} {A : Option Addr} {n c : Nat} {a0 a1 a2 a3 : Value} (hk : w.heap[k]? = some (.cells #[a0, a1, a2, a3] 24 (0, 0))) (h0 : w0.heap.size ≤ k) (hp : PFS w (SX w0 true (.pointer (some ⟨k, 0, none⟩))) (.slice A n c) g.held) :
    NewV w0 k g A n c ((((w.setCell ⟨k, 0, none⟩ (.int .i64 g.done)).setCell ⟨k, 1, none⟩ (.slice A n c)).setCell ⟨k, 2, none⟩ (.int .i64 g.final)).setCell ⟨k, 3, none⟩ (.int .i64 g.window)) :=
  ⟨(bkG_blk hk _ _ _ _).1, h0, (hp.on (KeepsS.gr (bkG_blk hk _ _ _ _).2 (.inr ⟨rfl, rfl⟩))).anti fun j hj => .inl hj⟩
theorem newV_below {w0 w : World} {k : Nat} {a0 a1 a2 a3 : Value} (hk : w.heap[k]? = some (.cells #[a0, a1, a2, a3] 24 (0, 0))) (h0 : w0.heap.size ≤ k) (hb : Below w0.heap.size w0 w) (v0 v1 v2 v3 : Value) :
    Below w0.heap.size w0 ((((w.setCell ⟨k, 0, none⟩ v0).setCell ⟨k, 1, none⟩ v1).setCell ⟨k, 2, none⟩ v2).setCell ⟨k, 3, none⟩ v3) :=
  gr_from hb hb.size h0 (bkG_blk hk v0 v1 v2 v3).2
theorem NewV.below {w0 w w' : World} {k : Nat} {g : Ga} {A : Option Addr} {n c : Nat} (h : NewV w0 k g A n c w) (hb : Below w.heap.size w w') : NewV w0 k g A n c w' := ⟨(hb.block _ (lt_of_block h.blk)).trans h.blk, h.new, h.pf.on (KeepsS.below hb)⟩
theorem one_at_new (w : World) : BSl (w.alloc (.cells #[.int .u8 1] 5)) (w.alloc (.cells #[.int .u8 1] 5)).heap.size (.slice (some ⟨w.heap.size, 0, none⟩) 1 1) [1] := by
  have := bytes_at w [1] 1 (by unfold maxLen; decide) (byt1 (by decide)) (0, 0) 5
  simpa using this
end Go.Proofs.Ytfbjgbnlgaajaaa
