/- What lies in new memory: pieces and bytes that read so in every later world in which the blocks from a place on are as they were. Nothing of the program's but the piece's shape. -/
import Derived.Test.YtippenbfoaohoaaPcRow2
namespace Go.Proofs.Ytippenbfoaohoaa
set_option linter.unusedVariables false
open Go.RowKit P

/-- the blocks from lo on are as they were -/
structure Keeps (lo : Nat) (w w' : World) : Prop where
  size : w.heap.size ≤ w'.heap.size
  block : ∀ k, lo ≤ k → k < w.heap.size → w'.heap[k]? = w.heap[k]?
theorem Keeps.refl (lo : Nat) (w : World) : Keeps lo w w := ⟨Nat.le_refl _, fun _ _ _ => rfl⟩
theorem Keeps.trans {lo : Nat} {a b c : World} (h : Keeps lo a b) (k : Keeps lo b c) : Keeps lo a c := ⟨Nat.le_trans h.size k.size, fun i h1 h2 => (k.block i h1 (Nat.lt_of_lt_of_le h2 h.size)).trans (h.block i h1 h2)⟩
theorem Keeps.below {lo : Nat} {w w' : World} (h : Below w.heap.size w w') : Keeps lo w w' := ⟨h.size, fun k _ hk => h.block k hk⟩
theorem Keeps.gr {lo y : Nat} {w w' : World} (g : w.grownBy w' (some y)) (hy : y < lo) : Keeps lo w w' := ⟨g.size, fun k h1 h2 => g.block k h2 (fun e => by cases e; omega)⟩
theorem Keeps.grown {lo : Nat} {w w' : World} {r : Option Nat} (g : w.grownBy w' r) (hr : ∀ y, r = some y → y < lo) : Keeps lo w w' := ⟨g.size, fun k h1 h2 => g.block k h2 (fun e => by have := hr k e.symm; omega)⟩
/-- pieces in new memory -/
def PF (w : World) (lo : Nat) (v : Value) (ps : List Pc) : Prop := ∀ w'', Keeps lo w w'' → PSl w'' w''.heap.size v ps
/-- bytes in new memory -/
def BF (w : World) (lo : Nat) (v : Value) (zs : List Int) : Prop := ∀ w'', Keeps lo w w'' → BSl w'' w''.heap.size v zs
theorem PF.nil (w : World) (lo : Nat) : PF w lo (.slice none 0 0) [] := fun w'' _ => PSl.nil _ _
theorem BF.nil (w : World) (lo : Nat) : BF w lo (.slice none 0 0) [] := fun w'' _ => BSl.nil _ _
theorem PF.on {w w' : World} {lo : Nat} {v : Value} {ps : List Pc} (h : PF w lo v ps) (k : Keeps lo w w') : PF w' lo v ps := fun w'' k2 => h w'' (k.trans k2)
theorem BF.on {w w' : World} {lo : Nat} {v : Value} {zs : List Int} (h : BF w lo v zs) (k : Keeps lo w w') : BF w' lo v zs := fun w'' k2 => h w'' (k.trans k2)
theorem PF.now {w : World} {lo : Nat} {v : Value} {ps : List Pc} (h : PF w lo v ps) : PSl w w.heap.size v ps := h w (Keeps.refl _ _)
theorem BF.now {w : World} {lo : Nat} {v : Value} {zs : List Int} (h : BF w lo v zs) : BSl w w.heap.size v zs := h w (Keeps.refl _ _)
theorem PF.more {w : World} {lo lo' : Nat} {v : Value} {ps : List Pc} (h : PF w lo v ps) (hl : lo' ≤ lo) : PF w lo' v ps := fun w'' k => h w'' ⟨k.size, fun i h1 h2 => k.block i (Nat.le_trans hl h1) h2⟩
theorem BF.more {w : World} {lo lo' : Nat} {v : Value} {zs : List Int} (h : BF w lo v zs) (hl : lo' ≤ lo) : BF w lo' v zs := fun w'' k => h w'' ⟨k.size, fun i h1 h2 => k.block i (Nat.le_trans hl h1) h2⟩
theorem cell_of_blk {w w' : World} {k i : Nat} (h : w'.heap[k]? = w.heap[k]?) : w'.cell? ⟨k, i, none⟩ = w.cell? ⟨k, i, none⟩ := by simp only [World.cell?, h]
/-- an own row of bytes lies in new memory -/
theorem bf_own {w : World} {base n lo : Nat} {v : Value} {zs : List Int} (h : w.ownsRow base 5 1 v n (zs.map (.int .u8))) (hb : Byt zs) (hl : lo ≤ base) : BF w lo v zs := fun w'' k => by
  have h0 := own_bsl h hb
  rcases h.2 with ⟨rfl, e⟩ | ⟨g, cap, cur, rfl, hbg, hh, _⟩
  · have hz : zs = [] := by
      have h1 := h.1
      rw [List.length_map] at h1
      exact List.eq_nil_of_length_eq_zero (by omega)
    subst hz
    exact BSl.nil _ _
  · obtain ⟨A, c, e, h1, h2, h3, h4⟩ := h0.ex
    have kb := k.block g (by omega) (lt_of_block hh)
    refine ⟨A, c, e, h1, h2, h3, h4.1, fun hz => ?_⟩
    obtain ⟨b, off, e2, hb2, hc⟩ := h4.2 hz
    injection e with ea _ _
    rw [e2] at ea
    cases ea
    exact ⟨_, _, e2, Nat.lt_of_lt_of_le hb2 k.size, fun j hj => (cell_of_blk kb).trans (hc j hj)⟩
/-- own rows of pieces lie in new memory -/
theorem pf_of {w : World} {base lo : Nat} {v : Value} {cs : List PC} {ps : List Pc} (h : RowP w base v cs) (e : cs.map PC.pc = ps) (hl : lo ≤ base) : PF w lo v ps := fun w'' k => by
  subst e
  obtain ⟨A, c, rfl, h1, h2⟩ := h.slice
  refine ⟨A, c, by rw [List.length_map], by rw [List.length_map]; exact h1, h2, fun hn => ?_⟩
  rw [List.length_map] at hn
  obtain ⟨g, cap, e, _, _, hbg, hg, hc⟩ := h.at_ hn
  cases e
  have kb := k.block g (by omega) hg
  refine ⟨g, 0, rfl, Nat.lt_of_lt_of_le hg k.size, fun j hj => ?_⟩
  rw [List.length_map] at hj
  obtain ⟨c1, c2, _⟩ := hc j hj
  have e : (cs.map PC.pc).getD j pc0 = (cs.getD j pcz).pc := by
    rw [List.getD_eq_getElem?_getD, List.getElem?_map, List.getD_eq_getElem?_getD, List.getElem?_eq_getElem hj]; rfl
  have hm : cs.getD j pcz ∈ cs := by rw [List.getD_eq_getElem?_getD, List.getElem?_eq_getElem hj]; exact List.getElem_mem hj
  have ok := h.oks _ hm
  rw [e, Nat.zero_add]
  exact ⟨(cell_of_blk kb).trans c1, _, (cell_of_blk kb).trans c2, bf_own ok.own ok.byt hl w'' k⟩
/-- a gather in new memory -/
structure GaF (w : World) (lo : Nat) (v : Value) (g : Ga) : Prop where
  ex : ∃ s, v = .agg #[.int .i64 g.done, s, .int .i64 g.final, .int .i64 g.window] ∧ PF w lo s g.held
theorem GaF.now {w : World} {lo : Nat} {v : Value} {g : Ga} (h : GaF w lo v g) : GaVal w w.heap.size v g := by
  obtain ⟨s, e, h1⟩ := h.ex
  exact ⟨s, e, h1.now⟩
theorem GaF.on {w w' : World} {lo : Nat} {v : Value} {g : Ga} (h : GaF w lo v g) (k : Keeps lo w w') : GaF w' lo v g := by
  obtain ⟨s, e, h1⟩ := h.ex
  exact ⟨s, e, h1.on k⟩
/-- an answer of a gather and an error, in new memory -/
structure GaResF (r : Ga × Int) (w : World) (e : Ending) (w' : World) : Prop where
  be : Below w.heap.size w w'
  ex : ∃ u, e = .returned (.tuple #[u, .int .i64 r.2]) ∧ GaF w' w.heap.size u r.1
/-- what Take answers, in new memory -/
structure TakResF (r : Ga × List Int × Bool × Int) (w : World) (e : Ending) (w' : World) : Prop where
  be : Below w.heap.size w w'
  ex : ∃ u d, e = .returned (.tuple #[u, d, .bool r.2.2.1, .int .i64 r.2.2.2]) ∧ GaF w' w.heap.size u r.1 ∧ BF w' w.heap.size d r.2.1
end Go.Proofs.Ytippenbfoaohoaa
