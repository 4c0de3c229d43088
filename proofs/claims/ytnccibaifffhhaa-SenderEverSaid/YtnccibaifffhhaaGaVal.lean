/- A gather as a value: its pieces two cells each, their bytes elsewhere; what may be, by P8.1. Nothing of the program's. -/
import Derived.Test.YtnccibaifffhhaaGaMath
import Derived.DataShut
namespace Go.Proofs.Ytnccibaifffhhaa.P
set_option linter.unusedVariables false
open Go.RowKit

abbrev pc0 : Pc := (0, [])
/-- A leads to a row below block B whose cells are the pieces ps -/
def PRow (w : World) (B : Nat) (A : Option Addr) (ps : List Pc) : Prop :=
  0 < ps.length → ∃ b off, A = some ⟨b, off, none⟩ ∧ b < B ∧ ∀ j, j < ps.length →
    w.cell? ⟨b, off + j * 2, none⟩ = some (.int .i64 (ps.getD j pc0).1) ∧ ∃ d, w.cell? ⟨b, off + j * 2 + 1, none⟩ = some d ∧ BSl w B d (ps.getD j pc0).2
theorem PRow.nil (w : World) (B : Nat) (A : Option Addr) : PRow w B A [] := fun h => absurd h (by simp)
theorem PRow.below {w w' : World} {B : Nat} {A : Option Addr} {ps : List Pc} (h : PRow w B A ps) (hb : Below B w w') : PRow w' B A ps := fun hn => by
  obtain ⟨b, off, e, hB, hc⟩ := h hn
  refine ⟨b, off, e, hB, fun j hj => ?_⟩
  obtain ⟨h1, d, h2, h3⟩ := hc j hj
  exact ⟨(hb.cell (p := ⟨b, off + j * 2, none⟩) hB).trans h1, d, (hb.cell (p := ⟨b, off + j * 2 + 1, none⟩) hB).trans h2, h3.below hb⟩
theorem PRow.more {w : World} {B B' : Nat} {A : Option Addr} {ps : List Pc} (h : PRow w B A ps) (hB : B ≤ B') : PRow w B' A ps := fun hn => by
  obtain ⟨b, off, e, hb, hc⟩ := h hn
  exact ⟨b, off, e, by omega, fun j hj => ⟨(hc j hj).1, (hc j hj).2.choose, (hc j hj).2.choose_spec.1, (hc j hj).2.choose_spec.2.more hB⟩⟩
structure PSl (w : World) (B : Nat) (v : Value) (ps : List Pc) : Prop where
  ex : ∃ A c, v = .slice A ps.length c ∧ ps.length ≤ c ∧ c ≤ maxLen ∧ PRow w B A ps
theorem PSl.below {w w' : World} {B : Nat} {v : Value} {ps : List Pc} (h : PSl w B v ps) (hb : Below B w w') : PSl w' B v ps := by
  obtain ⟨A, c, rfl, h1, h2, h3⟩ := h.ex
  exact ⟨A, c, rfl, h1, h2, h3.below hb⟩
theorem PSl.more {w : World} {B B' : Nat} {v : Value} {ps : List Pc} (h : PSl w B v ps) (hB : B ≤ B') : PSl w B' v ps := by
  obtain ⟨A, c, rfl, h1, h2, h3⟩ := h.ex
  exact ⟨A, c, rfl, h1, h2, h3.more hB⟩
theorem PSl.nil (w : World) (B : Nat) : PSl w B (.slice none 0 0) [] := ⟨none, 0, rfl, Nat.le_refl _, by unfold maxLen; omega, PRow.nil _ _ _⟩

structure Ga where
  done : Int
  held : List Pc
  final : Int
  window : Int
/-- v says the gather g; its rows lie below block B -/
structure GaVal (w : World) (B : Nat) (v : Value) (g : Ga) : Prop where
  ex : ∃ s, v = .agg #[.int .i64 g.done, s, .int .i64 g.final, .int .i64 g.window] ∧ PSl w B s g.held
theorem GaVal.below {w w' : World} {B : Nat} {v : Value} {g : Ga} (h : GaVal w B v g) (hb : Below B w w') : GaVal w' B v g := by
  obtain ⟨s, rfl, hs⟩ := h.ex
  exact ⟨s, rfl, hs.below hb⟩
theorem GaVal.more {w : World} {B B' : Nat} {v : Value} {g : Ga} (h : GaVal w B v g) (hB : B ≤ B') : GaVal w B' v g := by
  obtain ⟨s, rfl, hs⟩ := h.ex
  exact ⟨s, rfl, hs.more hB⟩
theorem GaVal.on {w w' : World} {v : Value} {g : Ga} (h : GaVal w w.heap.size v g) (hb : Below w.heap.size w w') : GaVal w' w'.heap.size v g := (h.below hb).more hb.size
/-- its numbers fit -/
structure GaWf (g : Ga) : Prop where
  done : (Lit.int .i64 g.done).wf = true
  final : (Lit.int .i64 g.final).wf = true
  window : (Lit.int .i64 g.window).wf = true
  held : ∀ p ∈ g.held, (Lit.int .i64 p.1).wf = true

theorem ga_i64 {n : Int} : (Lit.int .i64 n).wf = true ↔ -9223372036854775808 ≤ n ∧ n ≤ 9223372036854775807 := by
  have a1 : IntKind.i64.min = -9223372036854775808 := by kernel_rfl
  have a2 : IntKind.i64.max = 9223372036854775807 := by kernel_rfl
  rw [Lit.wf_int_iff, a1, a2]
instance okPs_dec : (a : Int) → (ps : List Pc) → Decidable (okPs a ps)
  | _, [] => .isTrue trivial
  | a, p :: ps => by unfold okPs; have := okPs_dec (endP p) ps; infer_instance
/-- what may be -/
def okG (g : Ga) : Prop := 0 ≤ g.done ∧ -1 ≤ g.final ∧ (0 ≤ g.window ∧ g.window ≤ 4611686018427387903) ∧ g.held.length ≤ 4 ∧ okPs (g.done - 1) g.held ∧ reachP g.done g.held ≤ g.window ∧ (0 ≤ g.final → reachP g.done g.held ≤ g.final)
instance (g : Ga) : Decidable (okG g) := by unfold okG; infer_instance
def faultG (g : Ga) : Int := if okG g then 0 else 9

theorem reach_snoc : ∀ (ps : List Pc) (d : Int) (p : Pc), reachP d (ps ++ [p]) = endP p
  | [], d, p => rfl
  | q :: ps, d, p => reach_snoc ps (endP q) p
theorem ok_snoc : ∀ (ps : List Pc) (a : Int) (p : Pc), okPs a (ps ++ [p]) ↔ okPs a ps ∧ p.2 ≠ [] ∧ reachP a ps < p.1
  | [], a, p => by simp [okPs, reachP]
  | q :: ps, a, p => by
    have ih := ok_snoc ps (endP q) p
    simp only [List.cons_append, okPs, reachP, ih]
    constructor
    · rintro ⟨h1, h2, h3, h4, h5⟩; exact ⟨⟨h1, h2, h3⟩, h4, h5⟩
    · rintro ⟨⟨h1, h2, h3⟩, h4, h5⟩; exact ⟨h1, h2, h3, h4, h5⟩
theorem ok_app : ∀ (ps qs : List Pc) (a : Int), okPs a (ps ++ qs) ↔ okPs a ps ∧ okPs (reachP a ps) qs
  | [], qs, a => by simp [okPs, reachP]
  | p :: ps, qs, a => by
    have ih := ok_app ps qs (endP p)
    simp only [List.cons_append, okPs, reachP, ih]
    constructor
    · rintro ⟨h1, h2, h3, h4⟩; exact ⟨⟨h1, h2, h3⟩, h4⟩
    · rintro ⟨⟨h1, h2, h3⟩, h4⟩; exact ⟨h1, h2, h3, h4⟩
theorem reach_app : ∀ (ps qs : List Pc) (a : Int), reachP a (ps ++ qs) = reachP (reachP a ps) qs
  | [], qs, a => rfl
  | p :: ps, qs, a => reach_app ps qs (endP p)
/-- where what is held ends lies behind where it begins -/
theorem reach_ge : ∀ (ps : List Pc) (a d : Int), okPs a ps → a ≤ d → d ≤ a + 1 → d ≤ reachP d ps
  | [], a, d, h, h1, h2 => Int.le_refl d
  | p :: ps, a, d, h, h1, h2 => by
    have := end_gt h.1
    have q := h.2.1
    have := reach_ge ps (endP p) (endP p) h.2.2 (Int.le_refl _) (by omega)
    show d ≤ reachP (endP p) ps
    omega
theorem reach_mono : ∀ (ps : List Pc) (a : Int), okPs a ps → a ≤ reachP a ps
  | ps, a, h => reach_ge ps a a h (Int.le_refl _) (by omega)
/-- the end of each one is not behind the reach -/
theorem reach_take {ps : List Pc} {a d : Int} (h : okPs a ps) (k : Nat) (hk : 0 < k) (hl : k ≤ ps.length) : reachP d (ps.take k) ≤ reachP d ps := by
  have e := List.take_append_drop k ps
  rw [← e] at h
  have h2 := (ok_app _ _ _).1 h
  have e2 : reachP d ps = reachP (reachP d (ps.take k)) (ps.drop k) := by rw [← reach_app, e]
  have same : reachP a (ps.take k) = reachP d (ps.take k) := by
    cases hps : ps.take k with
    | nil => exfalso; have := congrArg List.length hps; rw [List.length_take, List.length_nil] at this; omega
    | cons p q => rfl
  rw [same] at h2
  rw [e2]
  exact reach_mono _ _ h2.2
theorem take_step {ps : List Pc} {k : Nat} (h : k < ps.length) : ps.take (k + 1) = ps.take k ++ [ps.getD k pc0] := by
  rw [List.take_succ_eq_append_getElem h, List.getD_eq_getElem?_getD, List.getElem?_eq_getElem h]; rfl
theorem drop_nil_of {ps : List Pc} {k : Nat} (h : ps.length ≤ k) : ps.take k = ps := List.take_of_length_le h
end Go.Proofs.Ytnccibaifffhhaa.P
