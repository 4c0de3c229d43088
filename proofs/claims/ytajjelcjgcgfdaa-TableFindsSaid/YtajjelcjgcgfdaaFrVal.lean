/- A frame as a value: seven cells, two of them rows. Nothing of the program's. -/
import Derived.Test.YtajjelcjgcgfdaaRngRow
import Derived.Test.YtajjelcjgcgfdaaFrMath
namespace Go.Proofs.Ytajjelcjgcgfdaa.P
set_option linter.unusedVariables false
open Go.RowKit

/-- a slice of ranges that reads as ps, a slice of bytes that reads as zs, below block B -/
structure RSl (w : World) (B : Nat) (v : Value) (ps : List (Int × Int)) : Prop where
  ex : ∃ A c, v = .slice A ps.length c ∧ ps.length ≤ c ∧ c ≤ maxLen ∧ RRow w B A ps
structure BSl (w : World) (B : Nat) (v : Value) (zs : List Int) : Prop where
  ex : ∃ A c, v = .slice A zs.length c ∧ zs.length ≤ c ∧ c ≤ maxLen ∧ (A = none → c = 0) ∧ BRow w B A zs
/-- the seven cells of a frame whose slices are r and d -/
def frCells (f : Fr) (r d : Value) : Array Value := #[.int .i64 f.kind, .int .i64 f.id, .int .i64 f.off, .bool f.fin, .int .i64 f.code, r, d]
/-- v says the frame f; its rows lie below block B -/
structure FrVal (w : World) (B : Nat) (v : Value) (f : Fr) : Prop where
  ex : ∃ r d, v = .agg #[.int .i64 f.kind, .int .i64 f.id, .int .i64 f.off, .bool f.fin, .int .i64 f.code, r, d] ∧ RSl w B r f.rs ∧ BSl w B d f.data
/-- its numbers fit -/
structure FrWf (f : Fr) : Prop where
  kind : (Lit.int .i64 f.kind).wf = true
  id : (Lit.int .i64 f.id).wf = true
  off : (Lit.int .i64 f.off).wf = true
  code : (Lit.int .i64 f.code).wf = true
theorem BRow.on {w w' : World} {A : Option Addr} {zs : List Int} (h : BRow w w.heap.size A zs) (hb : Below w.heap.size w w') : BRow w' w'.heap.size A zs := (h.below hb).more hb.size
theorem RSl.below {w w' : World} {B : Nat} {v : Value} {ps : List (Int × Int)} (h : RSl w B v ps) (hb : Below B w w') : RSl w' B v ps := by
  obtain ⟨A, c, rfl, h1, h2, h3⟩ := h.ex
  exact ⟨A, c, rfl, h1, h2, h3.below hb⟩
theorem RSl.more {w : World} {B B' : Nat} {v : Value} {ps : List (Int × Int)} (h : RSl w B v ps) (hB : B ≤ B') : RSl w B' v ps := by
  obtain ⟨A, c, rfl, h1, h2, h3⟩ := h.ex
  exact ⟨A, c, rfl, h1, h2, h3.more hB⟩
theorem BSl.below {w w' : World} {B : Nat} {v : Value} {zs : List Int} (h : BSl w B v zs) (hb : Below B w w') : BSl w' B v zs := by
  obtain ⟨A, c, rfl, h1, h2, h3, h4⟩ := h.ex
  exact ⟨A, c, rfl, h1, h2, h3, h4.below hb⟩
theorem BSl.more {w : World} {B B' : Nat} {v : Value} {zs : List Int} (h : BSl w B v zs) (hB : B ≤ B') : BSl w B' v zs := by
  obtain ⟨A, c, rfl, h1, h2, h3, h4⟩ := h.ex
  exact ⟨A, c, rfl, h1, h2, h3, h4.more hB⟩
theorem FrVal.below {w w' : World} {B : Nat} {v : Value} {f : Fr} (h : FrVal w B v f) (hb : Below B w w') : FrVal w' B v f := by
  obtain ⟨r, d, rfl, hr, hd⟩ := h.ex
  exact ⟨r, d, rfl, hr.below hb, hd.below hb⟩
theorem FrVal.more {w : World} {B B' : Nat} {v : Value} {f : Fr} (h : FrVal w B v f) (hB : B ≤ B') : FrVal w B' v f := by
  obtain ⟨r, d, rfl, hr, hd⟩ := h.ex
  exact ⟨r, d, rfl, hr.more hB, hd.more hB⟩
theorem FrVal.on {w w' : World} {v : Value} {f : Fr} (h : FrVal w w.heap.size v f) (hb : Below w.heap.size w w') : FrVal w' w'.heap.size v f := (h.below hb).more hb.size
theorem RSl.nil (w : World) (B : Nat) : RSl w B (.slice none 0 0) [] := ⟨none, 0, rfl, Nat.le_refl _, by unfold maxLen; omega, RRow.nil _ _ _⟩
theorem BSl.nil (w : World) (B : Nat) : BSl w B (.slice none 0 0) [] := ⟨none, 0, rfl, Nat.le_refl _, by unfold maxLen; omega, fun _ => rfl, BRow.nil _ _ _⟩

/-- which of some parts, bit by bit, are there -/
def maskOf (k : Int) : Int := if k = 2 then 64 else if k = 4 then 11 else if k = 5 then 9 else if k = 6 then 34 else if k = 7 then 32 else if k = 8 then 39 else if k = 16 then 2 else if k = 17 then 3 else if k = 18 then 2 else if k = 26 then 24 else if k = 27 then 24 else if k = 28 then 8 else 0
def hasM (m x : Int) : Bool := decide (bits .and .u64 m x = x)
def mbV (h : Bool) (n : Int) : Bool := !numBad h n
def inBV (m id off code n : Int) : Bool := mbV (hasM m 1) id && mbV (hasM m 2) off && mbV (hasM m 8) code && (!hasM m 34 || decide (off + n ≤ 4611686018427387903))
def inFV (m : Int) (f : Fr) : Bool := !(decide (0 < f.data.length) && !hasM m 32) && !(f.fin && !hasM m 4) && (decide (0 < f.rs.length) == hasM m 64) && decide (downL f.rs)
theorem mask_of {k : Int} {s : List Int} (h : partsOf k = some s) : hasM (maskOf k) 1 = decide (105 ∈ s) ∧ hasM (maskOf k) 2 = decide (111 ∈ s) ∧ hasM (maskOf k) 4 = decide (102 ∈ s) ∧ hasM (maskOf k) 8 = (decide (99 ∈ s) || decide (119 ∈ s)) ∧ hasM (maskOf k) 16 = decide (119 ∈ s) ∧
    hasM (maskOf k) 32 = decide (100 ∈ s) ∧ hasM (maskOf k) 64 = decide (114 ∈ s) ∧ hasM (maskOf k) 34 = (decide (111 ∈ s) && decide (100 ∈ s)) := by
  rcases parts_cases h with ⟨rfl, rfl | rfl | rfl⟩ | ⟨rfl, rfl⟩ | ⟨rfl, rfl⟩ | ⟨rfl, rfl⟩ | ⟨rfl, rfl⟩ | ⟨rfl, rfl⟩ | ⟨rfl, rfl⟩ | ⟨rfl, rfl | rfl⟩ | ⟨rfl, rfl⟩ | ⟨rfl, rfl | rfl⟩ | ⟨rfl, rfl⟩
  all_goals decide +kernel
theorem faultF_no {f : Fr} (h : partsOf f.kind = none) : faultF f = 2 := by unfold faultF; rw [h]
theorem faultF_some {f : Fr} {s : List Int} (h : partsOf f.kind = some s) : faultF f = if 120 < f.data.length ∨ 6 < f.rs.length then 1 else if inBV (maskOf f.kind) f.id f.off f.code f.data.length = false then 6 else if inFV (maskOf f.kind) f = false then 3 else 0 := by
  obtain ⟨h1, h2, h3, h4, h5, h6, h7, h8⟩ := mask_of h
  unfold faultF
  rw [h]
  simp only
  by_cases c1 : 120 < f.data.length ∨ 6 < f.rs.length
  · rw [if_pos c1, if_pos c1]
  rw [if_neg c1, if_neg c1]
  have hI : ∀ b, (!numBad (decide (105 ∈ s)) f.id && !numBad (decide (111 ∈ s)) f.off && !numBad (decide (99 ∈ s) || decide (119 ∈ s)) f.code && (!(decide (111 ∈ s) && decide (100 ∈ s)) || decide (f.off + f.data.length ≤ 4611686018427387903))) = b → inBV (maskOf f.kind) f.id f.off f.code f.data.length = b := by
    intro b hb
    unfold inBV mbV
    rw [h1, h2, h4, h8]
    exact hb
  have hF : ∀ b, (!(decide (0 < f.data.length) && !decide (100 ∈ s)) && !(f.fin && !decide (102 ∈ s)) && (decide (0 < f.rs.length) == decide (114 ∈ s)) && decide (downL f.rs)) = b → inFV (maskOf f.kind) f = b := by
    intro b hb
    unfold inFV
    rw [h3, h6, h7]
    exact hb
  by_cases c2 : numBad (decide (105 ∈ s)) f.id = true ∨ numBad (decide (111 ∈ s)) f.off = true ∨ numBad (decide (99 ∈ s) || decide (119 ∈ s)) f.code = true
  · have e := hI false (by rcases c2 with e | e | e <;> simp [e])
    rw [if_pos c2, if_pos e]
  rw [if_neg c2]
  simp only [not_or, Bool.not_eq_true] at c2
  obtain ⟨e1, e2, e3⟩ := c2
  by_cases c3 : 111 ∈ s ∧ 100 ∈ s ∧ 4611686018427387903 < f.off + f.data.length
  · have g : decide (f.off + (f.data.length : Int) ≤ 4611686018427387903) = false := decide_eq_false (by omega)
    have e := hI false (by rw [g]; simp [c3.1, c3.2.1])
    rw [if_pos c3, if_pos e]
  rw [if_neg c3]
  have e := hI true (by
    rw [e1, e2, e3]
    by_cases a : 111 ∈ s
    · by_cases b : 100 ∈ s
      · have : decide (f.off + (f.data.length : Int) ≤ 4611686018427387903) = true := by
          refine decide_eq_true (Int.not_lt.1 fun c => c3 ⟨a, b, c⟩)
        rw [this]; simp
      · simp [b]
    · simp [a])
  rw [if_neg (by rw [e]; decide : ¬ inBV (maskOf f.kind) f.id f.off f.code f.data.length = false)]
  by_cases c4 : decide (0 < f.rs.length) ≠ decide (114 ∈ s) ∨ ¬ downL f.rs ∨ (0 < f.data.length ∧ 100 ∉ s) ∨ (f.fin = true ∧ 102 ∉ s)
  · have k := hF false (by
      rcases c4 with e | e | e | e
      · have : (decide (0 < f.rs.length) == decide (114 ∈ s)) = false := by simpa using e
        rw [this]; simp
      · simp [e]
      · simp [e.1, e.2]
      · simp [e.1, e.2])
    rw [if_pos c4, if_pos k]
  · have k := hF true (by
      have d1 : decide (0 < f.rs.length) = decide (114 ∈ s) := Decidable.byContradiction fun e => c4 (.inl e)
      have d2 : downL f.rs := Decidable.byContradiction fun e => c4 (.inr (.inl e))
      have d3 : (decide (0 < f.data.length) && !decide (100 ∈ s)) = false := by
        by_cases a : 0 < f.data.length
        · by_cases b : 100 ∈ s
          · simp [b]
          · exact absurd (.inr (.inr (.inl ⟨a, b⟩))) c4
        · simp [a]
      have d4 : (f.fin && !decide (102 ∈ s)) = false := by
        cases a : f.fin
        · rfl
        · by_cases b : 102 ∈ s
          · simp [b]
          · exact absurd (.inr (.inr (.inr ⟨a, b⟩))) c4
      rw [d1, d3, d4]
      simp [d2])
    rw [if_neg c4, if_neg (by rw [k]; decide : ¬ inFV (maskOf f.kind) f = false)]
end Go.Proofs.Ytajjelcjgcgfdaa.P
