/- The reference's map of kinds: what a look-up finds in it. Nothing of the program's but the kinds. -/
import Derived.Test.YtjeocggocloigaaFrMath
import Derived.Test.YtjeocggocloigaaStr
import Derived.Maps.OwnSet
import Derived.Maps.StringElems
namespace Go.Proofs.Ytjeocggocloigaa.P
set_option linter.unusedVariables false
open Go.RowKit

def kinds : List (Int × List Int) := [(0, []), (1, []), (2, [114]), (4, [105, 111, 99]), (5, [105, 99]), (6, [111, 100]), (7, [100]), (8, [105, 111, 100, 102]), (16, [111]), (17, [105, 111]), (18, [111]), (26, [119]), (27, [119]), (28, [99]), (30, [])]
def lookL : List (Int × List Int) → Int → Option (List Int) → Option (List Int)
  | [], _, a => a
  | x :: t, k, a => lookL t k (if k = x.1 then some x.2 else a)
theorem look_kinds (k : Int) : lookL kinds k none = partsOf k := by
  by_cases h : k = 0 ∨ k = 1 ∨ k = 2 ∨ k = 4 ∨ k = 5 ∨ k = 6 ∨ k = 7 ∨ k = 8 ∨ k = 16 ∨ k = 17 ∨ k = 18 ∨ k = 26 ∨ k = 27 ∨ k = 28 ∨ k = 30
  · rcases h with rfl | rfl | rfl | rfl | rfl | rfl | rfl | rfl | rfl | rfl | rfl | rfl | rfl | rfl | rfl <;> rfl
  · simp only [not_or] at h
    obtain ⟨h0, h1, h2, h3, h4, h5, h6, h7, h8, h9, ha, hb, hc, hd, he⟩ := h
    unfold partsOf kinds
    simp only [lookL, if_neg h0, if_neg h1, if_neg h2, if_neg h3, if_neg h4, if_neg h5, if_neg h6, if_neg h7, if_neg h8, if_neg h9, if_neg ha, if_neg hb, if_neg hc, if_neg hd, if_neg he]
/-- entries put one behind the other -/
def putAll (D : DataW Unit) : List (Int × List Int) → DataW Unit
  | [] => D
  | x :: l => putAll (D.put (.int .i64 x.1) (.lit (.string (strOfNums x.2).data.toList))) l
def optD (z : DataW Unit) : Option (List Int) → DataW Unit
  | none => z
  | some s => .lit (.string (strOfNums s).data.toList)
theorem keyLit (a : Int) (h : (Lit.int .i64 a).wf = true) : WideAt.IsKeyLit (.int .i64 a) := by
  first | exact h | exact trivial | (unfold WideAt.IsKeyLit; simp [h])
theorem put_look (k : Int) (z : DataW Unit) : ∀ (l : List (Int × List Int)) (D : DataW Unit) (a : Option (List Int)), Maps.IsMap D → (∀ x ∈ l, (Lit.int .i64 x.1).wf = true) → D.atKey (.int .i64 k) z = optD z a → Maps.has D (.int .i64 k) = a.isSome →
    (putAll D l).atKey (.int .i64 k) z = optD z (lookL l k a) ∧ Maps.has (putAll D l) (.int .i64 k) = (lookL l k a).isSome
  | [], D, a, hD, _, h1, h2 => ⟨h1, h2⟩
  | x :: l, D, a, hD, hw, h1, h2 => by
    simp only [putAll, lookL]
    refine put_look k z l _ _ (hD.put _ _) (fun y hy => hw y (List.mem_cons_of_mem _ hy)) ?_ ?_
    · by_cases e : k = x.1
      · rw [if_pos e, e, Maps.atKey_put_same hD (keyLit _ (hw x List.mem_cons_self))]; rfl
      · rw [if_neg e, Maps.atKey_put_other (by intro h; simp at h; exact e h)]; exact h1
    · by_cases e : k = x.1
      · rw [if_pos e, e, Maps.has_put_same hD (keyLit _ (hw x List.mem_cons_self))]; rfl
      · rw [if_neg e, Maps.has_put_other (by intro h; simp at h; exact e h)]; exact h2
theorem fill {P : Program} {T K E : TypeId} (hT : P.underlying T = some (.map K E)) (hK : P.underlying K = some (.int .i64)) (hE : P.underlying E = some .string) (b B : Nat) (hB : B ≤ b) (w0 : World) : ∀ (l : List (Int × List Int)) (w : World) (n : Nat) (D : DataW Unit), w.ownsMap P K (plainElem P E) b n D → Below B w0 w →
    (∀ x ∈ l, (Lit.int .i64 x.1).wf = true ∧ x.2.length ≤ maxLen) → n + l.length < maxLen →
    ∃ ws : Nat → World, ws 0 = w ∧ (∀ i (x : Int × List Int), l[i]? = some x → (Instr.mapUpdate T (.map (some b)) (.int .i64 x.1) (.string (strOfNums x.2))).run P (ws i) = .ok () (ws (i + 1))) ∧
      (ws l.length).ownsMap P K (plainElem P E) b (n + l.length) (putAll D l) ∧ Below B w0 (ws l.length)
  | [], w, n, D, ho, hb, _, _ => ⟨fun _ => w, rfl, fun i x h => by simp at h, ho, hb⟩
  | x :: l, w, n, D, ho, hb, hw, hn => by
    have KK := Maps.int_keyed (P := P) hK
    have h0 := hw x List.mem_cons_self
    simp only [List.length_cons] at hn
    obtain ⟨w1, r1, o1, g1⟩ := ho.update KK hT (by omega) (Maps.keyOf_int_mk hK h0.1) (plainElem_string hE (s := strOfNums x.2) (by rw [strOfNums_size]; exact h0.2))
    have b1 := hb.grown g1 (by have := ho.lt; omega) (fun k h => by cases h; exact hB)
    obtain ⟨ws, e0, hr, ho', hb'⟩ := fill hT hK hE b B hB w0 l w1 (n + 1) _ o1 b1 (fun y hy => hw y (List.mem_cons_of_mem _ hy)) (by omega)
    refine ⟨fun i => match i with | 0 => w | i + 1 => ws i, rfl, fun i y hy => ?_, ?_, hb'⟩
    · cases i with
      | zero =>
        simp at hy
        subst hy
        show _ = Result.ok () (ws 0)
        rw [e0]; exact r1
      | succ i => exact hr i y (by simpa using hy)
    · show (ws l.length).ownsMap _ _ _ _ (n + (l.length + 1)) _
      rw [show n + (l.length + 1) = n + 1 + l.length by omega]
      exact ho'
theorem sinv {P : Program} {E : TypeId} (he : P.underlying E = some .string) {v : Value} {d : DataW Unit} {ps : List MemPlace} (h : plainElem P E v = some (d, ps)) : ∃ s : ByteArray, v = .string s ∧ d = .lit (.string s.data.toList) := by
  obtain ⟨s, h1, h2, _⟩ := plainElem_string_inv he h
  exact ⟨s, h1, (Prod.mk.inj h2).1⟩
/-- the map is made, and looked up -/
theorem kinds_map {P : Program} {T K E : TypeId} (hT : P.underlying T = some (.map K E)) (hK : P.underlying K = some (.int .i64)) (hE : P.underlying E = some .string) (zero : ∀ w, (zeroValue E).run P w = .ok (.string ⟨#[]⟩) w) (w : World) (k : Int) (hk : (Lit.int .i64 k).wf = true) :
    ∃ ws : Nat → World, ws 0 = w.alloc (.map #[] 0) ∧ (∀ i (x : Int × List Int), kinds[i]? = some x → (Instr.mapUpdate T (.map (some w.heap.size)) (.int .i64 x.1) (.string (strOfNums x.2))).run P (ws i) = .ok () (ws (i + 1))) ∧
      (Instr.lookup T (.map (some w.heap.size)) (.int .i64 k) true).run P (ws 15) = .ok (.tuple #[.string (strOfNums ((partsOf k).getD [])), .bool (partsOf k).isSome]) (ws 15) ∧ Below w.heap.size w (ws 15) := by
  have KK := Maps.int_keyed (P := P) hK
  have hm := World.ownsMap_made w P K (plainElem (H := Unit) P E)
  have hwf : ∀ x ∈ kinds, (Lit.int .i64 x.1).wf = true ∧ x.2.length ≤ maxLen := by
    unfold maxLen kinds
    intro x hx
    simp only [List.mem_cons, List.not_mem_nil, or_false] at hx
    rcases hx with rfl | rfl | rfl | rfl | rfl | rfl | rfl | rfl | rfl | rfl | rfl | rfl | rfl | rfl | rfl <;> exact ⟨by decide, by decide⟩
  obtain ⟨ws, e0, hr, ho, hb⟩ := fill hT hK hE w.heap.size w.heap.size (Nat.le_refl _) w kinds _ 0 _ hm ((Below.refl _ _).alloc (Nat.le_refl _) _) hwf (by unfold maxLen kinds; decide)
  refine ⟨ws, e0, hr, ?_, hb⟩
  have hz : plainElem (H := Unit) P E (.string ⟨#[]⟩) = some (.lit (.string []), []) := plainElem_string hE (s := ⟨#[]⟩) (by decide)
  obtain ⟨v, ps, hrun, hv⟩ := ho.look_ok KK hT (zero _) hz (Maps.keyOf_int_mk hK hk)
  have hp := put_look k (.lit (.string [])) kinds (.map []) none Maps.isMap_empty (fun x hx => (hwf x hx).1) rfl rfl
  rw [look_kinds] at hp
  rw [hp.1] at hv
  have hv' : v = .string (strOfNums ((partsOf k).getD [])) := by
    cases hpo : partsOf k with
    | none =>
      rw [hpo] at hv
      obtain ⟨s, rfl, hs⟩ := sinv hE hv
      have : s.data.toList = [] := by simpa [optD] using hs.symm
      obtain ⟨⟨l⟩⟩ := s
      simp at this
      subst this
      rfl
    | some t =>
      rw [hpo] at hv
      obtain ⟨s, rfl, hs⟩ := sinv hE hv
      have : s.data.toList = (strOfNums t).data.toList := by simpa [optD] using hs.symm
      have : s = strOfNums t := ByteArray.ext (Array.toList_inj.1 this)
      rw [this]; rfl
  have h15 : (ws 15) = ws kinds.length := rfl
  rw [h15, hrun, hp.2, hv']
end Go.Proofs.Ytjeocggocloigaa.P
