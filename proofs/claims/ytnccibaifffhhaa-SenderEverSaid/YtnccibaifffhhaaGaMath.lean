/- Pieces of bytes: what may be, put in, taken. Nothing of the program's. -/
import Derived.Test.YtnccibaifffhhaaGrpB
namespace Go.Proofs.Ytnccibaifffhhaa.P
set_option linter.unusedVariables false
open Go.RowKit

/-- a piece: its place, its bytes -/
abbrev Pc := Int × List Int
def endP (p : Pc) : Int := p.1 + p.2.length
/-- pieces that may stand behind a place -/
def okPs : Int → List Pc → Prop
  | _, [] => True
  | a, p :: ps => p.2 ≠ [] ∧ a < p.1 ∧ okPs (endP p) ps
/-- the byte at a place -/
def atP : List Pc → Int → Option Int
  | [], _ => none
  | p :: ps, x => if p.1 ≤ x ∧ x < endP p then some (p.2.getD (x - p.1).toNat 0) else atP ps x
/-- where what is held ends -/
def reachP : Int → List Pc → Int
  | d, [] => d
  | _, p :: ps => reachP (endP p) ps

theorem end_gt {p : Pc} (h : p.2 ≠ []) : p.1 < endP p := by
  unfold endP
  have : 0 < p.2.length := List.length_pos_iff.2 h
  omega
theorem okPs.mono {a b : Int} {ps : List Pc} (h : okPs a ps) (hb : b ≤ a) : okPs b ps := by
  cases ps with
  | nil => trivial
  | cons p ps => exact ⟨h.1, by have := h.2.1; omega, h.2.2⟩
theorem at_below {a : Int} {ps : List Pc} (h : okPs a ps) {x : Int} (hx : x ≤ a) : atP ps x = none := by
  induction ps generalizing a with
  | nil => rfl
  | cons p ps ih =>
    have h1 := h.2.1
    have h2 := end_gt h.1
    unfold atP
    rw [if_neg (by omega)]
    exact ih h.2.2 (by omega)
theorem at_first {a : Int} {p : Pc} {ps : List Pc} (h : okPs a (p :: ps)) : ∃ c, atP (p :: ps) p.1 = some c := by
  have := end_gt h.1
  exact ⟨_, by unfold atP; rw [if_pos (by omega)]⟩
theorem at_end {a : Int} {p : Pc} {ps : List Pc} (h : okPs a (p :: ps)) : atP (p :: ps) (endP p) = none := by
  unfold atP
  rw [if_neg (by omega)]
  exact at_below h.2.2 (Int.le_refl _)
/-- pieces with the same bytes at the same places are the same -/
theorem okPs_ext {a b : Int} {ps qs : List Pc} (hp : okPs a ps) (hq : okPs b qs) (h : ∀ x, atP ps x = atP qs x) : ps = qs := by
  induction ps generalizing a b qs with
  | nil =>
    cases qs with
    | nil => rfl
    | cons q qs =>
      obtain ⟨c, hc⟩ := at_first hq
      rw [← h] at hc
      cases hc
  | cons p ps ih =>
    cases qs with
    | nil =>
      obtain ⟨c, hc⟩ := at_first hp
      rw [h] at hc
      cases hc
    | cons q qs =>
      have low : ∀ {b : Int} {q : Pc} {qs : List Pc}, okPs b (q :: qs) → ∀ x, x < q.1 → atP (q :: qs) x = none := fun {b q qs} hq x hx => by
        have := end_gt hq.1
        unfold atP
        rw [if_neg (by omega)]
        exact at_below hq.2.2 (by omega)
      have e1 : p.1 = q.1 := by
        rcases Int.lt_trichotomy p.1 q.1 with h1 | h1 | h1
        · obtain ⟨c, hc⟩ := at_first hp
          rw [h, low hq _ h1] at hc
          cases hc
        · exact h1
        · obtain ⟨c, hc⟩ := at_first hq
          rw [← h, low hp _ h1] at hc
          cases hc
      have gp := end_gt hp.1
      have gq := end_gt hq.1
      have e2 : endP p = endP q := by
        rcases Int.lt_trichotomy (endP p) (endP q) with h1 | h1 | h1
        · have := at_end hp
          rw [h] at this
          unfold atP at this
          rw [if_pos (by omega)] at this
          cases this
        · exact h1
        · have := at_end hq
          rw [← h] at this
          unfold atP at this
          rw [if_pos (by omega)] at this
          cases this
      have hl : p.2.length = q.2.length := by unfold endP at e2; omega
      have e3 : p.2 = q.2 := by
        refine List.ext_getElem hl fun i h1 h2 => ?_
        have := h (p.1 + i)
        unfold atP at this
        rw [if_pos (by unfold endP; omega), if_pos (by unfold endP; omega)] at this
        rw [show (p.1 + (i : Int) - p.1).toNat = i by omega, show (p.1 + (i : Int) - q.1).toNat = i by omega] at this
        simp only [Option.some.injEq] at this
        rw [List.getD_eq_getElem?_getD, List.getD_eq_getElem?_getD, List.getElem?_eq_getElem h1, List.getElem?_eq_getElem h2] at this
        exact this
      have e4 : p = q := by
        cases p; cases q
        simp only at e1 e3
        rw [e1, e3]
      subst e4
      rw [ih hp.2.2 hq.2.2 fun x => ?_]
      by_cases k : p.1 ≤ x ∧ x < endP p
      · rw [at_below hp.2.2 (by omega), at_below hq.2.2 (by omega)]
      · have := h x
        unfold atP at this
        rwa [if_neg k, if_neg k] at this

/-- a piece and bytes that touch it: what was there stays -/
def mergeP (p : Pc) (lo : Int) (d : List Int) : Pc := (min lo p.1, d.take (p.1 - lo).toNat ++ p.2 ++ d.drop (endP p - lo).toNat)
/-- bytes put among pieces -/
def insP : Int → List Int → List Pc → List Pc
  | lo, d, [] => if d = [] then [] else [(lo, d)]
  | lo, d, p :: ps =>
    if d = [] then p :: ps
    else if lo + d.length < p.1 then (lo, d) :: p :: ps
    else if endP p < lo then p :: insP lo d ps
    else insP (mergeP p lo d).1 (mergeP p lo d).2 ps
theorem insP_len : ∀ (ps : List Pc) (lo : Int) (d : List Int), (insP lo d ps).length ≤ ps.length + 1
  | [], lo, d => by unfold insP; split <;> simp
  | p :: ps, lo, d => by
    unfold insP
    split
    · simp
    split
    · simp
    split
    · have := insP_len ps lo d
      simp only [List.length_cons]; omega
    · have := insP_len ps (mergeP p lo d).1 (mergeP p lo d).2
      simp only [List.length_cons]; omega
/-- what is at a place behind the putting -/
def putA (ps : List Pc) (lo : Int) (d : List Int) (x : Int) : Option Int :=
  match atP ps x with
  | some c => some c
  | none => if lo ≤ x ∧ x < lo + d.length then some (d.getD (x - lo).toNat 0) else none
theorem getD_app_l {a b : List Int} {i : Nat} (h : i < a.length) : (a ++ b).getD i 0 = a.getD i 0 := by
  rw [List.getD_eq_getElem?_getD, List.getD_eq_getElem?_getD, List.getElem?_append_left h]
theorem getD_app_r {a b : List Int} {i : Nat} (h : a.length ≤ i) : (a ++ b).getD i 0 = b.getD (i - a.length) 0 := by
  rw [List.getD_eq_getElem?_getD, List.getD_eq_getElem?_getD, List.getElem?_append_right h]
theorem mergeP_end {p : Pc} {lo : Int} {d : List Int} (h1 : p.1 ≤ lo + d.length) (h2 : lo ≤ endP p) : endP (mergeP p lo d) = max (endP p) (lo + d.length) := by
  unfold endP at *
  unfold mergeP
  simp only [List.length_append, List.length_take, List.length_drop]
  unfold endP
  omega
theorem mergeP_at {p : Pc} {lo : Int} {d : List Int} (h1 : p.1 ≤ lo + d.length) (h2 : lo ≤ endP p) {x : Int} (k : (mergeP p lo d).1 ≤ x ∧ x < endP (mergeP p lo d)) :
    (mergeP p lo d).2.getD (x - (mergeP p lo d).1).toNat 0 = if p.1 ≤ x ∧ x < endP p then p.2.getD (x - p.1).toNat 0 else d.getD (x - lo).toNat 0 := by
  rw [mergeP_end h1 h2] at k
  have hm : (mergeP p lo d).1 = min lo p.1 := rfl
  rw [hm] at k ⊢
  have he : endP p = p.1 + p.2.length := rfl
  unfold mergeP
  simp only
  have ht : (d.take (p.1 - lo).toNat).length = (p.1 - lo).toNat := by rw [List.length_take]; omega
  by_cases c1 : x < p.1
  · rw [if_neg (by omega), List.append_assoc, getD_app_l (by rw [ht]; omega), getD_take (by omega), show min lo p.1 = lo by omega]
  · by_cases c2 : x < endP p
    · rw [if_pos (by omega), List.append_assoc, getD_app_r (by rw [ht]; omega), ht, getD_app_l (by omega)]
      congr 1
      omega
    · rw [if_neg (by omega), getD_app_r (by rw [List.length_append, ht]; omega), List.length_append, ht, getD_drop]
      congr 1
      omega
theorem insP_at : ∀ (ps : List Pc) (a lo : Int) (d : List Int), okPs a ps → ∀ x, atP (insP lo d ps) x = putA ps lo d x
  | [], a, lo, d, h, x => by
    unfold insP putA
    by_cases hd : d = []
    · subst hd
      rw [if_pos rfl]
      simp only [atP, List.length_nil]
      rw [if_neg (by omega)]
    · rw [if_neg hd]
      simp only [atP, endP]
      try rfl
  | p :: ps, a, lo, d, h, x => by
    have gp := end_gt h.1
    unfold insP
    by_cases hd : d = []
    · subst hd
      rw [if_pos rfl]
      unfold putA
      cases hc : atP (p :: ps) x with
      | some c => rfl
      | none => simp only [List.length_nil]; rw [if_neg (by omega)]
    rw [if_neg hd]
    have hdl : 0 < d.length := List.length_pos_iff.2 hd
    by_cases c1 : lo + d.length < p.1
    · rw [if_pos c1]
      unfold putA
      rw [show atP ((lo, d) :: p :: ps) x = if lo ≤ x ∧ x < lo + d.length then some (d.getD (x - lo).toNat 0) else atP (p :: ps) x from rfl]
      by_cases k : lo ≤ x ∧ x < lo + d.length
      · rw [if_pos k, show atP (p :: ps) x = none by unfold atP; rw [if_neg (by omega)]; exact at_below h.2.2 (by omega)]
        simp only
        rw [if_pos k]
      · rw [if_neg k]
        cases atP (p :: ps) x with
        | some c => rfl
        | none => simp only; rw [if_neg k]
    rw [if_neg c1]
    by_cases c2 : endP p < lo
    · rw [if_pos c2]
      have ih := insP_at ps (endP p) lo d h.2.2 x
      rw [show atP (p :: insP lo d ps) x = if p.1 ≤ x ∧ x < endP p then some (p.2.getD (x - p.1).toNat 0) else atP (insP lo d ps) x from rfl]
      unfold putA
      rw [show atP (p :: ps) x = if p.1 ≤ x ∧ x < endP p then some (p.2.getD (x - p.1).toNat 0) else atP ps x from rfl]
      by_cases k : p.1 ≤ x ∧ x < endP p
      · rw [if_pos k, if_pos k]
      · rw [if_neg k, if_neg k, ih]
        rfl
    rw [if_neg c2]
    have ih := insP_at ps (endP p) (mergeP p lo d).1 (mergeP p lo d).2 h.2.2 x
    rw [ih]
    unfold putA
    have me := mergeP_end (p := p) (lo := lo) (d := d) (by omega) (by omega)
    have hm : (mergeP p lo d).1 = min lo p.1 := rfl
    have hme : (mergeP p lo d).1 + ((mergeP p lo d).2.length : Int) = endP (mergeP p lo d) := rfl
    rw [hme]
    rw [show atP (p :: ps) x = if p.1 ≤ x ∧ x < endP p then some (p.2.getD (x - p.1).toNat 0) else atP ps x from rfl]
    by_cases k : p.1 ≤ x ∧ x < endP p
    · rw [if_pos k, at_below h.2.2 (by omega)]
      simp only
      rw [if_pos (by rw [me]; omega), mergeP_at (by omega) (by omega) ⟨by omega, by rw [me]; omega⟩, if_pos k]
    · rw [if_neg k]
      cases hc : atP ps x with
      | some c => rfl
      | none =>
        simp only
        by_cases k2 : lo ≤ x ∧ x < lo + d.length
        · rw [if_pos k2, if_pos (by rw [me]; omega), mergeP_at (by omega) (by omega) ⟨by omega, by rw [me]; omega⟩, if_neg k]
        · rw [if_neg k2, if_neg (by rw [me]; omega)]
theorem insP_ok : ∀ (ps : List Pc) (a lo : Int) (d : List Int), okPs a ps → a < lo → okPs a (insP lo d ps)
  | [], a, lo, d, h, hl => by
    unfold insP
    split
    · trivial
    · rename_i hd
      exact ⟨hd, hl, trivial⟩
  | p :: ps, a, lo, d, h, hl => by
    have gp := end_gt h.1
    unfold insP
    by_cases hd : d = []
    · rw [if_pos hd]; exact h
    rw [if_neg hd]
    have hdl : 0 < d.length := List.length_pos_iff.2 hd
    by_cases c1 : lo + d.length < p.1
    · rw [if_pos c1]
      exact ⟨hd, hl, h.1, c1, h.2.2⟩
    rw [if_neg c1]
    by_cases c2 : endP p < lo
    · rw [if_pos c2]
      exact ⟨h.1, h.2.1, insP_ok ps (endP p) lo d h.2.2 c2⟩
    rw [if_neg c2]
    have hm : (mergeP p lo d).1 = min lo p.1 := rfl
    exact insP_ok ps a (mergeP p lo d).1 (mergeP p lo d).2 (h.2.2.mono (by have := h.2.1; omega)) (by have := h.2.1; omega)
/-- pieces with the bytes of a putting are what the putting gives -/
theorem insP_only {ps pl : List Pc} {a b lo : Int} {d : List Int} (hp : okPs a ps) (hl : a < lo) (hq : okPs b pl) (h : ∀ x, atP pl x = putA ps lo d x) : pl = insP lo d ps :=
  okPs_ext hq (insP_ok ps a lo d hp hl) fun x => by rw [h, insP_at ps a lo d hp]
end Go.Proofs.Ytnccibaifffhhaa.P
