/- Bytes that are known place by place, in rising order, come to pieces. Nothing of the program's. -/
import Derived.Test.YtnccibaifffhhaaGaPut
namespace Go.Proofs.Ytnccibaifffhhaa.P
set_option linter.unusedVariables false
open Go.RowKit

theorem at_reach : ∀ (ps : List Pc) (a x : Int), okPs a ps → reachP a ps ≤ x → atP ps x = none
  | [], a, x, h, hx => rfl
  | p :: ps, a, x, h, hx => by
    have h1 := reach_mono ps (endP p) h.2.2
    have hx' : reachP (endP p) ps ≤ x := hx
    unfold atP
    rw [if_neg (by omega)]
    exact at_reach ps (endP p) x h.2.2 hx'
theorem at_app (ps qs : List Pc) (x : Int) : atP (ps ++ qs) x = match atP ps x with | some c => some c | none => atP qs x := by
  induction ps with
  | nil => rfl
  | cons p ps ih =>
    simp only [List.cons_append, atP]
    by_cases k : p.1 ≤ x ∧ x < endP p
    · rw [if_pos k, if_pos k]
    · rw [if_neg k, if_neg k, ih]
/-- how many bytes some pieces have -/
def sumP (ps : List Pc) : Nat := (ps.map fun p => p.2.length).sum
theorem sumP_app (ps qs : List Pc) : sumP (ps ++ qs) = sumP ps + sumP qs := by simp [sumP]
theorem sumP_one (x : Int) (zs : List Int) : sumP [(x, zs)] = zs.length := by simp [sumP]
/-- the pieces of the bytes at some places -/
structure Grp (a : Int) (f : Int → Option Int) (pl : List Int) (ps : List Pc) : Prop where
  ok : okPs a ps
  at_ : ∀ y, atP ps y = if y ∈ pl then f y else none
  nil : pl = [] → ps = []
  last : ∀ x, pl.getLast? = some x → reachP a ps = x + 1
  len : sumP ps = pl.length
theorem Grp.start (a : Int) (f : Int → Option Int) : Grp a f [] [] := ⟨trivial, fun y => by simp [atP], fun _ => rfl, fun x h => by simp at h, rfl⟩
theorem one_at (x c y : Int) : atP [(x, [c])] y = if y = x then some c else none := by
  have he : endP ((x, [c]) : Pc) = x + 1 := by simp [endP]
  unfold atP
  by_cases e : y = x
  · subst e
    rw [if_pos (by rw [he]; simp only; omega), if_pos rfl]
    simp
  · rw [if_neg (by rw [he]; simp only; omega), if_neg e]
    rfl
/-- a place that does not touch the last one -/
theorem Grp.push {a : Int} {f : Int → Option Int} {pl : List Int} {ps : List Pc} (h : Grp a f pl ps) {x c : Int} (ha : a < x) (hx : ∀ y ∈ pl, y < x) (hf : f x = some c) (hl : ∀ y, pl.getLast? = some y → y ≠ x - 1) : Grp a f (pl ++ [x]) (ps ++ [(x, [c])]) := by
  have hr : reachP a ps < x := by
    cases hq : pl.getLast? with
    | none =>
      have : pl = [] := by simpa using hq
      rw [h.nil this]
      exact ha
    | some y =>
      have h1 := h.last y hq
      have h2 := hx y (List.mem_of_getLast? hq)
      have h3 := hl y hq
      omega
  refine ⟨(ok_snoc _ _ _).2 ⟨h.ok, by simp, hr⟩, fun y => ?_, fun e => by simp at e, fun y hy => ?_, by rw [sumP_app, sumP_one, h.len, List.length_append]; rfl⟩
  · rw [at_app, h.at_ y, one_at]
    by_cases e : y = x
    · subst e
      have : y ∉ pl := fun q => by have := hx y q; omega
      simp [this, hf]
    · by_cases m : y ∈ pl
      · simp only [m, if_true, List.mem_append, true_or]
        cases hfy : f y with
        | some d => rfl
        | none => simp [e]
      · simp [m, e]
  · rw [reach_snoc]
    have : x = y := by simpa using hy
    subst this
    simp [endP]
/-- a place that touches the last one -/
theorem Grp.more {a : Int} {f : Int → Option Int} {pl : List Int} {qs : List Pc} {p : Pc} (h : Grp a f pl (qs ++ [p])) {x c : Int} (hx : ∀ y ∈ pl, y < x) (hf : f x = some c) (hl : pl.getLast? = some (x - 1)) : Grp a f (pl ++ [x]) (qs ++ [(p.1, p.2 ++ [c])]) := by
  obtain ⟨o1, o2, o3⟩ := (ok_snoc _ _ _).1 h.ok
  have hr := h.last _ hl
  rw [reach_snoc] at hr
  have he : endP p = p.1 + p.2.length := rfl
  have hp := end_gt o2
  refine ⟨(ok_snoc _ _ _).2 ⟨o1, by simp, o3⟩, fun y => ?_, fun e => by simp at e, fun y hy => ?_, by have := h.len; rw [sumP_app, sumP_one] at this ⊢; rw [List.length_append, List.length_append, List.length_singleton, List.length_singleton]; omega⟩
  · have h1 := h.at_ y
    rw [at_app] at h1 ⊢
    have e2 : endP ((p.1, p.2 ++ [c]) : Pc) = endP p + 1 := by simp only [endP, List.length_append, List.length_singleton]; omega
    by_cases e : y = x
    · subst e
      have hn : atP qs y = none := at_reach qs a y o1 (by omega)
      rw [hn]
      simp only
      unfold atP
      rw [if_pos (by rw [e2]; simp only; omega)]
      simp only [List.mem_append, List.mem_singleton, or_true, if_true, hf]
      rw [getD_app_r (by omega), show (y - p.1).toNat - p.2.length = 0 by omega]
      rfl
    · have hm : (if y ∈ pl ++ [x] then f y else none) = if y ∈ pl then f y else none := by simp [e]
      rw [hm, ← h1]
      cases atP qs y with
      | some d => rfl
      | none =>
        simp only [atP]
        by_cases k : p.1 ≤ y ∧ y < endP p
        · rw [if_pos (by rw [e2]; omega), if_pos k, getD_app_l (by omega)]
        · rw [if_neg (by rw [e2]; omega), if_neg k]
  · rw [reach_snoc]
    have : x = y := by simpa using hy
    subst this
    simp only [endP, List.length_append, List.length_singleton]
    omega
/-- what a map of bytes holds behind a putting: what is held, and, of the rest, what is not done -/
def putF (g : Ga) (off : Int) (d : List Int) (x : Int) : Option Int :=
  match atP g.held x with
  | some c => some c
  | none => if off ≤ x ∧ x < off + d.length ∧ g.done ≤ x then some (d.getD (x - off).toNat 0) else none
theorem putF_at (g : Ga) (off : Int) (d : List Int) (x : Int) (h0 : 0 ≤ off) : putF g off d x = putA g.held (max off g.done) (d.drop (max off g.done - off).toNat) x := by
  unfold putF putA
  cases atP g.held x with
  | some c => rfl
  | none =>
    simp only
    have hl : ((d.drop (max off g.done - off).toNat).length : Int) = max 0 ((d.length : Int) - (max off g.done - off)) := by rw [List.length_drop]; omega
    by_cases k : off ≤ x ∧ x < off + d.length ∧ g.done ≤ x
    · rw [if_pos k, if_pos (by omega), getD_drop]
      congr 2
      omega
    · rw [if_neg k, if_neg (by omega)]
/-- all places of such a map, in rising order, come to what the putting gives -/
theorem grp_put {g : Ga} {off : Int} {d : List Int} {pl : List Int} {ps : List Pc} (h0 : 0 ≤ off) (hok : okPs (g.done - 1) g.held) (hg : Grp (g.done - 1) (putF g off d) pl ps) (hpl : ∀ x, (putF g off d x).isSome → x ∈ pl) : ps = putP g off d := by
  unfold putP
  refine insP_only hok (by omega) hg.ok fun x => ?_
  rw [hg.at_ x, ← putF_at g off d x h0]
  by_cases m : x ∈ pl
  · rw [if_pos m]
  · rw [if_neg m]
    cases hf : putF g off d x with
    | none => rfl
    | some c => exact absurd (hpl x (by rw [hf]; rfl)) m
end Go.Proofs.Ytnccibaifffhhaa.P
