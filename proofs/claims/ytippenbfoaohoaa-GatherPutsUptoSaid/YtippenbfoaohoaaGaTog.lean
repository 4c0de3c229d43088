/- Pieces put together one behind the other, with what came into the gaps: what the putting gives. Nothing of the program's. -/
import Derived.Test.YtippenbfoaohoaaGaGrp
namespace Go.Proofs.Ytippenbfoaohoaa.P
set_option linter.unusedVariables false
open Go.RowKit

/-- a piece behind pieces; one that touches is part of the last one -/
def addP (l : List Pc) (p : Pc) : List Pc :=
  if p.2 = [] then l else
  match l.getLast? with
  | some q => if endP q = p.1 then l.dropLast ++ [(q.1, q.2 ++ p.2)] else l ++ [p]
  | none => [p]
/-- a part of a piece -/
def partP (p : Pc) (fr to : Int) : Pc := if min to (endP p) ≤ max fr p.1 then (0, []) else (max fr p.1, (p.2.drop (max fr p.1 - p.1).toNat).take (min to (endP p) - max fr p.1).toNat)
/-- pieces, and what came into the gaps ahead of, between and behind them -/
def togL (came : Pc) : List Pc → Int → List Pc → List Pc
  | l, next, [] => addP l (partP came next (endP came))
  | l, next, p :: ps => togL came (addP (addP l (partP came next p.1)) p) (endP p) ps
theorem addP_nil (l : List Pc) {p : Pc} (h : p.2 = []) : addP l p = l := if_pos h
theorem addP_first {p : Pc} (h : p.2 ≠ []) : addP [] p = [p] := if_neg h
theorem addP_touch (l : List Pc) (q : Pc) {p : Pc} (h : p.2 ≠ []) (e : endP q = p.1) : addP (l ++ [q]) p = l ++ [(q.1, q.2 ++ p.2)] := by
  unfold addP
  rw [if_neg h, List.getLast?_concat]
  simp only
  rw [if_pos e, List.dropLast_concat]
theorem addP_apart (l : List Pc) (q : Pc) {p : Pc} (h : p.2 ≠ []) (e : endP q ≠ p.1) : addP (l ++ [q]) p = l ++ [q] ++ [p] := by
  unfold addP
  rw [if_neg h, List.getLast?_concat]
  simp only
  rw [if_neg e]
theorem one_none {p : Pc} (h : p.2 = []) (x : Int) : atP [p] x = none := by
  unfold atP
  have : endP p = p.1 := by unfold endP; rw [h]; simp
  rw [if_neg (by omega)]
  rfl
/-- what a piece behind pieces does -/
theorem addP_does {a : Int} {l : List Pc} {p : Pc} (h : okPs a l) (hr : reachP a l ≤ p.1) (ha : a < p.1) :
    okPs a (addP l p) ∧ reachP a (addP l p) = (if p.2 = [] then reachP a l else endP p) ∧ (∀ x, atP (addP l p) x = match atP l x with | some c => some c | none => atP [p] x) ∧ sumP (addP l p) = sumP l + p.2.length := by
  by_cases e : p.2 = []
  · rw [addP_nil l e, if_pos e]
    refine ⟨h, rfl, fun x => ?_, by rw [e]; simp⟩
    rw [one_none e]
    cases atP l x <;> rfl
  rw [if_neg e]
  rcases List.eq_nil_or_concat l with k | ⟨qs, q, k⟩
  · subst k
    rw [addP_first e]
    exact ⟨⟨e, ha, trivial⟩, rfl, fun x => rfl, by simp [sumP]⟩
  rw [List.concat_eq_append] at k
  subst k
  obtain ⟨o1, o2, o3⟩ := (ok_snoc _ _ _).1 h
  rw [reach_snoc] at hr
  by_cases t : endP q = p.1
  · rw [addP_touch qs q e t]
    have he : endP ((q.1, q.2 ++ p.2) : Pc) = endP p := by
      have : endP q = q.1 + q.2.length := rfl
      unfold endP at t ⊢
      simp only [List.length_append]
      omega
    refine ⟨(ok_snoc _ _ _).2 ⟨o1, by simp [e], o3⟩, by rw [reach_snoc, he], fun x => ?_, by simp [sumP, Nat.add_assoc]⟩
    rw [at_app, at_app]
    cases atP qs x with
    | some c => rfl
    | none =>
      simp only [atP]
      have hp : endP p = p.1 + p.2.length := rfl
      have hq : endP q = q.1 + q.2.length := rfl
      have hql := end_gt o2
      by_cases k1 : q.1 ≤ x ∧ x < endP q
      · rw [if_pos (by rw [he]; (try simp only); omega), if_pos k1]
        simp only
        rw [getD_app_l (by omega)]
      · rw [if_neg k1]
        by_cases k2 : p.1 ≤ x ∧ x < endP p
        · rw [if_pos (by rw [he]; (try simp only); omega), if_pos k2]
          simp only
          rw [getD_app_r (by omega)]
          congr 2
          omega
        · rw [if_neg (by rw [he]; (try simp only); omega), if_neg k2]
  · rw [addP_apart qs q e t]
    refine ⟨(ok_snoc _ _ _).2 ⟨h, e, by rw [reach_snoc]; omega⟩, reach_snoc _ _ _, fun x => at_app _ _ _, by rw [sumP_app, sumP_app]; simp [sumP]⟩
theorem partP_does (off : Int) (d : List Int) (fr to : Int) :
    (∀ x, atP [partP (off, d) fr to] x = if max fr off ≤ x ∧ x < min to (off + d.length) then some (d.getD (x - off).toNat 0) else none) ∧ ((partP (off, d) fr to).2 ≠ [] → (partP (off, d) fr to).1 = max fr off ∧ endP (partP (off, d) fr to) = min to (off + d.length)) ∧ ((partP (off, d) fr to).2.length : Int) = max 0 (min to (off + d.length) - max fr off) := by
  have he : endP ((off, d) : Pc) = off + d.length := rfl
  unfold partP
  rw [he]
  simp only
  by_cases k : min to (off + (d.length : Int)) ≤ max fr off
  · rw [if_pos k]
    refine ⟨fun x => ?_, fun h => absurd rfl h, by simp; omega⟩
    rw [one_none rfl, if_neg (by omega)]
  · rw [if_neg k]
    have hl : ((d.drop (max fr off - off).toNat).take (min to (off + (d.length : Int)) - max fr off).toNat).length = (min to (off + (d.length : Int)) - max fr off).toNat := by rw [List.length_take, List.length_drop]; omega
    have e2 : endP ((max fr off, (d.drop (max fr off - off).toNat).take (min to (off + (d.length : Int)) - max fr off).toNat) : Pc) = min to (off + d.length) := by
      unfold endP
      simp only
      rw [hl]
      omega
    refine ⟨fun x => ?_, fun _ => ⟨rfl, e2⟩, by simp only; rw [hl]; omega⟩
    unfold atP
    rw [e2]
    simp only
    by_cases q : max fr off ≤ x ∧ x < min to (off + (d.length : Int))
    · rw [if_pos q, if_pos q, getD_take (by omega), getD_drop]
      congr 2
      omega
    · rw [if_neg q, if_neg q]
      rfl
/-- what holds between the steps -/
structure TogI (g : Ga) (off : Int) (d : List Int) (l : List Pc) (next : Int) (ps : List Pc) : Prop where
  ok : okPs (g.done - 1) l
  re : reachP (g.done - 1) l ≤ next
  at_ : ∀ x, x < next → atP l x = putF g off d x
  okr : okPs (next - 1) ps
  rest : ∀ x, next ≤ x → atP g.held x = atP ps x
  dn : g.done ≤ next
  sum : (sumP l : Int) + sumP ps + max 0 (off + d.length - max next off) ≤ d.length + sumP g.held
theorem TogI.start {g : Ga} {off : Int} {d : List Int} (h : okPs (g.done - 1) g.held) (h0 : 0 ≤ off) : TogI g off d [] g.done g.held := by
  refine ⟨trivial, by show g.done - 1 ≤ g.done; omega, fun x hx => ?_, h, fun _ _ => rfl, Int.le_refl _, by simp [sumP]; omega⟩
  unfold putF
  rw [at_below h (by omega)]
  simp only
  rw [if_neg (by omega)]
  rfl
/-- the gap ahead of what stands at a place -/
theorem TogI.gap {g : Ga} {off : Int} {d : List Int} {l : List Pc} {next : Int} {ps : List Pc} (h : TogI g off d l next ps) (to : Int) (ht : next ≤ to) (hn : ∀ x, x < to → atP ps x = none) :
    okPs (g.done - 1) (addP l (partP (off, d) next to)) ∧ reachP (g.done - 1) (addP l (partP (off, d) next to)) ≤ to ∧ (∀ x, x < to → atP (addP l (partP (off, d) next to)) x = putF g off d x) ∧ (sumP (addP l (partP (off, d) next to)) : Int) = sumP l + max 0 (min to (off + d.length) - max next off) := by
  obtain ⟨p1, p2, p3⟩ := partP_does off d next to
  have hdn := h.dn
  have hre := h.re
  have key : ∀ x, x < to → (match atP l x with | some c => some c | none => atP [partP (off, d) next to] x) = putF g off d x := fun x hx => by
    by_cases q : x < next
    · rw [← h.at_ x q]
      cases atP l x with
      | some c => rfl
      | none =>
        simp only
        rw [p1, if_neg (by omega)]
    · rw [at_reach l _ x h.ok (by omega)]
      simp only
      rw [p1]
      unfold putF
      rw [h.rest x (by omega), hn x hx]
      simp only
      by_cases k : max next off ≤ x ∧ x < min to (off + (d.length : Int))
      · rw [if_pos k, if_pos (by omega)]
      · rw [if_neg k, if_neg (by omega)]
  by_cases e : (partP (off, d) next to).2 = []
  · rw [addP_nil l e]
    refine ⟨h.ok, by omega, fun x hx => ?_, by rw [e] at p3; simp only [List.length_nil] at p3; omega⟩
    rw [← key x hx, one_none e]
    cases atP l x <;> rfl
  · obtain ⟨e1, e2⟩ := p2 e
    have q := addP_does (p := partP (off, d) next to) h.ok (by omega) (by omega)
    refine ⟨q.1, by rw [q.2.1, if_neg e]; omega, fun x hx => by rw [q.2.2.1]; exact key x hx, by rw [q.2.2.2]; omega⟩
theorem TogI.step {g : Ga} {off : Int} {d : List Int} {l : List Pc} {next : Int} {p : Pc} {ps : List Pc} (h : TogI g off d l next (p :: ps)) : TogI g off d (addP (addP l (partP (off, d) next p.1)) p) (endP p) ps := by
  have ho := h.okr
  have hp := ho.2.1
  have gp := end_gt ho.1
  obtain ⟨g1, g2, g3, g4⟩ := h.gap p.1 (by omega) (fun x hx => by
    unfold atP
    rw [if_neg (by omega)]
    exact at_below ho.2.2 (by omega))
  have hdn := h.dn
  have q := addP_does (p := p) g1 g2 (by omega)
  have he : endP p = p.1 + p.2.length := rfl
  have hs := h.sum
  refine ⟨q.1, by rw [q.2.1, if_neg ho.1]; omega, fun x hx => ?_, ho.2.2.mono (by omega), fun x hx => ?_, by omega, ?_⟩
  · rw [q.2.2.1]
    by_cases k : x < p.1
    · rw [g3 x k]
      unfold atP
      rw [if_neg (by omega)]
      cases putF g off d x <;> rfl
    · rw [at_reach _ _ x g1 (by omega)]
      simp only
      unfold putF
      rw [h.rest x (by omega)]
      unfold atP
      rw [if_pos (by omega), if_pos (by omega)]
  · rw [h.rest x (by omega)]
    exact if_neg (by omega)
  · rw [q.2.2.2]
    have e1 : sumP (p :: ps) = p.2.length + sumP ps := by simp [sumP]
    rw [e1] at hs
    push_cast at hs ⊢
    omega
theorem TogI.last {g : Ga} {off : Int} {d : List Int} {l : List Pc} {next : Int} (h : TogI g off d l next []) (h0 : 0 ≤ off) (hok : okPs (g.done - 1) g.held) : addP l (partP (off, d) next (endP (off, d))) = putP g off d := by
  have he : endP ((off, d) : Pc) = off + d.length := rfl
  rw [he]
  have key : addP l (partP (off, d) next (max next (off + d.length))) = putP g off d := by
    obtain ⟨g1, g2, g3, g4⟩ := h.gap (max next (off + d.length)) (by omega) (fun x _ => rfl)
    unfold putP
    refine insP_only hok (by omega) g1 fun x => ?_
    rw [← putF_at g off d x h0]
    by_cases k : x < max next (off + d.length)
    · exact g3 x k
    · rw [at_reach _ _ x g1 (by omega)]
      unfold putF
      rw [h.rest x (by omega)]
      simp only [atP]
      rw [if_neg (by omega)]
  rw [← key]
  congr 1
  unfold partP
  rw [he]
  rw [show min (off + (d.length : Int)) (off + d.length) = min (max next (off + (d.length : Int))) (off + d.length) by omega]
theorem togL_put {g : Ga} {off : Int} {d : List Int} (h0 : 0 ≤ off) (hok : okPs (g.done - 1) g.held) : ∀ (ps l : List Pc) (next : Int), TogI g off d l next ps → togL (off, d) l next ps = putP g off d
  | [], l, next, h => h.last h0 hok
  | p :: ps, l, next, h => togL_put h0 hok ps _ _ h.step
end Go.Proofs.Ytippenbfoaohoaa.P
