/- Bytes put into a gather, by P8.3; what is put stays one that may be. Nothing of the program's. -/
import Derived.Test.YtnccibaifffhhaaGaVal
namespace Go.Proofs.Ytnccibaifffhhaa.P
set_option linter.unusedVariables false
open Go.RowKit

def gz : Ga := ⟨0, [], 0, 0⟩
/-- the pieces behind a putting -/
def putP (g : Ga) (off : Int) (d : List Int) : List Pc := insP (max off g.done) (d.drop (max off g.done - off).toNat) g.held
/-- what Put says, by P8.3 -/
def putG (g : Ga) (off : Int) (d : List Int) (fin : Bool) : Ga × Int :=
  if faultG g ≠ 0 then (gz, faultG g)
  else if ¬(0 ≤ off ∧ off + d.length ≤ 4611686018427387903) then (gz, 6)
  else if (0 ≤ g.final ∧ (g.final < off + d.length ∨ fin = true ∧ off + d.length < g.final)) ∨ fin = true ∧ off + d.length < reachP g.done g.held then (gz, 12)
  else if g.window < off + d.length then (gz, 11)
  else if 4 < (putP g off d).length then (gz, 8)
  else (⟨g.done, putP g off d, if fin then off + d.length else g.final, g.window⟩, 0)
theorem reach_ne {ps : List Pc} (h : ps ≠ []) (a b : Int) : reachP a ps = reachP b ps := by
  cases ps with
  | nil => exact absurd rfl h
  | cons p ps => rfl
theorem insP_reach : ∀ (ps : List Pc) (a D lo : Int) (d : List Int), okPs a ps → d ≠ [] → reachP D (insP lo d ps) = if ps = [] then lo + d.length else max (reachP D ps) (lo + d.length)
  | [], a, D, lo, d, h, hd => by
    unfold insP
    rw [if_neg hd, if_pos rfl]
    rfl
  | p :: ps, a, D, lo, d, h, hd => by
    rw [if_neg (by simp)]
    have gp := end_gt h.1
    have hge : endP p ≤ reachP D (p :: ps) := reach_mono ps (endP p) h.2.2
    have hre : reachP D (p :: ps) = reachP (endP p) ps := rfl
    unfold insP
    rw [if_neg hd]
    by_cases c1 : lo + d.length < p.1
    · rw [if_pos c1]
      show reachP (endP p) ps = _
      omega
    rw [if_neg c1]
    by_cases c2 : endP p < lo
    · rw [if_pos c2]
      have ih := insP_reach ps (endP p) (endP p) lo d h.2.2 hd
      show reachP (endP p) (insP lo d ps) = _
      rw [ih]
      by_cases e : ps = []
      · rw [if_pos e]
        subst e
        have : reachP D [p] = endP p := rfl
        omega
      · rw [if_neg e, hre]
    rw [if_neg c2]
    have me := mergeP_end (p := p) (lo := lo) (d := d) (by omega) (by omega)
    have hme : (mergeP p lo d).1 + ((mergeP p lo d).2.length : Int) = endP (mergeP p lo d) := rfl
    have hdl : 0 < d.length := List.length_pos_iff.2 hd
    have hne : (mergeP p lo d).2 ≠ [] := by
      intro e
      rw [e] at hme
      have hm : (mergeP p lo d).1 = min lo p.1 := rfl
      simp only [List.length_nil] at hme
      omega
    rw [insP_reach ps (endP p) D (mergeP p lo d).1 (mergeP p lo d).2 h.2.2 hne, hme, me]
    by_cases e : ps = []
    · rw [if_pos e]
      subst e
      rfl
    · rw [if_neg e, reach_ne e D (endP p), hre]
      have := reach_mono ps (endP p) h.2.2
      omega
/-- what is put in stays one that may be -/
theorem putG_ok {g : Ga} {off : Int} {d : List Int} {fin : Bool} (h : (putG g off d fin).2 = 0) : faultG (putG g off d fin).1 = 0 := by
  unfold putG at h ⊢
  by_cases hf : faultG g = 0
  · rw [if_neg (fun e => e hf)] at h ⊢
    have hok : okG g := by unfold faultG at hf; split at hf; assumption; cases hf
    obtain ⟨o1, o2, o3, o4, o5, o6, o7⟩ := hok
    by_cases c1 : 0 ≤ off ∧ off + (d.length : Int) ≤ 4611686018427387903
    · rw [if_neg (fun e => e c1)] at h ⊢
      by_cases c2 : (0 ≤ g.final ∧ (g.final < off + d.length ∨ fin = true ∧ off + d.length < g.final)) ∨ fin = true ∧ off + d.length < reachP g.done g.held
      · rw [if_pos c2] at h; cases h
      rw [if_neg c2] at h ⊢
      by_cases c3 : g.window < off + d.length
      · rw [if_pos c3] at h; cases h
      rw [if_neg c3] at h ⊢
      by_cases c4 : 4 < (putP g off d).length
      · rw [if_pos c4] at h; cases h
      rw [if_neg c4] at h ⊢
      have hpo : okPs (g.done - 1) (putP g off d) := insP_ok _ _ _ _ o5 (by omega)
      have hlo := reach_ge g.held (g.done - 1) g.done o5 (by omega) (by omega)
      have hr : reachP g.done (putP g off d) ≤ max (reachP g.done g.held) (off + d.length) := by
        by_cases e : d.drop (max off g.done - off).toNat = []
        · have hp : putP g off d = g.held := by
            unfold putP
            rw [e]
            cases g.held with
            | nil => rfl
            | cons p ps => unfold insP; rw [if_pos rfl]
          rw [hp]
          omega
        · have hl : (d.drop (max off g.done - off).toNat).length = d.length - (max off g.done - off).toNat := List.length_drop
          have hl2 : 0 < (d.drop (max off g.done - off).toNat).length := List.length_pos_iff.2 e
          unfold putP
          rw [insP_reach g.held (g.done - 1) g.done _ _ o5 e]
          split <;> omega
      unfold faultG
      refine if_pos ⟨o1, ?_, o3, by simp only; omega, hpo, by simp only; omega, fun hfin => ?_⟩
      · simp only
        split
        · omega
        · exact o2
      · simp only at hfin ⊢
        by_cases ef : fin = true
        · rw [if_pos ef] at hfin ⊢
          have : ¬ (off + (d.length : Int) < reachP g.done g.held) := fun q => c2 (.inr ⟨ef, q⟩)
          omega
        · rw [if_neg ef] at hfin ⊢
          have q1 := o7 hfin
          have : ¬ (g.final < off + (d.length : Int)) := fun q => c2 (.inl ⟨hfin, .inl q⟩)
          omega
    · rw [if_pos c1] at h; cases h
  · rw [if_pos hf] at h
    exact absurd h hf
end Go.Proofs.Ytnccibaifffhhaa.P
