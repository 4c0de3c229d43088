/- The steps of a map of bytes that is filled by a putting. Nothing of the program's. -/
import Derived.Test.YtippenbfoaohoaaGaMapB
namespace Go.Proofs.Ytippenbfoaohoaa.P
set_option linter.unusedVariables false
open Go.RowKit

/-- the new bytes, k of them met -/
def dF (g : Ga) (off : Int) (d : List Int) (k : Nat) (x : Int) : Option Int := if off ≤ x ∧ x < off + k ∧ g.done ≤ x then some (d.getD (x - off).toNat 0) else none
/-- and the bytes of some pieces over them -/
def hF (g : Ga) (off : Int) (d : List Int) (ps : List Pc) (x : Int) : Option Int := match atP ps x with | some c => some c | none => dF g off d d.length x
theorem dF_zero (g : Ga) (off : Int) (d : List Int) (x : Int) : none = dF g off d 0 x := by unfold dF; rw [if_neg (by omega)]
theorem dF_yes (g : Ga) (off : Int) (d : List Int) (k : Nat) (h : g.done ≤ off + k) (x : Int) : (if x = off + k then some (d.getD k 0) else dF g off d k x) = dF g off d (k + 1) x := by
  unfold dF
  by_cases e : x = off + k
  · rw [if_pos e, if_pos (by omega), show (x - off).toNat = k by omega]
  · rw [if_neg e]
    by_cases q : off ≤ x ∧ x < off + k ∧ g.done ≤ x
    · rw [if_pos q, if_pos (by omega)]
    · rw [if_neg q, if_neg (by omega)]
theorem dF_no (g : Ga) (off : Int) (d : List Int) (k : Nat) (h : ¬ g.done ≤ off + k) (x : Int) : dF g off d k x = dF g off d (k + 1) x := by
  unfold dF
  by_cases q : off ≤ x ∧ x < off + k ∧ g.done ≤ x
  · rw [if_pos q, if_pos (by omega)]
  · rw [if_neg q, if_neg (by omega)]
theorem hF_zero (g : Ga) (off : Int) (d : List Int) (x : Int) : dF g off d d.length x = hF g off d [] x := rfl
theorem hF_all (g : Ga) (off : Int) (d : List Int) (x : Int) : hF g off d g.held x = putF g off d x := rfl
/-- a piece of which nothing was met, and one of which all was -/
theorem hF_begin (g : Ga) (off : Int) (d : List Int) (ps : List Pc) (o : Int) (zs : List Int) (x : Int) : hF g off d ps x = hF g off d (ps ++ [(o, zs.take 0)]) x := by
  unfold hF
  rw [at_app]
  cases atP ps x with
  | some c => rfl
  | none =>
    simp only
    have : atP [((o, zs.take 0) : Pc)] x = none := by
      unfold atP
      have he : endP ((o, zs.take 0) : Pc) = o := by simp [endP]
      rw [if_neg (by rw [he]; simp only; omega)]
      rfl
    rw [this]
theorem hF_step (g : Ga) (off : Int) (d : List Int) (ps : List Pc) (o : Int) (zs : List Int) (a : Int) (hok : okPs a (ps ++ [(o, zs)])) (i : Nat) (hi : i < zs.length) (x : Int) :
    (if x = o + i then some (zs.getD i 0) else hF g off d (ps ++ [(o, zs.take i)]) x) = hF g off d (ps ++ [(o, zs.take (i + 1))]) x := by
  obtain ⟨o1, o2, o3⟩ := (ok_snoc _ _ _).1 hok
  simp only at o3
  have e1 : ∀ j : Nat, j ≤ zs.length → endP ((o, zs.take j) : Pc) = o + j := fun j hj => by simp only [endP, List.length_take]; omega
  unfold hF
  rw [at_app, at_app]
  by_cases e : x = o + i
  · rw [if_pos e, at_reach ps a x o1 (by omega)]
    simp only
    unfold atP
    rw [if_pos (by rw [e1 (i + 1) (by omega)]; simp only; omega)]
    simp only
    rw [show (x - o).toNat = i by omega, getD_take (by omega)]
  · rw [if_neg e]
    cases atP ps x with
    | some c => rfl
    | none =>
      simp only
      have : atP [((o, zs.take i) : Pc)] x = atP [((o, zs.take (i + 1)) : Pc)] x := by
        unfold atP
        by_cases q : o ≤ x ∧ x < o + i
        · rw [if_pos (by rw [e1 i (by omega)]; exact q), if_pos (by rw [e1 (i + 1) (by omega)]; simp only; omega)]
          simp only
          rw [getD_take (by omega), getD_take (by omega)]
        · rw [if_neg (by rw [e1 i (by omega)]; exact q), if_neg (by rw [e1 (i + 1) (by omega)]; simp only; omega)]
      rw [this]
theorem hF_end (g : Ga) (off : Int) (d : List Int) (ps : List Pc) (o : Int) (zs : List Int) (x : Int) : hF g off d (ps ++ [(o, zs.take zs.length)]) x = hF g off d (ps ++ [(o, zs)]) x := by rw [List.take_length]
theorem ok_take {ps : List Pc} {a : Int} (h : okPs a ps) (k : Nat) : okPs a (ps.take k) := by
  have e := List.take_append_drop k ps
  rw [← e] at h
  exact ((ok_app _ _ _).1 h).1
theorem sum_take {ps : List Pc} {k : Nat} (hk : k < ps.length) : sumP (ps.take (k + 1)) = sumP (ps.take k) + (ps.getD k pc0).2.length := by
  rw [take_step hk]; simp [sumP]
theorem sum_le (ps : List Pc) (k : Nat) : sumP (ps.take k) ≤ sumP ps := by
  have e := List.take_append_drop k ps
  have : sumP ps = sumP (ps.take k) + sumP (ps.drop k) := by
    unfold sumP
    conv => lhs; rw [← e, List.map_append, List.sum_append]
  omega
theorem sum_mem {ps : List Pc} {p : Pc} (h : p ∈ ps) : p.2.length ≤ sumP ps := by
  obtain ⟨i, hi, rfl⟩ := List.getElem_of_mem h
  have h1 := sum_take hi
  have h2 := sum_le ps (i + 1)
  rw [List.getD_eq_getElem?_getD, List.getElem?_eq_getElem hi] at h1
  simp only [Option.getD_some] at h1
  omega
/-- every byte's place is one that the model's numbers hold -/
theorem putF_bd {g : Ga} {off : Int} {d : List Int} (hok : okG g) (h0 : 0 ≤ off) (h1 : off + d.length ≤ 4611686018427387903) {x c : Int} (h : putF g off d x = some c) : g.done - 1 < x ∧ x < 4611686018427387904 := by
  obtain ⟨p1, p2, p3, p4, p5, p6, p7⟩ := hok
  unfold putF at h
  cases ha : atP g.held x with
  | some c' =>
    constructor
    · rcases Int.lt_or_le (g.done - 1) x with q | q
      · exact q
      · rw [at_below p5 q] at ha; cases ha
    · rcases Int.lt_or_le x 4611686018427387904 with q | q
      · exact q
      · exfalso
        cases hh : g.held with
        | nil => rw [hh] at ha; cases ha
        | cons p ps =>
          rw [hh] at ha p5 p6
          have : atP (p :: ps) x = none := at_reach (p :: ps) (g.done - 1) x p5 (by
            have e : reachP (g.done - 1) (p :: ps) = reachP g.done (p :: ps) := rfl
            omega)
          rw [this] at ha; cases ha
  | none =>
    rw [ha] at h
    simp only at h
    by_cases q : off ≤ x ∧ x < off + d.length ∧ g.done ≤ x
    · omega
    · rw [if_neg q] at h; cases h
theorem okG_of {g : Ga} (h : faultG g = 0) : okG g := by unfold faultG at h; split at h; assumption; cases h
end Go.Proofs.Ytippenbfoaohoaa.P
