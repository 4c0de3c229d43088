/- How many entries a map's reading has, and how many numbers below one are in it. Nothing of the program's. -/
import Derived.Maps.RangeWalk
import Derived.Maps.OwnOps
import Derived.Maps.OwnSet
namespace Go.Proofs.Ytnccibaifffhhaa.P
set_option linter.unusedVariables false
open Go.RowKit

theorem size_put_new {H : Type} {D : DataW H} (hm : Maps.IsMap D) {k : Lit} (h : Maps.has D k = false) (d : DataW H) : Maps.size (D.put k d) = Maps.size D + 1 := by
  obtain ⟨es, rfl⟩ := hm
  have e : (es.filter fun p => !p.1.sameKey k) = es := List.filter_eq_self.2 fun p hp => by
    cases q : p.1.sameKey k with
    | false => rfl
    | true =>
      have : es.any (fun p => p.1.sameKey k) = true := List.any_eq_true.2 ⟨p, hp, q⟩
      rw [Maps.has_eq, this] at h
      cases h
  show (DataW.insert (k, d) (es.filter fun p => !p.1.sameKey k)).length = es.length + 1
  rw [e, length_insert]
/-- so many numbers below L are in it -/
def cntF (f : Int → Option Int) (L : Nat) : Nat := (List.range L).countP fun (k : Nat) => (f (k : Int)).isSome
theorem cntF_none (f : Int → Option Int) (h : ∀ x, f x = none) (L : Nat) : cntF f L = 0 := by
  unfold cntF
  rw [List.countP_eq_zero]
  intro k _
  rw [h]
  simp
theorem cntF_all (f : Int → Option Int) (L : Nat) (h : ∀ k : Nat, k < L → (f (k : Int)).isSome = true) : cntF f L = L := by
  unfold cntF
  rw [show L = (List.range L).length by simp]
  conv => lhs; rw [show (List.range L).length = L by simp]
  exact List.countP_eq_length.2 fun k hk => h k (List.mem_range.1 hk)
theorem cntF_put (f : Int → Option Int) (x : Nat) (c : Int) (h : f (x : Int) = none) : ∀ L, cntF (fun y => if y = (x : Int) then some c else f y) L = cntF f L + if x < L then 1 else 0
  | 0 => rfl
  | L + 1 => by
    have ih := cntF_put f x c h L
    unfold cntF at ih ⊢
    rw [List.range_succ, List.countP_append, List.countP_append, ih]
    by_cases e : x = L
    · subst e
      simp [h]
    · have e' : ¬ (L : Int) = (x : Int) := by omega
      by_cases q : x < L
      · rw [if_pos q, if_pos (by omega)]
        simp [e']
        omega
      · rw [if_neg q, if_neg (by omega)]
        simp [e']
theorem cntF_congr {f g : Int → Option Int} (h : ∀ x, f x = g x) (L : Nat) : cntF f L = cntF g L := by
  unfold cntF
  congr 1
  funext k
  rw [h]
end Go.Proofs.Ytnccibaifffhhaa.P
