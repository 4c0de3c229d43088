/- A part of a slice of bytes. Nothing of the program's. -/
import Derived.Test.YtnccibaifffhhaaGrpC
import Derived.Test.YtnccibaifffhhaaGrpB
namespace Go.Proofs.Ytnccibaifffhhaa
set_option linter.unusedVariables false
open Go.RowKit P

theorem bsl_partX {w : World} {B : Nat} {A : Option Addr} {n c : Nat} {zs : List Int} (h : BSl w B (.slice A n c) zs) (hl : zs.length = n) (lo hi : Nat) (h1 : lo < hi) (h2 : hi ≤ n) :
    ∃ b o, A = some ⟨b, o, none⟩ ∧ n ≤ c ∧ c ≤ maxLen ∧ BSl w B (.slice (some ⟨b, o + lo, none⟩) (hi - lo) (c - lo)) ((zs.drop lo).take (hi - lo)) := by
  obtain ⟨A', c', e, h3, h4, h5, h6⟩ := h.ex
  injection e with e1 e2 e3
  subst e1 e3
  obtain ⟨b, o, e, hb, hc⟩ := h6.2 (by omega)
  have hlen : ((zs.drop lo).take (hi - lo)).length = hi - lo := by rw [List.length_take, List.length_drop]; omega
  refine ⟨b, o, e, by omega, h4, ⟨_, _, by rw [hlen], by rw [hlen]; omega, by omega, (fun e => by cases e), ⟨fun i => ?_, fun _ => ⟨b, o + lo, rfl, hb, fun j hj => ?_⟩⟩⟩⟩
  · by_cases k : i < hi - lo
    · rw [getD_take k, getD_drop]; exact h6.1 _
    · rw [List.getD_eq_getElem?_getD, List.getElem?_eq_none (by rw [hlen]; omega)]
      exact ⟨by decide, by decide⟩
  · rw [hlen] at hj
    rw [Nat.add_assoc, hc (lo + j) (by omega), getD_take hj, getD_drop]
theorem txt_partX {w : World} {B lo hi n c : Nat} {A SA : Option Addr} {zs : List Int} (h : BSl w B (.slice A n c) zs) (hl : zs.length = n) (h1 : lo ≤ hi) (h2 : hi ≤ n) (e : (if c = lo then A else Option.map (fun x => x.add lo) A) = SA) :
    BSl w B (.slice SA (hi - lo) (c - lo)) ((zs.drop lo).take (hi - lo)) := by
  rcases Nat.lt_or_ge lo hi with q | q
  · obtain ⟨b, o, rfl, h3, h4, h5⟩ := bsl_partX h hl lo hi q h2
    rw [if_neg (by omega)] at e
    subst e
    rw [Option.map_some, add_plain2]
    exact h5
  · obtain rfl : lo = hi := by omega
    obtain ⟨A', c', e2, h3, h4, h5, h6⟩ := h.ex
    injection e2 with e3 e4 e5
    subst e3 e5
    have hz : (zs.drop lo).take (lo - lo) = [] := by rw [Nat.sub_self, List.take_zero]
    rw [hz, Nat.sub_self]
    refine ⟨_, _, rfl, Nat.zero_le _, by omega, fun k => ?_, ⟨Byt.nil, fun k => absurd k (Nat.lt_irrefl 0)⟩⟩
    subst e
    by_cases q2 : c = lo
    · omega
    · rw [if_neg q2] at k
      have : A = none := by cases A with | none => rfl | some x => cases k
      have := h5 this
      omega
end Go.Proofs.Ytnccibaifffhhaa
