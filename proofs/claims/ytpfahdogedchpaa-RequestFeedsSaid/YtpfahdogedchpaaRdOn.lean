/- Readers of requests in memory: later, split, put apart; how many fields a reader has. -/
import Derived.Test.YtpfahdogedchpaaGrpZj
namespace Go.Proofs.Ytpfahdogedchpaa.P
set_option linter.unusedVariables false
open Go.RowKit
theorem takeR_flds {t : Tb} {fl : List Fld} {bg : Bool} {bd : List Int} {p : Prt} (hf : fl.length ≤ 8) : (takeR t fl bg bd p).1.1.length ≤ 8 := by
  have h0 : ([] : List Fld).length ≤ 8 := by simp
  unfold takeR
  split
  · split
    · exact h0
    · split
      · exact hf
      · split
        · exact h0
        · split
          · exact h0
          · rename_i h5
            have h6 : faultRq (decFl t p.dat).1 = 0 := by omega
            have h7 := (faultRq_iff.1 h6).1
            dsimp only
            unfold faultFl at h7
            split at h7
            · cases h7
            · omega
  · split
    · split
      · exact h0
      · split
        · exact h0
        · exact hf
    · exact hf
theorem feedN_flds {t : Tb} {fin : Bool} : ∀ (n : Nat) (r : Rd), r.flds.length ≤ 8 → (feedN t fin n r).1.flds.length ≤ 8
  | 0, r, h => h
  | n + 1, r, h => by
    have h0 : rd0.flds.length ≤ 8 := by simp [rd0]
    rw [feedN]
    split
    · split
      · exact h0
      · exact h
    · split
      · split
        · exact h
        · exact h0
      · split
        · exact h
        · split
          · exact h0
          · exact feedN_flds n _ (takeR_flds h)
theorem feedR_flds {t : Tb} {r : Rd} {b : List Int} {fin : Bool} (h : r.flds.length ≤ 8) : (feedR r t b fin).1.flds.length ≤ 8 := by
  unfold feedR
  split
  · simp [rd0]
  · split
    · simp [rd0]
    · exact feedN_flds _ _ h
theorem TbVal.grX {w w' : World} {B : Nat} {v : Value} {t : Tb} {k : Nat} {cs : Array Value} {T : TypeId} (h : TbVal w B v t) (hk : w.heap[k]? = some (.cells cs T (0, 0))) (hi : ∀ (j : Nat) (u : Value), cs[j]? = some u → Plain u) (g : w.grownBy w' (some k)) : TbVal w' B v t := by
  obtain ⟨s, e, h1⟩ := h.ex
  exact ⟨s, e, h1.grX hk hi g⟩
theorem RdVal.on {w w' : World} {v : Value} {r : Rd} (h : RdVal w v r) (b : Below w.heap.size w w') : RdVal w' v r := by
  obtain ⟨Ah, ch, Af, cf, Ab, cb, e, h1, h2, h3⟩ := h.ex
  exact ⟨Ah, ch, Af, cf, Ab, cb, e, bsl_onF h1 b, h2.on b, bsl_onF h3 b⟩
theorem RdVal.grX {w w' : World} {v : Value} {r : Rd} {k : Nat} {cs : Array Value} {T : TypeId} (h : RdVal w v r) (hk : w.heap[k]? = some (.cells cs T (0, 0))) (hi : ∀ (j : Nat) (u : Value), cs[j]? = some u → Plain u) (g : w.grownBy w' (some k)) : RdVal w' v r := by
  obtain ⟨Ah, ch, Af, cf, Ab, cb, e, h1, h2, h3⟩ := h.ex
  exact ⟨Ah, ch, Af, cf, Ab, cb, e, (h1.grX hk hi g).more g.size, (h2.grX hk hi g).more g.size, (h3.grX hk hi g).more g.size⟩
theorem RdVal.split {w : World} {v : Value} {r : Rd} (h : RdVal w v r) : ∃ Ah ch Af cf Ab cb, v = .agg #[.slice Ah r.held.length ch, .slice Af r.flds.length cf, .bool r.begun, .slice Ab r.body.length cb, .bool r.ended] ∧ RdVal w (.agg #[.slice Ah r.held.length ch, .slice Af r.flds.length cf, .bool r.begun, .slice Ab r.body.length cb, .bool r.ended]) r := by
  obtain ⟨Ah, ch, Af, cf, Ab, cb, e, h1, h2, h3⟩ := h.ex
  exact ⟨Ah, ch, Af, cf, Ab, cb, e, ⟨Ah, ch, Af, cf, Ab, cb, rfl, h1, h2, h3⟩⟩
theorem RdVal.parts {w : World} {Ah Af Ab : Option Addr} {nh ch nf cf nb cb : Nat} {b1 b2 : Bool} {r : Rd} (h : RdVal w (.agg #[.slice Ah nh ch, .slice Af nf cf, .bool b1, .slice Ab nb cb, .bool b2]) r) : BSl w w.heap.size (.slice Ah nh ch) r.held ∧ FSl w w.heap.size (.slice Af nf cf) r.flds ∧ BSl w w.heap.size (.slice Ab nb cb) r.body := by
  obtain ⟨Ah', ch', Af', cf', Ab', cb', e, h1, h2, h3⟩ := h.ex
  injection e with e
  simp only [Array.mk.injEq, List.cons.injEq] at e
  obtain ⟨e1, e2, e3, e4, e5, _⟩ := e
  exact ⟨e1 ▸ h1, e2 ▸ h2, e4 ▸ h3⟩
theorem bsl_takeR {w : World} {B : Nat} {A : Option Addr} {n c : Nat} {b : List Int} (h : BSl w B (.slice A n c) b) (k : Nat) (hk : k ≤ b.length) : BSl w B (.slice A k c) (b.take k) := by
  obtain ⟨A', c', e, h1, h2, h3, h4⟩ := h.ex
  cases e
  exact ⟨_, _, by rw [List.length_take, Nat.min_eq_left hk], by rw [List.length_take]; omega, h2, h3, h4.take k⟩
end Go.Proofs.Ytpfahdogedchpaa.P
