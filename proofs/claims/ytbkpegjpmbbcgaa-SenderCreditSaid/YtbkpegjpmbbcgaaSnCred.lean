/- What SenderCredit asks, in plain numbers. Nothing of the program's. -/
import Derived.Test.YtbkpegjpmbbcgaaSnMath
namespace Go.Proofs.Ytbkpegjpmbbcgaa.P
set_option linter.unusedVariables false

def snB (b : List Int) (nx : Int) (l : List (Int × Int)) : Sn := ⟨b, false, nx, 300, l, [], false, false⟩
theorem okB {b : List Int} (hb : b.length ≤ 300) {nx : Int} (h0 : 0 ≤ nx) (h1 : nx ≤ b.length) {l : List (Int × Int)} (hl : l = [] ∨ 0 < nx ∧ l = [(0, nx - 1)]) : faultSn (snB b nx l) = 0 := by
  refine (fault_iff _).2 ⟨by simp only [snB]; omega, by simp only [snB]; omega, by simp only [snB]; omega, ?_, trivial, by simp [snB], by simp [snB], ?_, ?_, ?_⟩
  · rcases hl with rfl | ⟨h, rfl⟩
    · trivial
    · exact ⟨⟨Int.le_refl _, by simp only; omega, by simp only; omega⟩, by simp only; omega, trivial⟩
  · rcases hl with rfl | ⟨h, rfl⟩
    · intro x hx; cases hx
    · intro x hx
      simp only [snB, List.mem_singleton] at hx
      subst hx
      simp only [snB]; omega
  · intro x hx; cases hx
  · rcases hl with rfl | ⟨h, rfl⟩ <;> rfl
theorem cred_wr {b : List Int} (hb : b.length ≤ 300) : wrS (snB [] 0 []) b false = (snB b 0 [], 0) := by
  have h := okB (b := []) (nx := 0) (l := []) (by simp) (by omega) (by simp) (.inl rfl)
  unfold wrS
  rw [if_neg (fun k => k h), if_neg (by simp [snB]), if_neg (by simp only [snB, List.length_nil]; omega)]
  rfl
theorem cred_pc {b : List Int} (hb : b.length ≤ 300) {k c w : Int} (k0 : 0 ≤ k) (k1 : k ≤ 120) (c0 : 0 ≤ c) (hw : w = min (min (b.length : Int) k) c) :
    pieceS (snB b 0 []) k c = if w = 0 then (snB b 0 [], fr00, false, 0) else (snB b w [], ⟨8, 0, 0, false, 0, [], b.take w.toNat⟩, true, 0) := by
  have h := okB (b := b) (nx := 0) (l := []) hb (by omega) (by omega) (.inl rfl)
  have hn : pcN (snB b 0 []) k c = w := by
    show min (min k c) (min ((b.length : Int) - 0) (300 - 0)) = w
    omega
  have hl : pcLo (snB b 0 []) k = 0 := rfl
  have hf : pcFin (snB b 0 []) k c = false := by unfold pcFin; simp [snB]
  unfold pieceS
  rw [if_neg (fun k => k h), if_neg (by omega), hn, hl, hf]
  by_cases q : w = 0
  · rw [if_pos ⟨q, rfl⟩, if_pos q]
  · rw [if_neg (fun k => q k.1), if_neg q, if_pos (by omega)]
    simp only [snB, Bool.or_false, Int.zero_add, Int.toNat_zero, List.drop_zero, cutL, List.flatMap_nil]
    rw [show max 0 w = w by omega]
theorem cred_ls {b : List Int} (hb : b.length ≤ 300) {w : Int} (w0 : 0 < w) (w1 : w ≤ b.length) : loseS (snB b w []) 0 w false = (snB b w [(0, w - 1)], 0) := by
  have h := okB (b := b) (nx := w) (l := []) hb (by omega) (by omega) (.inl rfl)
  have hp : partF (snB b w []) 0 w false = 0 := by
    unfold partF
    rw [if_neg (fun k => k h), if_neg]
    rintro (k | k)
    · exact k ⟨by omega, by simp only [snB]; omega, by omega, by simp only [snB]; omega⟩
    · cases k.1
  unfold loseS
  rw [if_neg (fun k => k hp), if_pos w0]
  have e : holesF (0 + w - 1) 0 ([] : List (Int × Int)) = [(0, w - 1)] := by
    unfold holesF sm
    rw [show (0 : Int) + w - 1 = w - 1 by omega, if_pos (by omega)]
  simp only [snB, e]
  rfl
theorem cred_again {b : List Int} (hb : b.length ≤ 300) {k w : Int} (w0 : 0 < w) (w1 : w ≤ b.length) (hk : w ≤ k) (k1 : k ≤ 120) :
    pieceS (snB b w [(0, w - 1)]) k 0 = (snB b w [], ⟨8, 0, 0, false, 0, [], b.take w.toNat⟩, true, 0) := by
  have h := okB (b := b) (nx := w) (l := [(0, w - 1)]) hb (by omega) (by omega) (.inr ⟨w0, rfl⟩)
  have hn : pcN (snB b w [(0, w - 1)]) k 0 = w := by
    show (if 0 < k then min k (w - 1 - 0 + 1) else 0) = w
    rw [if_pos (by omega)]
    omega
  have hl : pcLo (snB b w [(0, w - 1)]) k = 0 := by
    show (if 0 < k then (0 : Int) else w) = 0
    rw [if_pos (by omega)]
  have hf : pcFin (snB b w [(0, w - 1)]) k 0 = false := by unfold pcFin; simp [snB]
  have hc : cutL (0, w - 1) [(0, w - 1)] = [] := by
    simp only [cutL, List.flatMap_cons, List.flatMap_nil, cutR, sm, List.append_nil]
    rw [if_neg (by omega), if_neg (by omega)]
    rfl
  unfold pieceS
  rw [if_neg (fun k => k h), if_neg (by omega), hn, hl, hf, if_neg (fun k => by omega), if_pos w0]
  simp only [snB, Bool.or_false, Int.zero_add, Int.toNat_zero, List.drop_zero, hc]
  rw [show max w w = w by omega]
end Go.Proofs.Ytbkpegjpmbbcgaa.P
