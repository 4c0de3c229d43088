/- Ranges read by an eye, in plain words. Nothing of the program's. -/
import Derived.Test.YtgfbonfoimiknaaFrEye
namespace Go.Proofs.Ytgfbonfoimiknaa.P
set_option linter.unusedVariables false
open Go.RowKit

def conR (l : List (Int × Int)) : Except Int (List (Int × Int) × List Int) → Except Int (List (Int × Int) × List Int)
  | .error e => .error e
  | .ok (t, s) => .ok (l ++ t, s)
def decTS (k : Nat) (b : Int) (σ : St) : Except Int (List (Int × Int) × List Int) := if σ.1 = 0 then decT k b σ.2 else .error σ.1
def downS (hi : Int) (σ : St) : (Int × Int) × St := ((hi - (numS σ).1, hi), refS (decide (hi - (numS σ).1 < 0)) 6 (numS σ).2)
theorem conR_con (l m : List (Int × Int)) (x : Except Int (List (Int × Int) × List Int)) : conR l (conR m x) = conR (l ++ m) x := by
  cases x with
  | error e => rfl
  | ok p => obtain ⟨t, s⟩ := p; simp [conR]
theorem decTS_bad {k : Nat} {b : Int} {σ : St} (h : σ.1 ≠ 0) : decTS k b σ = .error σ.1 := if_neg h
theorem decTS_zero (l : List (Int × Int)) (b : Int) (σ : St) : conR l (decTS 0 b σ) = toE σ l := by
  unfold decTS toE
  by_cases h : σ.1 = 0
  · rw [if_pos h, if_pos h]; simp [decT, conR]
  · rw [if_neg h, if_neg h]; rfl
theorem decTS_end (l : List (Int × Int)) (k : Nat) (b : Int) (σ : St) (h : σ.1 ≠ 0) : conR l (decTS k b σ) = toE σ l := by
  unfold decTS toE
  rw [if_neg h, if_neg h]; rfl
theorem decTS_ok {k : Nat} {b : Int} (s : List Int) : decTS k b (0, s) = decT k b s := if_pos rfl
theorem decTS_er {k : Nat} {b : Int} (e : Int) (h : e ≠ 0) (s : List Int) : decTS k b (e, s) = .error e := if_neg h
theorem downS_bad (hi e : Int) (h : e ≠ 0) (s : List Int) : downS hi (e, s) = ((hi, hi), (e, s)) := by
  unfold downS
  rw [numS_bad (σ := (e, s)) h, refS_bad (σ := (e, s)) h]
  simp
theorem downS_er (hi : Int) (s s1 : List Int) (n e : Int) (h : numS (0, s) = (n, (e, s1))) (he : e ≠ 0) : downS hi (0, s) = ((hi - n, hi), (e, s1)) := by
  unfold downS
  rw [h]
  simp only
  rw [refS_bad (σ := (e, s1)) he]
theorem downS_ok (hi : Int) (s s1 : List Int) (n : Int) (h : numS (0, s) = (n, (0, s1))) : downS hi (0, s) = ((hi - n, hi), (if hi - n < 0 then 6 else 0, s1)) := by
  unfold downS
  rw [h]
  simp only [refS]
  by_cases c : hi - n < 0
  · simp [c]
  · simp [c]
theorem rd_ok' {s s1 : List Int} {n : Int} (h : numS (0, s) = (n, (0, s1))) : rd s = .ok (n, s1) := by rw [numS_good, h]; rfl
theorem rd_er' {s s1 : List Int} {n e : Int} (h : numS (0, s) = (n, (e, s1))) (he : e ≠ 0) : rd s = .error e := by rw [numS_good, h]; exact if_neg he
theorem decTS_step (k : Nat) (b : Int) (s : List Int) (g : Int) (σ1 : St) (hN : numS (0, s) = (g, σ1)) (r : Int × Int) (σ2 : St) (hD : downS (b - g - 2) σ1 = (r, σ2)) : decTS (k + 1) b (0, s) = conR [r] (decTS k r.1 σ2) := by
  rw [decTS_ok]
  simp only [decT]
  obtain ⟨e1, s1⟩ := σ1
  by_cases c1 : e1 = 0
  · subst c1
    rw [rd_ok' hN]
    simp only
    obtain ⟨⟨n, e2, s2⟩, hM⟩ : ∃ x, numS (0, s1) = x := ⟨_, rfl⟩
    by_cases c2 : e2 = 0
    · subst c2
      rw [rd_ok' hM]
      simp only
      rw [downS_ok _ _ _ _ hM] at hD
      obtain ⟨rfl, rfl⟩ := Prod.mk.inj hD
      by_cases c3 : b - g - 2 - n < 0
      · rw [if_pos c3, if_pos c3, decTS_er 6 (by decide)]; rfl
      · rw [if_neg c3, if_neg c3, decTS_ok]
        cases decT k (b - g - 2 - n) s2 with
        | error e => rfl
        | ok p => obtain ⟨t, s3⟩ := p; rfl
    · rw [rd_er' hM c2]
      rw [downS_er _ _ _ _ _ hM c2] at hD
      obtain ⟨rfl, rfl⟩ := Prod.mk.inj hD
      rw [decTS_er _ c2]; rfl
  · rw [rd_er' hN c1]
    rw [downS_bad _ _ c1] at hD
    obtain ⟨rfl, rfl⟩ := Prod.mk.inj hD
    rw [decTS_er _ c1]; rfl
theorem decRs_start (s : List Int) (hi : Int) (σ1 : St) (h1 : numS (0, s) = (hi, σ1)) (n : Int) (σ2 : St) (h2 : numS σ1 = (n, σ2)) (r : Int × Int) (σ4 : St) (h4 : downS hi (refS (decide (6 ≤ n)) 1 σ2) = (r, σ4)) : decRs s = conR [r] (decTS n.toNat r.1 σ4) := by
  unfold decRs
  obtain ⟨e1, s1⟩ := σ1
  by_cases c1 : e1 = 0
  · subst c1
    rw [rd_ok' h1]
    simp only
    obtain ⟨e2, s2⟩ := σ2
    by_cases c2 : e2 = 0
    · subst c2
      rw [rd_ok' h2]
      simp only
      by_cases c3 : 6 ≤ n
      · have hq : refS (decide (6 ≤ n)) 1 (0, s2) = (1, s2) := by unfold refS; simp [c3]
        rw [hq, downS_bad _ _ (by decide)] at h4
        obtain ⟨rfl, rfl⟩ := Prod.mk.inj h4
        rw [if_pos c3, decTS_er _ (by decide)]; rfl
      · have hq : refS (decide (6 ≤ n)) 1 (0, s2) = (0, s2) := by unfold refS; simp [c3]
        rw [hq] at h4
        rw [if_neg c3]
        obtain ⟨⟨m, e3, s3⟩, hO⟩ : ∃ x, numS (0, s2) = x := ⟨_, rfl⟩
        by_cases c4 : e3 = 0
        · subst c4
          rw [rd_ok' hO]
          simp only
          rw [downS_ok _ _ _ _ hO] at h4
          obtain ⟨rfl, rfl⟩ := Prod.mk.inj h4
          by_cases c5 : hi - m < 0
          · rw [if_pos c5, if_pos c5, decTS_er 6 (by decide)]; rfl
          · rw [if_neg c5, if_neg c5, decTS_ok]
            cases decT n.toNat (hi - m) s3 with
            | error e => rfl
            | ok p => obtain ⟨t, s4⟩ := p; rfl
        · rw [rd_er' hO c4]
          rw [downS_er _ _ _ _ _ hO c4] at h4
          obtain ⟨rfl, rfl⟩ := Prod.mk.inj h4
          rw [decTS_er _ c4]; rfl
    · rw [rd_er' h2 c2]
      rw [refS_bad (σ := (e2, s2)) c2, downS_bad _ _ c2] at h4
      obtain ⟨rfl, rfl⟩ := Prod.mk.inj h4
      rw [decTS_er _ c2]; rfl
  · rw [rd_er' h1 c1]
    rw [numS_bad (σ := (e1, s1)) c1] at h2
    obtain ⟨rfl, rfl⟩ := Prod.mk.inj h2
    rw [refS_bad (σ := (e1, s1)) c1, downS_bad _ _ c1] at h4
    obtain ⟨rfl, rfl⟩ := Prod.mk.inj h4
    rw [decTS_er _ c1]; rfl
theorem downS_bd {hi : Int} {σ σ' : St} {r : Int × Int} (hb : Byt σ.2) (h : downS hi σ = (r, σ')) : r.1 ≤ hi ∧ (σ'.1 = 0 → 0 ≤ r.1 ∧ σ.1 = 0) ∧ Byt σ'.2 := by
  have b := numS_bd hb
  unfold downS at h
  obtain ⟨rfl, rfl⟩ := Prod.mk.inj h
  refine ⟨by simp only; omega, fun e => ?_, by rw [refS_left]; exact b.2.2.1⟩
  simp only
  unfold refS at e
  by_cases c : hi - (numS σ).1 < 0
  · by_cases c2 : (numS σ).2.1 = 0
    · simp [c, c2] at e
    · simp [c2] at e
  · refine ⟨by omega, ?_⟩
    simp [c] at e
    by_cases c3 : σ.1 = 0
    · exact c3
    · rw [numS_bad c3] at e; exact e
theorem start_bd {hi n : Int} {σ σ' : St} {r : Int × Int} (h : downS hi (refS (decide (6 ≤ n)) 1 σ) = (r, σ')) (hb : Byt σ.2) (e : σ'.1 = 0) : n < 6 := by
  have := (downS_bd (by rw [refS_left]; exact hb) h).2.1 e
  have h2 := this.2
  unfold refS at h2
  by_cases c : 6 ≤ n
  · by_cases c2 : σ.1 = 0
    · simp [c, c2] at h2
    · simp [c2] at h2
  · omega
end Go.Proofs.Ytgfbonfoimiknaa.P
