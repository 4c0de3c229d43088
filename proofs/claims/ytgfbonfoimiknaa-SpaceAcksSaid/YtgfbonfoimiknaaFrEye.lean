/- An eye in plain words: what was wrong first, and what is left to read. Nothing of the program's. -/
import Derived.Test.YtgfbonfoimiknaaFrLen
namespace Go.Proofs.Ytgfbonfoimiknaa.P
set_option linter.unusedVariables false
open Go.RowKit

/-- a frame read, ahead of what Check says of it -/
def decG (s : List Int) : Except Int (Fr × List Int) :=
  match rd s with
  | .error e => .error e
  | .ok (k, t) =>
    if k = 8 then .error 2 else
    match partsOf (if k = 14 ∨ k = 15 then 8 else k) with
    | none => .error 2
    | some ps => decPs ps ⟨if k = 14 ∨ k = 15 then 8 else k, 0, 0, decide (k = 15), 0, [], []⟩ t
theorem decF_eq (s : List Int) : decF s = match decG s with | .error e => .error e | .ok (f, u) => if faultF f = 0 then .ok (f, u) else .error (faultF f) := by
  unfold decF decG
  cases rd s with
  | error e => rfl
  | ok p =>
    obtain ⟨k, t⟩ := p
    simp only
    by_cases h8 : k = 8
    · rw [if_pos h8, if_pos h8]
    rw [if_neg h8, if_neg h8]
    cases partsOf (if k = 14 ∨ k = 15 then 8 else k) with
    | none => rfl
    | some ps => rfl

/-- what was wrong first (0: nothing), and the bytes that are left -/
abbrev St := Int × List Int
def numS (σ : St) : Int × St := if σ.1 = 0 then (if decOk σ.2 then (decV σ.2, (0, σ.2.drop (kOf (σ.2.getD 0 0)).toNat)) else (0, (4, σ.2))) else (0, σ)
def refS (bad : Bool) (e : Int) (σ : St) : St := if bad = true ∧ σ.1 = 0 then (e, σ.2) else σ
def takeS (n : Int) (σ : St) : List Int × St := if (refS (decide ((σ.2.length : Int) < n)) 4 σ).1 = 0 then (σ.2.take n.toNat, (0, σ.2.drop n.toNat)) else ([], refS (decide ((σ.2.length : Int) < n)) 4 σ)
def dataS (σ : St) : List Int × St := takeS (numS σ).1 (refS (decide (120 < (numS σ).1)) 1 (numS σ).2)
def wordS (σ : St) : Int × St := (beFrom 0 (takeS 8 σ).1, (takeS 8 σ).2)
def toE {α : Type} (σ : St) (v : α) : Except Int (α × List Int) := if σ.1 = 0 then .ok (v, σ.2) else .error σ.1

theorem numS_good (s : List Int) : rd s = toE (numS (0, s)).2 (numS (0, s)).1 := by
  unfold rd numS toE
  by_cases h : decOk s
  · simp [h]
  · simp [h]
theorem numS_bad {σ : St} (h : σ.1 ≠ 0) : numS σ = (0, σ) := if_neg h
theorem refS_bad {σ : St} (h : σ.1 ≠ 0) (b : Bool) (e : Int) : refS b e σ = σ := if_neg fun c => h c.2
theorem takeS_bad {σ : St} (h : σ.1 ≠ 0) (n : Int) : takeS n σ = ([], σ) := by
  unfold takeS
  rw [refS_bad h, if_neg h]
theorem dataS_bad {σ : St} (h : σ.1 ≠ 0) : dataS σ = ([], σ) := by
  unfold dataS
  rw [numS_bad h, refS_bad h, takeS_bad h]
theorem wordS_bad {σ : St} (h : σ.1 ≠ 0) : wordS σ = (0, σ) := by
  unfold wordS
  rw [takeS_bad h]
  rfl
/-- a state of bytes: none longer than those that it came of -/
theorem numS_bd {σ : St} (hb : Byt σ.2) : 0 ≤ (numS σ).1 ∧ (numS σ).1 ≤ 4611686018427387903 ∧ Byt (numS σ).2.2 ∧ (numS σ).2.2.length ≤ σ.2.length := by
  unfold numS
  by_cases h : σ.1 = 0
  · rw [if_pos h]
    by_cases hd : decOk σ.2
    · rw [if_pos hd]
      have b := decV_bd σ.2 hb hd
      exact ⟨b.1, b.2.1, hb.drop _, by simp⟩
    · rw [if_neg hd]; exact ⟨by simp, by simp, hb, Nat.le_refl _⟩
  · rw [if_neg h]; exact ⟨by simp, by simp, hb, Nat.le_refl _⟩
theorem refS_left (b : Bool) (e : Int) (σ : St) : (refS b e σ).2 = σ.2 := by
  unfold refS
  split <;> rfl
theorem takeS_bd {σ : St} (hb : Byt σ.2) (n : Int) : Byt (takeS n σ).1 ∧ Byt (takeS n σ).2.2 ∧ (takeS n σ).1.length ≤ σ.2.length := by
  unfold takeS
  by_cases h : (refS (decide ((σ.2.length : Int) < n)) 4 σ).1 = 0
  · rw [if_pos h]; exact ⟨hb.take _, hb.drop _, by simp; omega⟩
  · rw [if_neg h]; exact ⟨Byt.nil, by rw [refS_left]; exact hb, by simp⟩

/-- parts read one behind the other, from a state -/
def decPsS (cs : List Int) (f : Fr) (σ : St) : Except Int (Fr × List Int) := if σ.1 = 0 then decPs cs f σ.2 else .error σ.1
theorem decPsS_nil (f : Fr) (σ : St) : decPsS [] f σ = toE σ f := rfl
theorem stepS {c : Int} {cs : List Int} {f f1 : Fr} {σ σ1 : St} (h : σ.1 = 0 → decP f σ.2 c = toE σ1 f1) (h' : σ.1 ≠ 0 → σ1 = σ) : decPsS (c :: cs) f σ = decPsS cs f1 σ1 := by
  unfold decPsS
  by_cases e : σ.1 = 0
  · rw [if_pos e]
    simp only [decPs]
    rw [h e]
    unfold toE
    by_cases e1 : σ1.1 = 0
    · rw [if_pos e1, if_pos e1]
    · rw [if_neg e1, if_neg e1]
  · rw [if_neg e, h' e, if_neg e]
theorem zero_pair {σ : St} (e : σ.1 = 0) : σ = (0, σ.2) := by
  obtain ⟨a, b⟩ := σ
  simp only at e
  rw [e]
theorem stepS_i {cs : List Int} {f : Fr} {σ σ1 : St} {n : Int} (h : numS σ = (n, σ1)) : decPsS (105 :: cs) f σ = decPsS cs { f with id := n } σ1 := by
  refine stepS (fun e => ?_) (fun e => by rw [numS_bad e] at h; exact (Prod.mk.inj h).2.symm)
  rw [zero_pair e] at h
  rw [decP_i, numS_good, h]
  unfold toE
  by_cases e1 : σ1.1 = 0 <;> simp [e1]
theorem stepS_o {cs : List Int} {f : Fr} {σ σ1 : St} {n : Int} (h : numS σ = (n, σ1)) : decPsS (111 :: cs) f σ = decPsS cs { f with off := n } σ1 := by
  refine stepS (fun e => ?_) (fun e => by rw [numS_bad e] at h; exact (Prod.mk.inj h).2.symm)
  rw [zero_pair e] at h
  rw [decP_o, numS_good, h]
  unfold toE
  by_cases e1 : σ1.1 = 0 <;> simp [e1]
theorem stepS_c {cs : List Int} {f : Fr} {σ σ1 : St} {n : Int} (h : numS σ = (n, σ1)) : decPsS (99 :: cs) f σ = decPsS cs { f with code := n } σ1 := by
  refine stepS (fun e => ?_) (fun e => by rw [numS_bad e] at h; exact (Prod.mk.inj h).2.symm)
  rw [zero_pair e] at h
  rw [decP_c, numS_good, h]
  unfold toE
  by_cases e1 : σ1.1 = 0 <;> simp [e1]
theorem stepS_w {cs : List Int} {f : Fr} {σ σ1 : St} {n : Int} (h : wordS σ = (n, σ1)) : decPsS (119 :: cs) f σ = decPsS cs { f with code := i64Of n } σ1 := by
  refine stepS (fun e => ?_) (fun e => by rw [wordS_bad e] at h; exact (Prod.mk.inj h).2.symm)
  rw [decP_w]
  obtain ⟨rfl, rfl⟩ := Prod.mk.inj h
  unfold takeS refS toE
  rw [zero_pair e]
  by_cases h8 : σ.2.length < 8
  · have d : decide ((σ.2.length : Int) < 8) = true := by simp; omega
    simp [h8, d]
  · have d : decide ((σ.2.length : Int) < 8) = false := by simp; omega
    simp [h8, d]
theorem stepS_d {cs : List Int} {f : Fr} {σ σ1 : St} {d : List Int} (h : dataS σ = (d, σ1)) : decPsS (100 :: cs) f σ = decPsS cs { f with data := d } σ1 := by
  refine stepS (fun e => ?_) (fun e => by rw [dataS_bad e] at h; exact (Prod.mk.inj h).2.symm)
  rw [decP_d, numS_good]
  rw [zero_pair e] at h
  unfold dataS at h
  generalize numS (0, σ.2) = N at *
  obtain ⟨n, e1, t⟩ := N
  unfold takeS refS at h
  unfold toE
  by_cases h1 : e1 = 0
  · subst h1
    by_cases h2 : 120 < n
    · simp [h2] at h ⊢
      rw [← h.2]; simp
    · by_cases h3 : (t.length : Int) < n
      · simp [h2, h3] at h ⊢
        rw [← h.2]; simp
      · simp [h2, h3] at h ⊢
        rw [← h.2, ← h.1]; simp
  · simp [h1] at h ⊢
    rw [← h.2]; simp [h1]
theorem stepS_f {cs : List Int} {f : Fr} {σ : St} : decPsS (102 :: cs) f σ = decPsS cs f σ := by
  refine stepS (fun e => ?_) (fun e => rfl)
  rw [decP_no _ _ (by decide) (by decide) (by decide) (by decide) (by decide) (by decide)]
  unfold toE
  rw [if_pos e]
theorem stepS_r {cs : List Int} {f : Fr} {s : List Int} {σ1 : St} {l : List (Int × Int)} (h : decRs s = toE σ1 l) : decPsS (114 :: cs) f (0, s) = decPsS cs { f with rs := l } σ1 := by
  refine stepS (fun e => ?_) (fun e => absurd rfl e)
  rw [decP_r]
  show (match decRs s with | .error e => _ | .ok (l, t) => _) = _
  rw [h]
  unfold toE
  by_cases e1 : σ1.1 = 0 <;> simp [e1]
end Go.Proofs.Ytgfbonfoimiknaa.P
