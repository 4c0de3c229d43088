/- Numbers behind some bits, by P13: plain mathematics. Nothing of the program's. -/
import Derived.Test.YtenhdnanfgnfjaaRngMath
namespace Go.Proofs.Ytenhdnanfgnfjaa.P
set_option linter.unusedVariables false

/-- 2 to the power width, less 1 -/
def topW (w : Int) : Int := if w = 1 then 1 else if w = 2 then 3 else if w = 3 then 7 else if w = 4 then 15 else if w = 5 then 31 else if w = 6 then 63 else if w = 7 then 127 else 255
theorem topW_in (w : Int) : 1 ≤ topW w ∧ topW w ≤ 255 := by unfold topW; repeat' split <;> omega
/-- what a number is more than top, digit by digit -/
def pxD (m : Nat) : List Int := if h : m < 128 then [(m : Int)] else ((128 + m % 128 : Nat) : Int) :: pxD (m / 128)
termination_by m
decreasing_by omega
theorem pxD_lo {m : Nat} (h : m < 128) : pxD m = [(m : Int)] := by rw [pxD, dif_pos h]
theorem pxD_hi {m : Nat} (h : ¬ m < 128) : pxD m = ((128 + m % 128 : Nat) : Int) :: pxD (m / 128) := by rw [pxD, dif_neg h]
theorem pxD_byt (m : Nat) : ∀ x ∈ pxD m, 0 ≤ x ∧ x < 256 := by
  induction m using Nat.strongRecOn with
  | _ m ih =>
    by_cases h : m < 128
    · rw [pxD_lo h]
      intro x hx
      rw [List.mem_singleton.1 hx]
      omega
    · rw [pxD_hi h]
      intro x hx
      rcases List.mem_cons.1 hx with rfl | hx
      · omega
      · exact ih (m / 128) (by omega) x hx
theorem pxD_pos (m : Nat) : 0 < (pxD m).length := by
  by_cases h : m < 128
  · rw [pxD_lo h]; simp
  · rw [pxD_hi h]; simp
/-- how many digits: fewer than so many bits have so many -/
theorem pxD_len (k : Nat) : ∀ m : Nat, m < 128 ^ (k + 1) → (pxD m).length ≤ k + 1 := by
  induction k with
  | zero => intro m h; rw [pxD_lo (by simpa using h)]; simp
  | succ k ih =>
    intro m h
    by_cases q : m < 128
    · rw [pxD_lo q]; simp
    · rw [pxD_hi q, List.length_cons]
      have := ih (m / 128) (by rw [Nat.pow_succ] at h; omega)
      omega
/-- digits read, the lowest first: (number, how many bytes, error) -/
def dcD : List Int → Nat → Nat → Nat → Int × Int × Int
  | [], _, _, _ => (0, 0, 4)
  | c :: l, i, t, n => if 9 < i then (0, 0, 1) else if 4611686018427387903 < n + (c % 128).toNat * t then (0, 0, 6) else if c < 128 then (((n + (c % 128).toNat * t : Nat) : Int), ((i + 1 : Nat) : Int), 0) else dcD l (i + 1) (t * 128) (n + (c % 128).toNat * t)
theorem dig_i {m i t n : Nat} (ht : t = 128 ^ (i - 1)) (hi : 1 ≤ i) (h1 : i = 1 ∨ 1 ≤ m) (hb : n + m * t ≤ 4611686018427387903) : i ≤ 9 := by
  rcases h1 with rfl | h1
  · omega
  · rcases Nat.lt_or_ge 9 i with q | q
    · exfalso
      have e : (128 : Nat) ^ 9 ≤ 128 ^ (i - 1) := Nat.pow_le_pow_right (by decide) (by omega)
      rw [← ht] at e
      have e2 : t ≤ m * t := Nat.le_mul_of_pos_left _ h1
      have e3 : (128 : Nat) ^ 9 = 9223372036854775808 := by decide
      omega
    · exact q
/-- what was written is read, whatever stands behind; cut short it is none -/
theorem dc_enc (more : List Int) (m : Nat) : ∀ i t n : Nat, t = 128 ^ (i - 1) → 1 ≤ i → (i = 1 ∨ 1 ≤ m) → n + m * t ≤ 4611686018427387903 → dcD (pxD m ++ more) i t n = (((n + m * t : Nat) : Int), ((i + (pxD m).length : Nat) : Int), 0) := by
  induction m using Nat.strongRecOn with
  | _ m ih =>
    intro i t n ht hi h1 hb
    have h9 := dig_i ht hi h1 hb
    by_cases h : m < 128
    · rw [pxD_lo h]
      have e : ((m : Int) % 128).toNat = m := by omega
      simp only [List.cons_append, List.nil_append, dcD, e, List.length_singleton]
      rw [if_neg (by omega), if_neg (by omega), if_pos (by omega)]
    · rw [pxD_hi h]
      have e : (((128 + m % 128 : Nat) : Int) % 128).toNat = m % 128 := by omega
      simp only [List.cons_append, dcD, e, List.length_cons]
      have hs : n + m % 128 * t + m / 128 * (t * 128) = n + m * t := by
        have : m * t = (m % 128 + 128 * (m / 128)) * t := by rw [Nat.mod_add_div]
        rw [this, Nat.add_mul, Nat.mul_comm t 128, ← Nat.mul_assoc, Nat.mul_comm (m / 128) 128, Nat.add_assoc]
      rw [if_neg (by omega), if_neg (by omega), if_neg (by omega)]
      rw [ih (m / 128) (by omega) (i + 1) (t * 128) (n + m % 128 * t) (by rw [ht, ← Nat.pow_succ]; congr 1; omega) (by omega) (.inr (by omega)) (by omega), hs]
      simp only [Prod.mk.injEq, and_true, true_and]
      omega
theorem dc_cut (m : Nat) : ∀ i t n k : Nat, t = 128 ^ (i - 1) → 1 ≤ i → (i = 1 ∨ 1 ≤ m) → n + m * t ≤ 4611686018427387903 → k < (pxD m).length → dcD ((pxD m).take k) i t n = (0, 0, 4) := by
  induction m using Nat.strongRecOn with
  | _ m ih =>
    intro i t n k ht hi h1 hb hk
    have h9 := dig_i ht hi h1 hb
    by_cases h : m < 128
    · rw [pxD_lo h] at hk ⊢
      have : k = 0 := by simpa using hk
      subst this
      rfl
    · rw [pxD_hi h] at hk ⊢
      cases k with
      | zero => rfl
      | succ k =>
        have e : (((128 + m % 128 : Nat) : Int) % 128).toNat = m % 128 := by omega
        simp only [List.take_succ_cons, dcD, e]
        have hs : n + m % 128 * t + m / 128 * (t * 128) = n + m * t := by
          have : m * t = (m % 128 + 128 * (m / 128)) * t := by rw [Nat.mod_add_div]
          rw [this, Nat.add_mul, Nat.mul_comm t 128, ← Nat.mul_assoc, Nat.mul_comm (m / 128) 128, Nat.add_assoc]
        rw [if_neg (by omega), if_neg (by omega), if_neg (by omega)]
        exact ih (m / 128) (by omega) (i + 1) (t * 128) (n + m % 128 * t) k (by rw [ht, ← Nat.pow_succ]; congr 1; omega) (by omega) (.inr (by omega)) (by omega) (by simpa using hk)
/-- what Encode says, by P13.1 -/
def pxF (first w n : Int) : Int := if ¬ (1 ≤ w ∧ w ≤ 8 ∧ 0 ≤ n ∧ n ≤ 4611686018427387903) then 6 else if first % (topW w + 1) ≠ 0 then 3 else 0
def pxL (first w n : Int) : List Int := if n < topW w then [first + n] else (first + topW w) :: pxD (n - topW w).toNat
/-- what Decode says, by P13.2 -/
def pxR (b : List Int) (w : Int) : Int × Int × Int := if ¬ (1 ≤ w ∧ w ≤ 8) then (0, 0, 6) else match b with
  | [] => (0, 0, 4)
  | c :: l => if c % (topW w + 1) < topW w then (c % (topW w + 1), 1, 0) else dcD l 1 1 (topW w).toNat
theorem pxF_ok {first w n : Int} (h : pxF first w n = 0) : 1 ≤ w ∧ w ≤ 8 ∧ 0 ≤ n ∧ n ≤ 4611686018427387903 ∧ first % (topW w + 1) = 0 := by
  unfold pxF at h
  split at h
  · cases h
  · rename_i a
    split at h
    · cases h
    · rename_i b
      exact ⟨by omega, by omega, by omega, by omega, by omega⟩
theorem first_in {first w : Int} (h0 : 0 ≤ first) (h1 : first < 256) (h : first % (topW w + 1) = 0) : first + topW w < 256 := by
  have := topW_in w
  unfold topW at *
  repeat' split at *
  all_goals omega
theorem first_mod {first w n : Int} (h : first % (topW w + 1) = 0) (h0 : 0 ≤ n) (h1 : n ≤ topW w) : (first + n) % (topW w + 1) = n := by
  rw [Int.add_emod, h, Int.zero_add, Int.emod_emod_of_dvd _ (Int.dvd_refl _)]
  exact Int.emod_eq_of_lt h0 (by omega)
theorem pxL_byt {first w n : Int} (h0 : 0 ≤ first) (h1 : first < 256) (h : pxF first w n = 0) : ∀ x ∈ pxL first w n, 0 ≤ x ∧ x < 256 := by
  obtain ⟨a, b, c, d, e⟩ := pxF_ok h
  have t := topW_in w
  have f := first_in h0 h1 e
  unfold pxL
  split
  · intro x hx
    rw [List.mem_singleton.1 hx]
    omega
  · intro x hx
    rcases List.mem_cons.1 hx with rfl | hx
    · omega
    · exact pxD_byt _ x hx
theorem pxL_len {first w n : Int} (h : pxF first w n = 0) : 0 < (pxL first w n).length ∧ (pxL first w n).length ≤ 10 := by
  obtain ⟨a, b, c, d, e⟩ := pxF_ok h
  have t := topW_in w
  unfold pxL
  split
  · simp
  · have := pxD_len 8 (n - topW w).toNat (by have : (128 : Nat) ^ 9 = 9223372036854775808 := by decide
                                             omega)
    simp only [List.length_cons]
    omega
theorem px_back {first w n : Int} (h : pxF first w n = 0) (more : List Int) : pxR (pxL first w n ++ more) w = (n, ((pxL first w n).length : Int), 0) := by
  obtain ⟨a, b, c, d, e⟩ := pxF_ok h
  have t := topW_in w
  unfold pxR
  rw [if_neg (by omega)]
  unfold pxL
  by_cases q : n < topW w
  · rw [if_pos q]
    simp only [List.cons_append, List.nil_append]
    rw [first_mod e c (by omega), if_pos q]
    rfl
  · rw [if_neg q]
    simp only [List.cons_append]
    rw [first_mod e (by omega) (by omega), if_neg (by omega), dc_enc more _ 1 1 _ rfl (by omega) (.inl rfl) (by omega)]
    simp only [List.length_cons, Prod.mk.injEq, and_true]
    constructor <;> omega
theorem px_cut {first w n : Int} (h : pxF first w n = 0) (k : Nat) (hk : k < (pxL first w n).length) : pxR ((pxL first w n).take k) w = (0, 0, 4) := by
  obtain ⟨a, b, c, d, e⟩ := pxF_ok h
  have t := topW_in w
  unfold pxR
  rw [if_neg (by omega)]
  unfold pxL at hk ⊢
  by_cases q : n < topW w
  · rw [if_pos q] at hk ⊢
    have : k = 0 := by simpa using hk
    subst this
    rfl
  · rw [if_neg q] at hk ⊢
    cases k with
    | zero => rfl
    | succ k =>
      simp only [List.take_succ_cons]
      rw [first_mod e (by omega) (by omega), if_neg (by omega)]
      exact dc_cut _ 1 1 _ k rfl (by omega) (.inl rfl) (by omega) (by simpa using hk)
end Go.Proofs.Ytenhdnanfgnfjaa.P
