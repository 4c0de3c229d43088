/- Numbers in bytes: sizes, bytes, and what is read. Nothing of the program's. -/
import Derived.Test.YtajjelcjgcgfdaaBytes
namespace Go.Proofs.Ytajjelcjgcgfdaa.P
set_option linter.unusedVariables false
open Go.RowKit

theorem byt_all {zs : List Int} (h : ∀ z ∈ zs, 0 ≤ z ∧ z ≤ 255) : Byt zs := fun j => by
  by_cases hj : j < zs.length
  · rw [List.getD_eq_getElem?_getD, List.getElem?_eq_getElem hj]
    exact h _ (List.getElem_mem hj)
  · rw [getD_long (by omega)]; omega
/-- how many bytes a number takes, by P1.1 -/
def sz (n : Int) : Int := if n < 64 then 1 else if n < 16384 then 2 else if n < 1073741824 then 4 else 8

theorem sz_bd (n : Int) : 1 ≤ sz n ∧ sz n ≤ 8 := by unfold sz; split <;> (try split) <;> (try split) <;> omega
theorem sz_mono (a b : Int) (h : a ≤ b) : sz a ≤ sz b := by unfold sz; split <;> (try split) <;> (try split) <;> (try split) <;> (try split) <;> (try split) <;> omega
theorem sz_cases (n : Int) : (sz n = 1 ∧ n < 64) ∨ (sz n = 2 ∧ 64 ≤ n ∧ n < 16384) ∨ (sz n = 4 ∧ 16384 ≤ n ∧ n < 1073741824) ∨ (sz n = 8 ∧ 1073741824 ≤ n) := by
  unfold sz; split <;> (try split) <;> (try split) <;> omega
def kOf (z : Int) : Int := if z < 64 then 1 else if z < 128 then 2 else if z < 192 then 4 else 8
theorem kOf_bd (z : Int) : 1 ≤ kOf z ∧ kOf z ≤ 8 := by unfold kOf; split <;> (try split) <;> (try split) <;> omega
def decOk (zs : List Int) : Prop := 0 < zs.length ∧ kOf (zs.getD 0 0) ≤ (zs.length : Int)
def decV (zs : List Int) : Int := beFrom (zs.getD 0 0 % 64) ((zs.drop 1).take ((kOf (zs.getD 0 0)).toNat - 1))

theorem decV_bd (zs : List Int) (h : Byt zs) (hok : decOk zs) : 0 ≤ decV zs ∧ decV zs ≤ 4611686018427387903 ∧ sz (decV zs) ≤ kOf (zs.getD 0 0) := by
  have hd := h.drop 1
  have bd := beFrom_bd (zs.getD 0 0 % 64) (zs.drop 1) hd (by omega) ((kOf (zs.getD 0 0)).toNat - 1) (by have := hok.2; rw [List.length_drop]; omega)
  unfold decV
  generalize beFrom (zs.getD 0 0 % 64) ((zs.drop 1).take ((kOf (zs.getD 0 0)).toNat - 1)) = v at *
  generalize zs.getD 0 0 = z at *
  have z63 : z % 64 ≤ 63 := by omega
  have z0 : 0 ≤ z % 64 := by omega
  generalize z % 64 = r at *
  have c : kOf z = 1 ∨ kOf z = 2 ∨ kOf z = 4 ∨ kOf z = 8 := by unfold kOf; split <;> (try split) <;> (try split) <;> omega
  rcases c with c | c | c | c
  all_goals
    rw [c] at bd ⊢
    simp only [show (1 : Int).toNat - 1 = 0 from rfl, show (2 : Int).toNat - 1 = 1 from rfl, show (4 : Int).toNat - 1 = 3 from rfl, show (8 : Int).toNat - 1 = 7 from rfl] at bd
    have e0 : (256 : Int) ^ 0 = 1 := rfl
    have e1 : (256 : Int) ^ 1 = 256 := rfl
    have e3 : (256 : Int) ^ 3 = 16777216 := rfl
    have e7 : (256 : Int) ^ 7 = 72057594037927936 := rfl
    simp only [e0, e1, e3, e7] at bd
    refine ⟨bd.1, by omega, ?_⟩
    rcases sz_cases v with ⟨e, b⟩ | ⟨e, b⟩ | ⟨e, b⟩ | ⟨e, b⟩ <;> omega
/-- a number's bytes, by P1.2 -/
def enc (n : Int) : List Int :=
  if n < 64 then [n] else if n < 16384 then [n / 256 + 64, n % 256]
  else if n < 1073741824 then [n / 256 / 256 / 256 + 128, n / 256 / 256 % 256, n / 256 % 256, n % 256]
  else [n / 256 / 256 / 256 / 256 / 256 / 256 / 256 + 192, n / 256 / 256 / 256 / 256 / 256 / 256 % 256, n / 256 / 256 / 256 / 256 / 256 % 256, n / 256 / 256 / 256 / 256 % 256, n / 256 / 256 / 256 % 256, n / 256 / 256 % 256, n / 256 % 256, n % 256]

theorem enc_len (n : Int) : ((enc n).length : Int) = sz n := by
  unfold enc sz
  split <;> (try split) <;> (try split) <;> rfl
theorem enc_byt (n : Int) (h0 : 0 ≤ n) (h1 : n ≤ 4611686018427387903) : Byt (enc n) := by
  apply byt_all
  unfold enc
  split
  · intro z hz; simp at hz; omega
  split
  · intro z hz; simp at hz; omega
  split
  · intro z hz; simp at hz; omega
  · intro z hz; simp at hz; omega
theorem enc_head (n : Int) (h0 : 0 ≤ n) (h1 : n ≤ 4611686018427387903) : ∃ z t, enc n = z :: t ∧ kOf z = sz n ∧ beFrom (z % 64) t = n := by
  unfold enc sz
  split
  · exact ⟨n, [], rfl, by unfold kOf; rw [if_pos (by omega)], by simp [beFrom]; omega⟩
  split
  · exact ⟨_, _, rfl, by unfold kOf; rw [if_neg (by omega), if_pos (by omega)], by simp only [beFrom, List.foldl_cons, List.foldl_nil]; omega⟩
  split
  · exact ⟨_, _, rfl, by unfold kOf; rw [if_neg (by omega), if_neg (by omega), if_pos (by omega)], by simp only [beFrom, List.foldl_cons, List.foldl_nil]; omega⟩
  · exact ⟨_, _, rfl, by unfold kOf; rw [if_neg (by omega), if_neg (by omega), if_neg (by omega)], by simp only [beFrom, List.foldl_cons, List.foldl_nil]; omega⟩

theorem enc_dec (n : Int) (h0 : 0 ≤ n) (h1 : n ≤ 4611686018427387903) (more : List Int) : decOk (enc n ++ more) ∧ decV (enc n ++ more) = n ∧ kOf ((enc n ++ more).getD 0 0) = sz n := by
  have hl := enc_len n
  obtain ⟨z, t, e, hk, hv⟩ := enc_head n h0 h1
  rw [e] at hl ⊢
  have hz : ((z :: t) ++ more).getD 0 0 = z := rfl
  have hb := sz_bd n
  refine ⟨⟨by simp, ?_⟩, ?_, by rw [hz]; exact hk⟩
  · rw [hz, hk, List.length_append]; omega
  · unfold decV
    rw [hz, hk]
    have e2 : (((z :: t) ++ more).drop 1).take ((sz n).toNat - 1) = t := by
      show (t ++ more).take ((sz n).toNat - 1) = t
      rw [List.take_append_of_le_length (by simp at hl; omega), List.take_of_length_le (by simp at hl; omega)]
    rw [e2, hv]

theorem enc_cut (n : Int) (h0 : 0 ≤ n) (h1 : n ≤ 4611686018427387903) (j : Nat) (hj : j < (enc n).length) : ¬ decOk ((enc n).take j) := by
  have hl := enc_len n
  obtain ⟨z, t, e, hk, hv⟩ := enc_head n h0 h1
  rintro ⟨a, b⟩
  rw [List.length_take] at a b
  have hz : ((enc n).take j).getD 0 0 = z := by
    rw [getD_take (by omega), e]; rfl
  rw [hz, hk] at b
  omega
end Go.Proofs.Ytajjelcjgcgfdaa.P
