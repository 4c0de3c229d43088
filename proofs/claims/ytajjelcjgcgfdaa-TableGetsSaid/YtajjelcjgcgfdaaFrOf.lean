/- The frames that the verifier's texts make of raw things: they may be. Nothing of the program's. -/
import Derived.Test.YtajjelcjgcgfdaaFrVal
import Derived.Test.YtajjelcjgcgfdaaStr
import Derived.Test.YtajjelcjgcgfdaaMath
namespace Go.Proofs.Ytajjelcjgcgfdaa.P
set_option linter.unusedVariables false
open Go.RowKit

/-- a string's bytes as numbers -/
def numsOf (s : ByteArray) : List Int := s.data.toList.map fun b => (b.toNat : Int)
theorem numsOf_len (s : ByteArray) : (numsOf s).length = s.size := by unfold numsOf; rw [List.length_map]; rfl
theorem numsOf_str (s : ByteArray) : strOfNums (numsOf s) = s := by
  apply ByteArray.ext
  apply Array.toList_inj.1
  rw [strOfNums_data, numsOf, List.map_map]
  conv => rhs; rw [← List.map_id s.data.toList]
  apply List.map_congr_left
  intro b _
  simp
theorem numsOf_byt (s : ByteArray) : Byt (numsOf s) := by
  intro j
  rw [List.getD_eq_getElem?_getD]
  unfold numsOf
  rw [List.getElem?_map]
  cases h : s.data.toList[j]? with
  | none => simp
  | some b => have := b.toNat_lt; simp; omega
theorem Byt.takeN {zs : List Int} (h : Byt zs) (n : Nat) : Byt (zs.take n) := h.take n

/-- the frame of a raw thing: q its kind of fourteen, x and y its numbers, d its bytes -/
def fOf (q x y : Int) (d : List Int) : Fr :=
  if q = 0 then ⟨1, 0, 0, false, 0, [], []⟩
  else if q = 1 then ⟨2, 0, 0, false, 0, [(y % 50 + 40, y % 50 + 50), (y % 50 + 20, y % 50 + 20 + x % 18), (y % 50, y % 50 + x % 5)].take (1 + x % 3).toNat, []⟩
  else if q = 2 then ⟨4, num x, num y, false, x % 99, [], []⟩
  else if q = 3 then ⟨5, num x, 0, false, num y, [], []⟩
  else if q = 4 then ⟨6, 0, num y / 2, false, 0, [], d⟩
  else if q = 5 then ⟨7, 0, 0, false, 0, [], d⟩
  else if q = 6 ∨ q = 7 then ⟨8, num x, num y / 2, decide (x % 2 = 0), 0, [], d⟩
  else if q = 8 then ⟨16, 0, num x, false, 0, [], []⟩
  else if q = 9 then ⟨17, num x, num y, false, 0, [], []⟩
  else if q = 10 then ⟨18, 0, num x, false, 0, [], []⟩
  else if q = 11 then ⟨26, 0, 0, false, num x, [], []⟩
  else if q = 12 then ⟨28, 0, 0, false, num x, [], []⟩
  else ⟨if x % 2 = 0 then 0 else 30, 0, 0, false, 0, [], []⟩
/-- with all numbers of a kind in their bounds nothing is wrong -/
theorem fault_free (k : Int) {f : Fr} {s : List Int} (hk : f.kind = k) (h : partsOf k = some s) (h1 : f.data.length ≤ 120) (h2 : f.rs.length ≤ 6) (hi : inBV (maskOf k) f.id f.off f.code f.data.length = true) (hf : inFV (maskOf k) f = true) : faultF f = 0 := by
  subst hk
  rw [faultF_some h, if_neg (by omega), if_neg (by rw [hi]; decide), if_neg (by rw [hf]; decide)]
theorem nb_ok {h : Bool} {n : Int} (h0 : 0 ≤ n) (h1 : n ≤ 4611686018427387903) (hz : h = false → n = 0) : numBad h n = false := by
  unfold numBad
  cases h
  · simp [h0, h1, hz rfl]
  · simp [h0, h1]
theorem take3 {α : Type} (a b c : α) (x : Int) : ([a, b, c].take (1 + x % 3).toNat = [a] ∨ [a, b, c].take (1 + x % 3).toNat = [a, b] ∨ [a, b, c].take (1 + x % 3).toNat = [a, b, c]) ∧ ([a, b, c].take (1 + x % 3).toNat).length = (1 + x % 3).toNat := by
  have e : x % 3 = 0 ∨ x % 3 = 1 ∨ x % 3 = 2 := by omega
  rcases e with e | e | e <;> rw [e] <;> simp
theorem inB_ok {m id off code n : Int} (h1 : numBad (hasM m 1) id = false) (h2 : numBad (hasM m 2) off = false) (h3 : numBad (hasM m 8) code = false) (h : hasM m 34 = false ∨ off + n ≤ 4611686018427387903) : inBV m id off code n = true := by
  unfold inBV mbV
  rw [h1, h2, h3]
  rcases h with h | h
  · rw [h]; rfl
  · rw [decide_eq_true h]; simp
theorem inF_ok {m : Int} {f : Fr} (h1 : f.data.length = 0 ∨ hasM m 32 = true) (h2 : f.fin = false ∨ hasM m 4 = true) (h3 : decide (0 < f.rs.length) = hasM m 64) (h4 : downL f.rs) : inFV m f = true := by
  unfold inFV
  rw [h3, decide_eq_true h4]
  have e1 : (decide (0 < f.data.length) && !hasM m 32) = false := by
    rcases h1 with h | h
    · rw [h]; rfl
    · rw [h]; simp
  have e2 : (f.fin && !hasM m 4) = false := by
    rcases h2 with h | h
    · rw [h]; rfl
    · rw [h]; simp
  rw [e1, e2]
  simp
theorem inF_nil {m : Int} {f : Fr} (h1 : f.data.length = 0 ∨ hasM m 32 = true) (h2 : f.fin = false ∨ hasM m 4 = true) (h3 : f.rs = []) (h : hasM m 64 = false) : inFV m f = true :=
  inF_ok h1 h2 (by rw [h3, h]; rfl) (by rw [h3]; trivial)
theorem nb_0 (h : Bool) : numBad h 0 = false := nb_ok (Int.le_refl _) (by omega) fun _ => rfl
theorem nb_1 {h : Bool} {n : Int} (k : h = true) (h0 : 0 ≤ n) (h1 : n ≤ 4611686018427387903) : numBad h n = false := nb_ok h0 h1 fun e => by rw [k] at e; cases e
theorem down_nil : downL [] := trivial
theorem fOf_ok (q x y : Int) (d : List Int) (hd : d.length ≤ 40) : faultF (fOf q x y d) = 0 := by
  have n1 := num_bd x
  have n2 := num_bd y
  unfold fOf
  by_cases c0 : q = 0
  · rw [if_pos c0]
    refine fault_free 1 (s := []) rfl rfl (by simp only [List.length_nil]; omega) (Nat.zero_le _) (inB_ok (nb_0 _) (nb_0 _) (nb_0 _) (.inl (by decide +kernel))) (inF_nil (.inl rfl) (.inl rfl) rfl (by decide +kernel))
  rw [if_neg c0]
  by_cases c1 : q = 1
  · rw [if_pos c1]
    obtain ⟨t, hl⟩ := take3 (y % 50 + 40, y % 50 + 50) (y % 50 + 20, y % 50 + 20 + x % 18) (y % 50, y % 50 + x % 5) x
    have hl1 : 0 < (1 + x % 3).toNat := by omega
    have hl2 : (1 + x % 3).toNat ≤ 6 := by omega
    have hd : downL ([(y % 50 + 40, y % 50 + 50), (y % 50 + 20, y % 50 + 20 + x % 18), (y % 50, y % 50 + x % 5)].take (1 + x % 3).toNat) := by
      unfold downL
      rcases t with t | t | t <;> rw [t] <;> simp only [downFrom, okR, and_true] <;> (refine ⟨?_, ?_⟩ <;> try omega)
    rw [← hl] at hl1 hl2
    generalize [(y % 50 + 40, y % 50 + 50), (y % 50 + 20, y % 50 + 20 + x % 18), (y % 50, y % 50 + x % 5)].take (1 + x % 3).toNat = l at *
    exact fault_free 2 (s := [114]) rfl rfl (Nat.zero_le _) hl2 (inB_ok (nb_0 _) (nb_0 _) (nb_0 _) (.inl (by decide +kernel))) (inF_ok (.inl rfl) (.inl rfl) ((decide_eq_true hl1).trans (by decide +kernel)) hd)
  rw [if_neg c1]
  by_cases c2 : q = 2
  · rw [if_pos c2]
    refine fault_free 4 (s := [105, 111, 99]) rfl rfl (by simp only [List.length_nil]; omega) (Nat.zero_le _) (inB_ok (nb_1 (by decide +kernel) n1.1 n1.2) (nb_1 (by decide +kernel) n2.1 n2.2) (nb_1 (by decide +kernel) (by first | omega | (simp only; omega)) (by first | omega | (simp only; omega))) (.inl (by decide +kernel))) (inF_nil (.inl rfl) (.inl rfl) rfl (by decide +kernel))
  rw [if_neg c2]
  by_cases c3 : q = 3
  · rw [if_pos c3]
    refine fault_free 5 (s := [105, 99]) rfl rfl (by simp only [List.length_nil]; omega) (Nat.zero_le _) (inB_ok (nb_1 (by decide +kernel) n1.1 n1.2) (nb_0 _) (nb_1 (by decide +kernel) n2.1 n2.2) (.inl (by decide +kernel))) (inF_nil (.inl rfl) (.inl rfl) rfl (by decide +kernel))
  rw [if_neg c3]
  by_cases c4 : q = 4
  · rw [if_pos c4]
    refine fault_free 6 (s := [111, 100]) rfl rfl (by simp only; omega) (Nat.zero_le _) (inB_ok (nb_0 _) (nb_1 (by decide +kernel) (by first | omega | (simp only; omega)) (by first | omega | (simp only; omega))) (nb_0 _) (.inr (by simp only; omega))) (inF_nil (.inr (by decide +kernel)) (.inl rfl) rfl (by decide +kernel))
  rw [if_neg c4]
  by_cases c5 : q = 5
  · rw [if_pos c5]
    refine fault_free 7 (s := [100]) rfl rfl (by simp only; omega) (Nat.zero_le _) (inB_ok (nb_0 _) (nb_0 _) (nb_0 _) (.inr (by simp only; omega))) (inF_nil (.inr (by decide +kernel)) (.inl rfl) rfl (by decide +kernel))
  rw [if_neg c5]
  by_cases c6 : q = 6 ∨ q = 7
  · rw [if_pos c6]
    refine fault_free 8 (s := [105, 111, 100, 102]) rfl rfl (by simp only; omega) (Nat.zero_le _) (inB_ok (nb_1 (by decide +kernel) n1.1 n1.2) (nb_1 (by decide +kernel) (by first | omega | (simp only; omega)) (by first | omega | (simp only; omega))) (nb_0 _) (.inr (by simp only; omega))) (inF_nil (.inr (by decide +kernel)) (.inr (by decide +kernel)) rfl (by decide +kernel))
  rw [if_neg c6]
  by_cases c7 : q = 8
  · rw [if_pos c7]
    refine fault_free 16 (s := [111]) rfl rfl (by simp only [List.length_nil]; omega) (Nat.zero_le _) (inB_ok (nb_0 _) (nb_1 (by decide +kernel) n1.1 n1.2) (nb_0 _) (.inl (by decide +kernel))) (inF_nil (.inl rfl) (.inl rfl) rfl (by decide +kernel))
  rw [if_neg c7]
  by_cases c8 : q = 9
  · rw [if_pos c8]
    refine fault_free 17 (s := [105, 111]) rfl rfl (by simp only [List.length_nil]; omega) (Nat.zero_le _) (inB_ok (nb_1 (by decide +kernel) n1.1 n1.2) (nb_1 (by decide +kernel) n2.1 n2.2) (nb_0 _) (.inl (by decide +kernel))) (inF_nil (.inl rfl) (.inl rfl) rfl (by decide +kernel))
  rw [if_neg c8]
  by_cases c9 : q = 10
  · rw [if_pos c9]
    refine fault_free 18 (s := [111]) rfl rfl (by simp only [List.length_nil]; omega) (Nat.zero_le _) (inB_ok (nb_0 _) (nb_1 (by decide +kernel) n1.1 n1.2) (nb_0 _) (.inl (by decide +kernel))) (inF_nil (.inl rfl) (.inl rfl) rfl (by decide +kernel))
  rw [if_neg c9]
  by_cases c10 : q = 11
  · rw [if_pos c10]
    refine fault_free 26 (s := [119]) rfl rfl (by simp only [List.length_nil]; omega) (Nat.zero_le _) (inB_ok (nb_0 _) (nb_0 _) (nb_1 (by decide +kernel) n1.1 n1.2) (.inl (by decide +kernel))) (inF_nil (.inl rfl) (.inl rfl) rfl (by decide +kernel))
  rw [if_neg c10]
  by_cases c11 : q = 12
  · rw [if_pos c11]
    refine fault_free 28 (s := [99]) rfl rfl (by simp only [List.length_nil]; omega) (Nat.zero_le _) (inB_ok (nb_0 _) (nb_0 _) (nb_1 (by decide +kernel) n1.1 n1.2) (.inl (by decide +kernel))) (inF_nil (.inl rfl) (.inl rfl) rfl (by decide +kernel))
  rw [if_neg c11]
  by_cases e : x % 2 = 0
  · rw [if_pos e]
    exact fault_free 0 (s := []) rfl rfl (Nat.zero_le _) (Nat.zero_le _) (inB_ok (nb_0 _) (nb_0 _) (nb_0 _) (.inl (by decide +kernel))) (inF_nil (.inl rfl) (.inl rfl) rfl (by decide +kernel))
  · rw [if_neg e]
    exact fault_free 30 (s := []) rfl rfl (Nat.zero_le _) (Nat.zero_le _) (inB_ok (nb_0 _) (nb_0 _) (nb_0 _) (.inl (by decide +kernel))) (inF_nil (.inl rfl) (.inl rfl) rfl (by decide +kernel))
theorem fOf_byt (q x y : Int) {d : List Int} (hd : Byt d) : Byt (fOf q x y d).data := by
  have h0 : Byt [] := by intro j; simp
  unfold fOf
  by_cases c0 : q = 0
  · rw [if_pos c0]; first | exact h0 | exact hd
  rw [if_neg c0]
  by_cases c1 : q = 1
  · rw [if_pos c1]; first | exact h0 | exact hd
  rw [if_neg c1]
  by_cases c2 : q = 2
  · rw [if_pos c2]; first | exact h0 | exact hd
  rw [if_neg c2]
  by_cases c3 : q = 3
  · rw [if_pos c3]; first | exact h0 | exact hd
  rw [if_neg c3]
  by_cases c4 : q = 4
  · rw [if_pos c4]; first | exact h0 | exact hd
  rw [if_neg c4]
  by_cases c5 : q = 5
  · rw [if_pos c5]; first | exact h0 | exact hd
  rw [if_neg c5]
  by_cases c6 : q = 6 ∨ q = 7
  · rw [if_pos c6]; first | exact h0 | exact hd
  rw [if_neg c6]
  by_cases c7 : q = 8
  · rw [if_pos c7]; first | exact h0 | exact hd
  rw [if_neg c7]
  by_cases c8 : q = 9
  · rw [if_pos c8]; first | exact h0 | exact hd
  rw [if_neg c8]
  by_cases c9 : q = 10
  · rw [if_pos c9]; first | exact h0 | exact hd
  rw [if_neg c9]
  by_cases c10 : q = 11
  · rw [if_pos c10]; first | exact h0 | exact hd
  rw [if_neg c10]
  by_cases c11 : q = 12
  · rw [if_pos c11]; first | exact h0 | exact hd
  rw [if_neg c11]
  exact h0
end Go.Proofs.Ytajjelcjgcgfdaa.P
