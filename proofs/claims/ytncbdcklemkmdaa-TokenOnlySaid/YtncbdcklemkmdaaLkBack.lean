/- What was sealed opens; a text has one seal. Nothing of the program's. -/
import Derived.Test.YtncbdcklemkmdaaLkMath
namespace Go.Proofs.Ytncbdcklemkmdaa.P
set_option linter.unusedVariables false

theorem turn_twice (t : Nat) : ∀ (zs : List Int) (i : Nat), Byt zs → turnL t i (turnL t i zs) = zs
  | [], i, _ => by simp only [turnL]
  | z :: zs, i, h => by
    have hz := h 0
    simp only [List.getD_cons_zero] at hz
    simp only [turnL]
    rw [turn_twice t zs (i + 1) (h.drop 1), Int.toNat_natCast, Nat.xor_assoc, Nat.xor_self, Nat.xor_zero]
    rw [show ((z.toNat : Nat) : Int) = z by omega]
theorem turn_len (t : Nat) : ∀ (zs : List Int) (i : Nat), (turnL t i zs).length = zs.length
  | [], i => by simp only [turnL, List.length_nil]
  | z :: zs, i => by simp only [turnL, List.length_cons]; rw [turn_len t zs (i + 1)]
theorem turn_byt (t : Nat) : ∀ (zs : List Int) (i : Nat), Byt zs → Byt (turnL t i zs)
  | [], i, _ => by simp only [turnL]; exact Byt.nil
  | z :: zs, i, h => by
    simp only [turnL]
    have hz := h 0
    simp only [List.getD_cons_zero] at hz
    have : strB t i < 256 := Nat.mod_lt _ (by decide)
    have : z.toNat ^^^ strB t i < 256 := Nat.xor_lt_two_pow (n := 8) (by omega) this
    exact byt_cons ⟨by omega, by omega⟩ (turn_byt t zs (i + 1) (h.drop 1))
/-- what bytes say, if they are a seal, by P6.4 -/
def openL (key : Nat) (n : Int) (hd zs : List Int) : Except Int (List Int) :=
  if zs.length < 8 then .error 4
  else if sealL key n hd (turnL (startN key n) 0 (zs.take (zs.length - 8))) = zs then .ok (turnL (startN key n) 0 (zs.take (zs.length - 8)))
  else .error 10
theorem seal_len (key : Nat) (n : Int) (hd tx : List Int) : (sealL key n hd tx).length = tx.length + 8 := by
  unfold sealL
  rw [List.length_append, turn_len, lowB_len]
theorem seal_byt (key : Nat) (n : Int) (hd tx : List Int) (h : Byt tx) : Byt (sealL key n hd tx) := by
  unfold sealL
  exact Byt.append (turn_byt _ _ _ h) (lowB_byt _ _)
theorem seal_take (key : Nat) (n : Int) (hd tx : List Int) : (sealL key n hd tx).take tx.length = turnL (startN key n) 0 tx := by
  unfold sealL
  rw [List.take_append_of_le_length (by rw [turn_len]; exact Nat.le_refl _), List.take_of_length_le (by rw [turn_len]; exact Nat.le_refl _)]
/-- what was sealed opens -/
theorem open_seal (key : Nat) (n : Int) (hd tx : List Int) (h : Byt tx) : openL key n hd (sealL key n hd tx) = .ok tx := by
  have hl := seal_len key n hd tx
  unfold openL
  rw [if_neg (by omega), hl, show tx.length + 8 - 8 = tx.length by omega, seal_take, turn_twice _ _ _ h, if_pos rfl]
/-- what opens is just what would be sealed -/
theorem open_only {key : Nat} {n : Int} {hd zs tx : List Int} (h : openL key n hd zs = .ok tx) : sealL key n hd tx = zs := by
  unfold openL at h
  split at h
  · cases h
  split at h
  · rename_i h1 h2
    simp only [Except.ok.injEq] at h
    rw [← h]
    exact h2
  · cases h
theorem open_err {key : Nat} {n : Int} {hd zs : List Int} {e : Int} (h : openL key n hd zs = .error e) : (e = 4 ∧ zs.length < 8) ∨ (e = 10 ∧ 8 ≤ zs.length) := by
  unfold openL at h
  split at h
  · rename_i h1
    simp only [Except.error.injEq] at h
    exact .inl ⟨h.symm, h1⟩
  split at h
  · cases h
  · rename_i h1 h2
    simp only [Except.error.injEq] at h
    exact .inr ⟨h.symm, by omega⟩
theorem xor8_nat (a b : Nat) (ha : a < 256) (hb : b < 256) : bits .xor .u8 (a : Int) (b : Int) = ((a ^^^ b : Nat) : Int) := by
  have hx : a ^^^ b < 256 := Nat.xor_lt_two_pow (n := 8) ha hb
  have h1 : (BitVec.ofInt 8 (a : Int)).toNat = a := by
    rw [BitVec.ofInt_natCast, BitVec.toNat_ofNat]; exact Nat.mod_eq_of_lt (by omega)
  have h2 : (BitVec.ofInt 8 (b : Int)).toNat = b := by
    rw [BitVec.ofInt_natCast, BitVec.toNat_ofNat]; exact Nat.mod_eq_of_lt (by omega)
  show IntKind.u8.wrap ((BitVec.ofInt 8 (a : Int) ^^^ BitVec.ofInt 8 (b : Int)).toNat : Int) = _
  rw [BitVec.toNat_xor, h1, h2, show ∀ n : Int, IntKind.u8.wrap n = n % 256 from fun n => by simp [IntKind.wrap, IntKind.bits, IntKind.signed]]
  omega
theorem xor8 (a b : Int) (a0 : 0 ≤ a) (a1 : a ≤ 255) (b0 : 0 ≤ b) (b1 : b ≤ 255) : 0 ≤ bits .xor .u8 a b ∧ bits .xor .u8 a b ≤ 255 ∧ (b = 0 → bits .xor .u8 a b = a) := by
  have k := xor8_nat a.toNat b.toNat (by omega) (by omega)
  rw [Int.toNat_of_nonneg a0, Int.toNat_of_nonneg b0] at k
  have hlt : a.toNat ^^^ b.toNat < 256 := Nat.xor_lt_two_pow (n := 8) (by omega) (by omega)
  rw [k]
  exact ⟨by omega, by omega, fun e => by subst e; simp; omega⟩
theorem byt_set {zs : List Int} (h : Byt zs) (i : Nat) {y : Int} (hy : 0 ≤ y ∧ y ≤ 255) : Byt (zs.set i y) := fun j => by
  rw [List.getD_eq_getElem?_getD, List.getElem?_set]
  by_cases e : i = j
  · subst e
    by_cases l : i < zs.length
    · simp [l]; exact hy
    · simp [l]
  · rw [if_neg e]
    have := h j
    rwa [List.getD_eq_getElem?_getD] at this
theorem set_same (zs : List Int) (i : Nat) (h : i < zs.length) : zs.set i (zs.getD i 0) = zs := by
  rw [List.getD_eq_getElem?_getD, List.getElem?_eq_getElem h]
  simp
end Go.Proofs.Ytncbdcklemkmdaa.P
