/- Bytes as a string: nothing of the program's. -/
import Derived.Test.YtajjelcjgcgfdaaBytes
import Derived.Laws.BytesArg
import Derived.Lib.Strings
namespace Go.Proofs.Ytajjelcjgcgfdaa.P
set_option linter.unusedVariables false
open Go.RowKit

theorem run_str {P : Program} {w : World} {B : Nat} {A : Option Addr} {zs : List Int} {n : Nat} (h : BRow w B A zs) (hn : zs.length = n) (src dst e : TypeId) (cap : Nat)
    (hs : P.underlying src = some (.slice e)) (he : P.underlying e = some (.int .u8)) (hd : P.underlying dst = some .string) :
    (convert src dst (.slice A n cap)).run P w = .ok (.string (strOfNums zs)) w := by
  rcases Nat.eq_zero_or_pos n with h0 | h0
  · subst h0
    have hz : zs = [] := List.eq_nil_of_length_eq_zero hn
    subst hz
    rcases A with _ | a
    · exact run_convert_bytes_nil w src e hs he 0 cap dst hd
    · rw [run_convert_bytes_string w src dst e _ 0 cap hs he hd]
      have hl := run_loadCells_list (P := P) w a [] (fun j v hj => by simp at hj)
      rw [run_bytesToString w a 0 cap [] hl]
      rfl
  · obtain ⟨b, off, rfl, _, hc⟩ := h.2 (by omega)
    exact run_convert_bytes_arg w src e hs he b off n cap zs hn (fun i hi => hc i (by omega)) dst hd

theorem str_get {zs : List Int} (hb : Byt zs) (n : Nat) (h : n < (strOfNums zs).size) : (((strOfNums zs)[n]'h).toNat : Int) = zs.getD n 0 := by
  have hl : n < zs.length := by rw [strOfNums_size] at h; exact h
  have e : (strOfNums zs)[n]'h = UInt8.ofNat (zs[n]).toNat := by
    show (strOfNums zs).data[n]'h = _
    simp [strOfNums]
  have hz := hb n
  rw [List.getD_eq_getElem?_getD, List.getElem?_eq_getElem hl] at hz ⊢
  rw [e]
  simp only [Option.getD_some] at hz ⊢
  simp only [UInt8.toNat_ofNat']
  omega

theorem str_cut (zs : List Int) (k : Nat) : (strOfNums zs).extract 0 k = strOfNums (zs.take k) := by
  apply ByteArray.ext
  apply Array.toList_inj.1
  rw [Lib.extract_data, strOfNums_data, strOfNums_data]
  simp [List.map_take]

theorem str_cat (xs ys : List Int) : strOfNums xs ++ strOfNums ys = strOfNums (xs ++ ys) := by
  apply ByteArray.ext
  apply Array.toList_inj.1
  rw [strOfNums_data]
  simp [strOfNums]

theorem str_empty (zs : List Int) : (strOfNums zs).toList.isEmpty = decide (zs.length = 0) := by
  rw [Lib.toList_data, strOfNums_data]
  cases zs <;> simp

theorem beFrom_append (a : Int) (xs ys : List Int) : beFrom a (xs ++ ys) = beFrom (beFrom a xs) ys := by simp [beFrom]
theorem beFrom_cons (a z : Int) (zs : List Int) : beFrom a (z :: zs) = beFrom (a * 256 + z) zs := rfl
theorem beFrom_lin (a : Int) (zs : List Int) : beFrom a zs = a * 256 ^ zs.length + beFrom 0 zs := by
  induction zs generalizing a with
  | nil => simp [beFrom]
  | cons z zs ih =>
    rw [beFrom_cons, ih (a * 256 + z), beFrom_cons, ih (0 * 256 + z), List.length_cons, Int.pow_succ]
    generalize (256 : Int) ^ zs.length = p
    rw [Int.add_mul, Int.add_mul, Int.mul_assoc, Int.mul_comm 256 p]
    omega
theorem beFrom_all (a : Int) (zs : List Int) (hz : Byt zs) (ha : 0 ≤ a) : 0 ≤ beFrom a zs ∧ beFrom a zs ≤ a * 256 ^ zs.length + (256 ^ zs.length - 1) := by
  have := beFrom_bd a zs hz ha zs.length (Nat.le_refl _)
  rwa [List.take_of_length_le (Nat.le_refl _)] at this
end Go.Proofs.Ytajjelcjgcgfdaa.P
