/- Tokens as bytes: made, checked, by P7.1 and P7.2. Nothing of the program's. -/
import Derived.Test.YtncbdcklemkmdaaLkVal
namespace Go.Proofs.Ytncbdcklemkmdaa.P
set_option linter.unusedVariables false
open Go.RowKit

/-- the second half's word -/
def tokW (s : Nat) (a now : Int) : Nat := mx (keyN s a ^^^ mx (wd now))
/-- a token's bytes -/
def tokL (s : Nat) (a now : Int) : List Int := lowB 8 now ++ lowB 8 (tokW s a now)
/-- what Make says -/
def tokE (now : Int) : Int := if 0 ≤ now ∧ now ≤ 1099511627776 then 0 else 6
/-- what Check says -/
def tokF (s : Nat) (a now : Int) (zs : List Int) : Int :=
  if ¬(0 ≤ now ∧ now ≤ 1099511627776) then 6
  else if zs.length ≠ 16 then 3
  else if 1099511627776 < beFrom 0 (zs.take 8) then 10
  else if tokL s a (beFrom 0 (zs.take 8)) ≠ zs then 10
  else if ¬(0 ≤ now - beFrom 0 (zs.take 8) ∧ now - beFrom 0 (zs.take 8) ≤ 50) then 16
  else 0
theorem tokL_len (s : Nat) (a now : Int) : (tokL s a now).length = 16 := by unfold tokL; rw [List.length_append, lowB_len, lowB_len]
theorem tokL_byt (s : Nat) (a now : Int) : Byt (tokL s a now) := Byt.append (lowB_byt _ _) (lowB_byt _ _)
theorem tokW_lt (s : Nat) (a now : Int) : tokW s a now < 18446744073709551616 := mx_lt _
theorem be8 (v : Int) (h0 : 0 ≤ v) (h1 : v < 18446744073709551616) : beFrom 0 (lowB 8 v) = v := by
  simp only [lowB, shr8, beFrom, List.foldl_cons, List.foldl_nil]
  omega
theorem tokL_take (s : Nat) (a now : Int) : (tokL s a now).take 8 = lowB 8 now := by
  unfold tokL
  rw [List.take_append_of_le_length (by rw [lowB_len]; omega), List.take_of_length_le (by rw [lowB_len]; omega)]
theorem tokL_drop (s : Nat) (a now : Int) : (tokL s a now).drop 8 = lowB 8 (tokW s a now) := by
  unfold tokL
  rw [List.drop_append_of_le_length (by rw [lowB_len]; omega), List.drop_of_length_le (by rw [lowB_len]; omega), List.nil_append]
theorem tokL_time (s : Nat) (a now : Int) (h0 : 0 ≤ now) (h1 : now ≤ 1099511627776) : beFrom 0 ((tokL s a now).take 8) = now := by rw [tokL_take, be8 now h0 (by omega)]
/-- a token is good for its time -/
theorem tokF_good (s : Nat) (a t now : Int) (h0 : 0 ≤ t) (h1 : t ≤ 1099511627776) (n0 : t ≤ now) (n1 : now ≤ 1099511627776) : tokF s a now (tokL s a t) = if now - t ≤ 50 then 0 else 16 := by
  unfold tokF
  rw [if_neg (by omega), if_neg (by rw [tokL_len]; omega), tokL_time s a t h0 h1, if_neg (by omega), if_neg (by simp)]
  by_cases h : now - t ≤ 50
  · rw [if_neg (by omega), if_pos h]
  · rw [if_pos (by omega), if_neg h]
/-- what is taken is just what was made -/
theorem tokF_only {s : Nat} {a now : Int} {zs : List Int} (hb : Byt zs) (h : tokF s a now zs = 0) : ∃ t, 0 ≤ t ∧ t ≤ 1099511627776 ∧ 0 ≤ now - t ∧ now - t ≤ 50 ∧ tokL s a t = zs := by
  unfold tokF at h
  split at h
  · omega
  split at h
  · omega
  split at h
  · omega
  split at h
  · omega
  split at h
  · omega
  · rename_i h1 h2 h3 h4 h5
    have := (beFrom_all 0 (zs.take 8) (hb.take 8) (Int.le_refl 0)).1
    exact ⟨beFrom 0 (zs.take 8), this, by omega, by omega, by omega, Decidable.of_not_not h4⟩
theorem tokW_inj {s : Nat} {a b t : Int} (ha : -9223372036854775808 ≤ a ∧ a ≤ 9223372036854775807) (hb : -9223372036854775808 ≤ b ∧ b ≤ 9223372036854775807) (h : tokW s a t = tokW s b t) : a = b := by
  have h1 := mx_inj (xor_lt (by unfold keyN; exact mx_lt _) (mx_lt _)) (xor_lt (by unfold keyN; exact mx_lt _) (mx_lt _)) h
  have h2 : keyN s a = keyN s b := by
    have := congrArg (· ^^^ mx (wd t)) h1
    simpa [Nat.xor_assoc] using this
  exact keyN_inj ha hb h2
/-- tokens of two addresses, or of two times, differ -/
theorem tokL_inj {s : Nat} {a b t u : Int} (ha : -9223372036854775808 ≤ a ∧ a ≤ 9223372036854775807) (hb : -9223372036854775808 ≤ b ∧ b ≤ 9223372036854775807) (t0 : 0 ≤ t) (t1 : t ≤ 1099511627776) (u0 : 0 ≤ u) (u1 : u ≤ 1099511627776) (h : tokL s a t = tokL s b u) : a = b ∧ t = u := by
  have e : t = u := by
    have e1 : beFrom 0 ((tokL s a t).take 8) = beFrom 0 ((tokL s b u).take 8) := by rw [h]
    rwa [tokL_time s a t t0 t1, tokL_time s b u u0 u1] at e1
  subst e
  have h2 := congrArg (List.drop 8) h
  rw [tokL_drop, tokL_drop] at h2
  have h3 := congrArg (beFrom 0) h2
  have l1 := tokW_lt s a t
  have l2 := tokW_lt s b t
  rw [be8 _ (by omega) (by omega), be8 _ (by omega) (by omega)] at h3
  exact ⟨tokW_inj (s := s) (t := t) ha hb (by omega), rfl⟩

theorem tk_inj {xs ys : List Int} (hx : Byt xs) (hy : Byt ys) (h : strOfNums xs = strOfNums ys) : xs = ys := by
  have hl : xs.length = ys.length := by rw [← strOfNums_size, ← strOfNums_size, h]
  refine List.ext_getElem hl fun i h1 h2 => ?_
  have a := str_get hx i (by rw [strOfNums_size]; exact h1)
  have b := str_get hy i (by rw [strOfNums_size]; exact h2)
  have e : ((strOfNums xs)[i]'(by rw [strOfNums_size]; exact h1)) = ((strOfNums ys)[i]'(by rw [strOfNums_size]; exact h2)) := by simp only [h]
  rw [e, b] at a
  rw [List.getD_eq_getElem?_getD, List.getElem?_eq_getElem h2, List.getD_eq_getElem?_getD, List.getElem?_eq_getElem h1] at a
  exact a.symm
theorem tk_eqB {xs ys : List Int} (hx : Byt xs) (hy : Byt ys) : ((strOfNums xs).toList == (strOfNums ys).toList) = decide (xs = ys) := by
  by_cases h : xs = ys
  · subst h; simp
  · rw [decide_eq_false h]
    refine beq_eq_false_iff_ne.2 fun e => h (tk_inj hx hy ?_)
    rw [Lib.toList_data, Lib.toList_data] at e
    exact ByteArray.ext (Array.toList_inj.1 e)
/-- what is asked of a maker of tokens -/
def TokMake (P : Program) (f : FuncId) (E : TypeId) : Prop := ∀ (s : Nat) (a now : Int) (w : World), s < 18446744073709551616 → -9223372036854775808 ≤ now ∧ now ≤ 9223372036854775807 →
  Calls P f #[.int .u64 s, .int .i64 a, .int .i64 now] w fun e w' => Below w.heap.size w w' ∧ ∃ d, e = .returned (.tuple #[d, .int .i64 (tokE now)]) ∧ w'.ownsRow w.heap.size E 1 d (if tokE now = 0 then tokL s a now else []).length ((if tokE now = 0 then tokL s a now else []).map (.int .u8))
/-- what is asked of a checker of tokens -/
def TokChk (P : Program) (f : FuncId) : Prop := ∀ (s : Nat) (a now : Int) (v : Value) (zs : List Int) (w : World), s < 18446744073709551616 → -9223372036854775808 ≤ now ∧ now ≤ 9223372036854775807 → BSl w w.heap.size v zs → zs.length ≤ 140737488351240 →
  Calls P f #[.int .u64 s, .int .i64 a, .int .i64 now, v] w fun e w' => e = .returned (.int .i64 (tokF s a now zs)) ∧ Below w.heap.size w w'
end Go.Proofs.Ytncbdcklemkmdaa.P
