/- The document's answers on seals: Locked, Unlocked. -/
import Derived.Test.YtlmckklgmijapaaRefStream
import Derived.Test.YtlmckklgmijapaaRefTag
import Derived.Test.YtlmckklgmijapaaLkVal
namespace Go.Proofs.Ytlmckklgmijapaa
set_option linter.unusedVariables false
open Go.RowKit P

theorem turnL_byt (t : Nat) : ∀ (zs : List Int) (i : Nat), Byt zs → Byt (turnL t i zs)
  | [], i, _ => by simp only [turnL]; exact Byt.nil
  | z :: zs, i, h => by
    simp only [turnL]
    have hz := h 0
    simp only [List.getD_cons_zero] at hz
    have : strB t i < 256 := Nat.mod_lt _ (by decide)
    have := turn_bd (z := z.toNat) (b := strB t i) (by omega) this
    exact byt_cons ⟨by omega, by omega⟩ (turnL_byt t zs (i + 1) (h.drop 1))
theorem sealL_len (key : Nat) (n : Int) (hd tx : List Int) : (sealL key n hd tx).length = tx.length + 8 := by
  unfold sealL
  rw [List.length_append, turnL_len, lowB_len]
theorem sealL_byt (key : Nat) (n : Int) (hd tx : List Int) (h : Byt tx) : Byt (sealL key n hd tx) := by
  unfold sealL
  exact Byt.append (turnL_byt _ _ _ h) (lowB_byt _ _)

set_option maxHeartbeats 400000 in
theorem refLocked_any (key : Nat) (hk : key < 18446744073709551616) (n : Int) (hd tx : List Int) (h1 : Byt hd) (h2 : Byt tx) (l1 : hd.length ≤ 140737488351232) (l2 : tx.length ≤ 140737488351232) (w : World) :
    Calls Try.prog 14 #[.int .u64 key, .int .i64 n, .string (strOfNums hd), .string (strOfNums tx)] w fun e w' => e = .returned (.string (strOfNums (sealL key n hd tx))) ∧ Below w.heap.size w w' := by
  have HS := Lib.hid (fun w => refStream_any key hk n tx h2 (by omega) w)
  have HT := Lib.hid (fun w g (hc : ∀ k, k < 2 → w.cell? ⟨g, k, none⟩ = some (.string (strOfNums (([hd, tx] : List (List Int)).getD k [])))) (hg : g < w.heap.size) => refTag_any key hk n [hd, tx] g 2 w (fun k hk2 => ⟨hc k hk2, by
      rcases k with _ | _ | k
      · exact h1
      · exact h2
      · simp only [List.length_cons, List.length_nil] at hk2; omega, by
      rcases k with _ | _ | k
      · show hd.length ≤ _; omega
      · show tx.length ≤ _; omega
      · simp only [List.length_cons, List.length_nil] at hk2; omega⟩) hg (Nat.le_refl _) (by unfold maxLen; decide) (by simp))
  have hcat : strOfNums (sealL key n hd tx) = strOfNums (turnL (startN key n) 0 tx) ++ strOfNums (lowB 8 (([hd, tx] : List (List Int)).foldl tagP (wd n ^^^ mx key) : Nat)) := by
    rw [str_cat]
    unfold sealL tagN
    rw [List.foldl_cons, List.foldl_cons, List.foldl_nil]
  have z1 : (strOfNums (turnL (startN key n) 0 tx)).size ≤ 140737488351232 := by rw [strOfNums_size, turnL_len]; exact l2
  have z2 : (strOfNums (lowB 8 (([hd, tx] : List (List Int)).foldl tagP (wd n ^^^ mx key) : Nat))).size = 8 := by rw [strOfNums_size, lowB_len]
  rw [hcat]
  generalize strOfNums (turnL (startN key n) 0 tx) = T1 at *
  generalize strOfNums (lowB 8 (([hd, tx] : List (List Int)).foldl tagP (wd n ^^^ mx key) : Nat)) = T2 at *
  clear hcat h1 h2 l1 l2
  go_enter Try.func14, Try.ntmps14
  go_wp2_with fail
  refine (HS.out _).mono ?_
  rintro e w1 ⟨rfl, b1⟩
  have B1 := Lib.hid b1
  clear b1
  go_wp2_with fail
  refine (HT.out _ w1.heap.size (fun k hk2 => ?_) (by simp)).mono ?_
  · rcases k with _ | _ | k
    · simp
    · simp
    · omega
  rintro e w2 ⟨rfl, b2⟩
  have B2 := Lib.hid ((B1.out.alloc B1.out.size _).trans (b2.mono (Nat.le_trans B1.out.size (by simp))))
  clear b2
  go_wp2_with fail
  go_ret
  exact ⟨rfl, B2.out⟩

section
variable (key : Nat) (hk : key < 18446744073709551616) (n : Int) (hd zs : List Int) (h1 : Byt hd) (h2 : Byt zs) (l1 : hd.length ≤ 140737488351232) (l2 : zs.length ≤ 140737488351232) (w : World)
theorem refUnlocked_short (h8 : zs.length < 8) :
    Calls Try.prog 16 #[.int .u64 key, .int .i64 n, .string (strOfNums hd), .string (strOfNums zs)] w fun e w' => e = .returned (.tuple #[.string ⟨#[]⟩, .int .i64 4]) ∧ Below w.heap.size w w' := by
  have hsz : (strOfNums zs).size < 8 := by rw [strOfNums_size]; exact h8
  generalize strOfNums zs = S at *
  go_enter Try.func16, Try.ntmps16
  go_wp2
  go_ret2
  exact ⟨rfl, Below.refl _ _⟩
include hk h1 h2 l1 l2 in
theorem refUnlocked_long (h8 : 8 ≤ zs.length) :
    Calls Try.prog 16 #[.int .u64 key, .int .i64 n, .string (strOfNums hd), .string (strOfNums zs)] w fun e w' => e = .returned (.tuple (if strOfNums (sealL key n hd (turnL (startN key n) 0 (zs.take (zs.length - 8)))) = strOfNums zs then #[.string (strOfNums (turnL (startN key n) 0 (zs.take (zs.length - 8)))), .int .i64 0] else #[.string ⟨#[]⟩, .int .i64 10])) ∧ Below w.heap.size w w' := by
  have hsz : (strOfNums zs).size = zs.length := strOfNums_size zs
  have hcut := str_cut zs (zs.length - 8)
  have HS := Lib.hid (fun w => refStream_any key hk n (zs.take (zs.length - 8)) (h2.take _) (by rw [List.length_take]; omega) w)
  have HL := Lib.hid (fun w => refLocked_any key hk n hd (turnL (startN key n) 0 (zs.take (zs.length - 8))) h1 (turnL_byt _ _ _ (h2.take _)) l1 (by rw [turnL_len, List.length_take]; omega) w)
  rw [← hcut] at HS
  generalize strOfNums (sealL key n hd (turnL (startN key n) 0 (zs.take (zs.length - 8)))) = R at *
  generalize strOfNums (turnL (startN key n) 0 (zs.take (zs.length - 8))) = T at *
  rw [← hsz] at HS h8
  have hs47 : (strOfNums zs).size ≤ 140737488351232 := by omega
  clear hcut hsz h1 h2 l1 l2 hk
  generalize strOfNums zs = S at *
  have h8' : 8 ≤ (S.size : Int) := by omega
  have hw8 : IntKind.i64.wrap ((S.size : Int) - 8) = (S.size : Int) - 8 := by rw [IntKind.wrap_i64]; omega
  by_cases hR : R = S
  · have hne : (R.toList == S.toList) = true := by rw [hR]; simp
    rw [if_pos hR]
    clear hR
    go_enter Try.func16, Try.ntmps16
    go_wp2_with fail
    refine (HS.out _).mono ?_
    rintro e w1 ⟨rfl, b1⟩
    go_wp2_with fail
    refine (HL.out _).mono ?_
    rintro e w2 ⟨rfl, b2⟩
    go_wp2_with fail
    go_ret2
    exact ⟨rfl, b1.trans (b2.mono b1.size)⟩
  · have hne : (R.toList == S.toList) = false := by
      refine beq_eq_false_iff_ne.2 fun e => hR ?_
      rw [Lib.toList_data, Lib.toList_data] at e
      exact ByteArray.ext (Array.toList_inj.1 e)
    rw [if_neg hR]
    clear hR
    go_enter Try.func16, Try.ntmps16
    go_wp2_with fail
    refine (HS.out _).mono ?_
    rintro e w1 ⟨rfl, b1⟩
    go_wp2_with fail
    refine (HL.out _).mono ?_
    rintro e w2 ⟨rfl, b2⟩
    go_wp2_with fail
    go_ret2
    exact ⟨rfl, b1.trans (b2.mono b1.size)⟩
end
theorem str_inj {xs ys : List Int} (hx : Byt xs) (hy : Byt ys) (h : strOfNums xs = strOfNums ys) : xs = ys := by
  have hl : xs.length = ys.length := by rw [← strOfNums_size, ← strOfNums_size, h]
  refine List.ext_getElem hl fun i h1 h2 => ?_
  have a := str_get hx i (by rw [strOfNums_size]; exact h1)
  have b := str_get hy i (by rw [strOfNums_size]; exact h2)
  have e : ((strOfNums xs)[i]'(by rw [strOfNums_size]; exact h1)) = ((strOfNums ys)[i]'(by rw [strOfNums_size]; exact h2)) := by simp only [h]
  rw [e, b] at a
  rw [List.getD_eq_getElem?_getD, List.getElem?_eq_getElem h2, List.getD_eq_getElem?_getD, List.getElem?_eq_getElem h1] at a
  exact a.symm
theorem refUnlocked_any (key : Nat) (hk : key < 18446744073709551616) (n : Int) (hd zs : List Int) (h1 : Byt hd) (h2 : Byt zs) (l1 : hd.length ≤ 140737488351232) (l2 : zs.length ≤ 140737488351232) (w : World) :
    Calls Try.prog 16 #[.int .u64 key, .int .i64 n, .string (strOfNums hd), .string (strOfNums zs)] w fun e w' => LkStr key n hd zs e ∧ Below w.heap.size w w' := by
  by_cases h8 : zs.length < 8
  · refine (refUnlocked_short key n hd zs w h8).mono ?_
    rintro e w' ⟨rfl, hb⟩
    refine ⟨?_, hb⟩
    unfold LkStr openL
    rw [if_pos h8]
  · refine (refUnlocked_long key hk n hd zs h1 h2 l1 l2 w (by omega)).mono ?_
    rintro e w' ⟨rfl, hb⟩
    refine ⟨?_, hb⟩
    unfold LkStr openL
    rw [if_neg h8]
    by_cases hs : sealL key n hd (turnL (startN key n) 0 (zs.take (zs.length - 8))) = zs
    · have hs' : strOfNums (sealL key n hd (turnL (startN key n) 0 (zs.take (zs.length - 8)))) = strOfNums zs := by rw [hs]
      rw [if_pos hs, if_pos hs']
    · have hs' : ¬ strOfNums (sealL key n hd (turnL (startN key n) 0 (zs.take (zs.length - 8)))) = strOfNums zs := fun e => hs (str_inj (sealL_byt _ _ _ _ (turnL_byt _ _ _ (h2.take _))) h2 e)
      rw [if_neg hs, if_neg hs']
end Go.Proofs.Ytlmckklgmijapaa
