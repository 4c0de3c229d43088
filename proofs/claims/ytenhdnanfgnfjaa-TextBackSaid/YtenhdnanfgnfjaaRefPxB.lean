/- The document's answers on numbers behind bits: PrefixBytes. -/
import Derived.Test.YtenhdnanfgnfjaaPxPost
import Derived.Test.YtenhdnanfgnfjaaVarMath
namespace Go.Proofs.Ytenhdnanfgnfjaa
set_option linter.unusedVariables false
open Go.RowKit P

/-- the eight tops, by place -/
theorem tops_at (k : Nat) (h : k < 8) : (#[.int .i64 1, .int .i64 3, .int .i64 7, .int .i64 15, .int .i64 31, .int .i64 63, .int .i64 127, .int .i64 255] : Array Value)[k]? = some (.int .i64 (topW ((k : Int) + 1))) := by
  match k, h with
  | 0, _ => rfl
  | 1, _ => rfl
  | 2, _ => rfl
  | 3, _ => rfl
  | 4, _ => rfl
  | 5, _ => rfl
  | 6, _ => rfl
  | 7, _ => rfl
theorem pxL_T (first w n : Int) : pxL first w n = pxT first (topW w) n := rfl
set_option maxHeartbeats 1000000 in
theorem refPxBW_any : PxEncW Try.prog 9 := fun first wi n w f0 f1 w0 w1 => by
  obtain ⟨U, hU⟩ : ∃ U, IntKind.i64.wrap (wi - 1) = U := ⟨_, rfl⟩
  have hu : upB2 U 7 = decide (1 ≤ wi ∧ wi ≤ 8) := by
    rw [IntKind.wrap_i64] at hU
    by_cases k : 1 ≤ wi ∧ wi ≤ 8
    · rw [upB2_yes (by omega) (by omega), decide_eq_true k]
    · rw [upB2_no (by omega), decide_eq_false k]
  have no : ∀ x, x ≠ 0 → ∀ w', Below w.heap.size w w' → PxPostW x (pxL first wi n) w (.returned (.tuple #[.slice none 0 0, .int .i64 x])) w' := fun x hx w' hb => ⟨hb, _, rfl, fun _ => rfl, fun h => (hx h).elim⟩
  have NO := Lib.hid no
  clear no
  by_cases hw : 1 ≤ wi ∧ wi ≤ 8
  · rw [decide_eq_true hw] at hu
    by_cases hn : 0 ≤ n ∧ n ≤ 4611686018427387903
    · have hv : upB2 n 4611686018427387903 = true := upB2_yes hn.1 hn.2
      obtain ⟨k, rfl⟩ : ∃ k : Nat, wi = (k : Int) + 1 := ⟨(wi - 1).toNat, by omega⟩
      have hk8 : k < 8 := by omega
      have hk8i : (k : Int) < 8 := by omega
      have hUk : U = (k : Int) := by rw [← hU, IntKind.wrap_i64]; omega
      have HTK := Lib.hid (tops_at k hk8)
      obtain ⟨ht1, ht2⟩ := topW_in ((k : Int) + 1)
      have HIN := Lib.hid (fun h => first_in (w := (k : Int) + 1) f0 f1 h)
      have HF0 := Lib.hid (show pxF first ((k : Int) + 1) n = if first % (topW ((k : Int) + 1) + 1) ≠ 0 then 3 else 0 from if_neg (by omega))
      have HL := Lib.hid (pxL_T first ((k : Int) + 1) n)
      have HBY := Lib.hid (fun h => pxL_byt (n := n) f0 f1 (w := (k : Int) + 1) h)
      have HLE := Lib.hid (fun h => (pxL_len (first := first) (w := (k : Int) + 1) (n := n) h).2)
      obtain ⟨L, hL⟩ : ∃ L, pxL first ((k : Int) + 1) n = L := ⟨_, rfl⟩
      obtain ⟨x, hx⟩ : ∃ x, pxF first ((k : Int) + 1) n = x := ⟨_, rfl⟩
      rw [hL] at NO HL HBY HLE ⊢
      rw [hx] at HF0 HBY HLE ⊢
      obtain ⟨T, hT⟩ : ∃ T, topW ((k : Int) + 1) = T := ⟨_, rfl⟩
      rw [hT] at HTK ht1 ht2 HIN HF0 HL
      have B0 := Lib.hid ((Below.refl w.heap.size w).alloc (Nat.le_refl _) (.cells #[.int .i64 1, .int .i64 3, .int .i64 7, .int .i64 15, .int .i64 31, .int .i64 63, .int .i64 127, .int .i64 255] 3))
      have hcell : (w.alloc (.cells #[.int .i64 1, .int .i64 3, .int .i64 7, .int .i64 15, .int .i64 31, .int .i64 63, .int .i64 127, .int .i64 255] 3)).cell? ⟨w.heap.size, k, none⟩ = some (.int .i64 T) := by
        rw [bk_cell (heap_alloc_new w (.cells #[.int .i64 1, .int .i64 3, .int .i64 7, .int .i64 15, .int .i64 31, .int .i64 63, .int .i64 127, .int .i64 255] 3)) k]
        exact HTK.out
      clear hL hT hw hx hU w0 w1
      subst hUk
      by_cases h : first % (T + 1) = 0
      · have hx : x = 0 := by rw [HF0.out, if_neg (by omega)]
        subst hx
        have g : (first % (T + 1) == 0) = true := by simp [h]
        have g' : (first % (T + 1) != 0) = false := by simp [h]
        have HPT := Lib.hid (fun w => refPxText_any first T n f0 ht1 (HIN.out h) hn.1 hn.2 w)
        rw [← HL.out] at HPT
        have HCV := Lib.hid (fun w => conv_w L (byt_all fun z hz => by have := HBY.out rfl z hz; omega) (by have := HLE.out rfl; omega) w)
        clear h
        go_enter Try.func9, Try.ntmps9
        go_wp2_with (first
          | (go_at_call 21; refine (upTo_any _ _ _).mono ?_; rintro e w' ⟨rfl, rfl⟩))
        refine (HPT.out _).mono ?_
        rintro e w1 ⟨rfl, b1⟩
        have B1 := Lib.hid (B0.out.trans (b1.mono B0.out.size))
        obtain ⟨C, w2, hcv, b2, hlt2, hrow⟩ := HCV.out w1
        have B2 := Lib.hid (B1.out.trans (b2.mono B1.out.size))
        have RW := Lib.hid hrow
        clear b1 b2 hrow
        go_wp2_with fail
        go_ret2
        exact ⟨B2.out, _, rfl, fun h => (h rfl).elim, fun _ => wrow_base RW.out B1.out.size⟩
      · have hx : x = 3 := by rw [HF0.out, if_pos h]
        subst hx
        have g' : (first % (T + 1) != 0) = true := by simp [h]
        clear h
        go_enter Try.func9, Try.ntmps9
        go_wp2_with (first
          | (go_at_call 21; refine (upTo_any _ _ _).mono ?_; rintro e w' ⟨rfl, rfl⟩))
        go_ret2
        exact NO.out 3 (by decide) _ B0.out
    · have hv : upB2 n 4611686018427387903 = false := upB2_no (by omega)
      have HF := Lib.hid (show pxF first wi n = 6 from if_pos (by omega))
      rw [HF.out]
      clear hw hn
      go_enter Try.func9, Try.ntmps9
      go_wp2_with (first
        | (go_at_call 21; refine (upTo_any _ _ _).mono ?_; rintro e w' ⟨rfl, rfl⟩))
      go_ret2
      exact NO.out 6 (by decide) _ (Below.refl _ _)
  · rw [decide_eq_false hw] at hu
    have HF := Lib.hid (show pxF first wi n = 6 from if_pos (by omega))
    rw [HF.out]
    clear hw
    go_enter Try.func9, Try.ntmps9
    go_wp2_with (first
      | (go_at_call 21; refine (upTo_any _ _ _).mono ?_; rintro e w' ⟨rfl, rfl⟩))
    go_ret2
    exact NO.out 6 (by decide) _ (Below.refl _ _)
theorem refPxB_any : PxEnc Try.prog 9 := refPxBW_any.enc
end Go.Proofs.Ytenhdnanfgnfjaa
