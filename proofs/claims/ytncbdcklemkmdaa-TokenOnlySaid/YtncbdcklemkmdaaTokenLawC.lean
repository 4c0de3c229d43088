/- The walks of TokenMakes and TokenChecks, over what is asked of Make and Check. -/
import Derived.Test.YtncbdcklemkmdaaRefTok
import Derived.Test.YtncbdcklemkmdaaOwnB
import Derived.Test.YtncbdcklemkmdaaSame
namespace Go.Proofs.Ytncbdcklemkmdaa
set_option linter.unusedVariables false
open Go.RowKit P

theorem tokX_byt (s : Nat) (a now : Int) : Byt (if tokE now = 0 then tokL s a now else []) := by
  by_cases h : tokE now = 0
  · rw [if_pos h]; exact tokL_byt _ _ _
  · rw [if_neg h]; exact Byt.nil
theorem tokX_len (s : Nat) (a now : Int) : (if tokE now = 0 then tokL s a now else []).length ≤ 16 := by
  by_cases h : tokE now = 0
  · rw [if_pos h, tokL_len]; exact Nat.le_refl _
  · rw [if_neg h]; exact Nat.zero_le _
theorem tokenMakes_core (hM : TokMake Try.prog 8 5) (x a now : Int) (x0 : 0 ≤ x) (x1 : x ≤ 18446744073709551615) (hn : -9223372036854775808 ≤ now ∧ now ≤ 9223372036854775807) (W : World) :
    Calls Try.prog 3 #[.int .u64 x, .int .i64 a, .int .i64 now] W fun e w' => e = .returned (.bool true) ∧ Below W.heap.size W w' := by
  obtain ⟨s, rfl⟩ : ∃ y : Nat, x = y := ⟨x.toNat, by omega⟩
  have hs : s < 18446744073709551616 := by omega
  have HM := Lib.hid (hM s a now W hs hn)
  have HR := Lib.hid (fun w => refTok_any s hs a now w)
  unfold TokOut at HR
  have hxb := tokX_byt s a now
  obtain ⟨X, hX⟩ : ∃ X, (if tokE now = 0 then tokL s a now else []) = X := ⟨_, rfl⟩
  rw [hX] at HM HR hxb
  generalize tokE now = q at *
  have HXB := Lib.hid hxb
  clear hM hs hX hxb
  go_enter Try.func3, Try.ntmps3
  go_wp2_with fail
  refine HM.out.mono ?_
  rintro e w1 ⟨b1, d, rfl, o1⟩
  obtain ⟨A1, c1, rfl, _, _⟩ := own_slice o1
  have R1 := Lib.hid (own_brow o1 HXB.out)
  have B1 := Lib.hid b1
  clear b1 o1
  go_wp2_with fail
  refine (HR.out _).mono ?_
  rintro e w2 ⟨b2, d2, rfl, hd2⟩
  obtain ⟨A2, c2, rfl, _, _, _, hr2⟩ := hd2.ex
  have B2 := Lib.hid (B1.out.trans (b2.mono B1.out.size))
  have R2 := Lib.hid (R1.out.below b2)
  have S2 := Lib.hid hr2
  clear b2 hd2 hr2
  go_wp2_with fail
  refine (sameBytes_eq _ _ _ _ _ _ _ _ _ X R2.out S2.out rfl rfl).mono ?_
  rintro e w' ⟨rfl, rfl⟩
  go_wp2_with fail
  go_ret
  exact ⟨by first | rfl | simp, B2.out⟩
theorem tokenChecks_core (hC : TokChk Try.prog 11) (x a now : Int) (x0 : 0 ≤ x) (x1 : x ≤ 18446744073709551615) (hn : -9223372036854775808 ≤ now ∧ now ≤ 9223372036854775807) (A : Option Addr) (n c : Nat) (z : List Int) (W : World) (h : IsRow .u8 W A n c z) (hr : c * 1 ≤ 140737488351232) :
    Calls Try.prog 4 #[.int .u64 x, .int .i64 a, .int .i64 now, .slice A n c] W fun e w' => e = .returned (.bool true) ∧ Below W.heap.size W w' := by
  obtain ⟨s, rfl⟩ : ∃ y : Nat, x = y := ⟨x.toNat, by omega⟩
  have hs : s < 18446744073709551616 := by omega
  obtain ⟨hb1, hl1, hc1, hm1⟩ := InRow.brow (show InRow W A n c z from h)
  have hn1 : A = none → c = 0 := fun e => by subst e; rcases h with ⟨_, _, e, _⟩ | ⟨x, e, _⟩ <;> first | exact e | cases e
  obtain ⟨zs, hz⟩ : ∃ zs, z.take n = zs := ⟨_, rfl⟩
  rw [hz] at hb1 hl1
  have V1 := Lib.hid (show BSl W W.heap.size (.slice A n c) zs from ⟨A, c, by rw [hl1], by rw [hl1]; exact hc1, hm1, hn1, hb1⟩)
  have HC := Lib.hid (hC s a now _ zs W hs hn V1.out (by omega))
  have HR := Lib.hid (fun w (hw : BSl w w.heap.size (.slice A n c) zs) => refTokF_any s hs a now _ zs w hw hn)
  generalize tokF s a now zs = q at *
  clear hC hs h hb1 hl1 hn1 hz
  go_enter Try.func4, Try.ntmps4
  go_wp2_with fail
  refine HC.out.mono ?_
  rintro e w1 ⟨rfl, b1⟩
  have B1 := Lib.hid b1
  clear b1
  go_wp2_with fail
  refine (HR.out _ (V1.out.on B1.out)).mono ?_
  rintro e w2 ⟨rfl, b2⟩
  have B2 := Lib.hid (B1.out.trans (b2.mono B1.out.size))
  clear b2
  go_wp2_with fail
  go_ret
  exact ⟨by first | rfl | simp, B2.out⟩
end Go.Proofs.Ytncbdcklemkmdaa
