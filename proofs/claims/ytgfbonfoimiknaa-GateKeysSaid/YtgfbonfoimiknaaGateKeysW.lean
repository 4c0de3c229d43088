/- The walk of GateKeys. -/
import Derived.Test.YtgfbonfoimiknaaGtKeys
namespace Go.Proofs.Ytgfbonfoimiknaa
set_option linter.unusedVariables false
set_option maxRecDepth 100000
open Go.RowKit P

theorem gateKeys_walk (n : Int) (x : Int) (x0 : 0 ≤ x) (x1 : x ≤ 18446744073709551615) (A : Option Addr) (n1 c1 : Nat) (z1 : List Int) (up : Bool) (W : World) (h1 : IsRow .u8 W A n1 c1 z1) :
    Calls Try.prog 14 #[.int .i64 n, .int .u64 x, .slice A n1 c1, .bool up] W fun e w' => e = .returned (.bool true) ∧ Below W.heap.size W w' := by
  obtain ⟨y, rfl⟩ : ∃ y : Nat, x = y := ⟨x.toNat, by omega⟩
  have hy : y < 18446744073709551616 := by omega
  obtain ⟨hb1, hl1, hc1, hm1⟩ := InRow.brow (show InRow W A n1 c1 z1 from h1)
  obtain ⟨zs, hz1⟩ : ∃ zs, z1.take n1 = zs := ⟨_, rfl⟩
  rw [hz1] at hb1 hl1
  have hw : ∀ n : Int, IntKind.u64.wrap n = (wd n : Int) := fun n => by rw [IntKind.wrap_u64]; unfold wd; omega
  have hn := hw n
  have F1 := Lib.hid (fun w => first_any n w)
  have F2 := Lib.hid (fun w => refFirst_any n w)
  have S1 := Lib.hid (fun w => session_any y (wd n) hy (wd_lt n) w)
  have S2 := Lib.hid (fun w => refSession_any y (wd n) hy (wd_lt n) w)
  have W1 := Lib.hid (fun w => way_any y hy up w)
  have W2 := Lib.hid (fun w => refWay_any y hy up w)
  have D1 : Hid (∀ w, Below W.heap.size W w → Calls Try.prog 51 #[.slice A n1 c1] w fun e w' => e = .returned (.int .u64 (wordN zs)) ∧ w = w') := Lib.hid (fun w b => word_any A n1 c1 zs w ((hb1.below b).more b.size) hl1 hc1 hm1)
  have D2 : Hid (∀ w, Below W.heap.size W w → Calls Try.prog 55 #[.slice A n1 c1] w fun e w' => e = .returned (.int .u64 (wordN zs)) ∧ Below w.heap.size w w') := Lib.hid (fun w b => refWord_any A n1 c1 zs w ((hb1.below b).more b.size) hl1 hc1 hm1)
  generalize keyN 1 n = k at *
  generalize sesN y (wd n) = s at *
  generalize wayN y up = t at *
  generalize wordN zs = v at *
  generalize wd n = u at *
  clear hw hb1 hl1 hz1 h1
  go_enter Try.func14, Try.ntmps14
  go_wp2_with fail
  refine (F1.out _).mono ?_
  rintro e w1 ⟨rfl, b1⟩
  have B1 := Lib.hid b1
  clear b1
  go_wp2_with fail
  refine (S1.out _).mono ?_
  rintro e w2 ⟨rfl, b2⟩
  have B2 := Lib.hid (B1.out.trans (b2.mono B1.out.size))
  clear b2
  go_wp2_with fail
  refine (W1.out _).mono ?_
  rintro e w3 ⟨rfl, b3⟩
  have B3 := Lib.hid (B2.out.trans (b3.mono B2.out.size))
  clear b3
  go_wp2_with fail
  refine (D1.out _ B3.out).mono ?_
  rintro e w4 ⟨rfl, rfl⟩
  go_wp2_with fail
  refine (F2.out _).mono ?_
  rintro e w5 ⟨rfl, b5⟩
  have B5 := Lib.hid (B3.out.trans (b5.mono B3.out.size))
  clear b5
  go_wp2_with fail
  refine (S2.out _).mono ?_
  rintro e w6 ⟨rfl, b6⟩
  have B6 := Lib.hid (B5.out.trans (b6.mono B5.out.size))
  clear b6
  go_wp2_with fail
  refine (W2.out _).mono ?_
  rintro e w7 ⟨rfl, b7⟩
  have B7 := Lib.hid (B6.out.trans (b7.mono B6.out.size))
  clear b7
  go_wp2_with fail
  refine (D2.out _ B7.out).mono ?_
  rintro e w8 ⟨rfl, b8⟩
  have B8 := Lib.hid (B7.out.trans (b8.mono B7.out.size))
  clear b8
  go_wp2_with fail
  go_ret
  exact ⟨by simp, B8.out⟩
end Go.Proofs.Ytgfbonfoimiknaa
