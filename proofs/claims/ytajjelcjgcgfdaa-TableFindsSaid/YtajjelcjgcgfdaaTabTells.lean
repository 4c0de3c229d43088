/- The statements' own tableTells, over what is asked of the project. -/
import Derived.Test.YtajjelcjgcgfdaaTabLawC
namespace Go.Proofs.Ytajjelcjgcgfdaa
set_option linter.unusedVariables false
open Go.RowKit P

def tbA : Tb := ⟨100, 1, [⟨[97], [98]⟩]⟩
theorem ttells1 : insT ⟨100, 0, []⟩ ⟨[97], [98]⟩ = (tbA, 0) := by kernel_rfl
theorem ttells2 : getT tbA 0 = (⟨[97], [98]⟩, 0) := by kernel_rfl
theorem byt_lit {z : Int} (h : 0 ≤ z ∧ z ≤ 255) : Byt [z] := fun j => by
  match j with
  | 0 => exact h
  | j + 1 => simp
theorem fdwfA : FdWf ⟨[97], [98]⟩ := ⟨byt_lit (by decide), byt_lit (by decide), by decide, by decide⟩
set_option maxHeartbeats 1000000 in
theorem tableTells_core (hI : TbIns Try.prog 11) (hG : TbGet Try.prog 18) (w : World) : Calls Try.prog 24 #[] w fun e w' => e = .returned (.bool true) ∧ Below w.heap.size w w' := by
  have H1 := Lib.hid (fun w => hI (.agg #[.int .i64 100, .int .i64 0, .slice none 0 0]) ⟨100, 0, []⟩ ⟨[97], [98]⟩ w ⟨_, rfl, FSl.nil _ _⟩ ⟨by decide, by decide, by decide, fun x hx => by cases hx⟩ fdwfA)
  rw [ttells1] at H1
  have H2 := Lib.hid (fun v w hv => hG v tbA 0 w hv ⟨by decide, by decide, by decide, fun x hx => by rw [List.mem_singleton.1 hx]; exact fdwfA⟩ (by decide))
  rw [ttells2] at H2
  unfold TbRes at H1
  unfold fdV at H1 H2
  simp only at H1 H2
  rw [show strOfNums [97] = ⟨#[97]⟩ from rfl, show strOfNums [98] = ⟨#[98]⟩ from rfl] at H1 H2
  go_enter Try.func24, Try.ntmps24
  go_wp2_with fail
  refine (H1.out _).mono ?_
  rintro e w1 ⟨b1, v1, rfl, hv1⟩
  obtain ⟨A1, c1, e⟩ := tb_slices hv1
  have e' : v1 = .agg #[.int .i64 100, .int .i64 1, .slice A1 1 c1] := e
  subst e'
  clear e
  have X1 := Lib.hid ((Below.refl w1.heap.size w1).alloc (Nat.le_refl _) (.cells #[.int .i64 100, .int .i64 1, .slice A1 1 c1] 24))
  have N1 := Lib.hid (heap_alloc_new w1 (.cells #[.int .i64 100, .int .i64 1, .slice A1 1 c1] 24))
  have V1 := Lib.hid (hv1.on X1.out)
  have B1 := Lib.hid (b1.trans (X1.out.mono b1.size))
  obtain ⟨q0, q1, q2⟩ := bk3T N1.out
  clear b1 hv1
  go_wp2_with fail
  refine (H2.out _ _ V1.out).mono ?_
  clear q0 q1 q2
  rintro e w2 ⟨b2, rfl⟩
  have B2 := Lib.hid (B1.out.trans (b2.mono B1.out.size))
  have X2 := Lib.hid (B2.out.alloc B2.out.size (.cells #[.string ⟨#[97]⟩, .string ⟨#[98]⟩] 26))
  clear b2
  go_wp2_with fail
  go_ret
  exact ⟨by first | rfl | simp, X2.out⟩
end Go.Proofs.Ytajjelcjgcgfdaa
