/- Keep's fieldsTell: a field is read as it was written. -/
import Derived.Test.YtlddbojfikkhfaaGrpL
import Derived.Test.YtlddbojfikkhfaaGrpJ
import Derived.Test.YtlddbojfikkhfaaTabSameK
import Derived.Test.YtlddbojfikkhfaaTabTells
namespace Go.Proofs.Ytlddbojfikkhfaa.P
set_option linter.unusedVariables false
theorem ftell1 : encFl tb0 [⟨[97], [98]⟩] false = (tb0, [], [0, 33, 97, 1, 98], 0) := by kernel_rfl
theorem ftell2 : decFl tb0 [0, 33, 97, 1, 98] = ([⟨[97], [98]⟩], 0) := by kernel_rfl
end Go.Proofs.Ytlddbojfikkhfaa.P
namespace Go.Proofs.Ytlddbojfikkhfaa
set_option linter.unusedVariables false
open Go.RowKit P

set_option maxHeartbeats 2000000 in
theorem fieldsTell_any (W : World) : Calls Try.prog 24 #[] W fun e w' => e = .returned (.bool true) ∧ Below W.heap.size W w' := by
  have B0 := Lib.hid ((Below.refl W.heap.size W).alloc (Nat.le_refl _) (.cells #[.string ⟨#[97]⟩, .string ⟨#[98]⟩] 57))
  have R0 := Lib.hid ((RowE.one (E := FdE) W ⟨[97], [98]⟩ #[.string ⟨#[97]⟩, .string ⟨#[98]⟩] 57 W.heap.size rfl (by rfl)).more (show W.heap.size + 1 ≤ (W.alloc (.cells #[.string ⟨#[97]⟩, .string ⟨#[98]⟩] 57)).heap.size by simp))
  have HE := Lib.hid (fun w (h : RowE FdE w w.heap.size (some ⟨W.heap.size, 0, none⟩) [⟨[97], [98]⟩]) => fdenc_any _ tb0 (some ⟨W.heap.size, 0, none⟩) 1 1 [⟨[97], [98]⟩] false w (TbVal.zero w w.heap.size) tbWf0 h rfl (fun x hx => by rw [List.mem_singleton.1 hx]; exact fdwfA) (by decide))
  have HD := Lib.hid (fun s w (h : BSl w w.heap.size s [0, 33, 97, 1, 98]) => fddec_any _ s tb0 [0, 33, 97, 1, 98] w (TbVal.zero w w.heap.size) tbWf0 h (by decide))
  rw [ftell1] at HE
  rw [ftell2] at HD
  unfold FlRes at HD
  dsimp only at HE HD
  have HKN := Lib.hid (fun w => known_any w)
  go_enter Try.func24, Try.ntmps24
  go_wp2_with fail
  refine (HE.out _ R0.out).mono ?_
  rintro e w2 ⟨b2, v2, d1, d2, rfl, hv2, hd1, hd2⟩
  obtain ⟨A1, n1, c1, r1, p1, rfl, hv2⟩ := tb_partsR hv2
  obtain ⟨Ad, cd, rfl, _, _, _, _⟩ := id hd1
  obtain ⟨Ae, ce, rfl, _, _, _, _⟩ := id hd2
  have X2 := Lib.hid ((Below.refl w2.heap.size w2).alloc (Nat.le_refl _) (.cells #[.int .i64 r1, .int .i64 p1, .slice A1 n1 c1] 24))
  have bb := b2.trans (X2.out.mono b2.size)
  have B2 := Lib.hid (B0.out.trans (bb.mono B0.out.size))
  have R2 := Lib.hid (R0.out.on bb)
  have S2 := Lib.hid (bsl_onF hd2 X2.out)
  clear b2 bb hv2 hd1 hd2
  go_wp2_with fail
  refine (HD.out _ _ S2.out).mono ?_
  rintro e w3 ⟨b3, v3, rfl, h3⟩
  obtain ⟨A3, c3, rfl, _, _, R3⟩ := h3.ex
  have R3 := Lib.hid R3
  have R4 := Lib.hid (R2.out.on b3)
  have B3 := Lib.hid (B2.out.trans (b3.mono B2.out.size))
  clear b3 h3
  go_wp2_with fail
  refine (ksameFd_eq _ _ 1 _ _ [⟨[97], [98]⟩] _ R4.out R3.out rfl (by decide)).mono ?_
  rintro e w5 ⟨rfl, b5⟩
  have B5 := Lib.hid (B3.out.trans (b5.mono B3.out.size))
  clear b5
  go_wp2_with fail
  refine (HKN.out _).mono ?_
  rintro e w6 ⟨b6, A6, rfl, _⟩
  have B6 := Lib.hid (B5.out.trans (b6.mono B5.out.size))
  clear b6
  go_wp2_with fail
  go_ret
  exact ⟨by first | rfl | simp, B6.out⟩
end Go.Proofs.Ytlddbojfikkhfaa
