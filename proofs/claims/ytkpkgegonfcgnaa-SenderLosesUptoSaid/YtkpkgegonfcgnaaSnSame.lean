/- The exact texts' 'sameSender': two senders that read the same are the same; the walk of SenderWrites over what is asked of the project. -/
import Derived.Test.YtkpkgegonfcgnaaRngSameL
import Derived.Test.YtkpkgegonfcgnaaSame
import Derived.Test.YtkpkgegonfcgnaaSnTwo
import Derived.Test.YtkpkgegonfcgnaaStr
namespace Go.Proofs.Ytkpkgegonfcgnaa
set_option linter.unusedVariables false
open Go.RowKit P

set_option maxRecDepth 100000 in
set_option maxHeartbeats 1000000 in
theorem sameSn_eq (v v' : Value) (s : Sn) (w : World) (h : SnVal w w.heap.size v s) (h' : SnVal w w.heap.size v' s) :
    Calls Try.prog 19 #[v, v'] w fun e w' => e = .returned (.bool true) ∧ Below w.heap.size w w' := by
  obtain ⟨d, l, a, rfl, hd, hl, ha⟩ := h.ex
  obtain ⟨Ad, cd, rfl, hdc, hdm, hdn, hdr⟩ := hd.ex
  obtain ⟨Al, cl, rfl, hlc, hlm, hlr⟩ := hl.ex
  obtain ⟨Aa, ca, rfl, hac, ham, har⟩ := ha.ex
  obtain ⟨d', l', a', rfl, hd', hl', ha'⟩ := h'.ex
  obtain ⟨Ad', cd', rfl, _, _, hdn', hdr'⟩ := hd'.ex
  obtain ⟨Al', cl', rfl, _, _, hlr'⟩ := hl'.ex
  obtain ⟨Aa', ca', rfl, _, _, har'⟩ := ha'.ex
  obtain ⟨g0, g1, g2⟩ := twoX w #[.slice Ad s.data.length cd, .bool s.fin, .int .i64 s.next, .int .i64 s.mx, .slice Al s.lost.length cl, .slice Aa s.acked.length ca, .bool s.ended, .bool s.over] #[.slice Ad' s.data.length cd', .bool s.fin, .int .i64 s.next, .int .i64 s.mx, .slice Al' s.lost.length cl', .slice Aa' s.acked.length ca', .bool s.ended, .bool s.over] 25 25
  have F0 := Lib.hid g0
  have Z0 := Lib.hid g1
  have B0 := Lib.hid g2
  have R0 := Lib.hid (hlr.on g2)
  have R1 := Lib.hid (hlr'.on g2)
  have S0 := Lib.hid (har.on g2)
  have S1 := Lib.hid (har'.on g2)
  have D0 := Lib.hid (hdr.on g2)
  have D1 := Lib.hid (hdr'.on g2)
  have ml : s.lost.length ≤ 9223372036854775807 := by unfold maxLen at hlm; omega
  have ma : s.acked.length ≤ 9223372036854775807 := by unfold maxLen at ham; omega
  clear h h' hd hl ha hd' hl' ha' hlr hlr' har har' hdr hdr' hdn hdn' g0 g1 g2
  obtain ⟨q0, q1, q2, q3, q4, q5, q6, q7⟩ := bkS F0.out
  obtain ⟨z0, z1, z2, z3, z4, z5, z6, z7⟩ := bkS Z0.out
  go_enter Try.func19, Try.ntmps19
  go_wp2_with fail
  refine (sameBytes_eq _ _ _ _ _ _ _ _ _ s.data D0.out D1.out rfl rfl).mono ?_
  rintro e w' ⟨rfl, rfl⟩
  go_wp2_with fail
  refine (lsame_any _ _ _ _ _ _ _ R0.out R1.out rfl ml).mono ?_
  rintro e w1 ⟨rfl, b1⟩
  have B1 := Lib.hid (B0.out.trans (b1.mono B0.out.size))
  have F1 := Lib.hid ((b1.block _ (lt_of_block F0.out)).trans F0.out)
  have Z1 := Lib.hid ((b1.block _ (lt_of_block Z0.out)).trans Z0.out)
  have E0 := Lib.hid (S0.out.on b1)
  have E1 := Lib.hid (S1.out.on b1)
  clear b1 q0 q1 q2 q3 q4 q5 q6 q7 z0 z1 z2 z3 z4 z5 z6 z7
  obtain ⟨q0, q1, q2, q3, q4, q5, q6, q7⟩ := bkS F1.out
  obtain ⟨z0, z1, z2, z3, z4, z5, z6, z7⟩ := bkS Z1.out
  go_wp2_with fail
  refine (lsame_any _ _ _ _ _ _ _ E0.out E1.out rfl ma).mono ?_
  rintro e w2 ⟨rfl, b2⟩
  have B2 := Lib.hid (B1.out.trans (b2.mono B1.out.size))
  have F2 := Lib.hid ((b2.block _ (lt_of_block F1.out)).trans F1.out)
  have Z2 := Lib.hid ((b2.block _ (lt_of_block Z1.out)).trans Z1.out)
  clear b2 q0 q1 q2 q3 q4 q5 q6 q7 z0 z1 z2 z3 z4 z5 z6 z7
  obtain ⟨q0, q1, q2, q3, q4, q5, q6, q7⟩ := bkS F2.out
  obtain ⟨z0, z1, z2, z3, z4, z5, z6, z7⟩ := bkS Z2.out
  go_wp2_with fail
  go_ret
  exact ⟨by simp, B2.out⟩
end Go.Proofs.Ytkpkgegonfcgnaa
