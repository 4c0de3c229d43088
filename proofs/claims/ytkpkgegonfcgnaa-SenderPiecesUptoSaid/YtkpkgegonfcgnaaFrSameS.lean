/- The exact texts' 'sameFrame': two frames that read the same are the same. -/
import Derived.Test.YtkpkgegonfcgnaaRngSameL
import Derived.Test.YtkpkgegonfcgnaaSame
import Derived.Test.YtkpkgegonfcgnaaSnTwo
import Derived.Test.YtkpkgegonfcgnaaStr
namespace Go.Proofs.Ytkpkgegonfcgnaa
set_option linter.unusedVariables false
open Go.RowKit P

set_option maxRecDepth 100000 in
set_option maxHeartbeats 1000000 in
theorem lsameFr_eq (v v' : Value) (f : Fr) (w : World) (h : FrVal w w.heap.size v f) (h' : FrVal w w.heap.size v' f) :
    Calls Try.prog 22 #[v, v'] w fun e w' => e = .returned (.bool true) ∧ Below w.heap.size w w' := by
  obtain ⟨l, d, rfl, hl, hd⟩ := h.ex
  obtain ⟨Ad, cd, rfl, hdc, hdm, hdn, hdr⟩ := hd.ex
  obtain ⟨Al, cl, rfl, hlc, hlm, hlr⟩ := hl.ex
  obtain ⟨l', d', rfl, hl', hd'⟩ := h'.ex
  obtain ⟨Ad', cd', rfl, _, _, hdn', hdr'⟩ := hd'.ex
  obtain ⟨Al', cl', rfl, _, _, hlr'⟩ := hl'.ex
  obtain ⟨g0, g1, g2⟩ := twoX w #[.int .i64 f.kind, .int .i64 f.id, .int .i64 f.off, .bool f.fin, .int .i64 f.code, .slice Al f.rs.length cl, .slice Ad f.data.length cd] #[.int .i64 f.kind, .int .i64 f.id, .int .i64 f.off, .bool f.fin, .int .i64 f.code, .slice Al' f.rs.length cl', .slice Ad' f.data.length cd'] 37 37
  have F0 := Lib.hid g0
  have Z0 := Lib.hid g1
  have B0 := Lib.hid g2
  have R0 := Lib.hid (hlr.on g2)
  have R1 := Lib.hid (hlr'.on g2)
  have D0 := Lib.hid (hdr.on g2)
  have D1 := Lib.hid (hdr'.on g2)
  have ml : f.rs.length ≤ 9223372036854775807 := by unfold maxLen at hlm; omega
  clear h h' hd hl hd' hl' hlr hlr' hdr hdr' hdn hdn' g0 g1 g2
  obtain ⟨q0, q1, q2, q3, q4, q5, q6⟩ := bkF F0.out
  obtain ⟨z0, z1, z2, z3, z4, z5, z6⟩ := bkF Z0.out
  go_enter Try.func22, Try.ntmps22
  go_wp2_with fail
  refine (lsame_any _ _ _ _ _ _ _ R0.out R1.out rfl ml).mono ?_
  rintro e w1 ⟨rfl, b1⟩
  have B1 := Lib.hid (B0.out.trans (b1.mono B0.out.size))
  have F1 := Lib.hid ((b1.block _ (lt_of_block F0.out)).trans F0.out)
  have Z1 := Lib.hid ((b1.block _ (lt_of_block Z0.out)).trans Z0.out)
  have E0 := Lib.hid (D0.out.on b1)
  have E1 := Lib.hid (D1.out.on b1)
  clear b1 q0 q1 q2 q3 q4 q5 q6 z0 z1 z2 z3 z4 z5 z6
  obtain ⟨q0, q1, q2, q3, q4, q5, q6⟩ := bkF F1.out
  obtain ⟨z0, z1, z2, z3, z4, z5, z6⟩ := bkF Z1.out
  go_wp2_with fail
  refine (sameBytes_eq _ _ _ _ _ _ _ _ _ f.data E0.out E1.out rfl rfl).mono ?_
  rintro e w' ⟨rfl, rfl⟩
  go_wp2_with fail
  go_ret
  exact ⟨by simp, B1.out⟩
end Go.Proofs.Ytkpkgegonfcgnaa
