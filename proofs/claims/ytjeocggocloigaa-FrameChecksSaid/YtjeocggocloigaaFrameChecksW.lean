/- The walk of FrameChecks. -/
import Derived.Test.YtjeocggocloigaaFrCheck
import Derived.Test.YtjeocggocloigaaRefFaultC
import Derived.Test.YtjeocggocloigaaOpenFr
namespace Go.Proofs.Ytjeocggocloigaa
set_option linter.unusedVariables false
open Go.RowKit P

theorem frameChecks_walk (v : Value) (f : Fr) (w : World) (h : FrVal w w.heap.size v f) (hw : FrWf f) :
    Calls Try.prog 3 #[v] w fun e w' => e = .returned (.bool true) ∧ Below w.heap.size w w' := by
  obtain ⟨r, d, rfl, hr, hd⟩ := h.ex
  have HW := Lib.hid ((Below.refl w.heap.size w).alloc (Nat.le_refl _) (.cells #[.int .i64 f.kind, .int .i64 f.id, .int .i64 f.off, .bool f.fin, .int .i64 f.code, r, d] 25))
  have HV := Lib.hid (h.on HW.out)
  have HK := Lib.hid hw.kind
  clear h hr hd hw
  obtain ⟨x, hx⟩ : ∃ x, faultF f = x := ⟨_, rfl⟩
  have HX := Lib.hid hx
  clear hx
  go_enter Try.func3, Try.ntmps3
  go_wp2_with (first
    | (go_at_call 6; refine (frCheck_any _ _ _ HV.out).mono ?_; rintro e w1 ⟨rfl, hb1⟩; have HB1 := Lib.hid (HW.out.trans (hb1.mono HW.out.size)); have HV1 := Lib.hid (HV.out.on hb1); obtain ⟨d0, d1, d2, d3, d4, d5, d6⟩ := seven hb1; clear hb1; rw [HX.out])
    | (go_at_call 7; refine (refFault_any _ _ _ HV1.out HK.out).mono ?_; rintro e w2 ⟨rfl, hb2⟩; have HB2 := Lib.hid (HB1.out.trans (hb2.mono HB1.out.size)); clear hb2; rw [HX.out]))
  go_ret
  exact ⟨by first | rfl | simp, HB2.out⟩
end Go.Proofs.Ytjeocggocloigaa
