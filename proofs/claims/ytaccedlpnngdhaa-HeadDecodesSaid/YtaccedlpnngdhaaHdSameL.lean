/- The exact texts' 'sameHead': two heads that read the same are the same. -/
import Derived.Test.YtaccedlpnngdhaaHdVal
import Derived.Test.YtaccedlpnngdhaaMem
import Derived.Test.YtaccedlpnngdhaaSame
namespace Go.Proofs.Ytaccedlpnngdhaa
set_option linter.unusedVariables false
open Go.RowKit P

set_option maxHeartbeats 400000 in
theorem lsameHd_eq (v v' : Value) (h : Hd) (w : World) (hv : HdVal w w.heap.size v h) (hv' : HdVal w w.heap.size v' h) :
    Calls Try.prog 6 #[v, v'] w fun e w' => e = .returned (.bool true) ∧ Below w.heap.size w w' := by
  obtain ⟨d, rfl, hd⟩ := hv.ex
  obtain ⟨A, c, rfl, hc, hm, hn, hr⟩ := hd.ex
  obtain ⟨d', rfl, hd'⟩ := hv'.ex
  obtain ⟨A', c', rfl, hc', hm', hn', hr'⟩ := hd'.ex
  have HW := Lib.hid (((Below.refl w.heap.size w).alloc (Nat.le_refl _) (.cells #[.int .i64 h.kind, .int .i64 h.to, .int .i64 h.frm, .slice A h.tok.length c, .int .i64 h.num, .int .i64 h.size] 24)).alloc (by simp) (.cells #[.int .i64 h.kind, .int .i64 h.to, .int .i64 h.frm, .slice A' h.tok.length c', .int .i64 h.num, .int .i64 h.size] 24))
  have D0 := Lib.hid (hr.on HW.out)
  have D1 := Lib.hid (hr'.on HW.out)
  clear hv hd hv' hd' hr hr' hn hn'
  obtain ⟨kd, to, fr, tok, num, size⟩ := h
  simp only at *
  go_enter Try.func6, Try.ntmps6
  go_wp2_with (go_at_call 11; refine (sameBytes_eq _ _ _ _ _ _ _ _ _ tok D0.out D1.out rfl rfl).mono ?_; rintro e w' ⟨rfl, rfl⟩)
  go_ret
  exact ⟨by simp, HW.out⟩
end Go.Proofs.Ytaccedlpnngdhaa
