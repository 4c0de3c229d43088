/- The texts' own 'sameHead': two heads that read the same are the same. -/
import Derived.Test.YtaccedlpnngdhaaDoorHdVal
import Derived.Test.YtaccedlpnngdhaaDoorMem
import Derived.Test.YtaccedlpnngdhaaDoorRows
import Derived.WalkLawsBesides
import Derived.WalkSpells
import Derived.Outline
namespace Go.Proofs.YtaccedlpnngdhaaDoor
set_option linter.unusedVariables false
open Go.RowKit P

set_option maxHeartbeats 400000 in
theorem sameHdN_eq (v v' : Value) (h : Hd) (w : World) (hv : HdVal w w.heap.size v h) (hv' : HdVal w w.heap.size v' h) :
    Calls Tryd.prog 14 #[v, v'] w fun e w' => e = .returned (.bool true) ∧ Below w.heap.size w w' := by
  obtain ⟨d, rfl, hd⟩ := hv.ex
  obtain ⟨A, c, rfl, hc, hm, hn, hr⟩ := hd.ex
  obtain ⟨d', rfl, hd'⟩ := hv'.ex
  obtain ⟨A', c', rfl, hc', hm', hn', hr'⟩ := hd'.ex
  have HW := Lib.hid (((Below.refl w.heap.size w).alloc (Nat.le_refl _) (.cells #[.int .i64 h.kind, .int .i64 h.to, .int .i64 h.frm, .slice A h.tok.length c, .int .i64 h.num, .int .i64 h.size] 24)).alloc (by simp) (.cells #[.int .i64 h.kind, .int .i64 h.to, .int .i64 h.frm, .slice A' h.tok.length c', .int .i64 h.num, .int .i64 h.size] 24))
  have s1 := run_str (P := Tryd.prog) (hr.on HW.out) rfl 22 9 5 c Tryd.underlying22 Tryd.underlying5 Tryd.underlying9
  have s2 := run_str (P := Tryd.prog) (hr'.on HW.out) rfl 22 9 5 c' Tryd.underlying22 Tryd.underlying5 Tryd.underlying9
  clear hv hd hv' hd' hr hr' hn hn'
  obtain ⟨kd, to, fr, tok, num, size⟩ := h
  simp only at *
  go_enter Tryd.func14, Tryd.ntmps14
  go_wp2
  go_ret
  exact ⟨by simp, HW.out⟩
end Go.Proofs.YtaccedlpnngdhaaDoor
