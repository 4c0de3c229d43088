/- GatherPuts' walk. -/
import Derived.Test.YtippenbfoaohoaaGatherPutC
import Derived.Test.YtippenbfoaohoaaGaPutQ
import Derived.Test.YtippenbfoaohoaaRefGaPut
import Derived.Test.YtippenbfoaohoaaSortI
import Derived.Test.YtippenbfoaohoaaOpenGaV
namespace Go.Proofs.Ytippenbfoaohoaa
set_option linter.unusedVariables false
open Go.RowKit P

theorem refGaPut_any : GaPutD Try.prog 16 := fun v v2 g off d fin w hv hw hlen hd hsum ho => by
  obtain ⟨s, rfl, hs⟩ := id hv.ex
  obtain ⟨A, c, rfl, hnc, hcm, hrow⟩ := id hs.ex
  obtain ⟨Ad, cd, rfl, hdc, hdm, hdn, hdr⟩ := id hd.ex
  have hF : ∀ x, faultG g = x → ∀ w', Below w.heap.size w w' → Calls Try.prog 13 #[.agg #[.int .i64 g.done, .slice A g.held.length c, .int .i64 g.final, .int .i64 g.window]] w' fun e w'' => e = .returned (.int .i64 x) ∧ Below w'.heap.size w' w'' := fun x hx w' hb => by
    subst hx
    exact refGaF_any _ g w' (hv.on hb) hw hlen
  by_cases h : faultG g = 0
  · have hok : okG g := by unfold faultG at h; split at h; assumption; cases h
    by_cases hr : 0 ≤ off ∧ off + d.length ≤ 4611686018427387903
    · exact refPut_big g A Ad c cd off d fin w hok hs hd (hF 0 h) sortInts_any hr.1 hr.2 hsum
    · have e : putG g off d fin = (ga0, 6) := by unfold putG; rw [if_neg (by simp [h]), if_pos hr]; rfl
      rw [e]
      exact refPut_range (hF 0 h) (by omega) hr
  · have e : putG g off d fin = (ga0, faultG g) := by unfold putG; rw [if_pos h]; rfl
    rw [e]
    exact refPut_fault (hF _ rfl) h
theorem gatherPuts_walk (v : Value) (g : Ga) (off : Int) (A : Option Addr) (n c : Nat) (z : List Int) (fin : Bool) (w : World) (hv : GaVal w w.heap.size v g) (hw : GaWf g) (hl : ∀ p ∈ g.held, p.2.length ≤ 140737488351232) (ho : -9223372036854775808 ≤ off ∧ off ≤ 9223372036854775807) (hz : IsRow .u8 w A n c z) (hb : n + sumP g.held ≤ 1048576) :
    Calls Try.prog 4 #[v, .int .i64 off, .slice A n c, .bool fin] w fun e w' => e = .returned (.bool true) ∧ Below w.heap.size w w' := by
  have hn : A = none → c = 0 := fun e => by
    rcases hz with ⟨_, _, e, _⟩ | ⟨x, h, _⟩
    · exact e
    · rw [e] at h; cases h
  obtain ⟨h1, h2, h3, h4⟩ := InRow.brow (show InRow w A n c z from hz)
  exact gatherPuts_core gaPut_any refGaPut_any v _ g off _ fin w hv hw (fun p hp => Nat.le_trans (hl p hp) (by decide)) ⟨A, c, by rw [h2], by omega, h4, hn, h1⟩ (by rw [h2]; exact hb) ho
end Go.Proofs.Ytippenbfoaohoaa
