/- A space's cells. -/
import Derived.Test.YtnccibaifffhhaaGrpSa
namespace Go.Proofs.Ytnccibaifffhhaa
set_option linter.unusedVariables false
open Go.RowKit P

/-- a space's cells in a block -/
theorem SpVal.cells {w : World} {B : Nat} {v : Value} {s : Sp} (h : SpVal w B v s) : ∃ (Aa Ah Ak : Option Addr) (ca ch ck : Nat), v = .agg #[.int .i64 s.next, .slice Aa s.sent.length ca, .int .i64 s.top, .slice Ah s.heard.length ch, .slice Ak s.skip.length ck] := by
  obtain ⟨a, h, kk, rfl, ha, hh, hk⟩ := h.ex
  obtain ⟨Aa, ca, csa, rfl, _, _, _, _⟩ := ha.ex
  obtain ⟨Ah, ch, rfl, _, _, _⟩ := hh.ex
  obtain ⟨Ak, ck, rfl, _, _, _⟩ := hk.ex
  exact ⟨Aa, Ah, Ak, ca, ch, ck, rfl⟩
end Go.Proofs.Ytnccibaifffhhaa
