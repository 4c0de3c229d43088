/- packno.Whole and the reference's WholeNumber, by a row that reads. -/
import Derived.Test.YtadeakdfopdblaaWhole
import Derived.Test.YtadeakdfopdblaaRefNum
import Derived.Test.YtadeakdfopdblaaPackMath
namespace Go.Proofs.Ytadeakdfopdblaa
set_option linter.unusedVariables false
open Go.RowKit P

theorem whole_in (t : Int) (A : Option Addr) (n cap B : Nat) (zs : List Int) (w : World) (h : BRow w B A zs) (hzn : zs.length = n) (hk : n = 1 ∨ n = 2 ∨ n = 3 ∨ n = 4) (t0 : -1 ≤ t) (t1 : t ≤ 4611686018427387903) (hl : n ≤ cap) (hm : cap ≤ maxLen) :
    Calls Try.prog 11 #[.int .i64 t, .slice A n cap] w fun e w' => e = .returned (.tuple #[.int .i64 (wholeV t (winOf n) (beFrom 0 zs)), .int .i64 0]) ∧ w = w' := by
  obtain ⟨b, off, rfl, _, hc⟩ := h.2 (by omega)
  rcases hk with rfl | rfl | rfl | rfl
  · match zs, hzn with
    | [z0], _ => exact whole_1 t b off cap z0 w t0 t1 (h.1 0) (hc 0 (by simp)) hl hm
  · match zs, hzn with
    | [z0, z1], _ => exact whole_2 t b off cap z0 z1 w t0 t1 (h.1 0) (h.1 1) (hc 0 (by simp)) (hc 1 (by simp)) hl hm
  · match zs, hzn with
    | [z0, z1, z2], _ => exact whole_3 t b off cap z0 z1 z2 w t0 t1 (h.1 0) (h.1 1) (h.1 2) (hc 0 (by simp)) (hc 1 (by simp)) (hc 2 (by simp)) hl hm
  · match zs, hzn with
    | [z0, z1, z2, z3], _ => exact whole_4 t b off cap z0 z1 z2 z3 w t0 t1 (h.1 0) (h.1 1) (h.1 2) (h.1 3) (hc 0 (by simp)) (hc 1 (by simp)) (hc 2 (by simp)) (hc 3 (by simp)) hl hm
end Go.Proofs.Ytadeakdfopdblaa
