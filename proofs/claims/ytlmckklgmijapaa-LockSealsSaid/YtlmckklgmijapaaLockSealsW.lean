/- The walks of LockSeals and LockOpens. -/
import Derived.Test.YtlmckklgmijapaaLockSealsC
import Derived.Test.YtlmckklgmijapaaLkOpen
import Derived.Test.YtlmckklgmijapaaRefLock
namespace Go.Proofs.Ytlmckklgmijapaa
set_option linter.unusedVariables false
open Go.RowKit P

theorem lockSeals_walk (x n : Int) (x0 : 0 ≤ x) (x1 : x ≤ 18446744073709551615) (A1 A2 : Option Addr) (n1 c1 n2 c2 : Nat) (z1 z2 : List Int) (W : World) (h1 : IsRow .u8 W A1 n1 c1 z1) (r1 : c1 * 1 ≤ 140737488351232) (h2 : IsRow .u8 W A2 n2 c2 z2) (r2 : c2 * 1 ≤ 140737488351232) :
    Calls Try.prog 4 #[.int .u64 x, .int .i64 n, .slice A1 n1 c1, .slice A2 n2 c2] W fun e w' => e = .returned (.bool true) ∧ Below W.heap.size W w' :=
  lockSeals_core (fun key n A1 A2 n1 c1 n2 c2 hd tx w hk h1 l1 lc1 m1 e1 b1 h2 l2 lc2 m2 e2 b2 => by
      subst l1 l2
      refine (seal_any key n _ _ hd tx w hk ⟨_, _, rfl, lc1, m1, e1, h1⟩ (by omega) ⟨_, _, rfl, lc2, m2, e2, h2⟩ (by omega)).mono ?_
      rintro e w' ⟨hb, d, rfl, ho⟩
      exact ⟨hb, d, rfl, own_bsl ho (seal_byt key n hd tx h2.1)⟩)
    (fun key n hd tx w hk h1 h2 l1 l2 => refLocked_any key hk n hd tx h1 h2 l1 l2 w) x n x0 x1 A1 A2 n1 c1 n2 c2 z1 z2 W h1 r1 h2 r2
theorem lockOpens_walk (x n : Int) (x0 : 0 ≤ x) (x1 : x ≤ 18446744073709551615) (A1 A2 : Option Addr) (n1 c1 n2 c2 : Nat) (z1 z2 : List Int) (W : World) (h1 : IsRow .u8 W A1 n1 c1 z1) (r1 : c1 * 1 ≤ 140737488351232) (h2 : IsRow .u8 W A2 n2 c2 z2) (r2 : c2 * 1 ≤ 140737488351232) :
    Calls Try.prog 5 #[.int .u64 x, .int .i64 n, .slice A1 n1 c1, .slice A2 n2 c2] W fun e w' => e = .returned (.bool true) ∧ Below W.heap.size W w' :=
  lockOpens_core (fun key n A1 A2 n1 c1 n2 c2 hd tx w hk h1 l1 lc1 m1 e1 b1 h2 l2 lc2 m2 e2 b2 => by
      subst l1 l2
      exact open_any key n _ _ hd tx w hk ⟨_, _, rfl, lc1, m1, e1, h1⟩ (by omega) ⟨_, _, rfl, lc2, m2, e2, h2⟩ (by omega))
    (fun key n hd tx w hk h1 h2 l1 l2 => refUnlocked_any key hk n hd tx h1 h2 l1 l2 w) x n x0 x1 A1 A2 n1 c1 n2 c2 z1 z2 W h1 r1 h2 r2
end Go.Proofs.Ytlmckklgmijapaa
