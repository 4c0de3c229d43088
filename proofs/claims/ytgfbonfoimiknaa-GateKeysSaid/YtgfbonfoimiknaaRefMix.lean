/- The document's answers on words: Mixed, KeyOf. -/
import Derived.Test.YtgfbonfoimiknaaLkMath
import Derived.Test.YtgfbonfoimiknaaGrpA
import Derived.Test.YtgfbonfoimiknaaRows
import Derived.WalkLawsBesides
import Derived.WalkSpells
import Derived.Outline
import Derived.Handy
import Derived.Deep.QuietTactic
import Derived.BigQuiet
import Derived.Below
namespace Go.Proofs.Ytgfbonfoimiknaa
set_option linter.unusedVariables false
open Go.RowKit P

/-- what the walk leaves of a word that is mixed -/
theorem mx_walk (x : Nat) (hx : x < 18446744073709551616) : bits .xor .u64 (IntKind.u64.wrap (bits .xor .u64 (IntKind.u64.wrap (bits .xor .u64 (IntKind.u64.wrap ((x : Int) + 11400714819323198485)) (IntKind.u64.wrap ((x : Int) + 11400714819323198485) / 1073741824) * 13787848793156543929)) (IntKind.u64.wrap (bits .xor .u64 (IntKind.u64.wrap ((x : Int) + 11400714819323198485)) (IntKind.u64.wrap ((x : Int) + 11400714819323198485) / 1073741824) * 13787848793156543929) / 134217728) * 10723151780598845931))
    (IntKind.u64.wrap (bits .xor .u64 (IntKind.u64.wrap (bits .xor .u64 (IntKind.u64.wrap ((x : Int) + 11400714819323198485)) (IntKind.u64.wrap ((x : Int) + 11400714819323198485) / 1073741824) * 13787848793156543929)) (IntKind.u64.wrap (bits .xor .u64 (IntKind.u64.wrap ((x : Int) + 11400714819323198485)) (IntKind.u64.wrap ((x : Int) + 11400714819323198485) / 1073741824) * 13787848793156543929) / 134217728) * 10723151780598845931) / 2147483648) = (mx x : Int) := by
  have l1 : mxA x < 18446744073709551616 := Nat.mod_lt _ (by decide)
  have l2 : mxB (mxA x) < 18446744073709551616 := Nat.mod_lt _ (by decide)
  have l3 : mxC (mxB (mxA x)) < 18446744073709551616 := Nat.mod_lt _ (by decide)
  have a : IntKind.u64.wrap ((x : Int) + 11400714819323198485) = (mxA x : Int) := by rw [IntKind.wrap_u64]; unfold mxA; omega
  rw [a]
  have b : IntKind.u64.wrap (bits .xor .u64 (mxA x : Int) ((mxA x : Int) / 1073741824) * 13787848793156543929) = (mxB (mxA x) : Int) := mixStep_u64 (mxA x) 1073741824 13787848793156543929 l1
  rw [b]
  have c : IntKind.u64.wrap (bits .xor .u64 (mxB (mxA x) : Int) ((mxB (mxA x) : Int) / 134217728) * 10723151780598845931) = (mxC (mxB (mxA x)) : Int) := mixStep_u64 (mxB (mxA x)) 134217728 10723151780598845931 l2
  rw [c]
  exact xorShift_u64 (mxC (mxB (mxA x))) 2147483648 l3

theorem refMix_any (x : Nat) (hx : x < 18446744073709551616) (w : World) :
    Calls Try.prog 100 #[.int .u64 x] w fun e w' => e = .returned (.int .u64 (mx x)) ∧ Below w.heap.size w w' := by
  have HM := Lib.hid (mx_walk x hx)
  have hx' : (x : Int) ≤ 18446744073709551615 := by omega
  clear hx
  go_enter Try.func100, Try.ntmps100
  go_wp2
  go_rounds 4
  go_ret
  exact ⟨congrArg (fun n => Ending.returned (.int .u64 n)) HM.out, (Below.refl _ _).alloc (Nat.le_refl _) _⟩
theorem refKey_any (s : Nat) (hs : s < 18446744073709551616) (n : Int) (w : World) :
    Calls Try.prog 99 #[.int .u64 s, .int .i64 n] w fun e w' => e = .returned (.int .u64 (keyN s n)) ∧ Below w.heap.size w w' := by
  have hwd : IntKind.u64.wrap n = (wd n : Int) := by rw [IntKind.wrap_u64]; unfold wd; omega
  have hxo : bits .xor .u64 (wd n : Int) (mx s : Int) = ((wd n ^^^ mx s : Nat) : Int) := bits_xor_u64_nat _ _ (wd_lt n) (mx_lt s)
  have hq : wd n ^^^ mx s < 18446744073709551616 := xor_lt (wd_lt n) (mx_lt s)
  rw [show keyN s n = mx (wd n ^^^ mx s) from rfl]
  generalize wd n ^^^ mx s = q at *
  generalize wd n = a at *
  have HS := Lib.hid hs
  have HQ := Lib.hid hq
  have HMS : Hid (∀ w, Calls Try.prog 100 #[.int .u64 s] w fun e w' => e = .returned (.int .u64 (mx s)) ∧ Below w.heap.size w w') := Lib.hid (fun w => refMix_any s hs w)
  generalize mx s = t at *
  clear hs hq
  go_enter Try.func99, Try.ntmps99
  go_wp2_with fail
  refine (HMS.out _).mono ?_
  rintro e w1 ⟨rfl, b1⟩
  go_wp2_with fail
  refine (refMix_any q HQ.out _).mono ?_
  rintro e w2 ⟨rfl, b2⟩
  go_wp2_with fail
  go_ret
  exact ⟨rfl, b1.trans (b2.mono b1.size)⟩
end Go.Proofs.Ytgfbonfoimiknaa
