/- Contracts of the project's lock.Mix and lock.Key. -/
import Derived.Test.YtgfbonfoimiknaaRefMix
namespace Go.Proofs.Ytgfbonfoimiknaa
set_option linter.unusedVariables false
open Go.RowKit P

theorem mix_any (x : Nat) (hx : x < 18446744073709551616) (w : World) :
    Calls Try.prog 98 #[.int .u64 x] w fun e w' => e = .returned (.int .u64 (mx x)) ∧ Below w.heap.size w w' := by
  have HM := Lib.hid (mx_walk x hx)
  have hx' : (x : Int) ≤ 18446744073709551615 := by omega
  clear hx
  go_enter Try.func98, Try.ntmps98
  go_wp2
  go_ret
  exact ⟨congrArg (fun n => Ending.returned (.int .u64 n)) HM.out, Below.refl _ _⟩
theorem key_any (s : Nat) (hs : s < 18446744073709551616) (n : Int) (w : World) :
    Calls Try.prog 97 #[.int .u64 s, .int .i64 n] w fun e w' => e = .returned (.int .u64 (keyN s n)) ∧ Below w.heap.size w w' := by
  have hwd : IntKind.u64.wrap n = (wd n : Int) := by rw [IntKind.wrap_u64]; unfold wd; omega
  have hxo : bits .xor .u64 (mx s : Int) (wd n : Int) = ((wd n ^^^ mx s : Nat) : Int) := by rw [Nat.xor_comm]; exact bits_xor_u64_nat _ _ (mx_lt s) (wd_lt n)
  have hq : wd n ^^^ mx s < 18446744073709551616 := xor_lt (wd_lt n) (mx_lt s)
  rw [show keyN s n = mx (wd n ^^^ mx s) from rfl]
  generalize wd n ^^^ mx s = q at *
  generalize wd n = a at *
  have HS := Lib.hid hs
  have HQ := Lib.hid hq
  have HMS : Hid (∀ w, Calls Try.prog 98 #[.int .u64 s] w fun e w' => e = .returned (.int .u64 (mx s)) ∧ Below w.heap.size w w') := Lib.hid (fun w => mix_any s hs w)
  generalize mx s = t at *
  clear hs hq
  go_enter Try.func97, Try.ntmps97
  go_wp2_with fail
  refine (HMS.out _).mono ?_
  rintro e w1 ⟨rfl, b1⟩
  go_wp2_with fail
  refine (mix_any q HQ.out _).mono ?_
  rintro e w2 ⟨rfl, b2⟩
  go_wp2_with fail
  go_ret
  exact ⟨rfl, b1.trans (b2.mono b1.size)⟩
end Go.Proofs.Ytgfbonfoimiknaa
