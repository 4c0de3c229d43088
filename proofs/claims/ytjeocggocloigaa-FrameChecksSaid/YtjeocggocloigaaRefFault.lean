/- The document's answers on frames: FrameFault. -/
import Derived.Test.YtjeocggocloigaaRefHas
import Derived.Test.YtjeocggocloigaaRefUp
import Derived.Test.YtjeocggocloigaaFrRef
import Derived.Test.YtjeocggocloigaaFrForm
import Derived.Deep.RegionWith
import Derived.Deep.LoopGhost
import Derived.Deep.RegionHeld3
namespace Go.Proofs.Ytjeocggocloigaa
set_option linter.unusedVariables false
open Go.RowKit P

theorem refHas_some {k : Int} {s : List Int} (hp : partsOf k = some s) (hk : (Lit.int .i64 k).wf = true) (w : World) :
    Calls Try.prog 17 #[.int .i64 k] w fun e w' => e = .returned (.tuple #[.string (strOfNums s), .bool true]) ∧ Below w.heap.size w w' := by
  have := refHas_any k hk w
  rw [hp] at this
  exact this
theorem refHas_none {k : Int} (hp : partsOf k = none) (hk : (Lit.int .i64 k).wf = true) (w : World) :
    Calls Try.prog 17 #[.int .i64 k] w fun e w' => e = .returned (.tuple #[.string ⟨#[]⟩, .bool false]) ∧ Below w.heap.size w w' := by
  have := refHas_any k hk w
  rw [hp] at this
  exact this
theorem parts_byt {k : Int} {s : List Int} (hp : partsOf k = some s) : Byt s ∧ s.length ≤ 9 := by
  rcases parts_cases hp with ⟨rfl, _⟩ | ⟨rfl, _⟩ | ⟨rfl, _⟩ | ⟨rfl, _⟩ | ⟨rfl, _⟩ | ⟨rfl, _⟩ | ⟨rfl, _⟩ | ⟨rfl, _⟩ | ⟨rfl, _⟩ | ⟨rfl, _⟩ | ⟨rfl, _⟩ <;> exact ⟨byt_all (by decide), by decide⟩
theorem refInS {k : Int} {s : List Int} (hp : partsOf k = some s) (S : ByteArray) (hS : S = strOfNums s) (c : Int) (w : World) : Calls Try.prog 18 #[.string S, .int .u8 c] w fun e w' => e = .returned (.bool (inS s c)) ∧ w = w' := refIn_any S s hS (parts_byt hp).1 (parts_byt hp).2 c w
theorem upto_any (n m : Int) (w : World) :
    Calls Try.prog 19 #[.int .i64 n, .int .i64 m] w fun e w' => e = .returned (.bool (upB n m)) ∧ w = w' := by
  unfold upB
  by_cases h : 0 ≤ n ∧ n ≤ m
  · refine (upto_yes n m h.1 h.2 w).mono ?_
    rintro e w' ⟨rfl, rfl⟩
    exact ⟨by simp [h.1, h.2], rfl⟩
  · refine (upto_no n m (by omega) w).mono ?_
    rintro e w' ⟨rfl, rfl⟩
    refine ⟨?_, rfl⟩
    by_cases h0 : 0 ≤ n
    · have : ¬ n ≤ m := fun h1 => h ⟨h0, h1⟩
      simp [this]
    · simp [h0]
theorem isrange_any (lo hi : Int) (w : World) :
    Calls Try.prog 20 #[.agg #[.int .i64 lo, .int .i64 hi]] w fun e w' => e = .returned (.bool (decide (okR (lo, hi)))) ∧ Below w.heap.size w w' := by
  by_cases h : okR (lo, hi)
  · rw [decide_eq_true h]; exact isrange_yes lo hi h w
  · rw [decide_eq_false h]; exact isrange_no lo hi h w

end Go.Proofs.Ytjeocggocloigaa
