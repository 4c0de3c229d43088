/- The document's answer on bytes that a head begins with: HeadOf, way by way. -/
import Derived.Test.YtaccedlpnngdhaaVarOf
import Derived.Test.YtaccedlpnngdhaaHdVal
import Derived.Test.YtaccedlpnngdhaaMem
import Derived.Test.YtaccedlpnngdhaaConvS
import Derived.Deep.RegionWith
import Derived.RegionTactic
namespace Go.Proofs.Ytaccedlpnngdhaa
set_option linter.unusedVariables false
open Go.RowKit P

/-- between the steps: the result's variable (still zero), the head's variable -/
structure HoAt (w : World) (cs : Array Value) (wr : World) : Prop where
  be : Below w.heap.size w wr
  z : wr.heap[w.heap.size]? = some (.cells #[.int .i64 0, .int .i64 0, .int .i64 0, .slice none 0 0, .int .i64 0, .int .i64 0] 24 (0, 0))
  f : wr.heap[w.heap.size + 1]? = some (.cells cs 24 (0, 0))
theorem HoAt.start (w : World) (cs : Array Value) : HoAt w cs ((w.alloc (.cells #[.int .i64 0, .int .i64 0, .int .i64 0, .slice none 0 0, .int .i64 0, .int .i64 0] 24)).alloc (.cells cs 24)) := by
  have s1 : (w.alloc (.cells #[.int .i64 0, .int .i64 0, .int .i64 0, .slice none 0 0, .int .i64 0, .int .i64 0] 24)).heap.size = w.heap.size + 1 := by simp
  have h2 := heap_alloc_new (w.alloc (.cells #[.int .i64 0, .int .i64 0, .int .i64 0, .slice none 0 0, .int .i64 0, .int .i64 0] 24)) (.cells cs 24)
  rw [s1] at h2
  exact ⟨((Below.refl _ _).alloc (Nat.le_refl _) _).alloc (by simp) _, (Below.heap_alloc _ _ _ (by rw [s1]; omega)).trans (heap_alloc_new w _), h2⟩
theorem HoAt.drew {w wr : World} {cs : Array Value} (h : HoAt w cs wr) : HoAt w cs wr.drew := ⟨h.be.drew, h.z, h.f⟩
theorem HoAt.on {w wr w' : World} {cs : Array Value} (h : HoAt w cs wr) (hb : Below wr.heap.size wr w') : HoAt w cs w' :=
  ⟨h.be.trans (hb.mono h.be.size), (hb.block _ (lt_of_block h.z)).trans h.z, (hb.block _ (lt_of_block h.f)).trans h.f⟩
theorem HoAt.err {w wr w' : World} {cs : Array Value} (h : HoAt w cs wr) (g : wr.grownBy w' (some w.heap.size)) : Below w.heap.size w w' := gr_from h.be h.be.size (Nat.le_refl _) g
theorem HoAt.set {w wr : World} {cs : Array Value} (h : HoAt w cs wr) (i : Nat) (v : Value) : HoAt w (cs.setIfInBounds i v) (wr.setCell ⟨w.heap.size + 1, i, none⟩ v) :=
  have g := gr_set wr (w.heap.size + 1) i v
  ⟨gr_from h.be h.be.size (by omega) g, (g.block _ (lt_of_block h.z) (by simp)).trans h.z, bk_set h.f i v⟩

section
variable {S : ByteArray} {z : Int} {w : World}
theorem refHdOf_empty (h : S.toList.isEmpty = true) :
    Calls Try.prog 5 #[.string S] w fun e w' => e = .returned (.tuple #[.agg #[.int .i64 0, .int .i64 0, .int .i64 0, .slice none 0 0, .int .i64 0, .int .i64 0], .int .i64 0, .int .i64 4]) ∧ Below w.heap.size w w' := by
  go_enter Try.func5, Try.ntmps5
  go_wp2
  refine bodyPost_ret (by simp [results, Try.results5, go_sem]; try rfl) rfl ?_
  exact ⟨rfl, by go_grown⟩
theorem refHdOf_none (h : S.toList.isEmpty = false) (h0 : 0 < S.size) (hx : ((S[0]'h0).toNat : Int) = z) (hz : z < 64 ∨ 68 ≤ z ∧ z < 192 ∨ 196 ≤ z ∧ z < 240 ∨ 240 < z) :
    Calls Try.prog 5 #[.string S] w fun e w' => e = .returned (.tuple #[.agg #[.int .i64 0, .int .i64 0, .int .i64 0, .slice none 0 0, .int .i64 0, .int .i64 0], .int .i64 0, .int .i64 2]) ∧ Below w.heap.size w w' := by
  rcases hz with a | ⟨a, b⟩ | ⟨a, b⟩ | a
  all_goals
    go_enter Try.func5, Try.ntmps5
    go_wp2
    refine bodyPost_ret (by simp [results, Try.results5, go_sem]; try rfl) rfl ?_
    exact ⟨rfl, by go_grown⟩
theorem refHdOf_short1 (h : S.toList.isEmpty = false) (h0 : 0 < S.size) (hx : ((S[0]'h0).toNat : Int) = z) (a : 64 ≤ z) (b : z < 68) (hn : S.size < 2) :
    Calls Try.prog 5 #[.string S] w fun e w' => e = .returned (.tuple #[.agg #[.int .i64 0, .int .i64 0, .int .i64 0, .slice none 0 0, .int .i64 0, .int .i64 0], .int .i64 0, .int .i64 4]) ∧ Below w.heap.size w w' := by
  go_enter Try.func5, Try.ntmps5
  go_wp2
  refine bodyPost_ret (by simp [results, Try.results5, go_sem]; try rfl) rfl ?_
  exact ⟨rfl, by go_grown⟩
theorem refHdOf_short2 {y : Int} (h : S.toList.isEmpty = false) (h0 : 0 < S.size) (hx : ((S[0]'h0).toNat : Int) = z) (a : 64 ≤ z) (b : z < 68) (h1 : 1 < S.size) (hy : ((S[1]'h1).toNat : Int) = y) (y0 : 0 ≤ y) (y1 : y ≤ 255) (hn : (S.size : Int) < 2 + (z - 63)) :
    Calls Try.prog 5 #[.string S] w fun e w' => e = .returned (.tuple #[.agg #[.int .i64 0, .int .i64 0, .int .i64 0, .slice none 0 0, .int .i64 0, .int .i64 0], .int .i64 0, .int .i64 4]) ∧ Below w.heap.size w w' := by
  go_enter Try.func5, Try.ntmps5
  go_wp2
  refine bodyPost_ret (by simp [results, Try.results5, go_sem]; try rfl) rfl ?_
  exact ⟨rfl, by go_grown⟩
theorem refHdOf_short {y v : Int} {k : Nat} (h : S.toList.isEmpty = false) (h0 : 0 < S.size) (hx : ((S[0]'h0).toNat : Int) = z) (a : 64 ≤ z) (b : z < 68) (h1 : 1 < S.size) (hy : ((S[1]'h1).toNat : Int) = y) (y0 : 0 ≤ y) (y1 : y ≤ 255) (hk : z - 63 = k) (hn : 2 + (k : Int) ≤ (S.size : Int)) (v0 : 0 ≤ v) (v1 : v ≤ 4294967295)
    (HN : Hid (∀ w, Calls Try.prog 10 #[.string (S.extract 2 (2 + k))] w fun e w' => e = .returned (.int .u64 v) ∧ w = w')) :
    Calls Try.prog 5 #[.string S] w fun e w' => e = .returned (.tuple #[.agg #[.int .i64 2, .int .i64 y, .int .i64 0, .slice none 0 0, .int .i64 v, .int .i64 k], .int .i64 (2 + (k : Int)), .int .i64 0]) ∧ Below w.heap.size w w' := by
  go_enter Try.func5, Try.ntmps5
  go_wp2_with (go_at_call 10; refine (HN.out _).mono ?_; rintro e w' ⟨rfl, rfl⟩)
  go_region
  go_wp2
  refine bodyPost_ret (by simp [results, Try.results5, go_sem]; try rfl) rfl ?_
  exact ⟨rfl, by go_grown⟩
end
end Go.Proofs.Ytaccedlpnngdhaa
