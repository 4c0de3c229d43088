/- math/bits.TrailingZeros at the four sizes of a number, off the laid table's cells. -/
import Derived.Test.YtaccedlpnngdhaaDoorVar
namespace Go.Proofs.YtaccedlpnngdhaaDoor
set_option linter.unusedVariables false
open Go.RowKit P

/-- the cells of the listed table that the four sizes lead to -/
structure Tab (w : World) : Prop where
  c0 : w.cell? ⟨1, 0, none⟩ = some (.int .u8 0)
  c1 : w.cell? ⟨1, 1, none⟩ = some (.int .u8 1)
  c3 : w.cell? ⟨1, 3, none⟩ = some (.int .u8 2)
  c7 : w.cell? ⟨1, 7, none⟩ = some (.int .u8 3)
  lt : 1 < w.heap.size

theorem Tab.below {w w' : World} (h : Tab w) (hb : Below w.heap.size w w') : Tab w' :=
  have k : ∀ o, w'.cell? ⟨1, o, none⟩ = w.cell? ⟨1, o, none⟩ := fun o => hb.cell (p := ⟨1, o, none⟩) h.lt
  ⟨(k _).trans h.c0, (k _).trans h.c1, (k _).trans h.c3, (k _).trans h.c7, Nat.lt_of_lt_of_le h.lt hb.size⟩

theorem tz_any (k x t : Nat) (hc : (k = 1 ∧ x = 0 ∧ t = 0) ∨ (k = 2 ∧ x = 1 ∧ t = 1) ∨ (k = 4 ∧ x = 3 ∧ t = 2) ∨ (k = 8 ∧ x = 7 ∧ t = 3)) (w : World) (h : w.cell? ⟨1, x, none⟩ = some (.int .u8 t)) :
    Calls Tryd.prog 26 #[.int .u64 k] w fun e w' => e = .returned (.int .i64 t) ∧ w = w' := by
  have e1 : bits .and .u64 1 (IntKind.u64.wrap (-1)) = 1 := by kernel_rfl
  have e2 : bits .and .u64 2 (IntKind.u64.wrap (-2)) = 2 := by kernel_rfl
  have e4 : bits .and .u64 4 (IntKind.u64.wrap (-4)) = 4 := by kernel_rfl
  have e8 : bits .and .u64 8 (IntKind.u64.wrap (-8)) = 8 := by kernel_rfl
  rcases hc with ⟨rfl, rfl, rfl⟩ | ⟨rfl, rfl, rfl⟩ | ⟨rfl, rfl, rfl⟩ | ⟨rfl, rfl, rfl⟩
  all_goals
    go_enter Tryd.func26, Tryd.ntmps26
    go_wp2
    go_ret
    exact ⟨rfl, rfl⟩
theorem tz1 (w : World) (h : Tab w) : Calls Tryd.prog 26 #[.int .u64 1] w fun e w' => e = .returned (.int .i64 0) ∧ w = w' := tz_any 1 0 0 (by omega) w h.c0
theorem tz2 (w : World) (h : Tab w) : Calls Tryd.prog 26 #[.int .u64 2] w fun e w' => e = .returned (.int .i64 1) ∧ w = w' := tz_any 2 1 1 (by omega) w h.c1
theorem tz4 (w : World) (h : Tab w) : Calls Tryd.prog 26 #[.int .u64 4] w fun e w' => e = .returned (.int .i64 2) ∧ w = w' := tz_any 4 3 2 (by omega) w h.c3
theorem tz8 (w : World) (h : Tab w) : Calls Tryd.prog 26 #[.int .u64 8] w fun e w' => e = .returned (.int .i64 3) ∧ w = w' := tz_any 8 7 3 (by omega) w h.c7
theorem Tab.alloc {w : World} (h : Tab w) (o : Obj) : Tab (w.alloc o) := h.below ((Below.refl _ _).alloc (Nat.le_refl _) _)
theorem Tab.drew {w : World} (h : Tab w) : Tab w.drew := h.below (Below.refl _ _).drew
end Go.Proofs.YtaccedlpnngdhaaDoor
