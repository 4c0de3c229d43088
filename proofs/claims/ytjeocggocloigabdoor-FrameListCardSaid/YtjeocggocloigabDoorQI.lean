/- Texts of the proofs, joined. -/
import Derived.Test.YtjeocggocloigabDoorQA
import Derived.Test.YtjeocggocloigabDoorRows
import Derived.WalkKit
import Derived.Handy
import Derived.Lib.Hide
import Derived.WalkLawsBesides
import Derived.WalkSpells
import Derived.Outline
import Derived.Deep.QuietTactic
import Derived.BigQuiet
import Derived.StillTailTactics
import Derived.RegionTactic
import Derived.Deep.RegionWith
import Derived.Test.YtjeocggocloigabDoorQC
import Derived.Deep.LoopGhost
import Derived.Deep.RegionLaw
import Derived.Deep.RegionHeldLaw
/- What varint.Size answers, and the mask of the verifier's texts: contracts by a walk of the Go text. -/
namespace Go.Proofs.YtjeocggocloigabDoor
set_option linter.unusedVariables false
open Go.RowKit P

theorem number_any (n : Int) (w : World) : Calls Tryd.prog 14 #[.int .i64 n] w fun e w' => e = .returned (.int .i64 (num n)) ∧ w = w' := by
  have hn := and_num n
  go_enter Tryd.func14, Tryd.ntmps14
  go_wp2
  go_ret
  exact ⟨rfl, rfl⟩

theorem size_in (n : Int) (h0 : 0 ≤ n) (h1 : n ≤ 4611686018427387903) (w : World) :
    Calls Tryd.prog 39 #[.int .i64 n] w fun e w' => e = .returned (.tuple #[.int .i64 (sz n), .int .i64 0]) ∧ w = w' := by
  unfold sz
  by_cases a : n < 64
  · go_enter Tryd.func39, Tryd.ntmps39
    go_wp2
    go_ret2
    exact ⟨rfl, rfl⟩
  by_cases b : n < 16384
  · go_enter Tryd.func39, Tryd.ntmps39
    go_wp2
    go_ret2
    exact ⟨rfl, rfl⟩
  by_cases c : n < 1073741824
  · go_enter Tryd.func39, Tryd.ntmps39
    go_wp2
    go_ret2
    exact ⟨rfl, rfl⟩
  go_enter Tryd.func39, Tryd.ntmps39
  go_wp2
  go_ret2
  exact ⟨rfl, rfl⟩

theorem size_out (n : Int) (h : n < 0 ∨ 4611686018427387903 < n) (w : World) :
    Calls Tryd.prog 39 #[.int .i64 n] w fun e w' => e = .returned (.tuple #[.int .i64 0, .int .i64 6]) ∧ w = w' := by
  rcases h with h | h
  · go_enter Tryd.func39, Tryd.ntmps39
    go_wp2
    go_ret2
    exact ⟨rfl, rfl⟩
  · have h' : ¬ n < 0 := by omega
    go_enter Tryd.func39, Tryd.ntmps39
    go_wp2
    go_ret2
    exact ⟨rfl, rfl⟩

end Go.Proofs.YtjeocggocloigabDoor
/- math/bits.TrailingZeros at the four sizes of a number, off the laid table's cells. -/
namespace Go.Proofs.YtjeocggocloigabDoor
set_option linter.unusedVariables false
open Go.RowKit P

/-- the cells of the listed table that the four sizes lead to -/
structure Tab (w : World) : Prop where
  c0 : w.cell? ⟨1, 0, none⟩ = some (.int .u8 0)
  c1 : w.cell? ⟨1, 1, none⟩ = some (.int .u8 1)
  c3 : w.cell? ⟨1, 3, none⟩ = some (.int .u8 2)
  c7 : w.cell? ⟨1, 7, none⟩ = some (.int .u8 3)
  lt : 1 < w.heap.size

theorem Tab.below {w w' : World} (h : Tab w) (hb : Below w.heap.size w w') : Tab w' :=
  have k : ∀ o, w'.cell? ⟨1, o, none⟩ = w.cell? ⟨1, o, none⟩ := fun o => hb.cell (p := ⟨1, o, none⟩) h.lt
  ⟨(k _).trans h.c0, (k _).trans h.c1, (k _).trans h.c3, (k _).trans h.c7, Nat.lt_of_lt_of_le h.lt hb.size⟩

theorem tz_any (k x t : Nat) (hc : (k = 1 ∧ x = 0 ∧ t = 0) ∨ (k = 2 ∧ x = 1 ∧ t = 1) ∨ (k = 4 ∧ x = 3 ∧ t = 2) ∨ (k = 8 ∧ x = 7 ∧ t = 3)) (w : World) (h : w.cell? ⟨1, x, none⟩ = some (.int .u8 t)) :
    Calls Tryd.prog 40 #[.int .u64 k] w fun e w' => e = .returned (.int .i64 t) ∧ w = w' := by
  have e1 : bits .and .u64 1 (IntKind.u64.wrap (-1)) = 1 := by kernel_rfl
  have e2 : bits .and .u64 2 (IntKind.u64.wrap (-2)) = 2 := by kernel_rfl
  have e4 : bits .and .u64 4 (IntKind.u64.wrap (-4)) = 4 := by kernel_rfl
  have e8 : bits .and .u64 8 (IntKind.u64.wrap (-8)) = 8 := by kernel_rfl
  rcases hc with ⟨rfl, rfl, rfl⟩ | ⟨rfl, rfl, rfl⟩ | ⟨rfl, rfl, rfl⟩ | ⟨rfl, rfl, rfl⟩
  all_goals
    go_enter Tryd.func40, Tryd.ntmps40
    go_wp2
    go_ret
    exact ⟨rfl, rfl⟩
theorem tz1 (w : World) (h : Tab w) : Calls Tryd.prog 40 #[.int .u64 1] w fun e w' => e = .returned (.int .i64 0) ∧ w = w' := tz_any 1 0 0 (by omega) w h.c0
theorem tz2 (w : World) (h : Tab w) : Calls Tryd.prog 40 #[.int .u64 2] w fun e w' => e = .returned (.int .i64 1) ∧ w = w' := tz_any 2 1 1 (by omega) w h.c1
theorem tz4 (w : World) (h : Tab w) : Calls Tryd.prog 40 #[.int .u64 4] w fun e w' => e = .returned (.int .i64 2) ∧ w = w' := tz_any 4 3 2 (by omega) w h.c3
theorem tz8 (w : World) (h : Tab w) : Calls Tryd.prog 40 #[.int .u64 8] w fun e w' => e = .returned (.int .i64 3) ∧ w = w' := tz_any 8 7 3 (by omega) w h.c7
theorem Tab.alloc {w : World} (h : Tab w) (o : Obj) : Tab (w.alloc o) := h.below ((Below.refl _ _).alloc (Nat.le_refl _) _)
theorem Tab.drew {w : World} (h : Tab w) : Tab w.drew := h.below (Below.refl _ _).drew
end Go.Proofs.YtjeocggocloigabDoor
/- A new row of bytes by make, and what a function says that hands one on. -/
namespace Go.Proofs.YtjeocggocloigabDoor
set_option linter.unusedVariables false
open Go.RowKit P

theorem mk1 (w : World) : (Instr.makeSlice 25 (.int .i64 1) (.int .i64 1)).run Tryd.prog w = .ok (.slice (some ⟨w.heap.size, 0, none⟩) 1 1) (w.alloc (.cells #[.int .u8 0] 5)) := by kernel_rfl
theorem mk2 (w : World) : (Instr.makeSlice 25 (.int .i64 2) (.int .i64 2)).run Tryd.prog w = .ok (.slice (some ⟨w.heap.size, 0, none⟩) 2 2) (w.alloc (.cells #[.int .u8 0, .int .u8 0] 5)) := by kernel_rfl
theorem mk3 (w : World) : (Instr.makeSlice 25 (.int .i64 3) (.int .i64 3)).run Tryd.prog w = .ok (.slice (some ⟨w.heap.size, 0, none⟩) 3 3) (w.alloc (.cells #[.int .u8 0, .int .u8 0, .int .u8 0] 5)) := by kernel_rfl
theorem mk4 (w : World) : (Instr.makeSlice 25 (.int .i64 4) (.int .i64 4)).run Tryd.prog w = .ok (.slice (some ⟨w.heap.size, 0, none⟩) 4 4) (w.alloc (.cells #[.int .u8 0, .int .u8 0, .int .u8 0, .int .u8 0] 5)) := by kernel_rfl
theorem mk8 (w : World) : (Instr.makeSlice 25 (.int .i64 8) (.int .i64 8)).run Tryd.prog w = .ok (.slice (some ⟨w.heap.size, 0, none⟩) 8 8) (w.alloc (.cells #[.int .u8 0, .int .u8 0, .int .u8 0, .int .u8 0, .int .u8 0, .int .u8 0, .int .u8 0, .int .u8 0] 5)) := by kernel_rfl

def EncPost (zs : List Int) (w : World) (e : Ending) (w' : World) : Prop :=
  e = .returned (.tuple #[.slice (some ⟨w.heap.size, 0, none⟩) zs.length zs.length, .int .i64 0]) ∧ Below w.heap.size w w' ∧ w'.heap[w.heap.size]? = some (.cells (zs.map (.int .u8)).toArray 5 (0, 0))

theorem heap_new (w : World) (o : Obj) : (w.alloc o).drew.heap[w.heap.size]? = some o := by
  show (w.heap.push o)[w.heap.size]? = _
  simp

/-- EncPost, by what the caller wants of it -/
theorem EncPost.row {zs : List Int} {w w' : World} {e : Ending} (h : EncPost zs w e w') (hb : Byt zs) : BRow w' (w.heap.size + 1) (some ⟨w.heap.size, 0, none⟩) zs :=
  ⟨hb, fun _ => ⟨_, 0, rfl, by omega, fun j hj => by
    rw [cell_of_row w' w.heap.size (0 + j) _ _ _ h.2.2]
    simp [hj]⟩⟩
theorem EncPost.lt {zs : List Int} {w w' : World} {e : Ending} (h : EncPost zs w e w') : w.heap.size < w'.heap.size := by
  rcases Nat.lt_or_ge w.heap.size w'.heap.size with hlt | hge
  · exact hlt
  · have := h.2.2
    rw [Array.getElem?_eq_none hge] at this
    cases this
end Go.Proofs.YtjeocggocloigabDoor
/- varint.Encode's contract. -/
namespace Go.Proofs.YtjeocggocloigabDoor
set_option linter.unusedVariables false
open Go.RowKit P

theorem encode_1 (n : Int) (h0 : 0 ≤ n) (h1 : n < 64) (w : World) (ht : Tab w) :
    Calls Tryd.prog 31 #[.int .i64 n] w (EncPost [n] w) := by
  have hs : sz n = 1 := by unfold sz; rw [if_pos h1]
  have hmk := mk1
  have hw1 : IntKind.u64.wrap 1 = 1 := by kernel_rfl
  have hw2 : IntKind.u8.wrap 0 = 0 := by kernel_rfl
  have hor := or_top n 0 h0 h1 (by omega)
  rw [Int.add_zero] at hor
  have HT := Lib.hid ht
  clear ht
  go_enter Tryd.func31, Tryd.ntmps31
  go_wp2_with (go_at_call 39; refine (size_in _ h0 (by omega) _).mono ?_; rintro e w' ⟨rfl, rfl⟩)
  go_rounds 2
  go_region_with ((go_at_call 40; refine (tz1 _ (HT.out.alloc _).drew).mono ?_; rintro e w' ⟨rfl, rfl⟩))
  all_goals
    go_wp2
    go_ret2
    exact ⟨rfl, ((Below.refl _ _).alloc (Nat.le_refl _) _).drew, heap_new _ _⟩

theorem encode_2 (n : Int) (h0 : 64 ≤ n) (h1 : n < 16384) (w : World) (ht : Tab w) :
    Calls Tryd.prog 31 #[.int .i64 n] w (EncPost [n / 256 + 64, n % 256] w) := by
  have hs : sz n = 2 := by unfold sz; rw [if_neg (by omega), if_pos h1]
  have hmk := mk2
  have hw1 : IntKind.u64.wrap 2 = 2 := by kernel_rfl
  have hw2 : IntKind.u8.wrap 1 = 1 := by kernel_rfl
  have hw3 : IntKind.u8.wrap 64 = 64 := by kernel_rfl
  have hor := or_top (n / 256) 64 (by omega) (by omega) (by omega)
  have HT := Lib.hid ht
  clear ht
  go_enter Tryd.func31, Tryd.ntmps31
  go_wp2_with (go_at_call 39; refine (size_in _ (by omega) (by omega) _).mono ?_; rintro e w' ⟨rfl, rfl⟩)
  go_rounds 3
  go_region_with ((go_at_call 40; refine (tz2 _ (HT.out.alloc _).drew).mono ?_; rintro e w' ⟨rfl, rfl⟩))
  all_goals
    go_wp2
    go_ret2
    exact ⟨rfl, ((Below.refl _ _).alloc (Nat.le_refl _) _).drew, heap_new _ _⟩

theorem encode_4 (n : Int) (h0 : 16384 ≤ n) (h1 : n < 1073741824) (w : World) (ht : Tab w) :
    Calls Tryd.prog 31 #[.int .i64 n] w (EncPost [n / 256 / 256 / 256 + 128, n / 256 / 256 % 256, n / 256 % 256, n % 256] w) := by
  have hs : sz n = 4 := by unfold sz; rw [if_neg (by omega), if_neg (by omega), if_pos h1]
  have hmk := mk4
  have hw1 : IntKind.u64.wrap 4 = 4 := by kernel_rfl
  have hw2 : IntKind.u8.wrap 2 = 2 := by kernel_rfl
  have hw3 : IntKind.u8.wrap 128 = 128 := by kernel_rfl
  have hor := or_top (n / 256 / 256 / 256) 128 (by omega) (by omega) (by omega)
  have HT := Lib.hid ht
  clear ht
  go_enter Tryd.func31, Tryd.ntmps31
  go_wp2_with (go_at_call 39; refine (size_in _ (by omega) (by omega) _).mono ?_; rintro e w' ⟨rfl, rfl⟩)
  go_rounds 5
  go_region_with ((go_at_call 40; refine (tz4 _ (HT.out.alloc _).drew).mono ?_; rintro e w' ⟨rfl, rfl⟩))
  all_goals
    go_wp2
    go_ret2
    exact ⟨rfl, ((Below.refl _ _).alloc (Nat.le_refl _) _).drew, heap_new _ _⟩

theorem encode_8 (n : Int) (h0 : 1073741824 ≤ n) (h1 : n < 4611686018427387904) (w : World) (ht : Tab w) :
    Calls Tryd.prog 31 #[.int .i64 n] w (EncPost [n / 256 / 256 / 256 / 256 / 256 / 256 / 256 + 192, n / 256 / 256 / 256 / 256 / 256 / 256 % 256, n / 256 / 256 / 256 / 256 / 256 % 256, n / 256 / 256 / 256 / 256 % 256, n / 256 / 256 / 256 % 256, n / 256 / 256 % 256, n / 256 % 256, n % 256] w) := by
  have hs : sz n = 8 := by unfold sz; rw [if_neg (by omega), if_neg (by omega), if_neg (by omega)]
  have hmk := mk8
  have hw1 : IntKind.u64.wrap 8 = 8 := by kernel_rfl
  have hw2 : IntKind.u8.wrap 3 = 3 := by kernel_rfl
  have hw3 : IntKind.u8.wrap 192 = 192 := by kernel_rfl
  have hor := or_top (n / 256 / 256 / 256 / 256 / 256 / 256 / 256) 192 (by omega) (by omega) (by omega)
  have HT := Lib.hid ht
  clear ht
  go_enter Tryd.func31, Tryd.ntmps31
  go_wp2_with (go_at_call 39; refine (size_in _ (by omega) (by omega) _).mono ?_; rintro e w' ⟨rfl, rfl⟩)
  go_rounds 9
  go_region_with ((go_at_call 40; refine (tz8 _ (HT.out.alloc _).drew).mono ?_; rintro e w' ⟨rfl, rfl⟩))
  all_goals
    go_wp2
    go_ret2
    exact ⟨rfl, ((Below.refl _ _).alloc (Nat.le_refl _) _).drew, heap_new _ _⟩

theorem encode_in (n : Int) (h0 : 0 ≤ n) (h1 : n ≤ 4611686018427387903) (w : World) (ht : Tab w) :
    Calls Tryd.prog 31 #[.int .i64 n] w (EncPost (enc n) w) := by
  unfold enc
  by_cases a : n < 64
  · rw [if_pos a]; exact encode_1 n h0 a w ht
  rw [if_neg a]
  by_cases b : n < 16384
  · rw [if_pos b]; exact encode_2 n (by omega) b w ht
  rw [if_neg b]
  by_cases c : n < 1073741824
  · rw [if_pos c]; exact encode_4 n (by omega) c w ht
  rw [if_neg c]
  exact encode_8 n (by omega) (by omega) w ht

theorem encode_out (n : Int) (h : n < 0 ∨ 4611686018427387903 < n) (w : World) :
    Calls Tryd.prog 31 #[.int .i64 n] w fun e w' => e = .returned (.tuple #[.slice none 0 0, .int .i64 6]) ∧ w = w' := by
  go_enter Tryd.func31, Tryd.ntmps31
  go_wp2_with (go_at_call 39; refine (size_out _ h _).mono ?_; rintro e w' ⟨rfl, rfl⟩)
  go_ret2
  exact ⟨rfl, rfl⟩


end Go.Proofs.YtjeocggocloigabDoor
/- The pen in memory; contracts of its number, word and kind. -/
namespace Go.Proofs.YtjeocggocloigabDoor
set_option linter.unusedVariables false
open Go.RowKit P

/-- block q holds a pen that has written xs, in a row of its own from 'base' on -/
structure PenAt (w : World) (q base : Nat) (v : Value) (xs : List Int) : Prop where
  blk : w.heap[q]? = some (.cells #[v] 43 (0, 0))
  own : w.ownsRow base 5 1 v xs.length (xs.map (.int .u8))
  lt : q < base
  byt : Byt xs
  tab : Tab w
  tlt : 1 < q
/-- nothing has turned but the pen's cell and its row; its row is the one it was, or new -/
structure PenMod (q : Nat) (v : Value) (w : World) (v' : Value) (w' : World) : Prop where
  os : w'.os = w.os
  tape : w'.tape = w.tape
  output : w'.output = w.output
  size : w.heap.size ≤ w'.heap.size
  block : ∀ k, k < w.heap.size → k ≠ q → some k ≠ v.ownBlock → w'.heap[k]? = w.heap[k]?
  row : v'.ownBlock = v.ownBlock ∨ ∀ g, v'.ownBlock = some g → w.heap.size ≤ g
theorem PenMod.refl (q : Nat) (v : Value) (w : World) : PenMod q v w v w := ⟨rfl, rfl, rfl, Nat.le_refl _, fun _ _ _ _ => rfl, .inl rfl⟩
theorem PenMod.trans {q : Nat} {a b c : Value} {u v w : World} (h : PenMod q a u b v) (k : PenMod q b v c w) : PenMod q a u c w := by
  refine ⟨k.os.trans h.os, k.tape.trans h.tape, k.output.trans h.output, Nat.le_trans h.size k.size, fun i hi hq ha => ?_, ?_⟩
  · have hb : some i ≠ b.ownBlock := by
      rcases h.row with e | e
      · rw [e]; exact ha
      · intro e'; have := e i e'.symm; omega
    exact (k.block i (Nat.lt_of_lt_of_le hi h.size) hq hb).trans (h.block i hi hq ha)
  · rcases k.row with e | e
    · rw [e]; exact h.row
    · exact .inr fun g hg => Nat.le_trans h.size (e g hg)
theorem PenMod.below {q base : Nat} {v v' : Value} {w w' : World} {xs : List Int} (h : PenMod q v w v' w') (p : PenAt w q base v xs) {B : Nat} (hB : B ≤ q) (hs : B ≤ w.heap.size) : Below B w w' :=
  ⟨h.os, h.tape, h.output, h.size, fun k hk => h.block k (by omega) (by omega) (fun e => by have := (World.ownsRow.lt p.own k e.symm).1; have := p.lt; omega)⟩
/-- a block that is neither the pen's nor its row's -/
theorem PenMod.keep {q : Nat} {v v' : Value} {w w' : World} (h : PenMod q v w v' w') {b : Nat} {o : Obj} (hb : w.heap[b]? = some o) (hq : b ≠ q) (hv : some b ≠ v.ownBlock) : w'.heap[b]? = some o := (h.block b (lt_of_block hb) hq hv).trans hb
theorem PenMod.ne {q : Nat} {v v' : Value} {w w' : World} (h : PenMod q v w v' w') {b : Nat} (hb : b < w.heap.size) (hv : some b ≠ v.ownBlock) : some b ≠ v'.ownBlock := by
  rcases h.row with e | e
  · rw [e]; exact hv
  · intro e'; have := e b e'.symm; omega
def PenPost (q base : Nat) (v : Value) (xs : List Int) (w : World) (e : Ending) (w' : World) : Prop :=
  e = .returned (.tuple #[]) ∧ ∃ v', PenAt w' q base v' xs ∧ PenMod q v w v' w'
theorem PenAt.lt_size {w : World} {q base : Nat} {v : Value} {xs : List Int} (h : PenAt w q base v xs) : q < w.heap.size := lt_of_block h.blk
theorem PenAt.on {w w' : World} {q base : Nat} {v : Value} {xs : List Int} (h : PenAt w q base v xs) (hb : Below w.heap.size w w') : PenAt w' q base v xs :=
  ⟨(hb.block q h.lt_size).trans h.blk, World.ownsRow.kept h.own (grown_below none hb) (by cases hv : v.ownBlock with | none => exact .inl rfl | some k => exact .inr (by simp)), h.lt, h.byt, h.tab.below hb, h.tlt⟩
theorem mod_below (q : Nat) (v : Value) {w w' : World} (hb : Below w.heap.size w w') : PenMod q v w v w' := ⟨hb.os, hb.tape, hb.output, hb.size, fun k hk _ _ => hb.block k hk, .inl rfl⟩
/-- behind an append onto the pen's row, and the store of what it gave -/
theorem pen_put {w w2 : World} {q base : Nat} {v v2 : Value} {xs ys : List Int} (h : PenAt w q base v xs) (o2 : w2.ownsRow base 5 1 v2 (xs ++ ys).length ((xs ++ ys).map (.int .u8))) (g : w.grownBy w2 v.ownBlock) (hy : Byt ys) (hr : v2.ownBlock = v.ownBlock ∨ v2.ownBlock = some w.heap.size) :
    PenAt (w2.setCell ⟨q, 0, none⟩ v2) q base v2 (xs ++ ys) ∧ PenMod q v w v2 (w2.setCell ⟨q, 0, none⟩ v2) := by
  have hqv : some q ≠ v.ownBlock := fun e => by have := (World.ownsRow.lt h.own q e.symm).1; have := h.lt; omega
  have hq2 : w2.heap[q]? = some (.cells #[v] 43 (0, 0)) := (g.block q h.lt_size hqv).trans h.blk
  have gs := grown_set w2 q 0 v2
  have o3 : (w2.setCell ⟨q, 0, none⟩ v2).ownsRow base 5 1 v2 (xs ++ ys).length ((xs ++ ys).map (.int .u8)) :=
    World.ownsRow.kept o2 gs (by
      cases hv : v2.ownBlock with
      | none => exact .inl rfl
      | some k => exact .inr (by have := (World.ownsRow.lt o2 k hv).1; have := h.lt; simp; omega))
  have hb : Below q w (w2.setCell ⟨q, 0, none⟩ v2) :=
    ⟨gs.os.trans g.os, gs.tape.trans g.tape, gs.output.trans g.output, Nat.le_trans g.size gs.size, fun k hk => (gs.block k (Nat.lt_of_lt_of_le (Nat.lt_trans hk h.lt_size) g.size) (by simp; omega)).trans (g.block k (Nat.lt_trans hk h.lt_size) (fun e => by have := (World.ownsRow.lt h.own k e.symm).1; have := h.lt; omega))⟩
  refine ⟨⟨one_setCell hq2, o3, h.lt, h.byt.append hy, ?_, h.tlt⟩, ⟨gs.os.trans g.os, gs.tape.trans g.tape, gs.output.trans g.output, Nat.le_trans g.size gs.size, fun k hk hq hv => (gs.block k (Nat.lt_of_lt_of_le hk g.size) (by simp; omega)).trans (g.block k hk hv), ?_⟩⟩
  · have k : ∀ o, (w2.setCell ⟨q, 0, none⟩ v2).cell? ⟨1, o, none⟩ = w.cell? ⟨1, o, none⟩ := fun o => hb.cell (p := ⟨1, o, none⟩) h.tlt
    exact ⟨(k _).trans h.tab.c0, (k _).trans h.tab.c1, (k _).trans h.tab.c3, (k _).trans h.tab.c7, Nat.lt_of_lt_of_le h.tab.lt hb.size⟩
  · rcases hr with e | e
    · exact .inl e
    · refine .inr fun g' hg => ?_
      rw [e] at hg
      cases hg
      exact Nat.le_refl _

set_option maxRecDepth 100000 in
theorem number_pen (q base : Nat) (v : Value) (xs : List Int) (n : Int) (w : World) (h : PenAt w q base v xs) (h0 : 0 ≤ n) (h1 : n ≤ 4611686018427387903) (hx : xs.length + 8 ≤ 140737488355328) (hbase : base ≤ w.heap.size) :
    Calls Tryd.prog 24 #[.pointer (some ⟨q, 0, none⟩), .int .i64 n] w (PenPost q base v (xs ++ enc n) w) := by
  have HP := Lib.hid h
  have HY := Lib.hid (enc_byt n h0 h1)
  have hl8 : (enc n).length ≤ 8 := by have := enc_len n; have := sz_bd n; omega
  obtain ⟨i0, hi0, hz0, hz1, hz2⟩ := info_parts infoB1
  have HI := Lib.hid hi0
  have HZ := Lib.hid hz0
  have HZ1 := Lib.hid hz1
  have HZ2 := Lib.hid hz2
  clear h hi0 hz0 hz1 hz2
  go_enter Tryd.func24, Tryd.ntmps24
  go_wp2_with (first
    | (go_at_call 31; refine (encode_in n h0 h1 _ HP.out.tab).mono ?_; rintro e w1 hE; obtain ⟨rfl, hb1, hrow⟩ := id hE; have R1 := Lib.hid (hE.row HY.out); have P1 := Lib.hid (HP.out.on hb1); have B1 := Lib.hid hb1; have c1 := cell_of_one P1.out.blk; have f1 := free_of_one P1.out.blk; have S1 := Lib.hid hE.lt; clear hE hb1 hrow)
    | (at_builtin
       refine wpList_app _ rfl (.tmp 15) (.tmp 16) _ rfl base 5 i0 Tryd.underlying25 HI.out HZ.out HZ1.out HZ2.out v xs.length _ rfl P1.out.own (w.heap.size + 1) (some ⟨w.heap.size, 0, none⟩) (enc n).length (enc n).length (enc n) rfl R1.out rfl (fun h => by cases h) (by omega) (Nat.le_trans hbase B1.out.size) ?_
       intro v2 w2 own2 g2 hr2
       obtain ⟨A2, k2, hv2, _, _⟩ := own_slice own2
       subst hv2
       have hqv : some q ≠ v.ownBlock := fun e => by have := (World.ownsRow.lt HP.out.own q e.symm).1; have := HP.out.lt; omega
       have c2 := cell_of_one ((g2.block q P1.out.lt_size hqv).trans P1.out.blk)
       have f2 := free_of_one ((g2.block q P1.out.lt_size hqv).trans P1.out.blk)
       have PP := Lib.hid (pen_put P1.out (by rw [List.length_append, List.map_append]; exact own2) g2 HY.out hr2)
       clear own2 g2 hr2 hqv c1 f1))
  go_returns
  exact ⟨rfl, _, PP.out.1, (mod_below q v B1.out).trans PP.out.2⟩
end Go.Proofs.YtjeocggocloigabDoor
/- Contracts of the pen's kind and word. -/
namespace Go.Proofs.YtjeocggocloigabDoor
set_option linter.unusedVariables false
open Go.RowKit P

theorem kind_pen (q base : Nat) (v : Value) (xs : List Int) (f : Fr) (r d : Value) (w : World) (h : PenAt w q base v xs) (h0 : 0 ≤ f.kind) (h1 : f.kind ≤ 4611686018427387903) (hx : xs.length + 8 ≤ 140737488355328) (hbase : base ≤ w.heap.size)
    (hb : ∃ b, w.heap.size = b) :
    Calls Tryd.prog 21 #[.pointer (some ⟨q, 0, none⟩), .agg #[.int .i64 f.kind, .int .i64 f.id, .int .i64 f.off, .bool f.fin, .int .i64 f.code, r, d]] w (PenPost q base v (xs ++ markF f) w) := by
  have HB := Lib.hid ((Below.refl w.heap.size w).alloc (Nat.le_refl _) (.cells #[.int .i64 f.kind, .int .i64 f.id, .int .i64 f.off, .bool f.fin, .int .i64 f.code, r, d] 33))
  have HP := Lib.hid (h.on HB.out)
  have HM := Lib.hid (mark_enc f)
  have hbs : base ≤ (w.alloc (.cells #[.int .i64 f.kind, .int .i64 f.id, .int .i64 f.off, .bool f.fin, .int .i64 f.code, r, d] 33)).heap.size := Nat.le_trans hbase HB.out.size
  have HS := Lib.hid hbs
  have HK := Lib.hid (show mkF f = if f.kind = 8 then (if f.fin then 15 else 14) else f.kind from rfl)
  rw [HM.out]
  obtain ⟨k, id, off, fin, code, rs, data⟩ := f
  simp only at h0 h1 HB HP HS HK ⊢
  clear h hbs hb HM
  by_cases e8 : k = 8
  · subst e8
    cases fin
    · have hv := Lib.hid (show mkF ⟨8, id, off, false, code, rs, data⟩ = 14 from rfl)
      rw [hv.out]
      go_enter Tryd.func21, Tryd.ntmps21
      go_wp2_with (go_at_call 24; refine (number_pen q base v xs 14 _ HP.out (by omega) (by omega) hx HS.out).mono ?_; rintro e w1 ⟨rfl, v', p1, m1⟩; have PP := Lib.hid p1; have MM := Lib.hid m1; clear p1 m1)
      go_returns
      exact ⟨rfl, _, PP.out, (mod_below q v HB.out).trans MM.out⟩
    · have hv := Lib.hid (show mkF ⟨8, id, off, true, code, rs, data⟩ = 15 from rfl)
      rw [hv.out]
      go_enter Tryd.func21, Tryd.ntmps21
      go_wp2_with (go_at_call 24; refine (number_pen q base v xs 15 _ HP.out (by omega) (by omega) hx HS.out).mono ?_; rintro e w1 ⟨rfl, v', p1, m1⟩; have PP := Lib.hid p1; have MM := Lib.hid m1; clear p1 m1)
      go_returns
      exact ⟨rfl, _, PP.out, (mod_below q v HB.out).trans MM.out⟩
  · have hv := Lib.hid (show mkF ⟨k, id, off, fin, code, rs, data⟩ = k by rw [HK.out]; exact if_neg e8)
    rw [hv.out]
    go_enter Tryd.func21, Tryd.ntmps21
    go_wp2_with (go_at_call 24; refine (number_pen q base v xs k _ HP.out h0 h1 hx HS.out).mono ?_; rintro e w1 ⟨rfl, v', p1, m1⟩; have PP := Lib.hid p1; have MM := Lib.hid m1; clear p1 m1)
    go_returns
    exact ⟨rfl, _, PP.out, (mod_below q v HB.out).trans MM.out⟩

theorem step_app {P : Program} (w : World) {ops : Array Oper} {o : Oper} {a : Act} {K : Act → World → Prop} {Q : Exit → Act → World → Prop} {E : Prop} (hgd : o.guard = none) (s x : Operand) (t : TypeId)
    (ho : o.op = .call { callee := .builtin .append, args := #[s, x], argTypes := #[t, t] })
    (base : Nat) (e : TypeId) (i : TypeInfo) (ht : P.underlying t = some (.slice e)) (hi : P.info? e = some i) (hz : i.zero = some (.int .u8 0)) (hsize : i.size = 1) (hby : i.bytes = 1)
    (v : Value) (n : Nat) (xs : List Value) (hs : a.eval s = v) (hown : w.ownsRow base e 1 v n xs) (B : Nat) (A : Option Addr) (m c : Nat) (zs : List Int) (hx : a.eval x = .slice A m c) (hr : BRow w B A zs) (hm : zs.length = m) (hc : A = none → c = 0)
    (hbytes : n + m ≤ 140737488355328) (hbase : base ≤ w.heap.size)
    (h : ∀ v' w', w'.ownsRow base e 1 v' (n + m) (xs ++ zs.map (.int .u8)) → w.grownBy w' v.ownBlock → (v'.ownBlock = v.ownBlock ∨ v'.ownBlock = some w.heap.size) → K (a.put o.dst v') w') :
    if Region.wanted o (yielded ops a.tmps) = true then Oper.wp P o a w K Q else E := by
  have hw : Region.wanted o (yielded ops a.tmps) = true := by simp [Region.wanted, hgd]
  rw [if_pos hw]
  obtain ⟨v', w', hrun, h2, h3, h4⟩ := run_app (P := P) w base t o.type e i ht hi hz hsize hby v n xs hown B A m c zs hr hm hc hbytes hbase
  unfold Oper.wp execOp
  simp only [ho, resolve, invoke, builtin, Sem.run_bind, Sem.run_pure, Result.andThen_ok, List.map_toArray, List.map_cons, List.map_nil, hs, hx, hrun]
  exact h v' w' h2 h3 h4
theorem brow_one (w : World) (z : Int) (t : TypeId) (hz : 0 ≤ z ∧ z ≤ 255) : BRow (w.alloc (.cells #[.int .u8 z] t)) (w.heap.size + 1) (some ⟨w.heap.size, 0, none⟩) [z] :=
  ⟨byt1 hz, fun _ => ⟨_, 0, rfl, by omega, fun j hj => by
    obtain rfl : j = 0 := by simpa using hj
    simp⟩⟩
theorem pen_drew {w : World} {q base : Nat} {v : Value} {xs : List Int} (h : PenAt w q base v xs) : PenAt w.drew q base v xs := h.on (Below.refl _ _).drew

theorem wrap8 (x : Int) : IntKind.u8.wrap x = x % 256 := by
  first | rw [IntKind.wrap_u8] | (simp [IntKind.wrap]; rfl) | (unfold IntKind.wrap; simp [IntKind.bits, IntKind.signed])
set_option maxRecDepth 100000 in
set_option maxHeartbeats 2000000 in
theorem word_pen (q base : Nat) (v : Value) (xs : List Int) (n : Int) (w : World) (h : PenAt w q base v xs) (h0 : 0 ≤ n) (h1 : n ≤ 18446744073709551615) (hx : xs.length + 8 ≤ 140737488355328) (hbase : base ≤ w.heap.size) :
    Calls Tryd.prog 25 #[.pointer (some ⟨q, 0, none⟩), .int .u64 n] w (PenPost q base v (xs ++ lowB 8 n) w) := by
  have HP := Lib.hid h
  obtain ⟨i0, hi0, hz0, hz1, hz2⟩ := info_parts infoB1
  have HI := Lib.hid hi0
  have HZ := Lib.hid hz0
  have HZ1 := Lib.hid hz1
  have HZ2 := Lib.hid hz2
  clear h hi0 hz0 hz1 hz2
  go_enter Tryd.func25, Tryd.ntmps25
  go_wp2
  go_loopg [4] 8 (fun g i wr => ∃ (k : Nat) (u : Value) (Y : List Int), k + g = 8 ∧ i = .int .i64 (56 - 8 * (k : Int)) ∧ Hid (PenAt wr q base u Y) ∧ Hid (PenMod q v w u wr) ∧ Hid (Y = xs ++ (lowB 8 n).take k))
  case atStart => exact ⟨0, v, xs, rfl, rfl, HP, Lib.hid (PenMod.refl _ _ _), Lib.hid (by simp)⟩
  case round =>
    obtain ⟨k, u, Y, hk, rfl, PK, MK, HY⟩ := hrel
    have HXX := Lib.hid (show k ≤ 7 → Y.length + 1 ≤ 140737488355328 from fun h => by rw [HY.out, List.length_append, List.length_take, lowB_len]; omega)
    have c1 := cell_of_one PK.out.blk
    have f1 := free_of_one PK.out.blk
    obtain ⟨Au, cu, hu, _, _⟩ := own_slice PK.out.own
    subst hu
    obtain rfl | rfl | rfl | rfl | rfl | rfl | rfl | rfl | rfl : k = 0 ∨ k = 1 ∨ k = 2 ∨ k = 3 ∨ k = 4 ∨ k = 5 ∨ k = 6 ∨ k = 7 ∨ k = 8 := by omega
    · have hz := wrap8 (n / 72057594037927936)
      have HZ8 := Lib.hid (show IntKind.u8.wrap (n / 72057594037927936) = shr8 7 n % 256 by first | (rw [hz]; simp only [shr8]; omega) | (rw [hz]; rfl))
      have hzb : 0 ≤ IntKind.u8.wrap (n / 72057594037927936) ∧ IntKind.u8.wrap (n / 72057594037927936) ≤ 255 := by rw [hz]; omega
      clear hz
      obtain ⟨z, hzz⟩ : ∃ z, IntKind.u8.wrap (n / 72057594037927936) = z := ⟨_, rfl⟩
      rw [hzz] at HZ8 hzb
      have c1a := cell_of_one (PK.out.on ((Below.refl wr.heap.size wr).alloc (Nat.le_refl _) (.cells #[.int .u8 z] 5))).blk
      go_wp2
      go_region_law ((refine step_app _ (by rfl) (.tmp 13) (.tmp 18) _ (by rfl) base 5 i0 Tryd.underlying25 HI.out HZ.out HZ1.out HZ2.out (.slice Au Y.length cu) Y.length _ (by rfl) (World.ownsRow.drew (World.ownsRow.alloc PK.out.own (.cells #[.int .u8 z] 5))) (wr.heap.size + 1) (some ⟨wr.heap.size, 0, none⟩) 1 1 [z] (by rfl) ((brow_one wr z 5 hzb).below (Below.refl _ _).drew) rfl (fun h => by cases h) (HXX.out (by omega)) (Nat.le_trans (Nat.le_trans hbase MK.out.size) (by simp)) ?_
                      intro v2 w2 own2 g2 hr2
                      obtain ⟨A2, k2, hv2, _, _⟩ := own_slice own2
                      subst hv2
                      have PA := Lib.hid (((PK.out.on ((Below.refl wr.heap.size wr).alloc (Nat.le_refl _) (.cells #[.int .u8 z] 5))).on (Below.refl _ _).drew))
                      have hqv : some q ≠ (Value.slice Au Y.length cu).ownBlock := fun e => by have := (World.ownsRow.lt PK.out.own q e.symm).1; have := PK.out.lt; omega
                      have c2 := cell_of_one ((g2.block q PA.out.lt_size hqv).trans PA.out.blk)
                      have f2 := free_of_one ((g2.block q PA.out.lt_size hqv).trans PA.out.blk)
                      have PP := Lib.hid (pen_put PA.out (by rw [List.length_append, List.map_append]; exact own2) g2 (byt1 hzb) hr2)
                      clear own2 g2 hr2 hqv))
      all_goals
        have MM := Lib.hid (MK.out.trans ((mod_below q _ ((Below.refl wr.heap.size wr).alloc (Nat.le_refl _) (.cells #[.int .u8 z] 5))).trans ((mod_below q _ (Below.refl _ _).drew).trans PP.out.2)))
        have HY2 := Lib.hid (show Y ++ [z] = xs ++ (lowB 8 n).take 1 by rw [HY.out, List.append_assoc, HZ8.out]; rfl)
        clear c1 f1 c1a
        go_wp2
        go_roundg (gk - 1)
        case measure => omega
        case rel => exact ⟨1, _, Y ++ [z], by omega, rfl, Lib.hid PP.out.1, MM, HY2⟩
    · have hz := wrap8 (n / 281474976710656)
      have HZ8 := Lib.hid (show IntKind.u8.wrap (n / 281474976710656) = shr8 6 n % 256 by first | (rw [hz]; simp only [shr8]; omega) | (rw [hz]; rfl))
      have hzb : 0 ≤ IntKind.u8.wrap (n / 281474976710656) ∧ IntKind.u8.wrap (n / 281474976710656) ≤ 255 := by rw [hz]; omega
      clear hz
      obtain ⟨z, hzz⟩ : ∃ z, IntKind.u8.wrap (n / 281474976710656) = z := ⟨_, rfl⟩
      rw [hzz] at HZ8 hzb
      have c1a := cell_of_one (PK.out.on ((Below.refl wr.heap.size wr).alloc (Nat.le_refl _) (.cells #[.int .u8 z] 5))).blk
      go_wp2
      go_region_law ((refine step_app _ (by rfl) (.tmp 13) (.tmp 18) _ (by rfl) base 5 i0 Tryd.underlying25 HI.out HZ.out HZ1.out HZ2.out (.slice Au Y.length cu) Y.length _ (by rfl) (World.ownsRow.drew (World.ownsRow.alloc PK.out.own (.cells #[.int .u8 z] 5))) (wr.heap.size + 1) (some ⟨wr.heap.size, 0, none⟩) 1 1 [z] (by rfl) ((brow_one wr z 5 hzb).below (Below.refl _ _).drew) rfl (fun h => by cases h) (HXX.out (by omega)) (Nat.le_trans (Nat.le_trans hbase MK.out.size) (by simp)) ?_
                      intro v2 w2 own2 g2 hr2
                      obtain ⟨A2, k2, hv2, _, _⟩ := own_slice own2
                      subst hv2
                      have PA := Lib.hid (((PK.out.on ((Below.refl wr.heap.size wr).alloc (Nat.le_refl _) (.cells #[.int .u8 z] 5))).on (Below.refl _ _).drew))
                      have hqv : some q ≠ (Value.slice Au Y.length cu).ownBlock := fun e => by have := (World.ownsRow.lt PK.out.own q e.symm).1; have := PK.out.lt; omega
                      have c2 := cell_of_one ((g2.block q PA.out.lt_size hqv).trans PA.out.blk)
                      have f2 := free_of_one ((g2.block q PA.out.lt_size hqv).trans PA.out.blk)
                      have PP := Lib.hid (pen_put PA.out (by rw [List.length_append, List.map_append]; exact own2) g2 (byt1 hzb) hr2)
                      clear own2 g2 hr2 hqv))
      all_goals
        have MM := Lib.hid (MK.out.trans ((mod_below q _ ((Below.refl wr.heap.size wr).alloc (Nat.le_refl _) (.cells #[.int .u8 z] 5))).trans ((mod_below q _ (Below.refl _ _).drew).trans PP.out.2)))
        have HY2 := Lib.hid (show Y ++ [z] = xs ++ (lowB 8 n).take 2 by rw [HY.out, List.append_assoc, HZ8.out]; rfl)
        clear c1 f1 c1a
        go_wp2
        go_roundg (gk - 1)
        case measure => omega
        case rel => exact ⟨2, _, Y ++ [z], by omega, rfl, Lib.hid PP.out.1, MM, HY2⟩
    · have hz := wrap8 (n / 1099511627776)
      have HZ8 := Lib.hid (show IntKind.u8.wrap (n / 1099511627776) = shr8 5 n % 256 by first | (rw [hz]; simp only [shr8]; omega) | (rw [hz]; rfl))
      have hzb : 0 ≤ IntKind.u8.wrap (n / 1099511627776) ∧ IntKind.u8.wrap (n / 1099511627776) ≤ 255 := by rw [hz]; omega
      clear hz
      obtain ⟨z, hzz⟩ : ∃ z, IntKind.u8.wrap (n / 1099511627776) = z := ⟨_, rfl⟩
      rw [hzz] at HZ8 hzb
      have c1a := cell_of_one (PK.out.on ((Below.refl wr.heap.size wr).alloc (Nat.le_refl _) (.cells #[.int .u8 z] 5))).blk
      go_wp2
      go_region_law ((refine step_app _ (by rfl) (.tmp 13) (.tmp 18) _ (by rfl) base 5 i0 Tryd.underlying25 HI.out HZ.out HZ1.out HZ2.out (.slice Au Y.length cu) Y.length _ (by rfl) (World.ownsRow.drew (World.ownsRow.alloc PK.out.own (.cells #[.int .u8 z] 5))) (wr.heap.size + 1) (some ⟨wr.heap.size, 0, none⟩) 1 1 [z] (by rfl) ((brow_one wr z 5 hzb).below (Below.refl _ _).drew) rfl (fun h => by cases h) (HXX.out (by omega)) (Nat.le_trans (Nat.le_trans hbase MK.out.size) (by simp)) ?_
                      intro v2 w2 own2 g2 hr2
                      obtain ⟨A2, k2, hv2, _, _⟩ := own_slice own2
                      subst hv2
                      have PA := Lib.hid (((PK.out.on ((Below.refl wr.heap.size wr).alloc (Nat.le_refl _) (.cells #[.int .u8 z] 5))).on (Below.refl _ _).drew))
                      have hqv : some q ≠ (Value.slice Au Y.length cu).ownBlock := fun e => by have := (World.ownsRow.lt PK.out.own q e.symm).1; have := PK.out.lt; omega
                      have c2 := cell_of_one ((g2.block q PA.out.lt_size hqv).trans PA.out.blk)
                      have f2 := free_of_one ((g2.block q PA.out.lt_size hqv).trans PA.out.blk)
                      have PP := Lib.hid (pen_put PA.out (by rw [List.length_append, List.map_append]; exact own2) g2 (byt1 hzb) hr2)
                      clear own2 g2 hr2 hqv))
      all_goals
        have MM := Lib.hid (MK.out.trans ((mod_below q _ ((Below.refl wr.heap.size wr).alloc (Nat.le_refl _) (.cells #[.int .u8 z] 5))).trans ((mod_below q _ (Below.refl _ _).drew).trans PP.out.2)))
        have HY2 := Lib.hid (show Y ++ [z] = xs ++ (lowB 8 n).take 3 by rw [HY.out, List.append_assoc, HZ8.out]; rfl)
        clear c1 f1 c1a
        go_wp2
        go_roundg (gk - 1)
        case measure => omega
        case rel => exact ⟨3, _, Y ++ [z], by omega, rfl, Lib.hid PP.out.1, MM, HY2⟩
    · have hz := wrap8 (n / 4294967296)
      have HZ8 := Lib.hid (show IntKind.u8.wrap (n / 4294967296) = shr8 4 n % 256 by first | (rw [hz]; simp only [shr8]; omega) | (rw [hz]; rfl))
      have hzb : 0 ≤ IntKind.u8.wrap (n / 4294967296) ∧ IntKind.u8.wrap (n / 4294967296) ≤ 255 := by rw [hz]; omega
      clear hz
      obtain ⟨z, hzz⟩ : ∃ z, IntKind.u8.wrap (n / 4294967296) = z := ⟨_, rfl⟩
      rw [hzz] at HZ8 hzb
      have c1a := cell_of_one (PK.out.on ((Below.refl wr.heap.size wr).alloc (Nat.le_refl _) (.cells #[.int .u8 z] 5))).blk
      go_wp2
      go_region_law ((refine step_app _ (by rfl) (.tmp 13) (.tmp 18) _ (by rfl) base 5 i0 Tryd.underlying25 HI.out HZ.out HZ1.out HZ2.out (.slice Au Y.length cu) Y.length _ (by rfl) (World.ownsRow.drew (World.ownsRow.alloc PK.out.own (.cells #[.int .u8 z] 5))) (wr.heap.size + 1) (some ⟨wr.heap.size, 0, none⟩) 1 1 [z] (by rfl) ((brow_one wr z 5 hzb).below (Below.refl _ _).drew) rfl (fun h => by cases h) (HXX.out (by omega)) (Nat.le_trans (Nat.le_trans hbase MK.out.size) (by simp)) ?_
                      intro v2 w2 own2 g2 hr2
                      obtain ⟨A2, k2, hv2, _, _⟩ := own_slice own2
                      subst hv2
                      have PA := Lib.hid (((PK.out.on ((Below.refl wr.heap.size wr).alloc (Nat.le_refl _) (.cells #[.int .u8 z] 5))).on (Below.refl _ _).drew))
                      have hqv : some q ≠ (Value.slice Au Y.length cu).ownBlock := fun e => by have := (World.ownsRow.lt PK.out.own q e.symm).1; have := PK.out.lt; omega
                      have c2 := cell_of_one ((g2.block q PA.out.lt_size hqv).trans PA.out.blk)
                      have f2 := free_of_one ((g2.block q PA.out.lt_size hqv).trans PA.out.blk)
                      have PP := Lib.hid (pen_put PA.out (by rw [List.length_append, List.map_append]; exact own2) g2 (byt1 hzb) hr2)
                      clear own2 g2 hr2 hqv))
      all_goals
        have MM := Lib.hid (MK.out.trans ((mod_below q _ ((Below.refl wr.heap.size wr).alloc (Nat.le_refl _) (.cells #[.int .u8 z] 5))).trans ((mod_below q _ (Below.refl _ _).drew).trans PP.out.2)))
        have HY2 := Lib.hid (show Y ++ [z] = xs ++ (lowB 8 n).take 4 by rw [HY.out, List.append_assoc, HZ8.out]; rfl)
        clear c1 f1 c1a
        go_wp2
        go_roundg (gk - 1)
        case measure => omega
        case rel => exact ⟨4, _, Y ++ [z], by omega, rfl, Lib.hid PP.out.1, MM, HY2⟩
    · have hz := wrap8 (n / 16777216)
      have HZ8 := Lib.hid (show IntKind.u8.wrap (n / 16777216) = shr8 3 n % 256 by first | (rw [hz]; simp only [shr8]; omega) | (rw [hz]; rfl))
      have hzb : 0 ≤ IntKind.u8.wrap (n / 16777216) ∧ IntKind.u8.wrap (n / 16777216) ≤ 255 := by rw [hz]; omega
      clear hz
      obtain ⟨z, hzz⟩ : ∃ z, IntKind.u8.wrap (n / 16777216) = z := ⟨_, rfl⟩
      rw [hzz] at HZ8 hzb
      have c1a := cell_of_one (PK.out.on ((Below.refl wr.heap.size wr).alloc (Nat.le_refl _) (.cells #[.int .u8 z] 5))).blk
      go_wp2
      go_region_law ((refine step_app _ (by rfl) (.tmp 13) (.tmp 18) _ (by rfl) base 5 i0 Tryd.underlying25 HI.out HZ.out HZ1.out HZ2.out (.slice Au Y.length cu) Y.length _ (by rfl) (World.ownsRow.drew (World.ownsRow.alloc PK.out.own (.cells #[.int .u8 z] 5))) (wr.heap.size + 1) (some ⟨wr.heap.size, 0, none⟩) 1 1 [z] (by rfl) ((brow_one wr z 5 hzb).below (Below.refl _ _).drew) rfl (fun h => by cases h) (HXX.out (by omega)) (Nat.le_trans (Nat.le_trans hbase MK.out.size) (by simp)) ?_
                      intro v2 w2 own2 g2 hr2
                      obtain ⟨A2, k2, hv2, _, _⟩ := own_slice own2
                      subst hv2
                      have PA := Lib.hid (((PK.out.on ((Below.refl wr.heap.size wr).alloc (Nat.le_refl _) (.cells #[.int .u8 z] 5))).on (Below.refl _ _).drew))
                      have hqv : some q ≠ (Value.slice Au Y.length cu).ownBlock := fun e => by have := (World.ownsRow.lt PK.out.own q e.symm).1; have := PK.out.lt; omega
                      have c2 := cell_of_one ((g2.block q PA.out.lt_size hqv).trans PA.out.blk)
                      have f2 := free_of_one ((g2.block q PA.out.lt_size hqv).trans PA.out.blk)
                      have PP := Lib.hid (pen_put PA.out (by rw [List.length_append, List.map_append]; exact own2) g2 (byt1 hzb) hr2)
                      clear own2 g2 hr2 hqv))
      all_goals
        have MM := Lib.hid (MK.out.trans ((mod_below q _ ((Below.refl wr.heap.size wr).alloc (Nat.le_refl _) (.cells #[.int .u8 z] 5))).trans ((mod_below q _ (Below.refl _ _).drew).trans PP.out.2)))
        have HY2 := Lib.hid (show Y ++ [z] = xs ++ (lowB 8 n).take 5 by rw [HY.out, List.append_assoc, HZ8.out]; rfl)
        clear c1 f1 c1a
        go_wp2
        go_roundg (gk - 1)
        case measure => omega
        case rel => exact ⟨5, _, Y ++ [z], by omega, rfl, Lib.hid PP.out.1, MM, HY2⟩
    · have hz := wrap8 (n / 65536)
      have HZ8 := Lib.hid (show IntKind.u8.wrap (n / 65536) = shr8 2 n % 256 by first | (rw [hz]; simp only [shr8]; omega) | (rw [hz]; rfl))
      have hzb : 0 ≤ IntKind.u8.wrap (n / 65536) ∧ IntKind.u8.wrap (n / 65536) ≤ 255 := by rw [hz]; omega
      clear hz
      obtain ⟨z, hzz⟩ : ∃ z, IntKind.u8.wrap (n / 65536) = z := ⟨_, rfl⟩
      rw [hzz] at HZ8 hzb
      have c1a := cell_of_one (PK.out.on ((Below.refl wr.heap.size wr).alloc (Nat.le_refl _) (.cells #[.int .u8 z] 5))).blk
      go_wp2
      go_region_law ((refine step_app _ (by rfl) (.tmp 13) (.tmp 18) _ (by rfl) base 5 i0 Tryd.underlying25 HI.out HZ.out HZ1.out HZ2.out (.slice Au Y.length cu) Y.length _ (by rfl) (World.ownsRow.drew (World.ownsRow.alloc PK.out.own (.cells #[.int .u8 z] 5))) (wr.heap.size + 1) (some ⟨wr.heap.size, 0, none⟩) 1 1 [z] (by rfl) ((brow_one wr z 5 hzb).below (Below.refl _ _).drew) rfl (fun h => by cases h) (HXX.out (by omega)) (Nat.le_trans (Nat.le_trans hbase MK.out.size) (by simp)) ?_
                      intro v2 w2 own2 g2 hr2
                      obtain ⟨A2, k2, hv2, _, _⟩ := own_slice own2
                      subst hv2
                      have PA := Lib.hid (((PK.out.on ((Below.refl wr.heap.size wr).alloc (Nat.le_refl _) (.cells #[.int .u8 z] 5))).on (Below.refl _ _).drew))
                      have hqv : some q ≠ (Value.slice Au Y.length cu).ownBlock := fun e => by have := (World.ownsRow.lt PK.out.own q e.symm).1; have := PK.out.lt; omega
                      have c2 := cell_of_one ((g2.block q PA.out.lt_size hqv).trans PA.out.blk)
                      have f2 := free_of_one ((g2.block q PA.out.lt_size hqv).trans PA.out.blk)
                      have PP := Lib.hid (pen_put PA.out (by rw [List.length_append, List.map_append]; exact own2) g2 (byt1 hzb) hr2)
                      clear own2 g2 hr2 hqv))
      all_goals
        have MM := Lib.hid (MK.out.trans ((mod_below q _ ((Below.refl wr.heap.size wr).alloc (Nat.le_refl _) (.cells #[.int .u8 z] 5))).trans ((mod_below q _ (Below.refl _ _).drew).trans PP.out.2)))
        have HY2 := Lib.hid (show Y ++ [z] = xs ++ (lowB 8 n).take 6 by rw [HY.out, List.append_assoc, HZ8.out]; rfl)
        clear c1 f1 c1a
        go_wp2
        go_roundg (gk - 1)
        case measure => omega
        case rel => exact ⟨6, _, Y ++ [z], by omega, rfl, Lib.hid PP.out.1, MM, HY2⟩
    · have hz := wrap8 (n / 256)
      have HZ8 := Lib.hid (show IntKind.u8.wrap (n / 256) = shr8 1 n % 256 by first | (rw [hz]; simp only [shr8]; omega) | (rw [hz]; rfl))
      have hzb : 0 ≤ IntKind.u8.wrap (n / 256) ∧ IntKind.u8.wrap (n / 256) ≤ 255 := by rw [hz]; omega
      clear hz
      obtain ⟨z, hzz⟩ : ∃ z, IntKind.u8.wrap (n / 256) = z := ⟨_, rfl⟩
      rw [hzz] at HZ8 hzb
      have c1a := cell_of_one (PK.out.on ((Below.refl wr.heap.size wr).alloc (Nat.le_refl _) (.cells #[.int .u8 z] 5))).blk
      go_wp2
      go_region_law ((refine step_app _ (by rfl) (.tmp 13) (.tmp 18) _ (by rfl) base 5 i0 Tryd.underlying25 HI.out HZ.out HZ1.out HZ2.out (.slice Au Y.length cu) Y.length _ (by rfl) (World.ownsRow.drew (World.ownsRow.alloc PK.out.own (.cells #[.int .u8 z] 5))) (wr.heap.size + 1) (some ⟨wr.heap.size, 0, none⟩) 1 1 [z] (by rfl) ((brow_one wr z 5 hzb).below (Below.refl _ _).drew) rfl (fun h => by cases h) (HXX.out (by omega)) (Nat.le_trans (Nat.le_trans hbase MK.out.size) (by simp)) ?_
                      intro v2 w2 own2 g2 hr2
                      obtain ⟨A2, k2, hv2, _, _⟩ := own_slice own2
                      subst hv2
                      have PA := Lib.hid (((PK.out.on ((Below.refl wr.heap.size wr).alloc (Nat.le_refl _) (.cells #[.int .u8 z] 5))).on (Below.refl _ _).drew))
                      have hqv : some q ≠ (Value.slice Au Y.length cu).ownBlock := fun e => by have := (World.ownsRow.lt PK.out.own q e.symm).1; have := PK.out.lt; omega
                      have c2 := cell_of_one ((g2.block q PA.out.lt_size hqv).trans PA.out.blk)
                      have f2 := free_of_one ((g2.block q PA.out.lt_size hqv).trans PA.out.blk)
                      have PP := Lib.hid (pen_put PA.out (by rw [List.length_append, List.map_append]; exact own2) g2 (byt1 hzb) hr2)
                      clear own2 g2 hr2 hqv))
      all_goals
        have MM := Lib.hid (MK.out.trans ((mod_below q _ ((Below.refl wr.heap.size wr).alloc (Nat.le_refl _) (.cells #[.int .u8 z] 5))).trans ((mod_below q _ (Below.refl _ _).drew).trans PP.out.2)))
        have HY2 := Lib.hid (show Y ++ [z] = xs ++ (lowB 8 n).take 7 by rw [HY.out, List.append_assoc, HZ8.out]; rfl)
        clear c1 f1 c1a
        go_wp2
        go_roundg (gk - 1)
        case measure => omega
        case rel => exact ⟨7, _, Y ++ [z], by omega, rfl, Lib.hid PP.out.1, MM, HY2⟩
    · have hz := wrap8 (n)
      have HZ8 := Lib.hid (show IntKind.u8.wrap (n) = shr8 0 n % 256 by first | (rw [hz]; simp only [shr8]; omega) | (rw [hz]; rfl))
      have hzb : 0 ≤ IntKind.u8.wrap (n) ∧ IntKind.u8.wrap (n) ≤ 255 := by rw [hz]; omega
      clear hz
      obtain ⟨z, hzz⟩ : ∃ z, IntKind.u8.wrap (n) = z := ⟨_, rfl⟩
      rw [hzz] at HZ8 hzb
      have c1a := cell_of_one (PK.out.on ((Below.refl wr.heap.size wr).alloc (Nat.le_refl _) (.cells #[.int .u8 z] 5))).blk
      go_wp2
      go_region_law ((refine step_app _ (by rfl) (.tmp 13) (.tmp 18) _ (by rfl) base 5 i0 Tryd.underlying25 HI.out HZ.out HZ1.out HZ2.out (.slice Au Y.length cu) Y.length _ (by rfl) (World.ownsRow.drew (World.ownsRow.alloc PK.out.own (.cells #[.int .u8 z] 5))) (wr.heap.size + 1) (some ⟨wr.heap.size, 0, none⟩) 1 1 [z] (by rfl) ((brow_one wr z 5 hzb).below (Below.refl _ _).drew) rfl (fun h => by cases h) (HXX.out (by omega)) (Nat.le_trans (Nat.le_trans hbase MK.out.size) (by simp)) ?_
                      intro v2 w2 own2 g2 hr2
                      obtain ⟨A2, k2, hv2, _, _⟩ := own_slice own2
                      subst hv2
                      have PA := Lib.hid (((PK.out.on ((Below.refl wr.heap.size wr).alloc (Nat.le_refl _) (.cells #[.int .u8 z] 5))).on (Below.refl _ _).drew))
                      have hqv : some q ≠ (Value.slice Au Y.length cu).ownBlock := fun e => by have := (World.ownsRow.lt PK.out.own q e.symm).1; have := PK.out.lt; omega
                      have c2 := cell_of_one ((g2.block q PA.out.lt_size hqv).trans PA.out.blk)
                      have f2 := free_of_one ((g2.block q PA.out.lt_size hqv).trans PA.out.blk)
                      have PP := Lib.hid (pen_put PA.out (by rw [List.length_append, List.map_append]; exact own2) g2 (byt1 hzb) hr2)
                      clear own2 g2 hr2 hqv))
      all_goals
        have MM := Lib.hid (MK.out.trans ((mod_below q _ ((Below.refl wr.heap.size wr).alloc (Nat.le_refl _) (.cells #[.int .u8 z] 5))).trans ((mod_below q _ (Below.refl _ _).drew).trans PP.out.2)))
        have HY2 := Lib.hid (show Y ++ [z] = xs ++ (lowB 8 n).take 8 by rw [HY.out, List.append_assoc, HZ8.out]; rfl)
        clear c1 f1 c1a
        go_wp2
        go_roundg (gk - 1)
        case measure => omega
        case rel => exact ⟨8, _, Y ++ [z], by omega, rfl, Lib.hid PP.out.1, MM, HY2⟩
    · have HY8 := Lib.hid (show Y = xs ++ lowB 8 n by rw [HY.out, List.take_of_length_le (by rw [lowB_len]; omega)])
      go_wp2
      go_returns
      rw [← HY8.out]
      exact ⟨rfl, _, PK.out, MK.out⟩
end Go.Proofs.YtjeocggocloigabDoor
/- Contract of the pen's ranges. -/
namespace Go.Proofs.YtjeocggocloigabDoor
set_option linter.unusedVariables false
open Go.RowKit P

theorem down_at : ∀ (l : List (Int × Int)) (b : Int), downFrom b l → ∀ k, k < l.length → okR (l.getD k (0, 0)) ∧ (0 < k → (l.getD k (0, 0)).2 + 2 ≤ (l.getD (k - 1) (0, 0)).1)
  | [], _, _, k, hk => by simp at hk
  | x :: t, b, h, 0, hk => ⟨h.1, fun h => absurd h (by omega)⟩
  | x :: t, b, h, k + 1, hk => by
    have := down_at t x.1 h.2.2 k (by simpa using hk)
    refine ⟨this.1, fun _ => ?_⟩
    cases k with
    | zero =>
      cases t with
      | nil => simp at hk
      | cons y t => exact h.2.2.2.1
    | succ k => exact this.2 (by omega)
theorem drop_cons (l : List (Int × Int)) (k : Nat) (h : k < l.length) : l.drop k = l.getD k (0, 0) :: l.drop (k + 1) := by
  rw [List.drop_eq_getElem_cons h, List.getD_eq_getElem?_getD, List.getElem?_eq_getElem h]; rfl

set_option maxRecDepth 100000 in
set_option maxHeartbeats 1000000 in
theorem ranges_pen (q base : Nat) (v : Value) (xs : List Int) (A : Option Addr) (c : Nat) (l : List (Int × Int)) (w : World) (h : PenAt w q base v xs) (hr : RRow w q A l) (hd : downL l) (h0 : 0 < l.length) (h6 : l.length ≤ 6) (hc : l.length ≤ c) (hm : c ≤ maxLen) (hx : xs.length + 200 ≤ 140737488355328) (hbase : base ≤ w.heap.size) :
    Calls Tryd.prog 23 #[.pointer (some ⟨q, 0, none⟩), .slice A l.length c] w (PenPost q base v (xs ++ encR l) w) := by
  obtain ⟨b, off, rfl, hbq, hcell⟩ := hr h0
  have ha := down_at l _ hd
  obtain ⟨⟨lo, hi⟩, hp⟩ : ∃ p, l.getD 0 (0, 0) = p := ⟨_, rfl⟩
  have h00 := hcell 0 h0
  have hok := (ha 0 h0).1
  rw [hp] at h00 hok
  obtain ⟨r0, r1, r2⟩ := hok
  simp only [Nat.zero_mul, Nat.add_zero] at h00 r0 r1 r2
  obtain ⟨c0, c1⟩ := h00
  have HL := Lib.hid (show encR l = enc hi ++ (enc ((l.length : Int) - 1) ++ (enc (hi - lo) ++ encT lo (l.drop 1))) by
    have e := drop_cons l 0 h0
    rw [List.drop_zero, hp] at e
    have e2 : (l.drop 1).length = l.length - 1 := by simp
    conv => lhs; rw [e]
    simp only [encR]
    rw [show ((List.drop (0 + 1) l).length : Int) = (l.length : Int) - 1 by simp; omega])
  have HP := Lib.hid h
  have HC := Lib.hid hcell
  have HA := Lib.hid ha
  have HP0 := Lib.hid hp
  have l1 : ∀ n : Int, (enc n).length ≤ 8 := fun n => by have := enc_len n; have := sz_bd n; omega
  have L1 := Lib.hid l1
  clear h hr hd hcell ha hp l1
  have hw1 : IntKind.i64.wrap ((l.length : Int) - 1) = (l.length : Int) - 1 := by rw [IntKind.wrap_i64]; omega
  have i0 : (0 : Int) < (l.length : Int) := by omega
  go_enter Tryd.func23, Tryd.ntmps23
  go_wp2_with (first
    | (go_at_call 24; refine (number_pen q base _ _ ((l.length : Int) - 1) _ P1.out (by omega) (by omega) (by rw [List.length_append]; have := L1.out hi; omega) (Nat.le_trans hbase M1.out.size)).mono ?_; rintro e w2 ⟨rfl, v2, p2, m2⟩; have M2 := Lib.hid (M1.out.trans m2); have P2 := Lib.hid p2; have B2 := Lib.hid (M2.out.below HP.out (Nat.le_refl _) (Nat.le_of_lt HP.out.lt_size)); have d0 := (B2.out.cell (p := ⟨b, off, none⟩) hbq).trans c0; have d1 := (B2.out.cell (p := ⟨b, off + 1, none⟩) hbq).trans c1; clear p2 m2)
    | (go_at_call 24; refine (number_pen q base v xs hi _ HP.out (by omega) (by omega) (by omega) hbase).mono ?_; rintro e w1 ⟨rfl, v1, p1, m1⟩; have P1 := Lib.hid p1; have M1 := Lib.hid m1; clear p1 m1))
  have P2d := Lib.hid (P2.out.on (Below.refl _ _).drew)
  have X2 : (xs ++ enc hi ++ enc ((l.length : Int) - 1)).length + 184 ≤ 140737488355328 := by
    rw [List.length_append, List.length_append]
    have := L1.out hi
    have := L1.out ((l.length : Int) - 1)
    omega
  have hsub : IntKind.i64.wrap (hi - lo) = hi - lo := by rw [IntKind.wrap_i64]; omega
  go_region_held_law (fun w' => w'.cell? ⟨b, off, none⟩ = some (.int .i64 lo) ∧ w'.cell? ⟨b, off + 1, none⟩ = some (.int .i64 hi)) (go_keep)
    (first
      | ((go_at_call 24; refine (number_pen q base _ _ (hi - lo) _ P2d.out (by omega) (by omega) (by omega) (Nat.le_trans hbase M2.out.size)).mono ?_; rintro e w3 ⟨rfl, v3, p3, m3⟩; have M3 := Lib.hid (M2.out.trans ((mod_below q _ (Below.refl w2.heap.size w2).drew).trans m3)); have P3 := Lib.hid p3; have B3 := Lib.hid (M3.out.below HP.out (Nat.le_refl _) (Nat.le_of_lt HP.out.lt_size)); have t0 := (B3.out.cell (p := ⟨b, off, none⟩) hbq).trans c0; have t1 := (B3.out.cell (p := ⟨b, off + 1, none⟩) hbq).trans c1; clear p3 m3)))
  obtain ⟨Y3, hY3⟩ : ∃ Y, xs ++ enc hi ++ enc ((l.length : Int) - 1) ++ enc (hi - lo) = Y := ⟨_, rfl⟩
  rw [hY3] at P3
  have HY3 := Lib.hid (show xs ++ encR l = Y3 ++ encT (l.getD 0 (0, 0)).1 (l.drop (0 + 1)) by rw [HL.out, ← hY3, HP0.out]; simp only [List.append_assoc])
  have LY3 := Lib.hid (show Y3.length ≤ xs.length + 24 by
    rw [← hY3, List.length_append, List.length_append, List.length_append]
    have := L1.out hi
    have := L1.out ((l.length : Int) - 1)
    have := L1.out (hi - lo)
    omega)
  clear hY3 t0 t1 d0 d1 c0 c1 X2 hsub
  have hfin : ∀ w' u Y, PenAt w' q base u Y → PenMod q v w u w' → xs ++ encR l = Y → PenPost q base v (xs ++ encR l) w (.returned (.tuple #[])) w' := fun w' u Y p m e => ⟨rfl, u, by rw [e]; exact p, m⟩
  have HF := Lib.hid hfin
  clear hfin
  by_cases hl1 : l.length = 1
  · have hv := Lib.hid (show xs ++ encR l = Y3 by rw [HY3.out, List.drop_of_length_le (by omega)]; simp [encT])
    clear HY3
    by_cases hc1 : c = 1
    · skip
      go_wp2
      go_loopg [31] 1 (fun g i wr => i = .int .i64 0 ∧ wr = w3)
      case atStart => exact ⟨rfl, rfl⟩
      case round =>
        obtain ⟨rfl, rfl⟩ := hrel
        go_wp2
        go_returns
        exact HF.out _ _ _ P3.out M3.out hv.out
    · have hc2 : ¬ 1 = c := fun e => hc1 e.symm
      go_wp2
      go_loopg [31] 1 (fun g i wr => i = .int .i64 0 ∧ wr = w3)
      case atStart => exact ⟨rfl, rfl⟩
      case round =>
        obtain ⟨rfl, rfl⟩ := hrel
        go_wp2
        go_returns
        exact HF.out _ _ _ P3.out M3.out hv.out
  · have hc1 : ¬ c = 1 := by omega
    have hc2 : ¬ 1 = c := by omega
    go_wp2
    go_loopg [31] (l.length - 1) (fun g i wr => ∃ (k : Nat) (u : Value) (Y : List Int), k + g = l.length - 1 ∧ i = .int .i64 (k : Int) ∧ Hid (PenAt wr q base u Y) ∧ Hid (PenMod q v w u wr) ∧ Hid (xs ++ encR l = Y ++ encT (l.getD k (0, 0)).1 (l.drop (k + 1))) ∧ Hid (Y.length ≤ xs.length + 24 + 16 * k))
    case atStart => exact ⟨0, _, Y3, by omega, rfl, P3, M3, HY3, Lib.hid (by have := LY3.out; omega)⟩
    case round =>
      obtain ⟨k, u, Y, hk, rfl, PK, MK, EK, LK⟩ := hrel
      by_cases hlt : k + 1 < l.length
      · have BK := Lib.hid (MK.out.below HP.out (Nat.le_refl _) (Nat.le_of_lt HP.out.lt_size))
        have ck := HC.out k (by omega)
        have ck1 := HC.out (k + 1) hlt
        have hok1 := HA.out (k + 1) hlt
        have hok0 := (HA.out k (by omega)).1
        rw [show k + 1 - 1 = k by omega] at hok1
        have EN := Lib.hid (drop_cons l (k + 1) hlt)
        obtain ⟨⟨plo, phi⟩, hpp⟩ : ∃ p, l.getD k (0, 0) = p := ⟨_, rfl⟩
        obtain ⟨⟨rlo, rhi⟩, hrr⟩ : ∃ p, l.getD (k + 1) (0, 0) = p := ⟨_, rfl⟩
        rw [hpp] at ck hok1 hok0 EK
        rw [hrr] at ck1 hok1 EN
        have ER := Lib.hid hrr
        simp only at ck ck1 hok1 hok0 EK
        obtain ⟨⟨q0, q1, q2⟩, q3⟩ := hok1
        have q4 := q3 (by omega)
        obtain ⟨p0, p1, p2⟩ := hok0
        simp only at q0 q1 q2 q4 p0 p1 p2
        have e0 := (BK.out.cell (p := ⟨b, off + k * 2, none⟩) hbq).trans ck.1
        have e1 : wr.cell? ⟨b, off + 2 + k * 2, none⟩ = some (.int .i64 rlo) := by
          have := (BK.out.cell (p := ⟨b, off + (k + 1) * 2, none⟩) hbq).trans ck1.1
          rwa [show off + (k + 1) * 2 = off + 2 + k * 2 by omega] at this
        have e2 : wr.cell? ⟨b, off + 2 + k * 2 + 1, none⟩ = some (.int .i64 rhi) := by
          have := (BK.out.cell (p := ⟨b, off + (k + 1) * 2 + 1, none⟩) hbq).trans ck1.2
          rwa [show off + (k + 1) * 2 + 1 = off + 2 + k * 2 + 1 by omega] at this
        clear ck ck1 hpp hrr q3
        have hkl : (k : Int) < (l.length : Int) := by omega
        have hk0 : (0 : Int) ≤ (k : Int) := by omega
        have hs1 : IntKind.i64.wrap (plo - rhi) = plo - rhi := by rw [IntKind.wrap_i64]; omega
        have hs2 : IntKind.i64.wrap (plo - rhi - 2) = plo - rhi - 2 := by rw [IntKind.wrap_i64]; omega
        have hs3 : IntKind.i64.wrap (rhi - rlo) = rhi - rlo := by rw [IntKind.wrap_i64]; omega
        have hxy : Y.length + 100 ≤ 140737488355328 := by have := LK.out; omega
        have PB := Lib.hid ((Below.refl wr.heap.size wr).alloc (Nat.le_refl _) (.cells #[.int .i64 rlo, .int .i64 rhi] 49))
        have PKd := Lib.hid ((PK.out.on PB.out).on (Below.refl _ _).drew)
        have hqs := PK.out.lt_size
        have NV := Lib.hid (show some wr.heap.size ≠ u.ownBlock from fun e => by have := (World.ownsRow.lt PK.out.own _ e.symm).2; omega)
        go_wp2
        have g0 := (PB.out.cell (p := ⟨b, off + k * 2, none⟩) (by have := PK.out.lt_size; exact Nat.lt_trans hbq this)).trans e0
        have g1 : (wr.alloc (.cells #[.int .i64 rlo, .int .i64 rhi] 49)).cell? ⟨wr.heap.size, 1, none⟩ = some (.int .i64 rhi) := by simp
        have g2 : (wr.alloc (.cells #[.int .i64 rlo, .int .i64 rhi] 49)).cell? ⟨wr.heap.size, 0, none⟩ = some (.int .i64 rlo) := by simp
        have hnb := Lib.hid (heap_alloc_new wr (.cells #[.int .i64 rlo, .int .i64 rhi] 49))
        go_region_held_law (fun w' => w'.cell? ⟨b, off + k * 2, none⟩ = some (.int .i64 plo) ∧ w'.cell? ⟨wr.heap.size, 1, none⟩ = some (.int .i64 rhi)) (go_keep)
          (first
            | ((go_at_call 24; refine (number_pen q base _ Y (plo - rhi - 2) _ PKd.out (by omega) (by omega) (by omega) (Nat.le_trans hbase (Nat.le_trans MK.out.size PB.out.size))).mono ?_; rintro e w5 ⟨rfl, v5, p5, m5⟩; have M5 := Lib.hid (MK.out.trans ((mod_below q _ PB.out).trans ((mod_below q _ (Below.refl _ _).drew).trans m5))); have P5 := Lib.hid p5; have B5 := Lib.hid (M5.out.below HP.out (Nat.le_refl _) (Nat.le_of_lt HP.out.lt_size)); have NB := Lib.hid (m5.keep (b := wr.heap.size) hnb.out (by omega) NV.out); have t0 := (m5.below PKd.out (Nat.le_refl _) (Nat.le_of_lt PKd.out.lt_size)).cell (p := ⟨b, off + k * 2, none⟩) hbq |>.trans g0; have t1 := (two_cells NB.out).2.1; have t2 := (two_cells NB.out).1; clear p5 m5)))
        clear t0
        have hxz : (Y ++ enc (plo - rhi - 2)).length + 50 ≤ 140737488355328 := by rw [List.length_append]; have := L1.out (plo - rhi - 2); omega
        go_wp2_with (go_at_call 24; refine (number_pen q base _ _ (rhi - rlo) _ P5.out (by omega) (by omega) (by omega) (Nat.le_trans hbase M5.out.size)).mono ?_; rintro e w6 ⟨rfl, v6, p6, m6⟩; have M6 := Lib.hid (M5.out.trans m6); have P6 := Lib.hid p6; clear p6 m6)
        have EK2 := Lib.hid (show xs ++ encR l = (Y ++ enc (plo - rhi - 2) ++ enc (rhi - rlo)) ++ encT (l.getD (k + 1) (0, 0)).1 (l.drop (k + 1 + 1)) by
          rw [EK.out, EN.out, ER.out]
          simp only [encT, List.append_assoc])
        have LK2 := Lib.hid (show (Y ++ enc (plo - rhi - 2) ++ enc (rhi - rlo)).length ≤ xs.length + 24 + 16 * (k + 1) by
          rw [List.length_append, List.length_append]
          have := L1.out (plo - rhi - 2)
          have := L1.out (rhi - rlo)
          have := LK.out
          omega)
        clear EK EN
        go_roundg (gk - 1)
        case measure => omega
        case rel => exact ⟨k + 1, _, _, by omega, by go_num, P6, M6, EK2, LK2⟩
      · have hkk : k = l.length - 1 := by omega
        have hv := Lib.hid (show xs ++ encR l = Y by rw [EK.out, List.drop_of_length_le (by omega)]; simp [encT])
        clear EK
        go_wp2
        go_returns
        exact HF.out _ _ _ PK.out MK.out hv.out
end Go.Proofs.YtjeocggocloigabDoor
