/- Several texts in one. -/
import Derived.Deep.QuietTactic
import Derived.BigQuiet
import Derived.Below
import Derived.Deep.RegionHeld
import Derived.Test.YtnccibaifffhhaaRows
import Derived.WalkLawsBesides
import Derived.WalkSpells
import Derived.Outline
import Derived.Handy
import Derived.Test.YtnccibaifffhhaaGrpA
import Derived.Laws.IdiomStrings
import Derived.Test.YtnccibaifffhhaaGrpB
import Derived.Lib.SliceRun
import Derived.OwnWalk
import Derived.Laws.OwnMore
import Derived.WalkKit
import Derived.Lib.Hide
import Derived.SizedLaws
/- A region that draws its order, whose operations only read old memory, and whose callees may make new memory: one walk, in the text's order. The class of worlds: all that leave old memory as it is. Nothing of the program's. -/
namespace Go.Proofs.Ytnccibaifffhhaa.P
set_option linter.unusedVariables false
open Go.RowKit

/-- a later world, in which what was there is as it was -/
structure Ext (W : World) where
  w : World
  h : Below W.heap.size W w

instance (W : World) : Nonempty (Ext W) := ⟨⟨W, Below.refl _ _⟩⟩
theorem Ext.cell {W : World} {p : Addr} {v : Value} (h : W.cell? p = some v) : ∀ x : Ext W, x.w.cell? p = some v := fun x =>
  (x.h.cell (World.block_lt_of_cell? W p h)).trans h
theorem Ext.more {W : World} (x : Ext W) {w' : World} (h : Below x.w.heap.size x.w w') : Below W.heap.size W w' := x.h.trans (h.mono x.h.size)

section
variable {P : Program} {W : World} {f : FuncId} {args : Array Value} {v : Value}
/-- a callee that makes new memory, met in whatever later world -/
theorem Ext.call {x : Ext W} (h : Calls P f args x.w fun e w' => e = .returned v ∧ Below x.w.heap.size x.w w') : Calls P f args x.w fun e w'' => e = .returned v ∧ ∃ y : Ext W, w'' = y.w :=
  h.mono fun e w' ⟨he, hb⟩ => ⟨he, ⟨⟨w', x.more hb⟩, rfl⟩⟩
/-- a callee that leaves the world alone -/
theorem Ext.call_same {x : Ext W} (h : Calls P f args x.w fun e w' => e = .returned v ∧ x.w = w') : Calls P f args x.w fun e w'' => e = .returned v ∧ ∃ y : Ext W, w'' = y.w :=
  h.mono fun e w' ⟨he, hb⟩ => ⟨he, ⟨x, hb.symm⟩⟩

theorem wp_region_ext {id : Nat} {Q : Exit → Act → World → Prop} {a : Act} {l : List Oper} (hm : P.follows .mixedOrders = true) (hB : Region.lexB .any l.toArray = true)
    (h : wpQuiet P l.toArray (fun w' => ∃ x : Ext W, w' = x.w) (fun a' => ∀ w', Below W.heap.size W w' → Q .normal a' w') l a) : (Code.region id l.toArray true).wp P Q a W := by
  refine wp_region_quiet (C := fun w' => ∃ x : Ext W, w' = x.w) hm hB ⟨⟨W.drew, (Below.refl _ _).drew⟩, rfl⟩ ?_
  have e : (fun a' => ∀ w', Below W.heap.size W w' → Q .normal a' w') = (fun a' => ∀ w', (∃ x : Ext W, w' = x.w) → Q .normal a' w') := by
    funext a'
    refine propext ⟨fun h w' ⟨x, hx⟩ => hx ▸ h x.w x.h, fun h w' hw => h w' ⟨⟨w', hw⟩, rfl⟩⟩
  rw [e] at h
  simpa using h
end
end Go.Proofs.Ytnccibaifffhhaa.P
/- A region that draws its order, by an invariant over what has come up: each operation is looked at once, whatever came up before it. Nothing of the program's. -/
namespace Go.Proofs.Ytnccibaifffhhaa.P
set_option linter.unusedVariables false

section
variable {P : Program} {ops : Array Oper} {Q : Exit → Act → World → Prop} {md : Region.Mode}
/-- how many have not come up -/
def pend (l : List Bool) : Nat := l.countP (fun b => !b)
theorem pend_set : ∀ (l : List Bool) (i : Nat), l[i]? = some false → pend (l.set i true) + 1 = pend l
  | [], i, h => by simp at h
  | b :: l, 0, h => by
    simp only [List.getElem?_cons_zero, Option.some.injEq] at h
    subst h
    simp [pend]
  | b :: l, i + 1, h => by
    simp only [List.getElem?_cons_succ] at h
    have := pend_set l i h
    simp only [pend, List.set_cons_succ, List.countP_cons] at *
    omega
theorem pend_zero : ∀ (l : List Bool), pend l = 0 → ∀ i : Nat, l[i]? ≠ some false
  | [], _, i => by simp
  | b :: l, h, 0 => by
    simp only [pend, List.countP_cons] at h
    cases b
    · simp at h
    · simp
  | b :: l, h, i + 1 => by
    simp only [List.getElem?_cons_succ]
    exact pend_zero l (by simp only [pend, List.countP_cons] at *; omega) i

theorem ready_bit {i : Nat} {listed : Array Bool} (h : i ∈ Region.ready md ops listed) : listed.toList[i]? = some false := by
  have h1 := (mem_ready.1 h).1
  rw [Array.getElem?_toList]
  rcases Nat.lt_or_ge i listed.size with h2 | h2
  · simp only [Array.getD, h2, dite_true] at h1
    simp [h2, ← h1]
  · simp only [Array.getD, Nat.not_lt.2 h2, dite_false] at h1
    cases h1

/-- the law: I holds at the beginning, each operation that may come up hands it on, and in the end it gives what is wanted -/
theorem wpAny_inv (I : Array Bool → Act → World → Prop) (hfin : ∀ listed a w, I listed a w → Region.ready md ops listed = [] → Q .normal a w)
    (hI : ∀ listed a w, I listed a w → ∀ i ∈ Region.ready md ops listed, wpOp P ops Q i (I (listed.setIfInBounds i true)) a w) :
    ∀ fuel (listed : Array Bool) a w, pend listed.toList ≤ fuel → I listed a w → wpAny P md ops Q fuel listed a w
  | 0, listed, a, w, hp, h => by
    have hr : Region.ready md ops listed = [] := by
      rcases hc : Region.ready md ops listed with _ | ⟨i, l⟩
      · rfl
      · exact absurd (ready_bit (i := i) (md := md) (ops := ops) (by rw [hc]; simp)) (pend_zero _ (by omega) i)
    exact ⟨hr, hfin _ _ _ h hr⟩
  | fuel + 1, listed, a, w, hp, h => by
    refine ⟨fun hr => hfin _ _ _ h hr, fun i hi => ?_⟩
    have hb := pend_set _ _ (ready_bit hi)
    refine wpOp_mono (fun a' w' h' => ?_) (hI _ _ _ h i hi)
    exact wpAny_inv I hfin hI fuel _ _ _ (by rw [Array.toList_setIfInBounds]; omega) h'

theorem wp_region_inv {id : Nat} {a : Act} {w : World} (I : Array Bool → Act → World → Prop) (hm : P.follows .mixedOrders = true) (h0 : I (Array.replicate ops.size false) a w.drew)
    (hfin : ∀ listed a w, I listed a w → Region.ready .any ops listed = [] → Q .normal a w)
    (hI : ∀ listed a w, I listed a w → ∀ i ∈ Region.ready .any ops listed, wpOp P ops Q i (I (listed.setIfInBounds i true)) a w) : (Code.region id ops true).wp P Q a w :=
  wp_region_any hm (wpAny_inv I hfin hI _ _ _ _ (by rw [Array.toList_replicate]; unfold pend; exact Nat.le_trans List.countP_le_length (by simp)) h0)
end
end Go.Proofs.Ytnccibaifffhhaa.P
/- The document's answers on numbers: upTo. -/
namespace Go.Proofs.Ytnccibaifffhhaa
set_option linter.unusedVariables false
open Go.RowKit

/-- what upTo answers -/
def upB2 (n m : Int) : Bool := decide (0 ≤ n) && decide (n ≤ m)
theorem upB2_yes {n m : Int} (h0 : 0 ≤ n) (h1 : n ≤ m) : upB2 n m = true := by unfold upB2; simp [h0, h1]
theorem upB2_no {n m : Int} (h : n < 0 ∨ m < n) : upB2 n m = false := by
  unfold upB2
  rcases h with h | h
  · rw [decide_eq_false (show ¬ 0 ≤ n by omega)]; rfl
  · rw [decide_eq_false (show ¬ n ≤ m by omega)]; simp
end Go.Proofs.Ytnccibaifffhhaa
/- A new row of bytes by make, and what a function says that hands one on. -/
namespace Go.Proofs.Ytnccibaifffhhaa
set_option linter.unusedVariables false
open Go.RowKit P

theorem mk1 (w : World) : (Instr.makeSlice 23 (.int .i64 1) (.int .i64 1)).run Try.prog w = .ok (.slice (some ⟨w.heap.size, 0, none⟩) 1 1) (w.alloc (.cells #[.int .u8 0] 5)) := by kernel_rfl
theorem mk2 (w : World) : (Instr.makeSlice 23 (.int .i64 2) (.int .i64 2)).run Try.prog w = .ok (.slice (some ⟨w.heap.size, 0, none⟩) 2 2) (w.alloc (.cells #[.int .u8 0, .int .u8 0] 5)) := by kernel_rfl
theorem mk3 (w : World) : (Instr.makeSlice 23 (.int .i64 3) (.int .i64 3)).run Try.prog w = .ok (.slice (some ⟨w.heap.size, 0, none⟩) 3 3) (w.alloc (.cells #[.int .u8 0, .int .u8 0, .int .u8 0] 5)) := by kernel_rfl
theorem mk4 (w : World) : (Instr.makeSlice 23 (.int .i64 4) (.int .i64 4)).run Try.prog w = .ok (.slice (some ⟨w.heap.size, 0, none⟩) 4 4) (w.alloc (.cells #[.int .u8 0, .int .u8 0, .int .u8 0, .int .u8 0] 5)) := by kernel_rfl
theorem mk8 (w : World) : (Instr.makeSlice 23 (.int .i64 8) (.int .i64 8)).run Try.prog w = .ok (.slice (some ⟨w.heap.size, 0, none⟩) 8 8) (w.alloc (.cells #[.int .u8 0, .int .u8 0, .int .u8 0, .int .u8 0, .int .u8 0, .int .u8 0, .int .u8 0, .int .u8 0] 5)) := by kernel_rfl

def EncPost (zs : List Int) (w : World) (e : Ending) (w' : World) : Prop :=
  e = .returned (.tuple #[.slice (some ⟨w.heap.size, 0, none⟩) zs.length zs.length, .int .i64 0]) ∧ Below w.heap.size w w' ∧ w'.heap[w.heap.size]? = some (.cells (zs.map (.int .u8)).toArray 5 (0, 0))

theorem heap_new (w : World) (o : Obj) : (w.alloc o).drew.heap[w.heap.size]? = some o := by
  show (w.heap.push o)[w.heap.size]? = _
  simp

/-- EncPost, by what the caller wants of it -/
theorem EncPost.row {zs : List Int} {w w' : World} {e : Ending} (h : EncPost zs w e w') (hb : Byt zs) : BRow w' (w.heap.size + 1) (some ⟨w.heap.size, 0, none⟩) zs :=
  ⟨hb, fun _ => ⟨_, 0, rfl, by omega, fun j hj => by
    rw [cell_of_row w' w.heap.size (0 + j) _ _ _ h.2.2]
    simp [hj]⟩⟩
theorem EncPost.lt {zs : List Int} {w w' : World} {e : Ending} (h : EncPost zs w e w') : w.heap.size < w'.heap.size := by
  rcases Nat.lt_or_ge w.heap.size w'.heap.size with hlt | hge
  · exact hlt
  · have := h.2.2
    rw [Array.getElem?_eq_none hge] at this
    cases this
end Go.Proofs.Ytnccibaifffhhaa
/- Bytes made of a string. -/
namespace Go.Proofs.Ytnccibaifffhhaa
set_option linter.unusedVariables false
open Go.RowKit P

/-- a slice of the call's own, that reads as the bytes zs -/
def BytesPost (zs : List Int) (w : World) (e : Ending) (w' : World) : Prop :=
  ∃ g cap, e = .returned (.tuple #[.slice (some ⟨g, 0, none⟩) zs.length cap, .int .i64 0]) ∧ Below w.heap.size w w' ∧ BRow w' w'.heap.size (some ⟨g, 0, none⟩) zs

theorem bytesRow_brow (w : World) (zs : List Int) (hb : Byt zs) (cap : Nat) (e : TypeId) (fr : Nat × Nat) :
    BRow (w.drew.alloc (.cells (bytesRow (strOfNums zs) cap) e fr)) (w.heap.size + 1) (some ⟨w.heap.size, 0, none⟩) zs :=
  ⟨hb, fun _ => ⟨_, 0, rfl, by omega, fun j hj => by
    have h1 := World.cell?_alloc_mark w.drew (bytesRow (strOfNums zs) cap) e fr (0 + j)
    refine (show _ = _ from h1).trans ?_
    have hs : 0 + j < (strOfNums zs).data.size := by
      have := strOfNums_size zs
      show 0 + j < (strOfNums zs).size
      omega
    rw [bytesRow_at (strOfNums zs) cap (0 + j) hs]
    have := str_get hb (0 + j) hs
    refine (congrArg some (congrArg (Value.int .u8) (this : _ = zs.getD (0 + j) 0))).trans ?_
    rw [Nat.zero_add]⟩⟩

end Go.Proofs.Ytnccibaifffhhaa
/- Bytes made of a string, in whatever world. -/
namespace Go.Proofs.Ytnccibaifffhhaa
set_option linter.unusedVariables false
open Go.RowKit P

theorem conv_str (ys : List Int) (hb : Byt ys) (hl : ys.length ≤ 140737488351232) (w : World) : ∃ C W1, (convert 9 23 (.string (strOfNums ys))).run Try.prog w = .ok (.slice (some ⟨w.heap.size, 0, none⟩) ys.length C) W1 ∧ Below w.heap.size w W1 ∧ w.heap.size < W1.heap.size ∧ BSl W1 W1.heap.size (.slice (some ⟨w.heap.size, 0, none⟩) ys.length C) ys := by
  have hls : (strOfNums ys).size = ys.length := strOfNums_size ys
  have hrun := run_bytes_of_string (P := Try.prog) w 9 23 5 (strOfNums ys) Try.underlying9 Try.underlying23 Try.underlying5
  have hC := grownCap_ge w (strOfNums ys).size 0 5
  have hM := grownCap_le_maxLen w (strOfNums ys).size 0 5 (by rw [hls]; unfold maxLen; omega)
  rw [hls] at hC hM
  have hrow := bytesRow_brow w ys hb (grownCap w (strOfNums ys).size 0 5) 5 ((bytesRow (strOfNums ys) (grownCap w (strOfNums ys).size 0 5)).size, (bytesRow (strOfNums ys) (grownCap w (strOfNums ys).size 0 5)).size + 1)
  rw [hls] at hrow
  exact ⟨_, _, by rw [hrun, hls], ((Below.refl w.heap.size w).drew).alloc (Nat.le_refl _) _, by simp, ⟨_, _, rfl, hC, hM, (fun e => by cases e), hrow.more (by simp)⟩⟩
end Go.Proofs.Ytnccibaifffhhaa
/- Rows of bytes of a function's own; what the type uint8 says of itself. -/
namespace Go.Proofs.Ytnccibaifffhhaa
set_option linter.unusedVariables false
open Go.RowKit P

theorem own_base {w : World} {base base' e size n : Nat} {v : Value} {xs : List Value} (h : w.ownsRow base e size v n xs) (hb : base' ≤ base) : w.ownsRow base' e size v n xs := by
  refine ⟨h.1, ?_⟩
  rcases h.2 with h2 | ⟨g, cap, cur, hv, hg, r⟩
  · exact .inl h2
  · exact .inr ⟨g, cap, cur, hv, Nat.le_trans hb hg, r⟩
theorem none_or (v : Value) : v.ownBlock = none ∨ v.ownBlock ≠ none := by cases v.ownBlock with | none => exact .inl rfl | some k => exact .inr (by simp)
theorem own_bsl {w : World} {base e n : Nat} {v : Value} {zs : List Int} (h : w.ownsRow base e 1 v n (zs.map (.int .u8))) (hb : Byt zs) : BSl w w.heap.size v zs := by
  have hl : zs.length = n := by simpa using h.1
  rcases h.2 with ⟨rfl, h0⟩ | ⟨g, cap, cur, rfl, _, hg, h1, h2, h3, h4⟩
  · have e0 : zs = [] := List.eq_nil_of_length_eq_zero (by omega)
    subst e0
    exact BSl.nil _ _
  · subst hl
    exact ⟨_, _, rfl, h1, h2, (fun e => by cases e), own_brow ⟨by simp, .inr ⟨g, cap, cur, rfl, by assumption, hg, h1, h2, h3, h4⟩⟩ hb⟩
theorem infoB1 : (Try.prog.info? 5).map (fun i => (i.zero, i.size, i.bytes)) = some (some (.int .u8 0), 1, 1) := by kernel_rfl
theorem own_mtB (w : World) (base : Nat) (t : TypeId) (hb : base ≤ w.heap.size) : (w.alloc (.cells #[] t)).ownsRow base t 1 (.slice (some ⟨w.heap.size, 0, none⟩) 0 0) 0 [] :=
  ⟨rfl, .inr ⟨w.heap.size, 0, #[], rfl, hb, heap_alloc_new w (.cells #[] t), Nat.le_refl _, by unfold maxLen; omega, rfl, rfl⟩⟩
end Go.Proofs.Ytnccibaifffhhaa
/- The verifier's texts' own 'picked': a number's remainder, never below nought. -/
namespace Go.Proofs.Ytnccibaifffhhaa
set_option linter.unusedVariables false
open Go.RowKit

theorem tmod_facts (n m : Int) (hm : 0 < m) : (0 ≤ n.tmod m → n.tmod m = n % m) ∧ (n.tmod m < 0 → n.tmod m + m = n % m) ∧ -m < n.tmod m ∧ n.tmod m < m := by
  have e0 := Int.emod_nonneg n (show m ≠ 0 by omega)
  have e1 := Int.emod_lt_of_pos n hm
  rcases Int.le_total 0 n with h | h
  · rw [Int.tmod_eq_emod_of_nonneg h]
    refine ⟨fun _ => rfl, fun h' => by omega, by omega, e1⟩
  · by_cases hd : m ∣ n
    · have h1 : n.tmod m = 0 := Int.tmod_eq_zero_of_dvd hd
      have h2 : n % m = 0 := Int.emod_eq_zero_of_dvd hd
      rw [h1, h2]
      refine ⟨fun _ => rfl, fun h' => by omega, by omega, hm⟩
    · have h3 : n.tmod m = n % m - m := by
        rw [Int.tmod_eq_emod]
        have : ¬ (0 ≤ n ∨ m ∣ n) := by
          intro h'
          rcases h' with h' | h'
          · have : n = 0 := by omega
            subst this; exact hd (Int.dvd_zero m)
          · exact hd h'
        rw [if_neg this]
        omega
      have h4 : n % m ≠ 0 := fun h => hd (Int.dvd_of_emod_eq_zero h)
      rw [h3]
      refine ⟨fun h' => by omega, fun _ => by omega, by omega, by omega⟩

theorem picked_any (n m : Int) (hm : 0 < m) (hm1 : m ≤ 9223372036854775807) (w : World) :
    Calls Try.prog 11 #[.int .i64 n, .int .i64 m] w fun e w' => e = .returned (.int .i64 (n % m)) ∧ w = w' := by
  obtain ⟨f1, f2, f3, f4⟩ := tmod_facts n m hm
  have hm0 : (m == 0) = false := by simp; omega
  by_cases h : n.tmod m < 0
  · have e := Lib.hid (f2 h)
    clear f1 f2
    generalize hq : n.tmod m = q at *
    go_enter Try.func11, Try.ntmps11
    go_wp2
    go_ret
    exact ⟨by rw [← e.out]; rfl, rfl⟩
  · have e := Lib.hid (f1 (by omega))
    clear f1 f2
    generalize hq : n.tmod m = q at *
    go_enter Try.func11, Try.ntmps11
    go_wp2
    go_ret
    exact ⟨by rw [← e.out]; rfl, rfl⟩
end Go.Proofs.Ytnccibaifffhhaa
/- The verifier's texts' raw things in memory: four cells each. And their 'some', 'picked'. -/
namespace Go.Proofs.Ytnccibaifffhhaa
set_option linter.unusedVariables false
open Go.RowKit P

structure RawT where
  kind : Int
  a : Int
  b : Int
  text : ByteArray

def raw0 : RawT := ⟨0, 0, 0, ByteArray.empty⟩

/-- 'A' leads to a row below block B whose cells are the raw things rs -/
def RawRow (w : World) (B : Nat) (A : Option Addr) (rs : List RawT) : Prop :=
  0 < rs.length → ∃ b off, A = some ⟨b, off, none⟩ ∧ b < B ∧ ∀ j, j < rs.length →
    w.cell? ⟨b, off + j * 4, none⟩ = some (.int .i64 (rs.getD j raw0).kind) ∧ w.cell? ⟨b, off + j * 4 + 1, none⟩ = some (.int .i64 (rs.getD j raw0).a) ∧
    w.cell? ⟨b, off + j * 4 + 2, none⟩ = some (.int .i64 (rs.getD j raw0).b) ∧ w.cell? ⟨b, off + j * 4 + 3, none⟩ = some (.string (rs.getD j raw0).text)
theorem RawRow.keep {w w' : World} {B : Nat} {A : Option Addr} {rs : List RawT} (h : RawRow w B A rs) (hk : ∀ p : Addr, p.block < B → w'.cell? p = w.cell? p) : RawRow w' B A rs := fun hn => by
  obtain ⟨b, off, e, hb, hc⟩ := h hn
  exact ⟨b, off, e, hb, fun j hj => ⟨(hk _ hb).trans (hc j hj).1, (hk _ hb).trans (hc j hj).2.1, (hk _ hb).trans (hc j hj).2.2.1, (hk _ hb).trans (hc j hj).2.2.2⟩⟩
theorem RawRow.below {w w' : World} {B : Nat} {A : Option Addr} {rs : List RawT} (h : RawRow w B A rs) (hb : Below B w w') : RawRow w' B A rs := h.keep fun _ hp => hb.cell hp

theorem some20 (A : Option Addr) (len cap : Nat) (w : World) (hl : len ≤ cap) (hc : cap ≤ maxLen) :
    Calls Try.prog 40 #[.slice A len cap, .int .i64 20] w fun e w' => e = .returned (.slice A (min len 20) cap) ∧ w = w' := by
  unfold maxLen at hc
  by_cases h : 20 < len
  · have e := Lib.hid (show min len 20 = 20 by omega)
    go_enter Try.func40, Try.ntmps40
    go_wp2
    go_ret
    exact ⟨by rw [e.out]; rfl, rfl⟩
  · have e := Lib.hid (show min len 20 = len by omega)
    go_enter Try.func40, Try.ntmps40
    go_wp2
    go_ret
    exact ⟨by rw [e.out]; rfl, rfl⟩
end Go.Proofs.Ytnccibaifffhhaa
/- What one argument weighs. Nothing of the program's. -/
namespace Go.Proofs.Ytnccibaifffhhaa.P
set_option linter.unusedVariables false
theorem weigh_mem {H : Type} {P : Program} {e : TypeId} : ∀ {l : List (DataW H)} {d : DataW H}, d ∈ l → ∀ n ∈ d.weights P e, n ∈ DataW.weightsAll P e l
  | x :: r, d, hd, n, hn => by
    simp only [DataW.weightsAll, List.mem_append]
    rcases List.mem_cons.1 hd with h | h
    · subst h; exact .inl hn
    · exact .inr (weigh_mem h n hn)
/-- what one argument weighs -/
theorem weigh_at {H : Type} {P : Program} {ts : List TypeId} {ds : List (DataW H)} (h : (DataW.weightsEach P ts ds).all (· ≤ reachBytes) = true) {j : Nat} {t : TypeId} {d : DataW H} (ht : ts[j]? = some t) (hd : ds[j]? = some d) : ∀ n ∈ d.weights P t, n ≤ 140737488351232 := fun n hn =>
  of_decide_eq_true (List.all_eq_true.1 h _ (DataW.weights_mem_each ht hd n hn))
end Go.Proofs.Ytnccibaifffhhaa.P
