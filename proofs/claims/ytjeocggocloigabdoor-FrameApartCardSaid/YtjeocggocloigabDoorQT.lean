/- Texts of the proofs, joined. -/
import Derived.Deep.RegionHeld
import Derived.Test.YtjeocggocloigabDoorQR
/- A region that draws its order, by an invariant over what has come up: each operation is looked at once, whatever came up before it. Nothing of the program's. -/
namespace Go.Proofs.YtjeocggocloigabDoor.P
set_option linter.unusedVariables false

section
variable {P : Program} {ops : Array Oper} {Q : Exit → Act → World → Prop} {md : Region.Mode}
/-- how many have not come up -/
def pend (l : List Bool) : Nat := l.countP (fun b => !b)
theorem pend_set : ∀ (l : List Bool) (i : Nat), l[i]? = some false → pend (l.set i true) + 1 = pend l
  | [], i, h => by simp at h
  | b :: l, 0, h => by
    simp only [List.getElem?_cons_zero, Option.some.injEq] at h
    subst h
    simp [pend]
  | b :: l, i + 1, h => by
    simp only [List.getElem?_cons_succ] at h
    have := pend_set l i h
    simp only [pend, List.set_cons_succ, List.countP_cons] at *
    omega
theorem pend_zero : ∀ (l : List Bool), pend l = 0 → ∀ i : Nat, l[i]? ≠ some false
  | [], _, i => by simp
  | b :: l, h, 0 => by
    simp only [pend, List.countP_cons] at h
    cases b
    · simp at h
    · simp
  | b :: l, h, i + 1 => by
    simp only [List.getElem?_cons_succ]
    exact pend_zero l (by simp only [pend, List.countP_cons] at *; omega) i

theorem ready_bit {i : Nat} {listed : Array Bool} (h : i ∈ Region.ready md ops listed) : listed.toList[i]? = some false := by
  have h1 := (mem_ready.1 h).1
  rw [Array.getElem?_toList]
  rcases Nat.lt_or_ge i listed.size with h2 | h2
  · simp only [Array.getD, h2, dite_true] at h1
    simp [h2, ← h1]
  · simp only [Array.getD, Nat.not_lt.2 h2, dite_false] at h1
    cases h1

/-- the law: I holds at the beginning, each operation that may come up hands it on, and in the end it gives what is wanted -/
theorem wpAny_inv (I : Array Bool → Act → World → Prop) (hfin : ∀ listed a w, I listed a w → Region.ready md ops listed = [] → Q .normal a w)
    (hI : ∀ listed a w, I listed a w → ∀ i ∈ Region.ready md ops listed, wpOp P ops Q i (I (listed.setIfInBounds i true)) a w) :
    ∀ fuel (listed : Array Bool) a w, pend listed.toList ≤ fuel → I listed a w → wpAny P md ops Q fuel listed a w
  | 0, listed, a, w, hp, h => by
    have hr : Region.ready md ops listed = [] := by
      rcases hc : Region.ready md ops listed with _ | ⟨i, l⟩
      · rfl
      · exact absurd (ready_bit (i := i) (md := md) (ops := ops) (by rw [hc]; simp)) (pend_zero _ (by omega) i)
    exact ⟨hr, hfin _ _ _ h hr⟩
  | fuel + 1, listed, a, w, hp, h => by
    refine ⟨fun hr => hfin _ _ _ h hr, fun i hi => ?_⟩
    have hb := pend_set _ _ (ready_bit hi)
    refine wpOp_mono (fun a' w' h' => ?_) (hI _ _ _ h i hi)
    exact wpAny_inv I hfin hI fuel _ _ _ (by rw [Array.toList_setIfInBounds]; omega) h'

theorem wp_region_inv {id : Nat} {a : Act} {w : World} (I : Array Bool → Act → World → Prop) (hm : P.follows .mixedOrders = true) (h0 : I (Array.replicate ops.size false) a w.drew)
    (hfin : ∀ listed a w, I listed a w → Region.ready .any ops listed = [] → Q .normal a w)
    (hI : ∀ listed a w, I listed a w → ∀ i ∈ Region.ready .any ops listed, wpOp P ops Q i (I (listed.setIfInBounds i true)) a w) : (Code.region id ops true).wp P Q a w :=
  wp_region_any hm (wpAny_inv I hfin hI _ _ _ _ (by rw [Array.toList_replicate]; unfold pend; exact Nat.le_trans List.countP_le_length (by simp)) h0)
end
end Go.Proofs.YtjeocggocloigabDoor.P
/- A statement that calls for two frames and lays each into a variable, its order left open: what holds whatever came up. Nothing of the program's. -/
namespace Go.Proofs.YtjeocggocloigabDoor
set_option linter.unusedVariables false
open Go.RowKit P

/-- the seven cells of a new variable -/
def zCells : Array Value := #[.int .i64 0, .int .i64 0, .int .i64 0, .bool false, .int .i64 0, .slice none 0 0, .slice none 0 0]
/-- a frame whose first range does not begin with 0 -/
def Lo1 (f : Fr) : Prop := 0 < f.rs.length → (f.rs.getD 0 (0, 0)).1 ≠ 0
theorem fOf_rs {q : Int} (x y : Int) (d : List Int) (h : q ≠ 1) : (fOf q x y d).rs = [] := by
  unfold fOf
  rw [if_neg h]
  simp only [apply_ite Fr.rs, ite_self]
theorem fOf_lo (q x y : Int) (d : List Int) : Lo1 (fOf q x y d) := by
  by_cases h : q = 1
  · subst h
    obtain ⟨n, hn⟩ : ∃ n, (1 + x % 3).toNat = n + 1 := ⟨(x % 3).toNat, by omega⟩
    unfold Lo1 fOf
    rw [if_neg (by decide), if_pos rfl, hn]
    simp only [List.take_succ_cons, List.getD_cons_zero]
    omega
  · intro h1
    rw [fOf_rs x y d h] at h1
    exact absurd h1 (by simp)

theorem z_int {p : Nat} {w : World} {T : TypeId} (hz : w.heap[p]? = some (.cells zCells T (0, 0))) {off : Nat} {k : IntKind} {n : Int} (h : w.cell? ⟨p, off, none⟩ = some (.int k n)) : k = .i64 ∧ n = 0 := by
  rw [blk_cell hz] at h
  rcases off with _ | _ | _ | _ | _ | _ | _ | off <;> simp [zCells] at h <;> (obtain ⟨rfl, rfl⟩ := h; exact ⟨rfl, rfl⟩)
theorem rsl_z {p : Nat} {w w' : World} {T : TypeId} (hz : w.heap[p]? = some (.cells zCells T (0, 0))) (g : w.grownBy w' (some p)) {v : Value} {ps : List (Int × Int)} (h : RSl w w.heap.size v ps) (hlo : 0 < ps.length → (ps.getD 0 (0, 0)).1 ≠ 0) : RSl w' w'.heap.size v ps := by
  obtain ⟨A, c, rfl, h1, h2, h3⟩ := h.ex
  refine ⟨A, c, rfl, h1, h2, fun hn => ?_⟩
  obtain ⟨b, off, e, hb, hc⟩ := h3 hn
  have hp : b ≠ p := fun e => by
    subst e
    have := (hc 0 hn).1
    exact hlo hn (z_int hz this).2
  have key : ∀ i, w'.cell? ⟨b, i, none⟩ = w.cell? ⟨b, i, none⟩ := fun i => by
    have := g.block b hb (by simp; exact hp)
    simp only [World.cell?, this]
  exact ⟨b, off, e, Nat.lt_of_lt_of_le hb g.size, fun j hj => ⟨(key _).trans (hc j hj).1, (key _).trans (hc j hj).2⟩⟩
theorem bsl_z {p : Nat} {w w' : World} {T : TypeId} (hz : w.heap[p]? = some (.cells zCells T (0, 0))) (g : w.grownBy w' (some p)) {v : Value} {zs : List Int} (h : BSl w w.heap.size v zs) : BSl w' w'.heap.size v zs := by
  obtain ⟨A, c, rfl, h1, h2, hn0, hy, h3⟩ := h.ex
  refine ⟨A, c, rfl, h1, h2, hn0, hy, fun hn => ?_⟩
  obtain ⟨b, off, e, hb, hc⟩ := h3 hn
  have hp : b ≠ p := fun e => by
    subst e
    have := (z_int hz (hc 0 hn)).1
    cases this
  have key : ∀ i, w'.cell? ⟨b, i, none⟩ = w.cell? ⟨b, i, none⟩ := fun i => by
    have := g.block b hb (by simp; exact hp)
    simp only [World.cell?, this]
  exact ⟨b, off, e, Nat.lt_of_lt_of_le hb g.size, fun j hj => (key _).trans (hc j hj)⟩
theorem frVal_z {p : Nat} {w w' : World} {T : TypeId} (hz : w.heap[p]? = some (.cells zCells T (0, 0))) (g : w.grownBy w' (some p)) {v : Value} {f : Fr} (h : FrVal w w.heap.size v f) (hlo : Lo1 f) : FrVal w' w'.heap.size v f := by
  obtain ⟨r, d, rfl, hr, hd⟩ := h.ex
  exact ⟨r, d, rfl, rsl_z hz g hr hlo, bsl_z hz g hd⟩

theorem grown_within {W w w' : World} (h : Below W.heap.size W w) {y : Nat} (hy : W.heap.size ≤ y) (g : w.grownBy w' (some y)) : Below W.heap.size W w' :=
  ⟨g.os.trans h.os, g.tape.trans h.tape, g.output.trans h.output, Nat.le_trans h.size g.size, fun k hk => (g.block k (Nat.lt_of_lt_of_le hk h.size) (by simp; omega)).trans (h.block k hk)⟩

/-- what holds when b0 .. b7 have come up -/
structure Two (f f' : Fr) (R T : Value) (W : World) (b0 b1 b2 b3 b4 b5 b6 b7 : Bool) (x5 x6 x12 x13 x14 x15 : Value) (p q : Nat) (r1 d1 r2 d2 : Value) (w : World) : Prop where
  hb : Below W.heap.size W w
  h0 : b0 = true → x12 = R
  h1 : b1 = true → x13 = .agg (frCells f r1 d1) ∧ FrVal w w.heap.size x13 f
  h2 : b2 = true → x14 = T
  h3 : b3 = true → x15 = .agg (frCells f' r2 d2) ∧ FrVal w w.heap.size x15 f'
  h4 : b4 = true → x5 = .pointer (some ⟨p, 0, none⟩) ∧ W.heap.size ≤ p ∧ w.heap[p]? = some (.cells (if b6 then frCells f r1 d1 else zCells) 33 (0, 0))
  h5 : b5 = true → x6 = .pointer (some ⟨q, 0, none⟩) ∧ W.heap.size ≤ q ∧ w.heap[q]? = some (.cells (if b7 then frCells f' r2 d2 else zCells) 33 (0, 0))
  hpq : b4 = true → b5 = true → p ≠ q
  h6 : b6 = true → b1 = true ∧ b4 = true
  h7 : b7 = true → b3 = true ∧ b5 = true

section
variable {f f' : Fr} {R T : Value} {W : World} {b0 b1 b2 b3 b4 b5 b6 b7 : Bool} {x5 x6 x12 x13 x14 x15 : Value} {p q : Nat} {r1 d1 r2 d2 : Value} {w : World}
theorem Two.start (f f' : Fr) (R T : Value) (W : World) (x5 x6 x12 x13 x14 x15 : Value) : Two f f' R T W false false false false false false false false x5 x6 x12 x13 x14 x15 0 0 undef undef undef undef W.drew :=
  ⟨(Below.refl _ _).drew, fun h => (by cases h), fun h => (by cases h), fun h => (by cases h), fun h => (by cases h), fun h => (by cases h), fun h => (by cases h), fun h => (by cases h), fun h => (by cases h), fun h => (by cases h)⟩
theorem Two.on (h : Two f f' R T W b0 b1 b2 b3 b4 b5 b6 b7 x5 x6 x12 x13 x14 x15 p q r1 d1 r2 d2 w) {w' : World} (hb : Below w.heap.size w w') : Two f f' R T W b0 b1 b2 b3 b4 b5 b6 b7 x5 x6 x12 x13 x14 x15 p q r1 d1 r2 d2 w' :=
  ⟨h.hb.trans (hb.mono h.hb.size), h.h0, fun e => ⟨(h.h1 e).1, (h.h1 e).2.on hb⟩, h.h2, fun e => ⟨(h.h3 e).1, (h.h3 e).2.on hb⟩,
    fun e => ⟨(h.h4 e).1, (h.h4 e).2.1, (hb.block _ (lt_of_block (h.h4 e).2.2)).trans (h.h4 e).2.2⟩, fun e => ⟨(h.h5 e).1, (h.h5 e).2.1, (hb.block _ (lt_of_block (h.h5 e).2.2)).trans (h.h5 e).2.2⟩, h.hpq, h.h6, h.h7⟩
theorem Two.s0 (h : Two f f' R T W b0 b1 b2 b3 b4 b5 b6 b7 x5 x6 x12 x13 x14 x15 p q r1 d1 r2 d2 w) : Two f f' R T W true b1 b2 b3 b4 b5 b6 b7 x5 x6 R x13 x14 x15 p q r1 d1 r2 d2 w :=
  ⟨h.hb, fun _ => rfl, h.h1, h.h2, h.h3, h.h4, h.h5, h.hpq, h.h6, h.h7⟩
theorem Two.s2 (h : Two f f' R T W b0 b1 b2 b3 b4 b5 b6 b7 x5 x6 x12 x13 x14 x15 p q r1 d1 r2 d2 w) : Two f f' R T W b0 b1 true b3 b4 b5 b6 b7 x5 x6 x12 x13 T x15 p q r1 d1 r2 d2 w :=
  ⟨h.hb, h.h0, h.h1, fun _ => rfl, h.h3, h.h4, h.h5, h.hpq, h.h6, h.h7⟩
theorem Two.s1 (h : Two f f' R T W b0 false b2 b3 b4 b5 b6 b7 x5 x6 x12 x13 x14 x15 p q r1 d1 r2 d2 w) {w' : World} {r d : Value} (hv : FrVal w' w'.heap.size (.agg (frCells f r d)) f) (hb : Below w.heap.size w w') : Two f f' R T W b0 true b2 b3 b4 b5 b6 b7 x5 x6 x12 (.agg (frCells f r d)) x14 x15 p q r d r2 d2 w' := by
  have h' := h.on hb
  have e6 : b6 = false := by cases b6 with | false => rfl | true => exact absurd (h.h6 rfl).1 (by decide)
  subst e6
  exact ⟨h'.hb, h'.h0, fun _ => ⟨rfl, hv⟩, h'.h2, h'.h3, h'.h4, h'.h5, h'.hpq, fun e => (by cases e), h'.h7⟩
theorem Two.s3 (h : Two f f' R T W b0 b1 b2 false b4 b5 b6 b7 x5 x6 x12 x13 x14 x15 p q r1 d1 r2 d2 w) {w' : World} {r d : Value} (hv : FrVal w' w'.heap.size (.agg (frCells f' r d)) f') (hb : Below w.heap.size w w') : Two f f' R T W b0 b1 b2 true b4 b5 b6 b7 x5 x6 x12 x13 x14 (.agg (frCells f' r d)) p q r1 d1 r d w' := by
  have h' := h.on hb
  have e7 : b7 = false := by cases b7 with | false => rfl | true => exact absurd (h.h7 rfl).1 (by decide)
  subst e7
  exact ⟨h'.hb, h'.h0, h'.h1, h'.h2, fun _ => ⟨rfl, hv⟩, h'.h4, h'.h5, h'.hpq, h'.h6, fun e => (by cases e)⟩
theorem Two.s4 (h : Two f f' R T W b0 b1 b2 b3 false b5 b6 b7 x5 x6 x12 x13 x14 x15 p q r1 d1 r2 d2 w) : Two f f' R T W b0 b1 b2 b3 true b5 b6 b7 (.pointer (some ⟨w.heap.size, 0, none⟩)) x6 x12 x13 x14 x15 w.heap.size q r1 d1 r2 d2 (w.alloc (.cells zCells 33)) := by
  have h' := h.on ((Below.refl w.heap.size w).alloc (Nat.le_refl _) (.cells zCells 33))
  have e6 : b6 = false := by cases b6 with | false => rfl | true => exact absurd (h.h6 rfl).2 (by decide)
  subst e6
  exact ⟨h'.hb, h'.h0, h'.h1, h'.h2, h'.h3, fun _ => ⟨rfl, h.hb.size, heap_alloc_new w _⟩, h'.h5, fun _ e => (by have := lt_of_block (h.h5 e).2.2; omega), fun e => (by cases e), h'.h7⟩
theorem Two.s5 (h : Two f f' R T W b0 b1 b2 b3 b4 false b6 b7 x5 x6 x12 x13 x14 x15 p q r1 d1 r2 d2 w) : Two f f' R T W b0 b1 b2 b3 b4 true b6 b7 x5 (.pointer (some ⟨w.heap.size, 0, none⟩)) x12 x13 x14 x15 p w.heap.size r1 d1 r2 d2 (w.alloc (.cells zCells 33)) := by
  have h' := h.on ((Below.refl w.heap.size w).alloc (Nat.le_refl _) (.cells zCells 33))
  have e7 : b7 = false := by cases b7 with | false => rfl | true => exact absurd (h.h7 rfl).2 (by decide)
  subst e7
  exact ⟨h'.hb, h'.h0, h'.h1, h'.h2, h'.h3, h'.h4, fun _ => ⟨rfl, h.hb.size, heap_alloc_new w _⟩, fun e _ => (by have := lt_of_block (h.h4 e).2.2; omega), h'.h6, fun e => (by cases e)⟩
theorem Two.s6 (h : Two f f' R T W b0 true b2 b3 true b5 false b7 x5 x6 x12 x13 x14 x15 p q r1 d1 r2 d2 w) (hl : Lo1 f) (hl' : Lo1 f') {w' : World} (g : w.grownBy w' (some p)) (hp : w'.heap[p]? = some (.cells (frCells f r1 d1) 33 (0, 0))) :
    Two f f' R T W b0 true b2 b3 true b5 true b7 x5 x6 x12 x13 x14 x15 p q r1 d1 r2 d2 w' :=
  have z := (h.h4 rfl).2.2
  ⟨grown_within h.hb (h.h4 rfl).2.1 g, h.h0, fun e => ⟨(h.h1 e).1, frVal_z z g (h.h1 e).2 hl⟩, h.h2, fun e => ⟨(h.h3 e).1, frVal_z z g (h.h3 e).2 hl'⟩, fun e => ⟨(h.h4 e).1, (h.h4 e).2.1, hp⟩,
    fun e => ⟨(h.h5 e).1, (h.h5 e).2.1, (g.block _ (lt_of_block (h.h5 e).2.2) (by have := h.hpq rfl e; simp; omega)).trans (h.h5 e).2.2⟩, h.hpq, fun _ => ⟨rfl, rfl⟩, h.h7⟩
theorem Two.s7 (h : Two f f' R T W b0 b1 b2 true b4 true b6 false x5 x6 x12 x13 x14 x15 p q r1 d1 r2 d2 w) (hl : Lo1 f) (hl' : Lo1 f') {w' : World} (g : w.grownBy w' (some q)) (hq : w'.heap[q]? = some (.cells (frCells f' r2 d2) 33 (0, 0))) :
    Two f f' R T W b0 b1 b2 true b4 true b6 true x5 x6 x12 x13 x14 x15 p q r1 d1 r2 d2 w' :=
  have z := (h.h5 rfl).2.2
  ⟨grown_within h.hb (h.h5 rfl).2.1 g, h.h0, fun e => ⟨(h.h1 e).1, frVal_z z g (h.h1 e).2 hl⟩, h.h2, fun e => ⟨(h.h3 e).1, frVal_z z g (h.h3 e).2 hl'⟩,
    fun e => ⟨(h.h4 e).1, (h.h4 e).2.1, (g.block _ (lt_of_block (h.h4 e).2.2) (by have := h.hpq e rfl; simp; omega)).trans (h.h4 e).2.2⟩, fun e => ⟨(h.h5 e).1, (h.h5 e).2.1, hq⟩, h.hpq, h.h6, fun _ => ⟨rfl, rfl⟩⟩
end
def TwoInv (f f' : Fr) (R T : Value) (W : World) (A : Value → Value → Value → Value → Value → Value → Act) (listed : Array Bool) (a : Act) (w : World) : Prop :=
  ∃ (b0 b1 b2 b3 b4 b5 b6 b7 : Bool) (x5 x6 x12 x13 x14 x15 : Value) (p q : Nat) (r1 d1 r2 d2 : Value), listed = #[b0, b1, b2, b3, b4, b5, b6, b7] ∧ a = A x5 x6 x12 x13 x14 x15 ∧ Two f f' R T W b0 b1 b2 b3 b4 b5 b6 b7 x5 x6 x12 x13 x14 x15 p q r1 d1 r2 d2 w
end Go.Proofs.YtjeocggocloigabDoor
