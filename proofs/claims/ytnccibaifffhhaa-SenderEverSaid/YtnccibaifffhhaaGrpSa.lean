/- Several texts in one. -/
import Derived.Test.YtnccibaifffhhaaGrpB
import Derived.Test.YtnccibaifffhhaaGrpZd
import Derived.Test.YtnccibaifffhhaaGrpA
import Derived.Test.YtnccibaifffhhaaRows
import Derived.WalkKit
import Derived.Handy
import Derived.Lib.Hide
import Derived.Outline
import Derived.Deep.LoopGhost
import Derived.Deep.CutRange
/- What stays true as long as all blocks but some are as they were. Nothing of the program's. -/
namespace Go.Proofs.Ytnccibaifffhhaa
set_option linter.unusedVariables false
open Go.RowKit P

/-- all blocks but some are as they were -/
structure KpS (S : Nat → Prop) (w w' : World) : Prop where
  size : w.heap.size ≤ w'.heap.size
  block : ∀ k, ¬ S k → k < w.heap.size → w'.heap[k]? = w.heap[k]?
theorem KpS.refl (S : Nat → Prop) (w : World) : KpS S w w := ⟨Nat.le_refl _, fun _ _ _ => rfl⟩
theorem KpS.trans {S : Nat → Prop} {a b c : World} (h : KpS S a b) (k : KpS S b c) : KpS S a c := ⟨Nat.le_trans h.size k.size, fun i h1 h2 => (k.block i h1 (Nat.lt_of_lt_of_le h2 h.size)).trans (h.block i h1 h2)⟩
theorem KpS.below {S : Nat → Prop} {w w' : World} (h : Below w.heap.size w w') : KpS S w w' := ⟨h.size, fun k _ hk => h.block k hk⟩
theorem KpS.gr {S : Nat → Prop} {y : Nat} {w w' : World} (g : w.grownBy w' (some y)) (hy : S y) : KpS S w w' := ⟨g.size, fun k h1 h2 => g.block k h2 (fun e => h1 (by cases e; exact hy))⟩
theorem KpS.grO {S : Nat → Prop} {r : Option Nat} {w w' : World} (g : w.grownBy w' r) (hy : ∀ y, r = some y → S y) : KpS S w w' := ⟨g.size, fun k h1 h2 => g.block k h2 (fun e => h1 (hy k e.symm))⟩
theorem KpS.mono {S S' : Nat → Prop} {w w' : World} (h : KpS S w w') (hs : ∀ j, S j → S' j) : KpS S' w w' := ⟨h.size, fun k h1 h2 => h.block k (fun q => h1 (hs k q)) h2⟩
/-- a fact that holds as long as all blocks but those of S are as they were -/
def StS (w : World) (S : Nat → Prop) (R : World → Prop) : Prop := ∀ w', KpS S w w' → R w'
theorem StS.now {w : World} {S : Nat → Prop} {R : World → Prop} (h : StS w S R) : R w := h w (KpS.refl _ _)
theorem StS.on {w w' : World} {S : Nat → Prop} {R : World → Prop} (h : StS w S R) (k : KpS S w w') : StS w' S R := fun _ k2 => h _ (k.trans k2)
theorem StS.later {w w' : World} {S : Nat → Prop} {R : World → Prop} (h : StS w S R) (b : Below w.heap.size w w') : StS w' S R := h.on (KpS.below b)
theorem StS.anti {w : World} {S S' : Nat → Prop} {R : World → Prop} (h : StS w S R) (hs : ∀ j, S' j → S j) : StS w S' R := fun _ k => h _ (k.mono hs)
theorem StS.new {w w' : World} {S : Nat → Prop} {R : World → Prop} (h : StS w S R) (hb : Below w.heap.size w w') : StS w' (fun j => S j ∨ w.heap.size ≤ j) R := fun w'' k =>
  h w'' ⟨Nat.le_trans hb.size k.size, fun i h1 h2 => (k.block i (fun q => q.elim h1 (by omega)) (Nat.lt_of_lt_of_le h2 hb.size)).trans (hb.block i h2)⟩
theorem StS.imp {w : World} {S : Nat → Prop} {R R' : World → Prop} (h : StS w S R) (hr : ∀ w, R w → R' w) : StS w S R' := fun w' k => hr _ (h w' k)
theorem StS.and {w : World} {S : Nat → Prop} {R R' : World → Prop} (h : StS w S R) (h' : StS w S R') : StS w S (fun w => R w ∧ R' w) := fun w' k => ⟨h w' k, h' w' k⟩
theorem keeps_kpS {w w' : World} {lo : Nat} (k : KpS (fun j => j < lo) w w') : Keeps lo w w' := ⟨k.size, fun i h1 h2 => k.block i (Nat.not_lt.2 h1) h2⟩
/-- the blocks ahead of a world, and a variable, once it is there -/
def SXv (w0 : World) (b : Bool) (x : Value) : Nat → Prop := fun j => j < w0.heap.size ∨ (b = true ∧ x = .pointer (some ⟨j, 0, none⟩))
theorem StS.made {w0 w w' : World} {x : Value} {R : World → Prop} (h : StS w (SXv w0 false x) R) (hb : Below w.heap.size w w') : StS w' (SXv w0 true (.pointer (some ⟨w.heap.size, 0, none⟩))) R :=
  (h.new hb).anti fun j hj => by
    rcases hj with hj | ⟨_, hj⟩
    · exact .inl (.inl hj)
    · cases hj
      exact .inr (Nat.le_refl _)
theorem StS.toX {w0 w w1 : World} {b : Bool} {x : Value} {R : World → Prop} (h : StS w1 (fun j => j < w.heap.size) R) (h0 : w0.heap.size ≤ w.heap.size) (hx : b = true → ∃ k, x = .pointer (some ⟨k, 0, none⟩) ∧ k < w.heap.size) : StS w1 (SXv w0 b x) R :=
  h.anti fun j hj => by
    rcases hj with hj | ⟨hb, hj⟩
    · show j < w.heap.size; omega
    · obtain ⟨k, e, hk⟩ := hx hb
      rw [e] at hj
      cases hj
      exact hk
end Go.Proofs.Ytnccibaifffhhaa
/- A block of cells, all written one behind the other. Nothing of the program's. -/
namespace Go.Proofs.Ytnccibaifffhhaa.P
set_option linter.unusedVariables false
open Go.RowKit

def setAll (w : World) (b : Nat) : Nat → List Value → World
  | _, [] => w
  | i, v :: vs => setAll (w.setCell ⟨b, i, none⟩ v) b (i + 1) vs
theorem set_parts (l : List Value) (i : Nat) (v : Value) (vs : List Value) (h : i + (vs.length + 1) ≤ l.length) :
    (l.set i v).take (i + 1) ++ vs ++ (l.set i v).drop (i + 1 + vs.length) = l.take i ++ (v :: vs) ++ l.drop (i + (vs.length + 1)) := by
  have h1 : (l.set i v).take (i + 1) = l.take i ++ [v] := by
    apply List.ext_getElem?
    intro k
    rw [List.getElem?_take, List.getElem?_set, List.getElem?_append, List.length_take, List.getElem?_take]
    by_cases h1 : k < i
    · rw [if_pos (by omega), if_neg (by omega), if_pos (by omega), if_pos h1]
    · by_cases h2 : k = i
      · subst h2
        rw [if_pos (by omega), if_pos rfl, if_pos (by omega), if_neg (by omega)]
        simp [show k - min k l.length = 0 by omega]
      · rw [if_neg (by omega), if_neg (by omega)]
        rw [List.getElem?_eq_none]
        simp; omega
  have h2 : (l.set i v).drop (i + 1 + vs.length) = l.drop (i + (vs.length + 1)) := by
    rw [show i + (vs.length + 1) = i + 1 + vs.length by omega]
    exact List.drop_set_of_lt (by omega)
  rw [h1, h2]
  simp
theorem setAll_is {b : Nat} {T : TypeId} : ∀ (vs : List Value) (i : Nat) (w : World) (l : List Value), w.heap[b]? = some (.cells l.toArray T (0, 0)) → i + vs.length ≤ l.length →
    (setAll w b i vs).heap[b]? = some (.cells (l.take i ++ vs ++ l.drop (i + vs.length)).toArray T (0, 0)) ∧ w.grownBy (setAll w b i vs) (some b)
  | [], i, w, l, h, hl => by
    refine ⟨?_, ⟨rfl, rfl, rfl, Nat.le_refl _, fun _ _ _ => rfl⟩⟩
    simp only [setAll, List.append_nil, List.length_nil, Nat.add_zero, List.take_append_drop]
    exact h
  | v :: vs, i, w, l, h, hl => by
    rw [List.length_cons] at hl
    have h1 : (w.setCell ⟨b, i, none⟩ v).heap[b]? = some (.cells (l.set i v).toArray T (0, 0)) := by simpa using bk_set h i v
    have ih := setAll_is vs (i + 1) _ _ h1 (by rw [List.length_set]; omega)
    rw [set_parts l i v vs hl] at ih
    exact ⟨ih.1, gr_trans (gr_set w b i v) ih.2⟩
/-- all of a block written -/
theorem setAll_full {w : World} {b : Nat} {T : TypeId} {cs : Array Value} (h : w.heap[b]? = some (.cells cs T (0, 0))) (vs : List Value) (hl : vs.length = cs.size) :
    (setAll w b 0 vs).heap[b]? = some (.cells vs.toArray T (0, 0)) ∧ (∀ k, (setAll w b 0 vs).cell? ⟨b, k, none⟩ = vs[k]?) ∧ w.grownBy (setAll w b 0 vs) (some b) := by
  have h' : w.heap[b]? = some (.cells cs.toList.toArray T (0, 0)) := by simpa using h
  have k := setAll_is vs 0 w cs.toList h' (by simp; omega)
  have e : cs.toList.take 0 ++ vs ++ cs.toList.drop (0 + vs.length) = vs := by
    rw [List.take_zero, List.nil_append, List.drop_eq_nil_of_le (by simp; omega), List.append_nil]
  rw [e] at k
  exact ⟨k.1, fun j => by rw [bk_cell k.1 j]; simp, k.2⟩
end Go.Proofs.Ytnccibaifffhhaa.P
/- Rows of cells, so many for each element, whatever they say; two lists alike; cells of an own row written. Nothing of the program's. -/
namespace Go.Proofs.Ytnccibaifffhhaa
set_option linter.unusedVariables false
open Go.RowKit P

/-- two lists, element by element -/
def All2 {α β : Type} (R : α → β → Prop) : List α → List β → Prop
  | [], [] => True
  | a :: l, b :: m => R a b ∧ All2 R l m
  | _, _ => False
theorem All2.len {α β : Type} {R : α → β → Prop} : ∀ {l : List α} {m : List β}, All2 R l m → l.length = m.length
  | [], [], _ => rfl
  | _ :: _, _ :: _, h => by simp [h.2.len]
  | [], _ :: _, h => h.elim
  | _ :: _, [], h => h.elim
theorem All2.at {α β : Type} {R : α → β → Prop} : ∀ {l : List α} {m : List β}, All2 R l m → ∀ (i : Nat) (h1 : i < l.length) (h2 : i < m.length), R l[i] m[i]
  | _ :: _, _ :: _, h, 0, _, _ => h.1
  | _ :: _, _ :: _, h, i + 1, h1, h2 => h.2.at i (by simpa using h1) (by simpa using h2)
theorem All2.of {α β : Type} {R : α → β → Prop} : ∀ {l : List α} {m : List β}, l.length = m.length → (∀ (i : Nat) (h1 : i < l.length) (h2 : i < m.length), R l[i] m[i]) → All2 R l m
  | [], [], _, _ => trivial
  | _ :: _, _ :: _, e, h => ⟨h 0 (by simp) (by simp), All2.of (by simpa using e) (fun i h1 h2 => h (i + 1) (by simpa using h1) (by simpa using h2))⟩
  | [], _ :: _, e, _ => by simp at e
  | _ :: _, [], e, _ => by simp at e
theorem All2.imp {α β : Type} {R R' : α → β → Prop} (hr : ∀ a b, R a b → R' a b) : ∀ {l : List α} {m : List β}, All2 R l m → All2 R' l m
  | [], [], _ => trivial
  | _ :: _, _ :: _, h => ⟨hr _ _ h.1, h.2.imp hr⟩
  | [], _ :: _, h => h.elim
  | _ :: _, [], h => h.elim
theorem All2.app {α β : Type} {R : α → β → Prop} : ∀ {l : List α} {m : List β} {l' : List α} {m' : List β}, All2 R l m → All2 R l' m' → All2 R (l ++ l') (m ++ m')
  | [], [], _, _, _, h => h
  | _ :: _, _ :: _, _, _, h, h' => ⟨h.1, h.2.app h'⟩
  | [], _ :: _, _, _, h, _ => h.elim
  | _ :: _, [], _, _, h, _ => h.elim
theorem All2.set {α β : Type} {R R' : α → β → Prop} {a : α} {b : β} : ∀ {l : List α} {m : List β} (i : Nat), All2 R l m → (∀ a b, R a b → R' a b) → (∀ (h : i < m.length), m[i] = b) → R' a b → All2 R' (l.set i a) m
  | [], [], _, _, _, _, _ => by simp [All2]
  | _ :: _, _ :: _, 0, h, hr, hb, k => ⟨by have := hb (by simp); simp only [List.getElem_cons_zero] at this; rw [this]; exact k, h.2.imp hr⟩
  | _ :: _, _ :: _, i + 1, h, hr, hb, k => ⟨hr _ _ h.1, All2.set i h.2 hr (fun q => by have := hb (by simpa using q); simpa using this) k⟩
  | [], _ :: _, _, h, _, _, _ => h.elim
  | _ :: _, [], _, h, _, _, _ => h.elim

/-- k cells -/
structure Cells (k : Nat) where
  l : List Value
  len : l.length = k
  one : ∀ u ∈ l, u.oneCell' = true
def cellLay (k : Nat) (h : 0 < k) : Lay (Cells k) := ⟨Cells.l, k, Cells.len, Cells.one, h⟩
def Cells.set {k : Nat} (c : Cells k) (i : Nat) (u : Value) (hu : u.oneCell' = true) : Cells k :=
  ⟨c.l.set i u, by rw [List.length_set]; exact c.len, fun x hx => by
    rcases List.mem_or_eq_of_mem_set hx with h | h
    · exact c.one x h
    · rw [h]; exact hu⟩
theorem cat_set (k : Nat) (hk : 0 < k) : ∀ (css : List (Cells k)) (j i : Nat) (u : Value) (hu : u.oneCell' = true) (hj : j < css.length) (hi : i < k), (cellLay k hk).cat (css.set j ((css[j]).set i u hu)) = ((cellLay k hk).cat css).set (j * k + i) u
  | [], j, _, _, _, hj, _ => absurd hj (by simp)
  | c :: css, 0, i, u, hu, _, hi => by
    simp only [Lay.cat, List.set_cons_zero, List.getElem_cons_zero, List.flatMap_cons, Nat.zero_mul, Nat.zero_add]
    rw [List.set_append_left _ _ (by show i < c.l.length; rw [c.len]; exact hi)]
    rfl
  | c :: css, j + 1, i, u, hu, hj, hi => by
    have ih := cat_set k hk css j i u hu (by simpa using hj) hi
    simp only [Lay.cat, List.set_cons_succ, List.getElem_cons_succ, List.flatMap_cons] at ih ⊢
    rw [ih, List.set_append_right _ _ (by show c.l.length ≤ _; rw [c.len, Nat.succ_mul]; omega), show (j + 1) * k + i - ((cellLay k hk).f c).length = j * k + i by rw [show ((cellLay k hk).f c).length = k from c.len, Nat.succ_mul]; omega]
/-- one cell of an own row written -/
theorem own_cell {k : Nat} {hk : 0 < k} {w : World} {base : Nat} {e : TypeId} {g n c : Nat} {css : List (Cells k)} (h : OwnE (cellLay k hk) w base e (.slice (some ⟨g, 0, none⟩) n c) css) (j i : Nat) (hj : j < css.length) (hi : i < k) (u : Value) (hu : u.oneCell' = true) :
    OwnE (cellLay k hk) (w.setCell ⟨g, j * k + i, none⟩ u) base e (.slice (some ⟨g, 0, none⟩) n c) (css.set j ((css[j]).set i u hu)) ∧ w.grownBy (w.setCell ⟨g, j * k + i, none⟩ u) (some g) ∧ base ≤ g ∧ g < w.heap.size := by
  have hl := (h.lt g rfl)
  refine ⟨?_, gr_set w g _ u, hl.1, hl.2⟩
  obtain ⟨h1, h2⟩ := h
  rcases h2 with ⟨e0, _⟩ | ⟨g', cap, cur, ev, hb, hh, q1, q2, q3, q4⟩
  · cases e0
  · injection ev with ea en ec
    cases ea
    refine ⟨by rw [cat_set k hk css j i u hu hj hi, List.length_set, List.length_set]; exact h1, .inr ⟨g, cap, cur.setIfInBounds (j * k + i) u, by rw [en, ec, List.length_set], hb, bk_set hh _ u, by rw [List.length_set]; exact q1, q2, by rw [Array.size_setIfInBounds]; exact q3, ?_⟩⟩
    rw [cat_set k hk css j i u hu hj hi, Array.toList_setIfInBounds, ← q4]
    rw [List.take_set, List.length_set]
end Go.Proofs.Ytnccibaifffhhaa
/- Spaces of packet numbers: what P11 says, over plain lists. Nothing of the program's. -/
namespace Go.Proofs.Ytnccibaifffhhaa.P
set_option linter.unusedVariables false

/-- a packet on its way -/
structure Pcl where
  num : Int
  time : Int
  size : Int
  frs : List Fr
def pcl0 : Pcl := ⟨0, 0, 0, []⟩
structure Sp where
  next : Int
  sent : List Pcl
  top : Int
  heard : List (Int × Int)
  skip : List Int
def sp0 : Sp := ⟨0, [], 0, [], []⟩
/-- numbers that rise, above the first one, below the second one -/
def riseF : Int → List Int → Int → Prop
  | _, [], _ => True
  | a, n :: l, e => a < n ∧ n < e ∧ riseF n l e
instance decRise : ∀ (a : Int) (l : List Int) (e : Int), Decidable (riseF a l e)
  | _, [], _ => isTrue trivial
  | a, n :: l, e => have := decRise n l e; by unfold riseF; infer_instance
def nums (l : List Pcl) : List Int := l.map (·.num)
def sentOk (p : Pcl) : Prop := (0 ≤ p.time ∧ p.time ≤ 1099511627776) ∧ 0 ≤ p.size ∧ p.size ≤ 400
instance (p : Pcl) : Decidable (sentOk p) := by unfold sentOk; infer_instance
/-- a space that may be, by P11.1 -/
def okSp (s : Sp) : Prop :=
  (0 ≤ s.next ∧ s.next ≤ 4611686018427387903) ∧ (-1 ≤ s.top ∧ s.top < s.next) ∧ s.sent.length ≤ 24 ∧ (∀ p ∈ s.sent, sentOk p) ∧ riseF (-1) (nums s.sent) s.next ∧ s.heard.length ≤ 6 ∧ okL s.heard ∧ s.skip.length ≤ 6 ∧ riseF (-1) s.skip s.next ∧
  s.top ∉ s.skip ∧ ∀ n ∈ nums s.sent, n ∉ s.skip
instance (s : Sp) : Decidable (okSp s) := by unfold okSp; infer_instance
def faultSp (s : Sp) : Int := if okSp s then 0 else 9
theorem faultSp_iff (s : Sp) : faultSp s = 0 ↔ okSp s := by unfold faultSp; split <;> simp_all
/-- Quiet, by P11.9 -/
def quietSp (s : Sp) : Sp × Int × Int :=
  if faultSp s ≠ 0 then (sp0, 0, faultSp s) else if s.next = 4611686018427387903 then (sp0, 0, 8) else ({ s with next := s.next + 1 }, s.next, 0)
/-- Leap, by P11.4 -/
def leapSp (s : Sp) : Sp × Int :=
  if faultSp s ≠ 0 then (sp0, faultSp s) else if s.next = 4611686018427387903 then (sp0, 8) else ({ s with next := s.next + 1, skip := (s.skip ++ [s.next]).drop (s.skip.length + 1 - 6) }, 0)
/-- Send, by P11.3 -/
def sendSp (s : Sp) (now size : Int) (l : List Fr) : Sp × Int × Int :=
  if faultSp s ≠ 0 then (sp0, 0, faultSp s) else if ¬((0 ≤ now ∧ now ≤ 1099511627776) ∧ 0 ≤ size ∧ size ≤ 400) then (sp0, 0, 6)
  else if s.sent.length = 24 ∨ s.next = 4611686018427387903 then (sp0, 0, 8) else ({ s with next := s.next + 1, sent := s.sent ++ [⟨s.next, now, size, l⟩] }, s.next, 0)
def noteSp (ps : List (Int × Int)) (n : Int) : List (Int × Int) := (insR (n, n) ps).drop ((insR (n, n) ps).length - 6)
def memB (ps : List (Int × Int)) (n : Int) : Bool := ps.any fun r => decide (r.1 ≤ n) && decide (n ≤ r.2)
/-- below all that is kept, where no more may be -/
def lowSp (s : Sp) (n : Int) : Prop := s.heard.length = 6 ∧ n < (s.heard.getD 0 (0, 0)).1
instance (s : Sp) (n : Int) : Decidable (lowSp s n) := by unfold lowSp; infer_instance
/-- Hear, by P11.5 -/
def hearSp (s : Sp) (n : Int) : Sp × Bool × Int :=
  if faultSp s ≠ 0 then (sp0, false, faultSp s) else if ¬(0 ≤ n ∧ n ≤ 4611686018427387903) then (sp0, false, 6)
  else if lowSp s n then (s, false, 0) else ({ s with heard := noteSp s.heard n }, !memB s.heard n, 0)
/-- Tell, by P11.6 -/
def tellSp (s : Sp) : List (Int × Int) × Int := if faultSp s ≠ 0 then ([], faultSp s) else (s.heard.reverse, 0)
/-- what Acked refuses, by P11.7 -/
def rngF (next : Int) : List (Int × Int) → Int
  | [] => 0
  | r :: l => if r.1 < 0 ∨ r.2 < r.1 then 3 else if next ≤ r.2 then 13 else rngF next l
def ackF (s : Sp) (l : List (Int × Int)) : Int :=
  if faultSp s ≠ 0 then faultSp s else if rngF s.next l ≠ 0 then rngF s.next l else if s.skip.any (memB l) then 13 else 0
def topOf (t : Int) (l : List (Int × Int)) : Int := l.foldl (fun t r => max t r.2) t
def ackSp (s : Sp) (l : List (Int × Int)) : Sp × List Pcl × List Pcl × Int :=
  if ackF s l ≠ 0 then (sp0, [], [], ackF s l)
  else ({ s with top := topOf s.top l, sent := (s.sent.filter fun p => !memB l p.num).filter fun p => !decide (p.num ≤ topOf s.top l - 3) }, s.sent.filter fun p => memB l p.num,
    (s.sent.filter fun p => !memB l p.num).filter fun p => decide (p.num ≤ topOf s.top l - 3), 0)
/-- Overdue, by P11.8 -/
def overSp (s : Sp) (now age : Int) : Sp × List Pcl × Int :=
  if faultSp s ≠ 0 then (sp0, [], faultSp s) else if ¬((0 ≤ now ∧ now ≤ 1099511627776) ∧ 0 ≤ age ∧ age ≤ 1099511627776) then (sp0, [], 6)
  else ({ s with sent := s.sent.filter fun p => !decide (p.time ≤ now - age) }, s.sent.filter fun p => decide (p.time ≤ now - age), 0)

/- what keeps a space one that may be -/
theorem riseF_mono {a : Int} {l : List Int} {e e' : Int} (h : riseF a l e) (he : e ≤ e') : riseF a l e' := by
  induction l generalizing a with
  | nil => trivial
  | cons n l ih => exact ⟨h.1, by have := h.2.1; omega, ih h.2.2⟩
theorem riseF_low {a b : Int} {l : List Int} {e : Int} (h : riseF a l e) (hb : b ≤ a) : riseF b l e := by
  cases l with
  | nil => trivial
  | cons n l => exact ⟨by have := h.1; omega, h.2.1, h.2.2⟩
theorem riseF_bd {a : Int} {l : List Int} {e : Int} (h : riseF a l e) {n : Int} (hn : n ∈ l) : a < n ∧ n < e := by
  induction l generalizing a with
  | nil => cases hn
  | cons m l ih =>
    rcases List.mem_cons.1 hn with rfl | hn
    · exact ⟨h.1, h.2.1⟩
    · have := ih h.2.2 hn
      exact ⟨by have := h.1; omega, this.2⟩
theorem riseF_snoc {a : Int} {l : List Int} {e : Int} (h : riseF a l e) (ha : a < e) : riseF a (l ++ [e]) (e + 1) := by
  induction l generalizing a with
  | nil => exact ⟨ha, by omega, trivial⟩
  | cons n l ih => exact ⟨h.1, by have := h.2.1; omega, ih h.2.2 h.2.1⟩
theorem riseF_sub {l m : List Int} (hs : m.Sublist l) : ∀ {a e : Int}, riseF a l e → riseF a m e := by
  induction hs with
  | slnil => intro a e h; exact h
  | cons x _ ih => intro a e h; exact ih (riseF_low h.2.2 (by have := h.1; omega))
  | cons_cons x _ ih => intro a e h; exact ⟨h.1, h.2.1, ih h.2.2⟩
theorem okSp_sub {s : Sp} (ok : okSp s) {m : List Pcl} (hs : m.Sublist s.sent) : okSp { s with sent := m } := by
  obtain ⟨k1, k2, k3, k4, k5, k6, k7, k8, k9, k10, k11⟩ := ok
  have hn : (nums m).Sublist (nums s.sent) := hs.map _
  exact ⟨k1, k2, Nat.le_trans hs.length_le k3, fun p hp => k4 p (hs.subset hp), riseF_sub hn k5, k6, k7, k8, k9, k10, fun n hn' => k11 n (hn.subset hn')⟩
theorem quiet_ok {s : Sp} (h : (quietSp s).2.2 = 0) : okSp (quietSp s).1 ∧ (quietSp s).2.1 = s.next := by
  unfold quietSp at h ⊢
  by_cases f : faultSp s = 0
  · rw [if_neg (fun q => q f)] at h ⊢
    by_cases c : s.next = 4611686018427387903
    · rw [if_pos c] at h; cases h
    · rw [if_neg c]
      obtain ⟨k1, k2, k3, k4, k5, k6, k7, k8, k9, k10, k11⟩ := (faultSp_iff s).1 f
      exact ⟨⟨by dsimp only; omega, by dsimp only; omega, k3, k4, riseF_mono k5 (by dsimp only; omega), k6, k7, k8, riseF_mono k9 (by dsimp only; omega), k10, k11⟩, rfl⟩
  · rw [if_pos f] at h; exact absurd h f
theorem send_ok {s : Sp} {now size : Int} {l : List Fr} (h : (sendSp s now size l).2.2 = 0) : okSp (sendSp s now size l).1 := by
  unfold sendSp at h ⊢
  by_cases f : faultSp s = 0
  · rw [if_neg (fun q => q f)] at h ⊢
    by_cases r : (0 ≤ now ∧ now ≤ 1099511627776) ∧ 0 ≤ size ∧ size ≤ 400
    · rw [if_neg (fun q => q r)] at h ⊢
      by_cases c : s.sent.length = 24 ∨ s.next = 4611686018427387903
      · rw [if_pos c] at h; cases h
      · rw [if_neg c]
        obtain ⟨k1, k2, k3, k4, k5, k6, k7, k8, k9, k10, k11⟩ := (faultSp_iff s).1 f
        have c1 : ¬ s.sent.length = 24 := fun q => c (.inl q)
        have c2 : ¬ s.next = 4611686018427387903 := fun q => c (.inr q)
        have hns : s.next ∉ s.skip := fun q => by have := riseF_bd k9 q; omega
        refine ⟨by dsimp only; omega, by dsimp only; omega, by dsimp only; rw [List.length_append, List.length_singleton]; omega, fun p hp => ?_, ?_, k6, k7, k8, riseF_mono k9 (by dsimp only; omega), k10, fun n hn => ?_⟩
        · rcases List.mem_append.1 hp with hp | hp
          · exact k4 p hp
          · obtain rfl : p = ⟨s.next, now, size, l⟩ := by simpa using hp
            exact r
        · dsimp only [nums]
          rw [List.map_append]
          exact riseF_snoc (e := s.next) k5 (by omega)
        · dsimp only [nums] at hn
          rw [List.map_append] at hn
          rcases List.mem_append.1 hn with hn | hn
          · exact k11 n hn
          · obtain rfl : n = s.next := by simpa using hn
            exact hns
    · rw [if_pos r] at h; cases h
  · rw [if_pos f] at h; exact absurd h f
theorem topOf_ge (t : Int) (l : List (Int × Int)) : t ≤ topOf t l := by
  induction l generalizing t with
  | nil => exact Int.le_refl _
  | cons r l ih => exact Int.le_trans (by omega) (ih (max t r.2))
theorem over_ok {s : Sp} {now age : Int} (h : (overSp s now age).2.2 = 0) : okSp (overSp s now age).1 := by
  unfold overSp at h ⊢
  by_cases f : faultSp s = 0
  · rw [if_neg (fun q => q f)] at h ⊢
    by_cases r : (0 ≤ now ∧ now ≤ 1099511627776) ∧ 0 ≤ age ∧ age ≤ 1099511627776
    · rw [if_neg (fun q => q r)]
      exact okSp_sub ((faultSp_iff s).1 f) List.filter_sublist
    · rw [if_pos r] at h; cases h
  · rw [if_pos f] at h; exact absurd h f
end Go.Proofs.Ytnccibaifffhhaa.P
/- Spaces as values: rows of packets, of frames, of numbers; what is asked of the functions of P11. Nothing of the program's but the shapes. -/
namespace Go.Proofs.Ytnccibaifffhhaa
set_option linter.unusedVariables false
open Go.RowKit P

abbrev fr7 : Lay (Cells 7) := cellLay 7 (by decide)
abbrev pc4 : Lay (Cells 4) := cellLay 4 (by decide)
def intE : Lay Int := ⟨fun n => [.int .i64 n], 1, fun _ => rfl, (fun x u hu => by obtain rfl : u = .int .i64 x := by simpa using hu
                                                                                  rfl), by decide⟩
/-- v leads to the frames fs, below block B -/
structure FsSl (w : World) (B : Nat) (v : Value) (fs : List Fr) : Prop where
  ex : ∃ A c css, v = .slice A fs.length c ∧ fs.length ≤ c ∧ c ≤ maxLen ∧ RowE fr7 w B A css ∧ All2 (fun (c : Cells 7) f => FrVal w B (.agg c.l.toArray) f) css fs
theorem FsSl.below {w w' : World} {B : Nat} {v : Value} {fs : List Fr} (h : FsSl w B v fs) (hb : Below B w w') : FsSl w' B v fs := by
  obtain ⟨A, c, css, e, h1, h2, h3, h4⟩ := h.ex
  exact ⟨A, c, css, e, h1, h2, h3.below hb, h4.imp fun _ _ q => q.below hb⟩
theorem FsSl.more {w : World} {B B' : Nat} {v : Value} {fs : List Fr} (h : FsSl w B v fs) (hB : B ≤ B') : FsSl w B' v fs := by
  obtain ⟨A, c, css, e, h1, h2, h3, h4⟩ := h.ex
  exact ⟨A, c, css, e, h1, h2, h3.more hB, h4.imp fun _ _ q => q.more hB⟩
theorem FsSl.on {w w' : World} {v : Value} {fs : List Fr} (h : FsSl w w.heap.size v fs) (hb : Below w.heap.size w w') : FsSl w' w'.heap.size v fs := (h.below hb).more hb.size
theorem FsSl.nil (w : World) (B : Nat) : FsSl w B (.slice none 0 0) [] := ⟨none, 0, [], rfl, Nat.le_refl _, by unfold maxLen; omega, RowE.nil _ _ _, trivial⟩
/-- a packet's cells -/
def PcC (w : World) (B : Nat) (c : Cells 4) (p : Pcl) : Prop := ∃ v, c.l = [.int .i64 p.num, .int .i64 p.time, .int .i64 p.size, v] ∧ FsSl w B v p.frs
theorem PcC.below {w w' : World} {B : Nat} {c : Cells 4} {p : Pcl} (h : PcC w B c p) (hb : Below B w w') : PcC w' B c p := by
  obtain ⟨v, e, h1⟩ := h
  exact ⟨v, e, h1.below hb⟩
theorem PcC.more {w : World} {B B' : Nat} {c : Cells 4} {p : Pcl} (h : PcC w B c p) (hB : B ≤ B') : PcC w B' c p := by
  obtain ⟨v, e, h1⟩ := h
  exact ⟨v, e, h1.more hB⟩
/-- v leads to the packets ps, below block B -/
structure PlSl (w : World) (B : Nat) (v : Value) (ps : List Pcl) : Prop where
  ex : ∃ A c css, v = .slice A ps.length c ∧ ps.length ≤ c ∧ c ≤ maxLen ∧ RowE pc4 w B A css ∧ All2 (PcC w B) css ps
theorem PlSl.below {w w' : World} {B : Nat} {v : Value} {ps : List Pcl} (h : PlSl w B v ps) (hb : Below B w w') : PlSl w' B v ps := by
  obtain ⟨A, c, css, e, h1, h2, h3, h4⟩ := h.ex
  exact ⟨A, c, css, e, h1, h2, h3.below hb, h4.imp fun _ _ q => q.below hb⟩
theorem PlSl.more {w : World} {B B' : Nat} {v : Value} {ps : List Pcl} (h : PlSl w B v ps) (hB : B ≤ B') : PlSl w B' v ps := by
  obtain ⟨A, c, css, e, h1, h2, h3, h4⟩ := h.ex
  exact ⟨A, c, css, e, h1, h2, h3.more hB, h4.imp fun _ _ q => q.more hB⟩
theorem PlSl.on {w w' : World} {v : Value} {ps : List Pcl} (h : PlSl w w.heap.size v ps) (hb : Below w.heap.size w w') : PlSl w' w'.heap.size v ps := (h.below hb).more hb.size
theorem PlSl.nil (w : World) (B : Nat) : PlSl w B (.slice none 0 0) [] := ⟨none, 0, [], rfl, Nat.le_refl _, by unfold maxLen; omega, RowE.nil _ _ _, trivial⟩
/-- v leads to the numbers zs -/
structure ISl (w : World) (B : Nat) (v : Value) (zs : List Int) : Prop where
  ex : ∃ A c, v = .slice A zs.length c ∧ zs.length ≤ c ∧ c ≤ maxLen ∧ RowE intE w B A zs
theorem ISl.below {w w' : World} {B : Nat} {v : Value} {zs : List Int} (h : ISl w B v zs) (hb : Below B w w') : ISl w' B v zs := by
  obtain ⟨A, c, e, h1, h2, h3⟩ := h.ex
  exact ⟨A, c, e, h1, h2, h3.below hb⟩
theorem ISl.more {w : World} {B B' : Nat} {v : Value} {zs : List Int} (h : ISl w B v zs) (hB : B ≤ B') : ISl w B' v zs := by
  obtain ⟨A, c, e, h1, h2, h3⟩ := h.ex
  exact ⟨A, c, e, h1, h2, h3.more hB⟩
theorem ISl.on {w w' : World} {v : Value} {zs : List Int} (h : ISl w w.heap.size v zs) (hb : Below w.heap.size w w') : ISl w' w'.heap.size v zs := (h.below hb).more hb.size
theorem ISl.nil (w : World) (B : Nat) : ISl w B (.slice none 0 0) [] := ⟨none, 0, rfl, Nat.le_refl _, by unfold maxLen; omega, RowE.nil _ _ _⟩
/-- a number of a row, as it lies -/
theorem int_at {w : World} {b off : Nat} {zs : List Int} (hc : ∀ j u, (intE.cat zs)[j]? = some u → w.cell? ⟨b, off + j, none⟩ = some u) (j : Nat) (hj : j < zs.length) : w.cell? ⟨b, off + j, none⟩ = some (.int .i64 zs[j]) := by
  have := RowE.at hc j 0 hj (by decide)
  simpa [intE] using this
/-- v says the space s; all that it leads to lies below block B -/
structure SpVal (w : World) (B : Nat) (v : Value) (s : Sp) : Prop where
  ex : ∃ a h k, v = .agg #[.int .i64 s.next, a, .int .i64 s.top, h, k] ∧ PlSl w B a s.sent ∧ RSl w B h s.heard ∧ ISl w B k s.skip
theorem SpVal.below {w w' : World} {B : Nat} {v : Value} {s : Sp} (h : SpVal w B v s) (hb : Below B w w') : SpVal w' B v s := by
  obtain ⟨a, h, k, e, h1, h2, h3⟩ := h.ex
  exact ⟨a, h, k, e, h1.below hb, h2.below hb, h3.below hb⟩
theorem SpVal.more {w : World} {B B' : Nat} {v : Value} {s : Sp} (h : SpVal w B v s) (hB : B ≤ B') : SpVal w B' v s := by
  obtain ⟨a, h, k, e, h1, h2, h3⟩ := h.ex
  exact ⟨a, h, k, e, h1.more hB, h2.more hB, h3.more hB⟩
theorem SpVal.on {w w' : World} {v : Value} {s : Sp} (h : SpVal w w.heap.size v s) (hb : Below w.heap.size w w') : SpVal w' w'.heap.size v s := (h.below hb).more hb.size
theorem SpVal.nil (w : World) (B : Nat) : SpVal w B (.agg #[.int .i64 0, .slice none 0 0, .int .i64 0, .slice none 0 0, .slice none 0 0]) sp0 := ⟨_, _, _, rfl, PlSl.nil _ _, RSl.nil _ _, ISl.nil _ _⟩
def i64N (n : Int) : Prop := -9223372036854775808 ≤ n ∧ n ≤ 9223372036854775807
/-- numbers that fit, and rows that may lie in memory -/
structure FrsWf (fs : List Fr) : Prop where
  n : fs.length * 88 ≤ 140737488355328
  f : ∀ f ∈ fs, (i64N f.kind ∧ i64N f.id ∧ i64N f.off ∧ i64N f.code) ∧ f.rs.length * 16 ≤ 140737488355328 ∧ f.data.length ≤ 140737488355328
structure SpWf (s : Sp) : Prop where
  next : i64N s.next
  top : i64N s.top
  sl : s.sent.length * 48 ≤ 140737488355328
  hl : s.heard.length * 16 ≤ 140737488355328
  kl : s.skip.length * 8 ≤ 140737488355328
  p : ∀ p ∈ s.sent, (i64N p.num ∧ i64N p.time ∧ i64N p.size) ∧ FrsWf p.frs
  k : ∀ n ∈ s.skip, i64N n
/-- what is asked of the functions: each answers in new memory -/
def FsU (lo : Nat) (w : World) (v : Value) (fs : List Fr) : Prop := StS w (fun j => j < lo) (fun w => FsSl w w.heap.size v fs)
def PlU (lo : Nat) (w : World) (v : Value) (ps : List Pcl) : Prop := StS w (fun j => j < lo) (fun w => PlSl w w.heap.size v ps)
def SpU (lo : Nat) (w : World) (v : Value) (s : Sp) : Prop := StS w (fun j => j < lo) (fun w => SpVal w w.heap.size v s)
def SpChk (P : Program) (f : FuncId) : Prop := ∀ (v : Value) (s : Sp) (w : World), SpVal w w.heap.size v s → SpWf s → Calls P f #[v] w fun e w' => e = .returned (.int .i64 (faultSp s)) ∧ Below w.heap.size w w'
structure SpSendU (r : Sp × Int × Int) (w : World) (e : Ending) (w' : World) : Prop where
  be : Below w.heap.size w w'
  ex : ∃ u, e = .returned (.tuple #[u, .int .i64 r.2.1, .int .i64 r.2.2]) ∧ SpU w.heap.size w' u r.1
structure SpHearU (r : Sp × Bool × Int) (w : World) (e : Ending) (w' : World) : Prop where
  be : Below w.heap.size w w'
  ex : ∃ u, e = .returned (.tuple #[u, .bool r.2.1, .int .i64 r.2.2]) ∧ SpU w.heap.size w' u r.1
structure SpLeapU (r : Sp × Int) (w : World) (e : Ending) (w' : World) : Prop where
  be : Below w.heap.size w w'
  ex : ∃ u, e = .returned (.tuple #[u, .int .i64 r.2]) ∧ SpU w.heap.size w' u r.1
structure SpOverU (r : Sp × List Pcl × Int) (w : World) (e : Ending) (w' : World) : Prop where
  be : Below w.heap.size w w'
  ex : ∃ u l, e = .returned (.tuple #[u, l, .int .i64 r.2.2]) ∧ SpU w.heap.size w' u r.1 ∧ PlU w.heap.size w' l r.2.1
structure SpAckU (r : Sp × List Pcl × List Pcl × Int) (w : World) (e : Ending) (w' : World) : Prop where
  be : Below w.heap.size w w'
  ex : ∃ u l m, e = .returned (.tuple #[u, l, m, .int .i64 r.2.2.2]) ∧ SpU w.heap.size w' u r.1 ∧ PlU w.heap.size w' l r.2.1 ∧ PlU w.heap.size w' m r.2.2.1
end Go.Proofs.Ytnccibaifffhhaa
/- Contracts of package space: rise, numbers. -/
namespace Go.Proofs.Ytnccibaifffhhaa
set_option linter.unusedVariables false
open Go.RowKit P

theorem drop_consI (zs : List Int) (k : Nat) (h : k < zs.length) : zs.drop k = zs[k] :: zs.drop (k + 1) := List.drop_eq_getElem_cons h
set_option maxHeartbeats 1000000 in
theorem rise_any (A : Option Addr) (len cap : Nat) (zs : List Int) (e : Int) (w : World) (h : RowE intE w w.heap.size A zs) (hl : zs.length = len) (hm : len ≤ 9223372036854775806) :
    Calls Try.prog 43 #[.slice A len cap, .int .i64 e] w fun x w' => x = .returned (.bool (decide (riseF (-1) zs e))) ∧ w = w' := by
  have HR := Lib.hid h
  have HL := Lib.hid hl
  clear h hl
  obtain ⟨bb, hbb⟩ : ∃ b, decide (riseF (-1) zs e) = b := ⟨_, rfl⟩
  have HB := Lib.hid hbb
  rw [hbb]
  clear hbb
  go_enter Try.func43, Try.ntmps43
  go_wp2
  go_loopg [10, 5] len (fun g i v wr => ∃ (k : Nat) (q : Int), k + g = len ∧ i = .int .i64 k ∧ v = .int .i64 q ∧ Hid (decide (riseF q (zs.drop k) e) = bb) ∧ Hid (wr = w))
  case atStart => exact ⟨0, -1, by omega, rfl, rfl, Lib.hid (by rw [List.drop_zero]; exact HB.out), Lib.hid rfl⟩
  case round =>
    obtain ⟨k, q, hk, rfl, rfl, HQ, HW⟩ := hrel
    obtain rfl := HW.out
    by_cases hlt : k < len
    · obtain ⟨b, off, rfl, hbk, hc⟩ := HR.out (by rw [HL.out]; omega)
      have hk2 : k < zs.length := by rw [HL.out]; exact hlt
      have c0 := int_at hc k hk2
      have hq := HQ.out
      rw [drop_consI zs k hk2] at hq
      obtain ⟨n, hn⟩ : ∃ n, zs[k] = n := ⟨_, rfl⟩
      rw [hn] at c0 hq
      have HQ2 := Lib.hid hq
      have hki : (k : Int) < (len : Int) := by omega
      clear hq hn hc HQ
      by_cases h1 : n ≤ q
      · have g1 : decide (n ≤ q) = true := by simp [h1]
        obtain rfl : bb = false := by rw [← HQ2.out]; exact decide_eq_false fun r => by have := r.1; omega
        go_wp2
        go_ret
        exact ⟨rfl, rfl⟩
      · have g1 : decide (n ≤ q) = false := by simp [h1]
        by_cases h2 : e ≤ n
        · have g2 : decide (e ≤ n) = true := by simp [h2]
          obtain rfl : bb = false := by rw [← HQ2.out]; exact decide_eq_false fun r => by have := r.2.1; omega
          go_wp2
          go_ret
          exact ⟨rfl, rfl⟩
        · have g2 : decide (e ≤ n) = false := by simp [h2]
          have H3 := Lib.hid (show decide (riseF n (zs.drop (k + 1)) e) = bb by rw [← HQ2.out]; exact decide_eq_decide.2 ⟨fun r => ⟨by omega, by omega, r⟩, fun r => r.2.2⟩)
          go_wp2
          go_roundg (gk - 1)
          case measure => omega
          case rel => exact ⟨k + 1, n, by omega, by first | rfl | go_num, rfl, H3, Lib.hid rfl⟩
    · obtain rfl : k = len := by omega
      obtain rfl : gk = 0 := by omega
      obtain rfl : bb = true := by rw [← HQ.out, List.drop_eq_nil_of_le (by rw [HL.out]; exact Nat.le_refl _)]; rfl
      go_wp2
      go_ret
      exact ⟨rfl, rfl⟩
theorem infoI : (Try.prog.info? 3).map (fun i => (i.zero, i.size, i.bytes)) = some (some (.int .i64 0), 1, 8) := by kernel_rfl
theorem pc_cells {w : World} {B : Nat} {A : Option Addr} {css : List (Cells 4)} {ps : List Pcl} (h : RowE pc4 w B A css) (h2 : All2 (PcC w B) css ps) (i : Nat) (hi : i < ps.length) : ∃ b off v, A = some ⟨b, off, none⟩ ∧ b < B ∧ FsSl w B v (ps[i]).frs ∧
    w.cell? ⟨b, off + i * 4, none⟩ = some (.int .i64 (ps[i]).num) ∧ w.cell? ⟨b, off + i * 4 + 1, none⟩ = some (.int .i64 (ps[i]).time) ∧ w.cell? ⟨b, off + i * 4 + 2, none⟩ = some (.int .i64 (ps[i]).size) ∧ w.cell? ⟨b, off + i * 4 + 3, none⟩ = some v := by
  have hlen := h2.len
  obtain ⟨b, off, e, hb, hc⟩ := h (by omega)
  obtain ⟨v, e2, h3⟩ := h2.at i (by omega) hi
  have key := fun k hk => RowE.at hc i k (by omega) hk
  have a0 := key 0 (by decide)
  have a1 := key 1 (by decide)
  have a2 := key 2 (by decide)
  have a3 := key 3 (by decide)
  simp only [pc4, cellLay, e2, List.getElem?_cons_zero, List.getElem?_cons_succ, Nat.add_zero, ← Nat.add_assoc] at a0 a1 a2 a3
  exact ⟨b, off, v, e, hb, h3, a0, a1, a2, a3⟩
set_option maxHeartbeats 1000000 in
theorem numbers_any (A : Option Addr) (len cap : Nat) (css : List (Cells 4)) (ps : List Pcl) (w : World) (h : RowE pc4 w w.heap.size A css) (h2 : All2 (PcC w w.heap.size) css ps) (hl : ps.length = len) (hm : len ≤ 1048576) :
    Calls Try.prog 44 #[.slice A len cap] w fun x w' => ∃ u, x = .returned u ∧ OwnE intE w' w.heap.size 3 u (nums ps) ∧ Below w.heap.size w w' := by
  obtain ⟨i0, hi0, hz0, hz1, hz2⟩ := info_partsE infoI
  have HI := Lib.hid hi0; have HZ := Lib.hid hz0; have HZ1 := Lib.hid hz1; have HZ2 := Lib.hid hz2
  clear hi0 hz0 hz1 hz2
  have HR := Lib.hid h
  have HA := Lib.hid h2
  have HL := Lib.hid hl
  clear h h2 hl
  have O0 := Lib.hid (OwnE.nil (E := intE) w w.heap.size 3)
  have B0 := Lib.hid (Below.refl w.heap.size w)
  go_enter Try.func44, Try.ntmps44
  go_wp2
  go_loopg [8, 3] len (fun g i v wr => ∃ (k : Nat), k + g = len ∧ i = .int .i64 k ∧ Hid (OwnE intE wr w.heap.size 3 v (nums (ps.take k))) ∧ Hid (Below w.heap.size w wr))
  case atStart => exact ⟨0, by omega, rfl, O0, B0⟩
  case round =>
    obtain ⟨k, hk, rfl, OK, BK⟩ := hrel
    clear O0 B0
    by_cases hlt : k < len
    · have hk2 : k < ps.length := by rw [HL.out]; exact hlt
      obtain ⟨b, off, v, hA, hb, hF, c0, c1, c2, c3⟩ := pc_cells HR.out HA.out k hk2
      subst hA
      obtain ⟨Af, cf, cf2, hvf, hf1, hf2, hf3, hf4⟩ := hF.ex
      obtain ⟨nf, hnf⟩ : ∃ n, (ps[k]).frs.length = n := ⟨_, rfl⟩
      rw [hnf] at hvf
      subst hvf
      clear hnf hF hf1 hf2 hf3 hf4 cf2
      have x0 := (BK.out.cell (p := ⟨b, off + k * 4, none⟩) hb).trans c0
      have x1 := (BK.out.cell (p := ⟨b, off + k * 4 + 1, none⟩) hb).trans c1
      have x2 := (BK.out.cell (p := ⟨b, off + k * 4 + 2, none⟩) hb).trans c2
      have x3 := (BK.out.cell (p := ⟨b, off + k * 4 + 3, none⟩) hb).trans c3
      obtain ⟨p, hp⟩ : ∃ p, ps[k] = p := ⟨_, rfl⟩
      have HT := Lib.hid (show nums (ps.take (k + 1)) = nums (ps.take k) ++ [p.num] by unfold nums; rw [List.take_succ_eq_append_getElem hk2, List.map_append, hp]; rfl)
      rw [hp] at x0 x1 x2
      obtain ⟨Av, cv, hv, hv1, hv2, _⟩ := OK.out.slice
      obtain ⟨nv, hnv⟩ : ∃ n, (nums (ps.take k)).length = n := ⟨_, rfl⟩
      have HNV := Lib.hid hnv
      have HNK := Lib.hid (show nv ≤ 1048576 by rw [← hnv]; unfold nums; rw [List.length_map, List.length_take]; omega)
      rw [hnv] at hv
      clear hnv hv1 hv2 hp c0 c1 c2 c3
      obtain ⟨X, hX⟩ : ∃ X, X = wr := ⟨_, rfl⟩
      subst hX
      subst hv
      have hki : (k : Int) < (len : Int) := by omega
      have AB := Lib.hid ((Below.refl X.heap.size X).alloc (Nat.le_refl _) (.cells #[.int .i64 p.num, .int .i64 p.time, .int .i64 p.size, .slice Af nf cf] 54))
      go_upto_region 5 with fail
      clear x0 x1 x2 x3
      obtain ⟨Y, hY⟩ : ∃ Y, X.alloc (.cells #[.int .i64 p.num, .int .i64 p.time, .int .i64 p.size, .slice Af nf cf] 54) = Y := ⟨_, rfl⟩
      have PB := heap_alloc_new X (.cells #[.int .i64 p.num, .int .i64 p.time, .int .i64 p.size, .slice Af nf cf] 54)
      rw [hY] at AB PB
      try rw [hY]
      have OY := Lib.hid (OK.out.later AB.out)
      have BY := Lib.hid (BK.out.trans (AB.out.mono BK.out.size))
      have y0 : Y.cell? ⟨X.heap.size, 0, none⟩ = some (.int .i64 p.num) := bk_cell PB 0
      have NB := Lib.hid (RowE.one (E := intE) Y p.num #[.int .i64 p.num] 3 Y.heap.size rfl rfl)
      have BN := Lib.hid ((Below.refl Y.heap.size Y).alloc (Nat.le_refl _) (.cells #[.int .i64 p.num] 3))
      have hYX := BY.out.size
      clear hY PB AB
      go_wp2_with (at_builtin; (refine wpList_appE _ rfl (.tmp 12) (.tmp 15) _ rfl w.heap.size 3 i0 _ 8 Try.underlying46 HI.out HZ.out HZ1.out HZ2.out rfl (by decide) (.slice Av nv cv) (nums (ps.take k)) rfl (OY.out.later BN.out) _ (some ⟨Y.heap.size, 0, none⟩) 1 1 [p.num] rfl NB.out rfl (by rw [HNV.out]; have := HNK.out; omega) (Nat.le_trans hYX BN.out.size) ?_; intro v9 w9 own9 gr9; have O9 := Lib.hid own9; have G9 := Lib.hid gr9; clear own9 gr9))
      have BZ := Lib.hid ((BY.out.trans (BN.out.mono hYX)).grown G9.out (Nat.le_trans hYX BN.out.size) (fun q hq => (OY.out.lt q hq).1))
      have OZ := O9.out
      rw [← HT.out] at OZ
      have OZ' := Lib.hid OZ
      clear OZ
      go_roundg (gk - 1)
      case measure => omega
      case rel => exact ⟨k + 1, by omega, by first | rfl | go_num, OZ', BZ⟩
    · obtain rfl : k = len := by omega
      obtain rfl : gk = 0 := by omega
      have OZ := OK.out
      rw [List.take_of_length_le (by rw [HL.out]; exact Nat.le_refl _)] at OZ
      have OZ' := Lib.hid OZ
      clear OZ
      go_wp2
      go_ret
      exact ⟨_, rfl, OZ'.out, BK.out⟩
end Go.Proofs.Ytnccibaifffhhaa
