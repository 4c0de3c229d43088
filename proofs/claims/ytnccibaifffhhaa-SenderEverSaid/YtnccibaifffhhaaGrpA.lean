/- Several texts in one. -/
import Derived.Lib.Hide
import Derived.WalkKit
import Derived.Handy
import Derived.Laws.BytesArg
import Derived.Lib.Strings
/- Sets of numbers, range by range, as lists of pairs: plain mathematics, nothing of the program's. -/
namespace Go.Proofs.Ytnccibaifffhhaa.P
set_option linter.unusedVariables false

/-- a range that may be -/
def okR (r : Int × Int) : Prop := 0 ≤ r.1 ∧ r.1 ≤ r.2 ∧ r.2 ≤ 4611686018427387903
/-- a set that may be, its first range above 'a' and not just by 1 -/
def okFrom : Int → List (Int × Int) → Prop
  | _, [] => True
  | a, x :: l => okR x ∧ a + 2 ≤ x.1 ∧ okFrom x.2 l
/-- a set that may be -/
def okL (l : List (Int × Int)) : Prop := okFrom (-2) l
/-- a number is in a range -/
def inR (r : Int × Int) (n : Int) : Prop := r.1 ≤ n ∧ n ≤ r.2
/-- a number is in a set -/
def mem : List (Int × Int) → Int → Prop
  | [], _ => False
  | x :: l, n => inR x n ∨ mem l n

instance (r : Int × Int) : Decidable (okR r) := by unfold okR; infer_instance
instance (r : Int × Int) (n : Int) : Decidable (inR r n) := by unfold inR; infer_instance
instance okFrom_dec : (a : Int) → (l : List (Int × Int)) → Decidable (okFrom a l)
  | _, [] => .isTrue trivial
  | a, x :: l => by unfold okFrom; have := okFrom_dec x.2 l; infer_instance
instance (l : List (Int × Int)) : Decidable (okL l) := okFrom_dec _ _
instance mem_dec : (l : List (Int × Int)) → (n : Int) → Decidable (mem l n)
  | [], _ => .isFalse id
  | x :: l, n => by unfold mem; have := mem_dec l n; infer_instance

theorem okFrom_mono {a b : Int} {l : List (Int × Int)} (h : okFrom a l) (hb : b ≤ a) : okFrom b l := by
  cases l with
  | nil => trivial
  | cons x l => exact ⟨h.1, by have := h.2.1; omega, h.2.2⟩
theorem mem_above {a n : Int} {l : List (Int × Int)} (h : okFrom a l) (hm : mem l n) : a + 2 ≤ n := by
  induction l generalizing a with
  | nil => exact hm.elim
  | cons x l ih =>
    obtain ⟨h1, h2, h3⟩ := h
    have := h1.2.1
    rcases hm with h | h
    · have := h.1; omega
    · have := ih h3 h; omega
theorem mem_max {a n : Int} {l : List (Int × Int)} (h : okFrom a l) (hm : mem l n) : n ≤ 4611686018427387903 := by
  induction l generalizing a with
  | nil => exact hm.elim
  | cons x l ih =>
    rcases hm with k | k
    · have := h.1.2.2; have := k.2; omega
    · exact ih h.2.2 k
theorem mem_app (l m : List (Int × Int)) (n : Int) : mem (l ++ m) n ↔ mem l n ∨ mem m n := by
  induction l with
  | nil => simp [mem]
  | cons x l ih => simp [mem, ih, or_assoc]
theorem mem_of {l : List (Int × Int)} {x : Int × Int} (h : x ∈ l) {n : Int} (hn : inR x n) : mem l n := by
  induction l with
  | nil => cases h
  | cons y l ih =>
    rcases List.mem_cons.1 h with rfl | h
    · exact .inl hn
    · exact .inr (ih h)
theorem mem_iff {l : List (Int × Int)} {n : Int} : mem l n ↔ ∃ x ∈ l, inR x n := by
  induction l with
  | nil => simp [mem]
  | cons y l ih => simp [mem, ih]
theorem okFrom_all {a : Int} {l : List (Int × Int)} (h : okFrom a l) {x : Int × Int} (hx : x ∈ l) : okR x ∧ a + 2 ≤ x.1 := by
  induction l generalizing a with
  | nil => cases hx
  | cons y l ih =>
    obtain ⟨h1, h2, h3⟩ := h
    have := h1.2.1
    rcases List.mem_cons.1 hx with rfl | hx
    · exact ⟨h1, h2⟩
    · have := ih h3 hx; exact ⟨this.1, by omega⟩

/-- A SET HAS ONE FORM -/
theorem ok_ext : ∀ {l m : List (Int × Int)} {a b : Int}, okFrom a l → okFrom b m → (∀ n, mem l n ↔ mem m n) → l = m
  | [], [], _, _, _, _, _ => rfl
  | [], y :: m, _, _, _, hm, h => ((h y.1).2 (.inl ⟨Int.le_refl _, hm.1.2.1⟩)).elim
  | x :: l, [], _, _, hl, _, h => ((h x.1).1 (.inl ⟨Int.le_refl _, hl.1.2.1⟩)).elim
  | x :: l, y :: m, a, b, hl, hm, h => by
    obtain ⟨x1, x2, x3⟩ := hl
    obtain ⟨y1, y2, y3⟩ := hm
    have xl := x1.2.1
    have yl := y1.2.1
    have lo : ∀ n, mem (x :: l) n → x.1 ≤ n := fun n hn => by
      rcases hn with k | k
      · exact k.1
      · have := mem_above x3 k; omega
    have lo' : ∀ n, mem (y :: m) n → y.1 ≤ n := fun n hn => by
      rcases hn with k | k
      · exact k.1
      · have := mem_above y3 k; omega
    have e1 : x.1 = y.1 := by
      have p := lo' _ ((h x.1).1 (.inl ⟨Int.le_refl _, xl⟩))
      have q := lo _ ((h y.1).2 (.inl ⟨Int.le_refl _, yl⟩))
      omega
    have e2 : x.2 = y.2 := by
      rcases Int.lt_trichotomy x.2 y.2 with c | c | c
      · exfalso
        rcases (h (x.2 + 1)).2 (.inl ⟨by omega, by omega⟩) with k | k
        · have := k.2; omega
        · have := mem_above x3 k; omega
      · exact c
      · exfalso
        rcases (h (y.2 + 1)).1 (.inl ⟨by omega, by omega⟩) with k | k
        · have := k.2; omega
        · have := mem_above y3 k; omega
    have e : x = y := Prod.ext e1 e2
    subst e
    rw [ok_ext x3 y3 fun n => ⟨fun k => by
      rcases (h n).1 (.inr k) with j | j
      · have := mem_above x3 k; have := j.2; omega
      · exact j, fun k => by
      rcases (h n).2 (.inr k) with j | j
      · have := mem_above y3 k; have := j.2; omega
      · exact j⟩]

/-- the highest number of a list's last range -/
def lastHi (a : Int) (l : List (Int × Int)) : Int := l.foldl (fun _ x => x.2) a
theorem lastHi_snoc (a : Int) (l : List (Int × Int)) (x : Int × Int) : lastHi a (l ++ [x]) = x.2 := by simp [lastHi]
theorem okFrom_app {a : Int} {l m : List (Int × Int)} : okFrom a (l ++ m) ↔ okFrom a l ∧ okFrom (lastHi a l) m := by
  induction l generalizing a with
  | nil => simp [okFrom, lastHi]
  | cons x l ih =>
    simp only [List.cons_append, okFrom]
    rw [ih]
    simp [lastHi, and_assoc]
theorem okFrom_snoc {a : Int} {l : List (Int × Int)} {x : Int × Int} : okFrom a (l ++ [x]) ↔ okFrom a l ∧ okR x ∧ lastHi a l + 2 ≤ x.1 := by
  rw [okFrom_app]; simp [okFrom]
theorem takeR_snoc (l : List (Int × Int)) (k : Nat) (h : k < l.length) : l.take (k + 1) = l.take k ++ [l.getD k (0, 0)] := by
  rw [List.take_succ_eq_append_getElem h, List.getD_eq_getElem?_getD, List.getElem?_eq_getElem h]; rfl
theorem dropR_cons (l : List (Int × Int)) (k : Nat) (h : k < l.length) : l.drop k = l.getD k (0, 0) :: l.drop (k + 1) := by
  rw [List.drop_eq_getElem_cons h, List.getD_eq_getElem?_getD, List.getElem?_eq_getElem h]; rfl
theorem getR_mem (l : List (Int × Int)) (k : Nat) (h : k < l.length) : l.getD k (0, 0) ∈ l := by
  rw [List.getD_eq_getElem?_getD, List.getElem?_eq_getElem h]; exact List.getElem_mem h
theorem lastHi_take (a : Int) (l : List (Int × Int)) (k : Nat) (h : k < l.length) : lastHi a (l.take (k + 1)) = (l.getD k (0, 0)).2 := by
  rw [takeR_snoc l k h, lastHi_snoc]
theorem okFrom_take {a : Int} {l : List (Int × Int)} (h : okFrom a l) (k : Nat) : okFrom a (l.take k) := by
  rw [← List.take_append_drop k l] at h
  exact (okFrom_app.1 h).1
theorem okFrom_drop {a : Int} {l : List (Int × Int)} (h : okFrom a l) (ha : -2 ≤ a) (k : Nat) : okFrom (-2) (l.drop k) := by
  induction k generalizing a l with
  | zero => exact okFrom_mono h ha
  | succ k ih =>
    cases l with
    | nil => trivial
    | cons x l => exact ih h.2.2 (by have := h.1.1; have := h.1.2.1; omega)
theorem ok_step (l : List (Int × Int)) (k : Nat) (h : k < l.length) :
    okL (l.take (k + 1)) ↔ okL (l.take k) ∧ okR (l.getD k (0, 0)) ∧ (0 < k → (l.getD (k - 1) (0, 0)).2 + 2 ≤ (l.getD k (0, 0)).1) := by
  unfold okL
  rw [takeR_snoc l k h, okFrom_snoc]
  refine and_congr_right fun _ => and_congr_right fun hr => ?_
  cases k with
  | zero => exact ⟨fun _ h => absurd h (by omega), fun _ => by simp only [List.take_zero, lastHi, List.foldl_nil]; have := hr.1; omega⟩
  | succ k => rw [lastHi_take _ l k (by omega)]; simp
theorem ok_of_take {l : List (Int × Int)} (h : okL l) (k : Nat) : okL (l.take k) := okFrom_take h k
theorem ok_not {l : List (Int × Int)} {k : Nat} (h : ¬ okL (l.take k)) : ¬ okL l := fun g => h (okFrom_take g k)
theorem ok_get {l : List (Int × Int)} (h : okL l) (k : Nat) (hk : k < l.length) : okR (l.getD k (0, 0)) := (okFrom_all h (getR_mem l k hk)).1

/-- some numbers from lo to hi, if there are any -/
def sm (lo hi : Int) : List (Int × Int) := if lo ≤ hi then [(lo, hi)] else []
theorem mem_sm (lo hi n : Int) : mem (sm lo hi) n ↔ lo ≤ n ∧ n ≤ hi := by
  unfold sm; split <;> simp [mem, inR] <;> omega
theorem ok_sm {a lo hi : Int} {l : List (Int × Int)} (h0 : 0 ≤ lo) (h1 : hi ≤ 4611686018427387903) (ha : a + 2 ≤ lo) (hl : okFrom (max a (if lo ≤ hi then hi else a)) l) : okFrom a (sm lo hi ++ l) := by
  unfold sm
  split
  · rename_i h; rw [if_pos h] at hl; exact ⟨⟨h0, h, h1⟩, ha, okFrom_mono hl (by omega)⟩
  · rename_i h; rw [if_neg h] at hl; exact okFrom_mono hl (by omega)
theorem sm_len (lo hi : Int) : (sm lo hi).length ≤ 1 := by unfold sm; split <;> simp

/-- a range and those of a set that overlap it or lie beside it, from its first one on -/
def absR : Int × Int → List (Int × Int) → List (Int × Int)
  | r, [] => [r]
  | r, x :: l => if x.1 ≤ r.2 + 1 then absR (min r.1 x.1, max r.2 x.2) l else r :: x :: l
/-- a set with a range, too -/
def insR (r : Int × Int) : List (Int × Int) → List (Int × Int)
  | [] => [r]
  | x :: l => if x.2 + 1 < r.1 then x :: insR r l else absR r (x :: l)

theorem abs_ok : ∀ {l : List (Int × Int)} {a : Int} {r : Int × Int}, okFrom a l → okR r → a + 2 ≤ r.1 → (∀ x ∈ l.head?, r.1 ≤ x.2 + 1) → okFrom a (absR r l) ∧ ∀ n, mem (absR r l) n ↔ inR r n ∨ mem l n
  | [], a, r, _, hr, ha, _ => ⟨⟨hr, ha, trivial⟩, fun n => Iff.rfl⟩
  | x :: l, a, r, hl, hr, ha, hx => by
    obtain ⟨x1, x2, x3⟩ := hl
    have hx := hx x rfl
    have g1 := x1.1
    have g2 := x1.2.1
    have g3 := x1.2.2
    have r1 := hr.1
    have r2 := hr.2.1
    have r3 := hr.2.2
    unfold absR
    split
    · rename_i h
      have H := abs_ok (l := l) (a := a) (r := (min r.1 x.1, max r.2 x.2)) (okFrom_mono x3 (by omega)) ⟨by simp only; omega, by simp only; omega, by simp only; omega⟩ (by simp only; omega)
        (fun y hy => by
          cases l with
          | nil => simp at hy
          | cons z l => simp at hy; subst hy; have := x3.2.1; have := x3.1.2.1; simp only; omega)
      refine ⟨H.1, fun n => ?_⟩
      rw [H.2 n]
      simp only [inR, mem]
      by_cases hm : mem l n
      · simp [hm]
      · simp only [hm, or_false]
        omega
    · rename_i h
      exact ⟨⟨hr, ha, x1, by omega, x3⟩, fun n => Iff.rfl⟩
theorem ins_ok : ∀ {l : List (Int × Int)} {a : Int} {r : Int × Int}, okFrom a l → okR r → a + 2 ≤ r.1 → okFrom a (insR r l) ∧ ∀ n, mem (insR r l) n ↔ inR r n ∨ mem l n
  | [], a, r, _, hr, ha => ⟨⟨hr, ha, trivial⟩, fun n => Iff.rfl⟩
  | x :: l, a, r, hl, hr, ha => by
    unfold insR
    split
    · rename_i h
      have H := ins_ok (l := l) (a := x.2) (r := r) hl.2.2 hr (by omega)
      refine ⟨⟨hl.1, hl.2.1, H.1⟩, fun n => ?_⟩
      simp only [mem]
      rw [H.2 n]
      exact or_left_comm
    · rename_i h
      exact abs_ok hl hr ha fun y hy => by simp at hy; subst hy; omega
theorem insL_ok {l : List (Int × Int)} {r : Int × Int} (h : okL l) (hr : okR r) : okL (insR r l) ∧ ∀ n, mem (insR r l) n ↔ inR r n ∨ mem l n :=
  ins_ok h hr (by have := hr.1; omega)
theorem abs_len : ∀ (r : Int × Int) (l : List (Int × Int)), (absR r l).length ≤ l.length + 1
  | r, [] => by simp [absR]
  | r, x :: l => by
    unfold absR
    split
    · have := abs_len (min r.1 x.1, max r.2 x.2) l; simp only [List.length_cons]; omega
    · simp
theorem ins_len (r : Int × Int) : ∀ (l : List (Int × Int)), (insR r l).length ≤ l.length + 1
  | [] => by simp [insR]
  | x :: l => by
    unfold insR
    split
    · have := ins_len r l; simp only [List.length_cons]; omega
    · exact abs_len r (x :: l)
/-- where the walk along a set stands: behind those that lie ahead of the range -/
theorem ins_skip (r : Int × Int) (l : List (Int × Int)) (k : Nat) (h : k < l.length) (hk : (l.getD k (0, 0)).2 + 1 < r.1) : l.take k ++ insR r (l.drop k) = l.take (k + 1) ++ insR r (l.drop (k + 1)) := by
  rw [dropR_cons l k h, takeR_snoc l k h, insR, if_pos hk]
  simp
theorem ins_stop (r : Int × Int) (l : List (Int × Int)) (k : Nat) (hk : k < l.length → ¬ (l.getD k (0, 0)).2 + 1 < r.1) : insR r (l.drop k) = absR r (l.drop k) := by
  rcases Nat.lt_or_ge k l.length with h | h
  · rw [dropR_cons l k h, insR, if_neg (hk h)]
  · rw [List.drop_eq_nil_of_le h]; rfl
theorem abs_step (r : Int × Int) (l : List (Int × Int)) (k : Nat) (h : k < l.length) (hk : (l.getD k (0, 0)).1 ≤ r.2 + 1) : absR r (l.drop k) = absR (min r.1 (l.getD k (0, 0)).1, max r.2 (l.getD k (0, 0)).2) (l.drop (k + 1)) := by
  rw [dropR_cons l k h, absR, if_pos hk]
theorem abs_stop (r : Int × Int) (l : List (Int × Int)) (k : Nat) (hk : k < l.length → ¬ (l.getD k (0, 0)).1 ≤ r.2 + 1) : absR r (l.drop k) = r :: l.drop k := by
  rcases Nat.lt_or_ge k l.length with h | h
  · rw [dropR_cons l k h, absR, if_neg (hk h)]
  · rw [List.drop_eq_nil_of_le h]; rfl

/-- a range without another one -/
def cutR (x r : Int × Int) : List (Int × Int) := sm x.1 (min x.2 (r.1 - 1)) ++ sm (max x.1 (r.2 + 1)) x.2
/-- a set without a range -/
def cutL (r : Int × Int) (l : List (Int × Int)) : List (Int × Int) := l.flatMap fun x => cutR x r
theorem cut_ok {r : Int × Int} (hr : okR r) : ∀ {l : List (Int × Int)} {a : Int}, okFrom a l → okFrom a (cutL r l) ∧ ∀ n, mem (cutL r l) n ↔ mem l n ∧ ¬ inR r n
  | [], a, _ => ⟨trivial, fun n => by simp [cutL, mem]⟩
  | x :: l, a, hl => by
    obtain ⟨x1, x2, x3⟩ := hl
    have H := cut_ok hr (l := l) (a := x.2) x3
    have g1 := x1.1
    have g2 := x1.2.1
    have g3 := x1.2.2
    have r1 := hr.1
    have r2 := hr.2.1
    have r3 := hr.2.2
    have e : cutL r (x :: l) = sm x.1 (min x.2 (r.1 - 1)) ++ (sm (max x.1 (r.2 + 1)) x.2 ++ cutL r l) := by simp [cutL, cutR]
    rw [e]
    refine ⟨ok_sm (by omega) (by omega) (by omega) (ok_sm (by omega) (by omega) (by split <;> omega) (okFrom_mono H.1 (by split <;> split <;> omega))), fun n => ?_⟩
    rw [mem_app, mem_app, H.2 n, mem_sm, mem_sm]
    simp only [mem, inR]
    by_cases hm : mem l n
    · have := mem_above x3 hm
      simp only [hm, true_and, or_true]
      omega
    · simp only [hm, false_and, or_false]
      omega
theorem cutL_ok {l : List (Int × Int)} {r : Int × Int} (h : okL l) (hr : okR r) : okL (cutL r l) ∧ ∀ n, mem (cutL r l) n ↔ mem l n ∧ ¬ inR r n := cut_ok hr h
theorem cutR_len (x r : Int × Int) : (cutR x r).length ≤ 2 := by
  have := sm_len x.1 (min x.2 (r.1 - 1)); have := sm_len (max x.1 (r.2 + 1)) x.2
  simp only [cutR, List.length_append]; omega
theorem cut_len_past {r : Int × Int} (hr : okR r) : ∀ {l : List (Int × Int)} {a : Int}, okFrom a l → r.2 ≤ a + 1 → (cutL r l).length ≤ l.length
  | [], _, _, _ => by simp [cutL]
  | x :: l, a, hl, ha => by
    have d := hl.2.1
    have b := hl.1.2.1
    have r2 := hr.2.1
    have H := cut_len_past hr hl.2.2 (by omega)
    have e : cutL r (x :: l) = cutR x r ++ cutL r l := by simp [cutL]
    rw [e, List.length_append, List.length_cons]
    have c : (cutR x r).length ≤ 1 := by
      unfold cutR
      rw [show sm x.1 (min x.2 (r.1 - 1)) = [] from if_neg (by omega)]
      exact sm_len _ _
    omega
theorem cut_len {r : Int × Int} (hr : okR r) : ∀ {l : List (Int × Int)} {a : Int}, okFrom a l → (cutL r l).length ≤ l.length + 1
  | [], _, _ => by simp [cutL]
  | x :: l, a, hl => by
    have e : cutL r (x :: l) = cutR x r ++ cutL r l := by simp [cutL]
    have r2 := hr.2.1
    rw [e, List.length_append, List.length_cons]
    by_cases h : x.2 ≤ r.2
    · have c : (cutR x r).length ≤ 1 := by
        unfold cutR
        rw [show sm (max x.1 (r.2 + 1)) x.2 = [] from if_neg (by omega)]
        simp only [List.append_nil]; exact sm_len _ _
      have := cut_len hr hl.2.2
      omega
    · have := cut_len_past hr hl.2.2 (by omega)
      have := cutR_len x r
      omega
theorem cutL_snoc (r : Int × Int) (l : List (Int × Int)) (k : Nat) (h : k < l.length) : cutL r (l.take (k + 1)) = cutL r (l.take k) ++ sm (l.getD k (0, 0)).1 (min (l.getD k (0, 0)).2 (r.1 - 1)) ++ sm (max (l.getD k (0, 0)).1 (r.2 + 1)) (l.getD k (0, 0)).2 := by
  rw [takeR_snoc l k h]; simp [cutL, cutR]

/-- what of the numbers from 'next' to 'hi' is not in a set -/
def holesF (hi : Int) : Int → List (Int × Int) → List (Int × Int)
  | next, [] => sm next hi
  | next, x :: l => sm next (min (x.1 - 1) hi) ++ holesF hi (max next (x.2 + 1)) l
theorem holes_ok {hi : Int} (hh : hi ≤ 4611686018427387903) : ∀ {l : List (Int × Int)} {a b next : Int}, okFrom a l → 0 ≤ next → b + 2 ≤ next → okFrom b (holesF hi next l) ∧ ∀ n, mem (holesF hi next l) n ↔ (next ≤ n ∧ n ≤ hi) ∧ ¬ mem l n
  | [], a, b, next, _, h0, hb => ⟨by have := ok_sm (l := []) h0 hh hb trivial; simpa [holesF] using this, fun n => by simp [holesF, mem_sm, mem]⟩
  | x :: l, a, b, next, hl, h0, hb => by
    obtain ⟨x1, x2, x3⟩ := hl
    have g1 := x1.1
    have g2 := x1.2.1
    have g3 := x1.2.2
    have H := holes_ok hh (l := l) (a := x.2) (b := max b (if next ≤ min (x.1 - 1) hi then min (x.1 - 1) hi else b)) (next := max next (x.2 + 1)) x3 (by omega) (by split <;> omega)
    refine ⟨ok_sm h0 (by omega) hb H.1, fun n => ?_⟩
    simp only [holesF]
    rw [mem_app, H.2 n, mem_sm]
    simp only [mem, inR]
    by_cases hm : mem l n
    · have := mem_above x3 hm
      simp only [hm, not_true, and_false, or_false, or_true, iff_false]
      omega
    · simp only [hm, not_false_eq_true, and_true, or_false]
      omega
theorem holesL_ok {l : List (Int × Int)} {r : Int × Int} (h : okL l) (hr : okR r) : okL (holesF r.2 r.1 l) ∧ ∀ n, mem (holesF r.2 r.1 l) n ↔ inR r n ∧ ¬ mem l n :=
  holes_ok hr.2.2 h hr.1 (by have := hr.1; omega)
theorem holes_len (hi : Int) : ∀ (l : List (Int × Int)) (next : Int), (holesF hi next l).length ≤ l.length + 1
  | [], next => by simp only [holesF]; have := sm_len next hi; simpa using this
  | x :: l, next => by
    simp only [holesF, List.length_append, List.length_cons]
    have := holes_len hi l (max next (x.2 + 1)); have := sm_len next (min (x.1 - 1) hi); omega
theorem holes_step (hi next : Int) (l : List (Int × Int)) (k : Nat) (h : k < l.length) :
    holesF hi next (l.drop k) = sm next (min ((l.getD k (0, 0)).1 - 1) hi) ++ holesF hi (max next ((l.getD k (0, 0)).2 + 1)) (l.drop (k + 1)) := by
  rw [dropR_cons l k h]; rfl
end Go.Proofs.Ytnccibaifffhhaa.P
/- Plain words for rows of bytes in memory, and big-endian numbers: nothing of the program's. -/
namespace Go.Proofs.Ytnccibaifffhhaa.P
set_option linter.unusedVariables false
open Go.RowKit

theorem ret_int {k : IntKind} {a b : Int} (h : a = b) : Ending.returned (.int k a) = .returned (.int k b) := by rw [h]
theorem ret_bool {a : Bool} (h : a = true) : Ending.returned (.bool a) = .returned (.bool true) := by rw [h]

/-- the numbers 'zs' are bytes -/
def Byt (zs : List Int) : Prop := ∀ j, 0 ≤ zs.getD j 0 ∧ zs.getD j 0 ≤ 255

/-- 'A' leads to a row below block B whose cells are the bytes zs; where zs is empty nothing is said of A -/
def BRow (w : World) (B : Nat) (A : Option Addr) (zs : List Int) : Prop :=
  Byt zs ∧ (0 < zs.length → ∃ b off, A = some ⟨b, off, none⟩ ∧ b < B ∧ ∀ j, j < zs.length → w.cell? ⟨b, off + j, none⟩ = some (.int .u8 (zs.getD j 0)))

theorem Byt.nil : Byt [] := fun j => by simp
theorem Byt.drop {zs : List Int} (h : Byt zs) (k : Nat) : Byt (zs.drop k) := fun j => by
  rw [List.getD_eq_getElem?_getD, List.getElem?_drop, ← List.getD_eq_getElem?_getD]; exact h _
theorem getD_take {zs : List Int} {k j : Nat} (h : j < k) : (zs.take k).getD j 0 = zs.getD j 0 := by
  rw [List.getD_eq_getElem?_getD, List.getElem?_take, if_pos h, ← List.getD_eq_getElem?_getD]
theorem getD_drop {zs : List Int} {k j : Nat} : (zs.drop k).getD j 0 = zs.getD (k + j) 0 := by
  rw [List.getD_eq_getElem?_getD, List.getElem?_drop, ← List.getD_eq_getElem?_getD]
theorem getD_long {zs : List Int} {j : Nat} (h : zs.length ≤ j) : zs.getD j 0 = 0 := by
  rw [List.getD_eq_getElem?_getD, List.getElem?_eq_none h]; rfl
theorem Byt.take {zs : List Int} (h : Byt zs) (k : Nat) : Byt (zs.take k) := fun j => by
  by_cases hj : j < k
  · rw [getD_take hj]; exact h _
  · rw [getD_long (by rw [List.length_take]; omega)]; omega

theorem Byt.append {xs ys : List Int} (h : Byt xs) (k : Byt ys) : Byt (xs ++ ys) := fun j => by
  rw [List.getD_eq_getElem?_getD, List.getElem?_append]
  split
  · rw [← List.getD_eq_getElem?_getD]; exact h j
  · rw [← List.getD_eq_getElem?_getD]; exact k _

theorem BRow.nil (w : World) (B : Nat) (A : Option Addr) : BRow w B A [] := ⟨Byt.nil, fun h => absurd h (by simp)⟩
theorem BRow.keep {w w' : World} {B : Nat} {A : Option Addr} {zs : List Int} (h : BRow w B A zs) (hk : ∀ p : Addr, p.block < B → w'.cell? p = w.cell? p) : BRow w' B A zs :=
  ⟨h.1, fun hn => by
    obtain ⟨b, off, e, hb, hc⟩ := h.2 hn
    exact ⟨b, off, e, hb, fun j hj => (hk _ hb).trans (hc j hj)⟩⟩
theorem BRow.more {w : World} {B B' : Nat} {A : Option Addr} {zs : List Int} (h : BRow w B A zs) (hB : B ≤ B') : BRow w B' A zs :=
  ⟨h.1, fun hn => by
    obtain ⟨b, off, e, hb, hc⟩ := h.2 hn
    exact ⟨b, off, e, by omega, hc⟩⟩
theorem BRow.take {w : World} {B : Nat} {A : Option Addr} {zs : List Int} (h : BRow w B A zs) (k : Nat) : BRow w B A (zs.take k) :=
  ⟨h.1.take k, fun hn => by
    rw [List.length_take] at hn
    obtain ⟨b, off, e, hb, hc⟩ := h.2 (by omega)
    refine ⟨b, off, e, hb, fun j hj => ?_⟩
    rw [List.length_take] at hj
    rw [getD_take (by omega)]
    exact hc j (by omega)⟩
theorem BRow.below {w w' : World} {B : Nat} {A : Option Addr} {zs : List Int} (h : BRow w B A zs) (hb : Below B w w') : BRow w' B A zs := h.keep fun _ hp => hb.cell hp

/-- a big-endian number read on from 'a' -/
def beFrom (a : Int) (zs : List Int) : Int := zs.foldl (fun a z => a * 256 + z) a
theorem beFrom_snoc (a : Int) (zs : List Int) (z : Int) : beFrom a (zs ++ [z]) = beFrom a zs * 256 + z := by simp [beFrom]
theorem take_snoc (zs : List Int) (k : Nat) (h : k < zs.length) : zs.take (k + 1) = zs.take k ++ [zs.getD k 0] := by
  rw [List.take_succ_eq_append_getElem h, List.getD_eq_getElem?_getD, List.getElem?_eq_getElem h]; rfl
theorem beFrom_nil (a : Int) : beFrom a [] = a := rfl
theorem beFrom_step (a : Int) (zs : List Int) (k : Nat) (h : k < zs.length) : beFrom a (zs.take (k + 1)) = beFrom a (zs.take k) * 256 + zs.getD k 0 := by
  rw [take_snoc zs k h, beFrom_snoc]
theorem beFrom_bd (a : Int) (zs : List Int) (hz : Byt zs) (ha : 0 ≤ a) : ∀ k, k ≤ zs.length → 0 ≤ beFrom a (zs.take k) ∧ beFrom a (zs.take k) ≤ a * 256 ^ k + (256 ^ k - 1) := by
  intro k
  induction k with
  | zero => intro _; simp [beFrom]; omega
  | succ k ih =>
    intro hk
    have i := ih (by omega)
    have z := hz k
    rw [beFrom_step a zs k (by omega)]
    have e : (256 : Int) ^ (k + 1) = 256 ^ k * 256 := Int.pow_succ _ _
    rw [e]
    generalize (256 : Int) ^ k = p at i ⊢
    have e2 : a * (p * 256) = (a * p) * 256 := by rw [Int.mul_assoc]
    rw [e2]
    omega

theorem pow256 (k : Nat) (h : k ≤ 6) : 1 ≤ (256 : Int) ^ k ∧ (256 : Int) ^ k ≤ 281474976710656 := by
  have c : k = 0 ∨ k = 1 ∨ k = 2 ∨ k = 3 ∨ k = 4 ∨ k = 5 ∨ k = 6 := by omega
  rcases c with rfl | rfl | rfl | rfl | rfl | rfl | rfl <;> decide
/-- an accumulator of at most seven bytes, of which the first has six bits -/
theorem acc_bd (a y : Int) (k : Nat) (h : k ≤ 6) (a0 : 0 ≤ a) (a1 : a ≤ 63) (y0 : 0 ≤ y) (y1 : y ≤ a * 256 ^ k + (256 ^ k - 1)) : 0 ≤ y ∧ y ≤ 18014398509481983 := by
  have p := pow256 k h
  generalize (256 : Int) ^ k = u at *
  have q : a * u ≤ 63 * 281474976710656 := Int.mul_le_mul a1 p.2 (by omega) (by omega)
  omega
theorem or_i64 (x y : Int) (hx : 0 ≤ x) (hx1 : x ≤ 18014398509481983) (hy : 0 ≤ y) (hy1 : y ≤ 255) : bits .or .i64 (x * 256) y = x * 256 + y :=
  bits_join .i64 62 (by decide) (fun n h0 h1 => IntWalk.i64_in n (by omega)) 8 (x * 256) y (by omega) (by omega) (by omega) hy (by omega) (by omega)

theorem or_top (x t : Int) (h0 : 0 ≤ x) (h1 : x < 64) (ht : t = 0 ∨ t = 64 ∨ t = 128 ∨ t = 192) : bits .or .u8 x t = x + t := by
  have hc : bits .or .u8 x t = bits .or .u8 t x := by simp only [bits, BitVec.or_comm]
  rw [hc, bits_join .u8 8 (by decide) wraps_u8 6 t x (by omega) (by omega) (by omega) h0 (by omega) (by omega)]
  omega

theorem cell_lt {w : World} {p : Addr} {v : Value} (h : w.cell? p = some v) : p.block < w.heap.size := by
  rcases Nat.lt_or_ge p.block w.heap.size with hlt | hge
  · exact hlt
  · exfalso
    have : w.heap[p.block]? = none := Array.getElem?_eq_none hge
    simp [World.cell?, this] at h

/-- a slice of integers that came in, as the frame of a proof hands it on -/
def IsRow (k : IntKind) (w : World) (a : Option Addr) (len cap : Nat) (zs : List Int) : Prop :=
  (a = none ∧ len = 0 ∧ cap = 0 ∧ zs = []) ∨
  ∃ x, a = some x ∧ len ≤ cap ∧ cap ≤ maxLen ∧ zs.length = cap ∧ (∀ i, i < zs.length → w.cell? (x.add i) = some (.int k (zs.getD i 0))) ∧ ∀ n ∈ zs, (Lit.int k n).wf = true
/-- a slice of bytes that came in, as the frame of a proof hands it on -/
def InRow (w : World) (a : Option Addr) (len cap : Nat) (zs : List Int) : Prop := IsRow .u8 w a len cap zs

theorem InRow.brow {w : World} {a : Option Addr} {len cap : Nat} {zs : List Int} (h : InRow w a len cap zs) :
    BRow w w.heap.size a (zs.take len) ∧ (zs.take len).length = len ∧ len ≤ cap ∧ cap ≤ maxLen := by
  rcases h with ⟨rfl, rfl, rfl, rfl⟩ | ⟨x, rfl, hl, hm, hz, hc, hw⟩
  · exact ⟨BRow.nil _ _ _, rfl, Nat.le_refl _, by unfold maxLen; omega⟩
  · have hlen : (zs.take len).length = len := by rw [List.length_take]; omega
    refine ⟨⟨fun j => ?_, fun hp => ?_⟩, hlen, hl, hm⟩
    · by_cases hj : j < (zs.take len).length
      · have hm' : (zs.take len).getD j 0 ∈ zs := by
          rw [List.getD_eq_getElem?_getD, List.getElem?_eq_getElem hj]
          exact List.mem_of_mem_take (List.getElem_mem hj)
        exact bounds_u8 (hw _ hm')
      · rw [getD_long (by omega)]; omega
    · obtain ⟨b, off, rfl, hat⟩ := ints_at hc (by omega)
      refine ⟨b, off, rfl, cell_lt (hat 0 (by omega)), fun j hj => ?_⟩
      rw [getD_take (by omega)]
      exact hat j (by omega)
end Go.Proofs.Ytnccibaifffhhaa.P
/- Numbers in bytes: sizes, bytes, and what is read. Nothing of the program's. -/
namespace Go.Proofs.Ytnccibaifffhhaa.P
set_option linter.unusedVariables false
open Go.RowKit

theorem byt_all {zs : List Int} (h : ∀ z ∈ zs, 0 ≤ z ∧ z ≤ 255) : Byt zs := fun j => by
  by_cases hj : j < zs.length
  · rw [List.getD_eq_getElem?_getD, List.getElem?_eq_getElem hj]
    exact h _ (List.getElem_mem hj)
  · rw [getD_long (by omega)]; omega
/-- how many bytes a number takes, by P1.1 -/
def sz (n : Int) : Int := if n < 64 then 1 else if n < 16384 then 2 else if n < 1073741824 then 4 else 8

theorem sz_bd (n : Int) : 1 ≤ sz n ∧ sz n ≤ 8 := by unfold sz; split <;> (try split) <;> (try split) <;> omega
theorem sz_mono (a b : Int) (h : a ≤ b) : sz a ≤ sz b := by unfold sz; split <;> (try split) <;> (try split) <;> (try split) <;> (try split) <;> (try split) <;> omega
theorem sz_cases (n : Int) : (sz n = 1 ∧ n < 64) ∨ (sz n = 2 ∧ 64 ≤ n ∧ n < 16384) ∨ (sz n = 4 ∧ 16384 ≤ n ∧ n < 1073741824) ∨ (sz n = 8 ∧ 1073741824 ≤ n) := by
  unfold sz; split <;> (try split) <;> (try split) <;> omega
def kOf (z : Int) : Int := if z < 64 then 1 else if z < 128 then 2 else if z < 192 then 4 else 8
theorem kOf_bd (z : Int) : 1 ≤ kOf z ∧ kOf z ≤ 8 := by unfold kOf; split <;> (try split) <;> (try split) <;> omega
def decOk (zs : List Int) : Prop := 0 < zs.length ∧ kOf (zs.getD 0 0) ≤ (zs.length : Int)
def decV (zs : List Int) : Int := beFrom (zs.getD 0 0 % 64) ((zs.drop 1).take ((kOf (zs.getD 0 0)).toNat - 1))

theorem decV_bd (zs : List Int) (h : Byt zs) (hok : decOk zs) : 0 ≤ decV zs ∧ decV zs ≤ 4611686018427387903 ∧ sz (decV zs) ≤ kOf (zs.getD 0 0) := by
  have hd := h.drop 1
  have bd := beFrom_bd (zs.getD 0 0 % 64) (zs.drop 1) hd (by omega) ((kOf (zs.getD 0 0)).toNat - 1) (by have := hok.2; rw [List.length_drop]; omega)
  unfold decV
  generalize beFrom (zs.getD 0 0 % 64) ((zs.drop 1).take ((kOf (zs.getD 0 0)).toNat - 1)) = v at *
  generalize zs.getD 0 0 = z at *
  have z63 : z % 64 ≤ 63 := by omega
  have z0 : 0 ≤ z % 64 := by omega
  generalize z % 64 = r at *
  have c : kOf z = 1 ∨ kOf z = 2 ∨ kOf z = 4 ∨ kOf z = 8 := by unfold kOf; split <;> (try split) <;> (try split) <;> omega
  rcases c with c | c | c | c
  all_goals
    rw [c] at bd ⊢
    simp only [show (1 : Int).toNat - 1 = 0 from rfl, show (2 : Int).toNat - 1 = 1 from rfl, show (4 : Int).toNat - 1 = 3 from rfl, show (8 : Int).toNat - 1 = 7 from rfl] at bd
    have e0 : (256 : Int) ^ 0 = 1 := rfl
    have e1 : (256 : Int) ^ 1 = 256 := rfl
    have e3 : (256 : Int) ^ 3 = 16777216 := rfl
    have e7 : (256 : Int) ^ 7 = 72057594037927936 := rfl
    simp only [e0, e1, e3, e7] at bd
    refine ⟨bd.1, by omega, ?_⟩
    rcases sz_cases v with ⟨e, b⟩ | ⟨e, b⟩ | ⟨e, b⟩ | ⟨e, b⟩ <;> omega
/-- a number's bytes, by P1.2 -/
def enc (n : Int) : List Int :=
  if n < 64 then [n] else if n < 16384 then [n / 256 + 64, n % 256]
  else if n < 1073741824 then [n / 256 / 256 / 256 + 128, n / 256 / 256 % 256, n / 256 % 256, n % 256]
  else [n / 256 / 256 / 256 / 256 / 256 / 256 / 256 + 192, n / 256 / 256 / 256 / 256 / 256 / 256 % 256, n / 256 / 256 / 256 / 256 / 256 % 256, n / 256 / 256 / 256 / 256 % 256, n / 256 / 256 / 256 % 256, n / 256 / 256 % 256, n / 256 % 256, n % 256]

theorem enc_len (n : Int) : ((enc n).length : Int) = sz n := by
  unfold enc sz
  split <;> (try split) <;> (try split) <;> rfl
theorem enc_byt (n : Int) (h0 : 0 ≤ n) (h1 : n ≤ 4611686018427387903) : Byt (enc n) := by
  apply byt_all
  unfold enc
  split
  · intro z hz; simp at hz; omega
  split
  · intro z hz; simp at hz; omega
  split
  · intro z hz; simp at hz; omega
  · intro z hz; simp at hz; omega
theorem enc_head (n : Int) (h0 : 0 ≤ n) (h1 : n ≤ 4611686018427387903) : ∃ z t, enc n = z :: t ∧ kOf z = sz n ∧ beFrom (z % 64) t = n := by
  unfold enc sz
  split
  · exact ⟨n, [], rfl, by unfold kOf; rw [if_pos (by omega)], by simp [beFrom]; omega⟩
  split
  · exact ⟨_, _, rfl, by unfold kOf; rw [if_neg (by omega), if_pos (by omega)], by simp only [beFrom, List.foldl_cons, List.foldl_nil]; omega⟩
  split
  · exact ⟨_, _, rfl, by unfold kOf; rw [if_neg (by omega), if_neg (by omega), if_pos (by omega)], by simp only [beFrom, List.foldl_cons, List.foldl_nil]; omega⟩
  · exact ⟨_, _, rfl, by unfold kOf; rw [if_neg (by omega), if_neg (by omega), if_neg (by omega)], by simp only [beFrom, List.foldl_cons, List.foldl_nil]; omega⟩

theorem enc_dec (n : Int) (h0 : 0 ≤ n) (h1 : n ≤ 4611686018427387903) (more : List Int) : decOk (enc n ++ more) ∧ decV (enc n ++ more) = n ∧ kOf ((enc n ++ more).getD 0 0) = sz n := by
  have hl := enc_len n
  obtain ⟨z, t, e, hk, hv⟩ := enc_head n h0 h1
  rw [e] at hl ⊢
  have hz : ((z :: t) ++ more).getD 0 0 = z := rfl
  have hb := sz_bd n
  refine ⟨⟨by simp, ?_⟩, ?_, by rw [hz]; exact hk⟩
  · rw [hz, hk, List.length_append]; omega
  · unfold decV
    rw [hz, hk]
    have e2 : (((z :: t) ++ more).drop 1).take ((sz n).toNat - 1) = t := by
      show (t ++ more).take ((sz n).toNat - 1) = t
      rw [List.take_append_of_le_length (by simp at hl; omega), List.take_of_length_le (by simp at hl; omega)]
    rw [e2, hv]

theorem enc_cut (n : Int) (h0 : 0 ≤ n) (h1 : n ≤ 4611686018427387903) (j : Nat) (hj : j < (enc n).length) : ¬ decOk ((enc n).take j) := by
  have hl := enc_len n
  obtain ⟨z, t, e, hk, hv⟩ := enc_head n h0 h1
  rintro ⟨a, b⟩
  rw [List.length_take] at a b
  have hz : ((enc n).take j).getD 0 0 = z := by
    rw [getD_take (by omega), e]; rfl
  rw [hz, hk] at b
  omega
end Go.Proofs.Ytnccibaifffhhaa.P
/- The lowest bytes of a number, and how many numbers so many bytes tell apart: nothing of the program's. -/
namespace Go.Proofs.Ytnccibaifffhhaa.P
set_option linter.unusedVariables false
open Go.RowKit

/-- a number without its k lowest bytes -/
def shr8 : Nat → Int → Int
  | 0, v => v
  | k + 1, v => shr8 k v / 256
/-- the k lowest bytes of a number, the highest first -/
def lowB : Nat → Int → List Int
  | 0, _ => []
  | k + 1, v => (shr8 k v % 256) :: lowB k v
theorem lowB_len (k : Nat) (v : Int) : (lowB k v).length = k := by induction k with | zero => rfl | succ k ih => simp [lowB, ih]
theorem shr8_bd (v : Int) (h0 : 0 ≤ v) (h1 : v ≤ 18446744073709551615) (k : Nat) : 0 ≤ shr8 k v ∧ shr8 k v ≤ 18446744073709551615 := by
  induction k with
  | zero => exact ⟨h0, h1⟩
  | succ k ih => simp only [shr8]; omega
theorem byt1 {z : Int} (h : 0 ≤ z ∧ z ≤ 255) : Byt [z] := fun j => by
  cases j with
  | zero => exact h
  | succ j => simp
theorem byt_cons {z : Int} {zs : List Int} (h : 0 ≤ z ∧ z ≤ 255) (k : Byt zs) : Byt (z :: zs) := fun j => by
  cases j with
  | zero => exact h
  | succ j => exact k j
theorem lowB_byt (k : Nat) (v : Int) : Byt (lowB k v) := by
  induction k with
  | zero => exact Byt.nil
  | succ k ih => exact byt_cons (by omega) ih

/-- how many numbers k bytes tell apart (one to four) -/
def winOf (k : Int) : Int := if k = 1 then 256 else if k = 2 then 65536 else if k = 3 then 16777216 else 4294967296
/-- how many bytes a number takes that is so far above the last one told of, by P2.1 -/
def cutK (d : Int) : Nat := if d ≤ 128 then 1 else if d ≤ 32768 then 2 else if d ≤ 8388608 then 3 else 4
theorem cutK_cases (d : Int) : (cutK d = 1 ∧ d ≤ 128) ∨ (cutK d = 2 ∧ 128 < d ∧ d ≤ 32768) ∨ (cutK d = 3 ∧ 32768 < d ∧ d ≤ 8388608) ∨ (cutK d = 4 ∧ 8388608 < d) := by
  unfold cutK; split <;> (try split) <;> (try split) <;> omega
/-- of a number, one window more and one less: the nearest to the next one -/
def pick3 (m n win half : Int) : Int :=
  if m ≤ n - half ∧ m ≤ 4611686018427387903 - win then m + win else if n + half < m ∧ win ≤ m then m - win else m
theorem pick3_cases (m n win half : Int) (hh : 0 ≤ half) :
    (m ≤ n - half ∧ m ≤ 4611686018427387903 - win ∧ pick3 m n win half = m + win) ∨ (m ≤ n - half ∧ 4611686018427387903 - win < m ∧ pick3 m n win half = m)
    ∨ (n - half < m ∧ n + half < m ∧ win ≤ m ∧ pick3 m n win half = m - win) ∨ (n - half < m ∧ n + half < m ∧ m < win ∧ pick3 m n win half = m) ∨ (n - half < m ∧ m ≤ n + half ∧ pick3 m n win half = m) := by
  unfold pick3
  split
  · omega
  split
  · omega
  · omega
/-- the number that ends so, by P2.2: 'win' many can be told apart, 'low' is what the bytes say -/
def wholeV (t win low : Int) : Int := pick3 (t + 1 - (t + 1) % win + low) (t + 1) win (win / 2)
end Go.Proofs.Ytnccibaifffhhaa.P
/- Frames in bytes: what a kind has, what may be, the bytes, and what is read. Nothing of the program's. -/
namespace Go.Proofs.Ytnccibaifffhhaa.P
set_option linter.unusedVariables false
open Go.RowKit

structure Fr where
  kind : Int
  id : Int
  off : Int
  fin : Bool
  code : Int
  rs : List (Int × Int)
  data : List Int

/-- the number of 64 bits that reads as one with a sign -/
def i64Of (n : Int) : Int := if n < 9223372036854775808 then n else n - 18446744073709551616
/-- what a kind has, in the order of its bytes: ranges r, id i, off o, code c, code of eight bytes w, data d, fin f -/
def partsOf (k : Int) : Option (List Int) :=
  if k = 0 then some [] else if k = 1 then some [] else if k = 2 then some [114] else if k = 4 then some [105, 111, 99] else if k = 5 then some [105, 99]
  else if k = 6 then some [111, 100] else if k = 7 then some [100] else if k = 8 then some [105, 111, 100, 102] else if k = 16 then some [111] else if k = 17 then some [105, 111]
  else if k = 18 then some [111] else if k = 26 then some [119] else if k = 27 then some [119] else if k = 28 then some [99] else if k = 30 then some [] else none
theorem parts_cases {k : Int} {s : List Int} (h : partsOf k = some s) : (s = [] ∧ (k = 0 ∨ k = 1 ∨ k = 30)) ∨ (s = [114] ∧ k = 2) ∨ (s = [105, 111, 99] ∧ k = 4) ∨ (s = [105, 99] ∧ k = 5) ∨ (s = [111, 100] ∧ k = 6) ∨ (s = [100] ∧ k = 7) ∨ (s = [105, 111, 100, 102] ∧ k = 8) ∨
    (s = [111] ∧ (k = 16 ∨ k = 18)) ∨ (s = [105, 111] ∧ k = 17) ∨ (s = [119] ∧ (k = 26 ∨ k = 27)) ∨ (s = [99] ∧ k = 28) := by
  unfold partsOf at h
  by_cases e0 : k = 0
  · rw [if_pos e0] at h; cases h; simp [e0]
  rw [if_neg e0] at h
  by_cases e1 : k = 1
  · rw [if_pos e1] at h; cases h; simp [e1]
  rw [if_neg e1] at h
  by_cases e2 : k = 2
  · rw [if_pos e2] at h; cases h; simp [e2]
  rw [if_neg e2] at h
  by_cases e4 : k = 4
  · rw [if_pos e4] at h; cases h; simp [e4]
  rw [if_neg e4] at h
  by_cases e5 : k = 5
  · rw [if_pos e5] at h; cases h; simp [e5]
  rw [if_neg e5] at h
  by_cases e6 : k = 6
  · rw [if_pos e6] at h; cases h; simp [e6]
  rw [if_neg e6] at h
  by_cases e7 : k = 7
  · rw [if_pos e7] at h; cases h; simp [e7]
  rw [if_neg e7] at h
  by_cases e8 : k = 8
  · rw [if_pos e8] at h; cases h; simp [e8]
  rw [if_neg e8] at h
  by_cases e16 : k = 16
  · rw [if_pos e16] at h; cases h; simp [e16]
  rw [if_neg e16] at h
  by_cases e17 : k = 17
  · rw [if_pos e17] at h; cases h; simp [e17]
  rw [if_neg e17] at h
  by_cases e18 : k = 18
  · rw [if_pos e18] at h; cases h; simp [e18]
  rw [if_neg e18] at h
  by_cases e26 : k = 26
  · rw [if_pos e26] at h; cases h; simp [e26]
  rw [if_neg e26] at h
  by_cases e27 : k = 27
  · rw [if_pos e27] at h; cases h; simp [e27]
  rw [if_neg e27] at h
  by_cases e28 : k = 28
  · rw [if_pos e28] at h; cases h; simp [e28]
  rw [if_neg e28] at h
  by_cases e30 : k = 30
  · rw [if_pos e30] at h; cases h; simp [e30]
  rw [if_neg e30] at h
  cases h

/-- a set, the highest first; its highest number is at most b - 2 -/
def downFrom : Int → List (Int × Int) → Prop
  | _, [] => True
  | b, x :: t => okR x ∧ x.2 + 2 ≤ b ∧ downFrom x.1 t
def downL (l : List (Int × Int)) : Prop := downFrom 4611686018427387905 l
instance decR (x : Int × Int) : Decidable (okR x) := by unfold okR; infer_instance
instance decDown : ∀ (b : Int) (l : List (Int × Int)), Decidable (downFrom b l)
  | _, [] => .isTrue trivial
  | b, x :: t => by
    have := decDown x.1 t
    unfold downFrom
    infer_instance
instance (l : List (Int × Int)) : Decidable (downL l) := decDown _ l
/-- a number that is not from 0 to MaxVar, or stands where there is none -/
def numBad (has : Bool) (n : Int) : Bool := !(decide (0 ≤ n) && decide (n ≤ 4611686018427387903)) || (!has && decide (n ≠ 0))
/-- what Check says, by P4.2 -/
def faultF (f : Fr) : Int :=
  match partsOf f.kind with
  | none => 2
  | some s =>
    if 120 < f.data.length ∨ 6 < f.rs.length then 1
    else if numBad (decide (105 ∈ s)) f.id = true ∨ numBad (decide (111 ∈ s)) f.off = true ∨ numBad (decide (99 ∈ s) || decide (119 ∈ s)) f.code = true then 6
    else if 111 ∈ s ∧ 100 ∈ s ∧ 4611686018427387903 < f.off + f.data.length then 6
    else if decide (0 < f.rs.length) ≠ decide (114 ∈ s) ∨ ¬ downL f.rs ∨ (0 < f.data.length ∧ 100 ∉ s) ∨ (f.fin = true ∧ 102 ∉ s) then 3
    else 0

/-- the bytes of further ranges, behind one that begins with b -/
def encT : Int → List (Int × Int) → List Int
  | _, [] => []
  | b, x :: t => enc (b - x.2 - 2) ++ (enc (x.2 - x.1) ++ encT x.1 t)
def encR : List (Int × Int) → List Int
  | [] => []
  | x :: t => enc x.2 ++ (enc t.length ++ (enc (x.2 - x.1) ++ encT x.1 t))
def encP (f : Fr) (c : Int) : List Int :=
  if c = 114 then encR f.rs else if c = 105 then enc f.id else if c = 111 then enc f.off else if c = 99 then enc f.code else if c = 119 then lowB 8 f.code else if c = 100 then enc f.data.length ++ f.data else []
def encPs (f : Fr) : List Int → List Int
  | [] => []
  | c :: cs => encP f c ++ encPs f cs
def markF (f : Fr) : List Int := if f.kind = 8 then (if f.fin then [15] else [14]) else enc f.kind
/-- the bytes of a frame, by P4.3 -/
def frT (f : Fr) : List Int := markF f ++ encPs f ((partsOf f.kind).getD [])

instance (zs : List Int) : Decidable (decOk zs) := by unfold decOk; infer_instance
def rd (s : List Int) : Except Int (Int × List Int) := if decOk s then .ok (decV s, s.drop (kOf (s.getD 0 0)).toNat) else .error 4
def decT : Nat → Int → List Int → Except Int (List (Int × Int) × List Int)
  | 0, _, s => .ok ([], s)
  | k + 1, b, s =>
    match rd s with
    | .error e => .error e
    | .ok (g, s1) =>
      match rd s1 with
      | .error e => .error e
      | .ok (n, s2) =>
        if b - g - 2 - n < 0 then .error 6 else
        match decT k (b - g - 2 - n) s2 with
        | .error e => .error e
        | .ok (t, s3) => .ok ((b - g - 2 - n, b - g - 2) :: t, s3)
def decRs (s : List Int) : Except Int (List (Int × Int) × List Int) :=
  match rd s with
  | .error e => .error e
  | .ok (hi, s1) =>
    match rd s1 with
    | .error e => .error e
    | .ok (n, s2) =>
      if 6 ≤ n then .error 1 else
      match rd s2 with
      | .error e => .error e
      | .ok (m, s3) =>
        if hi - m < 0 then .error 6 else
        match decT n.toNat (hi - m) s3 with
        | .error e => .error e
        | .ok (t, s4) => .ok ((hi - m, hi) :: t, s4)
def decP (f : Fr) (s : List Int) (c : Int) : Except Int (Fr × List Int) :=
  if c = 114 then match decRs s with | .error e => .error e | .ok (l, t) => .ok ({ f with rs := l }, t)
  else if c = 105 then match rd s with | .error e => .error e | .ok (n, t) => .ok ({ f with id := n }, t)
  else if c = 111 then match rd s with | .error e => .error e | .ok (n, t) => .ok ({ f with off := n }, t)
  else if c = 99 then match rd s with | .error e => .error e | .ok (n, t) => .ok ({ f with code := n }, t)
  else if c = 119 then if s.length < 8 then .error 4 else .ok ({ f with code := i64Of (beFrom 0 (s.take 8)) }, s.drop 8)
  else if c = 100 then match rd s with | .error e => .error e | .ok (n, t) => if 120 < n then .error 1 else if (t.length : Int) < n then .error 4 else .ok ({ f with data := t.take n.toNat }, t.drop n.toNat)
  else .ok (f, s)
def decPs : List Int → Fr → List Int → Except Int (Fr × List Int)
  | [], f, s => .ok (f, s)
  | c :: cs, f, s => match decP f s c with | .error e => .error e | .ok (g, t) => decPs cs g t
/-- the frame that bytes begin with, by P4.4, and what stands behind it -/
def decF (s : List Int) : Except Int (Fr × List Int) :=
  match rd s with
  | .error e => .error e
  | .ok (k, t) =>
    if k = 8 then .error 2 else
    match partsOf (if k = 14 ∨ k = 15 then 8 else k) with
    | none => .error 2
    | some ps =>
      match decPs ps ⟨if k = 14 ∨ k = 15 then 8 else k, 0, 0, decide (k = 15), 0, [], []⟩ t with
      | .error e => .error e
      | .ok (f, u) => if faultF f = 0 then .ok (f, u) else .error (faultF f)
end Go.Proofs.Ytnccibaifffhhaa.P
/- A frame is read as it was written; what is read is written in no more bytes; no frame begins with another one's bytes. Nothing of the program's. -/
namespace Go.Proofs.Ytnccibaifffhhaa.P
set_option linter.unusedVariables false
open Go.RowKit

theorem rd_enc (n : Int) (h0 : 0 ≤ n) (h1 : n ≤ 4611686018427387903) (m : List Int) : rd (enc n ++ m) = .ok (n, m) := by
  have h := enc_dec n h0 h1 m
  unfold rd
  rw [if_pos h.1, h.2.1, h.2.2, List.drop_append_of_le_length (by have := enc_len n; omega), List.drop_of_length_le (by have := enc_len n; omega)]
  rfl
theorem rd_ok {s t : List Int} {n : Int} (h : rd s = .ok (n, t)) : decOk s ∧ n = decV s ∧ t = s.drop (kOf (s.getD 0 0)).toNat := by
  unfold rd at h
  split at h
  · rename_i hd
    simp only [Except.ok.injEq, Prod.mk.injEq] at h
    exact ⟨hd, h.1.symm, h.2.symm⟩
  · cases h
theorem rd_err {s : List Int} {e : Int} (h : rd s = .error e) : e = 4 := by
  unfold rd at h
  split at h
  · cases h
  · simpa using h.symm
theorem head_app {s m : List Int} (h : 0 < s.length) : (s ++ m).getD 0 0 = s.getD 0 0 := by
  cases s with
  | nil => simp at h
  | cons a t => rfl
theorem rd_ext {s t : List Int} {n : Int} (m : List Int) (h : rd s = .ok (n, t)) : rd (s ++ m) = .ok (n, t ++ m) := by
  obtain ⟨hd, rfl, rfl⟩ := rd_ok h
  have hk := kOf_bd (s.getD 0 0)
  have h2 := hd.2
  have e0 := head_app (m := m) hd.1
  have hd' : decOk (s ++ m) := ⟨by rw [List.length_append]; have := hd.1; omega, by rw [e0, List.length_append]; omega⟩
  unfold rd
  rw [if_pos hd', e0, List.drop_append_of_le_length (by omega)]
  have e1 : decV (s ++ m) = decV s := by
    unfold decV
    rw [e0]
    congr 1
    rw [List.drop_append_of_le_length (by have := hd.1; omega), List.take_append_of_le_length (by rw [List.length_drop]; omega)]
  rw [e1]
/-- what is read is within what may be, and takes no fewer bytes than it is written in -/
theorem rd_bd {s t : List Int} {n : Int} (hb : Byt s) (h : rd s = .ok (n, t)) : 0 ≤ n ∧ n ≤ 4611686018427387903 ∧ (enc n).length + t.length ≤ s.length ∧ Byt t := by
  obtain ⟨hd, rfl, rfl⟩ := rd_ok h
  have b := decV_bd s hb hd
  have hk := kOf_bd (s.getD 0 0)
  have hl := enc_len (decV s)
  have h2 := hd.2
  exact ⟨b.1, b.2.1, by rw [List.length_drop]; omega, hb.drop _⟩

theorem down_len {b : Int} {x : Int × Int} {t : List (Int × Int)} (h : downFrom b (x :: t)) : okR x ∧ x.2 + 2 ≤ b ∧ downFrom x.1 t := h
theorem decT_enc : ∀ (l : List (Int × Int)) (b : Int) (m : List Int), downFrom b l → b ≤ 4611686018427387905 → decT l.length b (encT b l ++ m) = .ok (l, m)
  | [], b, m, _, _ => rfl
  | x :: l, b, m, h, hb => by
    obtain ⟨⟨x0, x1, x2⟩, h2, h3⟩ := h
    have ih := decT_enc l x.1 m h3 (by omega)
    simp only [encT, List.append_assoc, List.length_cons, decT]
    rw [rd_enc _ (by omega) (by omega)]
    simp only
    rw [rd_enc _ (by omega) (by omega)]
    simp only
    rw [if_neg (by omega), show b - (b - x.2 - 2) - 2 - (x.2 - x.1) = x.1 by omega, show b - (b - x.2 - 2) - 2 = x.2 by omega, ih]
theorem decRs_enc (l : List (Int × Int)) (m : List Int) (h : downL l) (h0 : 0 < l.length) (h6 : l.length ≤ 6) : decRs (encR l ++ m) = .ok (l, m) := by
  cases l with
  | nil => simp at h0
  | cons x l =>
    obtain ⟨⟨x0, x1, x2⟩, h2, h3⟩ := h
    simp only [List.length_cons] at h6
    simp only [encR, List.append_assoc, decRs]
    rw [rd_enc _ (by omega) (by omega)]
    simp only
    rw [rd_enc _ (by omega) (by omega)]
    simp only
    rw [if_neg (by omega), rd_enc _ (by omega) (by omega)]
    simp only
    rw [if_neg (by omega), show x.2 - (x.2 - x.1) = x.1 by omega, show ((l.length : Int)).toNat = l.length by omega, decT_enc l x.1 m h3 (by omega)]

theorem decT_ext (m : List Int) : ∀ (k : Nat) (b : Int) (s : List Int), (∀ l t, decT k b s = .ok (l, t) → decT k b (s ++ m) = .ok (l, t ++ m)) ∧ (∀ e, decT k b s = .error e → e ≠ 4 → decT k b (s ++ m) = .error e)
  | 0, b, s => ⟨fun l t h => by simp only [decT, Except.ok.injEq, Prod.mk.injEq] at h ⊢; exact ⟨h.1, by rw [h.2]⟩, fun e h => by simp [decT] at h⟩
  | k + 1, b, s => by
    simp only [decT]
    cases h1 : rd s with
    | error e => exact ⟨fun l t h => by simp at h, fun e' h he => by simp at h; have := rd_err h1; omega⟩
    | ok p =>
      obtain ⟨g, s1⟩ := p
      rw [rd_ext m h1]
      simp only
      cases h2 : rd s1 with
      | error e => exact ⟨fun l t h => by simp at h, fun e' h he => by simp at h; have := rd_err h2; omega⟩
      | ok p =>
        obtain ⟨n, s2⟩ := p
        rw [rd_ext m h2]
        simp only
        split
        · exact ⟨fun l t h => by simp at h, fun e h _ => h⟩
        · have ih := decT_ext m k (b - g - 2 - n) s2
          cases h3 : decT k (b - g - 2 - n) s2 with
          | error e => exact ⟨fun l t h => by simp at h, fun e' h he => by simp at h; subst h; rw [ih.2 _ h3 he]⟩
          | ok p =>
            obtain ⟨l', s3⟩ := p
            refine ⟨fun l t h => ?_, fun e h => by simp at h⟩
            rw [ih.1 _ _ h3]
            simp only [Except.ok.injEq, Prod.mk.injEq] at h ⊢
            exact ⟨h.1, by rw [h.2]⟩
theorem decRs_ext (m s : List Int) : (∀ l t, decRs s = .ok (l, t) → decRs (s ++ m) = .ok (l, t ++ m)) ∧ (∀ e, decRs s = .error e → e ≠ 4 → decRs (s ++ m) = .error e) := by
  simp only [decRs]
  cases h1 : rd s with
  | error e => exact ⟨fun l t h => by simp at h, fun e' h he => by simp at h; have := rd_err h1; omega⟩
  | ok p =>
    obtain ⟨hi, s1⟩ := p
    rw [rd_ext m h1]
    simp only
    cases h2 : rd s1 with
    | error e => exact ⟨fun l t h => by simp at h, fun e' h he => by simp at h; have := rd_err h2; omega⟩
    | ok p =>
      obtain ⟨n, s2⟩ := p
      rw [rd_ext m h2]
      simp only
      split
      · exact ⟨fun l t h => by simp at h, fun e h _ => h⟩
      · cases h3 : rd s2 with
        | error e => exact ⟨fun l t h => by simp at h, fun e' h he => by simp at h; have := rd_err h3; omega⟩
        | ok p =>
          obtain ⟨n', s3⟩ := p
          rw [rd_ext m h3]
          simp only
          split
          · exact ⟨fun l t h => by simp at h, fun e h _ => h⟩
          · have ih := decT_ext m n.toNat (hi - n') s3
            cases h4 : decT n.toNat (hi - n') s3 with
            | error e => exact ⟨fun l t h => by simp at h, fun e' h he => by simp at h; subst h; rw [ih.2 _ h4 he]⟩
            | ok p =>
              obtain ⟨l', s4⟩ := p
              refine ⟨fun l t h => ?_, fun e h => by simp at h⟩
              rw [ih.1 _ _ h4]
              simp only [Except.ok.injEq, Prod.mk.injEq] at h ⊢
              exact ⟨h.1, by rw [h.2]⟩
theorem rd_set_ext {α : Type} (m s : List Int) (F : Int → α) : (∀ g t, (match rd s with | .error e => (.error e : Except Int (α × List Int)) | .ok (n, t) => .ok (F n, t)) = .ok (g, t) → (match rd (s ++ m) with | .error e => (.error e : Except Int (α × List Int)) | .ok (n, t) => .ok (F n, t)) = .ok (g, t ++ m)) ∧
    (∀ e, (match rd s with | .error e => (.error e : Except Int (α × List Int)) | .ok (n, t) => .ok (F n, t)) = .error e → e ≠ 4 → (match rd (s ++ m) with | .error e => (.error e : Except Int (α × List Int)) | .ok (n, t) => .ok (F n, t)) = .error e) := by
  cases h1 : rd s with
  | error e => exact ⟨fun g t h => by simp at h, fun e' h he => by simp at h; have := rd_err h1; omega⟩
  | ok p =>
    obtain ⟨n, t⟩ := p
    rw [rd_ext m h1]
    refine ⟨fun g t' h => ?_, fun e h => by simp at h⟩
    simp only [Except.ok.injEq, Prod.mk.injEq] at h ⊢
    exact ⟨h.1, by rw [h.2]⟩
theorem decP_r (f : Fr) (s : List Int) : decP f s 114 = match decRs s with | .error e => .error e | .ok (l, t) => .ok ({ f with rs := l }, t) := rfl
theorem decP_i (f : Fr) (s : List Int) : decP f s 105 = match rd s with | .error e => .error e | .ok (n, t) => .ok ({ f with id := n }, t) := rfl
theorem decP_o (f : Fr) (s : List Int) : decP f s 111 = match rd s with | .error e => .error e | .ok (n, t) => .ok ({ f with off := n }, t) := rfl
theorem decP_c (f : Fr) (s : List Int) : decP f s 99 = match rd s with | .error e => .error e | .ok (n, t) => .ok ({ f with code := n }, t) := rfl
theorem decP_w (f : Fr) (s : List Int) : decP f s 119 = if s.length < 8 then .error 4 else .ok ({ f with code := i64Of (beFrom 0 (s.take 8)) }, s.drop 8) := rfl
theorem decP_d (f : Fr) (s : List Int) : decP f s 100 = match rd s with | .error e => .error e | .ok (n, t) => if 120 < n then .error 1 else if (t.length : Int) < n then .error 4 else .ok ({ f with data := t.take n.toNat }, t.drop n.toNat) := rfl
theorem decP_no (f : Fr) (s : List Int) {c : Int} (h1 : c ≠ 114) (h2 : c ≠ 105) (h3 : c ≠ 111) (h4 : c ≠ 99) (h5 : c ≠ 119) (h6 : c ≠ 100) : decP f s c = .ok (f, s) := by
  unfold decP
  rw [if_neg h1, if_neg h2, if_neg h3, if_neg h4, if_neg h5, if_neg h6]
theorem decP_ext (m s : List Int) (f : Fr) (c : Int) : (∀ g t, decP f s c = .ok (g, t) → decP f (s ++ m) c = .ok (g, t ++ m)) ∧ (∀ e, decP f s c = .error e → e ≠ 4 → decP f (s ++ m) c = .error e) := by
  by_cases e1 : c = 114
  · subst e1
    rw [decP_r, decP_r]
    have hx := decRs_ext m s
    cases h1 : decRs s with
    | error e => exact ⟨fun g t h => by simp at h, fun e' h he => by simp at h; subst h; rw [hx.2 _ h1 he]⟩
    | ok p =>
      obtain ⟨l, t⟩ := p
      rw [hx.1 _ _ h1]
      refine ⟨fun g t' h => ?_, fun e h => by simp at h⟩
      simp only [Except.ok.injEq, Prod.mk.injEq] at h ⊢
      exact ⟨h.1, by rw [h.2]⟩
  by_cases e2 : c = 105
  · subst e2
    rw [decP_i, decP_i]
    exact rd_set_ext m s fun n => { f with id := n }
  by_cases e3 : c = 111
  · subst e3
    rw [decP_o, decP_o]
    exact rd_set_ext m s fun n => { f with off := n }
  by_cases e4 : c = 99
  · subst e4
    rw [decP_c, decP_c]
    exact rd_set_ext m s fun n => { f with code := n }
  by_cases e5 : c = 119
  · subst e5
    rw [decP_w, decP_w]
    by_cases h8 : s.length < 8
    · rw [if_pos h8]
      exact ⟨fun g t h => by simp at h, fun e h he => by simp at h; omega⟩
    · rw [if_neg h8]
      refine ⟨fun g t h => ?_, fun e h => by simp at h⟩
      rw [if_neg (by rw [List.length_append]; omega), List.take_append_of_le_length (by omega), List.drop_append_of_le_length (by omega)]
      simp only [Except.ok.injEq, Prod.mk.injEq] at h ⊢
      exact ⟨h.1, by rw [h.2]⟩
  by_cases e6 : c = 100
  · subst e6
    rw [decP_d, decP_d]
    cases h1 : rd s with
    | error e => exact ⟨fun g t h => by simp at h, fun e' h he => by simp at h; have := rd_err h1; omega⟩
    | ok p =>
      obtain ⟨n, t⟩ := p
      rw [rd_ext m h1]
      simp only
      by_cases hn : 120 < n
      · rw [if_pos hn, if_pos hn]
        exact ⟨fun g t h => by simp at h, fun e h _ => h⟩
      · rw [if_neg hn, if_neg hn]
        by_cases hl : (t.length : Int) < n
        · rw [if_pos hl]
          exact ⟨fun g t h => by simp at h, fun e h he => by simp at h; omega⟩
        · rw [if_neg hl]
          refine ⟨fun g t' h => ?_, fun e h => by simp at h⟩
          rw [if_neg (by rw [List.length_append]; omega), List.take_append_of_le_length (by omega), List.drop_append_of_le_length (by omega)]
          simp only [Except.ok.injEq, Prod.mk.injEq] at h ⊢
          exact ⟨h.1, by rw [h.2]⟩
  rw [decP_no f s e1 e2 e3 e4 e5 e6, decP_no f _ e1 e2 e3 e4 e5 e6]
  refine ⟨fun g t h => ?_, fun e h => by simp at h⟩
  simp only [Except.ok.injEq, Prod.mk.injEq] at h ⊢
  exact ⟨h.1, by rw [h.2]⟩
theorem decPs_ext (m : List Int) : ∀ (cs : List Int) (f : Fr) (s : List Int), (∀ g t, decPs cs f s = .ok (g, t) → decPs cs f (s ++ m) = .ok (g, t ++ m)) ∧ (∀ e, decPs cs f s = .error e → e ≠ 4 → decPs cs f (s ++ m) = .error e)
  | [], f, s => ⟨fun g t h => by simp only [decPs, Except.ok.injEq, Prod.mk.injEq] at h ⊢; exact ⟨h.1, by rw [h.2]⟩, fun e h => by simp [decPs] at h⟩
  | c :: cs, f, s => by
    simp only [decPs]
    have hx := decP_ext m s f c
    cases h1 : decP f s c with
    | error e => exact ⟨fun g t h => by simp at h, fun e' h he => by simp at h; subst h; rw [hx.2 _ h1 he]⟩
    | ok p =>
      obtain ⟨g, t⟩ := p
      rw [hx.1 _ _ h1]
      exact decPs_ext m cs g t
theorem decF_ext (m s : List Int) : (∀ f t, decF s = .ok (f, t) → decF (s ++ m) = .ok (f, t ++ m)) ∧ (∀ e, decF s = .error e → e ≠ 4 → decF (s ++ m) = .error e) := by
  unfold decF
  cases h1 : rd s with
  | error e => exact ⟨fun g t h => by simp at h, fun e' h he => by simp at h; have := rd_err h1; omega⟩
  | ok p =>
    obtain ⟨k, t⟩ := p
    rw [rd_ext m h1]
    simp only
    split
    · exact ⟨fun g t h => by simp at h, fun e h _ => h⟩
    · cases hp : partsOf (if k = 14 ∨ k = 15 then 8 else k) with
      | none => exact ⟨fun g t h => by simp at h, fun e h _ => h⟩
      | some ps =>
        simp only
        have hx := decPs_ext m ps ⟨if k = 14 ∨ k = 15 then 8 else k, 0, 0, decide (k = 15), 0, [], []⟩ t
        cases h2 : decPs ps ⟨if k = 14 ∨ k = 15 then 8 else k, 0, 0, decide (k = 15), 0, [], []⟩ t with
        | error e => exact ⟨fun g t h => by simp at h, fun e' h he => by simp at h; subst h; rw [hx.2 _ h2 he]⟩
        | ok p =>
          obtain ⟨f, u⟩ := p
          rw [hx.1 _ _ h2]
          simp only
          split
          · refine ⟨fun g t' h => ?_, fun e h => by simp at h⟩
            simp only [Except.ok.injEq, Prod.mk.injEq] at h ⊢
            exact ⟨h.1, by rw [h.2]⟩
          · exact ⟨fun g t h => by simp at h, fun e h _ => h⟩
end Go.Proofs.Ytnccibaifffhhaa.P
/- Bytes as a string: nothing of the program's. -/
namespace Go.Proofs.Ytnccibaifffhhaa.P
set_option linter.unusedVariables false
open Go.RowKit

theorem run_str {P : Program} {w : World} {B : Nat} {A : Option Addr} {zs : List Int} {n : Nat} (h : BRow w B A zs) (hn : zs.length = n) (src dst e : TypeId) (cap : Nat)
    (hs : P.underlying src = some (.slice e)) (he : P.underlying e = some (.int .u8)) (hd : P.underlying dst = some .string) :
    (convert src dst (.slice A n cap)).run P w = .ok (.string (strOfNums zs)) w := by
  rcases Nat.eq_zero_or_pos n with h0 | h0
  · subst h0
    have hz : zs = [] := List.eq_nil_of_length_eq_zero hn
    subst hz
    rcases A with _ | a
    · exact run_convert_bytes_nil w src e hs he 0 cap dst hd
    · rw [run_convert_bytes_string w src dst e _ 0 cap hs he hd]
      have hl := run_loadCells_list (P := P) w a [] (fun j v hj => by simp at hj)
      rw [run_bytesToString w a 0 cap [] hl]
      rfl
  · obtain ⟨b, off, rfl, _, hc⟩ := h.2 (by omega)
    exact run_convert_bytes_arg w src e hs he b off n cap zs hn (fun i hi => hc i (by omega)) dst hd

theorem str_get {zs : List Int} (hb : Byt zs) (n : Nat) (h : n < (strOfNums zs).size) : (((strOfNums zs)[n]'h).toNat : Int) = zs.getD n 0 := by
  have hl : n < zs.length := by rw [strOfNums_size] at h; exact h
  have e : (strOfNums zs)[n]'h = UInt8.ofNat (zs[n]).toNat := by
    show (strOfNums zs).data[n]'h = _
    simp [strOfNums]
  have hz := hb n
  rw [List.getD_eq_getElem?_getD, List.getElem?_eq_getElem hl] at hz ⊢
  rw [e]
  simp only [Option.getD_some] at hz ⊢
  simp only [UInt8.toNat_ofNat']
  omega

theorem str_cut (zs : List Int) (k : Nat) : (strOfNums zs).extract 0 k = strOfNums (zs.take k) := by
  apply ByteArray.ext
  apply Array.toList_inj.1
  rw [Lib.extract_data, strOfNums_data, strOfNums_data]
  simp [List.map_take]

theorem str_cat (xs ys : List Int) : strOfNums xs ++ strOfNums ys = strOfNums (xs ++ ys) := by
  apply ByteArray.ext
  apply Array.toList_inj.1
  rw [strOfNums_data]
  simp [strOfNums]

theorem str_empty (zs : List Int) : (strOfNums zs).toList.isEmpty = decide (zs.length = 0) := by
  rw [Lib.toList_data, strOfNums_data]
  cases zs <;> simp

theorem beFrom_append (a : Int) (xs ys : List Int) : beFrom a (xs ++ ys) = beFrom (beFrom a xs) ys := by simp [beFrom]
theorem beFrom_cons (a z : Int) (zs : List Int) : beFrom a (z :: zs) = beFrom (a * 256 + z) zs := rfl
theorem beFrom_lin (a : Int) (zs : List Int) : beFrom a zs = a * 256 ^ zs.length + beFrom 0 zs := by
  induction zs generalizing a with
  | nil => simp [beFrom]
  | cons z zs ih =>
    rw [beFrom_cons, ih (a * 256 + z), beFrom_cons, ih (0 * 256 + z), List.length_cons, Int.pow_succ]
    generalize (256 : Int) ^ zs.length = p
    rw [Int.add_mul, Int.add_mul, Int.mul_assoc, Int.mul_comm 256 p]
    omega
theorem beFrom_all (a : Int) (zs : List Int) (hz : Byt zs) (ha : 0 ≤ a) : 0 ≤ beFrom a zs ∧ beFrom a zs ≤ a * 256 ^ zs.length + (256 ^ zs.length - 1) := by
  have := beFrom_bd a zs hz ha zs.length (Nat.le_refl _)
  rwa [List.take_of_length_le (Nat.le_refl _)] at this
end Go.Proofs.Ytnccibaifffhhaa.P
/- Plain arithmetic of cut numbers: nothing of the program's. -/
namespace Go.Proofs.Ytnccibaifffhhaa.P
set_option linter.unusedVariables false
open Go.RowKit

theorem cutK_bd (d : Int) : cutK d = 1 ∨ cutK d = 2 ∨ cutK d = 3 ∨ cutK d = 4 := by have := cutK_cases d; omega
theorem winOf_cases (k : Nat) (h : k = 1 ∨ k = 2 ∨ k = 3 ∨ k = 4) : (k = 1 ∧ winOf k = 256) ∨ (k = 2 ∧ winOf k = 65536) ∨ (k = 3 ∧ winOf k = 16777216) ∨ (k = 4 ∧ winOf k = 4294967296) := by
  rcases h with rfl | rfl | rfl | rfl
  · exact .inl ⟨rfl, rfl⟩
  · exact .inr (.inl ⟨rfl, rfl⟩)
  · exact .inr (.inr (.inl ⟨rfl, rfl⟩))
  · exact .inr (.inr (.inr ⟨rfl, rfl⟩))

/-- the lowest bytes, read again, are the remainder -/
theorem be_low (k : Nat) (h : k = 1 ∨ k = 2 ∨ k = 3 ∨ k = 4) (n : Int) : beFrom 0 (lowB k n) = n % winOf k := by
  rcases h with rfl | rfl | rfl | rfl
  · show 0 * 256 + n % 256 = n % 256
    omega
  · show (0 * 256 + n / 256 % 256) * 256 + n % 256 = n % 65536
    omega
  · show ((0 * 256 + n / 256 / 256 % 256) * 256 + n / 256 % 256) * 256 + n % 256 = n % 16777216
    omega
  · show (((0 * 256 + n / 256 / 256 / 256 % 256) * 256 + n / 256 / 256 % 256) * 256 + n / 256 % 256) * 256 + n % 256 = n % 4294967296
    omega

/-- who has seen any one from the last that was told of on makes it whole -/
theorem whole_back (m acked top : Int) (k : Nat) (hk : k = cutK (m - acked)) (h1 : m ≤ 4611686018427387903) (a0 : -1 ≤ acked) (a1 : acked ≤ top) (t1 : top < m) (hd : m - acked ≤ 2147483648) :
    wholeV top (winOf k) (beFrom 0 (lowB k m)) = m := by
  have hb := cutK_bd (m - acked)
  rw [← hk] at hb
  rw [be_low k hb]
  have c := cutK_cases (m - acked)
  rw [← hk] at c
  unfold wholeV
  rcases winOf_cases k hb with ⟨e, ew⟩ | ⟨e, ew⟩ | ⟨e, ew⟩ | ⟨e, ew⟩
  all_goals
    rw [ew]
    have hp := pick3_cases (top + 1 - (top + 1) % winOf k + m % winOf k) (top + 1) (winOf k) (winOf k / 2) (by omega)
    rw [ew] at hp
    omega

theorem be_bd (k : Nat) (h : k = 1 ∨ k = 2 ∨ k = 3 ∨ k = 4) (zs : List Int) (hz : zs.length = k) (hb : Byt zs) : 0 ≤ beFrom 0 zs ∧ beFrom 0 zs < winOf k := by
  have b := beFrom_all 0 zs hb (by omega)
  rw [hz] at b
  rcases h with rfl | rfl | rfl | rfl
  · have e : (256 : Int) ^ 1 = 256 := rfl
    have e' : winOf (1 : Nat) = 256 := rfl
    omega
  · have e : (256 : Int) ^ 2 = 65536 := rfl
    have e' : winOf (2 : Nat) = 65536 := rfl
    omega
  · have e : (256 : Int) ^ 3 = 16777216 := rfl
    have e' : winOf (3 : Nat) = 16777216 := rfl
    omega
  · have e : (256 : Int) ^ 4 = 4294967296 := rfl
    have e' : winOf (4 : Nat) = 4294967296 := rfl
    omega

/-- what is made whole ends as it was cut, and is no farther off than it need be -/
theorem whole_near (t low : Int) (k : Nat) (hk : k = 1 ∨ k = 2 ∨ k = 3 ∨ k = 4) (t0 : 0 ≤ t) (t1 : t < 1152921504606846976) (l0 : 0 ≤ low) (l1 : low < winOf k) :
    let n := wholeV t (winOf k) low
    0 ≤ n ∧ n % winOf k = low ∧ n ≤ t + 1 + winOf k ∧ (t + 1 - winOf k / 2 ≤ n ∨ n - low = 0) ∧ (n ≤ t + 1 + winOf k / 2 ∨ n < winOf k) := by
  intro n
  have hn : n = pick3 (t + 1 - (t + 1) % winOf k + low) (t + 1) (winOf k) (winOf k / 2) := rfl
  clear_value n
  rcases winOf_cases k hk with ⟨e, ew⟩ | ⟨e, ew⟩ | ⟨e, ew⟩ | ⟨e, ew⟩
  all_goals
    have hp := pick3_cases (t + 1 - (t + 1) % winOf k + low) (t + 1) (winOf k) (winOf k / 2) (by omega)
    rw [← hn] at hp
    rw [ew] at hp l1 ⊢
    clear hn
    omega
end Go.Proofs.Ytnccibaifffhhaa.P
/- Heads in bytes: what may be, the bytes, and what is read; a head is read as it was written, cut short it is none; what is read may be, and is written in no more bytes. Nothing of the program's. -/
namespace Go.Proofs.Ytnccibaifffhhaa.P
set_option linter.unusedVariables false
open Go.RowKit

structure Hd where
  kind : Int
  to : Int
  frm : Int
  tok : List Int
  num : Int
  size : Int

/-- what Check says, by P5.1 -/
def faultH (h : Hd) : Int :=
  if ¬(0 ≤ h.kind ∧ h.kind ≤ 2) then 2
  else if 120 < h.tok.length then 1
  else if ¬(0 ≤ h.to ∧ h.to ≤ 255) ∨ ¬(0 ≤ h.frm ∧ h.frm ≤ 255) then 6
  else if h.kind = 1 then (if h.size ≠ 0 ∨ h.num ≠ 0 then 3 else 0)
  else if ¬(1 ≤ h.size ∧ h.size ≤ 4) ∨ ¬(0 ≤ h.num ∧ h.num < winOf h.size) then 6
  else if h.kind = 2 ∧ (h.frm ≠ 0 ∨ 0 < h.tok.length) then 3
  else 0
/-- the byte that a head begins with -/
def markH (h : Hd) : Int := if h.kind = 2 then 63 + h.size else if h.kind = 0 then 191 + h.size else 240
/-- the bytes of a head, by P5.2 -/
def hdT (h : Hd) : List Int :=
  markH h :: h.to :: ((if h.kind = 2 then [] else h.frm :: (enc h.tok.length ++ h.tok)) ++ lowB h.size.toNat h.num)

/-- the kind, and the Number's size, that a first byte tells -/
def kindH (z : Int) : Option (Int × Int) :=
  if 64 ≤ z ∧ z < 68 then some (2, z - 63) else if 192 ≤ z ∧ z < 196 then some (0, z - 191) else if z = 240 then some (1, 0) else none
def decNum (h : Hd) (s : List Int) : Except Int (Hd × List Int) :=
  if (s.length : Int) < h.size then .error 4 else .ok ({ h with num := beFrom 0 (s.take h.size.toNat) }, s.drop h.size.toNat)
def decTok (s : List Int) : Except Int (List Int × List Int) :=
  match rd s with
  | .error e => .error e
  | .ok (n, t) => if 120 < n then .error 1 else if (t.length : Int) < n then .error 4 else .ok (t.take n.toNat, t.drop n.toNat)
/-- the head that bytes begin with, by P5.3, and what stands behind it -/
def decH : List Int → Except Int (Hd × List Int)
  | [] => .error 4
  | z :: s =>
    match kindH z with
    | none => .error 2
    | some (k, n) =>
      match s with
      | [] => .error 4
      | a :: s =>
        if k = 2 then decNum ⟨2, a, 0, [], 0, n⟩ s else
        match s with
        | [] => .error 4
        | b :: s =>
          match decTok s with
          | .error e => .error e
          | .ok (t, u) => decNum ⟨k, a, b, t, 0, n⟩ u

theorem winOf_le (k : Int) : winOf k ≤ 4294967296 := by unfold winOf; split <;> (try split) <;> (try split) <;> omega
theorem kindH_some {z k n : Int} (h : kindH z = some (k, n)) : (k = 2 ∧ n = z - 63 ∧ 64 ≤ z ∧ z < 68) ∨ (k = 0 ∧ n = z - 191 ∧ 192 ≤ z ∧ z < 196) ∨ (k = 1 ∧ n = 0 ∧ z = 240) := by
  unfold kindH at h
  split at h
  · simp only [Option.some.injEq, Prod.mk.injEq] at h; omega
  split at h
  · simp only [Option.some.injEq, Prod.mk.injEq] at h; omega
  split at h
  · simp only [Option.some.injEq, Prod.mk.injEq] at h; omega
  · cases h
theorem decNum_ext (h : Hd) (m s : List Int) : (∀ g t, decNum h s = .ok (g, t) → decNum h (s ++ m) = .ok (g, t ++ m)) ∧ (∀ e, decNum h s = .error e → e ≠ 4 → decNum h (s ++ m) = .error e) := by
  unfold decNum
  by_cases hl : (s.length : Int) < h.size
  · rw [if_pos hl]
    exact ⟨fun g t h => by simp at h, fun e h he => by simp at h; omega⟩
  · rw [if_neg hl]
    refine ⟨fun g t h' => ?_, fun e h => by simp at h⟩
    rw [if_neg (by rw [List.length_append]; omega), List.take_append_of_le_length (by omega), List.drop_append_of_le_length (by omega)]
    simp only [Except.ok.injEq, Prod.mk.injEq] at h' ⊢
    exact ⟨h'.1, by rw [h'.2]⟩
theorem decTok_ext (m s : List Int) : (∀ g t, decTok s = .ok (g, t) → decTok (s ++ m) = .ok (g, t ++ m)) ∧ (∀ e, decTok s = .error e → e ≠ 4 → decTok (s ++ m) = .error e) := by
  unfold decTok
  cases h1 : rd s with
  | error e => exact ⟨fun g t h => by simp at h, fun e' h he => by simp at h; have := rd_err h1; omega⟩
  | ok p =>
    obtain ⟨n, t⟩ := p
    rw [rd_ext m h1]
    simp only
    by_cases hn : 120 < n
    · rw [if_pos hn, if_pos hn]
      exact ⟨fun g t h => by simp at h, fun e h _ => h⟩
    · rw [if_neg hn, if_neg hn]
      by_cases hl : (t.length : Int) < n
      · rw [if_pos hl]
        exact ⟨fun g t h => by simp at h, fun e h he => by simp at h; omega⟩
      · rw [if_neg hl]
        refine ⟨fun g t' h => ?_, fun e h => by simp at h⟩
        rw [if_neg (by rw [List.length_append]; omega), List.take_append_of_le_length (by omega), List.drop_append_of_le_length (by omega)]
        simp only [Except.ok.injEq, Prod.mk.injEq] at h ⊢
        exact ⟨h.1, by rw [h.2]⟩
theorem decH_ext (m s : List Int) : (∀ g t, decH s = .ok (g, t) → decH (s ++ m) = .ok (g, t ++ m)) ∧ (∀ e, decH s = .error e → e ≠ 4 → decH (s ++ m) = .error e) := by
  cases s with
  | nil => exact ⟨fun g t h => by simp [decH] at h, fun e h he => by simp [decH] at h; omega⟩
  | cons z s =>
    simp only [List.cons_append, decH]
    cases hk : kindH z with
    | none => exact ⟨fun g t h => by simp at h, fun e h _ => h⟩
    | some p =>
      obtain ⟨k, n⟩ := p
      simp only
      cases s with
      | nil => exact ⟨fun g t h => by simp at h, fun e h he => by simp at h; omega⟩
      | cons a s =>
        simp only [List.cons_append]
        by_cases k2 : k = 2
        · rw [if_pos k2, if_pos k2]
          exact decNum_ext _ m s
        · rw [if_neg k2, if_neg k2]
          cases s with
          | nil => exact ⟨fun g t h => by simp at h, fun e h he => by simp at h; omega⟩
          | cons b s =>
            simp only [List.cons_append]
            have hx := decTok_ext m s
            cases h1 : decTok s with
            | error e => exact ⟨fun g t h => by simp at h, fun e' h he => by simp at h; subst h; rw [hx.2 _ h1 he]⟩
            | ok p =>
              obtain ⟨t, u⟩ := p
              rw [hx.1 _ _ h1]
              exact decNum_ext _ m u

/-- a head that may be -/
structure OkH (h : Hd) : Prop where
  kind0 : 0 ≤ h.kind
  kind1 : h.kind ≤ 2
  tok : h.tok.length ≤ 120
  to0 : 0 ≤ h.to
  to1 : h.to ≤ 255
  frm0 : 0 ≤ h.frm
  frm1 : h.frm ≤ 255
  retry : h.kind = 1 → h.size = 0 ∧ h.num = 0
  size : h.kind ≠ 1 → 1 ≤ h.size ∧ h.size ≤ 4 ∧ 0 ≤ h.num ∧ h.num < winOf h.size
  short : h.kind = 2 → h.frm = 0 ∧ h.tok = []
theorem okH_of {h : Hd} (H : faultH h = 0) : OkH h := by
  unfold faultH at H
  split at H
  · omega
  split at H
  · omega
  split at H
  · omega
  split at H
  · split at H
    · omega
    · exact ⟨by omega, by omega, by omega, by omega, by omega, by omega, by omega, fun _ => by omega, fun e => by omega, fun e => by omega⟩
  split at H
  · omega
  split at H
  · omega
  · rename_i c1 c2 c3 c4 c5 c6
    exact ⟨by omega, by omega, by omega, by omega, by omega, by omega, by omega, fun e => absurd e c4, fun e => ⟨by omega, by omega, by omega, by omega⟩, fun e => ⟨by omega, List.eq_nil_of_length_eq_zero (by omega)⟩⟩
theorem of_okH {h : Hd} (H : OkH h) : faultH h = 0 := by
  unfold faultH
  have h1 := H.kind0; have h2 := H.kind1; have h3 := H.tok; have h4 := H.to0; have h5 := H.to1; have h6 := H.frm0; have h7 := H.frm1
  rw [if_neg (by omega), if_neg (by omega), if_neg (by omega)]
  by_cases k : h.kind = 1
  · rw [if_pos k, if_neg (by have := H.retry k; omega)]
  · have := H.size k
    rw [if_neg k, if_neg (by omega)]
    by_cases k2 : h.kind = 2
    · have h8 := H.short k2
      rw [if_neg (by rw [h8.2]; simp; omega)]
    · rw [if_neg (by omega)]

theorem decNum_low (h : Hd) (H : OkH h) (m : List Int) : decNum { h with num := 0 } (lowB h.size.toNat h.num ++ m) = .ok (h, m) := by
  have hl := lowB_len h.size.toNat h.num
  have hs : 0 ≤ h.size := by
    by_cases k : h.kind = 1
    · have := H.retry k; omega
    · have := H.size k; omega
  unfold decNum
  simp only
  rw [if_neg (by rw [List.length_append]; omega), List.take_append_of_le_length (by omega), List.take_of_length_le (by omega), List.drop_append_of_le_length (by omega), List.drop_of_length_le (by omega), List.nil_append]
  have e : beFrom 0 (lowB h.size.toNat h.num) = h.num := by
    by_cases k : h.kind = 1
    · have := H.retry k
      rw [this.1, this.2]; rfl
    · have := H.size k
      rw [be_low _ (by omega), show ((h.size.toNat : Nat) : Int) = h.size by omega]
      exact Int.emod_eq_of_lt this.2.2.1 this.2.2.2
  rw [e]
theorem decTok_enc (t m : List Int) (h : t.length ≤ 120) : decTok (enc t.length ++ (t ++ m)) = .ok (t, m) := by
  unfold decTok
  rw [rd_enc _ (by omega) (by omega)]
  simp only
  rw [if_neg (by omega), if_neg (by rw [List.length_append]; omega), show ((t.length : Int)).toNat = t.length by omega, List.take_left, List.drop_left]
/-- a head is read as it was written, whatever stands behind it -/
theorem decH_back {h : Hd} (H : faultH h = 0) (m : List Int) : decH (hdT h ++ m) = .ok (h, m) := by
  have H := okH_of H
  have h1 := H.kind0
  have h2 := H.kind1
  have key := decNum_low h H m
  unfold hdT
  simp only [List.cons_append, List.append_assoc, decH]
  rcases (show h.kind = 2 ∨ h.kind = 0 ∨ h.kind = 1 by omega) with k | k | k
  · have hs := H.size (by omega)
    have hh := H.short k
    rw [show markH h = 63 + h.size from if_pos k, show kindH (63 + h.size) = some (2, h.size) by unfold kindH; rw [if_pos (by omega), show 63 + h.size - 63 = h.size by omega]]
    simp only
    rw [if_pos trivial, if_pos k, List.nil_append]
    rw [show ({ h with num := 0 } : Hd) = ⟨2, h.to, 0, [], 0, h.size⟩ by cases h; simp_all] at key
    exact key
  · have hs := H.size (by omega)
    rw [show markH h = 191 + h.size by unfold markH; rw [if_neg (by omega), if_pos k], show kindH (191 + h.size) = some (0, h.size) by unfold kindH; rw [if_neg (by omega), if_pos (by omega), show 191 + h.size - 191 = h.size by omega]]
    simp only
    rw [if_neg (by omega), if_neg (by omega)]
    simp only [List.cons_append, List.append_assoc]
    rw [decTok_enc _ _ H.tok]
    simp only
    rw [show ({ h with num := 0 } : Hd) = ⟨0, h.to, h.frm, h.tok, 0, h.size⟩ by cases h; simp_all] at key
    exact key
  · have hs := H.retry k
    rw [show markH h = 240 by unfold markH; rw [if_neg (by omega), if_neg (by omega)], show kindH 240 = some (1, 0) from rfl]
    simp only
    rw [if_neg (by omega), if_neg (by omega)]
    simp only [List.cons_append, List.append_assoc]
    rw [decTok_enc _ _ H.tok]
    simp only
    rw [show ({ h with num := 0 } : Hd) = ⟨1, h.to, h.frm, h.tok, 0, 0⟩ by cases h; simp_all] at key
    exact key
/-- cut short it is none -/
theorem decH_cut {h : Hd} (H : faultH h = 0) (j : Nat) (hj : j < (hdT h).length) : decH ((hdT h).take j) = .error 4 := by
  have hx := decH_ext ((hdT h).drop j) ((hdT h).take j)
  rw [List.take_append_drop] at hx
  have hb := decH_back H []
  rw [List.append_nil] at hb
  cases hd : decH ((hdT h).take j) with
  | ok p =>
    obtain ⟨g, t⟩ := p
    have := hx.1 g t hd
    rw [hb] at this
    simp only [Except.ok.injEq, Prod.mk.injEq] at this
    have hl := congrArg List.length this.2
    rw [List.length_append, List.length_drop, List.length_nil] at hl
    omega
  | error e =>
    by_cases he : e = 4
    · rw [he]
    · have := hx.2 e hd he
      rw [hb] at this
      cases this
/-- of the bytes behind a head: fewer, and bytes -/
theorem decNum_any {g h : Hd} {s t : List Int} (hb : Byt s) (hs : g.size = 0 ∨ 1 ≤ g.size ∧ g.size ≤ 4) (hd : decNum g s = .ok (h, t)) : h = { g with num := h.num } ∧ s.length = g.size.toNat + t.length ∧ t = s.drop g.size.toNat ∧ 0 ≤ h.num ∧ (g.size = 0 → h.num = 0) ∧ (g.size ≠ 0 → h.num < winOf g.size) := by
  unfold decNum at hd
  by_cases hl : (s.length : Int) < g.size
  · rw [if_pos hl] at hd; simp at hd
  rw [if_neg hl] at hd
  simp only [Except.ok.injEq, Prod.mk.injEq] at hd
  obtain ⟨rfl, rfl⟩ := hd
  refine ⟨rfl, by rw [List.length_drop]; omega, rfl, ?_⟩
  simp only
  rcases hs with h0 | h1
  · rw [h0]
    exact ⟨Int.le_refl 0, fun _ => rfl, fun e => absurd rfl e⟩
  · have b := be_bd g.size.toNat (by omega) (s.take g.size.toNat) (by rw [List.length_take]; omega) (hb.take _)
    rw [show ((g.size.toNat : Nat) : Int) = g.size by omega] at b
    exact ⟨b.1, fun e => by omega, fun _ => b.2⟩
theorem decTok_any {s t u : List Int} (hb : Byt s) (h : decTok s = .ok (t, u)) : t.length ≤ 120 ∧ (enc t.length).length + t.length + u.length ≤ s.length ∧ Byt t ∧ Byt u := by
  unfold decTok at h
  cases h1 : rd s with
  | error e => rw [h1] at h; simp at h
  | ok p =>
    obtain ⟨n, v⟩ := p
    have r := rd_bd hb h1
    rw [h1] at h
    simp only at h
    by_cases hn : 120 < n
    · rw [if_pos hn] at h; simp at h
    rw [if_neg hn] at h
    by_cases hl : (v.length : Int) < n
    · rw [if_pos hl] at h; simp at h
    rw [if_neg hl] at h
    simp only [Except.ok.injEq, Prod.mk.injEq] at h
    obtain ⟨rfl, rfl⟩ := h
    have e : (((v.take n.toNat).length : Nat) : Int) = n := by rw [List.length_take]; omega
    rw [e, List.length_take, List.length_drop]
    exact ⟨by omega, by omega, r.2.2.2.take _, r.2.2.2.drop _⟩
/-- what is read may be, and is written in no more bytes -/
theorem decH_any {s t : List Int} {h : Hd} (hb : Byt s) (hd : decH s = .ok (h, t)) : faultH h = 0 ∧ (hdT h).length + t.length ≤ s.length ∧ Byt h.tok := by
  cases s with
  | nil => simp [decH] at hd
  | cons z s =>
    simp only [decH] at hd
    cases hk : kindH z with
    | none => rw [hk] at hd; simp at hd
    | some p =>
      obtain ⟨k, n⟩ := p
      rw [hk] at hd
      have kk := kindH_some hk
      simp only at hd
      cases s with
      | nil => simp at hd
      | cons a s =>
        have ba := hb 1
        simp only [List.getD_cons_succ, List.getD_cons_zero] at ba
        simp only at hd
        by_cases k2 : k = 2
        · rw [if_pos k2] at hd
          have hs : Byt s := hb.drop 2
          have r := decNum_any hs (.inr (by simp only; omega)) hd
          obtain ⟨e, l, _, n0, _, n1⟩ := r
          simp only at l n1
          generalize h.num = v at *
          subst e
          refine ⟨of_okH ⟨by simp, by simp, by simp, by simp only; omega, by simp only; omega, by simp, by simp, fun e => by simp at e, fun _ => ⟨by simp only; omega, by simp only; omega, n0, n1 (by omega)⟩, fun _ => ⟨rfl, rfl⟩⟩, ?_, Byt.nil⟩
          unfold hdT
          simp only [List.length_cons, List.length_append, lowB_len, if_true, List.length_nil]
          omega
        · rw [if_neg k2] at hd
          cases s with
          | nil => simp at hd
          | cons b s =>
            have bb := hb 2
            simp only [List.getD_cons_succ, List.getD_cons_zero] at bb
            have hs : Byt s := hb.drop 3
            simp only at hd
            cases h1 : decTok s with
            | error e => rw [h1] at hd; simp at hd
            | ok p =>
              obtain ⟨tk, u⟩ := p
              rw [h1] at hd
              simp only at hd
              have q := decTok_any hs h1
              have r := decNum_any q.2.2.2 (by simp only; omega) hd
              obtain ⟨e, l, _, n0, nz, n1⟩ := r
              simp only at l n1 nz
              generalize h.num = v at *
              subst e
              refine ⟨of_okH ⟨by simp only; omega, by simp only; omega, q.1, by simp only; omega, by simp only; omega, by simp only; omega, by simp only; omega, fun e => ?_, fun e => ?_, fun e => absurd e k2⟩, ?_, q.2.2.1⟩
              · simp only at e ⊢
                exact ⟨by omega, nz (by omega)⟩
              · simp only at e ⊢
                exact ⟨by omega, by omega, n0, n1 (by omega)⟩
              · unfold hdT
                simp only [if_neg k2, List.length_cons, List.length_append, lowB_len]
                omega
theorem hdT_len {h : Hd} (H : OkH h) : (hdT h).length ≤ 200 := by
  unfold hdT
  have h1 := H.kind0; have h2 := H.kind1; have h3 := H.tok
  have hl := enc_len h.tok.length
  have hs := sz_bd h.tok.length
  have hz : h.size ≤ 4 := by
    by_cases k : h.kind = 1
    · have := H.retry k; omega
    · have := H.size k; omega
  simp only [List.length_cons, List.length_append, lowB_len]
  split <;> simp <;> omega
theorem hdT_byt {h : Hd} (H : OkH h) (hb : Byt h.tok) : Byt (hdT h) := by
  unfold hdT
  have h1 := H.kind0; have h2 := H.kind1; have h3 := H.tok; have h4 := H.to0; have h5 := H.to1; have h6 := H.frm0; have h7 := H.frm1
  refine byt_cons ?_ (byt_cons ⟨h4, h5⟩ (Byt.append ?_ (lowB_byt _ _)))
  · unfold markH
    rcases (show h.kind = 2 ∨ h.kind = 0 ∨ h.kind = 1 by omega) with k | k | k
    · have := H.size (by omega)
      rw [if_pos k]; omega
    · have := H.size (by omega)
      rw [if_neg (by omega), if_pos k]; omega
    · rw [if_neg (by omega), if_neg (by omega)]; omega
  · split
    · exact Byt.nil
    · exact byt_cons ⟨h6, h7⟩ (Byt.append (enc_byt _ (by omega) (by omega)) hb)
theorem hdT_pos (h : Hd) : 0 < (hdT h).length := by unfold hdT; simp
end Go.Proofs.Ytnccibaifffhhaa.P
/- Plain facts on numbers that the walks lean on: nothing of the program's. -/
namespace Go.Proofs.Ytnccibaifffhhaa.P
set_option linter.unusedVariables false
open Go.RowKit

/-- a number masked to 62 bits -/
def num (n : Int) : Int := n % 4611686018427387904
theorem num_bd (n : Int) : 0 ≤ num n ∧ num n ≤ 4611686018427387903 := by unfold num; omega
theorem and_num (n : Int) : bits .and .i64 n 4611686018427387903 = num n := by
  have hm : (BitVec.ofInt 64 4611686018427387903).toNat = 2 ^ 62 - 1 := by decide
  have key : (BitVec.ofInt 64 n &&& BitVec.ofInt 64 4611686018427387903).toNat = (n % ((2 ^ 64 : Nat) : Int)).toNat % 2 ^ 62 := by
    rw [BitVec.toNat_and, BitVec.toNat_ofInt, hm, Nat.and_two_pow_sub_one_eq_mod]
  show IntKind.i64.wrap ((BitVec.ofInt 64 n &&& BitVec.ofInt 64 4611686018427387903).toNat : Nat) = _
  unfold num
  rw [key, IntKind.wrap_i64]
  omega
end Go.Proofs.Ytnccibaifffhhaa.P
