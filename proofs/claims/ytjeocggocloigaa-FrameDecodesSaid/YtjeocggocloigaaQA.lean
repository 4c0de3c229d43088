/- Texts of the proofs, joined. -/
import Derived.Lib.Hide
import Derived.WalkKit
import Derived.Handy
/- Sets of numbers, range by range, as lists of pairs: plain mathematics, nothing of the program's. -/
namespace Go.Proofs.Ytjeocggocloigaa.P
set_option linter.unusedVariables false

/-- a range that may be -/
def okR (r : Int × Int) : Prop := 0 ≤ r.1 ∧ r.1 ≤ r.2 ∧ r.2 ≤ 4611686018427387903
/-- a set that may be, its first range above 'a' and not just by 1 -/
def okFrom : Int → List (Int × Int) → Prop
  | _, [] => True
  | a, x :: l => okR x ∧ a + 2 ≤ x.1 ∧ okFrom x.2 l
/-- a set that may be -/
def okL (l : List (Int × Int)) : Prop := okFrom (-2) l
/-- a number is in a range -/
def inR (r : Int × Int) (n : Int) : Prop := r.1 ≤ n ∧ n ≤ r.2
/-- a number is in a set -/
def mem : List (Int × Int) → Int → Prop
  | [], _ => False
  | x :: l, n => inR x n ∨ mem l n

instance (r : Int × Int) : Decidable (okR r) := by unfold okR; infer_instance
instance (r : Int × Int) (n : Int) : Decidable (inR r n) := by unfold inR; infer_instance
instance okFrom_dec : (a : Int) → (l : List (Int × Int)) → Decidable (okFrom a l)
  | _, [] => .isTrue trivial
  | a, x :: l => by unfold okFrom; have := okFrom_dec x.2 l; infer_instance
instance (l : List (Int × Int)) : Decidable (okL l) := okFrom_dec _ _
instance mem_dec : (l : List (Int × Int)) → (n : Int) → Decidable (mem l n)
  | [], _ => .isFalse id
  | x :: l, n => by unfold mem; have := mem_dec l n; infer_instance

theorem okFrom_mono {a b : Int} {l : List (Int × Int)} (h : okFrom a l) (hb : b ≤ a) : okFrom b l := by
  cases l with
  | nil => trivial
  | cons x l => exact ⟨h.1, by have := h.2.1; omega, h.2.2⟩
theorem mem_above {a n : Int} {l : List (Int × Int)} (h : okFrom a l) (hm : mem l n) : a + 2 ≤ n := by
  induction l generalizing a with
  | nil => exact hm.elim
  | cons x l ih =>
    obtain ⟨h1, h2, h3⟩ := h
    have := h1.2.1
    rcases hm with h | h
    · have := h.1; omega
    · have := ih h3 h; omega
theorem mem_max {a n : Int} {l : List (Int × Int)} (h : okFrom a l) (hm : mem l n) : n ≤ 4611686018427387903 := by
  induction l generalizing a with
  | nil => exact hm.elim
  | cons x l ih =>
    rcases hm with k | k
    · have := h.1.2.2; have := k.2; omega
    · exact ih h.2.2 k
theorem mem_app (l m : List (Int × Int)) (n : Int) : mem (l ++ m) n ↔ mem l n ∨ mem m n := by
  induction l with
  | nil => simp [mem]
  | cons x l ih => simp [mem, ih, or_assoc]
theorem mem_of {l : List (Int × Int)} {x : Int × Int} (h : x ∈ l) {n : Int} (hn : inR x n) : mem l n := by
  induction l with
  | nil => cases h
  | cons y l ih =>
    rcases List.mem_cons.1 h with rfl | h
    · exact .inl hn
    · exact .inr (ih h)
theorem mem_iff {l : List (Int × Int)} {n : Int} : mem l n ↔ ∃ x ∈ l, inR x n := by
  induction l with
  | nil => simp [mem]
  | cons y l ih => simp [mem, ih]
theorem okFrom_all {a : Int} {l : List (Int × Int)} (h : okFrom a l) {x : Int × Int} (hx : x ∈ l) : okR x ∧ a + 2 ≤ x.1 := by
  induction l generalizing a with
  | nil => cases hx
  | cons y l ih =>
    obtain ⟨h1, h2, h3⟩ := h
    have := h1.2.1
    rcases List.mem_cons.1 hx with rfl | hx
    · exact ⟨h1, h2⟩
    · have := ih h3 hx; exact ⟨this.1, by omega⟩

/-- A SET HAS ONE FORM -/
theorem ok_ext : ∀ {l m : List (Int × Int)} {a b : Int}, okFrom a l → okFrom b m → (∀ n, mem l n ↔ mem m n) → l = m
  | [], [], _, _, _, _, _ => rfl
  | [], y :: m, _, _, _, hm, h => ((h y.1).2 (.inl ⟨Int.le_refl _, hm.1.2.1⟩)).elim
  | x :: l, [], _, _, hl, _, h => ((h x.1).1 (.inl ⟨Int.le_refl _, hl.1.2.1⟩)).elim
  | x :: l, y :: m, a, b, hl, hm, h => by
    obtain ⟨x1, x2, x3⟩ := hl
    obtain ⟨y1, y2, y3⟩ := hm
    have xl := x1.2.1
    have yl := y1.2.1
    have lo : ∀ n, mem (x :: l) n → x.1 ≤ n := fun n hn => by
      rcases hn with k | k
      · exact k.1
      · have := mem_above x3 k; omega
    have lo' : ∀ n, mem (y :: m) n → y.1 ≤ n := fun n hn => by
      rcases hn with k | k
      · exact k.1
      · have := mem_above y3 k; omega
    have e1 : x.1 = y.1 := by
      have p := lo' _ ((h x.1).1 (.inl ⟨Int.le_refl _, xl⟩))
      have q := lo _ ((h y.1).2 (.inl ⟨Int.le_refl _, yl⟩))
      omega
    have e2 : x.2 = y.2 := by
      rcases Int.lt_trichotomy x.2 y.2 with c | c | c
      · exfalso
        rcases (h (x.2 + 1)).2 (.inl ⟨by omega, by omega⟩) with k | k
        · have := k.2; omega
        · have := mem_above x3 k; omega
      · exact c
      · exfalso
        rcases (h (y.2 + 1)).1 (.inl ⟨by omega, by omega⟩) with k | k
        · have := k.2; omega
        · have := mem_above y3 k; omega
    have e : x = y := Prod.ext e1 e2
    subst e
    rw [ok_ext x3 y3 fun n => ⟨fun k => by
      rcases (h n).1 (.inr k) with j | j
      · have := mem_above x3 k; have := j.2; omega
      · exact j, fun k => by
      rcases (h n).2 (.inr k) with j | j
      · have := mem_above y3 k; have := j.2; omega
      · exact j⟩]

/-- the highest number of a list's last range -/
def lastHi (a : Int) (l : List (Int × Int)) : Int := l.foldl (fun _ x => x.2) a
theorem lastHi_snoc (a : Int) (l : List (Int × Int)) (x : Int × Int) : lastHi a (l ++ [x]) = x.2 := by simp [lastHi]
theorem okFrom_app {a : Int} {l m : List (Int × Int)} : okFrom a (l ++ m) ↔ okFrom a l ∧ okFrom (lastHi a l) m := by
  induction l generalizing a with
  | nil => simp [okFrom, lastHi]
  | cons x l ih =>
    simp only [List.cons_append, okFrom]
    rw [ih]
    simp [lastHi, and_assoc]
theorem okFrom_snoc {a : Int} {l : List (Int × Int)} {x : Int × Int} : okFrom a (l ++ [x]) ↔ okFrom a l ∧ okR x ∧ lastHi a l + 2 ≤ x.1 := by
  rw [okFrom_app]; simp [okFrom]
theorem takeR_snoc (l : List (Int × Int)) (k : Nat) (h : k < l.length) : l.take (k + 1) = l.take k ++ [l.getD k (0, 0)] := by
  rw [List.take_succ_eq_append_getElem h, List.getD_eq_getElem?_getD, List.getElem?_eq_getElem h]; rfl
theorem dropR_cons (l : List (Int × Int)) (k : Nat) (h : k < l.length) : l.drop k = l.getD k (0, 0) :: l.drop (k + 1) := by
  rw [List.drop_eq_getElem_cons h, List.getD_eq_getElem?_getD, List.getElem?_eq_getElem h]; rfl
theorem getR_mem (l : List (Int × Int)) (k : Nat) (h : k < l.length) : l.getD k (0, 0) ∈ l := by
  rw [List.getD_eq_getElem?_getD, List.getElem?_eq_getElem h]; exact List.getElem_mem h
theorem lastHi_take (a : Int) (l : List (Int × Int)) (k : Nat) (h : k < l.length) : lastHi a (l.take (k + 1)) = (l.getD k (0, 0)).2 := by
  rw [takeR_snoc l k h, lastHi_snoc]
theorem okFrom_take {a : Int} {l : List (Int × Int)} (h : okFrom a l) (k : Nat) : okFrom a (l.take k) := by
  rw [← List.take_append_drop k l] at h
  exact (okFrom_app.1 h).1
theorem okFrom_drop {a : Int} {l : List (Int × Int)} (h : okFrom a l) (ha : -2 ≤ a) (k : Nat) : okFrom (-2) (l.drop k) := by
  induction k generalizing a l with
  | zero => exact okFrom_mono h ha
  | succ k ih =>
    cases l with
    | nil => trivial
    | cons x l => exact ih h.2.2 (by have := h.1.1; have := h.1.2.1; omega)
theorem ok_step (l : List (Int × Int)) (k : Nat) (h : k < l.length) :
    okL (l.take (k + 1)) ↔ okL (l.take k) ∧ okR (l.getD k (0, 0)) ∧ (0 < k → (l.getD (k - 1) (0, 0)).2 + 2 ≤ (l.getD k (0, 0)).1) := by
  unfold okL
  rw [takeR_snoc l k h, okFrom_snoc]
  refine and_congr_right fun _ => and_congr_right fun hr => ?_
  cases k with
  | zero => exact ⟨fun _ h => absurd h (by omega), fun _ => by simp only [List.take_zero, lastHi, List.foldl_nil]; have := hr.1; omega⟩
  | succ k => rw [lastHi_take _ l k (by omega)]; simp
theorem ok_of_take {l : List (Int × Int)} (h : okL l) (k : Nat) : okL (l.take k) := okFrom_take h k
theorem ok_not {l : List (Int × Int)} {k : Nat} (h : ¬ okL (l.take k)) : ¬ okL l := fun g => h (okFrom_take g k)
theorem ok_get {l : List (Int × Int)} (h : okL l) (k : Nat) (hk : k < l.length) : okR (l.getD k (0, 0)) := (okFrom_all h (getR_mem l k hk)).1

/-- some numbers from lo to hi, if there are any -/
def sm (lo hi : Int) : List (Int × Int) := if lo ≤ hi then [(lo, hi)] else []
theorem mem_sm (lo hi n : Int) : mem (sm lo hi) n ↔ lo ≤ n ∧ n ≤ hi := by
  unfold sm; split <;> simp [mem, inR] <;> omega
theorem ok_sm {a lo hi : Int} {l : List (Int × Int)} (h0 : 0 ≤ lo) (h1 : hi ≤ 4611686018427387903) (ha : a + 2 ≤ lo) (hl : okFrom (max a (if lo ≤ hi then hi else a)) l) : okFrom a (sm lo hi ++ l) := by
  unfold sm
  split
  · rename_i h; rw [if_pos h] at hl; exact ⟨⟨h0, h, h1⟩, ha, okFrom_mono hl (by omega)⟩
  · rename_i h; rw [if_neg h] at hl; exact okFrom_mono hl (by omega)
theorem sm_len (lo hi : Int) : (sm lo hi).length ≤ 1 := by unfold sm; split <;> simp

/-- a range and those of a set that overlap it or lie beside it, from its first one on -/
def absR : Int × Int → List (Int × Int) → List (Int × Int)
  | r, [] => [r]
  | r, x :: l => if x.1 ≤ r.2 + 1 then absR (min r.1 x.1, max r.2 x.2) l else r :: x :: l
/-- a set with a range, too -/
def insR (r : Int × Int) : List (Int × Int) → List (Int × Int)
  | [] => [r]
  | x :: l => if x.2 + 1 < r.1 then x :: insR r l else absR r (x :: l)

theorem abs_ok : ∀ {l : List (Int × Int)} {a : Int} {r : Int × Int}, okFrom a l → okR r → a + 2 ≤ r.1 → (∀ x ∈ l.head?, r.1 ≤ x.2 + 1) → okFrom a (absR r l) ∧ ∀ n, mem (absR r l) n ↔ inR r n ∨ mem l n
  | [], a, r, _, hr, ha, _ => ⟨⟨hr, ha, trivial⟩, fun n => Iff.rfl⟩
  | x :: l, a, r, hl, hr, ha, hx => by
    obtain ⟨x1, x2, x3⟩ := hl
    have hx := hx x rfl
    have g1 := x1.1
    have g2 := x1.2.1
    have g3 := x1.2.2
    have r1 := hr.1
    have r2 := hr.2.1
    have r3 := hr.2.2
    unfold absR
    split
    · rename_i h
      have H := abs_ok (l := l) (a := a) (r := (min r.1 x.1, max r.2 x.2)) (okFrom_mono x3 (by omega)) ⟨by simp only; omega, by simp only; omega, by simp only; omega⟩ (by simp only; omega)
        (fun y hy => by
          cases l with
          | nil => simp at hy
          | cons z l => simp at hy; subst hy; have := x3.2.1; have := x3.1.2.1; simp only; omega)
      refine ⟨H.1, fun n => ?_⟩
      rw [H.2 n]
      simp only [inR, mem]
      by_cases hm : mem l n
      · simp [hm]
      · simp only [hm, or_false]
        omega
    · rename_i h
      exact ⟨⟨hr, ha, x1, by omega, x3⟩, fun n => Iff.rfl⟩
theorem ins_ok : ∀ {l : List (Int × Int)} {a : Int} {r : Int × Int}, okFrom a l → okR r → a + 2 ≤ r.1 → okFrom a (insR r l) ∧ ∀ n, mem (insR r l) n ↔ inR r n ∨ mem l n
  | [], a, r, _, hr, ha => ⟨⟨hr, ha, trivial⟩, fun n => Iff.rfl⟩
  | x :: l, a, r, hl, hr, ha => by
    unfold insR
    split
    · rename_i h
      have H := ins_ok (l := l) (a := x.2) (r := r) hl.2.2 hr (by omega)
      refine ⟨⟨hl.1, hl.2.1, H.1⟩, fun n => ?_⟩
      simp only [mem]
      rw [H.2 n]
      exact or_left_comm
    · rename_i h
      exact abs_ok hl hr ha fun y hy => by simp at hy; subst hy; omega
theorem insL_ok {l : List (Int × Int)} {r : Int × Int} (h : okL l) (hr : okR r) : okL (insR r l) ∧ ∀ n, mem (insR r l) n ↔ inR r n ∨ mem l n :=
  ins_ok h hr (by have := hr.1; omega)
theorem abs_len : ∀ (r : Int × Int) (l : List (Int × Int)), (absR r l).length ≤ l.length + 1
  | r, [] => by simp [absR]
  | r, x :: l => by
    unfold absR
    split
    · have := abs_len (min r.1 x.1, max r.2 x.2) l; simp only [List.length_cons]; omega
    · simp
theorem ins_len (r : Int × Int) : ∀ (l : List (Int × Int)), (insR r l).length ≤ l.length + 1
  | [] => by simp [insR]
  | x :: l => by
    unfold insR
    split
    · have := ins_len r l; simp only [List.length_cons]; omega
    · exact abs_len r (x :: l)
/-- where the walk along a set stands: behind those that lie ahead of the range -/
theorem ins_skip (r : Int × Int) (l : List (Int × Int)) (k : Nat) (h : k < l.length) (hk : (l.getD k (0, 0)).2 + 1 < r.1) : l.take k ++ insR r (l.drop k) = l.take (k + 1) ++ insR r (l.drop (k + 1)) := by
  rw [dropR_cons l k h, takeR_snoc l k h, insR, if_pos hk]
  simp
theorem ins_stop (r : Int × Int) (l : List (Int × Int)) (k : Nat) (hk : k < l.length → ¬ (l.getD k (0, 0)).2 + 1 < r.1) : insR r (l.drop k) = absR r (l.drop k) := by
  rcases Nat.lt_or_ge k l.length with h | h
  · rw [dropR_cons l k h, insR, if_neg (hk h)]
  · rw [List.drop_eq_nil_of_le h]; rfl
theorem abs_step (r : Int × Int) (l : List (Int × Int)) (k : Nat) (h : k < l.length) (hk : (l.getD k (0, 0)).1 ≤ r.2 + 1) : absR r (l.drop k) = absR (min r.1 (l.getD k (0, 0)).1, max r.2 (l.getD k (0, 0)).2) (l.drop (k + 1)) := by
  rw [dropR_cons l k h, absR, if_pos hk]
theorem abs_stop (r : Int × Int) (l : List (Int × Int)) (k : Nat) (hk : k < l.length → ¬ (l.getD k (0, 0)).1 ≤ r.2 + 1) : absR r (l.drop k) = r :: l.drop k := by
  rcases Nat.lt_or_ge k l.length with h | h
  · rw [dropR_cons l k h, absR, if_neg (hk h)]
  · rw [List.drop_eq_nil_of_le h]; rfl

/-- a range without another one -/
def cutR (x r : Int × Int) : List (Int × Int) := sm x.1 (min x.2 (r.1 - 1)) ++ sm (max x.1 (r.2 + 1)) x.2
/-- a set without a range -/
def cutL (r : Int × Int) (l : List (Int × Int)) : List (Int × Int) := l.flatMap fun x => cutR x r
theorem cut_ok {r : Int × Int} (hr : okR r) : ∀ {l : List (Int × Int)} {a : Int}, okFrom a l → okFrom a (cutL r l) ∧ ∀ n, mem (cutL r l) n ↔ mem l n ∧ ¬ inR r n
  | [], a, _ => ⟨trivial, fun n => by simp [cutL, mem]⟩
  | x :: l, a, hl => by
    obtain ⟨x1, x2, x3⟩ := hl
    have H := cut_ok hr (l := l) (a := x.2) x3
    have g1 := x1.1
    have g2 := x1.2.1
    have g3 := x1.2.2
    have r1 := hr.1
    have r2 := hr.2.1
    have r3 := hr.2.2
    have e : cutL r (x :: l) = sm x.1 (min x.2 (r.1 - 1)) ++ (sm (max x.1 (r.2 + 1)) x.2 ++ cutL r l) := by simp [cutL, cutR]
    rw [e]
    refine ⟨ok_sm (by omega) (by omega) (by omega) (ok_sm (by omega) (by omega) (by split <;> omega) (okFrom_mono H.1 (by split <;> split <;> omega))), fun n => ?_⟩
    rw [mem_app, mem_app, H.2 n, mem_sm, mem_sm]
    simp only [mem, inR]
    by_cases hm : mem l n
    · have := mem_above x3 hm
      simp only [hm, true_and, or_true]
      omega
    · simp only [hm, false_and, or_false]
      omega
theorem cutL_ok {l : List (Int × Int)} {r : Int × Int} (h : okL l) (hr : okR r) : okL (cutL r l) ∧ ∀ n, mem (cutL r l) n ↔ mem l n ∧ ¬ inR r n := cut_ok hr h
theorem cutR_len (x r : Int × Int) : (cutR x r).length ≤ 2 := by
  have := sm_len x.1 (min x.2 (r.1 - 1)); have := sm_len (max x.1 (r.2 + 1)) x.2
  simp only [cutR, List.length_append]; omega
theorem cut_len_past {r : Int × Int} (hr : okR r) : ∀ {l : List (Int × Int)} {a : Int}, okFrom a l → r.2 ≤ a + 1 → (cutL r l).length ≤ l.length
  | [], _, _, _ => by simp [cutL]
  | x :: l, a, hl, ha => by
    have d := hl.2.1
    have b := hl.1.2.1
    have r2 := hr.2.1
    have H := cut_len_past hr hl.2.2 (by omega)
    have e : cutL r (x :: l) = cutR x r ++ cutL r l := by simp [cutL]
    rw [e, List.length_append, List.length_cons]
    have c : (cutR x r).length ≤ 1 := by
      unfold cutR
      rw [show sm x.1 (min x.2 (r.1 - 1)) = [] from if_neg (by omega)]
      exact sm_len _ _
    omega
theorem cut_len {r : Int × Int} (hr : okR r) : ∀ {l : List (Int × Int)} {a : Int}, okFrom a l → (cutL r l).length ≤ l.length + 1
  | [], _, _ => by simp [cutL]
  | x :: l, a, hl => by
    have e : cutL r (x :: l) = cutR x r ++ cutL r l := by simp [cutL]
    have r2 := hr.2.1
    rw [e, List.length_append, List.length_cons]
    by_cases h : x.2 ≤ r.2
    · have c : (cutR x r).length ≤ 1 := by
        unfold cutR
        rw [show sm (max x.1 (r.2 + 1)) x.2 = [] from if_neg (by omega)]
        simp only [List.append_nil]; exact sm_len _ _
      have := cut_len hr hl.2.2
      omega
    · have := cut_len_past hr hl.2.2 (by omega)
      have := cutR_len x r
      omega
theorem cutL_snoc (r : Int × Int) (l : List (Int × Int)) (k : Nat) (h : k < l.length) : cutL r (l.take (k + 1)) = cutL r (l.take k) ++ sm (l.getD k (0, 0)).1 (min (l.getD k (0, 0)).2 (r.1 - 1)) ++ sm (max (l.getD k (0, 0)).1 (r.2 + 1)) (l.getD k (0, 0)).2 := by
  rw [takeR_snoc l k h]; simp [cutL, cutR]

/-- what of the numbers from 'next' to 'hi' is not in a set -/
def holesF (hi : Int) : Int → List (Int × Int) → List (Int × Int)
  | next, [] => sm next hi
  | next, x :: l => sm next (min (x.1 - 1) hi) ++ holesF hi (max next (x.2 + 1)) l
theorem holes_ok {hi : Int} (hh : hi ≤ 4611686018427387903) : ∀ {l : List (Int × Int)} {a b next : Int}, okFrom a l → 0 ≤ next → b + 2 ≤ next → okFrom b (holesF hi next l) ∧ ∀ n, mem (holesF hi next l) n ↔ (next ≤ n ∧ n ≤ hi) ∧ ¬ mem l n
  | [], a, b, next, _, h0, hb => ⟨by have := ok_sm (l := []) h0 hh hb trivial; simpa [holesF] using this, fun n => by simp [holesF, mem_sm, mem]⟩
  | x :: l, a, b, next, hl, h0, hb => by
    obtain ⟨x1, x2, x3⟩ := hl
    have g1 := x1.1
    have g2 := x1.2.1
    have g3 := x1.2.2
    have H := holes_ok hh (l := l) (a := x.2) (b := max b (if next ≤ min (x.1 - 1) hi then min (x.1 - 1) hi else b)) (next := max next (x.2 + 1)) x3 (by omega) (by split <;> omega)
    refine ⟨ok_sm h0 (by omega) hb H.1, fun n => ?_⟩
    simp only [holesF]
    rw [mem_app, H.2 n, mem_sm]
    simp only [mem, inR]
    by_cases hm : mem l n
    · have := mem_above x3 hm
      simp only [hm, not_true, and_false, or_false, or_true, iff_false]
      omega
    · simp only [hm, not_false_eq_true, and_true, or_false]
      omega
theorem holesL_ok {l : List (Int × Int)} {r : Int × Int} (h : okL l) (hr : okR r) : okL (holesF r.2 r.1 l) ∧ ∀ n, mem (holesF r.2 r.1 l) n ↔ inR r n ∧ ¬ mem l n :=
  holes_ok hr.2.2 h hr.1 (by have := hr.1; omega)
theorem holes_len (hi : Int) : ∀ (l : List (Int × Int)) (next : Int), (holesF hi next l).length ≤ l.length + 1
  | [], next => by simp only [holesF]; have := sm_len next hi; simpa using this
  | x :: l, next => by
    simp only [holesF, List.length_append, List.length_cons]
    have := holes_len hi l (max next (x.2 + 1)); have := sm_len next (min (x.1 - 1) hi); omega
theorem holes_step (hi next : Int) (l : List (Int × Int)) (k : Nat) (h : k < l.length) :
    holesF hi next (l.drop k) = sm next (min ((l.getD k (0, 0)).1 - 1) hi) ++ holesF hi (max next ((l.getD k (0, 0)).2 + 1)) (l.drop (k + 1)) := by
  rw [dropR_cons l k h]; rfl
end Go.Proofs.Ytjeocggocloigaa.P
/- Plain words for rows of bytes in memory, and big-endian numbers: nothing of the program's. -/
namespace Go.Proofs.Ytjeocggocloigaa.P
set_option linter.unusedVariables false
open Go.RowKit

theorem ret_int {k : IntKind} {a b : Int} (h : a = b) : Ending.returned (.int k a) = .returned (.int k b) := by rw [h]
theorem ret_bool {a : Bool} (h : a = true) : Ending.returned (.bool a) = .returned (.bool true) := by rw [h]

/-- the numbers 'zs' are bytes -/
def Byt (zs : List Int) : Prop := ∀ j, 0 ≤ zs.getD j 0 ∧ zs.getD j 0 ≤ 255

/-- 'A' leads to a row below block B whose cells are the bytes zs; where zs is empty nothing is said of A -/
def BRow (w : World) (B : Nat) (A : Option Addr) (zs : List Int) : Prop :=
  Byt zs ∧ (0 < zs.length → ∃ b off, A = some ⟨b, off, none⟩ ∧ b < B ∧ ∀ j, j < zs.length → w.cell? ⟨b, off + j, none⟩ = some (.int .u8 (zs.getD j 0)))

theorem Byt.nil : Byt [] := fun j => by simp
theorem Byt.drop {zs : List Int} (h : Byt zs) (k : Nat) : Byt (zs.drop k) := fun j => by
  rw [List.getD_eq_getElem?_getD, List.getElem?_drop, ← List.getD_eq_getElem?_getD]; exact h _
theorem getD_take {zs : List Int} {k j : Nat} (h : j < k) : (zs.take k).getD j 0 = zs.getD j 0 := by
  rw [List.getD_eq_getElem?_getD, List.getElem?_take, if_pos h, ← List.getD_eq_getElem?_getD]
theorem getD_drop {zs : List Int} {k j : Nat} : (zs.drop k).getD j 0 = zs.getD (k + j) 0 := by
  rw [List.getD_eq_getElem?_getD, List.getElem?_drop, ← List.getD_eq_getElem?_getD]
theorem getD_long {zs : List Int} {j : Nat} (h : zs.length ≤ j) : zs.getD j 0 = 0 := by
  rw [List.getD_eq_getElem?_getD, List.getElem?_eq_none h]; rfl
theorem Byt.take {zs : List Int} (h : Byt zs) (k : Nat) : Byt (zs.take k) := fun j => by
  by_cases hj : j < k
  · rw [getD_take hj]; exact h _
  · rw [getD_long (by rw [List.length_take]; omega)]; omega

theorem Byt.append {xs ys : List Int} (h : Byt xs) (k : Byt ys) : Byt (xs ++ ys) := fun j => by
  rw [List.getD_eq_getElem?_getD, List.getElem?_append]
  split
  · rw [← List.getD_eq_getElem?_getD]; exact h j
  · rw [← List.getD_eq_getElem?_getD]; exact k _

theorem BRow.nil (w : World) (B : Nat) (A : Option Addr) : BRow w B A [] := ⟨Byt.nil, fun h => absurd h (by simp)⟩
theorem BRow.keep {w w' : World} {B : Nat} {A : Option Addr} {zs : List Int} (h : BRow w B A zs) (hk : ∀ p : Addr, p.block < B → w'.cell? p = w.cell? p) : BRow w' B A zs :=
  ⟨h.1, fun hn => by
    obtain ⟨b, off, e, hb, hc⟩ := h.2 hn
    exact ⟨b, off, e, hb, fun j hj => (hk _ hb).trans (hc j hj)⟩⟩
theorem BRow.more {w : World} {B B' : Nat} {A : Option Addr} {zs : List Int} (h : BRow w B A zs) (hB : B ≤ B') : BRow w B' A zs :=
  ⟨h.1, fun hn => by
    obtain ⟨b, off, e, hb, hc⟩ := h.2 hn
    exact ⟨b, off, e, by omega, hc⟩⟩
theorem BRow.take {w : World} {B : Nat} {A : Option Addr} {zs : List Int} (h : BRow w B A zs) (k : Nat) : BRow w B A (zs.take k) :=
  ⟨h.1.take k, fun hn => by
    rw [List.length_take] at hn
    obtain ⟨b, off, e, hb, hc⟩ := h.2 (by omega)
    refine ⟨b, off, e, hb, fun j hj => ?_⟩
    rw [List.length_take] at hj
    rw [getD_take (by omega)]
    exact hc j (by omega)⟩
theorem BRow.below {w w' : World} {B : Nat} {A : Option Addr} {zs : List Int} (h : BRow w B A zs) (hb : Below B w w') : BRow w' B A zs := h.keep fun _ hp => hb.cell hp

/-- a big-endian number read on from 'a' -/
def beFrom (a : Int) (zs : List Int) : Int := zs.foldl (fun a z => a * 256 + z) a
theorem beFrom_snoc (a : Int) (zs : List Int) (z : Int) : beFrom a (zs ++ [z]) = beFrom a zs * 256 + z := by simp [beFrom]
theorem take_snoc (zs : List Int) (k : Nat) (h : k < zs.length) : zs.take (k + 1) = zs.take k ++ [zs.getD k 0] := by
  rw [List.take_succ_eq_append_getElem h, List.getD_eq_getElem?_getD, List.getElem?_eq_getElem h]; rfl
theorem beFrom_nil (a : Int) : beFrom a [] = a := rfl
theorem beFrom_step (a : Int) (zs : List Int) (k : Nat) (h : k < zs.length) : beFrom a (zs.take (k + 1)) = beFrom a (zs.take k) * 256 + zs.getD k 0 := by
  rw [take_snoc zs k h, beFrom_snoc]
theorem beFrom_bd (a : Int) (zs : List Int) (hz : Byt zs) (ha : 0 ≤ a) : ∀ k, k ≤ zs.length → 0 ≤ beFrom a (zs.take k) ∧ beFrom a (zs.take k) ≤ a * 256 ^ k + (256 ^ k - 1) := by
  intro k
  induction k with
  | zero => intro _; simp [beFrom]; omega
  | succ k ih =>
    intro hk
    have i := ih (by omega)
    have z := hz k
    rw [beFrom_step a zs k (by omega)]
    have e : (256 : Int) ^ (k + 1) = 256 ^ k * 256 := Int.pow_succ _ _
    rw [e]
    generalize (256 : Int) ^ k = p at i ⊢
    have e2 : a * (p * 256) = (a * p) * 256 := by rw [Int.mul_assoc]
    rw [e2]
    omega

theorem pow256 (k : Nat) (h : k ≤ 6) : 1 ≤ (256 : Int) ^ k ∧ (256 : Int) ^ k ≤ 281474976710656 := by
  have c : k = 0 ∨ k = 1 ∨ k = 2 ∨ k = 3 ∨ k = 4 ∨ k = 5 ∨ k = 6 := by omega
  rcases c with rfl | rfl | rfl | rfl | rfl | rfl | rfl <;> decide
/-- an accumulator of at most seven bytes, of which the first has six bits -/
theorem acc_bd (a y : Int) (k : Nat) (h : k ≤ 6) (a0 : 0 ≤ a) (a1 : a ≤ 63) (y0 : 0 ≤ y) (y1 : y ≤ a * 256 ^ k + (256 ^ k - 1)) : 0 ≤ y ∧ y ≤ 18014398509481983 := by
  have p := pow256 k h
  generalize (256 : Int) ^ k = u at *
  have q : a * u ≤ 63 * 281474976710656 := Int.mul_le_mul a1 p.2 (by omega) (by omega)
  omega
theorem or_i64 (x y : Int) (hx : 0 ≤ x) (hx1 : x ≤ 18014398509481983) (hy : 0 ≤ y) (hy1 : y ≤ 255) : bits .or .i64 (x * 256) y = x * 256 + y :=
  bits_join .i64 62 (by decide) (fun n h0 h1 => IntWalk.i64_in n (by omega)) 8 (x * 256) y (by omega) (by omega) (by omega) hy (by omega) (by omega)

theorem or_top (x t : Int) (h0 : 0 ≤ x) (h1 : x < 64) (ht : t = 0 ∨ t = 64 ∨ t = 128 ∨ t = 192) : bits .or .u8 x t = x + t := by
  have hc : bits .or .u8 x t = bits .or .u8 t x := by simp only [bits, BitVec.or_comm]
  rw [hc, bits_join .u8 8 (by decide) wraps_u8 6 t x (by omega) (by omega) (by omega) h0 (by omega) (by omega)]
  omega

theorem cell_lt {w : World} {p : Addr} {v : Value} (h : w.cell? p = some v) : p.block < w.heap.size := by
  rcases Nat.lt_or_ge p.block w.heap.size with hlt | hge
  · exact hlt
  · exfalso
    have : w.heap[p.block]? = none := Array.getElem?_eq_none hge
    simp [World.cell?, this] at h

/-- a slice of integers that came in, as the frame of a proof hands it on -/
def IsRow (k : IntKind) (w : World) (a : Option Addr) (len cap : Nat) (zs : List Int) : Prop :=
  (a = none ∧ len = 0 ∧ cap = 0 ∧ zs = []) ∨
  ∃ x, a = some x ∧ len ≤ cap ∧ cap ≤ maxLen ∧ zs.length = cap ∧ (∀ i, i < zs.length → w.cell? (x.add i) = some (.int k (zs.getD i 0))) ∧ ∀ n ∈ zs, (Lit.int k n).wf = true
/-- a slice of bytes that came in, as the frame of a proof hands it on -/
def InRow (w : World) (a : Option Addr) (len cap : Nat) (zs : List Int) : Prop := IsRow .u8 w a len cap zs

theorem InRow.brow {w : World} {a : Option Addr} {len cap : Nat} {zs : List Int} (h : InRow w a len cap zs) :
    BRow w w.heap.size a (zs.take len) ∧ (zs.take len).length = len ∧ len ≤ cap ∧ cap ≤ maxLen := by
  rcases h with ⟨rfl, rfl, rfl, rfl⟩ | ⟨x, rfl, hl, hm, hz, hc, hw⟩
  · exact ⟨BRow.nil _ _ _, rfl, Nat.le_refl _, by unfold maxLen; omega⟩
  · have hlen : (zs.take len).length = len := by rw [List.length_take]; omega
    refine ⟨⟨fun j => ?_, fun hp => ?_⟩, hlen, hl, hm⟩
    · by_cases hj : j < (zs.take len).length
      · have hm' : (zs.take len).getD j 0 ∈ zs := by
          rw [List.getD_eq_getElem?_getD, List.getElem?_eq_getElem hj]
          exact List.mem_of_mem_take (List.getElem_mem hj)
        exact bounds_u8 (hw _ hm')
      · rw [getD_long (by omega)]; omega
    · obtain ⟨b, off, rfl, hat⟩ := ints_at hc (by omega)
      refine ⟨b, off, rfl, cell_lt (hat 0 (by omega)), fun j hj => ?_⟩
      rw [getD_take (by omega)]
      exact hat j (by omega)
end Go.Proofs.Ytjeocggocloigaa.P
/- Numbers in bytes: sizes, bytes, and what is read. Nothing of the program's. -/
namespace Go.Proofs.Ytjeocggocloigaa.P
set_option linter.unusedVariables false
open Go.RowKit

theorem byt_all {zs : List Int} (h : ∀ z ∈ zs, 0 ≤ z ∧ z ≤ 255) : Byt zs := fun j => by
  by_cases hj : j < zs.length
  · rw [List.getD_eq_getElem?_getD, List.getElem?_eq_getElem hj]
    exact h _ (List.getElem_mem hj)
  · rw [getD_long (by omega)]; omega
/-- how many bytes a number takes, by P1.1 -/
def sz (n : Int) : Int := if n < 64 then 1 else if n < 16384 then 2 else if n < 1073741824 then 4 else 8

theorem sz_bd (n : Int) : 1 ≤ sz n ∧ sz n ≤ 8 := by unfold sz; split <;> (try split) <;> (try split) <;> omega
theorem sz_mono (a b : Int) (h : a ≤ b) : sz a ≤ sz b := by unfold sz; split <;> (try split) <;> (try split) <;> (try split) <;> (try split) <;> (try split) <;> omega
theorem sz_cases (n : Int) : (sz n = 1 ∧ n < 64) ∨ (sz n = 2 ∧ 64 ≤ n ∧ n < 16384) ∨ (sz n = 4 ∧ 16384 ≤ n ∧ n < 1073741824) ∨ (sz n = 8 ∧ 1073741824 ≤ n) := by
  unfold sz; split <;> (try split) <;> (try split) <;> omega
def kOf (z : Int) : Int := if z < 64 then 1 else if z < 128 then 2 else if z < 192 then 4 else 8
theorem kOf_bd (z : Int) : 1 ≤ kOf z ∧ kOf z ≤ 8 := by unfold kOf; split <;> (try split) <;> (try split) <;> omega
def decOk (zs : List Int) : Prop := 0 < zs.length ∧ kOf (zs.getD 0 0) ≤ (zs.length : Int)
def decV (zs : List Int) : Int := beFrom (zs.getD 0 0 % 64) ((zs.drop 1).take ((kOf (zs.getD 0 0)).toNat - 1))

theorem decV_bd (zs : List Int) (h : Byt zs) (hok : decOk zs) : 0 ≤ decV zs ∧ decV zs ≤ 4611686018427387903 ∧ sz (decV zs) ≤ kOf (zs.getD 0 0) := by
  have hd := h.drop 1
  have bd := beFrom_bd (zs.getD 0 0 % 64) (zs.drop 1) hd (by omega) ((kOf (zs.getD 0 0)).toNat - 1) (by have := hok.2; rw [List.length_drop]; omega)
  unfold decV
  generalize beFrom (zs.getD 0 0 % 64) ((zs.drop 1).take ((kOf (zs.getD 0 0)).toNat - 1)) = v at *
  generalize zs.getD 0 0 = z at *
  have z63 : z % 64 ≤ 63 := by omega
  have z0 : 0 ≤ z % 64 := by omega
  generalize z % 64 = r at *
  have c : kOf z = 1 ∨ kOf z = 2 ∨ kOf z = 4 ∨ kOf z = 8 := by unfold kOf; split <;> (try split) <;> (try split) <;> omega
  rcases c with c | c | c | c
  all_goals
    rw [c] at bd ⊢
    simp only [show (1 : Int).toNat - 1 = 0 from rfl, show (2 : Int).toNat - 1 = 1 from rfl, show (4 : Int).toNat - 1 = 3 from rfl, show (8 : Int).toNat - 1 = 7 from rfl] at bd
    have e0 : (256 : Int) ^ 0 = 1 := rfl
    have e1 : (256 : Int) ^ 1 = 256 := rfl
    have e3 : (256 : Int) ^ 3 = 16777216 := rfl
    have e7 : (256 : Int) ^ 7 = 72057594037927936 := rfl
    simp only [e0, e1, e3, e7] at bd
    refine ⟨bd.1, by omega, ?_⟩
    rcases sz_cases v with ⟨e, b⟩ | ⟨e, b⟩ | ⟨e, b⟩ | ⟨e, b⟩ <;> omega
/-- a number's bytes, by P1.2 -/
def enc (n : Int) : List Int :=
  if n < 64 then [n] else if n < 16384 then [n / 256 + 64, n % 256]
  else if n < 1073741824 then [n / 256 / 256 / 256 + 128, n / 256 / 256 % 256, n / 256 % 256, n % 256]
  else [n / 256 / 256 / 256 / 256 / 256 / 256 / 256 + 192, n / 256 / 256 / 256 / 256 / 256 / 256 % 256, n / 256 / 256 / 256 / 256 / 256 % 256, n / 256 / 256 / 256 / 256 % 256, n / 256 / 256 / 256 % 256, n / 256 / 256 % 256, n / 256 % 256, n % 256]

theorem enc_len (n : Int) : ((enc n).length : Int) = sz n := by
  unfold enc sz
  split <;> (try split) <;> (try split) <;> rfl
theorem enc_byt (n : Int) (h0 : 0 ≤ n) (h1 : n ≤ 4611686018427387903) : Byt (enc n) := by
  apply byt_all
  unfold enc
  split
  · intro z hz; simp at hz; omega
  split
  · intro z hz; simp at hz; omega
  split
  · intro z hz; simp at hz; omega
  · intro z hz; simp at hz; omega
theorem enc_head (n : Int) (h0 : 0 ≤ n) (h1 : n ≤ 4611686018427387903) : ∃ z t, enc n = z :: t ∧ kOf z = sz n ∧ beFrom (z % 64) t = n := by
  unfold enc sz
  split
  · exact ⟨n, [], rfl, by unfold kOf; rw [if_pos (by omega)], by simp [beFrom]; omega⟩
  split
  · exact ⟨_, _, rfl, by unfold kOf; rw [if_neg (by omega), if_pos (by omega)], by simp only [beFrom, List.foldl_cons, List.foldl_nil]; omega⟩
  split
  · exact ⟨_, _, rfl, by unfold kOf; rw [if_neg (by omega), if_neg (by omega), if_pos (by omega)], by simp only [beFrom, List.foldl_cons, List.foldl_nil]; omega⟩
  · exact ⟨_, _, rfl, by unfold kOf; rw [if_neg (by omega), if_neg (by omega), if_neg (by omega)], by simp only [beFrom, List.foldl_cons, List.foldl_nil]; omega⟩

theorem enc_dec (n : Int) (h0 : 0 ≤ n) (h1 : n ≤ 4611686018427387903) (more : List Int) : decOk (enc n ++ more) ∧ decV (enc n ++ more) = n ∧ kOf ((enc n ++ more).getD 0 0) = sz n := by
  have hl := enc_len n
  obtain ⟨z, t, e, hk, hv⟩ := enc_head n h0 h1
  rw [e] at hl ⊢
  have hz : ((z :: t) ++ more).getD 0 0 = z := rfl
  have hb := sz_bd n
  refine ⟨⟨by simp, ?_⟩, ?_, by rw [hz]; exact hk⟩
  · rw [hz, hk, List.length_append]; omega
  · unfold decV
    rw [hz, hk]
    have e2 : (((z :: t) ++ more).drop 1).take ((sz n).toNat - 1) = t := by
      show (t ++ more).take ((sz n).toNat - 1) = t
      rw [List.take_append_of_le_length (by simp at hl; omega), List.take_of_length_le (by simp at hl; omega)]
    rw [e2, hv]

theorem enc_cut (n : Int) (h0 : 0 ≤ n) (h1 : n ≤ 4611686018427387903) (j : Nat) (hj : j < (enc n).length) : ¬ decOk ((enc n).take j) := by
  have hl := enc_len n
  obtain ⟨z, t, e, hk, hv⟩ := enc_head n h0 h1
  rintro ⟨a, b⟩
  rw [List.length_take] at a b
  have hz : ((enc n).take j).getD 0 0 = z := by
    rw [getD_take (by omega), e]; rfl
  rw [hz, hk] at b
  omega
end Go.Proofs.Ytjeocggocloigaa.P
/- The lowest bytes of a number, and how many numbers so many bytes tell apart: nothing of the program's. -/
namespace Go.Proofs.Ytjeocggocloigaa.P
set_option linter.unusedVariables false
open Go.RowKit

/-- a number without its k lowest bytes -/
def shr8 : Nat → Int → Int
  | 0, v => v
  | k + 1, v => shr8 k v / 256
/-- the k lowest bytes of a number, the highest first -/
def lowB : Nat → Int → List Int
  | 0, _ => []
  | k + 1, v => (shr8 k v % 256) :: lowB k v
theorem lowB_len (k : Nat) (v : Int) : (lowB k v).length = k := by induction k with | zero => rfl | succ k ih => simp [lowB, ih]
theorem shr8_bd (v : Int) (h0 : 0 ≤ v) (h1 : v ≤ 18446744073709551615) (k : Nat) : 0 ≤ shr8 k v ∧ shr8 k v ≤ 18446744073709551615 := by
  induction k with
  | zero => exact ⟨h0, h1⟩
  | succ k ih => simp only [shr8]; omega
theorem byt1 {z : Int} (h : 0 ≤ z ∧ z ≤ 255) : Byt [z] := fun j => by
  cases j with
  | zero => exact h
  | succ j => simp
theorem byt_cons {z : Int} {zs : List Int} (h : 0 ≤ z ∧ z ≤ 255) (k : Byt zs) : Byt (z :: zs) := fun j => by
  cases j with
  | zero => exact h
  | succ j => exact k j
theorem lowB_byt (k : Nat) (v : Int) : Byt (lowB k v) := by
  induction k with
  | zero => exact Byt.nil
  | succ k ih => exact byt_cons (by omega) ih

/-- how many numbers k bytes tell apart (one to four) -/
def winOf (k : Int) : Int := if k = 1 then 256 else if k = 2 then 65536 else if k = 3 then 16777216 else 4294967296
/-- how many bytes a number takes that is so far above the last one told of, by P2.1 -/
def cutK (d : Int) : Nat := if d ≤ 128 then 1 else if d ≤ 32768 then 2 else if d ≤ 8388608 then 3 else 4
theorem cutK_cases (d : Int) : (cutK d = 1 ∧ d ≤ 128) ∨ (cutK d = 2 ∧ 128 < d ∧ d ≤ 32768) ∨ (cutK d = 3 ∧ 32768 < d ∧ d ≤ 8388608) ∨ (cutK d = 4 ∧ 8388608 < d) := by
  unfold cutK; split <;> (try split) <;> (try split) <;> omega
/-- of a number, one window more and one less: the nearest to the next one -/
def pick3 (m n win half : Int) : Int :=
  if m ≤ n - half ∧ m ≤ 4611686018427387903 - win then m + win else if n + half < m ∧ win ≤ m then m - win else m
theorem pick3_cases (m n win half : Int) (hh : 0 ≤ half) :
    (m ≤ n - half ∧ m ≤ 4611686018427387903 - win ∧ pick3 m n win half = m + win) ∨ (m ≤ n - half ∧ 4611686018427387903 - win < m ∧ pick3 m n win half = m)
    ∨ (n - half < m ∧ n + half < m ∧ win ≤ m ∧ pick3 m n win half = m - win) ∨ (n - half < m ∧ n + half < m ∧ m < win ∧ pick3 m n win half = m) ∨ (n - half < m ∧ m ≤ n + half ∧ pick3 m n win half = m) := by
  unfold pick3
  split
  · omega
  split
  · omega
  · omega
/-- the number that ends so, by P2.2: 'win' many can be told apart, 'low' is what the bytes say -/
def wholeV (t win low : Int) : Int := pick3 (t + 1 - (t + 1) % win + low) (t + 1) win (win / 2)
end Go.Proofs.Ytjeocggocloigaa.P
/- Frames in bytes: what a kind has, what may be, the bytes, and what is read. Nothing of the program's. -/
namespace Go.Proofs.Ytjeocggocloigaa.P
set_option linter.unusedVariables false
open Go.RowKit

structure Fr where
  kind : Int
  id : Int
  off : Int
  fin : Bool
  code : Int
  rs : List (Int × Int)
  data : List Int

/-- the number of 64 bits that reads as one with a sign -/
def i64Of (n : Int) : Int := if n < 9223372036854775808 then n else n - 18446744073709551616
/-- what a kind has, in the order of its bytes: ranges r, id i, off o, code c, code of eight bytes w, data d, fin f -/
def partsOf (k : Int) : Option (List Int) :=
  if k = 0 then some [] else if k = 1 then some [] else if k = 2 then some [114] else if k = 4 then some [105, 111, 99] else if k = 5 then some [105, 99]
  else if k = 6 then some [111, 100] else if k = 7 then some [100] else if k = 8 then some [105, 111, 100, 102] else if k = 16 then some [111] else if k = 17 then some [105, 111]
  else if k = 18 then some [111] else if k = 26 then some [119] else if k = 27 then some [119] else if k = 28 then some [99] else if k = 30 then some [] else none
theorem parts_cases {k : Int} {s : List Int} (h : partsOf k = some s) : (s = [] ∧ (k = 0 ∨ k = 1 ∨ k = 30)) ∨ (s = [114] ∧ k = 2) ∨ (s = [105, 111, 99] ∧ k = 4) ∨ (s = [105, 99] ∧ k = 5) ∨ (s = [111, 100] ∧ k = 6) ∨ (s = [100] ∧ k = 7) ∨ (s = [105, 111, 100, 102] ∧ k = 8) ∨
    (s = [111] ∧ (k = 16 ∨ k = 18)) ∨ (s = [105, 111] ∧ k = 17) ∨ (s = [119] ∧ (k = 26 ∨ k = 27)) ∨ (s = [99] ∧ k = 28) := by
  unfold partsOf at h
  by_cases e0 : k = 0
  · rw [if_pos e0] at h; cases h; simp [e0]
  rw [if_neg e0] at h
  by_cases e1 : k = 1
  · rw [if_pos e1] at h; cases h; simp [e1]
  rw [if_neg e1] at h
  by_cases e2 : k = 2
  · rw [if_pos e2] at h; cases h; simp [e2]
  rw [if_neg e2] at h
  by_cases e4 : k = 4
  · rw [if_pos e4] at h; cases h; simp [e4]
  rw [if_neg e4] at h
  by_cases e5 : k = 5
  · rw [if_pos e5] at h; cases h; simp [e5]
  rw [if_neg e5] at h
  by_cases e6 : k = 6
  · rw [if_pos e6] at h; cases h; simp [e6]
  rw [if_neg e6] at h
  by_cases e7 : k = 7
  · rw [if_pos e7] at h; cases h; simp [e7]
  rw [if_neg e7] at h
  by_cases e8 : k = 8
  · rw [if_pos e8] at h; cases h; simp [e8]
  rw [if_neg e8] at h
  by_cases e16 : k = 16
  · rw [if_pos e16] at h; cases h; simp [e16]
  rw [if_neg e16] at h
  by_cases e17 : k = 17
  · rw [if_pos e17] at h; cases h; simp [e17]
  rw [if_neg e17] at h
  by_cases e18 : k = 18
  · rw [if_pos e18] at h; cases h; simp [e18]
  rw [if_neg e18] at h
  by_cases e26 : k = 26
  · rw [if_pos e26] at h; cases h; simp [e26]
  rw [if_neg e26] at h
  by_cases e27 : k = 27
  · rw [if_pos e27] at h; cases h; simp [e27]
  rw [if_neg e27] at h
  by_cases e28 : k = 28
  · rw [if_pos e28] at h; cases h; simp [e28]
  rw [if_neg e28] at h
  by_cases e30 : k = 30
  · rw [if_pos e30] at h; cases h; simp [e30]
  rw [if_neg e30] at h
  cases h

/-- a set, the highest first; its highest number is at most b - 2 -/
def downFrom : Int → List (Int × Int) → Prop
  | _, [] => True
  | b, x :: t => okR x ∧ x.2 + 2 ≤ b ∧ downFrom x.1 t
def downL (l : List (Int × Int)) : Prop := downFrom 4611686018427387905 l
instance decR (x : Int × Int) : Decidable (okR x) := by unfold okR; infer_instance
instance decDown : ∀ (b : Int) (l : List (Int × Int)), Decidable (downFrom b l)
  | _, [] => .isTrue trivial
  | b, x :: t => by
    have := decDown x.1 t
    unfold downFrom
    infer_instance
instance (l : List (Int × Int)) : Decidable (downL l) := decDown _ l
/-- a number that is not from 0 to MaxVar, or stands where there is none -/
def numBad (has : Bool) (n : Int) : Bool := !(decide (0 ≤ n) && decide (n ≤ 4611686018427387903)) || (!has && decide (n ≠ 0))
/-- what Check says, by P4.2 -/
def faultF (f : Fr) : Int :=
  match partsOf f.kind with
  | none => 2
  | some s =>
    if 120 < f.data.length ∨ 6 < f.rs.length then 1
    else if numBad (decide (105 ∈ s)) f.id = true ∨ numBad (decide (111 ∈ s)) f.off = true ∨ numBad (decide (99 ∈ s) || decide (119 ∈ s)) f.code = true then 6
    else if 111 ∈ s ∧ 100 ∈ s ∧ 4611686018427387903 < f.off + f.data.length then 6
    else if decide (0 < f.rs.length) ≠ decide (114 ∈ s) ∨ ¬ downL f.rs ∨ (0 < f.data.length ∧ 100 ∉ s) ∨ (f.fin = true ∧ 102 ∉ s) then 3
    else 0

/-- the bytes of further ranges, behind one that begins with b -/
def encT : Int → List (Int × Int) → List Int
  | _, [] => []
  | b, x :: t => enc (b - x.2 - 2) ++ (enc (x.2 - x.1) ++ encT x.1 t)
def encR : List (Int × Int) → List Int
  | [] => []
  | x :: t => enc x.2 ++ (enc t.length ++ (enc (x.2 - x.1) ++ encT x.1 t))
def encP (f : Fr) (c : Int) : List Int :=
  if c = 114 then encR f.rs else if c = 105 then enc f.id else if c = 111 then enc f.off else if c = 99 then enc f.code else if c = 119 then lowB 8 f.code else if c = 100 then enc f.data.length ++ f.data else []
def encPs (f : Fr) : List Int → List Int
  | [] => []
  | c :: cs => encP f c ++ encPs f cs
def markF (f : Fr) : List Int := if f.kind = 8 then (if f.fin then [15] else [14]) else enc f.kind
/-- the bytes of a frame, by P4.3 -/
def frT (f : Fr) : List Int := markF f ++ encPs f ((partsOf f.kind).getD [])

instance (zs : List Int) : Decidable (decOk zs) := by unfold decOk; infer_instance
def rd (s : List Int) : Except Int (Int × List Int) := if decOk s then .ok (decV s, s.drop (kOf (s.getD 0 0)).toNat) else .error 4
def decT : Nat → Int → List Int → Except Int (List (Int × Int) × List Int)
  | 0, _, s => .ok ([], s)
  | k + 1, b, s =>
    match rd s with
    | .error e => .error e
    | .ok (g, s1) =>
      match rd s1 with
      | .error e => .error e
      | .ok (n, s2) =>
        if b - g - 2 - n < 0 then .error 6 else
        match decT k (b - g - 2 - n) s2 with
        | .error e => .error e
        | .ok (t, s3) => .ok ((b - g - 2 - n, b - g - 2) :: t, s3)
def decRs (s : List Int) : Except Int (List (Int × Int) × List Int) :=
  match rd s with
  | .error e => .error e
  | .ok (hi, s1) =>
    match rd s1 with
    | .error e => .error e
    | .ok (n, s2) =>
      if 6 ≤ n then .error 1 else
      match rd s2 with
      | .error e => .error e
      | .ok (m, s3) =>
        if hi - m < 0 then .error 6 else
        match decT n.toNat (hi - m) s3 with
        | .error e => .error e
        | .ok (t, s4) => .ok ((hi - m, hi) :: t, s4)
def decP (f : Fr) (s : List Int) (c : Int) : Except Int (Fr × List Int) :=
  if c = 114 then match decRs s with | .error e => .error e | .ok (l, t) => .ok ({ f with rs := l }, t)
  else if c = 105 then match rd s with | .error e => .error e | .ok (n, t) => .ok ({ f with id := n }, t)
  else if c = 111 then match rd s with | .error e => .error e | .ok (n, t) => .ok ({ f with off := n }, t)
  else if c = 99 then match rd s with | .error e => .error e | .ok (n, t) => .ok ({ f with code := n }, t)
  else if c = 119 then if s.length < 8 then .error 4 else .ok ({ f with code := i64Of (beFrom 0 (s.take 8)) }, s.drop 8)
  else if c = 100 then match rd s with | .error e => .error e | .ok (n, t) => if 120 < n then .error 1 else if (t.length : Int) < n then .error 4 else .ok ({ f with data := t.take n.toNat }, t.drop n.toNat)
  else .ok (f, s)
def decPs : List Int → Fr → List Int → Except Int (Fr × List Int)
  | [], f, s => .ok (f, s)
  | c :: cs, f, s => match decP f s c with | .error e => .error e | .ok (g, t) => decPs cs g t
/-- the frame that bytes begin with, by P4.4, and what stands behind it -/
def decF (s : List Int) : Except Int (Fr × List Int) :=
  match rd s with
  | .error e => .error e
  | .ok (k, t) =>
    if k = 8 then .error 2 else
    match partsOf (if k = 14 ∨ k = 15 then 8 else k) with
    | none => .error 2
    | some ps =>
      match decPs ps ⟨if k = 14 ∨ k = 15 then 8 else k, 0, 0, decide (k = 15), 0, [], []⟩ t with
      | .error e => .error e
      | .ok (f, u) => if faultF f = 0 then .ok (f, u) else .error (faultF f)
end Go.Proofs.Ytjeocggocloigaa.P
/- A frame is read as it was written; what is read is written in no more bytes; no frame begins with another one's bytes. Nothing of the program's. -/
namespace Go.Proofs.Ytjeocggocloigaa.P
set_option linter.unusedVariables false
open Go.RowKit

theorem rd_enc (n : Int) (h0 : 0 ≤ n) (h1 : n ≤ 4611686018427387903) (m : List Int) : rd (enc n ++ m) = .ok (n, m) := by
  have h := enc_dec n h0 h1 m
  unfold rd
  rw [if_pos h.1, h.2.1, h.2.2, List.drop_append_of_le_length (by have := enc_len n; omega), List.drop_of_length_le (by have := enc_len n; omega)]
  rfl
theorem rd_ok {s t : List Int} {n : Int} (h : rd s = .ok (n, t)) : decOk s ∧ n = decV s ∧ t = s.drop (kOf (s.getD 0 0)).toNat := by
  unfold rd at h
  split at h
  · rename_i hd
    simp only [Except.ok.injEq, Prod.mk.injEq] at h
    exact ⟨hd, h.1.symm, h.2.symm⟩
  · cases h
theorem rd_err {s : List Int} {e : Int} (h : rd s = .error e) : e = 4 := by
  unfold rd at h
  split at h
  · cases h
  · simpa using h.symm
theorem head_app {s m : List Int} (h : 0 < s.length) : (s ++ m).getD 0 0 = s.getD 0 0 := by
  cases s with
  | nil => simp at h
  | cons a t => rfl
theorem rd_ext {s t : List Int} {n : Int} (m : List Int) (h : rd s = .ok (n, t)) : rd (s ++ m) = .ok (n, t ++ m) := by
  obtain ⟨hd, rfl, rfl⟩ := rd_ok h
  have hk := kOf_bd (s.getD 0 0)
  have h2 := hd.2
  have e0 := head_app (m := m) hd.1
  have hd' : decOk (s ++ m) := ⟨by rw [List.length_append]; have := hd.1; omega, by rw [e0, List.length_append]; omega⟩
  unfold rd
  rw [if_pos hd', e0, List.drop_append_of_le_length (by omega)]
  have e1 : decV (s ++ m) = decV s := by
    unfold decV
    rw [e0]
    congr 1
    rw [List.drop_append_of_le_length (by have := hd.1; omega), List.take_append_of_le_length (by rw [List.length_drop]; omega)]
  rw [e1]
/-- what is read is within what may be, and takes no fewer bytes than it is written in -/
theorem rd_bd {s t : List Int} {n : Int} (hb : Byt s) (h : rd s = .ok (n, t)) : 0 ≤ n ∧ n ≤ 4611686018427387903 ∧ (enc n).length + t.length ≤ s.length ∧ Byt t := by
  obtain ⟨hd, rfl, rfl⟩ := rd_ok h
  have b := decV_bd s hb hd
  have hk := kOf_bd (s.getD 0 0)
  have hl := enc_len (decV s)
  have h2 := hd.2
  exact ⟨b.1, b.2.1, by rw [List.length_drop]; omega, hb.drop _⟩

theorem down_len {b : Int} {x : Int × Int} {t : List (Int × Int)} (h : downFrom b (x :: t)) : okR x ∧ x.2 + 2 ≤ b ∧ downFrom x.1 t := h
theorem decT_enc : ∀ (l : List (Int × Int)) (b : Int) (m : List Int), downFrom b l → b ≤ 4611686018427387905 → decT l.length b (encT b l ++ m) = .ok (l, m)
  | [], b, m, _, _ => rfl
  | x :: l, b, m, h, hb => by
    obtain ⟨⟨x0, x1, x2⟩, h2, h3⟩ := h
    have ih := decT_enc l x.1 m h3 (by omega)
    simp only [encT, List.append_assoc, List.length_cons, decT]
    rw [rd_enc _ (by omega) (by omega)]
    simp only
    rw [rd_enc _ (by omega) (by omega)]
    simp only
    rw [if_neg (by omega), show b - (b - x.2 - 2) - 2 - (x.2 - x.1) = x.1 by omega, show b - (b - x.2 - 2) - 2 = x.2 by omega, ih]
theorem decRs_enc (l : List (Int × Int)) (m : List Int) (h : downL l) (h0 : 0 < l.length) (h6 : l.length ≤ 6) : decRs (encR l ++ m) = .ok (l, m) := by
  cases l with
  | nil => simp at h0
  | cons x l =>
    obtain ⟨⟨x0, x1, x2⟩, h2, h3⟩ := h
    simp only [List.length_cons] at h6
    simp only [encR, List.append_assoc, decRs]
    rw [rd_enc _ (by omega) (by omega)]
    simp only
    rw [rd_enc _ (by omega) (by omega)]
    simp only
    rw [if_neg (by omega), rd_enc _ (by omega) (by omega)]
    simp only
    rw [if_neg (by omega), show x.2 - (x.2 - x.1) = x.1 by omega, show ((l.length : Int)).toNat = l.length by omega, decT_enc l x.1 m h3 (by omega)]

theorem decT_ext (m : List Int) : ∀ (k : Nat) (b : Int) (s : List Int), (∀ l t, decT k b s = .ok (l, t) → decT k b (s ++ m) = .ok (l, t ++ m)) ∧ (∀ e, decT k b s = .error e → e ≠ 4 → decT k b (s ++ m) = .error e)
  | 0, b, s => ⟨fun l t h => by simp only [decT, Except.ok.injEq, Prod.mk.injEq] at h ⊢; exact ⟨h.1, by rw [h.2]⟩, fun e h => by simp [decT] at h⟩
  | k + 1, b, s => by
    simp only [decT]
    cases h1 : rd s with
    | error e => exact ⟨fun l t h => by simp at h, fun e' h he => by simp at h; have := rd_err h1; omega⟩
    | ok p =>
      obtain ⟨g, s1⟩ := p
      rw [rd_ext m h1]
      simp only
      cases h2 : rd s1 with
      | error e => exact ⟨fun l t h => by simp at h, fun e' h he => by simp at h; have := rd_err h2; omega⟩
      | ok p =>
        obtain ⟨n, s2⟩ := p
        rw [rd_ext m h2]
        simp only
        split
        · exact ⟨fun l t h => by simp at h, fun e h _ => h⟩
        · have ih := decT_ext m k (b - g - 2 - n) s2
          cases h3 : decT k (b - g - 2 - n) s2 with
          | error e => exact ⟨fun l t h => by simp at h, fun e' h he => by simp at h; subst h; rw [ih.2 _ h3 he]⟩
          | ok p =>
            obtain ⟨l', s3⟩ := p
            refine ⟨fun l t h => ?_, fun e h => by simp at h⟩
            rw [ih.1 _ _ h3]
            simp only [Except.ok.injEq, Prod.mk.injEq] at h ⊢
            exact ⟨h.1, by rw [h.2]⟩
theorem decRs_ext (m s : List Int) : (∀ l t, decRs s = .ok (l, t) → decRs (s ++ m) = .ok (l, t ++ m)) ∧ (∀ e, decRs s = .error e → e ≠ 4 → decRs (s ++ m) = .error e) := by
  simp only [decRs]
  cases h1 : rd s with
  | error e => exact ⟨fun l t h => by simp at h, fun e' h he => by simp at h; have := rd_err h1; omega⟩
  | ok p =>
    obtain ⟨hi, s1⟩ := p
    rw [rd_ext m h1]
    simp only
    cases h2 : rd s1 with
    | error e => exact ⟨fun l t h => by simp at h, fun e' h he => by simp at h; have := rd_err h2; omega⟩
    | ok p =>
      obtain ⟨n, s2⟩ := p
      rw [rd_ext m h2]
      simp only
      split
      · exact ⟨fun l t h => by simp at h, fun e h _ => h⟩
      · cases h3 : rd s2 with
        | error e => exact ⟨fun l t h => by simp at h, fun e' h he => by simp at h; have := rd_err h3; omega⟩
        | ok p =>
          obtain ⟨n', s3⟩ := p
          rw [rd_ext m h3]
          simp only
          split
          · exact ⟨fun l t h => by simp at h, fun e h _ => h⟩
          · have ih := decT_ext m n.toNat (hi - n') s3
            cases h4 : decT n.toNat (hi - n') s3 with
            | error e => exact ⟨fun l t h => by simp at h, fun e' h he => by simp at h; subst h; rw [ih.2 _ h4 he]⟩
            | ok p =>
              obtain ⟨l', s4⟩ := p
              refine ⟨fun l t h => ?_, fun e h => by simp at h⟩
              rw [ih.1 _ _ h4]
              simp only [Except.ok.injEq, Prod.mk.injEq] at h ⊢
              exact ⟨h.1, by rw [h.2]⟩
theorem rd_set_ext {α : Type} (m s : List Int) (F : Int → α) : (∀ g t, (match rd s with | .error e => (.error e : Except Int (α × List Int)) | .ok (n, t) => .ok (F n, t)) = .ok (g, t) → (match rd (s ++ m) with | .error e => (.error e : Except Int (α × List Int)) | .ok (n, t) => .ok (F n, t)) = .ok (g, t ++ m)) ∧
    (∀ e, (match rd s with | .error e => (.error e : Except Int (α × List Int)) | .ok (n, t) => .ok (F n, t)) = .error e → e ≠ 4 → (match rd (s ++ m) with | .error e => (.error e : Except Int (α × List Int)) | .ok (n, t) => .ok (F n, t)) = .error e) := by
  cases h1 : rd s with
  | error e => exact ⟨fun g t h => by simp at h, fun e' h he => by simp at h; have := rd_err h1; omega⟩
  | ok p =>
    obtain ⟨n, t⟩ := p
    rw [rd_ext m h1]
    refine ⟨fun g t' h => ?_, fun e h => by simp at h⟩
    simp only [Except.ok.injEq, Prod.mk.injEq] at h ⊢
    exact ⟨h.1, by rw [h.2]⟩
theorem decP_r (f : Fr) (s : List Int) : decP f s 114 = match decRs s with | .error e => .error e | .ok (l, t) => .ok ({ f with rs := l }, t) := rfl
theorem decP_i (f : Fr) (s : List Int) : decP f s 105 = match rd s with | .error e => .error e | .ok (n, t) => .ok ({ f with id := n }, t) := rfl
theorem decP_o (f : Fr) (s : List Int) : decP f s 111 = match rd s with | .error e => .error e | .ok (n, t) => .ok ({ f with off := n }, t) := rfl
theorem decP_c (f : Fr) (s : List Int) : decP f s 99 = match rd s with | .error e => .error e | .ok (n, t) => .ok ({ f with code := n }, t) := rfl
theorem decP_w (f : Fr) (s : List Int) : decP f s 119 = if s.length < 8 then .error 4 else .ok ({ f with code := i64Of (beFrom 0 (s.take 8)) }, s.drop 8) := rfl
theorem decP_d (f : Fr) (s : List Int) : decP f s 100 = match rd s with | .error e => .error e | .ok (n, t) => if 120 < n then .error 1 else if (t.length : Int) < n then .error 4 else .ok ({ f with data := t.take n.toNat }, t.drop n.toNat) := rfl
theorem decP_no (f : Fr) (s : List Int) {c : Int} (h1 : c ≠ 114) (h2 : c ≠ 105) (h3 : c ≠ 111) (h4 : c ≠ 99) (h5 : c ≠ 119) (h6 : c ≠ 100) : decP f s c = .ok (f, s) := by
  unfold decP
  rw [if_neg h1, if_neg h2, if_neg h3, if_neg h4, if_neg h5, if_neg h6]
theorem decP_ext (m s : List Int) (f : Fr) (c : Int) : (∀ g t, decP f s c = .ok (g, t) → decP f (s ++ m) c = .ok (g, t ++ m)) ∧ (∀ e, decP f s c = .error e → e ≠ 4 → decP f (s ++ m) c = .error e) := by
  by_cases e1 : c = 114
  · subst e1
    rw [decP_r, decP_r]
    have hx := decRs_ext m s
    cases h1 : decRs s with
    | error e => exact ⟨fun g t h => by simp at h, fun e' h he => by simp at h; subst h; rw [hx.2 _ h1 he]⟩
    | ok p =>
      obtain ⟨l, t⟩ := p
      rw [hx.1 _ _ h1]
      refine ⟨fun g t' h => ?_, fun e h => by simp at h⟩
      simp only [Except.ok.injEq, Prod.mk.injEq] at h ⊢
      exact ⟨h.1, by rw [h.2]⟩
  by_cases e2 : c = 105
  · subst e2
    rw [decP_i, decP_i]
    exact rd_set_ext m s fun n => { f with id := n }
  by_cases e3 : c = 111
  · subst e3
    rw [decP_o, decP_o]
    exact rd_set_ext m s fun n => { f with off := n }
  by_cases e4 : c = 99
  · subst e4
    rw [decP_c, decP_c]
    exact rd_set_ext m s fun n => { f with code := n }
  by_cases e5 : c = 119
  · subst e5
    rw [decP_w, decP_w]
    by_cases h8 : s.length < 8
    · rw [if_pos h8]
      exact ⟨fun g t h => by simp at h, fun e h he => by simp at h; omega⟩
    · rw [if_neg h8]
      refine ⟨fun g t h => ?_, fun e h => by simp at h⟩
      rw [if_neg (by rw [List.length_append]; omega), List.take_append_of_le_length (by omega), List.drop_append_of_le_length (by omega)]
      simp only [Except.ok.injEq, Prod.mk.injEq] at h ⊢
      exact ⟨h.1, by rw [h.2]⟩
  by_cases e6 : c = 100
  · subst e6
    rw [decP_d, decP_d]
    cases h1 : rd s with
    | error e => exact ⟨fun g t h => by simp at h, fun e' h he => by simp at h; have := rd_err h1; omega⟩
    | ok p =>
      obtain ⟨n, t⟩ := p
      rw [rd_ext m h1]
      simp only
      by_cases hn : 120 < n
      · rw [if_pos hn, if_pos hn]
        exact ⟨fun g t h => by simp at h, fun e h _ => h⟩
      · rw [if_neg hn, if_neg hn]
        by_cases hl : (t.length : Int) < n
        · rw [if_pos hl]
          exact ⟨fun g t h => by simp at h, fun e h he => by simp at h; omega⟩
        · rw [if_neg hl]
          refine ⟨fun g t' h => ?_, fun e h => by simp at h⟩
          rw [if_neg (by rw [List.length_append]; omega), List.take_append_of_le_length (by omega), List.drop_append_of_le_length (by omega)]
          simp only [Except.ok.injEq, Prod.mk.injEq] at h ⊢
          exact ⟨h.1, by rw [h.2]⟩
  rw [decP_no f s e1 e2 e3 e4 e5 e6, decP_no f _ e1 e2 e3 e4 e5 e6]
  refine ⟨fun g t h => ?_, fun e h => by simp at h⟩
  simp only [Except.ok.injEq, Prod.mk.injEq] at h ⊢
  exact ⟨h.1, by rw [h.2]⟩
theorem decPs_ext (m : List Int) : ∀ (cs : List Int) (f : Fr) (s : List Int), (∀ g t, decPs cs f s = .ok (g, t) → decPs cs f (s ++ m) = .ok (g, t ++ m)) ∧ (∀ e, decPs cs f s = .error e → e ≠ 4 → decPs cs f (s ++ m) = .error e)
  | [], f, s => ⟨fun g t h => by simp only [decPs, Except.ok.injEq, Prod.mk.injEq] at h ⊢; exact ⟨h.1, by rw [h.2]⟩, fun e h => by simp [decPs] at h⟩
  | c :: cs, f, s => by
    simp only [decPs]
    have hx := decP_ext m s f c
    cases h1 : decP f s c with
    | error e => exact ⟨fun g t h => by simp at h, fun e' h he => by simp at h; subst h; rw [hx.2 _ h1 he]⟩
    | ok p =>
      obtain ⟨g, t⟩ := p
      rw [hx.1 _ _ h1]
      exact decPs_ext m cs g t
theorem decF_ext (m s : List Int) : (∀ f t, decF s = .ok (f, t) → decF (s ++ m) = .ok (f, t ++ m)) ∧ (∀ e, decF s = .error e → e ≠ 4 → decF (s ++ m) = .error e) := by
  unfold decF
  cases h1 : rd s with
  | error e => exact ⟨fun g t h => by simp at h, fun e' h he => by simp at h; have := rd_err h1; omega⟩
  | ok p =>
    obtain ⟨k, t⟩ := p
    rw [rd_ext m h1]
    simp only
    split
    · exact ⟨fun g t h => by simp at h, fun e h _ => h⟩
    · cases hp : partsOf (if k = 14 ∨ k = 15 then 8 else k) with
      | none => exact ⟨fun g t h => by simp at h, fun e h _ => h⟩
      | some ps =>
        simp only
        have hx := decPs_ext m ps ⟨if k = 14 ∨ k = 15 then 8 else k, 0, 0, decide (k = 15), 0, [], []⟩ t
        cases h2 : decPs ps ⟨if k = 14 ∨ k = 15 then 8 else k, 0, 0, decide (k = 15), 0, [], []⟩ t with
        | error e => exact ⟨fun g t h => by simp at h, fun e' h he => by simp at h; subst h; rw [hx.2 _ h2 he]⟩
        | ok p =>
          obtain ⟨f, u⟩ := p
          rw [hx.1 _ _ h2]
          simp only
          split
          · refine ⟨fun g t' h => ?_, fun e h => by simp at h⟩
            simp only [Except.ok.injEq, Prod.mk.injEq] at h ⊢
            exact ⟨h.1, by rw [h.2]⟩
          · exact ⟨fun g t h => by simp at h, fun e h _ => h⟩
end Go.Proofs.Ytjeocggocloigaa.P
/- A frame is read as it was written, cut short it is none; what is read may be, and is written in no more bytes. Nothing of the program's. -/
namespace Go.Proofs.Ytjeocggocloigaa.P
set_option linter.unusedVariables false
open Go.RowKit

theorem be_low8 (v : Int) (h0 : 0 ≤ v) (h1 : v ≤ 18446744073709551615) : beFrom 0 (lowB 8 v) = v := by
  show (((((((0 * 256 + v / 256 / 256 / 256 / 256 / 256 / 256 / 256 % 256) * 256 + v / 256 / 256 / 256 / 256 / 256 / 256 % 256) * 256 + v / 256 / 256 / 256 / 256 / 256 % 256) * 256 + v / 256 / 256 / 256 / 256 % 256) * 256 + v / 256 / 256 / 256 % 256) * 256 + v / 256 / 256 % 256) * 256 + v / 256 % 256) * 256 + v % 256 = v
  omega

theorem numBad_no {has : Bool} {n : Int} (h : ¬ numBad has n = true) : 0 ≤ n ∧ n ≤ 4611686018427387903 ∧ (has = false → n = 0) := by
  unfold numBad at h
  cases has <;> simp at h ⊢ <;> omega
/-- a frame that may be -/
structure OkF (f : Fr) (s : List Int) : Prop where
  parts : partsOf f.kind = some s
  data : f.data.length ≤ 120
  rs : f.rs.length ≤ 6
  id0 : 0 ≤ f.id
  id1 : f.id ≤ 4611686018427387903
  idn : 105 ∉ s → f.id = 0
  off0 : 0 ≤ f.off
  off1 : f.off ≤ 4611686018427387903
  offn : 111 ∉ s → f.off = 0
  code0 : 0 ≤ f.code
  code1 : f.code ≤ 4611686018427387903
  coden : 99 ∉ s → 119 ∉ s → f.code = 0
  rsn : 114 ∉ s → f.rs = []
  rsy : 114 ∈ s → 0 < f.rs.length
  down : downL f.rs
  datan : 100 ∉ s → f.data = []
  finn : 102 ∉ s → f.fin = false
theorem okF_of {f : Fr} (h : faultF f = 0) : ∃ s, OkF f s := by
  unfold faultF at h
  cases hp : partsOf f.kind with
  | none => rw [hp] at h; simp at h
  | some s =>
    rw [hp] at h
    simp only at h
    by_cases c1 : 120 < f.data.length ∨ 6 < f.rs.length
    · rw [if_pos c1] at h; omega
    rw [if_neg c1] at h
    by_cases c2 : numBad (decide (105 ∈ s)) f.id = true ∨ numBad (decide (111 ∈ s)) f.off = true ∨ numBad (decide (99 ∈ s) || decide (119 ∈ s)) f.code = true
    · rw [if_pos c2] at h; omega
    rw [if_neg c2] at h
    by_cases c3 : 111 ∈ s ∧ 100 ∈ s ∧ 4611686018427387903 < f.off + f.data.length
    · rw [if_pos c3] at h; omega
    rw [if_neg c3] at h
    by_cases c4 : decide (0 < f.rs.length) ≠ decide (114 ∈ s) ∨ ¬ downL f.rs ∨ (0 < f.data.length ∧ 100 ∉ s) ∨ (f.fin = true ∧ 102 ∉ s)
    · rw [if_pos c4] at h; omega
    have n1 := numBad_no fun e => c2 (.inl e)
    have n2 := numBad_no fun e => c2 (.inr (.inl e))
    have n3 := numBad_no fun e => c2 (.inr (.inr e))
    have r1 : (0 < f.rs.length) ↔ 114 ∈ s := by
      have : decide (0 < f.rs.length) = decide (114 ∈ s) := Decidable.byContradiction fun e => c4 (.inl e)
      simpa using this
    refine ⟨s, hp, by omega, by omega, n1.1, n1.2.1, fun e => n1.2.2 (by simpa using e), n2.1, n2.2.1, fun e => n2.2.2 (by simpa using e), n3.1, n3.2.1, fun e e' => n3.2.2 (by simp [e, e']), fun e => ?_, fun e => r1.2 e, ?_, fun e => ?_, fun e => ?_⟩
    · exact List.eq_nil_of_length_eq_zero (by have := mt r1.1 e; omega)
    · exact Decidable.byContradiction fun e => c4 (.inr (.inl e))
    · refine List.eq_nil_of_length_eq_zero ?_
      rcases Nat.eq_zero_or_pos f.data.length with e0 | e0
      · exact e0
      · exact absurd (.inr (.inr (.inl ⟨e0, e⟩))) c4
    · cases hf : f.fin with
      | false => rfl
      | true => exact absurd (.inr (.inr (.inr ⟨hf, e⟩))) c4

/-- the number that a frame begins with -/
def mkF (f : Fr) : Int := if f.kind = 8 then (if f.fin then 15 else 14) else f.kind
theorem mark_enc (f : Fr) : markF f = enc (mkF f) := by
  unfold markF mkF
  split
  · split <;> rfl
  · rfl
theorem encData (f : Fr) (h : f.data.length ≤ 120) (m : List Int) (g : Fr) : decP g (enc f.data.length ++ f.data ++ m) 100 = .ok ({ g with data := f.data }, m) := by
  rw [decP_d, List.append_assoc, rd_enc _ (by omega) (by omega)]
  simp only
  rw [if_neg (by omega), if_neg (by rw [List.length_append]; omega), show ((f.data.length : Int)).toNat = f.data.length by omega, List.take_left, List.drop_left]
theorem fr_eq {f g : Fr} (h1 : f.kind = g.kind) (h2 : f.id = g.id) (h3 : f.off = g.off) (h4 : f.fin = g.fin) (h5 : f.code = g.code) (h6 : f.rs = g.rs) (h7 : f.data = g.data) : f = g := by
  cases f; cases g; simp_all
theorem step_i (f g : Fr) (h0 : 0 ≤ f.id) (h1 : f.id ≤ 4611686018427387903) (m : List Int) : decP g (encP f 105 ++ m) 105 = .ok ({ g with id := f.id }, m) := by
  show decP g (enc f.id ++ m) 105 = _
  rw [decP_i, rd_enc _ h0 h1]
theorem step_o (f g : Fr) (h0 : 0 ≤ f.off) (h1 : f.off ≤ 4611686018427387903) (m : List Int) : decP g (encP f 111 ++ m) 111 = .ok ({ g with off := f.off }, m) := by
  show decP g (enc f.off ++ m) 111 = _
  rw [decP_o, rd_enc _ h0 h1]
theorem step_c (f g : Fr) (h0 : 0 ≤ f.code) (h1 : f.code ≤ 4611686018427387903) (m : List Int) : decP g (encP f 99 ++ m) 99 = .ok ({ g with code := f.code }, m) := by
  show decP g (enc f.code ++ m) 99 = _
  rw [decP_c, rd_enc _ h0 h1]
theorem step_w (f g : Fr) (h0 : 0 ≤ f.code) (h1 : f.code ≤ 4611686018427387903) (m : List Int) : decP g (encP f 119 ++ m) 119 = .ok ({ g with code := f.code }, m) := by
  show decP g (lowB 8 f.code ++ m) 119 = _
  have l := lowB_len 8 f.code
  rw [decP_w, if_neg (by rw [List.length_append]; omega), List.take_append_of_le_length (by omega), List.take_of_length_le (by omega), List.drop_append_of_le_length (by omega), List.drop_of_length_le (by omega), be_low8 _ h0 (by omega)]
  rw [show i64Of f.code = f.code from if_pos (by omega)]
  rfl
theorem step_d (f g : Fr) (h : f.data.length ≤ 120) (m : List Int) : decP g (encP f 100 ++ m) 100 = .ok ({ g with data := f.data }, m) := encData f h m g
theorem step_r (f g : Fr) (h : downL f.rs) (h0 : 0 < f.rs.length) (h6 : f.rs.length ≤ 6) (m : List Int) : decP g (encP f 114 ++ m) 114 = .ok ({ g with rs := f.rs }, m) := by
  show decP g (encR f.rs ++ m) 114 = _
  rw [decP_r, decRs_enc _ _ h h0 h6]
theorem step_f (f g : Fr) (m : List Int) : decP g (encP f 102 ++ m) 102 = .ok (g, m) := rfl

/-- a frame is read as it was written, whatever stands behind it -/
theorem decF_back {f : Fr} (h : faultF f = 0) (m : List Int) : decF (frT f ++ m) = .ok (f, m) := by
  obtain ⟨s, H⟩ := okF_of h
  have hp := H.parts
  have hk : 0 ≤ mkF f ∧ mkF f ≤ 30 ∧ mkF f ≠ 8 ∧ (if mkF f = 14 ∨ mkF f = 15 then 8 else mkF f) = f.kind ∧ decide (mkF f = 15) = f.fin := by
    have hc := parts_cases hp
    by_cases e8 : f.kind = 8
    · unfold mkF
      rw [if_pos e8]
      cases hf : f.fin <;> simp [e8]
    · have hm : mkF f = f.kind := if_neg e8
      have hs : f.fin = false := H.finn (by
        rcases hc with ⟨e, _⟩ | ⟨e, _⟩ | ⟨e, _⟩ | ⟨e, _⟩ | ⟨e, _⟩ | ⟨e, _⟩ | ⟨e, c⟩ | ⟨e, _⟩ | ⟨e, _⟩ | ⟨e, _⟩ | ⟨e, _⟩ <;> first | (rw [e]; decide) | exact absurd c e8)
      rw [hm, hs]
      refine ⟨by omega, by omega, e8, if_neg (by omega), decide_eq_false (by omega)⟩
  obtain ⟨k0, k1, k8, kk, kf⟩ := hk
  unfold decF frT
  rw [mark_enc, List.append_assoc, rd_enc _ k0 (by omega)]
  simp only
  rw [if_neg k8, kk, hp]
  simp only
  rw [kf]
  have key : decPs s ⟨f.kind, 0, 0, f.fin, 0, [], []⟩ (encPs f ((some s).getD []) ++ m) = .ok (f, m) := by
    simp only [Option.getD_some]
    rcases parts_cases hp with ⟨e, _⟩ | ⟨e, _⟩ | ⟨e, _⟩ | ⟨e, _⟩ | ⟨e, _⟩ | ⟨e, _⟩ | ⟨e, _⟩ | ⟨e, _⟩ | ⟨e, _⟩ | ⟨e, _⟩ | ⟨e, _⟩ <;> subst e
    · simp only [encPs, List.nil_append, decPs, Except.ok.injEq, Prod.mk.injEq, and_true]
      exact fr_eq rfl (H.idn (by decide)).symm (H.offn (by decide)).symm rfl (H.coden (by decide) (by decide)).symm (H.rsn (by decide)).symm (H.datan (by decide)).symm
    · simp only [encPs, List.append_assoc, List.nil_append, decPs, step_r f _ H.down (H.rsy (by decide)) H.rs, Except.ok.injEq, Prod.mk.injEq, and_true]
      exact fr_eq rfl (H.idn (by decide)).symm (H.offn (by decide)).symm rfl (H.coden (by decide) (by decide)).symm rfl (H.datan (by decide)).symm
    · simp only [encPs, List.append_assoc, List.nil_append, decPs, step_i f _ H.id0 H.id1, step_o f _ H.off0 H.off1, step_c f _ H.code0 H.code1, Except.ok.injEq, Prod.mk.injEq, and_true]
      exact fr_eq rfl rfl rfl rfl rfl (H.rsn (by decide)).symm (H.datan (by decide)).symm
    · simp only [encPs, List.append_assoc, List.nil_append, decPs, step_i f _ H.id0 H.id1, step_c f _ H.code0 H.code1, Except.ok.injEq, Prod.mk.injEq, and_true]
      exact fr_eq rfl rfl (H.offn (by decide)).symm rfl rfl (H.rsn (by decide)).symm (H.datan (by decide)).symm
    · simp only [encPs, List.append_assoc, List.nil_append, decPs, step_o f _ H.off0 H.off1, step_d f _ H.data, Except.ok.injEq, Prod.mk.injEq, and_true]
      exact fr_eq rfl (H.idn (by decide)).symm rfl rfl (H.coden (by decide) (by decide)).symm (H.rsn (by decide)).symm rfl
    · simp only [encPs, List.append_assoc, List.nil_append, decPs, step_d f _ H.data, Except.ok.injEq, Prod.mk.injEq, and_true]
      exact fr_eq rfl (H.idn (by decide)).symm (H.offn (by decide)).symm rfl (H.coden (by decide) (by decide)).symm (H.rsn (by decide)).symm rfl
    · simp only [encPs, List.append_assoc, List.nil_append, decPs, step_i f _ H.id0 H.id1, step_o f _ H.off0 H.off1, step_d f _ H.data, step_f, Except.ok.injEq, Prod.mk.injEq, and_true]
      exact fr_eq rfl rfl rfl rfl (H.coden (by decide) (by decide)).symm (H.rsn (by decide)).symm rfl
    · simp only [encPs, List.append_assoc, List.nil_append, decPs, step_o f _ H.off0 H.off1, Except.ok.injEq, Prod.mk.injEq, and_true]
      exact fr_eq rfl (H.idn (by decide)).symm rfl rfl (H.coden (by decide) (by decide)).symm (H.rsn (by decide)).symm (H.datan (by decide)).symm
    · simp only [encPs, List.append_assoc, List.nil_append, decPs, step_i f _ H.id0 H.id1, step_o f _ H.off0 H.off1, Except.ok.injEq, Prod.mk.injEq, and_true]
      exact fr_eq rfl rfl rfl rfl (H.coden (by decide) (by decide)).symm (H.rsn (by decide)).symm (H.datan (by decide)).symm
    · simp only [encPs, List.append_assoc, List.nil_append, decPs, step_w f _ H.code0 H.code1, Except.ok.injEq, Prod.mk.injEq, and_true]
      exact fr_eq rfl (H.idn (by decide)).symm (H.offn (by decide)).symm rfl rfl (H.rsn (by decide)).symm (H.datan (by decide)).symm
    · simp only [encPs, List.append_assoc, List.nil_append, decPs, step_c f _ H.code0 H.code1, Except.ok.injEq, Prod.mk.injEq, and_true]
      exact fr_eq rfl (H.idn (by decide)).symm (H.offn (by decide)).symm rfl rfl (H.rsn (by decide)).symm (H.datan (by decide)).symm
  rw [key]
  simp only
  rw [if_pos h]
/-- cut short it is none -/
theorem decF_cut {f : Fr} (h : faultF f = 0) (j : Nat) (hj : j < (frT f).length) : decF ((frT f).take j) = .error 4 := by
  have hx := decF_ext ((frT f).drop j) ((frT f).take j)
  rw [List.take_append_drop] at hx
  have hb := decF_back h []
  rw [List.append_nil] at hb
  cases hd : decF ((frT f).take j) with
  | ok p =>
    obtain ⟨g, t⟩ := p
    have := hx.1 g t hd
    rw [hb] at this
    simp only [Except.ok.injEq, Prod.mk.injEq] at this
    have hl := congrArg List.length this.2
    rw [List.length_append, List.length_drop, List.length_nil] at hl
    omega
  | error e =>
    by_cases he : e = 4
    · rw [he]
    · have := hx.2 e hd he
      rw [hb] at this
      cases this
/-- no frame's bytes begin with another one's -/
theorem decF_apart {f g : Fr} (hf : faultF f = 0) (hg : faultF g = 0) {x y : List Int} (h : frT f ++ x = frT g ++ y) : f = g := by
  have h1 := decF_back hf x
  rw [h, decF_back hg y] at h1
  simp only [Except.ok.injEq, Prod.mk.injEq] at h1
  exact h1.1.symm
theorem frT_pos (f : Fr) (h : faultF f = 0) : 0 < (frT f).length := by
  unfold frT
  rw [mark_enc, List.length_append]
  have := enc_len (mkF f)
  have := sz_bd (mkF f)
  omega
end Go.Proofs.Ytjeocggocloigaa.P
/- What is read as a frame may be, and is written in no more bytes; frames one behind the other. Nothing of the program's. -/
namespace Go.Proofs.Ytjeocggocloigaa.P
set_option linter.unusedVariables false
open Go.RowKit

theorem decT_len : ∀ (k : Nat) (b : Int) (s : List Int) (l : List (Int × Int)) (t : List Int), Byt s → decT k b s = .ok (l, t) → l.length = k ∧ (encT b l).length + t.length ≤ s.length ∧ Byt t
  | 0, b, s, l, t, hb, h => by
    simp only [decT, Except.ok.injEq, Prod.mk.injEq] at h
    obtain ⟨rfl, rfl⟩ := h
    exact ⟨rfl, by simp [encT], hb⟩
  | k + 1, b, s, l, t, hb, h => by
    simp only [decT] at h
    cases h1 : rd s with
    | error e => rw [h1] at h; simp at h
    | ok p =>
      obtain ⟨g, s1⟩ := p
      rw [h1] at h
      simp only at h
      cases h2 : rd s1 with
      | error e => rw [h2] at h; simp at h
      | ok p =>
        obtain ⟨n, s2⟩ := p
        rw [h2] at h
        simp only at h
        by_cases hn : b - g - 2 - n < 0
        · rw [if_pos hn] at h; simp at h
        rw [if_neg hn] at h
        cases h3 : decT k (b - g - 2 - n) s2 with
        | error e => rw [h3] at h; simp at h
        | ok p =>
          obtain ⟨l', s3⟩ := p
          rw [h3] at h
          simp only [Except.ok.injEq, Prod.mk.injEq] at h
          obtain ⟨rfl, rfl⟩ := h
          have r1 := rd_bd hb h1
          have r2 := rd_bd r1.2.2.2 h2
          have ih := decT_len k _ s2 l' s3 r2.2.2.2 h3
          refine ⟨by simp [ih.1], ?_, ih.2.2⟩
          simp only [encT, List.length_append]
          rw [show b - (b - g - 2) - 2 = g by omega, show b - g - 2 - (b - g - 2 - n) = n by omega]
          omega
theorem decRs_len (s : List Int) (l : List (Int × Int)) (t : List Int) (hb : Byt s) (h : decRs s = .ok (l, t)) : (encR l).length + t.length ≤ s.length ∧ Byt t ∧ l.length ≤ 6 := by
  simp only [decRs] at h
  cases h1 : rd s with
  | error e => rw [h1] at h; simp at h
  | ok p =>
    obtain ⟨hi, s1⟩ := p
    rw [h1] at h
    simp only at h
    cases h2 : rd s1 with
    | error e => rw [h2] at h; simp at h
    | ok p =>
      obtain ⟨n, s2⟩ := p
      rw [h2] at h
      simp only at h
      by_cases h6 : 6 ≤ n
      · rw [if_pos h6] at h; simp at h
      rw [if_neg h6] at h
      cases h3 : rd s2 with
      | error e => rw [h3] at h; simp at h
      | ok p =>
        obtain ⟨m, s3⟩ := p
        rw [h3] at h
        simp only at h
        by_cases hn : hi - m < 0
        · rw [if_pos hn] at h; simp at h
        rw [if_neg hn] at h
        cases h4 : decT n.toNat (hi - m) s3 with
        | error e => rw [h4] at h; simp at h
        | ok p =>
          obtain ⟨l', s4⟩ := p
          rw [h4] at h
          simp only [Except.ok.injEq, Prod.mk.injEq] at h
          obtain ⟨rfl, rfl⟩ := h
          have r1 := rd_bd hb h1
          have r2 := rd_bd r1.2.2.2 h2
          have r3 := rd_bd r2.2.2.2 h3
          have ih := decT_len _ _ s3 l' s4 r3.2.2.2 h4
          refine ⟨?_, ih.2.2, by simp only [List.length_cons]; omega⟩
          simp only [encR, List.length_append]
          rw [show hi - (hi - m) = m by omega, show ((l'.length : Nat) : Int) = n by rw [ih.1]; omega]
          omega
/-- one part read: what it was written in, and what it leaves as it was -/
theorem len_i {f g : Fr} {s t : List Int} (hb : Byt s) (h : decP f s 105 = .ok (g, t)) : ∃ n, g = { f with id := n } ∧ (enc n).length + t.length ≤ s.length ∧ Byt t := by
  rw [decP_i] at h
  cases h1 : rd s with
  | error e => rw [h1] at h; simp at h
  | ok p =>
    obtain ⟨n, t'⟩ := p
    rw [h1] at h
    simp only [Except.ok.injEq, Prod.mk.injEq] at h
    obtain ⟨rfl, rfl⟩ := h
    have r := rd_bd hb h1
    exact ⟨n, rfl, r.2.2.1, r.2.2.2⟩
theorem len_o {f g : Fr} {s t : List Int} (hb : Byt s) (h : decP f s 111 = .ok (g, t)) : ∃ n, g = { f with off := n } ∧ (enc n).length + t.length ≤ s.length ∧ Byt t := by
  rw [decP_o] at h
  cases h1 : rd s with
  | error e => rw [h1] at h; simp at h
  | ok p =>
    obtain ⟨n, t'⟩ := p
    rw [h1] at h
    simp only [Except.ok.injEq, Prod.mk.injEq] at h
    obtain ⟨rfl, rfl⟩ := h
    have r := rd_bd hb h1
    exact ⟨n, rfl, r.2.2.1, r.2.2.2⟩
theorem len_c {f g : Fr} {s t : List Int} (hb : Byt s) (h : decP f s 99 = .ok (g, t)) : ∃ n, g = { f with code := n } ∧ (enc n).length + t.length ≤ s.length ∧ Byt t := by
  rw [decP_c] at h
  cases h1 : rd s with
  | error e => rw [h1] at h; simp at h
  | ok p =>
    obtain ⟨n, t'⟩ := p
    rw [h1] at h
    simp only [Except.ok.injEq, Prod.mk.injEq] at h
    obtain ⟨rfl, rfl⟩ := h
    have r := rd_bd hb h1
    exact ⟨n, rfl, r.2.2.1, r.2.2.2⟩
theorem len_w {f g : Fr} {s t : List Int} (hb : Byt s) (h : decP f s 119 = .ok (g, t)) : ∃ n, g = { f with code := n } ∧ 8 + t.length ≤ s.length ∧ Byt t := by
  rw [decP_w] at h
  by_cases h8 : s.length < 8
  · rw [if_pos h8] at h; simp at h
  rw [if_neg h8] at h
  simp only [Except.ok.injEq, Prod.mk.injEq] at h
  obtain ⟨rfl, rfl⟩ := h
  exact ⟨_, rfl, by rw [List.length_drop]; omega, hb.drop 8⟩
theorem len_d {f g : Fr} {s t : List Int} (hb : Byt s) (h : decP f s 100 = .ok (g, t)) : ∃ d, g = { f with data := d } ∧ (enc d.length).length + d.length + t.length ≤ s.length ∧ Byt t ∧ Byt d := by
  rw [decP_d] at h
  cases h1 : rd s with
  | error e => rw [h1] at h; simp at h
  | ok p =>
    obtain ⟨n, t'⟩ := p
    rw [h1] at h
    simp only at h
    by_cases hn : 120 < n
    · rw [if_pos hn] at h; simp at h
    rw [if_neg hn] at h
    by_cases hl : (t'.length : Int) < n
    · rw [if_pos hl] at h; simp at h
    rw [if_neg hl] at h
    simp only [Except.ok.injEq, Prod.mk.injEq] at h
    obtain ⟨rfl, rfl⟩ := h
    have r := rd_bd hb h1
    refine ⟨_, rfl, ?_, r.2.2.2.drop _, r.2.2.2.take _⟩
    have hln : (t'.take n.toNat).length = n.toNat := by rw [List.length_take]; omega
    rw [hln, show ((n.toNat : Nat) : Int) = n by omega, List.length_drop]
    omega
theorem len_r {f g : Fr} {s t : List Int} (hb : Byt s) (h : decP f s 114 = .ok (g, t)) : ∃ l, g = { f with rs := l } ∧ (encR l).length + t.length ≤ s.length ∧ Byt t := by
  rw [decP_r] at h
  cases h1 : decRs s with
  | error e => rw [h1] at h; simp at h
  | ok p =>
    obtain ⟨l, t'⟩ := p
    rw [h1] at h
    simp only [Except.ok.injEq, Prod.mk.injEq] at h
    obtain ⟨rfl, rfl⟩ := h
    have r := decRs_len s l t' hb h1
    exact ⟨l, rfl, r.1, r.2.1⟩
theorem decPs_cons {c : Int} {cs : List Int} {f g : Fr} {s t : List Int} (h : decPs (c :: cs) f s = .ok (g, t)) : ∃ f' s', decP f s c = .ok (f', s') ∧ decPs cs f' s' = .ok (g, t) := by
  simp only [decPs] at h
  cases h1 : decP f s c with
  | error e => rw [h1] at h; simp at h
  | ok p =>
    obtain ⟨f', s'⟩ := p
    rw [h1] at h
    exact ⟨f', s', rfl, h⟩
theorem decPs_nil {f g : Fr} {s t : List Int} (h : decPs [] f s = .ok (g, t)) : g = f ∧ t = s := by
  simp only [decPs, Except.ok.injEq, Prod.mk.injEq] at h
  exact ⟨h.1.symm, h.2.symm⟩
/-- all parts of a kind read: they are written in no more bytes -/
theorem decPs_len {k : Int} {cs : List Int} (hc : partsOf k = some cs) {fin : Bool} {g : Fr} {s t : List Int} (hb : Byt s) (h : decPs cs ⟨k, 0, 0, fin, 0, [], []⟩ s = .ok (g, t)) :
    g.kind = k ∧ g.fin = fin ∧ (encPs g cs).length + t.length ≤ s.length ∧ Byt t ∧ Byt g.data := by
  have e1 : ∀ f, encP f 105 = enc f.id := fun _ => rfl
  have e2 : ∀ f, encP f 111 = enc f.off := fun _ => rfl
  have e3 : ∀ f, encP f 99 = enc f.code := fun _ => rfl
  have e4 : ∀ f, (encP f 119).length = 8 := fun f => lowB_len 8 f.code
  have e5 : ∀ f : Fr, encP f 100 = enc f.data.length ++ f.data := fun _ => rfl
  have e6 : ∀ f, encP f 114 = encR f.rs := fun _ => rfl
  have e7 : ∀ f, encP f 102 = [] := fun _ => rfl
  rcases parts_cases hc with ⟨e, _⟩ | ⟨e, _⟩ | ⟨e, _⟩ | ⟨e, _⟩ | ⟨e, _⟩ | ⟨e, _⟩ | ⟨e, _⟩ | ⟨e, _⟩ | ⟨e, _⟩ | ⟨e, _⟩ | ⟨e, _⟩ <;> subst e
  · obtain ⟨rfl, rfl⟩ := decPs_nil h
    exact ⟨rfl, rfl, by simp [encPs], hb, Byt.nil⟩
  · obtain ⟨f1, s1, h1, h⟩ := decPs_cons h
    obtain ⟨l, rfl, l1, b1⟩ := len_r hb h1
    obtain ⟨rfl, rfl⟩ := decPs_nil h
    exact ⟨rfl, rfl, by simp only [encPs, e6, List.append_nil]; omega, b1, Byt.nil⟩
  · obtain ⟨f1, s1, h1, h⟩ := decPs_cons h
    obtain ⟨n1, rfl, l1, b1⟩ := len_i hb h1
    obtain ⟨f2, s2, h2, h⟩ := decPs_cons h
    obtain ⟨n2, rfl, l2, b2⟩ := len_o b1 h2
    obtain ⟨f3, s3, h3, h⟩ := decPs_cons h
    obtain ⟨n3, rfl, l3, b3⟩ := len_c b2 h3
    obtain ⟨rfl, rfl⟩ := decPs_nil h
    exact ⟨rfl, rfl, by simp only [encPs, e1, e2, e3, List.append_nil, List.length_append]; omega, b3, Byt.nil⟩
  · obtain ⟨f1, s1, h1, h⟩ := decPs_cons h
    obtain ⟨n1, rfl, l1, b1⟩ := len_i hb h1
    obtain ⟨f3, s3, h3, h⟩ := decPs_cons h
    obtain ⟨n3, rfl, l3, b3⟩ := len_c b1 h3
    obtain ⟨rfl, rfl⟩ := decPs_nil h
    exact ⟨rfl, rfl, by simp only [encPs, e1, e3, List.append_nil, List.length_append]; omega, b3, Byt.nil⟩
  · obtain ⟨f2, s2, h2, h⟩ := decPs_cons h
    obtain ⟨n2, rfl, l2, b2⟩ := len_o hb h2
    obtain ⟨f3, s3, h3, h⟩ := decPs_cons h
    obtain ⟨n3, rfl, l3, b3, d3⟩ := len_d b2 h3
    obtain ⟨rfl, rfl⟩ := decPs_nil h
    exact ⟨rfl, rfl, by simp only [encPs, e2, e5, List.append_nil, List.length_append]; omega, b3, d3⟩
  · obtain ⟨f3, s3, h3, h⟩ := decPs_cons h
    obtain ⟨n3, rfl, l3, b3, d3⟩ := len_d hb h3
    obtain ⟨rfl, rfl⟩ := decPs_nil h
    exact ⟨rfl, rfl, by simp only [encPs, e5, List.append_nil, List.length_append]; omega, b3, d3⟩
  · obtain ⟨f1, s1, h1, h⟩ := decPs_cons h
    obtain ⟨n1, rfl, l1, b1⟩ := len_i hb h1
    obtain ⟨f2, s2, h2, h⟩ := decPs_cons h
    obtain ⟨n2, rfl, l2, b2⟩ := len_o b1 h2
    obtain ⟨f3, s3, h3, h⟩ := decPs_cons h
    obtain ⟨n3, rfl, l3, b3, d3⟩ := len_d b2 h3
    obtain ⟨f4, s4, h4, h⟩ := decPs_cons h
    rw [decP_no _ _ (by decide) (by decide) (by decide) (by decide) (by decide) (by decide)] at h4
    simp only [Except.ok.injEq, Prod.mk.injEq] at h4
    obtain ⟨rfl, rfl⟩ := h4
    obtain ⟨rfl, rfl⟩ := decPs_nil h
    exact ⟨rfl, rfl, by simp only [encPs, e1, e2, e5, e7, List.append_nil, List.length_append]; omega, b3, d3⟩
  · obtain ⟨f2, s2, h2, h⟩ := decPs_cons h
    obtain ⟨n2, rfl, l2, b2⟩ := len_o hb h2
    obtain ⟨rfl, rfl⟩ := decPs_nil h
    exact ⟨rfl, rfl, by simp only [encPs, e2, List.append_nil, List.length_append]; omega, b2, Byt.nil⟩
  · obtain ⟨f1, s1, h1, h⟩ := decPs_cons h
    obtain ⟨n1, rfl, l1, b1⟩ := len_i hb h1
    obtain ⟨f2, s2, h2, h⟩ := decPs_cons h
    obtain ⟨n2, rfl, l2, b2⟩ := len_o b1 h2
    obtain ⟨rfl, rfl⟩ := decPs_nil h
    exact ⟨rfl, rfl, by simp only [encPs, e1, e2, List.append_nil, List.length_append]; omega, b2, Byt.nil⟩
  · obtain ⟨f3, s3, h3, h⟩ := decPs_cons h
    obtain ⟨n3, rfl, l3, b3⟩ := len_w hb h3
    obtain ⟨rfl, rfl⟩ := decPs_nil h
    refine ⟨rfl, rfl, ?_, b3, Byt.nil⟩
    simp only [encPs, List.append_nil, e4]
    exact l3
  · obtain ⟨f3, s3, h3, h⟩ := decPs_cons h
    obtain ⟨n3, rfl, l3, b3⟩ := len_c hb h3
    obtain ⟨rfl, rfl⟩ := decPs_nil h
    exact ⟨rfl, rfl, by simp only [encPs, e3, List.append_nil, List.length_append]; omega, b3, Byt.nil⟩

/-- whatever is read may be, and is written in no more bytes -/
theorem decF_any {s t : List Int} {f : Fr} (hb : Byt s) (h : decF s = .ok (f, t)) : faultF f = 0 ∧ (frT f).length + t.length ≤ s.length ∧ Byt t ∧ Byt f.data := by
  unfold decF at h
  cases h1 : rd s with
  | error e => rw [h1] at h; simp at h
  | ok p =>
    obtain ⟨k, u⟩ := p
    rw [h1] at h
    simp only at h
    by_cases h8 : k = 8
    · rw [if_pos h8] at h; simp at h
    rw [if_neg h8] at h
    cases hp : partsOf (if k = 14 ∨ k = 15 then 8 else k) with
    | none => rw [hp] at h; simp at h
    | some ps =>
      rw [hp] at h
      simp only at h
      cases h2 : decPs ps ⟨if k = 14 ∨ k = 15 then 8 else k, 0, 0, decide (k = 15), 0, [], []⟩ u with
      | error e => rw [h2] at h; simp at h
      | ok p =>
        obtain ⟨g, v⟩ := p
        rw [h2] at h
        simp only at h
        by_cases hf : faultF g = 0
        · rw [if_pos hf] at h
          simp only [Except.ok.injEq, Prod.mk.injEq] at h
          obtain ⟨rfl, rfl⟩ := h
          have r := rd_bd hb h1
          have l := decPs_len hp r.2.2.2 h2
          refine ⟨hf, ?_, l.2.2.2.1, l.2.2.2.2⟩
          have hm : mkF g = k := by
            unfold mkF
            rw [l.1, l.2.1]
            by_cases c : k = 14 ∨ k = 15
            · rw [if_pos c, if_pos rfl]
              rcases c with rfl | rfl <;> rfl
            · rw [if_neg c, if_neg h8]
          unfold frT
          rw [mark_enc, hm, l.1, hp, Option.getD_some, List.length_append]
          omega
        · rw [if_neg hf] at h; simp at h

/-- frames, one behind the other, up to so many (P4.5) -/
def decAll : Nat → List Int → Except Int (List Fr)
  | r, s =>
    if s = [] then .ok [] else
    match r with
    | 0 => .error 8
    | r + 1 =>
      match decF s with
      | .error e => .error e
      | .ok (f, t) =>
        match decAll r t with
        | .error e => .error e
        | .ok l => .ok (f :: l)
def frTs : List Fr → List Int
  | [] => []
  | f :: l => frT f ++ frTs l
theorem frTs_snoc : ∀ (l : List Fr) (f : Fr), frTs (l ++ [f]) = frTs l ++ frT f
  | [], f => by simp [frTs]
  | g :: l, f => by simp only [List.cons_append, frTs, frTs_snoc l f, List.append_assoc]
theorem decAll_back : ∀ (l : List Fr) (r : Nat), (∀ f ∈ l, faultF f = 0) → decAll r (frTs l) = if l.length ≤ r then .ok l else .error 8
  | [], r, _ => by unfold decAll; simp [frTs]
  | f :: l, 0, h => by
    have hp := frT_pos f (h f List.mem_cons_self)
    unfold decAll
    rw [if_neg (by intro e; have := congrArg List.length e; simp only [frTs, List.length_append, List.length_nil] at this; omega), if_neg (by simp)]
  | f :: l, r + 1, h => by
    have hp := frT_pos f (h f List.mem_cons_self)
    have ih := decAll_back l r fun g hg => h g (List.mem_cons_of_mem _ hg)
    unfold decAll
    rw [if_neg (by intro e; have := congrArg List.length e; simp only [frTs, List.length_append, List.length_nil] at this; omega)]
    simp only [frTs]
    rw [decF_back (h f List.mem_cons_self)]
    simp only
    rw [ih]
    by_cases hl : l.length ≤ r
    · rw [if_pos hl, if_pos (by simp only [List.length_cons]; omega)]
    · rw [if_neg hl, if_neg (by simp only [List.length_cons]; omega)]
end Go.Proofs.Ytjeocggocloigaa.P
/- What is not read has an error. Nothing of the program's. -/
namespace Go.Proofs.Ytjeocggocloigaa.P
set_option linter.unusedVariables false

theorem decT_ne : ∀ (k : Nat) (b : Int) (s : List Int) (e : Int), decT k b s = .error e → e ≠ 0
  | 0, b, s, e, h => by simp [decT] at h
  | k + 1, b, s, e, h => by
    simp only [decT] at h
    cases h1 : rd s with
    | error x => rw [h1] at h; simp at h; have := rd_err h1; omega
    | ok p =>
      obtain ⟨g, s1⟩ := p
      rw [h1] at h
      simp only at h
      cases h2 : rd s1 with
      | error x => rw [h2] at h; simp at h; have := rd_err h2; omega
      | ok p =>
        obtain ⟨n, s2⟩ := p
        rw [h2] at h
        simp only at h
        by_cases hn : b - g - 2 - n < 0
        · rw [if_pos hn] at h; simp at h; omega
        rw [if_neg hn] at h
        cases h3 : decT k (b - g - 2 - n) s2 with
        | error x => rw [h3] at h; simp at h; subst h; exact decT_ne k _ _ _ h3
        | ok p => obtain ⟨t, s3⟩ := p; rw [h3] at h; simp at h
theorem decRs_ne {s : List Int} {e : Int} (h : decRs s = .error e) : e ≠ 0 := by
  simp only [decRs] at h
  cases h1 : rd s with
  | error x => rw [h1] at h; simp at h; have := rd_err h1; omega
  | ok p =>
    obtain ⟨hi, s1⟩ := p
    rw [h1] at h
    simp only at h
    cases h2 : rd s1 with
    | error x => rw [h2] at h; simp at h; have := rd_err h2; omega
    | ok p =>
      obtain ⟨n, s2⟩ := p
      rw [h2] at h
      simp only at h
      by_cases h6 : 6 ≤ n
      · rw [if_pos h6] at h; simp at h; omega
      rw [if_neg h6] at h
      cases h3 : rd s2 with
      | error x => rw [h3] at h; simp at h; have := rd_err h3; omega
      | ok p =>
        obtain ⟨m, s3⟩ := p
        rw [h3] at h
        simp only at h
        by_cases hn : hi - m < 0
        · rw [if_pos hn] at h; simp at h; omega
        rw [if_neg hn] at h
        cases h4 : decT n.toNat (hi - m) s3 with
        | error x => rw [h4] at h; simp at h; subst h; exact decT_ne _ _ _ _ h4
        | ok p => obtain ⟨t, s4⟩ := p; rw [h4] at h; simp at h
theorem rd_set_ne {α : Type} {s : List Int} {e : Int} {F : Int → α} (h : (match rd s with | .error e => (.error e : Except Int (α × List Int)) | .ok (n, t) => .ok (F n, t)) = .error e) : e ≠ 0 := by
  cases h1 : rd s with
  | error x => rw [h1] at h; simp at h; have := rd_err h1; omega
  | ok p => obtain ⟨n, t⟩ := p; rw [h1] at h; simp at h
theorem decP_ne {f : Fr} {s : List Int} {c e : Int} (h : decP f s c = .error e) : e ≠ 0 := by
  by_cases e1 : c = 114
  · subst e1
    rw [decP_r] at h
    cases h1 : decRs s with
    | error x => rw [h1] at h; simp at h; subst h; exact decRs_ne h1
    | ok p => obtain ⟨l, t⟩ := p; rw [h1] at h; simp at h
  by_cases e2 : c = 105
  · subst e2; rw [decP_i] at h
    cases h1 : rd s with
    | error x => rw [h1] at h; simp at h; have := rd_err h1; omega
    | ok p => obtain ⟨n, t⟩ := p; rw [h1] at h; simp at h
  by_cases e3 : c = 111
  · subst e3; rw [decP_o] at h
    cases h1 : rd s with
    | error x => rw [h1] at h; simp at h; have := rd_err h1; omega
    | ok p => obtain ⟨n, t⟩ := p; rw [h1] at h; simp at h
  by_cases e4 : c = 99
  · subst e4; rw [decP_c] at h
    cases h1 : rd s with
    | error x => rw [h1] at h; simp at h; have := rd_err h1; omega
    | ok p => obtain ⟨n, t⟩ := p; rw [h1] at h; simp at h
  by_cases e5 : c = 119
  · subst e5; rw [decP_w] at h
    by_cases h8 : s.length < 8
    · rw [if_pos h8] at h; simp at h; omega
    · rw [if_neg h8] at h; simp at h
  by_cases e6 : c = 100
  · subst e6; rw [decP_d] at h
    cases h1 : rd s with
    | error x => rw [h1] at h; simp at h; have := rd_err h1; omega
    | ok p =>
      obtain ⟨n, t⟩ := p
      rw [h1] at h
      simp only at h
      by_cases hn : 120 < n
      · rw [if_pos hn] at h; simp at h; omega
      rw [if_neg hn] at h
      by_cases hl : (t.length : Int) < n
      · rw [if_pos hl] at h; simp at h; omega
      · rw [if_neg hl] at h; simp at h
  rw [decP_no f s e1 e2 e3 e4 e5 e6] at h
  simp at h
theorem decPs_ne : ∀ (cs : List Int) (f : Fr) (s : List Int) (e : Int), decPs cs f s = .error e → e ≠ 0
  | [], f, s, e, h => by simp [decPs] at h
  | c :: cs, f, s, e, h => by
    simp only [decPs] at h
    cases h1 : decP f s c with
    | error x => rw [h1] at h; simp at h; subst h; exact decP_ne h1
    | ok p => obtain ⟨g, t⟩ := p; rw [h1] at h; exact decPs_ne cs g t e h
theorem decF_ne {s : List Int} {e : Int} (h : decF s = .error e) : e ≠ 0 := by
  unfold decF at h
  cases h1 : rd s with
  | error x => rw [h1] at h; simp at h; have := rd_err h1; omega
  | ok p =>
    obtain ⟨k, t⟩ := p
    rw [h1] at h
    simp only at h
    by_cases h8 : k = 8
    · rw [if_pos h8] at h; simp at h; omega
    rw [if_neg h8] at h
    cases hp : partsOf (if k = 14 ∨ k = 15 then 8 else k) with
    | none => rw [hp] at h; simp at h; omega
    | some ps =>
      rw [hp] at h
      simp only at h
      cases h2 : decPs ps ⟨if k = 14 ∨ k = 15 then 8 else k, 0, 0, decide (k = 15), 0, [], []⟩ t with
      | error x => rw [h2] at h; simp at h; subst h; exact decPs_ne _ _ _ _ h2
      | ok p =>
        obtain ⟨g, v⟩ := p
        rw [h2] at h
        simp only at h
        by_cases hf : faultF g = 0
        · rw [if_pos hf] at h; simp at h
        · rw [if_neg hf] at h; simp at h; omega
theorem decF_nil : decF [] = .error 4 := rfl
end Go.Proofs.Ytjeocggocloigaa.P
/- An eye in plain words: what was wrong first, and what is left to read. Nothing of the program's. -/
namespace Go.Proofs.Ytjeocggocloigaa.P
set_option linter.unusedVariables false
open Go.RowKit

/-- a frame read, ahead of what Check says of it -/
def decG (s : List Int) : Except Int (Fr × List Int) :=
  match rd s with
  | .error e => .error e
  | .ok (k, t) =>
    if k = 8 then .error 2 else
    match partsOf (if k = 14 ∨ k = 15 then 8 else k) with
    | none => .error 2
    | some ps => decPs ps ⟨if k = 14 ∨ k = 15 then 8 else k, 0, 0, decide (k = 15), 0, [], []⟩ t
theorem decF_eq (s : List Int) : decF s = match decG s with | .error e => .error e | .ok (f, u) => if faultF f = 0 then .ok (f, u) else .error (faultF f) := by
  unfold decF decG
  cases rd s with
  | error e => rfl
  | ok p =>
    obtain ⟨k, t⟩ := p
    simp only
    by_cases h8 : k = 8
    · rw [if_pos h8, if_pos h8]
    rw [if_neg h8, if_neg h8]
    cases partsOf (if k = 14 ∨ k = 15 then 8 else k) with
    | none => rfl
    | some ps => rfl

/-- what was wrong first (0: nothing), and the bytes that are left -/
abbrev St := Int × List Int
def numS (σ : St) : Int × St := if σ.1 = 0 then (if decOk σ.2 then (decV σ.2, (0, σ.2.drop (kOf (σ.2.getD 0 0)).toNat)) else (0, (4, σ.2))) else (0, σ)
def refS (bad : Bool) (e : Int) (σ : St) : St := if bad = true ∧ σ.1 = 0 then (e, σ.2) else σ
def takeS (n : Int) (σ : St) : List Int × St := if (refS (decide ((σ.2.length : Int) < n)) 4 σ).1 = 0 then (σ.2.take n.toNat, (0, σ.2.drop n.toNat)) else ([], refS (decide ((σ.2.length : Int) < n)) 4 σ)
def dataS (σ : St) : List Int × St := takeS (numS σ).1 (refS (decide (120 < (numS σ).1)) 1 (numS σ).2)
def wordS (σ : St) : Int × St := (beFrom 0 (takeS 8 σ).1, (takeS 8 σ).2)
def toE {α : Type} (σ : St) (v : α) : Except Int (α × List Int) := if σ.1 = 0 then .ok (v, σ.2) else .error σ.1

theorem numS_good (s : List Int) : rd s = toE (numS (0, s)).2 (numS (0, s)).1 := by
  unfold rd numS toE
  by_cases h : decOk s
  · simp [h]
  · simp [h]
theorem numS_bad {σ : St} (h : σ.1 ≠ 0) : numS σ = (0, σ) := if_neg h
theorem refS_bad {σ : St} (h : σ.1 ≠ 0) (b : Bool) (e : Int) : refS b e σ = σ := if_neg fun c => h c.2
theorem takeS_bad {σ : St} (h : σ.1 ≠ 0) (n : Int) : takeS n σ = ([], σ) := by
  unfold takeS
  rw [refS_bad h, if_neg h]
theorem dataS_bad {σ : St} (h : σ.1 ≠ 0) : dataS σ = ([], σ) := by
  unfold dataS
  rw [numS_bad h, refS_bad h, takeS_bad h]
theorem wordS_bad {σ : St} (h : σ.1 ≠ 0) : wordS σ = (0, σ) := by
  unfold wordS
  rw [takeS_bad h]
  rfl
/-- a state of bytes: none longer than those that it came of -/
theorem numS_bd {σ : St} (hb : Byt σ.2) : 0 ≤ (numS σ).1 ∧ (numS σ).1 ≤ 4611686018427387903 ∧ Byt (numS σ).2.2 ∧ (numS σ).2.2.length ≤ σ.2.length := by
  unfold numS
  by_cases h : σ.1 = 0
  · rw [if_pos h]
    by_cases hd : decOk σ.2
    · rw [if_pos hd]
      have b := decV_bd σ.2 hb hd
      exact ⟨b.1, b.2.1, hb.drop _, by simp⟩
    · rw [if_neg hd]; exact ⟨by simp, by simp, hb, Nat.le_refl _⟩
  · rw [if_neg h]; exact ⟨by simp, by simp, hb, Nat.le_refl _⟩
theorem refS_left (b : Bool) (e : Int) (σ : St) : (refS b e σ).2 = σ.2 := by
  unfold refS
  split <;> rfl
theorem takeS_bd {σ : St} (hb : Byt σ.2) (n : Int) : Byt (takeS n σ).1 ∧ Byt (takeS n σ).2.2 ∧ (takeS n σ).1.length ≤ σ.2.length := by
  unfold takeS
  by_cases h : (refS (decide ((σ.2.length : Int) < n)) 4 σ).1 = 0
  · rw [if_pos h]; exact ⟨hb.take _, hb.drop _, by simp; omega⟩
  · rw [if_neg h]; exact ⟨Byt.nil, by rw [refS_left]; exact hb, by simp⟩

/-- parts read one behind the other, from a state -/
def decPsS (cs : List Int) (f : Fr) (σ : St) : Except Int (Fr × List Int) := if σ.1 = 0 then decPs cs f σ.2 else .error σ.1
theorem decPsS_nil (f : Fr) (σ : St) : decPsS [] f σ = toE σ f := rfl
theorem stepS {c : Int} {cs : List Int} {f f1 : Fr} {σ σ1 : St} (h : σ.1 = 0 → decP f σ.2 c = toE σ1 f1) (h' : σ.1 ≠ 0 → σ1 = σ) : decPsS (c :: cs) f σ = decPsS cs f1 σ1 := by
  unfold decPsS
  by_cases e : σ.1 = 0
  · rw [if_pos e]
    simp only [decPs]
    rw [h e]
    unfold toE
    by_cases e1 : σ1.1 = 0
    · rw [if_pos e1, if_pos e1]
    · rw [if_neg e1, if_neg e1]
  · rw [if_neg e, h' e, if_neg e]
theorem zero_pair {σ : St} (e : σ.1 = 0) : σ = (0, σ.2) := by
  obtain ⟨a, b⟩ := σ
  simp only at e
  rw [e]
theorem stepS_i {cs : List Int} {f : Fr} {σ σ1 : St} {n : Int} (h : numS σ = (n, σ1)) : decPsS (105 :: cs) f σ = decPsS cs { f with id := n } σ1 := by
  refine stepS (fun e => ?_) (fun e => by rw [numS_bad e] at h; exact (Prod.mk.inj h).2.symm)
  rw [zero_pair e] at h
  rw [decP_i, numS_good, h]
  unfold toE
  by_cases e1 : σ1.1 = 0 <;> simp [e1]
theorem stepS_o {cs : List Int} {f : Fr} {σ σ1 : St} {n : Int} (h : numS σ = (n, σ1)) : decPsS (111 :: cs) f σ = decPsS cs { f with off := n } σ1 := by
  refine stepS (fun e => ?_) (fun e => by rw [numS_bad e] at h; exact (Prod.mk.inj h).2.symm)
  rw [zero_pair e] at h
  rw [decP_o, numS_good, h]
  unfold toE
  by_cases e1 : σ1.1 = 0 <;> simp [e1]
theorem stepS_c {cs : List Int} {f : Fr} {σ σ1 : St} {n : Int} (h : numS σ = (n, σ1)) : decPsS (99 :: cs) f σ = decPsS cs { f with code := n } σ1 := by
  refine stepS (fun e => ?_) (fun e => by rw [numS_bad e] at h; exact (Prod.mk.inj h).2.symm)
  rw [zero_pair e] at h
  rw [decP_c, numS_good, h]
  unfold toE
  by_cases e1 : σ1.1 = 0 <;> simp [e1]
theorem stepS_w {cs : List Int} {f : Fr} {σ σ1 : St} {n : Int} (h : wordS σ = (n, σ1)) : decPsS (119 :: cs) f σ = decPsS cs { f with code := i64Of n } σ1 := by
  refine stepS (fun e => ?_) (fun e => by rw [wordS_bad e] at h; exact (Prod.mk.inj h).2.symm)
  rw [decP_w]
  obtain ⟨rfl, rfl⟩ := Prod.mk.inj h
  unfold takeS refS toE
  rw [zero_pair e]
  by_cases h8 : σ.2.length < 8
  · have d : decide ((σ.2.length : Int) < 8) = true := by simp; omega
    simp [h8, d]
  · have d : decide ((σ.2.length : Int) < 8) = false := by simp; omega
    simp [h8, d]
theorem stepS_d {cs : List Int} {f : Fr} {σ σ1 : St} {d : List Int} (h : dataS σ = (d, σ1)) : decPsS (100 :: cs) f σ = decPsS cs { f with data := d } σ1 := by
  refine stepS (fun e => ?_) (fun e => by rw [dataS_bad e] at h; exact (Prod.mk.inj h).2.symm)
  rw [decP_d, numS_good]
  rw [zero_pair e] at h
  unfold dataS at h
  generalize numS (0, σ.2) = N at *
  obtain ⟨n, e1, t⟩ := N
  unfold takeS refS at h
  unfold toE
  by_cases h1 : e1 = 0
  · subst h1
    by_cases h2 : 120 < n
    · simp [h2] at h ⊢
      rw [← h.2]; simp
    · by_cases h3 : (t.length : Int) < n
      · simp [h2, h3] at h ⊢
        rw [← h.2]; simp
      · simp [h2, h3] at h ⊢
        rw [← h.2, ← h.1]; simp
  · simp [h1] at h ⊢
    rw [← h.2]; simp [h1]
theorem stepS_f {cs : List Int} {f : Fr} {σ : St} : decPsS (102 :: cs) f σ = decPsS cs f σ := by
  refine stepS (fun e => ?_) (fun e => rfl)
  rw [decP_no _ _ (by decide) (by decide) (by decide) (by decide) (by decide) (by decide)]
  unfold toE
  rw [if_pos e]
theorem stepS_r {cs : List Int} {f : Fr} {s : List Int} {σ1 : St} {l : List (Int × Int)} (h : decRs s = toE σ1 l) : decPsS (114 :: cs) f (0, s) = decPsS cs { f with rs := l } σ1 := by
  refine stepS (fun e => ?_) (fun e => absurd rfl e)
  rw [decP_r]
  show (match decRs s with | .error e => _ | .ok (l, t) => _) = _
  rw [h]
  unfold toE
  by_cases e1 : σ1.1 = 0 <;> simp [e1]
end Go.Proofs.Ytjeocggocloigaa.P
/- Ranges told the highest first are a set told the lowest first. Nothing of the program's. -/
namespace Go.Proofs.Ytjeocggocloigaa.P
set_option linter.unusedVariables false

theorem lastHi_rev (t : List (Int × Int)) : lastHi (-2) t.reverse = (t.head?.map (·.2)).getD (-2) := by
  cases t with
  | nil => rfl
  | cons y t => rw [List.reverse_cons, lastHi_snoc]; rfl
theorem down_iff : ∀ (l : List (Int × Int)) (b : Int), downFrom b l ↔ okL l.reverse ∧ ∀ x, l.head? = some x → x.2 + 2 ≤ b
  | [], b => by simp [downFrom, okL, okFrom]
  | x :: t, b => by
    have ih := down_iff t x.1
    show (okR x ∧ x.2 + 2 ≤ b ∧ downFrom x.1 t) ↔ _
    rw [ih, List.reverse_cons]
    unfold okL
    rw [okFrom_snoc, lastHi_rev]
    constructor
    · rintro ⟨h1, h2, h3, h4⟩
      refine ⟨⟨h3, h1, ?_⟩, fun y hy => by simp at hy; subst hy; exact h2⟩
      cases t with
      | nil => have := h1.1; simp; omega
      | cons y t => have := h4 y rfl; simpa using this
    · rintro ⟨⟨h3, h1, h5⟩, h2⟩
      refine ⟨h1, h2 x rfl, h3, fun y hy => ?_⟩
      rw [hy] at h5
      simpa using h5
theorem downL_iff (l : List (Int × Int)) : downL l ↔ okL l.reverse := by
  unfold downL
  rw [down_iff]
  constructor
  · exact fun h => h.1
  · refine fun h => ⟨h, fun x hx => ?_⟩
    have hm : x ∈ l.reverse := List.mem_reverse.2 (List.mem_of_head? hx)
    have := (okFrom_all h hm).1.2.2
    omega
/-- one range more: read from the highest on -/
theorem down_step (l : List (Int × Int)) (k : Nat) (h : k < l.length) : downL (l.take (k + 1)) ↔ downL (l.take k) ∧ okR (l.getD k (0, 0)) ∧ (0 < k → (l.getD k (0, 0)).2 + 2 ≤ (l.getD (k - 1) (0, 0)).1) := by
  have key : ∀ (l : List (Int × Int)) (k : Nat) (b : Int), k < l.length → (downFrom b (l.take (k + 1)) ↔ downFrom b (l.take k) ∧ okR (l.getD k (0, 0)) ∧ (l.getD k (0, 0)).2 + 2 ≤ (if k = 0 then b else (l.getD (k - 1) (0, 0)).1)) := by
    intro l
    induction l with
    | nil => intro k b h; simp at h
    | cons x t ih =>
      intro k b h
      cases k with
      | zero => simp [downFrom]
      | succ k =>
        have := ih k x.1 (by simpa using h)
        rw [List.take_succ_cons, List.take_succ_cons]
        show (okR x ∧ x.2 + 2 ≤ b ∧ downFrom x.1 (t.take (k + 1))) ↔ (okR x ∧ x.2 + 2 ≤ b ∧ downFrom x.1 (t.take k)) ∧ _
        rw [this]
        have e1 : (x :: t).getD (k + 1) (0, 0) = t.getD k (0, 0) := rfl
        have e2 : (if k = 0 then x.1 else (t.getD (k - 1) (0, 0)).1) = (if k + 1 = 0 then b else ((x :: t).getD (k + 1 - 1) (0, 0)).1) := by
          rw [if_neg (by omega : ¬ k + 1 = 0)]
          cases k with
          | zero => rfl
          | succ k => rfl
        rw [e1, e2]
        simp only [and_assoc]
  unfold downL
  rw [key l k _ h]
  cases k with
  | zero =>
    simp only [if_true]
    constructor
    · rintro ⟨a, b, c⟩; exact ⟨a, b, fun h => absurd h (by omega)⟩
    · rintro ⟨a, b, c⟩; exact ⟨a, b, by have := b.2.2; omega⟩
  | succ k =>
    rw [if_neg (by omega)]
    constructor
    · rintro ⟨a, b, c⟩; exact ⟨a, b, fun _ => c⟩
    · rintro ⟨a, b, c⟩; exact ⟨a, b, c (by omega)⟩
theorem down_not {l : List (Int × Int)} {k : Nat} (h : ¬ downL (l.take k)) : ¬ downL l := by
  have key : ∀ (l : List (Int × Int)) (k : Nat) (b : Int), downFrom b l → downFrom b (l.take k) := by
    intro l
    induction l with
    | nil => intro k b h; simpa using h
    | cons x t ih =>
      intro k b h
      cases k with
      | zero => trivial
      | succ k => exact ⟨h.1, h.2.1, ih k _ h.2.2⟩
  exact fun h' => h (key l k _ h')
end Go.Proofs.Ytjeocggocloigaa.P
