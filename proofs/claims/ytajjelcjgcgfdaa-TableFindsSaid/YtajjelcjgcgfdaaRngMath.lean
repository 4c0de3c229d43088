/- Sets of numbers, range by range, as lists of pairs: plain mathematics, nothing of the program's. -/
import Derived.Lib.Hide
namespace Go.Proofs.Ytajjelcjgcgfdaa.P
set_option linter.unusedVariables false

/-- a range that may be -/
def okR (r : Int × Int) : Prop := 0 ≤ r.1 ∧ r.1 ≤ r.2 ∧ r.2 ≤ 4611686018427387903
/-- a set that may be, its first range above 'a' and not just by 1 -/
def okFrom : Int → List (Int × Int) → Prop
  | _, [] => True
  | a, x :: l => okR x ∧ a + 2 ≤ x.1 ∧ okFrom x.2 l
/-- a set that may be -/
def okL (l : List (Int × Int)) : Prop := okFrom (-2) l
/-- a number is in a range -/
def inR (r : Int × Int) (n : Int) : Prop := r.1 ≤ n ∧ n ≤ r.2
/-- a number is in a set -/
def mem : List (Int × Int) → Int → Prop
  | [], _ => False
  | x :: l, n => inR x n ∨ mem l n

instance (r : Int × Int) : Decidable (okR r) := by unfold okR; infer_instance
instance (r : Int × Int) (n : Int) : Decidable (inR r n) := by unfold inR; infer_instance
instance okFrom_dec : (a : Int) → (l : List (Int × Int)) → Decidable (okFrom a l)
  | _, [] => .isTrue trivial
  | a, x :: l => by unfold okFrom; have := okFrom_dec x.2 l; infer_instance
instance (l : List (Int × Int)) : Decidable (okL l) := okFrom_dec _ _
instance mem_dec : (l : List (Int × Int)) → (n : Int) → Decidable (mem l n)
  | [], _ => .isFalse id
  | x :: l, n => by unfold mem; have := mem_dec l n; infer_instance

theorem okFrom_mono {a b : Int} {l : List (Int × Int)} (h : okFrom a l) (hb : b ≤ a) : okFrom b l := by
  cases l with
  | nil => trivial
  | cons x l => exact ⟨h.1, by have := h.2.1; omega, h.2.2⟩
theorem mem_above {a n : Int} {l : List (Int × Int)} (h : okFrom a l) (hm : mem l n) : a + 2 ≤ n := by
  induction l generalizing a with
  | nil => exact hm.elim
  | cons x l ih =>
    obtain ⟨h1, h2, h3⟩ := h
    have := h1.2.1
    rcases hm with h | h
    · have := h.1; omega
    · have := ih h3 h; omega
theorem mem_max {a n : Int} {l : List (Int × Int)} (h : okFrom a l) (hm : mem l n) : n ≤ 4611686018427387903 := by
  induction l generalizing a with
  | nil => exact hm.elim
  | cons x l ih =>
    rcases hm with k | k
    · have := h.1.2.2; have := k.2; omega
    · exact ih h.2.2 k
theorem mem_app (l m : List (Int × Int)) (n : Int) : mem (l ++ m) n ↔ mem l n ∨ mem m n := by
  induction l with
  | nil => simp [mem]
  | cons x l ih => simp [mem, ih, or_assoc]
theorem mem_of {l : List (Int × Int)} {x : Int × Int} (h : x ∈ l) {n : Int} (hn : inR x n) : mem l n := by
  induction l with
  | nil => cases h
  | cons y l ih =>
    rcases List.mem_cons.1 h with rfl | h
    · exact .inl hn
    · exact .inr (ih h)
theorem mem_iff {l : List (Int × Int)} {n : Int} : mem l n ↔ ∃ x ∈ l, inR x n := by
  induction l with
  | nil => simp [mem]
  | cons y l ih => simp [mem, ih]
theorem okFrom_all {a : Int} {l : List (Int × Int)} (h : okFrom a l) {x : Int × Int} (hx : x ∈ l) : okR x ∧ a + 2 ≤ x.1 := by
  induction l generalizing a with
  | nil => cases hx
  | cons y l ih =>
    obtain ⟨h1, h2, h3⟩ := h
    have := h1.2.1
    rcases List.mem_cons.1 hx with rfl | hx
    · exact ⟨h1, h2⟩
    · have := ih h3 hx; exact ⟨this.1, by omega⟩

/-- A SET HAS ONE FORM -/
theorem ok_ext : ∀ {l m : List (Int × Int)} {a b : Int}, okFrom a l → okFrom b m → (∀ n, mem l n ↔ mem m n) → l = m
  | [], [], _, _, _, _, _ => rfl
  | [], y :: m, _, _, _, hm, h => ((h y.1).2 (.inl ⟨Int.le_refl _, hm.1.2.1⟩)).elim
  | x :: l, [], _, _, hl, _, h => ((h x.1).1 (.inl ⟨Int.le_refl _, hl.1.2.1⟩)).elim
  | x :: l, y :: m, a, b, hl, hm, h => by
    obtain ⟨x1, x2, x3⟩ := hl
    obtain ⟨y1, y2, y3⟩ := hm
    have xl := x1.2.1
    have yl := y1.2.1
    have lo : ∀ n, mem (x :: l) n → x.1 ≤ n := fun n hn => by
      rcases hn with k | k
      · exact k.1
      · have := mem_above x3 k; omega
    have lo' : ∀ n, mem (y :: m) n → y.1 ≤ n := fun n hn => by
      rcases hn with k | k
      · exact k.1
      · have := mem_above y3 k; omega
    have e1 : x.1 = y.1 := by
      have p := lo' _ ((h x.1).1 (.inl ⟨Int.le_refl _, xl⟩))
      have q := lo _ ((h y.1).2 (.inl ⟨Int.le_refl _, yl⟩))
      omega
    have e2 : x.2 = y.2 := by
      rcases Int.lt_trichotomy x.2 y.2 with c | c | c
      · exfalso
        rcases (h (x.2 + 1)).2 (.inl ⟨by omega, by omega⟩) with k | k
        · have := k.2; omega
        · have := mem_above x3 k; omega
      · exact c
      · exfalso
        rcases (h (y.2 + 1)).1 (.inl ⟨by omega, by omega⟩) with k | k
        · have := k.2; omega
        · have := mem_above y3 k; omega
    have e : x = y := Prod.ext e1 e2
    subst e
    rw [ok_ext x3 y3 fun n => ⟨fun k => by
      rcases (h n).1 (.inr k) with j | j
      · have := mem_above x3 k; have := j.2; omega
      · exact j, fun k => by
      rcases (h n).2 (.inr k) with j | j
      · have := mem_above y3 k; have := j.2; omega
      · exact j⟩]

/-- the highest number of a list's last range -/
def lastHi (a : Int) (l : List (Int × Int)) : Int := l.foldl (fun _ x => x.2) a
theorem lastHi_snoc (a : Int) (l : List (Int × Int)) (x : Int × Int) : lastHi a (l ++ [x]) = x.2 := by simp [lastHi]
theorem okFrom_app {a : Int} {l m : List (Int × Int)} : okFrom a (l ++ m) ↔ okFrom a l ∧ okFrom (lastHi a l) m := by
  induction l generalizing a with
  | nil => simp [okFrom, lastHi]
  | cons x l ih =>
    simp only [List.cons_append, okFrom]
    rw [ih]
    simp [lastHi, and_assoc]
theorem okFrom_snoc {a : Int} {l : List (Int × Int)} {x : Int × Int} : okFrom a (l ++ [x]) ↔ okFrom a l ∧ okR x ∧ lastHi a l + 2 ≤ x.1 := by
  rw [okFrom_app]; simp [okFrom]
theorem takeR_snoc (l : List (Int × Int)) (k : Nat) (h : k < l.length) : l.take (k + 1) = l.take k ++ [l.getD k (0, 0)] := by
  rw [List.take_succ_eq_append_getElem h, List.getD_eq_getElem?_getD, List.getElem?_eq_getElem h]; rfl
theorem dropR_cons (l : List (Int × Int)) (k : Nat) (h : k < l.length) : l.drop k = l.getD k (0, 0) :: l.drop (k + 1) := by
  rw [List.drop_eq_getElem_cons h, List.getD_eq_getElem?_getD, List.getElem?_eq_getElem h]; rfl
theorem getR_mem (l : List (Int × Int)) (k : Nat) (h : k < l.length) : l.getD k (0, 0) ∈ l := by
  rw [List.getD_eq_getElem?_getD, List.getElem?_eq_getElem h]; exact List.getElem_mem h
theorem lastHi_take (a : Int) (l : List (Int × Int)) (k : Nat) (h : k < l.length) : lastHi a (l.take (k + 1)) = (l.getD k (0, 0)).2 := by
  rw [takeR_snoc l k h, lastHi_snoc]
theorem okFrom_take {a : Int} {l : List (Int × Int)} (h : okFrom a l) (k : Nat) : okFrom a (l.take k) := by
  rw [← List.take_append_drop k l] at h
  exact (okFrom_app.1 h).1
theorem okFrom_drop {a : Int} {l : List (Int × Int)} (h : okFrom a l) (ha : -2 ≤ a) (k : Nat) : okFrom (-2) (l.drop k) := by
  induction k generalizing a l with
  | zero => exact okFrom_mono h ha
  | succ k ih =>
    cases l with
    | nil => trivial
    | cons x l => exact ih h.2.2 (by have := h.1.1; have := h.1.2.1; omega)
theorem ok_step (l : List (Int × Int)) (k : Nat) (h : k < l.length) :
    okL (l.take (k + 1)) ↔ okL (l.take k) ∧ okR (l.getD k (0, 0)) ∧ (0 < k → (l.getD (k - 1) (0, 0)).2 + 2 ≤ (l.getD k (0, 0)).1) := by
  unfold okL
  rw [takeR_snoc l k h, okFrom_snoc]
  refine and_congr_right fun _ => and_congr_right fun hr => ?_
  cases k with
  | zero => exact ⟨fun _ h => absurd h (by omega), fun _ => by simp only [List.take_zero, lastHi, List.foldl_nil]; have := hr.1; omega⟩
  | succ k => rw [lastHi_take _ l k (by omega)]; simp
theorem ok_of_take {l : List (Int × Int)} (h : okL l) (k : Nat) : okL (l.take k) := okFrom_take h k
theorem ok_not {l : List (Int × Int)} {k : Nat} (h : ¬ okL (l.take k)) : ¬ okL l := fun g => h (okFrom_take g k)
theorem ok_get {l : List (Int × Int)} (h : okL l) (k : Nat) (hk : k < l.length) : okR (l.getD k (0, 0)) := (okFrom_all h (getR_mem l k hk)).1

/-- some numbers from lo to hi, if there are any -/
def sm (lo hi : Int) : List (Int × Int) := if lo ≤ hi then [(lo, hi)] else []
theorem mem_sm (lo hi n : Int) : mem (sm lo hi) n ↔ lo ≤ n ∧ n ≤ hi := by
  unfold sm; split <;> simp [mem, inR] <;> omega
theorem ok_sm {a lo hi : Int} {l : List (Int × Int)} (h0 : 0 ≤ lo) (h1 : hi ≤ 4611686018427387903) (ha : a + 2 ≤ lo) (hl : okFrom (max a (if lo ≤ hi then hi else a)) l) : okFrom a (sm lo hi ++ l) := by
  unfold sm
  split
  · rename_i h; rw [if_pos h] at hl; exact ⟨⟨h0, h, h1⟩, ha, okFrom_mono hl (by omega)⟩
  · rename_i h; rw [if_neg h] at hl; exact okFrom_mono hl (by omega)
theorem sm_len (lo hi : Int) : (sm lo hi).length ≤ 1 := by unfold sm; split <;> simp

/-- a range and those of a set that overlap it or lie beside it, from its first one on -/
def absR : Int × Int → List (Int × Int) → List (Int × Int)
  | r, [] => [r]
  | r, x :: l => if x.1 ≤ r.2 + 1 then absR (min r.1 x.1, max r.2 x.2) l else r :: x :: l
/-- a set with a range, too -/
def insR (r : Int × Int) : List (Int × Int) → List (Int × Int)
  | [] => [r]
  | x :: l => if x.2 + 1 < r.1 then x :: insR r l else absR r (x :: l)

theorem abs_ok : ∀ {l : List (Int × Int)} {a : Int} {r : Int × Int}, okFrom a l → okR r → a + 2 ≤ r.1 → (∀ x ∈ l.head?, r.1 ≤ x.2 + 1) → okFrom a (absR r l) ∧ ∀ n, mem (absR r l) n ↔ inR r n ∨ mem l n
  | [], a, r, _, hr, ha, _ => ⟨⟨hr, ha, trivial⟩, fun n => Iff.rfl⟩
  | x :: l, a, r, hl, hr, ha, hx => by
    obtain ⟨x1, x2, x3⟩ := hl
    have hx := hx x rfl
    have g1 := x1.1
    have g2 := x1.2.1
    have g3 := x1.2.2
    have r1 := hr.1
    have r2 := hr.2.1
    have r3 := hr.2.2
    unfold absR
    split
    · rename_i h
      have H := abs_ok (l := l) (a := a) (r := (min r.1 x.1, max r.2 x.2)) (okFrom_mono x3 (by omega)) ⟨by simp only; omega, by simp only; omega, by simp only; omega⟩ (by simp only; omega)
        (fun y hy => by
          cases l with
          | nil => simp at hy
          | cons z l => simp at hy; subst hy; have := x3.2.1; have := x3.1.2.1; simp only; omega)
      refine ⟨H.1, fun n => ?_⟩
      rw [H.2 n]
      simp only [inR, mem]
      by_cases hm : mem l n
      · simp [hm]
      · simp only [hm, or_false]
        omega
    · rename_i h
      exact ⟨⟨hr, ha, x1, by omega, x3⟩, fun n => Iff.rfl⟩
theorem ins_ok : ∀ {l : List (Int × Int)} {a : Int} {r : Int × Int}, okFrom a l → okR r → a + 2 ≤ r.1 → okFrom a (insR r l) ∧ ∀ n, mem (insR r l) n ↔ inR r n ∨ mem l n
  | [], a, r, _, hr, ha => ⟨⟨hr, ha, trivial⟩, fun n => Iff.rfl⟩
  | x :: l, a, r, hl, hr, ha => by
    unfold insR
    split
    · rename_i h
      have H := ins_ok (l := l) (a := x.2) (r := r) hl.2.2 hr (by omega)
      refine ⟨⟨hl.1, hl.2.1, H.1⟩, fun n => ?_⟩
      simp only [mem]
      rw [H.2 n]
      exact or_left_comm
    · rename_i h
      exact abs_ok hl hr ha fun y hy => by simp at hy; subst hy; omega
theorem insL_ok {l : List (Int × Int)} {r : Int × Int} (h : okL l) (hr : okR r) : okL (insR r l) ∧ ∀ n, mem (insR r l) n ↔ inR r n ∨ mem l n :=
  ins_ok h hr (by have := hr.1; omega)
theorem abs_len : ∀ (r : Int × Int) (l : List (Int × Int)), (absR r l).length ≤ l.length + 1
  | r, [] => by simp [absR]
  | r, x :: l => by
    unfold absR
    split
    · have := abs_len (min r.1 x.1, max r.2 x.2) l; simp only [List.length_cons]; omega
    · simp
theorem ins_len (r : Int × Int) : ∀ (l : List (Int × Int)), (insR r l).length ≤ l.length + 1
  | [] => by simp [insR]
  | x :: l => by
    unfold insR
    split
    · have := ins_len r l; simp only [List.length_cons]; omega
    · exact abs_len r (x :: l)
/-- where the walk along a set stands: behind those that lie ahead of the range -/
theorem ins_skip (r : Int × Int) (l : List (Int × Int)) (k : Nat) (h : k < l.length) (hk : (l.getD k (0, 0)).2 + 1 < r.1) : l.take k ++ insR r (l.drop k) = l.take (k + 1) ++ insR r (l.drop (k + 1)) := by
  rw [dropR_cons l k h, takeR_snoc l k h, insR, if_pos hk]
  simp
theorem ins_stop (r : Int × Int) (l : List (Int × Int)) (k : Nat) (hk : k < l.length → ¬ (l.getD k (0, 0)).2 + 1 < r.1) : insR r (l.drop k) = absR r (l.drop k) := by
  rcases Nat.lt_or_ge k l.length with h | h
  · rw [dropR_cons l k h, insR, if_neg (hk h)]
  · rw [List.drop_eq_nil_of_le h]; rfl
theorem abs_step (r : Int × Int) (l : List (Int × Int)) (k : Nat) (h : k < l.length) (hk : (l.getD k (0, 0)).1 ≤ r.2 + 1) : absR r (l.drop k) = absR (min r.1 (l.getD k (0, 0)).1, max r.2 (l.getD k (0, 0)).2) (l.drop (k + 1)) := by
  rw [dropR_cons l k h, absR, if_pos hk]
theorem abs_stop (r : Int × Int) (l : List (Int × Int)) (k : Nat) (hk : k < l.length → ¬ (l.getD k (0, 0)).1 ≤ r.2 + 1) : absR r (l.drop k) = r :: l.drop k := by
  rcases Nat.lt_or_ge k l.length with h | h
  · rw [dropR_cons l k h, absR, if_neg (hk h)]
  · rw [List.drop_eq_nil_of_le h]; rfl

/-- a range without another one -/
def cutR (x r : Int × Int) : List (Int × Int) := sm x.1 (min x.2 (r.1 - 1)) ++ sm (max x.1 (r.2 + 1)) x.2
/-- a set without a range -/
def cutL (r : Int × Int) (l : List (Int × Int)) : List (Int × Int) := l.flatMap fun x => cutR x r
theorem cut_ok {r : Int × Int} (hr : okR r) : ∀ {l : List (Int × Int)} {a : Int}, okFrom a l → okFrom a (cutL r l) ∧ ∀ n, mem (cutL r l) n ↔ mem l n ∧ ¬ inR r n
  | [], a, _ => ⟨trivial, fun n => by simp [cutL, mem]⟩
  | x :: l, a, hl => by
    obtain ⟨x1, x2, x3⟩ := hl
    have H := cut_ok hr (l := l) (a := x.2) x3
    have g1 := x1.1
    have g2 := x1.2.1
    have g3 := x1.2.2
    have r1 := hr.1
    have r2 := hr.2.1
    have r3 := hr.2.2
    have e : cutL r (x :: l) = sm x.1 (min x.2 (r.1 - 1)) ++ (sm (max x.1 (r.2 + 1)) x.2 ++ cutL r l) := by simp [cutL, cutR]
    rw [e]
    refine ⟨ok_sm (by omega) (by omega) (by omega) (ok_sm (by omega) (by omega) (by split <;> omega) (okFrom_mono H.1 (by split <;> split <;> omega))), fun n => ?_⟩
    rw [mem_app, mem_app, H.2 n, mem_sm, mem_sm]
    simp only [mem, inR]
    by_cases hm : mem l n
    · have := mem_above x3 hm
      simp only [hm, true_and, or_true]
      omega
    · simp only [hm, false_and, or_false]
      omega
theorem cutL_ok {l : List (Int × Int)} {r : Int × Int} (h : okL l) (hr : okR r) : okL (cutL r l) ∧ ∀ n, mem (cutL r l) n ↔ mem l n ∧ ¬ inR r n := cut_ok hr h
theorem cutR_len (x r : Int × Int) : (cutR x r).length ≤ 2 := by
  have := sm_len x.1 (min x.2 (r.1 - 1)); have := sm_len (max x.1 (r.2 + 1)) x.2
  simp only [cutR, List.length_append]; omega
theorem cut_len_past {r : Int × Int} (hr : okR r) : ∀ {l : List (Int × Int)} {a : Int}, okFrom a l → r.2 ≤ a + 1 → (cutL r l).length ≤ l.length
  | [], _, _, _ => by simp [cutL]
  | x :: l, a, hl, ha => by
    have d := hl.2.1
    have b := hl.1.2.1
    have r2 := hr.2.1
    have H := cut_len_past hr hl.2.2 (by omega)
    have e : cutL r (x :: l) = cutR x r ++ cutL r l := by simp [cutL]
    rw [e, List.length_append, List.length_cons]
    have c : (cutR x r).length ≤ 1 := by
      unfold cutR
      rw [show sm x.1 (min x.2 (r.1 - 1)) = [] from if_neg (by omega)]
      exact sm_len _ _
    omega
theorem cut_len {r : Int × Int} (hr : okR r) : ∀ {l : List (Int × Int)} {a : Int}, okFrom a l → (cutL r l).length ≤ l.length + 1
  | [], _, _ => by simp [cutL]
  | x :: l, a, hl => by
    have e : cutL r (x :: l) = cutR x r ++ cutL r l := by simp [cutL]
    have r2 := hr.2.1
    rw [e, List.length_append, List.length_cons]
    by_cases h : x.2 ≤ r.2
    · have c : (cutR x r).length ≤ 1 := by
        unfold cutR
        rw [show sm (max x.1 (r.2 + 1)) x.2 = [] from if_neg (by omega)]
        simp only [List.append_nil]; exact sm_len _ _
      have := cut_len hr hl.2.2
      omega
    · have := cut_len_past hr hl.2.2 (by omega)
      have := cutR_len x r
      omega
theorem cutL_snoc (r : Int × Int) (l : List (Int × Int)) (k : Nat) (h : k < l.length) : cutL r (l.take (k + 1)) = cutL r (l.take k) ++ sm (l.getD k (0, 0)).1 (min (l.getD k (0, 0)).2 (r.1 - 1)) ++ sm (max (l.getD k (0, 0)).1 (r.2 + 1)) (l.getD k (0, 0)).2 := by
  rw [takeR_snoc l k h]; simp [cutL, cutR]

/-- what of the numbers from 'next' to 'hi' is not in a set -/
def holesF (hi : Int) : Int → List (Int × Int) → List (Int × Int)
  | next, [] => sm next hi
  | next, x :: l => sm next (min (x.1 - 1) hi) ++ holesF hi (max next (x.2 + 1)) l
theorem holes_ok {hi : Int} (hh : hi ≤ 4611686018427387903) : ∀ {l : List (Int × Int)} {a b next : Int}, okFrom a l → 0 ≤ next → b + 2 ≤ next → okFrom b (holesF hi next l) ∧ ∀ n, mem (holesF hi next l) n ↔ (next ≤ n ∧ n ≤ hi) ∧ ¬ mem l n
  | [], a, b, next, _, h0, hb => ⟨by have := ok_sm (l := []) h0 hh hb trivial; simpa [holesF] using this, fun n => by simp [holesF, mem_sm, mem]⟩
  | x :: l, a, b, next, hl, h0, hb => by
    obtain ⟨x1, x2, x3⟩ := hl
    have g1 := x1.1
    have g2 := x1.2.1
    have g3 := x1.2.2
    have H := holes_ok hh (l := l) (a := x.2) (b := max b (if next ≤ min (x.1 - 1) hi then min (x.1 - 1) hi else b)) (next := max next (x.2 + 1)) x3 (by omega) (by split <;> omega)
    refine ⟨ok_sm h0 (by omega) hb H.1, fun n => ?_⟩
    simp only [holesF]
    rw [mem_app, H.2 n, mem_sm]
    simp only [mem, inR]
    by_cases hm : mem l n
    · have := mem_above x3 hm
      simp only [hm, not_true, and_false, or_false, or_true, iff_false]
      omega
    · simp only [hm, not_false_eq_true, and_true, or_false]
      omega
theorem holesL_ok {l : List (Int × Int)} {r : Int × Int} (h : okL l) (hr : okR r) : okL (holesF r.2 r.1 l) ∧ ∀ n, mem (holesF r.2 r.1 l) n ↔ inR r n ∧ ¬ mem l n :=
  holes_ok hr.2.2 h hr.1 (by have := hr.1; omega)
theorem holes_len (hi : Int) : ∀ (l : List (Int × Int)) (next : Int), (holesF hi next l).length ≤ l.length + 1
  | [], next => by simp only [holesF]; have := sm_len next hi; simpa using this
  | x :: l, next => by
    simp only [holesF, List.length_append, List.length_cons]
    have := holes_len hi l (max next (x.2 + 1)); have := sm_len next (min (x.1 - 1) hi); omega
theorem holes_step (hi next : Int) (l : List (Int × Int)) (k : Nat) (h : k < l.length) :
    holesF hi next (l.drop k) = sm next (min ((l.getD k (0, 0)).1 - 1) hi) ++ holesF hi (max next ((l.getD k (0, 0)).2 + 1)) (l.drop (k + 1)) := by
  rw [dropR_cons l k h]; rfl
end Go.Proofs.Ytajjelcjgcgfdaa.P
