/- The document's Check of a space, test by test: what its loops compute; isIn. -/
import Derived.Test.YtnccibaifffhhaaGrpSj
import Derived.Test.YtnccibaifffhhaaGrpC
import Derived.Test.YtnccibaifffhhaaGrpSf
import Derived.Deep.LoopGhost
namespace Go.Proofs.Ytnccibaifffhhaa
set_option linter.unusedVariables false
open Go.RowKit P

def allB (b : Bool) (f : Nat → Bool) : Nat → Bool
  | 0 => b
  | k + 1 => allB b f k && f k
theorem allB_iff (b : Bool) (f : Nat → Bool) (n : Nat) : allB b f n = true ↔ b = true ∧ ∀ i, i < n → f i = true := by
  induction n with
  | zero => simp [allB]
  | succ n ih =>
    simp only [allB, Bool.and_eq_true, ih]
    constructor
    · rintro ⟨⟨h1, h2⟩, h3⟩
      refine ⟨h1, fun i hi => ?_⟩
      rcases Nat.lt_or_ge i n with q | q
      · exact h2 i q
      · obtain rfl : i = n := by omega
        exact h3
    · rintro ⟨h1, h2⟩
      exact ⟨⟨h1, fun i hi => h2 i (by omega)⟩, h2 n (by omega)⟩
theorem rise_at (a : Int) (l : List Int) (e : Int) : riseF a l e ↔ ∀ i, i < l.length → l.getD i 0 < e ∧ (if i = 0 then a else l.getD (i - 1) 0) < l.getD i 0 := by
  induction l generalizing a with
  | nil => simp [riseF]
  | cons n l ih =>
    unfold riseF
    rw [ih]
    constructor
    · rintro ⟨h1, h2, h3⟩ i hi
      rcases i with _ | i
      · exact ⟨h2, h1⟩
      · have := h3 i (by simpa using hi)
        rcases i with _ | i
        · simpa using this
        · simpa using this
    · intro h
      refine ⟨(h 0 (by simp)).2, (h 0 (by simp)).1, fun i hi => ?_⟩
      have := h (i + 1) (by simpa using hi)
      rcases i with _ | i
      · simpa using this
      · simpa using this
def sent_ (s : Sp) (k : Nat) : Pcl := s.sent.getD k pcl0
/-- what is asked of packet k -/
def itB (s : Sp) (k : Nat) : Bool := upB2 (sent_ s k).num (s.next - 1) && (upB2 (sent_ s k).time 1099511627776 && (upB2 (sent_ s k).size 400 && (!decide ((sent_ s k).num ∈ s.skip) && (decide (k = 0) || decide ((sent_ s (k - 1)).num < (sent_ s k).num)))))
/-- what is asked of skipped number k -/
def skpB (s : Sp) (k : Nat) : Bool := upB2 (s.skip.getD k 0) (s.next - 1) && (decide (k = 0) || decide (s.skip.getD (k - 1) 0 < s.skip.getD k 0))
/-- what is asked first -/
def oB (s : Sp) : Bool := upB2 s.next 4611686018427387903 && (decide (-1 ≤ s.top) && (decide (s.top < s.next) && (decide ((s.sent.length : Int) ≤ 24) && (decide ((s.heard.length : Int) ≤ 6) && (decide ((s.skip.length : Int) ≤ 6) && (decide (ckV s.heard = 0) && !decide (s.top ∈ s.skip)))))))
def fltB (s : Sp) : Bool := allB (allB (oB s) (itB s) s.sent.length) (skpB s) s.skip.length
theorem upB2_iff (n m : Int) : upB2 n m = true ↔ 0 ≤ n ∧ n ≤ m := by unfold upB2; simp
theorem nums_getD (l : List Pcl) (i : Nat) : (nums l).getD i 0 = (l.getD i pcl0).num := by
  unfold nums
  rw [List.getD_eq_getElem?_getD, List.getD_eq_getElem?_getD, List.getElem?_map]
  cases l[i]? <;> rfl
theorem mem_getD {α : Type} {l : List α} {d x : α} (h : x ∈ l) : ∃ i, i < l.length ∧ l.getD i d = x := by
  obtain ⟨i, hi, e⟩ := List.mem_iff_getElem.1 h
  exact ⟨i, hi, by rw [List.getD_eq_getElem?_getD, List.getElem?_eq_getElem hi]; exact e⟩
theorem getD_mem' {α : Type} {l : List α} {d : α} {i : Nat} (h : i < l.length) : l.getD i d ∈ l := by
  rw [List.getD_eq_getElem?_getD, List.getElem?_eq_getElem h]
  exact List.getElem_mem h
theorem rise_nn {l : List Int} {e : Int} (h : ∀ i, i < l.length → (0 ≤ l.getD i 0 ∧ l.getD i 0 ≤ e - 1) ∧ (i = 0 ∨ l.getD (i - 1) 0 < l.getD i 0)) : riseF (-1) l e := by
  rw [rise_at]
  intro i hi
  obtain ⟨⟨h1, h2⟩, h3⟩ := h i hi
  refine ⟨by omega, ?_⟩
  split
  · omega
  · rcases h3 with h3 | h3
    · contradiction
    · exact h3
theorem rise_nn' {l : List Int} {e : Int} (h : riseF (-1) l e) : ∀ i, i < l.length → (0 ≤ l.getD i 0 ∧ l.getD i 0 ≤ e - 1) ∧ (i = 0 ∨ l.getD (i - 1) 0 < l.getD i 0) := by
  intro i hi
  have h1 := riseF_bd h (getD_mem' (d := 0) hi)
  have h2 := ((rise_at _ _ _).1 h i hi).2
  refine ⟨⟨by omega, by omega⟩, ?_⟩
  by_cases q : i = 0
  · exact .inl q
  · rw [if_neg q] at h2
    exact .inr h2
theorem oB_iff (s : Sp) : oB s = true ↔ (0 ≤ s.next ∧ s.next ≤ 4611686018427387903) ∧ (-1 ≤ s.top ∧ s.top < s.next) ∧ s.sent.length ≤ 24 ∧ s.heard.length ≤ 6 ∧ s.skip.length ≤ 6 ∧ okL s.heard ∧ s.top ∉ s.skip := by
  have hk : ckV s.heard = 0 ↔ okL s.heard := by unfold ckV; by_cases q : okL s.heard <;> simp [q]
  unfold oB
  simp only [Bool.and_eq_true, decide_eq_true_iff, upB2_iff, Bool.not_eq_true', decide_eq_false_iff_not, hk]
  constructor
  · rintro ⟨a1, a2, a3, a4, a5, a6, a7, a8⟩
    exact ⟨a1, ⟨a2, a3⟩, by omega, by omega, by omega, a7, a8⟩
  · rintro ⟨a1, ⟨a2, a3⟩, a4, a5, a6, a7, a8⟩
    exact ⟨a1, a2, a3, by omega, by omega, by omega, a7, a8⟩
theorem fltB_iff (s : Sp) : fltB s = true ↔ okSp s := by
  unfold fltB
  rw [allB_iff, allB_iff, oB_iff]
  unfold okSp
  have hs : (∀ i, i < s.skip.length → skpB s i = true) ↔ riseF (-1) s.skip s.next := by
    constructor
    · intro h
      refine rise_nn fun i hi => ?_
      have := h i hi
      unfold skpB at this
      simpa only [Bool.and_eq_true, Bool.or_eq_true, decide_eq_true_iff, upB2_iff] using this
    · intro h i hi
      have := rise_nn' h i hi
      unfold skpB
      simpa only [Bool.and_eq_true, Bool.or_eq_true, decide_eq_true_iff, upB2_iff] using this
  have hi : (∀ i, i < s.sent.length → itB s i = true) ↔ (∀ p ∈ s.sent, sentOk p) ∧ riseF (-1) (nums s.sent) s.next ∧ ∀ n ∈ nums s.sent, n ∉ s.skip := by
    have hln : (nums s.sent).length = s.sent.length := by unfold nums; rw [List.length_map]
    constructor
    · intro h
      have h' : ∀ i, i < s.sent.length → _ := fun i hi => by
        have := h i hi
        unfold itB at this
        simp only [Bool.and_eq_true, Bool.or_eq_true, decide_eq_true_iff, upB2_iff, Bool.not_eq_true', decide_eq_false_iff_not] at this
        exact this
      refine ⟨fun p hp => ?_, rise_nn fun i hi => ?_, fun n hn => ?_⟩
      · obtain ⟨i, hi, e⟩ := mem_getD (d := pcl0) hp
        have := h' i hi
        unfold sent_ at this
        rw [e] at this
        exact ⟨this.2.1, this.2.2.1⟩
      · rw [hln] at hi
        have := h' i hi
        rw [nums_getD, nums_getD]
        exact ⟨this.1, this.2.2.2.2⟩
      · obtain ⟨i, hi, e⟩ := mem_getD (d := 0) hn
        rw [hln] at hi
        rw [nums_getD] at e
        have := (h' i hi).2.2.2.1
        unfold sent_ at this
        rw [e] at this
        exact this
    · rintro ⟨h1, h2, h3⟩ i hi
      have k1 := h1 _ (getD_mem' (d := pcl0) hi)
      have k2 := rise_nn' h2 i (by rw [hln]; exact hi)
      have k3 := h3 _ (getD_mem' (d := 0) (show i < (nums s.sent).length by rw [hln]; exact hi))
      rw [nums_getD] at k2 k3
      rw [nums_getD] at k2
      unfold itB sent_
      simp only [Bool.and_eq_true, Bool.or_eq_true, decide_eq_true_iff, upB2_iff, Bool.not_eq_true', decide_eq_false_iff_not]
      exact ⟨k2.1, k1.1, k1.2, k3, k2.2⟩
  rw [hs, hi]
  constructor
  · rintro ⟨⟨⟨a1, a2, a3, a4, a5, a6, a7⟩, b1, b2, b3⟩, c⟩
    exact ⟨a1, a2, a3, b1, b2, a4, a6, a5, c, a7, b3⟩
  · rintro ⟨a1, a2, a3, b1, b2, a4, a6, a5, c, a7, b3⟩
    exact ⟨⟨⟨a1, a2, a3, a4, a5, a6, a7⟩, b1, b2, b3⟩, c⟩
theorem fltB_fault (s : Sp) : faultSp s = if fltB s then 0 else 9 := by
  unfold faultSp
  by_cases q : okSp s
  · rw [if_pos q, (fltB_iff s).2 q]; rfl
  · rw [if_neg q, show fltB s = false from by rw [← Bool.not_eq_true, fltB_iff]; exact q]; rfl
end Go.Proofs.Ytnccibaifffhhaa
