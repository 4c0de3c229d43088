/- Several texts in one. -/
import Derived.Test.YtpfahdogedchpaaGrpM
import Derived.Laws.StructEq
import Derived.Lib.SlBytesConst
import Derived.Test.YtpfahdogedchpaaGrpC
/- The document's answers on tables: TableFound. -/
namespace Go.Proofs.Ytpfahdogedchpaa.P
set_option linter.unusedVariables false
theorem lastAt_snoc (p : Fld → Bool) (x : Fld) : ∀ l : List Fld, lastAt p (l ++ [x]) = if p x then some l.length else lastAt p l
  | [] => by
    show (match lastAt p [] with | some i => some (i + 1) | none => if p x then some 0 else none) = _
    simp [lastAt]
  | y :: l => by
    have h := lastAt_snoc p x l
    show (match lastAt p (l ++ [x]) with | some i => some (i + 1) | none => if p y then some 0 else none) = _
    rw [h]
    by_cases q : p x
    · simp [q]
    · simp only [q]; rfl
theorem lastAt_lt (p : Fld → Bool) : ∀ {l : List Fld} {i : Nat}, lastAt p l = some i → i < l.length ∧ p (l.getD i fd0) = true
  | [], i, h => by cases h
  | y :: l, i, h => by
    have e : lastAt p (y :: l) = (match lastAt p l with | some i => some (i + 1) | none => if p y then some 0 else none) := rfl
    rw [e] at h
    cases q : lastAt p l with
    | some j =>
      rw [q] at h
      simp only [Option.some.injEq] at h
      subst h
      have := lastAt_lt p q
      exact ⟨by rw [List.length_cons]; omega, by rw [List.getD_cons_succ]; exact this.2⟩
    | none =>
      rw [q] at h
      simp only at h
      by_cases k : p y
      · rw [if_pos k] at h
        cases h
        exact ⟨by rw [List.length_cons]; omega, k⟩
      · rw [if_neg k] at h; cases h
theorem lastAt_none {p : Fld → Bool} : ∀ {l : List Fld}, lastAt p l = none → ∀ x ∈ l, p x = false
  | [], h, x, hx => by cases hx
  | y :: l, h, x, hx => by
    have e : lastAt p (y :: l) = (match lastAt p l with | some i => some (i + 1) | none => if p y then some 0 else none) := rfl
    rw [e] at h
    cases q : lastAt p l with
    | some j => rw [q] at h; cases h
    | none =>
      rw [q] at h
      simp only at h
      by_cases k : p y
      · rw [if_pos k] at h; cases h
      · rcases List.mem_cons.1 hx with rfl | hx
        · simpa using k
        · exact lastAt_none q x hx
/-- a place as the document's number -/
def fpos (put n : Int) (o : Option Nat) : Int := match o with
  | some j => put - n + j
  | none => -1
theorem lastAt_take {p : Fld → Bool} {l : List Fld} {i : Nat} (h : i < l.length) : lastAt p (l.take (i + 1)) = if p (l.getD i fd0) then some i else lastAt p (l.take i) := by
  rw [List.take_succ_eq_append_getElem h, lastAt_snoc, List.getD_eq_getElem?_getD, List.getElem?_eq_getElem h, List.length_take, Nat.min_eq_left (by omega)]
  rfl
end Go.Proofs.Ytpfahdogedchpaa.P
namespace Go.Proofs.Ytpfahdogedchpaa
set_option linter.unusedVariables false
open Go.RowKit P

theorem fld_iff {y f : Fld} : y = f ↔ y.name = f.name ∧ y.val = f.val := by
  constructor
  · rintro rfl; exact ⟨rfl, rfl⟩
  · rintro ⟨h1, h2⟩; cases y; cases f; simp only at h1 h2; rw [h1, h2]
theorem fl_inj {xs ys : List Int} (hx : Byt xs) (hy : Byt ys) (h : strOfNums xs = strOfNums ys) : xs = ys := by
  have hl : xs.length = ys.length := by have := congrArg ByteArray.size h; rwa [strOfNums_size, strOfNums_size] at this
  refine List.ext_getElem hl fun j h1 h2 => ?_
  have g1 := str_get hx j (by rw [strOfNums_size]; exact h1)
  have g2 := str_get hy j (by rw [strOfNums_size]; exact h2)
  have e : xs.getD j 0 = ys.getD j 0 := by
    rw [← g1, ← g2]
    congr 2
    simp only [h]
  rwa [List.getD_eq_getElem?_getD, List.getD_eq_getElem?_getD, List.getElem?_eq_getElem h1, List.getElem?_eq_getElem h2] at e
theorem fl_eqB {xs ys : List Int} (hx : Byt xs) (hy : Byt ys) : ((strOfNums xs).toList == (strOfNums ys).toList) = decide (xs = ys) := by
  by_cases h : xs = ys
  · subst h; simp
  · rw [decide_eq_false h]
    refine beq_eq_false_iff_ne.2 fun e => h (fl_inj hx hy ?_)
    rw [Lib.toList_data, Lib.toList_data] at e
    exact ByteArray.ext (Array.toList_inj.1 e)
end Go.Proofs.Ytpfahdogedchpaa
/- The document's answers on tables: TableResized. -/
namespace Go.Proofs.Ytpfahdogedchpaa
set_option linter.unusedVariables false
open Go.RowKit P

theorem bk3_blk {w : World} {b : Nat} {a0 a1 a2 : Value} {T : TypeId} (h : w.heap[b]? = some (.cells #[a0, a1, a2] T (0, 0))) (v0 v1 v2 : Value) :
    (((w.setCell ⟨b, 0, none⟩ v0).setCell ⟨b, 1, none⟩ v1).setCell ⟨b, 2, none⟩ v2).heap[b]? = some (.cells #[v0, v1, v2] T (0, 0)) ∧ w.grownBy (((w.setCell ⟨b, 0, none⟩ v0).setCell ⟨b, 1, none⟩ v1).setCell ⟨b, 2, none⟩ v2) (some b) := by
  have h0 : (w.setCell ⟨b, 0, none⟩ v0).heap[b]? = some (.cells #[v0, a1, a2] T (0, 0)) := by simpa using bk_set h 0 v0
  have h1 : ((w.setCell ⟨b, 0, none⟩ v0).setCell ⟨b, 1, none⟩ v1).heap[b]? = some (.cells #[v0, v1, a2] T (0, 0)) := by simpa using bk_set h0 1 v1
  exact ⟨by simpa using bk_set h1 2 v2, gr_trans (gr_trans (gr_set _ b 0 v0) (gr_set _ b 1 v1)) (gr_set _ b 2 v2)⟩
structure Res6 (w0 : World) (W : World) (n put : Int) (A : Option Addr) (N c : Nat) (Y : List Fld) (V0 V1 V2 V3 V4 V5 V9 : Value) (b0 b1 b2 b3 b4 b5 b6 b7 b8 b9 : Bool) (x0 x1 x2 x3 x4 x5 x6 x7 x8 x9 : Value) (w : World) : Prop where
  be : b8 = false → Below w0.heap.size w0 w
  d2 : b2 = true → b1 = true
  d4 : b4 = true → b3 = true
  d6 : b6 = true → b4 = true ∧ b5 = true
  d7 : b7 = true → b0 = true ∧ b2 = true ∧ b6 = true
  d8 : b8 = true → b0 = true ∧ b1 = true ∧ b2 = true ∧ b3 = true ∧ b4 = true ∧ b5 = true ∧ b6 = true ∧ b7 = true
  d9 : b9 = true → b0 = true ∧ b1 = true ∧ b2 = true ∧ b3 = true ∧ b4 = true ∧ b5 = true ∧ b6 = true ∧ b7 = true ∧ b8 = true
  h0 : b0 = true → x0 = V0
  h1 : b1 = true → x1 = V1
  h2 : b2 = true → x2 = V2
  h3 : b3 = true → x3 = V3
  h4 : b4 = true → x4 = V4
  h5 : b5 = true → x5 = V5
  h6 : b6 = true → b8 = false → OwnE FdE w w0.heap.size 66 x6 Y
  h7 : b7 = true → b8 = false → ∃ u, x7 = .agg #[.int .i64 n, .int .i64 put, u] ∧ OwnE FdE w w0.heap.size 66 u Y
  h8 : b8 = true → ∃ Aq cq, w.heap[W.heap.size + 1]? = some (.cells #[.int .i64 n, .int .i64 put, .slice Aq Y.length cq] 27 (0, 0)) ∧ FSl w w.heap.size (.slice Aq Y.length cq) Y ∧ Below W.heap.size W w
  h9 : b9 = true → x9 = V9
end Go.Proofs.Ytpfahdogedchpaa
