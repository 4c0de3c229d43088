/- Fields of requests by P15.3: what is written. Plain mathematics. Nothing of the program's. -/
import Derived.Test.YtfoagelemjdglaaDoorGrpG
namespace Go.Proofs.YtfoagelemjdglaaDoor.P
set_option linter.unusedVariables false
open Go.RowKit
/-- how far the writing has come: the table, what is told ahead, for each field the number that it is referred to by, and one more than the greatest of them -/
structure EncS where
  t : Tb
  tell : List Int
  refs : List (Option Int)
  need : Int
/-- a field that is told ahead -/
def tellT (f : Fld) : List Int := pxT 64 31 (f.name.length : Int) ++ f.name ++ pxT 0 127 (f.val.length : Int) ++ f.val
/-- has the table the same one -/
def hasT (t : Tb) (f : Fld) : Bool := decide ((finT t f).2.2 = 0) && (finT t f).2.1
/-- may it be told ahead -/
def mayT (t : Tb) (f : Fld) (ahead : Bool) : Bool := ahead && !(decide (t.room < (wtL t.rows : Int) + (szF f : Int))) && !(decide (4611686018427387903 ≤ t.put))
def encStep (ahead : Bool) (s : EncS) (f : Fld) : EncS :=
  if 0 ≤ kpL f true then ⟨s.t, s.tell, s.refs ++ [none], s.need⟩
  else if hasT s.t f then ⟨s.t, s.tell, s.refs ++ [some (finT s.t f).1], max s.need ((finT s.t f).1 + 1)⟩
  else if mayT s.t f ahead then ⟨(insT s.t f).1, s.tell ++ tellT f, s.refs ++ [some s.t.put], max s.need (s.t.put + 1)⟩
  else ⟨s.t, s.tell, s.refs ++ [none], s.need⟩
def encAll (ahead : Bool) (t : Tb) (l : List Fld) : EncS := l.foldl (encStep ahead) ⟨t, [], [], 0⟩
/-- a field in its section -/
def valT (f : Fld) : List Int := pxT 0 127 (f.val.length : Int) ++ f.val
def lineT (need : Int) (f : Fld) (r : Option Int) : List Int :=
  if 0 ≤ kpL f true then pxT 192 63 (kpL f true)
  else match r with
    | some n => pxT 128 63 (need - 1 - n)
    | none => if 0 ≤ kpL f false then pxT 64 15 (kpL f false) ++ valT f else pxT 32 7 (f.name.length : Int) ++ f.name ++ valT f
/-- the section -/
def linesT (need : Int) (l : List Fld) (rs : List (Option Int)) : List Int := pxT 0 255 need ++ ((l.zip rs).map (fun q => lineT need q.1 q.2)).flatten
/-- what Encode says, by P15.3 -/
def encFl (t : Tb) (l : List Fld) (ahead : Bool) : Tb × List Int × List Int × Int :=
  if faultTb t ≠ 0 then (tb0, [], [], faultTb t) else if faultFl l ≠ 0 then (tb0, [], [], faultFl l)
  else ((encAll ahead t l).t, (encAll ahead t l).tell, linesT (encAll ahead t l).need l (encAll ahead t l).refs, 0)
theorem encAll_snoc (ahead : Bool) (t : Tb) (l : List Fld) (f : Fld) : encAll ahead t (l ++ [f]) = encStep ahead (encAll ahead t l) f := by
  unfold encAll
  rw [List.foldl_append]
  rfl
theorem encAll_nil (ahead : Bool) (t : Tb) : encAll ahead t [] = ⟨t, [], [], 0⟩ := rfl
/-- what is found lies in the table -/
theorem finT_in {t : Tb} {f : Fld} (h : hasT t f = true) : 0 ≤ (finT t f).1 ∧ (finT t f).1 + 1 ≤ t.put ∧ t.put ≤ 4611686018427387903 ∧ faultTb t = 0 := by
  unfold hasT finT at h
  unfold finT
  by_cases c : faultTb t ≠ 0
  · rw [if_pos c] at h; simp at h
  · rw [if_neg c] at h ⊢
    have ok := (faultTb_iff t).1 (Decidable.byContradiction c)
    have k1 := ok.2.1
    have k2 := ok.2.2.1
    cases q : lastAt (fun x => decide (x = f)) t.rows with
    | some i =>
      have := (lastAt_lt _ q).1
      simp only
      exact ⟨by omega, by omega, k1.2, Decidable.byContradiction c⟩
    | none =>
      rw [q] at h
      simp only at h
      cases q2 : lastAt (fun x => decide (x.name = f.name)) t.rows with
      | some i => rw [q2] at h; simp at h
      | none => rw [q2] at h; simp at h
/-- what holds as the writing goes on -/
structure EncOk (k : Nat) (s : EncS) : Prop where
  len : s.refs.length = k
  n0 : 0 ≤ s.need
  n1 : s.need ≤ 4611686018427387903
  p0 : 0 ≤ s.t.put
  rs : ∀ n, some n ∈ s.refs → 0 ≤ n ∧ n < s.need
  wf : TbWf s.t
theorem insT_put {t : Tb} {f : Fld} (h : 0 ≤ t.put) : 0 ≤ (insT t f).1.put := by
  unfold insT
  split
  · exact Int.le_refl _
  · split
    · exact Int.le_refl _
    · split
      · exact Int.le_refl _
      · split
        · exact Int.le_refl _
        · simp only; omega
theorem encStep_ok {ahead : Bool} {s : EncS} {k : Nat} {f : Fld} (h : EncOk k s) (hf : FdWf f) : EncOk (k + 1) (encStep ahead s f) := by
  have base : EncOk (k + 1) ⟨s.t, s.tell, s.refs ++ [none], s.need⟩ :=
    ⟨by simp only [List.length_append, List.length_singleton]; rw [h.len], h.n0, h.n1, h.p0, fun n hn => by
      rcases List.mem_append.1 hn with q | q
      · exact h.rs n q
      · simp at q, h.wf⟩
  have := h.n0
  have := h.n1
  unfold encStep
  split
  · exact base
  · split
    · rename_i _ c
      obtain ⟨a, b, d, _⟩ := finT_in c
      refine ⟨by simp only [List.length_append, List.length_singleton]; rw [h.len], by simp only; omega, by simp only; omega, h.p0, fun n hn => ?_, h.wf⟩
      rcases List.mem_append.1 hn with q | q
      · have := h.rs n q
        simp only
        omega
      · have e : n = (finT s.t f).1 := by simpa using q
        simp only
        omega
    · split
      · rename_i _ _ c
        have hp : s.t.put < 4611686018427387903 := by
          unfold mayT at c
          simp only [Bool.and_eq_true, Bool.not_eq_true', decide_eq_false_iff_not] at c
          omega
        have := h.p0
        refine ⟨by simp only [List.length_append, List.length_singleton]; rw [h.len], by simp only; omega, by simp only; omega, insT_put h.p0, fun n hn => ?_, insT_wf h.wf hf⟩
        rcases List.mem_append.1 hn with q | q
        · have := h.rs n q
          simp only
          omega
        · have e : n = s.t.put := by simpa using q
          simp only
          omega
      · exact base
theorem encAll_ok {ahead : Bool} {t : Tb} (ht : TbWf t) (hp : 0 ≤ t.put) (l : List Fld) (hl : ∀ x ∈ l, FdWf x) : EncOk l.length (encAll ahead t l) := by
  have key : ∀ (l : List Fld) (s : EncS) (k : Nat), EncOk k s → (∀ x ∈ l, FdWf x) → EncOk (k + l.length) (l.foldl (encStep ahead) s) := by
    intro l
    induction l with
    | nil => intro s k h _; exact h
    | cons x l ih =>
      intro s k h hw
      have := ih _ _ (encStep_ok (ahead := ahead) h (hw x (List.mem_cons_self ..))) (fun y hy => hw y (List.mem_cons_of_mem _ hy))
      rw [show k + (x :: l).length = k + 1 + l.length by simp; omega]
      exact this
  have := key l ⟨t, [], [], 0⟩ 0 ⟨rfl, Int.le_refl _, (by decide : (0 : Int) ≤ 4611686018427387903), hp, fun n hn => by simp at hn, ht⟩ hl
  rw [Nat.zero_add] at this
  exact this
end Go.Proofs.YtfoagelemjdglaaDoor.P
