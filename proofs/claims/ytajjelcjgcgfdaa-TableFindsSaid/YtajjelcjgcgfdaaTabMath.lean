/- Tables of fields by P14: plain mathematics. Nothing of the program's. -/
import Derived.Test.YtajjelcjgcgfdaaRngMath
namespace Go.Proofs.Ytajjelcjgcgfdaa.P
set_option linter.unusedVariables false

/-- a field: the bytes of its name and of its value -/
structure Fld where
  name : List Int
  val : List Int
deriving DecidableEq
/-- its size, by P14.1 -/
def szF (f : Fld) : Nat := f.name.length + f.val.length + 32
/-- a field that may be -/
def okFd (f : Fld) : Prop := 1 ≤ f.name.length ∧ f.name.length ≤ 20 ∧ f.val.length ≤ 40
instance (f : Fld) : Decidable (okFd f) := by unfold okFd; infer_instance
def wtL (l : List Fld) : Nat := (l.map szF).sum
theorem wtL_nil : wtL [] = 0 := rfl
theorem wtL_cons (x : Fld) (l : List Fld) : wtL (x :: l) = szF x + wtL l := by simp [wtL]
theorem wtL_app (l m : List Fld) : wtL (l ++ m) = wtL l + wtL m := by simp [wtL]
theorem wtL_drop (l : List Fld) (k : Nat) : wtL (l.drop k) ≤ wtL l := by
  have := wtL_app (l.take k) (l.drop k)
  rw [List.take_append_drop] at this
  omega
theorem szF_pos (f : Fld) : 32 ≤ szF f := by unfold szF; omega
theorem wtL_len (l : List Fld) : 32 * l.length ≤ wtL l := by
  induction l with
  | nil => simp [wtL]
  | cons x l ih => rw [wtL_cons, List.length_cons]; have := szF_pos x; omega
structure Tb where
  room : Int
  put : Int
  rows : List Fld
def tb0 : Tb := ⟨0, 0, []⟩
def fd0 : Fld := ⟨[], []⟩
/-- a table that may be, by P14.2 -/
def okTb (t : Tb) : Prop := (0 ≤ t.room ∧ t.room ≤ 160) ∧ (0 ≤ t.put ∧ t.put ≤ 4611686018427387903) ∧ (t.rows.length : Int) ≤ t.put ∧ (wtL t.rows : Int) ≤ t.room ∧ ∀ f ∈ t.rows, okFd f
instance (t : Tb) : Decidable (okTb t) := by unfold okTb; infer_instance
def faultTb (t : Tb) : Int := if okTb t then 0 else 9
theorem faultTb_iff (t : Tb) : faultTb t = 0 ↔ okTb t := by
  unfold faultTb
  split
  · simp [*]
  · simp [*]
/-- the last fields, as many as fit: the first go, as few as may be -/
def young (room : Int) : List Fld → List Fld
  | [] => []
  | x :: l => if (wtL (x :: l) : Int) ≤ room then x :: l else young room l
theorem young_fits {room : Int} {l : List Fld} (h : (wtL l : Int) ≤ room) : young room l = l := by
  cases l with
  | nil => rfl
  | cons x l => unfold young; rw [if_pos h]
theorem young_step {room : Int} {x : Fld} {l : List Fld} (h : room < (wtL (x :: l) : Int)) : young room (x :: l) = young room l := by
  conv => lhs; unfold young
  rw [if_neg (by omega)]
/-- cut at the first place where they fit -/
theorem young_at {room : Int} {l : List Fld} (k : Nat) (h : (wtL (l.drop k) : Int) ≤ room) (hk : ∀ j, j < k → room < (wtL (l.drop j) : Int)) : young room l = l.drop k := by
  induction k generalizing l with
  | zero => rw [List.drop_zero] at h ⊢; exact young_fits h
  | succ k ih =>
    cases l with
    | nil => rfl
    | cons x l =>
      have h0 := hk 0 (by omega)
      rw [List.drop_zero] at h0
      rw [young_step h0, List.drop_succ_cons]
      exact ih (by rw [List.drop_succ_cons] at h; exact h) (fun j hj => by have := hk (j + 1) (by omega); rwa [List.drop_succ_cons] at this)
theorem young_suffix (room : Int) (l : List Fld) : ∃ k, k ≤ l.length ∧ young room l = l.drop k := by
  induction l with
  | nil => exact ⟨0, by simp, rfl⟩
  | cons x l ih =>
    by_cases h : (wtL (x :: l) : Int) ≤ room
    · exact ⟨0, by omega, by rw [young_fits h]; rfl⟩
    · obtain ⟨k, h1, h2⟩ := ih
      exact ⟨k + 1, by rw [List.length_cons]; omega, by rw [young_step (by omega), h2]; rfl⟩
theorem young_wt {room : Int} (h : 0 ≤ room) (l : List Fld) : (wtL (young room l) : Int) ≤ room := by
  induction l with
  | nil => simpa [young, wtL] using h
  | cons x l ih =>
    by_cases q : (wtL (x :: l) : Int) ≤ room
    · rw [young_fits q]; exact q
    · rw [young_step (by omega)]; exact ih
/-- what goes would not fit -/
theorem young_more {room : Int} {l : List Fld} {k : Nat} (hk : k < l.length) (h : young room l = l.drop (k + 1)) : room < (wtL (l.drop k) : Int) := by
  by_cases q : (wtL (l.drop k) : Int) ≤ room
  · exfalso
    have hlen : (young room l).length = l.length - (k + 1) := by rw [h, List.length_drop]
    have key : ∀ (l : List Fld) (k : Nat), (wtL (l.drop k) : Int) ≤ room → l.length - k ≤ (young room l).length := by
      intro l
      induction l with
      | nil => intro k _; simp
      | cons x l ih =>
        intro k hq
        by_cases q : (wtL (x :: l) : Int) ≤ room
        · rw [young_fits q]; omega
        · rw [young_step (by omega)]
          cases k with
          | zero => exact absurd hq q
          | succ k => have := ih k (by rwa [List.drop_succ_cons] at hq); rw [List.length_cons]; omega
    have := key l k q
    omega
  · omega
/-- what Insert says, by P14.3 -/
def insT (t : Tb) (f : Fld) : Tb × Int :=
  if faultTb t ≠ 0 then (tb0, faultTb t) else if ¬ okFd f then (tb0, 3) else if t.room < (szF f : Int) then (tb0, 1) else if t.put = 4611686018427387903 then (tb0, 8)
  else (⟨t.room, t.put + 1, young t.room (t.rows ++ [f])⟩, 0)
/-- what Resize says, by P14.4 -/
def resT (t : Tb) (n : Int) : Tb × Int :=
  if faultTb t ≠ 0 then (tb0, faultTb t) else if ¬ (0 ≤ n ∧ n ≤ 160) then (tb0, 6) else (⟨n, t.put, young n t.rows⟩, 0)
/-- what Get says, by P14.5 -/
def getT (t : Tb) (n : Int) : Fld × Int :=
  if faultTb t ≠ 0 then (fd0, faultTb t) else if ¬ (0 ≤ n ∧ n < t.put) then (fd0, 5) else if (t.rows.length : Int) < t.put - n then (fd0, 16)
  else (t.rows.getD (t.rows.length - (t.put - n).toNat) fd0, 0)
/-- the last place at which something holds -/
def lastAt (p : Fld → Bool) : List Fld → Option Nat
  | [] => none
  | x :: l => match lastAt p l with
    | some i => some (i + 1)
    | none => if p x then some 0 else none
/-- what Find says, by P14.6: (number, is it the same, error) -/
def finT (t : Tb) (f : Fld) : Int × Bool × Int :=
  if faultTb t ≠ 0 then (0, false, faultTb t) else match lastAt (fun x => decide (x = f)) t.rows with
    | some i => (t.put - t.rows.length + i, true, 0)
    | none => match lastAt (fun x => decide (x.name = f.name)) t.rows with
      | some i => (t.put - t.rows.length + i, false, 0)
      | none => (0, false, 5)
theorem insT_ok {t : Tb} {f : Fld} (h : (insT t f).2 = 0) : okTb (insT t f).1 ∧ ∃ k, k ≤ t.rows.length ∧ (insT t f).1.rows = t.rows.drop k ++ [f] := by
  unfold insT at h ⊢
  by_cases c : faultTb t ≠ 0
  · rw [if_pos c] at h; exact absurd h c
  · rw [if_neg c] at h ⊢
    obtain ⟨k1, k2, k3, k4, k5⟩ := (faultTb_iff t).1 (Decidable.byContradiction c)
    by_cases c2 : ¬ okFd f
    · rw [if_pos c2] at h; simp at h
    · rw [if_neg c2] at h ⊢
      by_cases c3 : t.room < (szF f : Int)
      · rw [if_pos c3] at h; simp at h
      · rw [if_neg c3] at h ⊢
        by_cases c4 : t.put = 4611686018427387903
        · rw [if_pos c4] at h; simp at h
        · rw [if_neg c4] at h ⊢
          have hw : (wtL [f] : Int) ≤ t.room := by rw [wtL_cons, wtL_nil]; omega
          obtain ⟨k, h1, h2⟩ := young_suffix t.room (t.rows ++ [f])
          have hk : k ≤ t.rows.length := by
            refine Nat.le_of_not_lt fun q => ?_
            rw [List.length_append, List.length_singleton] at h1
            have e : k = t.rows.length + 1 := by omega
            have hne : young t.room (t.rows ++ [f]) = [] := by rw [h2, List.drop_eq_nil_of_le (by rw [List.length_append, List.length_singleton]; omega)]
            have := young_more (k := t.rows.length) (l := t.rows ++ [f]) (room := t.room) (by simp) (by rw [hne, List.drop_eq_nil_of_le (by simp)])
            rw [List.drop_left] at this
            omega
          have hr : young t.room (t.rows ++ [f]) = t.rows.drop k ++ [f] := by rw [h2, List.drop_append_of_le_length hk]
          refine ⟨⟨k1, by simp only; omega, ?_, ?_, ?_⟩, k, hk, hr⟩
          · simp only
            rw [hr, List.length_append, List.length_drop, List.length_singleton]
            omega
          · exact young_wt k1.1 _
          · simp only
            intro x hx
            rw [hr] at hx
            rcases List.mem_append.1 hx with hx | hx
            · exact k5 x (List.mem_of_mem_drop hx)
            · rw [List.mem_singleton.1 hx]; exact Decidable.byContradiction c2
theorem resT_ok {t : Tb} {n : Int} (h : (resT t n).2 = 0) : okTb (resT t n).1 := by
  unfold resT at h ⊢
  by_cases c : faultTb t ≠ 0
  · rw [if_pos c] at h; exact absurd h c
  · rw [if_neg c] at h ⊢
    obtain ⟨k1, k2, k3, k4, k5⟩ := (faultTb_iff t).1 (Decidable.byContradiction c)
    by_cases c2 : ¬ (0 ≤ n ∧ n ≤ 160)
    · rw [if_pos c2] at h; simp at h
    · rw [if_neg c2] at h ⊢
      obtain ⟨k, h1, h2⟩ := young_suffix n t.rows
      refine ⟨by simp only; omega, k2, ?_, young_wt (by omega) _, ?_⟩
      · simp only
        rw [h2, List.length_drop]
        omega
      · simp only
        intro x hx
        rw [h2] at hx
        exact k5 x (List.mem_of_mem_drop hx)
end Go.Proofs.Ytajjelcjgcgfdaa.P
