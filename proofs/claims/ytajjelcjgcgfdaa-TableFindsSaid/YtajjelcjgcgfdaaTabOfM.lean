/- What tableOf makes of raw things, in plain words. Nothing of the program's. -/
import Derived.Test.YtajjelcjgcgfdaaTabMath
namespace Go.Proofs.Ytajjelcjgcgfdaa.P
set_option linter.unusedVariables false

theorem young_drop {room : Int} : ∀ (k : Nat) {l : List Fld}, (∀ j, j < k → room < (wtL (l.drop j) : Int)) → young room l = young room (l.drop k)
  | 0, l, _ => by rw [List.drop_zero]
  | k + 1, [], _ => rfl
  | k + 1, x :: l, h => by
    have h0 := h 0 (by omega)
    rw [List.drop_zero] at h0
    rw [young_step h0, List.drop_succ_cons]
    exact young_drop k fun j hj => by have := h (j + 1) (by omega); rwa [List.drop_succ_cons] at this
theorem young_big {room : Int} {l : List Fld} {k : Nat} (hk : k ≤ l.length) (h : young room l = l.drop k) : ∀ j, j < k → room < (wtL (l.drop j) : Int) := fun j hj => by
  have h1 := young_more (room := room) (l := l) (k := k - 1) (by omega) (by rw [h, show k - 1 + 1 = k by omega])
  have h2 := wtL_drop (l.drop j) (k - 1 - j)
  rw [List.drop_drop, show j + (k - 1 - j) = k - 1 by omega] at h2
  omega
theorem young_app (room : Int) (l : List Fld) (f : Fld) : young room (young room l ++ [f]) = young room (l ++ [f]) := by
  obtain ⟨k, h1, h2⟩ := young_suffix room l
  have hb := young_big h1 h2
  rw [young_drop (room := room) (l := l ++ [f]) k fun j hj => by
    have := hb j hj
    rw [List.drop_append_of_le_length (by omega), wtL_app]
    omega, h2, List.drop_append_of_le_length h1]
/-- all that were put in -/
def putF (room : Int) (all : List Fld) (f : Fld) : List Fld := if room < (szF f : Int) then all else all ++ [f]
def putL (room : Int) (fs : List Fld) : List Fld := fs.foldl (putF room) []
theorem putL_snoc (room : Int) (fs : List Fld) (f : Fld) : putL room (fs ++ [f]) = putF room (putL room fs) f := by simp [putL, List.foldl_append]
theorem putL_mem {room : Int} {p : Fld → Prop} : ∀ (fs : List Fld), (∀ f ∈ fs, p f) → ∀ x ∈ putL room fs, p x := by
  have key : ∀ (fs all : List Fld), (∀ f ∈ fs, p f) → (∀ x ∈ all, p x) → ∀ x ∈ fs.foldl (putF room) all, p x := by
    intro fs
    induction fs with
    | nil => intro all _ h x hx; exact h x hx
    | cons f fs ih =>
      intro all hf h
      refine ih _ (fun g hg => hf g (List.mem_cons_of_mem _ hg)) ?_
      unfold putF
      split
      · exact h
      · intro x hx
        rcases List.mem_append.1 hx with hx | hx
        · exact h x hx
        · rw [List.mem_singleton.1 hx]; exact hf f (List.mem_cons_self ..)
  exact fun fs hf => key fs [] hf (fun x hx => by cases hx)
theorem putL_len {room : Int} : ∀ (fs : List Fld), (putL room fs).length ≤ fs.length := by
  have key : ∀ (fs all : List Fld), (fs.foldl (putF room) all).length ≤ all.length + fs.length := by
    intro fs
    induction fs with
    | nil => intro all; simp
    | cons f fs ih =>
      intro all
      refine Nat.le_trans (ih _) ?_
      unfold putF
      split <;> simp <;> omega
  intro fs
  have := key fs []
  rw [List.length_nil, Nat.zero_add] at this
  exact this
/-- the table that came of it -/
def tabF (room : Int) (all : List Fld) : Tb := ⟨room, all.length, young room all⟩
theorem tabF_ok {room : Int} (h : 0 ≤ room ∧ room ≤ 160) {all : List Fld} (hl : all.length ≤ 1000) (ha : ∀ f ∈ all, okFd f) : okTb (tabF room all) := by
  obtain ⟨k, h1, h2⟩ := young_suffix room all
  refine ⟨h, by simp only [tabF]; omega, ?_, young_wt h.1 _, ?_⟩
  · simp only [tabF, h2, List.length_drop]; omega
  · intro f hf
    simp only [tabF, h2] at hf
    exact ha f (List.mem_of_mem_drop hf)
theorem tabF_ins {room : Int} (h : 0 ≤ room ∧ room ≤ 160) {all : List Fld} (hl : all.length ≤ 1000) (ha : ∀ f ∈ all, okFd f) {f : Fld} (hf : okFd f) :
    insT (tabF room all) f = if room < (szF f : Int) then (tb0, 1) else (tabF room (all ++ [f]), 0) := by
  have hok := (faultTb_iff _).2 (tabF_ok h hl ha)
  unfold insT
  rw [if_neg (fun k => k hok), if_neg (fun k => k hf)]
  show (if room < (szF f : Int) then (tb0, 1) else if ((all.length : Nat) : Int) = 4611686018427387903 then (tb0, 8) else (⟨room, (all.length : Int) + 1, young room (young room all ++ [f])⟩, 0)) = _
  by_cases q : room < (szF f : Int)
  · rw [if_pos q, if_pos q]
  · rw [if_neg q, if_neg q, if_neg (by omega), young_app]
    unfold tabF
    simp only [List.length_append, List.length_singleton]
    rfl
/-- TableStays: what stands at a number -/
theorem stays_get {room : Int} (h : 0 ≤ room ∧ room ≤ 160) {all : List Fld} (hl : all.length ≤ 1000) (ha : ∀ f ∈ all, okFd f) (k : Nat) (hk : k ≤ all.length) :
    getT (tabF room all) k = if k = all.length then (fd0, 5) else if k < all.length - (young room all).length then (fd0, 16) else (all.getD k fd0, 0) := by
  have hok := (faultTb_iff _).2 (tabF_ok h hl ha)
  obtain ⟨d, h1, h2⟩ := young_suffix room all
  have hyl : (young room all).length = all.length - d := by rw [h2, List.length_drop]
  unfold getT
  rw [if_neg (fun k => k hok)]
  show (if ¬ (0 ≤ (k : Int) ∧ (k : Int) < (all.length : Int)) then (fd0, 5) else if ((young room all).length : Int) < (all.length : Int) - (k : Int) then (fd0, 16) else ((young room all).getD ((young room all).length - ((all.length : Int) - (k : Int)).toNat) fd0, 0)) = _
  by_cases c1 : k = all.length
  · rw [if_pos (by omega), if_pos c1]
  · rw [if_neg (by omega), if_neg c1]
    by_cases c2 : k < all.length - (young room all).length
    · rw [if_pos (by omega), if_pos c2]
    · rw [if_neg (by omega), if_neg c2]
      have e : (young room all).length - ((all.length : Int) - (k : Int)).toNat = k - d := by omega
      rw [e, h2, List.getD_eq_getElem?_getD, List.getElem?_drop, show d + (k - d) = k by omega, ← List.getD_eq_getElem?_getD]
/-- TableLast: the one ahead does not fit -/
theorem last_more {room : Int} {all : List Fld} (h0 : 0 < all.length - (young room all).length) : room < (wtL (young room all) : Int) + (szF (all.getD (all.length - (young room all).length - 1) fd0) : Int) := by
  obtain ⟨d, h1, h2⟩ := young_suffix room all
  have hyl : (young room all).length = all.length - d := by rw [h2, List.length_drop]
  have hd : all.length - (young room all).length = d := by omega
  rw [hd] at h0 ⊢
  have hb := young_big h1 h2 (d - 1) (by omega)
  have hlt : d - 1 < all.length := by omega
  rw [List.drop_eq_getElem_cons hlt, wtL_cons, show d - 1 + 1 = d by omega] at hb
  rw [h2, List.getD_eq_getElem?_getD, List.getElem?_eq_getElem hlt]
  simp only [Option.getD_some]
  omega
/-- the last one fits -/
theorem last_one {room : Int} {all : List Fld} (h : ∀ f ∈ all, (szF f : Int) ≤ room) (hn : 0 < all.length) : 0 < (young room all).length := by
  obtain ⟨d, h1, h2⟩ := young_suffix room all
  have hyl : (young room all).length = all.length - d := by rw [h2, List.length_drop]
  refine Nat.pos_of_ne_zero fun e => ?_
  have hd : d = all.length := by omega
  subst hd
  have hb := young_big h1 h2 (all.length - 1) (by omega)
  have hlt : all.length - 1 < all.length := by omega
  rw [List.drop_eq_getElem_cons hlt, wtL_cons, show all.length - 1 + 1 = all.length by omega, List.drop_length, wtL_nil] at hb
  have := h _ (List.getElem_mem hlt)
  omega
end Go.Proofs.Ytajjelcjgcgfdaa.P
