/- How long a section can be. Nothing of the program's. -/
import Derived.Test.YtpfahdogedchpaaDoorGrpP
import Derived.Test.YtpfahdogedchpaaDoorGrpL
namespace Go.Proofs.YtpfahdogedchpaaDoor.P
set_option linter.unusedVariables false

theorem rq_flat_len (k : Nat) : ∀ ls : List (List Int), (∀ x ∈ ls, x.length ≤ k) → ls.flatten.length ≤ k * ls.length
  | [], _ => by simp
  | x :: ls, h => by
    have h1 := h x (List.mem_cons_self ..)
    have h2 := rq_flat_len k ls (fun y hy => h y (List.mem_cons_of_mem _ hy))
    rw [List.flatten_cons, List.length_append, List.length_cons, Nat.mul_succ]
    omega
theorem rq_line_len {need : Int} {f : Fld} {r : Option Int} (hf : FdWf f) (ok : okFd f) (hn : need ≤ 4611686018427387904) (hr : ∀ n, r = some n → 0 ≤ n ∧ n < need) : (lineT need f r).length ≤ 300 := by
  cases r with
  | none =>
    have := (lineP_len (need := need) (n := -1) hf ok (.inl rfl)).2.2
    unfold lineP at this
    rw [if_pos (by omega)] at this
    exact this
  | some n =>
    have h := hr n rfl
    have := (lineP_len (need := need) (n := n) hf ok (.inr ⟨h.1, h.2, hn⟩)).2.2
    unfold lineP at this
    rw [if_neg (by omega)] at this
    exact this
theorem rq_sec_len {t : Tb} {l : List Fld} {ahead : Bool} (h0 : faultTb t = 0) (hl : faultFl l = 0) (hw : ∀ f ∈ l, FdWf f) : (linesT (encAll ahead t l).need l (encAll ahead t l).refs).length ≤ 3000 := by
  obtain ⟨h8, ok⟩ := (faultFl_iff l).1 hl
  have I := encAll_inv h0 ahead l ok
  have hp := ((faultTb_iff _).1 I.f).2.1.2
  have hn0 := I.n0
  have hnp := I.np
  have e : linesT (encAll ahead t l).need l (encAll ahead t l).refs = pxL 0 8 (encAll ahead t l).need ++ ((l.zip (encAll ahead t l).refs).map (fun q => lineT (encAll ahead t l).need q.1 q.2)).flatten := rfl
  have h1 := (pxL_len (pxF_of (first := 0) (wi := 8) (n := (encAll ahead t l).need) (by decide) (by omega) (by decide))).2
  have h2 := rq_flat_len 300 ((l.zip (encAll ahead t l).refs).map (fun q => lineT (encAll ahead t l).need q.1 q.2)) (fun x hx => by
    obtain ⟨q, hq, rfl⟩ := List.mem_map.1 hx
    have hz := List.of_mem_zip (a := q.1) (b := q.2) hq
    refine rq_line_len (hw _ hz.1) (ok _ hz.1) (by omega) (fun n hn => ?_)
    obtain ⟨i, hi, he⟩ := List.getElem_of_mem hz.2
    have := I.rs i n (by rw [List.getD_eq_getElem?_getD, List.getElem?_eq_getElem hi, he, hn]; rfl)
    exact ⟨this.1, this.2.1⟩)
  rw [List.length_map, List.length_zip] at h2
  rw [e, List.length_append]
  omega
end Go.Proofs.YtpfahdogedchpaaDoor.P
