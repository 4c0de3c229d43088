/- What is read as a frame may be, and is written in no more bytes; frames one behind the other. Nothing of the program's. -/
import Derived.Test.YtgfbonfoimiknaaFrAny
namespace Go.Proofs.Ytgfbonfoimiknaa.P
set_option linter.unusedVariables false
open Go.RowKit

theorem decT_len : ∀ (k : Nat) (b : Int) (s : List Int) (l : List (Int × Int)) (t : List Int), Byt s → decT k b s = .ok (l, t) → l.length = k ∧ (encT b l).length + t.length ≤ s.length ∧ Byt t
  | 0, b, s, l, t, hb, h => by
    simp only [decT, Except.ok.injEq, Prod.mk.injEq] at h
    obtain ⟨rfl, rfl⟩ := h
    exact ⟨rfl, by simp [encT], hb⟩
  | k + 1, b, s, l, t, hb, h => by
    simp only [decT] at h
    cases h1 : rd s with
    | error e => rw [h1] at h; simp at h
    | ok p =>
      obtain ⟨g, s1⟩ := p
      rw [h1] at h
      simp only at h
      cases h2 : rd s1 with
      | error e => rw [h2] at h; simp at h
      | ok p =>
        obtain ⟨n, s2⟩ := p
        rw [h2] at h
        simp only at h
        by_cases hn : b - g - 2 - n < 0
        · rw [if_pos hn] at h; simp at h
        rw [if_neg hn] at h
        cases h3 : decT k (b - g - 2 - n) s2 with
        | error e => rw [h3] at h; simp at h
        | ok p =>
          obtain ⟨l', s3⟩ := p
          rw [h3] at h
          simp only [Except.ok.injEq, Prod.mk.injEq] at h
          obtain ⟨rfl, rfl⟩ := h
          have r1 := rd_bd hb h1
          have r2 := rd_bd r1.2.2.2 h2
          have ih := decT_len k _ s2 l' s3 r2.2.2.2 h3
          refine ⟨by simp [ih.1], ?_, ih.2.2⟩
          simp only [encT, List.length_append]
          rw [show b - (b - g - 2) - 2 = g by omega, show b - g - 2 - (b - g - 2 - n) = n by omega]
          omega
theorem decRs_len (s : List Int) (l : List (Int × Int)) (t : List Int) (hb : Byt s) (h : decRs s = .ok (l, t)) : (encR l).length + t.length ≤ s.length ∧ Byt t ∧ l.length ≤ 6 := by
  simp only [decRs] at h
  cases h1 : rd s with
  | error e => rw [h1] at h; simp at h
  | ok p =>
    obtain ⟨hi, s1⟩ := p
    rw [h1] at h
    simp only at h
    cases h2 : rd s1 with
    | error e => rw [h2] at h; simp at h
    | ok p =>
      obtain ⟨n, s2⟩ := p
      rw [h2] at h
      simp only at h
      by_cases h6 : 6 ≤ n
      · rw [if_pos h6] at h; simp at h
      rw [if_neg h6] at h
      cases h3 : rd s2 with
      | error e => rw [h3] at h; simp at h
      | ok p =>
        obtain ⟨m, s3⟩ := p
        rw [h3] at h
        simp only at h
        by_cases hn : hi - m < 0
        · rw [if_pos hn] at h; simp at h
        rw [if_neg hn] at h
        cases h4 : decT n.toNat (hi - m) s3 with
        | error e => rw [h4] at h; simp at h
        | ok p =>
          obtain ⟨l', s4⟩ := p
          rw [h4] at h
          simp only [Except.ok.injEq, Prod.mk.injEq] at h
          obtain ⟨rfl, rfl⟩ := h
          have r1 := rd_bd hb h1
          have r2 := rd_bd r1.2.2.2 h2
          have r3 := rd_bd r2.2.2.2 h3
          have ih := decT_len _ _ s3 l' s4 r3.2.2.2 h4
          refine ⟨?_, ih.2.2, by simp only [List.length_cons]; omega⟩
          simp only [encR, List.length_append]
          rw [show hi - (hi - m) = m by omega, show ((l'.length : Nat) : Int) = n by rw [ih.1]; omega]
          omega
/-- one part read: what it was written in, and what it leaves as it was -/
theorem len_i {f g : Fr} {s t : List Int} (hb : Byt s) (h : decP f s 105 = .ok (g, t)) : ∃ n, g = { f with id := n } ∧ (enc n).length + t.length ≤ s.length ∧ Byt t := by
  rw [decP_i] at h
  cases h1 : rd s with
  | error e => rw [h1] at h; simp at h
  | ok p =>
    obtain ⟨n, t'⟩ := p
    rw [h1] at h
    simp only [Except.ok.injEq, Prod.mk.injEq] at h
    obtain ⟨rfl, rfl⟩ := h
    have r := rd_bd hb h1
    exact ⟨n, rfl, r.2.2.1, r.2.2.2⟩
theorem len_o {f g : Fr} {s t : List Int} (hb : Byt s) (h : decP f s 111 = .ok (g, t)) : ∃ n, g = { f with off := n } ∧ (enc n).length + t.length ≤ s.length ∧ Byt t := by
  rw [decP_o] at h
  cases h1 : rd s with
  | error e => rw [h1] at h; simp at h
  | ok p =>
    obtain ⟨n, t'⟩ := p
    rw [h1] at h
    simp only [Except.ok.injEq, Prod.mk.injEq] at h
    obtain ⟨rfl, rfl⟩ := h
    have r := rd_bd hb h1
    exact ⟨n, rfl, r.2.2.1, r.2.2.2⟩
theorem len_c {f g : Fr} {s t : List Int} (hb : Byt s) (h : decP f s 99 = .ok (g, t)) : ∃ n, g = { f with code := n } ∧ (enc n).length + t.length ≤ s.length ∧ Byt t := by
  rw [decP_c] at h
  cases h1 : rd s with
  | error e => rw [h1] at h; simp at h
  | ok p =>
    obtain ⟨n, t'⟩ := p
    rw [h1] at h
    simp only [Except.ok.injEq, Prod.mk.injEq] at h
    obtain ⟨rfl, rfl⟩ := h
    have r := rd_bd hb h1
    exact ⟨n, rfl, r.2.2.1, r.2.2.2⟩
theorem len_w {f g : Fr} {s t : List Int} (hb : Byt s) (h : decP f s 119 = .ok (g, t)) : ∃ n, g = { f with code := n } ∧ 8 + t.length ≤ s.length ∧ Byt t := by
  rw [decP_w] at h
  by_cases h8 : s.length < 8
  · rw [if_pos h8] at h; simp at h
  rw [if_neg h8] at h
  simp only [Except.ok.injEq, Prod.mk.injEq] at h
  obtain ⟨rfl, rfl⟩ := h
  exact ⟨_, rfl, by rw [List.length_drop]; omega, hb.drop 8⟩
theorem len_d {f g : Fr} {s t : List Int} (hb : Byt s) (h : decP f s 100 = .ok (g, t)) : ∃ d, g = { f with data := d } ∧ (enc d.length).length + d.length + t.length ≤ s.length ∧ Byt t ∧ Byt d := by
  rw [decP_d] at h
  cases h1 : rd s with
  | error e => rw [h1] at h; simp at h
  | ok p =>
    obtain ⟨n, t'⟩ := p
    rw [h1] at h
    simp only at h
    by_cases hn : 120 < n
    · rw [if_pos hn] at h; simp at h
    rw [if_neg hn] at h
    by_cases hl : (t'.length : Int) < n
    · rw [if_pos hl] at h; simp at h
    rw [if_neg hl] at h
    simp only [Except.ok.injEq, Prod.mk.injEq] at h
    obtain ⟨rfl, rfl⟩ := h
    have r := rd_bd hb h1
    refine ⟨_, rfl, ?_, r.2.2.2.drop _, r.2.2.2.take _⟩
    have hln : (t'.take n.toNat).length = n.toNat := by rw [List.length_take]; omega
    rw [hln, show ((n.toNat : Nat) : Int) = n by omega, List.length_drop]
    omega
theorem len_r {f g : Fr} {s t : List Int} (hb : Byt s) (h : decP f s 114 = .ok (g, t)) : ∃ l, g = { f with rs := l } ∧ (encR l).length + t.length ≤ s.length ∧ Byt t := by
  rw [decP_r] at h
  cases h1 : decRs s with
  | error e => rw [h1] at h; simp at h
  | ok p =>
    obtain ⟨l, t'⟩ := p
    rw [h1] at h
    simp only [Except.ok.injEq, Prod.mk.injEq] at h
    obtain ⟨rfl, rfl⟩ := h
    have r := decRs_len s l t' hb h1
    exact ⟨l, rfl, r.1, r.2.1⟩
theorem decPs_cons {c : Int} {cs : List Int} {f g : Fr} {s t : List Int} (h : decPs (c :: cs) f s = .ok (g, t)) : ∃ f' s', decP f s c = .ok (f', s') ∧ decPs cs f' s' = .ok (g, t) := by
  simp only [decPs] at h
  cases h1 : decP f s c with
  | error e => rw [h1] at h; simp at h
  | ok p =>
    obtain ⟨f', s'⟩ := p
    rw [h1] at h
    exact ⟨f', s', rfl, h⟩
theorem decPs_nil {f g : Fr} {s t : List Int} (h : decPs [] f s = .ok (g, t)) : g = f ∧ t = s := by
  simp only [decPs, Except.ok.injEq, Prod.mk.injEq] at h
  exact ⟨h.1.symm, h.2.symm⟩
/-- all parts of a kind read: they are written in no more bytes -/
theorem decPs_len {k : Int} {cs : List Int} (hc : partsOf k = some cs) {fin : Bool} {g : Fr} {s t : List Int} (hb : Byt s) (h : decPs cs ⟨k, 0, 0, fin, 0, [], []⟩ s = .ok (g, t)) :
    g.kind = k ∧ g.fin = fin ∧ (encPs g cs).length + t.length ≤ s.length ∧ Byt t ∧ Byt g.data := by
  have e1 : ∀ f, encP f 105 = enc f.id := fun _ => rfl
  have e2 : ∀ f, encP f 111 = enc f.off := fun _ => rfl
  have e3 : ∀ f, encP f 99 = enc f.code := fun _ => rfl
  have e4 : ∀ f, (encP f 119).length = 8 := fun f => lowB_len 8 f.code
  have e5 : ∀ f : Fr, encP f 100 = enc f.data.length ++ f.data := fun _ => rfl
  have e6 : ∀ f, encP f 114 = encR f.rs := fun _ => rfl
  have e7 : ∀ f, encP f 102 = [] := fun _ => rfl
  rcases parts_cases hc with ⟨e, _⟩ | ⟨e, _⟩ | ⟨e, _⟩ | ⟨e, _⟩ | ⟨e, _⟩ | ⟨e, _⟩ | ⟨e, _⟩ | ⟨e, _⟩ | ⟨e, _⟩ | ⟨e, _⟩ | ⟨e, _⟩ <;> subst e
  · obtain ⟨rfl, rfl⟩ := decPs_nil h
    exact ⟨rfl, rfl, by simp [encPs], hb, Byt.nil⟩
  · obtain ⟨f1, s1, h1, h⟩ := decPs_cons h
    obtain ⟨l, rfl, l1, b1⟩ := len_r hb h1
    obtain ⟨rfl, rfl⟩ := decPs_nil h
    exact ⟨rfl, rfl, by simp only [encPs, e6, List.append_nil]; omega, b1, Byt.nil⟩
  · obtain ⟨f1, s1, h1, h⟩ := decPs_cons h
    obtain ⟨n1, rfl, l1, b1⟩ := len_i hb h1
    obtain ⟨f2, s2, h2, h⟩ := decPs_cons h
    obtain ⟨n2, rfl, l2, b2⟩ := len_o b1 h2
    obtain ⟨f3, s3, h3, h⟩ := decPs_cons h
    obtain ⟨n3, rfl, l3, b3⟩ := len_c b2 h3
    obtain ⟨rfl, rfl⟩ := decPs_nil h
    exact ⟨rfl, rfl, by simp only [encPs, e1, e2, e3, List.append_nil, List.length_append]; omega, b3, Byt.nil⟩
  · obtain ⟨f1, s1, h1, h⟩ := decPs_cons h
    obtain ⟨n1, rfl, l1, b1⟩ := len_i hb h1
    obtain ⟨f3, s3, h3, h⟩ := decPs_cons h
    obtain ⟨n3, rfl, l3, b3⟩ := len_c b1 h3
    obtain ⟨rfl, rfl⟩ := decPs_nil h
    exact ⟨rfl, rfl, by simp only [encPs, e1, e3, List.append_nil, List.length_append]; omega, b3, Byt.nil⟩
  · obtain ⟨f2, s2, h2, h⟩ := decPs_cons h
    obtain ⟨n2, rfl, l2, b2⟩ := len_o hb h2
    obtain ⟨f3, s3, h3, h⟩ := decPs_cons h
    obtain ⟨n3, rfl, l3, b3, d3⟩ := len_d b2 h3
    obtain ⟨rfl, rfl⟩ := decPs_nil h
    exact ⟨rfl, rfl, by simp only [encPs, e2, e5, List.append_nil, List.length_append]; omega, b3, d3⟩
  · obtain ⟨f3, s3, h3, h⟩ := decPs_cons h
    obtain ⟨n3, rfl, l3, b3, d3⟩ := len_d hb h3
    obtain ⟨rfl, rfl⟩ := decPs_nil h
    exact ⟨rfl, rfl, by simp only [encPs, e5, List.append_nil, List.length_append]; omega, b3, d3⟩
  · obtain ⟨f1, s1, h1, h⟩ := decPs_cons h
    obtain ⟨n1, rfl, l1, b1⟩ := len_i hb h1
    obtain ⟨f2, s2, h2, h⟩ := decPs_cons h
    obtain ⟨n2, rfl, l2, b2⟩ := len_o b1 h2
    obtain ⟨f3, s3, h3, h⟩ := decPs_cons h
    obtain ⟨n3, rfl, l3, b3, d3⟩ := len_d b2 h3
    obtain ⟨f4, s4, h4, h⟩ := decPs_cons h
    rw [decP_no _ _ (by decide) (by decide) (by decide) (by decide) (by decide) (by decide)] at h4
    simp only [Except.ok.injEq, Prod.mk.injEq] at h4
    obtain ⟨rfl, rfl⟩ := h4
    obtain ⟨rfl, rfl⟩ := decPs_nil h
    exact ⟨rfl, rfl, by simp only [encPs, e1, e2, e5, e7, List.append_nil, List.length_append]; omega, b3, d3⟩
  · obtain ⟨f2, s2, h2, h⟩ := decPs_cons h
    obtain ⟨n2, rfl, l2, b2⟩ := len_o hb h2
    obtain ⟨rfl, rfl⟩ := decPs_nil h
    exact ⟨rfl, rfl, by simp only [encPs, e2, List.append_nil, List.length_append]; omega, b2, Byt.nil⟩
  · obtain ⟨f1, s1, h1, h⟩ := decPs_cons h
    obtain ⟨n1, rfl, l1, b1⟩ := len_i hb h1
    obtain ⟨f2, s2, h2, h⟩ := decPs_cons h
    obtain ⟨n2, rfl, l2, b2⟩ := len_o b1 h2
    obtain ⟨rfl, rfl⟩ := decPs_nil h
    exact ⟨rfl, rfl, by simp only [encPs, e1, e2, List.append_nil, List.length_append]; omega, b2, Byt.nil⟩
  · obtain ⟨f3, s3, h3, h⟩ := decPs_cons h
    obtain ⟨n3, rfl, l3, b3⟩ := len_w hb h3
    obtain ⟨rfl, rfl⟩ := decPs_nil h
    refine ⟨rfl, rfl, ?_, b3, Byt.nil⟩
    simp only [encPs, List.append_nil, e4]
    exact l3
  · obtain ⟨f3, s3, h3, h⟩ := decPs_cons h
    obtain ⟨n3, rfl, l3, b3⟩ := len_c hb h3
    obtain ⟨rfl, rfl⟩ := decPs_nil h
    exact ⟨rfl, rfl, by simp only [encPs, e3, List.append_nil, List.length_append]; omega, b3, Byt.nil⟩

/-- whatever is read may be, and is written in no more bytes -/
theorem decF_any {s t : List Int} {f : Fr} (hb : Byt s) (h : decF s = .ok (f, t)) : faultF f = 0 ∧ (frT f).length + t.length ≤ s.length ∧ Byt t ∧ Byt f.data := by
  unfold decF at h
  cases h1 : rd s with
  | error e => rw [h1] at h; simp at h
  | ok p =>
    obtain ⟨k, u⟩ := p
    rw [h1] at h
    simp only at h
    by_cases h8 : k = 8
    · rw [if_pos h8] at h; simp at h
    rw [if_neg h8] at h
    cases hp : partsOf (if k = 14 ∨ k = 15 then 8 else k) with
    | none => rw [hp] at h; simp at h
    | some ps =>
      rw [hp] at h
      simp only at h
      cases h2 : decPs ps ⟨if k = 14 ∨ k = 15 then 8 else k, 0, 0, decide (k = 15), 0, [], []⟩ u with
      | error e => rw [h2] at h; simp at h
      | ok p =>
        obtain ⟨g, v⟩ := p
        rw [h2] at h
        simp only at h
        by_cases hf : faultF g = 0
        · rw [if_pos hf] at h
          simp only [Except.ok.injEq, Prod.mk.injEq] at h
          obtain ⟨rfl, rfl⟩ := h
          have r := rd_bd hb h1
          have l := decPs_len hp r.2.2.2 h2
          refine ⟨hf, ?_, l.2.2.2.1, l.2.2.2.2⟩
          have hm : mkF g = k := by
            unfold mkF
            rw [l.1, l.2.1]
            by_cases c : k = 14 ∨ k = 15
            · rw [if_pos c, if_pos rfl]
              rcases c with rfl | rfl <;> rfl
            · rw [if_neg c, if_neg h8]
          unfold frT
          rw [mark_enc, hm, l.1, hp, Option.getD_some, List.length_append]
          omega
        · rw [if_neg hf] at h; simp at h

/-- frames, one behind the other, up to so many (P4.5) -/
def decAll : Nat → List Int → Except Int (List Fr)
  | r, s =>
    if s = [] then .ok [] else
    match r with
    | 0 => .error 8
    | r + 1 =>
      match decF s with
      | .error e => .error e
      | .ok (f, t) =>
        match decAll r t with
        | .error e => .error e
        | .ok l => .ok (f :: l)
def frTs : List Fr → List Int
  | [] => []
  | f :: l => frT f ++ frTs l
theorem frTs_snoc : ∀ (l : List Fr) (f : Fr), frTs (l ++ [f]) = frTs l ++ frT f
  | [], f => by simp [frTs]
  | g :: l, f => by simp only [List.cons_append, frTs, frTs_snoc l f, List.append_assoc]
theorem decAll_back : ∀ (l : List Fr) (r : Nat), (∀ f ∈ l, faultF f = 0) → decAll r (frTs l) = if l.length ≤ r then .ok l else .error 8
  | [], r, _ => by unfold decAll; simp [frTs]
  | f :: l, 0, h => by
    have hp := frT_pos f (h f List.mem_cons_self)
    unfold decAll
    rw [if_neg (by intro e; have := congrArg List.length e; simp only [frTs, List.length_append, List.length_nil] at this; omega), if_neg (by simp)]
  | f :: l, r + 1, h => by
    have hp := frT_pos f (h f List.mem_cons_self)
    have ih := decAll_back l r fun g hg => h g (List.mem_cons_of_mem _ hg)
    unfold decAll
    rw [if_neg (by intro e; have := congrArg List.length e; simp only [frTs, List.length_append, List.length_nil] at this; omega)]
    simp only [frTs]
    rw [decF_back (h f List.mem_cons_self)]
    simp only
    rw [ih]
    by_cases hl : l.length ≤ r
    · rw [if_pos hl, if_pos (by simp only [List.length_cons]; omega)]
    · rw [if_neg hl, if_neg (by simp only [List.length_cons]; omega)]
end Go.Proofs.Ytgfbonfoimiknaa.P
