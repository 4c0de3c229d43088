/- A frame is read as it was written; what is read is written in no more bytes; no frame begins with another one's bytes. Nothing of the program's. -/
import Derived.Test.YtajjelcjgcgfdaaFrMath
namespace Go.Proofs.Ytajjelcjgcgfdaa.P
set_option linter.unusedVariables false
open Go.RowKit

theorem rd_enc (n : Int) (h0 : 0 ≤ n) (h1 : n ≤ 4611686018427387903) (m : List Int) : rd (enc n ++ m) = .ok (n, m) := by
  have h := enc_dec n h0 h1 m
  unfold rd
  rw [if_pos h.1, h.2.1, h.2.2, List.drop_append_of_le_length (by have := enc_len n; omega), List.drop_of_length_le (by have := enc_len n; omega)]
  rfl
theorem rd_ok {s t : List Int} {n : Int} (h : rd s = .ok (n, t)) : decOk s ∧ n = decV s ∧ t = s.drop (kOf (s.getD 0 0)).toNat := by
  unfold rd at h
  split at h
  · rename_i hd
    simp only [Except.ok.injEq, Prod.mk.injEq] at h
    exact ⟨hd, h.1.symm, h.2.symm⟩
  · cases h
theorem rd_err {s : List Int} {e : Int} (h : rd s = .error e) : e = 4 := by
  unfold rd at h
  split at h
  · cases h
  · simpa using h.symm
theorem head_app {s m : List Int} (h : 0 < s.length) : (s ++ m).getD 0 0 = s.getD 0 0 := by
  cases s with
  | nil => simp at h
  | cons a t => rfl
theorem rd_ext {s t : List Int} {n : Int} (m : List Int) (h : rd s = .ok (n, t)) : rd (s ++ m) = .ok (n, t ++ m) := by
  obtain ⟨hd, rfl, rfl⟩ := rd_ok h
  have hk := kOf_bd (s.getD 0 0)
  have h2 := hd.2
  have e0 := head_app (m := m) hd.1
  have hd' : decOk (s ++ m) := ⟨by rw [List.length_append]; have := hd.1; omega, by rw [e0, List.length_append]; omega⟩
  unfold rd
  rw [if_pos hd', e0, List.drop_append_of_le_length (by omega)]
  have e1 : decV (s ++ m) = decV s := by
    unfold decV
    rw [e0]
    congr 1
    rw [List.drop_append_of_le_length (by have := hd.1; omega), List.take_append_of_le_length (by rw [List.length_drop]; omega)]
  rw [e1]
/-- what is read is within what may be, and takes no fewer bytes than it is written in -/
theorem rd_bd {s t : List Int} {n : Int} (hb : Byt s) (h : rd s = .ok (n, t)) : 0 ≤ n ∧ n ≤ 4611686018427387903 ∧ (enc n).length + t.length ≤ s.length ∧ Byt t := by
  obtain ⟨hd, rfl, rfl⟩ := rd_ok h
  have b := decV_bd s hb hd
  have hk := kOf_bd (s.getD 0 0)
  have hl := enc_len (decV s)
  have h2 := hd.2
  exact ⟨b.1, b.2.1, by rw [List.length_drop]; omega, hb.drop _⟩

theorem down_len {b : Int} {x : Int × Int} {t : List (Int × Int)} (h : downFrom b (x :: t)) : okR x ∧ x.2 + 2 ≤ b ∧ downFrom x.1 t := h
theorem decT_enc : ∀ (l : List (Int × Int)) (b : Int) (m : List Int), downFrom b l → b ≤ 4611686018427387905 → decT l.length b (encT b l ++ m) = .ok (l, m)
  | [], b, m, _, _ => rfl
  | x :: l, b, m, h, hb => by
    obtain ⟨⟨x0, x1, x2⟩, h2, h3⟩ := h
    have ih := decT_enc l x.1 m h3 (by omega)
    simp only [encT, List.append_assoc, List.length_cons, decT]
    rw [rd_enc _ (by omega) (by omega)]
    simp only
    rw [rd_enc _ (by omega) (by omega)]
    simp only
    rw [if_neg (by omega), show b - (b - x.2 - 2) - 2 - (x.2 - x.1) = x.1 by omega, show b - (b - x.2 - 2) - 2 = x.2 by omega, ih]
theorem decRs_enc (l : List (Int × Int)) (m : List Int) (h : downL l) (h0 : 0 < l.length) (h6 : l.length ≤ 6) : decRs (encR l ++ m) = .ok (l, m) := by
  cases l with
  | nil => simp at h0
  | cons x l =>
    obtain ⟨⟨x0, x1, x2⟩, h2, h3⟩ := h
    simp only [List.length_cons] at h6
    simp only [encR, List.append_assoc, decRs]
    rw [rd_enc _ (by omega) (by omega)]
    simp only
    rw [rd_enc _ (by omega) (by omega)]
    simp only
    rw [if_neg (by omega), rd_enc _ (by omega) (by omega)]
    simp only
    rw [if_neg (by omega), show x.2 - (x.2 - x.1) = x.1 by omega, show ((l.length : Int)).toNat = l.length by omega, decT_enc l x.1 m h3 (by omega)]

theorem decT_ext (m : List Int) : ∀ (k : Nat) (b : Int) (s : List Int), (∀ l t, decT k b s = .ok (l, t) → decT k b (s ++ m) = .ok (l, t ++ m)) ∧ (∀ e, decT k b s = .error e → e ≠ 4 → decT k b (s ++ m) = .error e)
  | 0, b, s => ⟨fun l t h => by simp only [decT, Except.ok.injEq, Prod.mk.injEq] at h ⊢; exact ⟨h.1, by rw [h.2]⟩, fun e h => by simp [decT] at h⟩
  | k + 1, b, s => by
    simp only [decT]
    cases h1 : rd s with
    | error e => exact ⟨fun l t h => by simp at h, fun e' h he => by simp at h; have := rd_err h1; omega⟩
    | ok p =>
      obtain ⟨g, s1⟩ := p
      rw [rd_ext m h1]
      simp only
      cases h2 : rd s1 with
      | error e => exact ⟨fun l t h => by simp at h, fun e' h he => by simp at h; have := rd_err h2; omega⟩
      | ok p =>
        obtain ⟨n, s2⟩ := p
        rw [rd_ext m h2]
        simp only
        split
        · exact ⟨fun l t h => by simp at h, fun e h _ => h⟩
        · have ih := decT_ext m k (b - g - 2 - n) s2
          cases h3 : decT k (b - g - 2 - n) s2 with
          | error e => exact ⟨fun l t h => by simp at h, fun e' h he => by simp at h; subst h; rw [ih.2 _ h3 he]⟩
          | ok p =>
            obtain ⟨l', s3⟩ := p
            refine ⟨fun l t h => ?_, fun e h => by simp at h⟩
            rw [ih.1 _ _ h3]
            simp only [Except.ok.injEq, Prod.mk.injEq] at h ⊢
            exact ⟨h.1, by rw [h.2]⟩
theorem decRs_ext (m s : List Int) : (∀ l t, decRs s = .ok (l, t) → decRs (s ++ m) = .ok (l, t ++ m)) ∧ (∀ e, decRs s = .error e → e ≠ 4 → decRs (s ++ m) = .error e) := by
  simp only [decRs]
  cases h1 : rd s with
  | error e => exact ⟨fun l t h => by simp at h, fun e' h he => by simp at h; have := rd_err h1; omega⟩
  | ok p =>
    obtain ⟨hi, s1⟩ := p
    rw [rd_ext m h1]
    simp only
    cases h2 : rd s1 with
    | error e => exact ⟨fun l t h => by simp at h, fun e' h he => by simp at h; have := rd_err h2; omega⟩
    | ok p =>
      obtain ⟨n, s2⟩ := p
      rw [rd_ext m h2]
      simp only
      split
      · exact ⟨fun l t h => by simp at h, fun e h _ => h⟩
      · cases h3 : rd s2 with
        | error e => exact ⟨fun l t h => by simp at h, fun e' h he => by simp at h; have := rd_err h3; omega⟩
        | ok p =>
          obtain ⟨n', s3⟩ := p
          rw [rd_ext m h3]
          simp only
          split
          · exact ⟨fun l t h => by simp at h, fun e h _ => h⟩
          · have ih := decT_ext m n.toNat (hi - n') s3
            cases h4 : decT n.toNat (hi - n') s3 with
            | error e => exact ⟨fun l t h => by simp at h, fun e' h he => by simp at h; subst h; rw [ih.2 _ h4 he]⟩
            | ok p =>
              obtain ⟨l', s4⟩ := p
              refine ⟨fun l t h => ?_, fun e h => by simp at h⟩
              rw [ih.1 _ _ h4]
              simp only [Except.ok.injEq, Prod.mk.injEq] at h ⊢
              exact ⟨h.1, by rw [h.2]⟩
theorem rd_set_ext {α : Type} (m s : List Int) (F : Int → α) : (∀ g t, (match rd s with | .error e => (.error e : Except Int (α × List Int)) | .ok (n, t) => .ok (F n, t)) = .ok (g, t) → (match rd (s ++ m) with | .error e => (.error e : Except Int (α × List Int)) | .ok (n, t) => .ok (F n, t)) = .ok (g, t ++ m)) ∧
    (∀ e, (match rd s with | .error e => (.error e : Except Int (α × List Int)) | .ok (n, t) => .ok (F n, t)) = .error e → e ≠ 4 → (match rd (s ++ m) with | .error e => (.error e : Except Int (α × List Int)) | .ok (n, t) => .ok (F n, t)) = .error e) := by
  cases h1 : rd s with
  | error e => exact ⟨fun g t h => by simp at h, fun e' h he => by simp at h; have := rd_err h1; omega⟩
  | ok p =>
    obtain ⟨n, t⟩ := p
    rw [rd_ext m h1]
    refine ⟨fun g t' h => ?_, fun e h => by simp at h⟩
    simp only [Except.ok.injEq, Prod.mk.injEq] at h ⊢
    exact ⟨h.1, by rw [h.2]⟩
theorem decP_r (f : Fr) (s : List Int) : decP f s 114 = match decRs s with | .error e => .error e | .ok (l, t) => .ok ({ f with rs := l }, t) := rfl
theorem decP_i (f : Fr) (s : List Int) : decP f s 105 = match rd s with | .error e => .error e | .ok (n, t) => .ok ({ f with id := n }, t) := rfl
theorem decP_o (f : Fr) (s : List Int) : decP f s 111 = match rd s with | .error e => .error e | .ok (n, t) => .ok ({ f with off := n }, t) := rfl
theorem decP_c (f : Fr) (s : List Int) : decP f s 99 = match rd s with | .error e => .error e | .ok (n, t) => .ok ({ f with code := n }, t) := rfl
theorem decP_w (f : Fr) (s : List Int) : decP f s 119 = if s.length < 8 then .error 4 else .ok ({ f with code := i64Of (beFrom 0 (s.take 8)) }, s.drop 8) := rfl
theorem decP_d (f : Fr) (s : List Int) : decP f s 100 = match rd s with | .error e => .error e | .ok (n, t) => if 120 < n then .error 1 else if (t.length : Int) < n then .error 4 else .ok ({ f with data := t.take n.toNat }, t.drop n.toNat) := rfl
theorem decP_no (f : Fr) (s : List Int) {c : Int} (h1 : c ≠ 114) (h2 : c ≠ 105) (h3 : c ≠ 111) (h4 : c ≠ 99) (h5 : c ≠ 119) (h6 : c ≠ 100) : decP f s c = .ok (f, s) := by
  unfold decP
  rw [if_neg h1, if_neg h2, if_neg h3, if_neg h4, if_neg h5, if_neg h6]
theorem decP_ext (m s : List Int) (f : Fr) (c : Int) : (∀ g t, decP f s c = .ok (g, t) → decP f (s ++ m) c = .ok (g, t ++ m)) ∧ (∀ e, decP f s c = .error e → e ≠ 4 → decP f (s ++ m) c = .error e) := by
  by_cases e1 : c = 114
  · subst e1
    rw [decP_r, decP_r]
    have hx := decRs_ext m s
    cases h1 : decRs s with
    | error e => exact ⟨fun g t h => by simp at h, fun e' h he => by simp at h; subst h; rw [hx.2 _ h1 he]⟩
    | ok p =>
      obtain ⟨l, t⟩ := p
      rw [hx.1 _ _ h1]
      refine ⟨fun g t' h => ?_, fun e h => by simp at h⟩
      simp only [Except.ok.injEq, Prod.mk.injEq] at h ⊢
      exact ⟨h.1, by rw [h.2]⟩
  by_cases e2 : c = 105
  · subst e2
    rw [decP_i, decP_i]
    exact rd_set_ext m s fun n => { f with id := n }
  by_cases e3 : c = 111
  · subst e3
    rw [decP_o, decP_o]
    exact rd_set_ext m s fun n => { f with off := n }
  by_cases e4 : c = 99
  · subst e4
    rw [decP_c, decP_c]
    exact rd_set_ext m s fun n => { f with code := n }
  by_cases e5 : c = 119
  · subst e5
    rw [decP_w, decP_w]
    by_cases h8 : s.length < 8
    · rw [if_pos h8]
      exact ⟨fun g t h => by simp at h, fun e h he => by simp at h; omega⟩
    · rw [if_neg h8]
      refine ⟨fun g t h => ?_, fun e h => by simp at h⟩
      rw [if_neg (by rw [List.length_append]; omega), List.take_append_of_le_length (by omega), List.drop_append_of_le_length (by omega)]
      simp only [Except.ok.injEq, Prod.mk.injEq] at h ⊢
      exact ⟨h.1, by rw [h.2]⟩
  by_cases e6 : c = 100
  · subst e6
    rw [decP_d, decP_d]
    cases h1 : rd s with
    | error e => exact ⟨fun g t h => by simp at h, fun e' h he => by simp at h; have := rd_err h1; omega⟩
    | ok p =>
      obtain ⟨n, t⟩ := p
      rw [rd_ext m h1]
      simp only
      by_cases hn : 120 < n
      · rw [if_pos hn, if_pos hn]
        exact ⟨fun g t h => by simp at h, fun e h _ => h⟩
      · rw [if_neg hn, if_neg hn]
        by_cases hl : (t.length : Int) < n
        · rw [if_pos hl]
          exact ⟨fun g t h => by simp at h, fun e h he => by simp at h; omega⟩
        · rw [if_neg hl]
          refine ⟨fun g t' h => ?_, fun e h => by simp at h⟩
          rw [if_neg (by rw [List.length_append]; omega), List.take_append_of_le_length (by omega), List.drop_append_of_le_length (by omega)]
          simp only [Except.ok.injEq, Prod.mk.injEq] at h ⊢
          exact ⟨h.1, by rw [h.2]⟩
  rw [decP_no f s e1 e2 e3 e4 e5 e6, decP_no f _ e1 e2 e3 e4 e5 e6]
  refine ⟨fun g t h => ?_, fun e h => by simp at h⟩
  simp only [Except.ok.injEq, Prod.mk.injEq] at h ⊢
  exact ⟨h.1, by rw [h.2]⟩
theorem decPs_ext (m : List Int) : ∀ (cs : List Int) (f : Fr) (s : List Int), (∀ g t, decPs cs f s = .ok (g, t) → decPs cs f (s ++ m) = .ok (g, t ++ m)) ∧ (∀ e, decPs cs f s = .error e → e ≠ 4 → decPs cs f (s ++ m) = .error e)
  | [], f, s => ⟨fun g t h => by simp only [decPs, Except.ok.injEq, Prod.mk.injEq] at h ⊢; exact ⟨h.1, by rw [h.2]⟩, fun e h => by simp [decPs] at h⟩
  | c :: cs, f, s => by
    simp only [decPs]
    have hx := decP_ext m s f c
    cases h1 : decP f s c with
    | error e => exact ⟨fun g t h => by simp at h, fun e' h he => by simp at h; subst h; rw [hx.2 _ h1 he]⟩
    | ok p =>
      obtain ⟨g, t⟩ := p
      rw [hx.1 _ _ h1]
      exact decPs_ext m cs g t
theorem decF_ext (m s : List Int) : (∀ f t, decF s = .ok (f, t) → decF (s ++ m) = .ok (f, t ++ m)) ∧ (∀ e, decF s = .error e → e ≠ 4 → decF (s ++ m) = .error e) := by
  unfold decF
  cases h1 : rd s with
  | error e => exact ⟨fun g t h => by simp at h, fun e' h he => by simp at h; have := rd_err h1; omega⟩
  | ok p =>
    obtain ⟨k, t⟩ := p
    rw [rd_ext m h1]
    simp only
    split
    · exact ⟨fun g t h => by simp at h, fun e h _ => h⟩
    · cases hp : partsOf (if k = 14 ∨ k = 15 then 8 else k) with
      | none => exact ⟨fun g t h => by simp at h, fun e h _ => h⟩
      | some ps =>
        simp only
        have hx := decPs_ext m ps ⟨if k = 14 ∨ k = 15 then 8 else k, 0, 0, decide (k = 15), 0, [], []⟩ t
        cases h2 : decPs ps ⟨if k = 14 ∨ k = 15 then 8 else k, 0, 0, decide (k = 15), 0, [], []⟩ t with
        | error e => exact ⟨fun g t h => by simp at h, fun e' h he => by simp at h; subst h; rw [hx.2 _ h2 he]⟩
        | ok p =>
          obtain ⟨f, u⟩ := p
          rw [hx.1 _ _ h2]
          simp only
          split
          · refine ⟨fun g t' h => ?_, fun e h => by simp at h⟩
            simp only [Except.ok.injEq, Prod.mk.injEq] at h ⊢
            exact ⟨h.1, by rw [h.2]⟩
          · exact ⟨fun g t h => by simp at h, fun e h _ => h⟩
end Go.Proofs.Ytajjelcjgcgfdaa.P
