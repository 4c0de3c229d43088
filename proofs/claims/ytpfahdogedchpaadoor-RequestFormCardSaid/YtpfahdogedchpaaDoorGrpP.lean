/- Several texts in one. -/
import Derived.Test.YtpfahdogedchpaaDoorGrpZg
/- Fields are read as they were written: plain mathematics. Nothing of the program's. -/
namespace Go.Proofs.YtpfahdogedchpaaDoor.P
set_option linter.unusedVariables false

theorem pxT_L (first w n : Int) : pxT first (topW w) n = pxL first w n := rfl
theorem pxF_of {first wi n : Int} (hw : 1 ≤ wi ∧ wi ≤ 8) (hn : 0 ≤ n ∧ n ≤ 4611686018427387903) (h : first % (topW wi + 1) = 0) : pxF first wi n = 0 := by
  unfold pxF
  rw [if_neg (by omega), if_neg (by omega)]
/-- the first byte of a number behind bits -/
theorem pxL_first {first w n : Int} (h0 : 0 ≤ n) (more : List Int) : (pxL first w n ++ more).getD 0 0 = first + (if n < topW w then n else topW w) := by
  unfold pxL
  split <;> rfl
theorem pxL_ne (first w n : Int) : 0 < (pxL first w n).length := by unfold pxL; split <;> simp
/-- a text behind any bits is read as it was written -/
theorem txt_backF {first w : Int} (hw : 1 ≤ w ∧ w ≤ 8) (hf : first % (topW w + 1) = 0) (t zs : List Int) (ht : t.length ≤ 120) : pxTR (pxL first w t.length ++ t ++ zs) w = (t, (((pxL first w t.length).length + t.length : Nat) : Int), 0) := by
  have hF : pxF first w t.length = 0 := pxF_of hw (by omega) hf
  have hB := px_back hF (t ++ zs)
  rw [List.append_assoc]
  unfold pxTR
  rw [hB]
  simp only
  rw [if_neg (by simp), if_neg (by omega), if_neg (by simp only [List.length_append]; omega)]
  simp only [Int.toNat_natCast, Prod.mk.injEq, and_true]
  refine ⟨?_, by omega⟩
  rw [List.drop_left, List.take_left]
theorem drop_len {a b : List Int} {k : Nat} (h : k = a.length) : (a ++ b).drop k = b := by subst h; exact List.drop_left
theorem firstP_hit {p : Fld → Bool} : ∀ {l : List Fld}, 0 ≤ firstP p l → p (l.getD (firstP p l).toNat fd0) = true
  | [], h => by cases h
  | x :: l, h => by
    have e : firstP p (x :: l) = if p x then 0 else if firstP p l = -1 then -1 else firstP p l + 1 := rfl
    rw [e] at h ⊢
    by_cases c : p x = true
    · rw [if_pos c]; exact c
    · rw [if_neg c] at h ⊢
      by_cases d : firstP p l = -1
      · rw [if_pos d] at h; omega
      · rw [if_neg d] at h ⊢
        have i := (firstP_in p l).resolve_left d
        have := firstP_hit (p := p) (l := l) i.1
        rw [show (firstP p l + 1).toNat = (firstP p l).toNat + 1 by omega, List.getD_cons_succ]
        exact this
theorem kpL_hit {f : Fld} (h : 0 ≤ kpL f true) : knL.getD (kpL f true).toNat fd0 = f := by
  have key : ∀ x, kpB f true x = true → x = f := fun x hx => by unfold kpB at hx; simpa using hx
  exact key _ (firstP_hit (p := kpB f true) (l := knL) h)
theorem kpL_named {f : Fld} (h : 0 ≤ kpL f false) : (knL.getD (kpL f false).toNat fd0).name = f.name := by
  have key : ∀ x, kpB f false x = true → x.name = f.name := fun x hx => by
    unfold kpB at hx
    simp only [Bool.not_false, Bool.true_and, Bool.or_eq_true, decide_eq_true_eq] at hx
    rcases hx with e | e
    · exact congrArg Fld.name e
    · exact e
  exact key _ (firstP_hit (p := kpB f false) (l := knL) h)
theorem kpL_lt (f : Fld) (s : Bool) : kpL f s < 11 := by
  rcases firstP_in (kpB f s) knL with e | e
  · have : kpL f s = -1 := e
    omega
  · have h2 := e.2
    rw [show (knL.length : Int) = 11 from rfl] at h2
    exact h2
theorem knR_back {first w : Int} {k : Int} (hw : 1 ≤ w ∧ w ≤ 8) (hf : first % (topW w + 1) = 0) (h0 : 0 ≤ k) (h1 : k < 11) (more : List Int) : knR (pxL first w k ++ more) w = (knL.getD k.toNat fd0, ((pxL first w k).length : Int), 0) := by
  have hB := px_back (pxF_of (first := first) (wi := w) (n := k) hw (by omega) hf) more
  unfold knR
  rw [hB]
  simp only
  rw [if_neg (by simp), if_neg (by omega)]
/-- a line is read as it was written, where what is referred to is there -/
theorem line_back {t : Tb} {need : Int} {f : Fld} {r : Option Int} (ok : okFd f) (hn : need ≤ 4611686018427387903) (hr : ∀ n, r = some n → 0 ≤ n ∧ n < need ∧ (kpL f true < 0 → getT t n = (f, 0))) (more : List Int) :
    lineR t need (lineT need f r ++ more) = (f, ((lineT need f r).length : Int), 0) ∧ 0 < (lineT need f r).length := by
  have hk := kpL_lt f true
  have hk2 := kpL_lt f false
  by_cases c1 : 0 ≤ kpL f true
  · have e : lineT need f r = pxL 192 6 (kpL f true) := by unfold lineT; rw [if_pos c1]; rfl
    have ht : topW 6 = 63 := rfl
    rw [e]
    refine ⟨?_, pxL_ne _ _ _⟩
    unfold lineR
    rw [pxL_first c1, ht, if_pos (by omega), knR_back (by decide) (by decide) c1 hk, kpL_hit c1]
  · cases r with
    | some n =>
      obtain ⟨n0, n1, ng⟩ := hr n rfl
      have e : lineT need f (some n) = pxL 128 6 (need - 1 - n) := by unfold lineT; rw [if_neg c1]; rfl
      have ht : topW 6 = 63 := rfl
      have hB := px_back (pxF_of (first := 128) (wi := 6) (n := need - 1 - n) (by decide) (by omega) (by decide)) more
      have hb0 := pxL_first (first := 128) (w := 6) (n := need - 1 - n) (by omega) more
      rw [ht] at hb0
      rw [e]
      refine ⟨?_, pxL_ne _ _ _⟩
      have hlt : ¬ 192 ≤ (pxL 128 6 (need - 1 - n) ++ more).getD 0 0 := by rw [hb0]; split <;> omega
      have hge : 128 ≤ (pxL 128 6 (need - 1 - n) ++ more).getD 0 0 := by rw [hb0]; split <;> omega
      unfold lineR
      rw [if_neg hlt, if_pos hge, hB]
      simp only
      rw [if_neg (by simp), if_neg (by omega), show need - 1 - (need - 1 - n) = n by omega, ng (by omega)]
    | none =>
      unfold okFd at ok
      by_cases c2 : 0 ≤ kpL f false
      · have e : lineT need f none = pxL 64 4 (kpL f false) ++ (pxL 0 7 f.val.length ++ f.val) := by unfold lineT; rw [if_neg c1]; simp only; rw [if_pos c2]; rfl
        have ht : topW 4 = 15 := rfl
        have hb0 := pxL_first (first := 64) (w := 4) (n := kpL f false) c2 ((pxL 0 7 f.val.length ++ f.val) ++ more)
        rw [ht, if_pos (by omega)] at hb0
        have hK := knR_back (first := 64) (w := 4) (k := kpL f false) (by decide) (by decide) c2 hk2 ((pxL 0 7 f.val.length ++ f.val) ++ more)
        have hT := txt_backF (first := 0) (w := 7) (by decide) (by decide) f.val more (by omega)
        rw [e, List.append_assoc]
        refine ⟨?_, by rw [List.length_append]; have := pxL_ne 64 4 (kpL f false); omega⟩
        unfold lineR
        rw [hb0, if_neg (by omega), if_neg (by omega), if_pos (by omega), hK]
        simp only
        rw [if_neg (by simp), Int.toNat_natCast, List.drop_left, hT, kpL_named c2]
        simp only [Prod.mk.injEq, and_true, List.length_append, true_and]
        omega
      · have e : lineT need f none = pxL 32 3 f.name.length ++ f.name ++ (pxL 0 7 f.val.length ++ f.val) := by unfold lineT; rw [if_neg c1]; simp only; rw [if_neg c2]; rfl
        have ht : topW 3 = 7 := rfl
        have hb0 := pxL_first (first := 32) (w := 3) (n := (f.name.length : Int)) (by omega) (f.name ++ ((pxL 0 7 f.val.length ++ f.val) ++ more))
        rw [ht] at hb0
        have hN := txt_backF (first := 32) (w := 3) (by decide) (by decide) f.name ((pxL 0 7 f.val.length ++ f.val) ++ more) (by omega)
        have hT := txt_backF (first := 0) (w := 7) (by decide) (by decide) f.val more (by omega)
        have ea : pxL 32 3 f.name.length ++ f.name ++ (pxL 0 7 f.val.length ++ f.val) ++ more = pxL 32 3 f.name.length ++ (f.name ++ ((pxL 0 7 f.val.length ++ f.val) ++ more)) := by simp only [List.append_assoc]
        have eb : pxL 32 3 f.name.length ++ (f.name ++ ((pxL 0 7 f.val.length ++ f.val) ++ more)) = pxL 32 3 f.name.length ++ f.name ++ ((pxL 0 7 f.val.length ++ f.val) ++ more) := by simp only [List.append_assoc]
        rw [e]
        refine ⟨?_, by rw [List.length_append, List.length_append]; have := pxL_ne 32 3 (f.name.length : Int); omega⟩
        have h1 : ¬ 192 ≤ (pxL 32 3 f.name.length ++ (f.name ++ ((pxL 0 7 f.val.length ++ f.val) ++ more))).getD 0 0 := by rw [hb0]; split <;> omega
        have h2 : ¬ 128 ≤ (pxL 32 3 f.name.length ++ (f.name ++ ((pxL 0 7 f.val.length ++ f.val) ++ more))).getD 0 0 := by rw [hb0]; split <;> omega
        have h3 : ¬ (64 ≤ (pxL 32 3 f.name.length ++ (f.name ++ ((pxL 0 7 f.val.length ++ f.val) ++ more))).getD 0 0 ∧ (pxL 32 3 f.name.length ++ (f.name ++ ((pxL 0 7 f.val.length ++ f.val) ++ more))).getD 0 0 < 80) := by rw [hb0]; split <;> omega
        have h4 : 32 ≤ (pxL 32 3 f.name.length ++ (f.name ++ ((pxL 0 7 f.val.length ++ f.val) ++ more))).getD 0 0 ∧ (pxL 32 3 f.name.length ++ (f.name ++ ((pxL 0 7 f.val.length ++ f.val) ++ more))).getD 0 0 < 40 := by rw [hb0]; split <;> omega
        rw [ea]
        unfold lineR
        rw [if_neg h1, if_neg h2, if_neg h3, if_pos h4, eb, hN]
        simp only
        rw [if_neg (by simp), Int.toNat_natCast, drop_len (by rw [List.length_append]), hT]
        simp only [Prod.mk.injEq, and_true, List.length_append, true_and]
        omega
/-- all lines -/
theorem lines_back {t : Tb} {need : Int} (hn : need ≤ 4611686018427387903) : ∀ (l : List Fld) (rs : List (Option Int)) (g : Nat) (out : List Fld), rs.length = l.length → (∀ f ∈ l, okFd f) → (∀ i n, i < l.length → rs.getD i none = some n → 0 ≤ n ∧ n < need ∧ (kpL (l.getD i fd0) true < 0 → getT t n = (l.getD i fd0, 0))) →
    out.length + l.length ≤ 8 → l.length ≤ g → linesR t need g (((l.zip rs).map (fun q => lineT need q.1 q.2)).flatten) out = (out ++ l, 0)
  | [], rs, g, out, _, _, _, _, _ => by
    simp only [List.zip_nil_left, List.map_nil, List.flatten_nil, List.append_nil]
    cases g with
    | zero => rw [linesR, if_pos rfl]
    | succ g => rw [linesR, if_pos rfl]
  | f :: l, [], g, out, h, _, _, _, _ => by simp at h
  | f :: l, r :: rs, 0, out, _, _, _, _, h => by simp at h
  | f :: l, r :: rs, g + 1, out, h1, h2, h3, h4, h5 => by
    have hl := line_back (t := t) (need := need) (f := f) (r := r) (h2 f (List.mem_cons_self ..)) hn (fun n e => by have := h3 0 n (by simp) (by simpa using e); simpa using this) (((l.zip rs).map (fun q => lineT need q.1 q.2)).flatten)
    rw [List.zip_cons_cons, List.map_cons, List.flatten_cons]
    simp only
    rw [linesR, if_neg (by intro e; have := congrArg List.length e; rw [List.length_append, List.length_nil] at this; have := hl.2; omega), if_neg (by simp at h4; omega), hl.1]
    simp only
    rw [if_neg (by simp), Int.toNat_natCast, List.drop_left, lines_back hn l rs g (out ++ [f]) (by simpa using h1) (fun x hx => h2 x (List.mem_cons_of_mem _ hx)) (fun i n hi e => by have := h3 (i + 1) n (by simp; omega) (by simpa using e); simpa using this) (by simp at h4 ⊢; omega) (by simp at h5; omega)]
    rw [List.append_assoc]
    rfl
/-- a section is read as it was written, where what is referred to is there -/
theorem dec_back {t : Tb} {need : Int} {l : List Fld} {rs : List (Option Int)} (h0 : faultTb t = 0) (hn0 : 0 ≤ need) (hn : need ≤ t.put) (h1 : rs.length = l.length) (h2 : ∀ f ∈ l, okFd f) (h8 : l.length ≤ 8) (h3 : ∀ i n, i < l.length → rs.getD i none = some n → 0 ≤ n ∧ n < need ∧ (kpL (l.getD i fd0) true < 0 → getT t n = (l.getD i fd0, 0))) : decFl t (linesT need l rs) = (l, 0) := by
  have hp := ((faultTb_iff t).1 h0).2.1.2
  have hB := px_back (pxF_of (first := 0) (wi := 8) (n := need) (by decide) (by omega) (by decide)) (((l.zip rs).map (fun q => lineT need q.1 q.2)).flatten)
  have hL := lines_back (t := t) (need := need) (by omega) l rs 9 [] h1 h2 h3 (by simpa using h8) (by omega)
  have e : linesT need l rs = pxL 0 8 need ++ ((l.zip rs).map (fun q => lineT need q.1 q.2)).flatten := rfl
  have hf : faultFl l = 0 := by unfold faultFl; rw [if_neg (by omega), if_pos h2]
  unfold decFl
  rw [if_neg (by rw [h0]; simp), e, hB]
  simp only
  rw [if_neg (by simp), if_neg (by omega), Int.toNat_natCast, List.drop_left, hL]
  simp only [List.nil_append]
  rw [if_neg (by simp), hf, if_neg (by simp)]
end Go.Proofs.YtpfahdogedchpaaDoor.P
/- What is told ahead leads another table to where the writer's is; what is referred to is there. Plain mathematics. Nothing of the program's. -/
namespace Go.Proofs.YtpfahdogedchpaaDoor.P
set_option linter.unusedVariables false

theorem insT_may_eq {t : Tb} {f : Fld} {a : Bool} (h0 : faultTb t = 0) (ok : okFd f) (hm : mayT t f a = true) : insT t f = (⟨t.room, t.put + 1, t.rows ++ [f]⟩, 0) := by
  have okt := (faultTb_iff t).1 h0
  unfold mayT at hm
  rw [Bool.and_eq_true, Bool.and_eq_true, Bool.not_eq_true', Bool.not_eq_true', decide_eq_false_iff_not, decide_eq_false_iff_not] at hm
  have hw : (wtL (t.rows ++ [f]) : Int) ≤ t.room := by rw [wtL_app, wtL_cons, wtL_nil]; omega
  have hs : ¬ t.room < (szF f : Int) := by omega
  unfold insT
  rw [if_neg (by rw [h0]; simp), if_neg (by simp [ok]), if_neg (by omega), if_neg (by omega), young_fits hw]
theorem fault_may {t : Tb} {f : Fld} {a : Bool} (h0 : faultTb t = 0) (ok : okFd f) (hm : mayT t f a = true) : faultTb (insT t f).1 = 0 :=
  (faultTb_iff _).2 (insT_ok (by rw [insT_may_eq h0 ok hm])).1
theorem getT_in {t : Tb} {n : Int} {x : Fld} (h : getT t n = (x, 0)) : faultTb t = 0 ∧ 0 ≤ n ∧ n < t.put ∧ t.put - n ≤ t.rows.length ∧ t.rows.getD (t.rows.length - (t.put - n).toNat) fd0 = x := by
  unfold getT at h
  by_cases a : faultTb t ≠ 0
  · rw [if_pos a] at h; exact absurd (congrArg Prod.snd h) a
  · rw [if_neg a] at h
    by_cases b : ¬ (0 ≤ n ∧ n < t.put)
    · rw [if_pos b] at h; exact absurd (congrArg Prod.snd h) (by simp)
    · rw [if_neg b] at h
      by_cases c : (t.rows.length : Int) < t.put - n
      · rw [if_pos c] at h; exact absurd (congrArg Prod.snd h) (by simp)
      · rw [if_neg c] at h
        have b' := Decidable.byContradiction b
        exact ⟨Decidable.byContradiction a, b'.1, b'.2, by omega, congrArg Prod.fst h⟩
theorem getT_of {t : Tb} {n : Int} (h0 : faultTb t = 0) (h1 : 0 ≤ n) (h2 : n < t.put) (h3 : t.put - n ≤ t.rows.length) : getT t n = (t.rows.getD (t.rows.length - (t.put - n).toNat) fd0, 0) := by
  unfold getT
  rw [if_neg (by rw [h0]; simp), if_neg (by omega), if_neg (by omega)]
theorem getT_may {t : Tb} {f x : Fld} {a : Bool} {n : Int} (ok : okFd f) (hm : mayT t f a = true) (h : getT t n = (x, 0)) : getT (insT t f).1 n = (x, 0) := by
  obtain ⟨h0, h1, h2, h3, h4⟩ := getT_in h
  have hf := fault_may h0 ok hm
  have okt := (faultTb_iff t).1 h0
  rw [insT_may_eq h0 ok hm] at hf ⊢
  rw [getT_of hf h1 (by simp only; omega) (by simp only [List.length_append, List.length_singleton]; omega)]
  simp only [List.length_append, List.length_singleton, Prod.mk.injEq, and_true]
  rw [show t.rows.length + 1 - (t.put + 1 - n).toNat = t.rows.length - (t.put - n).toNat by omega, List.getD_eq_getElem?_getD, List.getElem?_append_left (by omega), ← List.getD_eq_getElem?_getD, h4]
theorem getT_new {t : Tb} {f : Fld} {a : Bool} (h0 : faultTb t = 0) (ok : okFd f) (hm : mayT t f a = true) : getT (insT t f).1 t.put = (f, 0) := by
  have hf := fault_may h0 ok hm
  have okt := (faultTb_iff t).1 h0
  have hp := okt.2.1
  rw [insT_may_eq h0 ok hm] at hf ⊢
  rw [getT_of hf hp.1 (by simp only; omega) (by simp only [List.length_append, List.length_singleton]; omega)]
  simp only [List.length_append, List.length_singleton, Prod.mk.injEq, and_true]
  rw [show t.rows.length + 1 - (t.put + 1 - t.put).toNat = t.rows.length by omega, List.getD_eq_getElem?_getD, List.getElem?_append_right (by omega)]
  simp
theorem finT_get {t : Tb} {f : Fld} (h : hasT t f = true) : getT t (finT t f).1 = (f, 0) := by
  obtain ⟨i0, i1, i2, h0⟩ := finT_in h
  have okt := (faultTb_iff t).1 h0
  unfold hasT finT at h
  unfold finT at i0 i1 ⊢
  rw [if_neg (by rw [h0]; simp)] at h i0 i1 ⊢
  cases q : lastAt (fun x => decide (x = f)) t.rows with
  | some i =>
    rw [q] at i0 i1
    simp only at i0 i1 ⊢
    obtain ⟨hi, hx⟩ := lastAt_lt _ q
    have hx := of_decide_eq_true hx
    rw [getT_of h0 i0 (by omega) (by omega), show t.rows.length - (t.put - (t.put - (t.rows.length : Int) + (i : Int))).toNat = i by omega, hx]
  | none =>
    rw [q] at h
    simp only at h
    cases q2 : lastAt (fun x => decide (x.name = f.name)) t.rows with
    | some i => rw [q2] at h; simp at h
    | none => rw [q2] at h; simp at h
/-- tables that come of one another by insertions that may be -/
inductive Ins : Tb → List Fld → Tb → Prop
  | nil (t : Tb) : Ins t [] t
  | cons {t u : Tb} {f : Fld} {gs : List Fld} (ok : okFd f) (h : (insT t f).2 = 0) (r : Ins (insT t f).1 gs u) : Ins t (f :: gs) u
theorem Ins.snoc {t u : Tb} {gs : List Fld} {f : Fld} (h : Ins t gs u) (ok : okFd f) (k : (insT u f).2 = 0) : Ins t (gs ++ [f]) (insT u f).1 := by
  induction h with
  | nil t => exact .cons ok k (.nil _)
  | cons ok' h' _ ih => exact .cons ok' h' (ih k)
def tells (gs : List Fld) : List Int := (gs.map tellT).flatten
theorem tells_snoc (gs : List Fld) (f : Fld) : tells (gs ++ [f]) = tells gs ++ tellT f := by simp [tells]
/-- what holds of the writing: the table is one that may be, what is referred to is there, what is told leads there -/
structure EncInv (t : Tb) (l : List Fld) (s : EncS) : Prop where
  f : faultTb s.t = 0
  len : s.refs.length = l.length
  n0 : 0 ≤ s.need
  np : s.need ≤ s.t.put
  rs : ∀ i n, s.refs.getD i none = some n → 0 ≤ n ∧ n < s.need ∧ getT s.t n = (l.getD i fd0, 0)
  ins : ∃ gs, Ins t gs s.t ∧ s.tell = tells gs ∧ (gs.length : Int) = s.t.put - t.put
  old : s.t.put = t.put ∨ s.need = s.t.put
theorem getD_snoc {α : Type} (l : List α) (x d : α) (i : Nat) : (l ++ [x]).getD i d = if i < l.length then l.getD i d else if i = l.length then x else d := by
  rw [List.getD_eq_getElem?_getD, List.getD_eq_getElem?_getD]
  by_cases a : i < l.length
  · rw [if_pos a, List.getElem?_append_left a]
  · rw [if_neg a, List.getElem?_append_right (by omega)]
    by_cases b : i = l.length
    · rw [if_pos b, b, Nat.sub_self]; rfl
    · rw [if_neg b, List.getElem?_eq_none (by simp; omega)]; rfl
theorem encStep_inv {t : Tb} {l : List Fld} {s : EncS} {f : Fld} {ahead : Bool} (h : EncInv t l s) (ok : okFd f) : EncInv t (l ++ [f]) (encStep ahead s f) := by
  have base : EncInv t (l ++ [f]) ⟨s.t, s.tell, s.refs ++ [none], s.need⟩ := ⟨h.f, by simp [h.len], h.n0, h.np, (fun i n e => by
    simp only at e ⊢
    rw [getD_snoc] at e
    rw [getD_snoc, ← h.len]
    split at e
    · rename_i c; rw [if_pos c]; exact h.rs i n e
    · split at e <;> cases e), h.ins, h.old⟩
  have hlen := h.len
  unfold encStep
  split
  · exact base
  · split
    · rename_i _ c
      obtain ⟨a, b, _, _⟩ := finT_in c
      have hn0 := h.n0
      have hnp := h.np
      refine ⟨h.f, by simp [h.len], by simp only; omega, by simp only; omega, fun i n e => ?_, h.ins, ?_⟩
      · simp only at e ⊢
        rw [getD_snoc] at e
        rw [getD_snoc, ← hlen]
        split at e
        · rename_i d
          rw [if_pos d]
          have := h.rs i n e
          exact ⟨this.1, by omega, this.2.2⟩
        · split at e
          · rename_i d1 d2
            cases e
            rw [if_neg d1, if_pos d2]
            exact ⟨a, by omega, finT_get c⟩
          · cases e
      · have := h.old
        simp only
        omega
    · split
      · rename_i _ _ c
        have hm := insT_may_eq h.f ok c
        have hn0 := h.n0
        have hnp := h.np
        have hp := ((faultTb_iff _).1 h.f).2.1.1
        have hput : (insT s.t f).1.put = s.t.put + 1 := by rw [hm]
        refine ⟨fault_may h.f ok c, by simp [h.len], by simp only; omega, by simp only [hput]; omega, fun i n e => ?_, ?_, ?_⟩
        · simp only at e ⊢
          rw [getD_snoc] at e
          rw [getD_snoc, ← hlen]
          split at e
          · rename_i d
            rw [if_pos d]
            have := h.rs i n e
            exact ⟨this.1, by omega, getT_may ok c this.2.2⟩
          · split at e
            · rename_i d1 d2
              cases e
              rw [if_neg d1, if_pos d2]
              exact ⟨hp, by omega, getT_new h.f ok c⟩
            · cases e
        · obtain ⟨gs, g1, g2, g3⟩ := h.ins
          exact ⟨gs ++ [f], g1.snoc ok (by rw [hm]), by simp only; rw [g2, tells_snoc], by simp only [hput, List.length_append, List.length_singleton]; omega⟩
        · simp only [hput]
          omega
      · exact base
theorem encAll_inv {t : Tb} (h0 : faultTb t = 0) (ahead : Bool) (l : List Fld) (ok : ∀ f ∈ l, okFd f) : EncInv t l (encAll ahead t l) := by
  have hp := ((faultTb_iff _).1 h0).2.1.1
  have key : ∀ (l2 l1 : List Fld) (s : EncS), EncInv t l1 s → (∀ f ∈ l2, okFd f) → EncInv t (l1 ++ l2) (l2.foldl (encStep ahead) s) := by
    intro l2
    induction l2 with
    | nil => intro l1 s h _; rw [List.append_nil]; exact h
    | cons x l2 ih =>
      intro l1 s h hk
      have := ih (l1 ++ [x]) _ (encStep_inv (ahead := ahead) h (hk x (List.mem_cons_self ..))) (fun y hy => hk y (List.mem_cons_of_mem _ hy))
      rw [List.append_assoc] at this
      exact this
  exact key l [] ⟨t, [], [], 0⟩ ⟨h0, rfl, Int.le_refl _, hp, fun i n e => by simp at e, ⟨[], .nil t, rfl, by simp⟩, .inl rfl⟩ ok
/-- what is told of one field is its two lengths, its Name and its Value -/
theorem tellT_short {f : Fld} (ok : okFd f) : tellT f = (64 + (f.name.length : Int)) :: (f.name ++ ((f.val.length : Int) :: f.val)) := by
  unfold okFd at ok
  unfold tellT pxT
  rw [if_pos (by omega), if_pos (by omega)]
  simp
theorem appR_tell {t : Tb} {f : Fld} (ok : okFd f) (h : (insT t f).2 = 0) (more : List Int) : appR t (tellT f ++ more) = ((insT t f).1, ((tellT f).length : Int), 0) := by
  have ok' := ok
  unfold okFd at ok'
  have e1 : tellT f ++ more = pxL 64 5 f.name.length ++ f.name ++ ((pxL 0 7 f.val.length ++ f.val) ++ more) := by unfold tellT; simp only [List.append_assoc]; rfl
  have hb0 : (tellT f ++ more).getD 0 0 = 64 + (f.name.length : Int) := by rw [tellT_short ok]; rfl
  have hN := txt_backF (first := 64) (w := 5) (by decide) (by decide) f.name ((pxL 0 7 f.val.length ++ f.val) ++ more) (by omega)
  have hT := txt_backF (first := 0) (w := 7) (by decide) (by decide) f.val more (by omega)
  have hlen : (tellT f).length = (pxL 64 5 f.name.length).length + f.name.length + ((pxL 0 7 f.val.length).length + f.val.length) := by unfold tellT; simp only [List.length_append]; rw [show pxT 64 31 (f.name.length : Int) = pxL 64 5 f.name.length from rfl, show pxT 0 127 (f.val.length : Int) = pxL 0 7 f.val.length from rfl]; omega
  unfold appR
  rw [hb0, if_neg (by omega), if_pos (by omega), e1, hN]
  simp only
  rw [if_neg (by simp), Int.toNat_natCast, drop_len (by rw [List.length_append]), hT]
  simp only
  rw [if_neg (by simp)]
  simp only [h, Prod.mk.injEq, and_true, true_and, hlen]
  omega
end Go.Proofs.YtpfahdogedchpaaDoor.P
/- What was told ahead is heard, whole or cut anywhere; then what was written is read. Plain mathematics. Nothing of the program's. -/
namespace Go.Proofs.YtpfahdogedchpaaDoor.P
set_option linter.unusedVariables false

theorem txt_cutF {first w : Int} (hw : 1 ≤ w ∧ w ≤ 8) (hf : first % (topW w + 1) = 0) (t : List Int) (ht : t.length ≤ 120) {k : Nat} (hk : k < (pxL first w t.length).length + t.length) : (pxTR ((pxL first w t.length ++ t).take k) w).2.2 = 4 := by
  have hF : pxF first w t.length = 0 := pxF_of hw (by omega) hf
  by_cases a : k < (pxL first w t.length).length
  · rw [List.take_append_of_le_length (by omega)]
    have := px_cut hF k a
    unfold pxTR
    rw [this, if_pos (by simp)]
  · rw [List.take_append, List.take_of_length_le (by omega)]
    have := px_back hF (t.take (k - (pxL first w t.length).length))
    unfold pxTR
    rw [this]
    simp only
    rw [if_neg (by simp), if_neg (by omega), if_pos (by simp only [List.length_append, List.length_take]; omega)]
theorem tellT_eq2 (f : Fld) : tellT f = (pxL 64 5 f.name.length ++ f.name) ++ (pxL 0 7 f.val.length ++ f.val) := by
  unfold tellT
  simp only [List.append_assoc]
  rfl
theorem tellT_pos {f : Fld} (ok : okFd f) : 0 < (tellT f).length := by rw [tellT_short ok]; simp
theorem appR_cut {f : Fld} (ok : okFd f) {k : Nat} (h0 : 0 < k) (h1 : k < (tellT f).length) (t : Tb) : (appR t ((tellT f).take k)).2.2 = 4 := by
  have ok' := ok
  unfold okFd at ok'
  have hb0 : ((tellT f).take k).getD 0 0 = 64 + (f.name.length : Int) := by
    rw [tellT_short ok]
    obtain ⟨j, rfl⟩ : ∃ j, k = j + 1 := ⟨k - 1, by omega⟩
    rfl
  rw [tellT_eq2, List.length_append, List.length_append, List.length_append] at h1
  unfold appR
  rw [hb0, if_neg (by omega), if_pos (by omega), tellT_eq2]
  by_cases a : k < (pxL 64 5 f.name.length).length + f.name.length
  · have := txt_cutF (first := 64) (w := 5) (by decide) (by decide) f.name (by omega) a
    rw [List.take_append_of_le_length (by rw [List.length_append]; omega), if_pos (by rw [this]; simp), this]
  · have hN := txt_backF (first := 64) (w := 5) (by decide) (by decide) f.name ((pxL 0 7 f.val.length ++ f.val).take (k - (pxL 64 5 f.name.length ++ f.name).length)) (by omega)
    have hC := txt_cutF (first := 0) (w := 7) (by decide) (by decide) f.val (by omega) (k := k - (pxL 64 5 f.name.length ++ f.name).length) (by rw [List.length_append]; omega)
    rw [List.take_append, List.take_of_length_le (by rw [List.length_append]; omega), hN]
    simp only
    rw [if_neg (by simp), Int.toNat_natCast, drop_len (by rw [List.length_append]), if_pos (by rw [hC]; simp), hC]
theorem tells_cons (f : Fld) (gs : List Fld) : tells (f :: gs) = tellT f ++ tells gs := by simp [tells]
theorem Ins.oks {t u : Tb} {gs : List Fld} (h : Ins t gs u) : ∀ f ∈ gs, okFd f := by
  induction h with
  | nil t => intro f hf; cases hf
  | cons ok _ _ ih => intro f hf; rcases List.mem_cons.1 hf with rfl | hf; exact ok; exact ih f hf
theorem Ins.fault {t u : Tb} {gs : List Fld} (h : Ins t gs u) (h0 : faultTb t = 0) : faultTb u = 0 := by
  induction h with
  | nil t => exact h0
  | cons ok k _ ih => exact ih ((faultTb_iff _).2 (insT_ok k).1)
theorem Ins.split : ∀ {g1 : List Fld} {t u : Tb} {g2 : List Fld}, Ins t (g1 ++ g2) u → ∃ v, Ins t g1 v ∧ Ins v g2 u
  | [], t, u, g2, h => ⟨t, .nil t, h⟩
  | f :: g1, t, u, g2, h => by
    cases h with
    | cons ok k r =>
      obtain ⟨v, a, b⟩ := Ins.split r
      exact ⟨v, .cons ok k a, b⟩
theorem tells_len {gs : List Fld} (ok : ∀ f ∈ gs, okFd f) : gs.length ≤ (tells gs).length := by
  induction gs with
  | nil => exact Nat.le_refl _
  | cons f gs ih =>
    have := ih (fun x hx => ok x (List.mem_cons_of_mem _ hx))
    have := tellT_pos (ok f (List.mem_cons_self ..))
    rw [tells_cons, List.length_append, List.length_cons]
    omega
/-- what is told is put in, as far as it is whole -/
theorem apps_tells {rest : List Int} (hr : rest = [] ∨ ∀ t', (appR t' rest).2.2 = 4) {t u : Tb} {gs : List Fld} (h : Ins t gs u) : ∀ (pre : List Int) (g : Nat), gs.length < g → appsR g t (pre ++ (tells gs ++ rest)) pre.length = (u, ((pre.length + (tells gs).length : Nat) : Int), 0) := by
  induction h with
  | nil t =>
    intro pre g hg
    obtain ⟨g, rfl⟩ : ∃ j, g = j + 1 := ⟨g - 1, by omega⟩
    unfold appsR
    have e : tells [] = [] := rfl
    rw [e, List.nil_append, List.drop_left]
    rcases hr with rfl | hr
    · rw [if_pos (by simp)]; simp
    · rw [if_pos (hr t)]; simp
  | @cons t u f gs ok k r ih =>
    intro pre g hg
    rw [List.length_cons] at hg
    obtain ⟨g, rfl⟩ : ∃ j, g = j + 1 := ⟨g - 1, by omega⟩
    have hp := tellT_pos ok
    unfold appsR
    rw [List.drop_left, tells_cons, List.append_assoc, appR_tell ok k]
    simp only
    rw [if_neg (by simp only [List.length_append]; omega), if_neg (by simp), if_neg (by simp), Int.toNat_natCast]
    have := ih (pre ++ tellT f) g (by omega)
    rw [List.append_assoc, List.length_append] at this
    rw [this]
    simp only [List.length_append, Prod.mk.injEq, and_true, true_and]
    omega
theorem tells_take : ∀ (gs : List Fld), (∀ f ∈ gs, okFd f) → ∀ (k : Nat), ∃ g1 g2 rest, gs = g1 ++ g2 ∧ (tells gs).take k = tells g1 ++ rest ∧ (rest = [] ∨ ∀ t', (appR t' rest).2.2 = 4)
  | [], _, k => ⟨[], [], [], rfl, by simp [tells], .inl rfl⟩
  | f :: gs, ok, k => by
    have okf := ok f (List.mem_cons_self ..)
    by_cases a : k < (tellT f).length
    · by_cases b : k = 0
      · subst b
        exact ⟨[], f :: gs, [], rfl, by simp [tells], .inl rfl⟩
      · refine ⟨[], f :: gs, (tellT f).take k, rfl, ?_, .inr (appR_cut okf (by omega) a)⟩
        rw [tells_cons, List.take_append_of_le_length (by omega)]
        rfl
    · obtain ⟨g1, g2, rest, h1, h2, h3⟩ := tells_take gs (fun x hx => ok x (List.mem_cons_of_mem _ hx)) (k - (tellT f).length)
      refine ⟨f :: g1, g2, rest, by rw [h1]; rfl, ?_, h3⟩
      rw [tells_cons, List.take_append, List.take_of_length_le (by omega), h2, tells_cons, List.append_assoc]
/-- what was told, heard whole -/
theorem appAll_tells {t u : Tb} {gs : List Fld} (h0 : faultTb t = 0) (h : Ins t gs u) : appAll t (tells gs) = (u, ((tells gs).length : Int), 0) := by
  have := apps_tells (.inl rfl) h [] ((tells gs).length + 1) (by have := tells_len h.oks; omega)
  rw [List.append_nil, List.nil_append, List.length_nil, Nat.zero_add] at this
  unfold appAll
  rw [if_neg (by rw [h0]; simp), this]
/-- what was told, heard in two parts -/
theorem appAll_cut {t u : Tb} {gs : List Fld} (h0 : faultTb t = 0) (h : Ins t gs u) (k : Nat) : ∃ v, ∃ n : Nat, appAll t ((tells gs).take k) = (v, (n : Int), 0) ∧ n ≤ k ∧ n ≤ (tells gs).length ∧ appAll v ((tells gs).drop n) = (u, (((tells gs).length - n : Nat) : Int), 0) := by
  obtain ⟨g1, g2, rest, e1, e2, hr⟩ := tells_take gs h.oks k
  rw [e1] at h
  obtain ⟨v, a, b⟩ := h.split
  have hl := congrArg List.length e2
  rw [List.length_take, List.length_append] at hl
  have e3 : tells gs = tells g1 ++ tells g2 := by rw [e1]; simp [tells]
  refine ⟨v, (tells g1).length, ?_, by omega, by omega, ?_⟩
  · have := apps_tells hr a [] ((tells g1 ++ rest).length + 1) (by have := tells_len a.oks; rw [List.length_append]; omega)
    rw [List.nil_append, List.length_nil, Nat.zero_add] at this
    unfold appAll
    rw [if_neg (by rw [h0]; simp), e2, this]
  · rw [e3, List.drop_left, appAll_tells (a.fault h0) b]
    simp
end Go.Proofs.YtpfahdogedchpaaDoor.P
/- The three promises of reading back, in plain mathematics. Nothing of the program's. -/
namespace Go.Proofs.YtpfahdogedchpaaDoor.P
set_option linter.unusedVariables false

theorem faultFl_iff (l : List Fld) : faultFl l = 0 ↔ l.length ≤ 8 ∧ ∀ f ∈ l, okFd f := by
  unfold faultFl
  by_cases a : 8 < l.length
  · rw [if_pos a]; exact ⟨fun h => (by cases h), fun h => (by omega)⟩
  · rw [if_neg a]
    by_cases b : ∀ f ∈ l, okFd f
    · rw [if_pos b]; exact ⟨fun _ => ⟨by omega, b⟩, fun _ => rfl⟩
    · rw [if_neg b]; exact ⟨fun h => (by cases h), fun h => absurd h.2 b⟩
theorem encFl_ok {t : Tb} {l : List Fld} {ahead : Bool} (h0 : faultTb t = 0) (hl : faultFl l = 0) : encFl t l ahead = ((encAll ahead t l).t, (encAll ahead t l).tell, linesT (encAll ahead t l).need l (encAll ahead t l).refs, 0) := by
  unfold encFl
  rw [if_neg (by rw [h0]; simp), if_neg (by rw [hl]; simp)]
theorem Ins.none {t u : Tb} (h : Ins t [] u) : u = t := by
  generalize hg : ([] : List Fld) = gs at h
  cases h with
  | nil _ => rfl
  | cons _ _ _ => cases hg
/-- read by whoever has the table as it came to be -/
theorem encFl_dec {t : Tb} {l : List Fld} {ahead : Bool} (h0 : faultTb t = 0) (hl : faultFl l = 0) : decFl (encAll ahead t l).t (linesT (encAll ahead t l).need l (encAll ahead t l).refs) = (l, 0) := by
  obtain ⟨h8, ok⟩ := (faultFl_iff l).1 hl
  have I := encAll_inv h0 ahead l ok
  exact dec_back I.f I.n0 I.np I.len ok h8 (fun i n _ e => by have := I.rs i n e; exact ⟨this.1, this.2.1, fun _ => this.2.2⟩)
theorem encFl_heard {t : Tb} {l : List Fld} {ahead : Bool} (h0 : faultTb t = 0) (hl : faultFl l = 0) : appAll t (encAll ahead t l).tell = ((encAll ahead t l).t, ((encAll ahead t l).tell.length : Int), 0) := by
  have I := encAll_inv h0 ahead l ((faultFl_iff l).1 hl).2
  obtain ⟨gs, g1, g2, _⟩ := I.ins
  rw [g2]
  exact appAll_tells h0 g1
theorem encFl_cut {t : Tb} {l : List Fld} {ahead : Bool} (h0 : faultTb t = 0) (hl : faultFl l = 0) (k : Nat) : ∃ v, ∃ n : Nat, appAll t ((encAll ahead t l).tell.take k) = (v, (n : Int), 0) ∧ n ≤ k ∧ n ≤ (encAll ahead t l).tell.length ∧ appAll v ((encAll ahead t l).tell.drop n) = ((encAll ahead t l).t, (((encAll ahead t l).tell.length - n : Nat) : Int), 0) := by
  have I := encAll_inv h0 ahead l ((faultFl_iff l).1 hl).2
  obtain ⟨gs, g1, g2, _⟩ := I.ins
  rw [g2]
  exact appAll_cut h0 g1 k
/-- who has not heard waits, or there was nothing to hear -/
theorem encFl_wait {t : Tb} {l : List Fld} {ahead : Bool} (h0 : faultTb t = 0) (hl : faultFl l = 0) : t.put ≤ (encAll ahead t l).t.put ∧ (t.put < (encAll ahead t l).t.put → decFl t (linesT (encAll ahead t l).need l (encAll ahead t l).refs) = ([], 14)) ∧ ((encAll ahead t l).t.put = t.put → decFl t (linesT (encAll ahead t l).need l (encAll ahead t l).refs) = (l, 0)) := by
  have I := encAll_inv h0 ahead l ((faultFl_iff l).1 hl).2
  obtain ⟨gs, g1, _, g3⟩ := I.ins
  have hp := ((faultTb_iff _).1 I.f).2.1.2
  refine ⟨by omega, fun hlt => ?_, fun he => ?_⟩
  · have hn : (encAll ahead t l).need = (encAll ahead t l).t.put := I.old.resolve_left (by omega)
    have hn0 := I.n0
    have hB := px_back (pxF_of (first := 0) (wi := 8) (n := (encAll ahead t l).need) (by decide) (by omega) (by decide)) (((l.zip (encAll ahead t l).refs).map (fun q => lineT (encAll ahead t l).need q.1 q.2)).flatten)
    have e : linesT (encAll ahead t l).need l (encAll ahead t l).refs = pxL 0 8 (encAll ahead t l).need ++ ((l.zip (encAll ahead t l).refs).map (fun q => lineT (encAll ahead t l).need q.1 q.2)).flatten := rfl
    unfold decFl
    rw [if_neg (by rw [h0]; simp), e, hB]
    simp only
    rw [if_neg (by simp), if_pos (by omega)]
  · have hg : gs = [] := List.length_eq_zero_iff.1 (by omega)
    have ht : (encAll ahead t l).t = t := by rw [hg] at g1; exact g1.none
    have := encFl_dec (ahead := ahead) h0 hl
    rw [ht] at this
    exact this
theorem insT_put1 {t : Tb} {f : Fld} (hi : (insT t f).2 = 0) : (insT t f).1.put = t.put + 1 := by
  unfold insT at hi ⊢
  split at hi
  · contradiction
  · split at hi
    · cases hi
    · split at hi
      · cases hi
      · split at hi
        · cases hi
        · rename_i a b c d
          rw [if_neg a, if_neg b, if_neg c, if_neg d]
/-- a field that was there is there still, or is old -/
theorem getT_ins {t : Tb} {f x : Fld} {n : Int} (hi : (insT t f).2 = 0) (h : getT t n = (x, 0)) : getT (insT t f).1 n = (x, 0) ∨ getT (insT t f).1 n = (fd0, 16) := by
  obtain ⟨h0, h1, h2, h3, h4⟩ := getT_in h
  obtain ⟨okt, k, k1, k2⟩ := insT_ok hi
  have hf := (faultTb_iff _).2 okt
  have hput := insT_put1 hi
  have hlen : (insT t f).1.rows.length = t.rows.length - k + 1 := by rw [k2, List.length_append, List.length_drop, List.length_singleton]
  by_cases c : t.put + 1 - n ≤ (insT t f).1.rows.length
  · refine .inl ?_
    rw [getT_of hf h1 (by omega) (by omega), hput, hlen, k2]
    simp only [Prod.mk.injEq, and_true]
    rw [List.getD_eq_getElem?_getD, List.getElem?_append_left (by rw [List.length_drop]; omega), List.getElem?_drop, ← List.getD_eq_getElem?_getD, show k + (t.rows.length - k + 1 - (t.put + 1 - n).toNat) = t.rows.length - (t.put - n).toNat by omega, h4]
  · refine .inr ?_
    unfold getT
    rw [if_neg (by rw [hf]; simp), if_neg (by omega), if_pos (by omega)]
theorem getT_old {t : Tb} {f : Fld} {n : Int} (hi : (insT t f).2 = 0) (h : getT t n = (fd0, 16)) : getT (insT t f).1 n = (fd0, 16) := by
  obtain ⟨okt, k, k1, k2⟩ := insT_ok hi
  have hf := (faultTb_iff _).2 okt
  have hput := insT_put1 hi
  have h0 : faultTb t = 0 := by
    unfold insT at hi
    split at hi
    · contradiction
    · rename_i a; exact Decidable.byContradiction a
  have hlen : (insT t f).1.rows.length = t.rows.length - k + 1 := by rw [k2, List.length_append, List.length_drop, List.length_singleton]
  unfold getT at h
  rw [if_neg (by rw [h0]; simp)] at h
  by_cases b : ¬ (0 ≤ n ∧ n < t.put)
  · rw [if_pos b] at h; exact absurd (congrArg Prod.snd h) (by simp)
  · rw [if_neg b] at h
    have b' := Decidable.byContradiction b
    by_cases c : (t.rows.length : Int) < t.put - n
    · unfold getT
      rw [if_neg (by rw [hf]; simp), if_neg (by omega), if_pos (by omega)]
    · rw [if_neg c] at h
      exact absurd (congrArg Prod.snd h) (by simp)
theorem getT_later {t u : Tb} {gs : List Fld} {x : Fld} {n : Int} (h : Ins t gs u) (hg : getT t n = (x, 0) ∨ getT t n = (fd0, 16)) : getT u n = (x, 0) ∨ getT u n = (fd0, 16) := by
  induction h with
  | nil t => exact hg
  | cons ok k _ ih => exact ih (hg.elim (fun e => getT_ins k e) (fun e => .inr (getT_old k e)))
/-- a line that is read, or is old -/
theorem line_or {t : Tb} {need : Int} {f : Fld} {r : Option Int} (ok : okFd f) (hn : need ≤ 4611686018427387903) (hr : ∀ n, r = some n → 0 ≤ n ∧ n < need ∧ (getT t n = (f, 0) ∨ getT t n = (fd0, 16))) (more : List Int) :
    (lineR t need (lineT need f r ++ more) = (f, ((lineT need f r).length : Int), 0) ∨ ((lineR t need (lineT need f r ++ more)).2.2 = 16 ∧ ∃ n, 0 ≤ n ∧ getT t n = (fd0, 16))) ∧ 0 < (lineT need f r).length := by
  by_cases c1 : 0 ≤ kpL f true
  · have := line_back (t := t) (need := need) (f := f) (r := r) ok hn (fun n e => by have := hr n e; exact ⟨this.1, this.2.1, fun h => by omega⟩) more
    exact ⟨.inl this.1, this.2⟩
  · cases r with
    | none =>
      have := line_back (t := t) (need := need) (f := f) (r := none) ok hn (fun n e => by cases e) more
      exact ⟨.inl this.1, this.2⟩
    | some n =>
      obtain ⟨n0, n1, ng⟩ := hr n rfl
      rcases ng with ng | ng
      · have := line_back (t := t) (need := need) (f := f) (r := some n) ok hn (fun m e => by cases e; exact ⟨n0, n1, fun _ => ng⟩) more
        exact ⟨.inl this.1, this.2⟩
      · have e : lineT need f (some n) = pxL 128 6 (need - 1 - n) := by unfold lineT; rw [if_neg c1]; rfl
        have ht : topW 6 = 63 := rfl
        have hB := px_back (pxF_of (first := 128) (wi := 6) (n := need - 1 - n) (by decide) (by omega) (by decide)) more
        have hb0 := pxL_first (first := 128) (w := 6) (n := need - 1 - n) (by omega) more
        rw [ht] at hb0
        rw [e]
        refine ⟨.inr ⟨?_, n, n0, ng⟩, pxL_ne _ _ _⟩
        have hlt : ¬ 192 ≤ (pxL 128 6 (need - 1 - n) ++ more).getD 0 0 := by rw [hb0]; split <;> omega
        have hge : 128 ≤ (pxL 128 6 (need - 1 - n) ++ more).getD 0 0 := by rw [hb0]; split <;> omega
        unfold lineR
        rw [if_neg hlt, if_pos hge, hB]
        simp only
        rw [if_neg (by simp), if_neg (by omega), show need - 1 - (need - 1 - n) = n by omega, ng]
theorem lines_or {t : Tb} {need : Int} (hn : need ≤ 4611686018427387903) : ∀ (l : List Fld) (rs : List (Option Int)) (g : Nat) (out : List Fld), rs.length = l.length → (∀ f ∈ l, okFd f) → (∀ i n, i < l.length → rs.getD i none = some n → 0 ≤ n ∧ n < need ∧ (getT t n = (l.getD i fd0, 0) ∨ getT t n = (fd0, 16))) →
    out.length + l.length ≤ 8 → l.length ≤ g → linesR t need g (((l.zip rs).map (fun q => lineT need q.1 q.2)).flatten) out = (out ++ l, 0) ∨ ((linesR t need g (((l.zip rs).map (fun q => lineT need q.1 q.2)).flatten) out).2 = 16 ∧ ∃ n, 0 ≤ n ∧ getT t n = (fd0, 16))
  | [], rs, g, out, _, _, _, _, _ => by
    refine .inl ?_
    simp only [List.zip_nil_left, List.map_nil, List.flatten_nil, List.append_nil]
    cases g with
    | zero => rw [linesR, if_pos rfl]
    | succ g => rw [linesR, if_pos rfl]
  | f :: l, [], g, out, h, _, _, _, _ => by simp at h
  | f :: l, r :: rs, 0, out, _, _, _, _, h => by simp at h
  | f :: l, r :: rs, g + 1, out, h1, h2, h3, h4, h5 => by
    have hl := line_or (t := t) (need := need) (f := f) (r := r) (h2 f (List.mem_cons_self ..)) hn (fun n e => by have := h3 0 n (by simp) (by simpa using e); simpa using this) (((l.zip rs).map (fun q => lineT need q.1 q.2)).flatten)
    rw [List.zip_cons_cons, List.map_cons, List.flatten_cons]
    simp only
    rw [linesR, if_neg (by intro e; have := congrArg List.length e; rw [List.length_append, List.length_nil] at this; have := hl.2; omega), if_neg (by simp at h4; omega)]
    rcases hl.1 with e | ⟨e, n, n0, ng⟩
    · rw [e]
      simp only
      rw [if_neg (by simp), Int.toNat_natCast, List.drop_left]
      have := lines_or hn l rs g (out ++ [f]) (by simpa using h1) (fun x hx => h2 x (List.mem_cons_of_mem _ hx)) (fun i n hi e => by have := h3 (i + 1) n (by simp; omega) (by simpa using e); simpa using this) (by simp at h4 ⊢; omega) (by simp at h5; omega)
      rw [List.append_assoc] at this
      exact this
    · rw [if_pos (by rw [e]; simp)]
      exact .inr ⟨e, n, n0, ng⟩
/-- what was written is read later, too, or is old -/
theorem encFl_later {t w : Tb} {l gs : List Fld} {ahead : Bool} (h0 : faultTb t = 0) (hl : faultFl l = 0) (hI : Ins (encAll ahead t l).t gs w) : decFl w (linesT (encAll ahead t l).need l (encAll ahead t l).refs) = (l, 0) ∨ (decFl w (linesT (encAll ahead t l).need l (encAll ahead t l).refs) = ([], 16) ∧ (w.rows.length : Int) < w.put) := by
  obtain ⟨h8, ok⟩ := (faultFl_iff l).1 hl
  have I := encAll_inv h0 ahead l ok
  have hw := hI.fault I.f
  have hput : (encAll ahead t l).t.put ≤ w.put := by
    have key : ∀ {t u : Tb} {gs : List Fld}, Ins t gs u → t.put ≤ u.put := by
      intro t u gs h
      induction h with
      | nil t => exact Int.le_refl _
      | @cons t u f gs ok k r ih =>
        have := insT_put1 k
        omega
    exact key hI
  have hp := ((faultTb_iff w).1 hw).2.1.2
  have hn0 := I.n0
  have hnp := I.np
  have hB := px_back (pxF_of (first := 0) (wi := 8) (n := (encAll ahead t l).need) (by decide) (by omega) (by decide)) (((l.zip (encAll ahead t l).refs).map (fun q => lineT (encAll ahead t l).need q.1 q.2)).flatten)
  have hL := lines_or (t := w) (need := (encAll ahead t l).need) (by omega) l (encAll ahead t l).refs 9 [] I.len ok (fun i n _ e => by have := I.rs i n e; exact ⟨this.1, this.2.1, getT_later hI (.inl this.2.2)⟩) (by simpa using h8) (by omega)
  have e : linesT (encAll ahead t l).need l (encAll ahead t l).refs = pxL 0 8 (encAll ahead t l).need ++ ((l.zip (encAll ahead t l).refs).map (fun q => lineT (encAll ahead t l).need q.1 q.2)).flatten := rfl
  unfold decFl
  rw [if_neg (by rw [hw]; simp), e, hB]
  simp only
  rw [if_neg (by simp), if_neg (by omega), Int.toNat_natCast, List.drop_left]
  rcases hL with hL | ⟨hL, n, n0, ng⟩
  · refine .inl ?_
    rw [hL]
    simp only [List.nil_append]
    rw [if_neg (by simp), hl, if_neg (by simp)]
  · refine .inr ⟨by rw [if_pos (by rw [hL]; simp), hL], ?_⟩
    unfold getT at ng
    rw [if_neg (by rw [hw]; simp)] at ng
    by_cases b : ¬ (0 ≤ n ∧ n < w.put)
    · rw [if_pos b] at ng; exact absurd (congrArg Prod.snd ng) (by simp)
    · rw [if_neg b] at ng
      by_cases c : (w.rows.length : Int) < w.put - n
      · omega
      · rw [if_neg c] at ng
        exact absurd (congrArg Prod.snd ng) (by simp)
end Go.Proofs.YtpfahdogedchpaaDoor.P
