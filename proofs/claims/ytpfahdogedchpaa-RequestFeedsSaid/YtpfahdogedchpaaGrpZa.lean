/- Several texts in one. -/
import Derived.Test.YtpfahdogedchpaaGrpA
import Derived.Test.YtpfahdogedchpaaGrpN
/- Fields of requests by P15: what all know, what is read: plain mathematics. Nothing of the program's. -/
namespace Go.Proofs.Ytpfahdogedchpaa.P
set_option linter.unusedVariables false

/-- what all know -/
def knL : List Fld := [⟨[58, 112, 97, 116, 104], [47]⟩, ⟨[58, 109, 101, 116, 104, 111, 100], [71, 69, 84]⟩, ⟨[58, 109, 101, 116, 104, 111, 100], [80, 79, 83, 84]⟩, ⟨[58, 115, 116, 97, 116, 117, 115], [50, 48, 48]⟩, ⟨[58, 115, 116, 97, 116, 117, 115], [52, 48, 52]⟩, ⟨[97, 103, 101], [48]⟩, ⟨[100, 97, 116, 101], []⟩, ⟨[101, 116, 97, 103], []⟩, ⟨[99, 111, 111, 107, 105, 101], []⟩, ⟨[115, 101, 114, 118, 101, 114], []⟩, ⟨[58, 97, 117, 116, 104, 111, 114, 105, 116, 121], []⟩]
/-- the text of them -/
def knT : List Int := [58, 112, 97, 116, 104, 61, 47, 32, 58, 109, 101, 116, 104, 111, 100, 61, 71, 69, 84, 32, 58, 109, 101, 116, 104, 111, 100, 61, 80, 79, 83, 84, 32, 58, 115, 116, 97, 116, 117, 115, 61, 50, 48, 48, 32, 58, 115, 116, 97, 116, 117, 115, 61, 52, 48, 52, 32, 97, 103, 101, 61, 48, 32, 100, 97, 116, 101, 61, 32, 101, 116, 97, 103, 61, 32, 99, 111, 111, 107, 105, 101, 61, 32, 115, 101, 114, 118, 101, 114, 61, 32, 58, 97, 117, 116, 104, 111, 114, 105, 116, 121, 61, 32]
def stepK (s : List Fld × Fld × Bool) (c : Int) : List Fld × Fld × Bool := if c = 32 then (s.1 ++ [s.2.1], fd0, false) else if c = 61 then (s.1, s.2.1, true) else if s.2.2 then (s.1, ⟨s.2.1.name, s.2.1.val ++ [c]⟩, s.2.2) else (s.1, ⟨s.2.1.name ++ [c], s.2.1.val⟩, s.2.2)
def stK (i : Nat) : List Fld × Fld × Bool := (knT.take i).foldl stepK ([], fd0, false)
theorem stK_all : stK 103 = (knL, fd0, false) := by kernel_rfl
theorem knT_len : knT.length = 103 := rfl
theorem stK_succ {i : Nat} (h : i < knT.length) : stK (i + 1) = stepK (stK i) (knT.getD i 0) := by
  unfold stK
  rw [List.take_succ_eq_append_getElem h, List.foldl_append, List.getD_eq_getElem?_getD, List.getElem?_eq_getElem h]
  rfl
theorem stK_len (i : Nat) : (stK i).1.length ≤ i ∧ (stK i).2.1.name.length ≤ i ∧ (stK i).2.1.val.length ≤ i := by
  induction i with
  | zero => exact ⟨Nat.le_refl _, Nat.le_refl _, Nat.le_refl _⟩
  | succ i ih =>
    rcases Nat.lt_or_ge i knT.length with h | h
    · rw [stK_succ h]
      unfold stepK
      split
      · simp [fd0]; omega
      · split
        · simp only; omega
        · split <;> simp <;> omega
    · have e : stK (i + 1) = stK i := by unfold stK; rw [List.take_of_length_le (by omega), List.take_of_length_le h]
      rw [e]; omega
theorem knT_in (i : Nat) (h : i < knT.length) : 32 ≤ knT.getD i 0 ∧ knT.getD i 0 < 128 := by
  have key : ∀ c ∈ knT, 32 ≤ c ∧ c < 128 := by decide
  rw [List.getD_eq_getElem?_getD, List.getElem?_eq_getElem h]
  exact key _ (List.getElem_mem h)
theorem knL_ok : ∀ x ∈ knL, okFd x := by decide
theorem knL_len : knL.length = 11 := rfl
/-- what Check says, by P15.2 -/
def faultFl (l : List Fld) : Int := if 8 < l.length then 1 else if ∀ f ∈ l, okFd f then 0 else 3
/-- one that all know -/
def knR (b : List Int) (w : Int) : Fld × Int × Int := if (pxR b w).2.2 ≠ 0 then (fd0, 0, (pxR b w).2.2) else if 10 < (pxR b w).1 then (fd0, 0, 5) else (knL.getD (pxR b w).1.toNat fd0, (pxR b w).2.1, 0)
/-- a value behind a name: (name, where it stands, error of the name) -/
def valR (b : List Int) (nm : List Int) (k e : Int) : Fld × Int × Int := if e ≠ 0 then (⟨nm, []⟩, 0, e) else (⟨nm, (pxTR (b.drop k.toNat) 7).1⟩, k + (pxTR (b.drop k.toNat) 7).2.1, (pxTR (b.drop k.toNat) 7).2.2)
/-- a field of a section: (field, how many bytes, error), by P15.4 -/
def lineR (t : Tb) (need : Int) (b : List Int) : Fld × Int × Int :=
  if 192 ≤ b.getD 0 0 then knR b 6
  else if 128 ≤ b.getD 0 0 then (if (pxR b 6).2.2 ≠ 0 then (fd0, 0, (pxR b 6).2.2) else if need ≤ (pxR b 6).1 then (fd0, 0, 6) else ((getT t (need - 1 - (pxR b 6).1)).1, (pxR b 6).2.1, (getT t (need - 1 - (pxR b 6).1)).2))
  else if 64 ≤ b.getD 0 0 ∧ b.getD 0 0 < 80 then (if (knR b 4).2.2 ≠ 0 then (fd0, 0, (knR b 4).2.2) else (⟨(knR b 4).1.name, (pxTR (b.drop (knR b 4).2.1.toNat) 7).1⟩, (knR b 4).2.1 + (pxTR (b.drop (knR b 4).2.1.toNat) 7).2.1, (pxTR (b.drop (knR b 4).2.1.toNat) 7).2.2))
  else if 32 ≤ b.getD 0 0 ∧ b.getD 0 0 < 40 then (if (pxTR b 3).2.2 ≠ 0 then (fd0, 0, (pxTR b 3).2.2) else (⟨(pxTR b 3).1, (pxTR (b.drop (pxTR b 3).2.1.toNat) 7).1⟩, (pxTR b 3).2.1 + (pxTR (b.drop (pxTR b 3).2.1.toNat) 7).2.1, (pxTR (b.drop (pxTR b 3).2.1.toNat) 7).2.2))
  else (fd0, 0, 2)
/-- all fields of a section -/
def linesR (t : Tb) (need : Int) : Nat → List Int → List Fld → List Fld × Int
  | 0, b, out => if b = [] then (out, 0) else ([], 1)
  | n + 1, b, out => if b = [] then (out, 0) else if 8 ≤ out.length then ([], 1) else if (lineR t need b).2.2 ≠ 0 then ([], (lineR t need b).2.2) else linesR t need n (b.drop (lineR t need b).2.1.toNat) (out ++ [(lineR t need b).1])
/-- what Decode says, by P15.4 -/
def decFl (t : Tb) (b : List Int) : List Fld × Int :=
  if faultTb t ≠ 0 then ([], faultTb t) else if (pxR b 8).2.2 ≠ 0 then ([], (pxR b 8).2.2) else if t.put < (pxR b 8).1 then ([], 14)
  else if (linesR t (pxR b 8).1 9 (b.drop (pxR b 8).2.1.toNat) []).2 ≠ 0 then ([], (linesR t (pxR b 8).1 9 (b.drop (pxR b 8).2.1.toNat) []).2)
  else if faultFl (linesR t (pxR b 8).1 9 (b.drop (pxR b 8).2.1.toNat) []).1 ≠ 0 then ([], faultFl (linesR t (pxR b 8).1 9 (b.drop (pxR b 8).2.1.toNat) []).1) else linesR t (pxR b 8).1 9 (b.drop (pxR b 8).2.1.toNat) []
end Go.Proofs.Ytpfahdogedchpaa.P
/- Requests by P16: plain mathematics. Nothing of the program's. -/
namespace Go.Proofs.Ytpfahdogedchpaa.P
set_option linter.unusedVariables false

/-- Names of a request's own fields -/
def nmM : List Int := [58, 109, 101, 116, 104, 111, 100]
def nmP : List Int := [58, 112, 97, 116, 104]
def nmA : List Int := [58, 97, 117, 116, 104, 111, 114, 105, 116, 121]
/-- a byte that no Name may have -/
def badC (c : Int) : Bool := decide (c < 33) || decide (126 < c) || (decide (65 ≤ c) && decide (c ≤ 90))
def badN (l : List Int) : Bool := l.any badC
/-- one of the request's own -/
def isOwnF (f : Fld) : Bool := decide (f.name.getD 0 0 = 58)
def cntN (nm : List Int) (l : List Fld) : Nat := l.countP (fun f => decide (f.name = nm))
def okOwn (l : List Fld) : Prop := cntN nmM l = 1 ∧ cntN nmP l = 1 ∧ cntN nmA l ≤ 1 ∧ cntN nmM l + cntN nmP l + cntN nmA l = l.length
instance (l : List Fld) : Decidable (okOwn l) := by unfold okOwn; infer_instance
def okRq (l : List Fld) : Prop := (∀ f ∈ l, badN f.name = false) ∧ (∀ f ∈ l.dropWhile isOwnF, isOwnF f = false) ∧ okOwn (l.takeWhile isOwnF)
instance (l : List Fld) : Decidable (okRq l) := by unfold okRq; infer_instance
/-- what Check says, by P16.1 -/
def faultRq (l : List Fld) : Int := if faultFl l ≠ 0 then faultFl l else if okRq l then 0 else 3
theorem faultRq_bad {l : List Fld} (h : faultFl l ≠ 0) : faultRq l = faultFl l := by unfold faultRq; rw [if_pos h]
theorem faultRq_good {l : List Fld} (h : faultFl l = 0) : faultRq l = if okRq l then 0 else 3 := by unfold faultRq; rw [if_neg (by omega)]
theorem faultFl_cases (l : List Fld) : faultFl l = 0 ∨ faultFl l = 1 ∨ faultFl l = 3 := by
  unfold faultFl
  split
  · exact Or.inr (Or.inl rfl)
  · split
    · exact Or.inl rfl
    · exact Or.inr (Or.inr rfl)
theorem faultRq_cases (l : List Fld) : faultRq l = 0 ∨ faultRq l = 1 ∨ faultRq l = 3 := by
  rcases faultFl_cases l with h | h | h
  · rw [faultRq_good h]
    split
    · exact Or.inl rfl
    · exact Or.inr (Or.inr rfl)
  · rw [faultRq_bad (by omega), h]; exact Or.inr (Or.inl rfl)
  · rw [faultRq_bad (by omega), h]; exact Or.inr (Or.inr rfl)
theorem faultRq_iff {l : List Fld} : faultRq l = 0 ↔ faultFl l = 0 ∧ okRq l := by
  by_cases h : faultFl l = 0
  · rw [faultRq_good h]
    constructor
    · intro q
      split at q
      · exact ⟨h, by assumption⟩
      · omega
    · intro q
      rw [if_pos q.2]
  · rw [faultRq_bad h]
    exact ⟨fun q => absurd q h, fun q => q.1⟩

/-! ## Frames of a request -/
/-- a frame: its kind, its bytes, and what stands behind -/
structure Prt where
  kind : Int
  dat : List Int
  rest : List Int
def prt0 : Prt := ⟨0, [], []⟩
/-- the first frame, and an error -/
def firstR (b : List Int) : Prt × Int :=
  match rd b with
  | .error e => (prt0, e)
  | .ok (k, s) =>
    match rd s with
    | .error e => (prt0, e)
    | .ok (n, u) => if 400 < n then (prt0, 1) else if (u.length : Int) < n then (prt0, 4) else (⟨k, u.take n.toNat, u.drop n.toNat⟩, 0)
theorem firstR_e1 {b : List Int} {e : Int} (h : rd b = .error e) : firstR b = (prt0, e) := by unfold firstR; rw [h]
theorem firstR_e2 {b s : List Int} {k e : Int} (h : rd b = .ok (k, s)) (h2 : rd s = .error e) : firstR b = (prt0, e) := by unfold firstR; rw [h]; dsimp only; rw [h2]
theorem firstR_ok {b s u : List Int} {k n : Int} (h : rd b = .ok (k, s)) (h2 : rd s = .ok (n, u)) : firstR b = if 400 < n then (prt0, 1) else if (u.length : Int) < n then (prt0, 4) else (⟨k, u.take n.toNat, u.drop n.toNat⟩, 0) := by unfold firstR; rw [h]; dsimp only; rw [h2]
/-- each way of a first frame -/
theorem firstR_way (b : List Int) : firstR b = (prt0, 4) ∨ firstR b = (prt0, 1) ∨ ∃ k n s u, rd b = .ok (k, s) ∧ rd s = .ok (n, u) ∧ ¬ 400 < n ∧ ¬ (u.length : Int) < n ∧ firstR b = (⟨k, u.take n.toNat, u.drop n.toNat⟩, 0) := by
  rcases h1 : rd b with e | ⟨k, s⟩
  · rw [firstR_e1 h1, rd_err h1]; exact Or.inl rfl
  · rcases h2 : rd s with e | ⟨n, u⟩
    · rw [firstR_e2 h1 h2, rd_err h2]; exact Or.inl rfl
    · rw [firstR_ok h1 h2]
      by_cases q1 : 400 < n
      · rw [if_pos q1]; exact Or.inr (Or.inl rfl)
      · rw [if_neg q1]
        by_cases q2 : (u.length : Int) < n
        · rw [if_pos q2]; exact Or.inl rfl
        · rw [if_neg q2]; exact Or.inr (Or.inr ⟨k, n, s, u, rfl, h2, q1, q2, rfl⟩)
theorem rd_less {s t : List Int} {n : Int} (h : rd s = .ok (n, t)) : t.length < s.length := by
  obtain ⟨h1, h2, h3⟩ := rd_ok h
  have q1 := kOf_bd (s.getD 0 0)
  have q2 := h1.1
  rw [h3, List.length_drop]
  omega
theorem firstR_less {b : List Int} (h : (firstR b).2 = 0) : (firstR b).1.rest.length < b.length := by
  rcases firstR_way b with q | q | ⟨k, n, s, u, h1, h2, _, _, q⟩
  · rw [q] at h; simp at h
  · rw [q] at h; simp at h
  · rw [q]
    have := rd_less h1
    have := rd_less h2
    simp only [List.length_drop]
    omega
theorem firstR_cases (b : List Int) : (firstR b).2 = 0 ∨ (firstR b).2 = 1 ∨ (firstR b).2 = 4 := by
  rcases firstR_way b with q | q | ⟨k, n, s, u, h1, h2, _, _, q⟩ <;> rw [q] <;> simp
/-- more bytes behind it leave a first frame as it is -/
theorem firstR_ext {b : List Int} (m : List Int) (h : (firstR b).2 = 0) : firstR (b ++ m) = (⟨(firstR b).1.kind, (firstR b).1.dat, (firstR b).1.rest ++ m⟩, 0) := by
  rcases firstR_way b with q | q | ⟨k, n, s, u, h1, h2, h3, h4, q⟩
  · rw [q] at h; simp at h
  · rw [q] at h; simp at h
  · rw [firstR_ok (rd_ext m h1) (rd_ext m h2), if_neg h3, if_neg (by rw [List.length_append]; omega), q]
    dsimp only
    rw [List.take_append_of_le_length (by omega), List.drop_append_of_le_length (by omega)]
theorem firstR_ext1 {b : List Int} (m : List Int) (h : (firstR b).2 = 1) : (firstR (b ++ m)).2 = 1 := by
  rcases h1 : rd b with e | ⟨k, s⟩
  · rw [firstR_e1 h1, rd_err h1] at h; simp at h
  · rcases h2 : rd s with e | ⟨n, u⟩
    · rw [firstR_e2 h1 h2, rd_err h2] at h; simp at h
    · rw [firstR_ok h1 h2] at h
      by_cases q1 : 400 < n
      · rw [firstR_ok (rd_ext m h1) (rd_ext m h2), if_pos q1]
      · rw [if_neg q1] at h
        by_cases q2 : (u.length : Int) < n
        · rw [if_pos q2] at h; simp at h
        · rw [if_neg q2] at h; simp at h
/-- what was written is read -/
theorem firstR_enc (k : Int) (d m : List Int) (hk0 : 0 ≤ k) (hk1 : k ≤ 4611686018427387903) (hd : d.length ≤ 400) : firstR (enc k ++ (enc (d.length : Int) ++ (d ++ m))) = (⟨k, d, m⟩, 0) := by
  rw [firstR_ok (rd_enc k hk0 hk1 _) (rd_enc (d.length : Int) (by omega) (by omega) _), if_neg (by omega), if_neg (by rw [List.length_append]; omega)]
  have e : ((d.length : Nat) : Int).toNat = d.length := by omega
  rw [e, List.take_left, List.drop_left]
/-- a reader -/
structure Rd where
  held : List Int
  flds : List Fld
  begun : Bool
  body : List Int
  ended : Bool
def rd0 : Rd := ⟨[], [], false, [], false⟩
/-- a frame taken: what was read then, and an error -/
def takeR (t : Tb) (fl : List Fld) (bg : Bool) (bd : List Int) (p : Prt) : (List Fld × Bool × List Int) × Int :=
  if p.kind = 1 then
    (if bg = true then (([], false, []), 3) else if (decFl t p.dat).2 = 14 then ((fl, bg, bd), 14) else if (decFl t p.dat).2 ≠ 0 then (([], false, []), (decFl t p.dat).2) else if faultRq (decFl t p.dat).1 ≠ 0 then (([], false, []), faultRq (decFl t p.dat).1) else (((decFl t p.dat).1, true, bd), 0))
  else if p.kind = 0 then
    (if bg = false then (([], false, []), 3) else if 200 < bd.length + p.dat.length then (([], false, []), 1) else ((fl, bg, bd ++ p.dat), 0))
  else ((fl, bg, bd), 0)
/-- all frames that are Held: n is more than how many there may be -/
def feedN (t : Tb) (fin : Bool) : Nat → Rd → Rd × Int
  | 0, r => (r, 0)
  | n + 1, r =>
    if r.held = [] then (if fin = true ∧ r.begun = false then (rd0, 4) else (⟨[], r.flds, r.begun, r.body, fin⟩, 0))
    else if (firstR r.held).2 ≠ 0 then (if (firstR r.held).2 = 4 ∧ fin = false then (r, 0) else (rd0, (firstR r.held).2))
    else if (takeR t r.flds r.begun r.body (firstR r.held).1).2 = 14 then (r, 14)
    else if (takeR t r.flds r.begun r.body (firstR r.held).1).2 ≠ 0 then (rd0, (takeR t r.flds r.begun r.body (firstR r.held).1).2)
    else feedN t fin n ⟨(firstR r.held).1.rest, (takeR t r.flds r.begun r.body (firstR r.held).1).1.1, (takeR t r.flds r.begun r.body (firstR r.held).1).1.2.1, (takeR t r.flds r.begun r.body (firstR r.held).1).1.2.2, r.ended⟩
theorem feedN_nil {t : Tb} {fin : Bool} {n : Nat} {r : Rd} (h : r.held = []) : feedN t fin (n + 1) r = if fin = true ∧ r.begun = false then (rd0, 4) else (⟨[], r.flds, r.begun, r.body, fin⟩, 0) := by rw [feedN, if_pos h]
theorem feedN_short {t : Tb} {n : Nat} {r : Rd} (h : r.held ≠ []) (h1 : (firstR r.held).2 = 4) : feedN t false (n + 1) r = (r, 0) := by rw [feedN, if_neg h, if_pos (by omega), if_pos ⟨h1, rfl⟩]
theorem feedN_err {t : Tb} {fin : Bool} {n : Nat} {r : Rd} (h : r.held ≠ []) (h1 : (firstR r.held).2 ≠ 0) (h2 : (firstR r.held).2 ≠ 4 ∨ fin = true) : feedN t fin (n + 1) r = (rd0, (firstR r.held).2) := by
  rw [feedN, if_neg h, if_pos h1, if_neg]
  rintro ⟨q1, q2⟩
  rcases h2 with h2 | h2
  · exact h2 q1
  · rw [h2] at q2; cases q2
theorem feedN_wait {t : Tb} {fin : Bool} {n : Nat} {r : Rd} (h : r.held ≠ []) (h1 : (firstR r.held).2 = 0) (h2 : (takeR t r.flds r.begun r.body (firstR r.held).1).2 = 14) : feedN t fin (n + 1) r = (r, 14) := by rw [feedN, if_neg h, if_neg (by omega), if_pos h2]
theorem feedN_bad {t : Tb} {fin : Bool} {n : Nat} {r : Rd} (h : r.held ≠ []) (h1 : (firstR r.held).2 = 0) (h2 : (takeR t r.flds r.begun r.body (firstR r.held).1).2 ≠ 14) (h3 : (takeR t r.flds r.begun r.body (firstR r.held).1).2 ≠ 0) : feedN t fin (n + 1) r = (rd0, (takeR t r.flds r.begun r.body (firstR r.held).1).2) := by rw [feedN, if_neg h, if_neg (by omega), if_neg h2, if_pos h3]
theorem feedN_step {t : Tb} {fin : Bool} {n : Nat} {r : Rd} (h : r.held ≠ []) (h1 : (firstR r.held).2 = 0) (h3 : (takeR t r.flds r.begun r.body (firstR r.held).1).2 = 0) : feedN t fin (n + 1) r = feedN t fin n ⟨(firstR r.held).1.rest, (takeR t r.flds r.begun r.body (firstR r.held).1).1.1, (takeR t r.flds r.begun r.body (firstR r.held).1).1.2.1, (takeR t r.flds r.begun r.body (firstR r.held).1).1.2.2, r.ended⟩ := by rw [feedN, if_neg h, if_neg (by omega), if_neg (by omega), if_neg (by omega)]
/-- it does not matter how many there may be -/
theorem feedN_more {t : Tb} {fin : Bool} : ∀ (n m : Nat) (r : Rd), r.held.length < n → r.held.length < m → feedN t fin n r = feedN t fin m r
  | 0, _, r, h, _ => by omega
  | n + 1, 0, r, _, h => by omega
  | n + 1, m + 1, r, hn, hm => by
    by_cases h : r.held = []
    · rw [feedN_nil h, feedN_nil h]
    · by_cases h1 : (firstR r.held).2 = 0
      · by_cases h2 : (takeR t r.flds r.begun r.body (firstR r.held).1).2 = 14
        · rw [feedN_wait h h1 h2, feedN_wait h h1 h2]
        · by_cases h3 : (takeR t r.flds r.begun r.body (firstR r.held).1).2 = 0
          · rw [feedN_step h h1 h3, feedN_step h h1 h3]
            have := firstR_less h1
            exact feedN_more n m _ (by dsimp only; omega) (by dsimp only; omega)
          · rw [feedN_bad h h1 h2 h3, feedN_bad h h1 h2 h3]
      · rw [feedN, feedN, if_neg h, if_pos h1, if_neg h, if_pos h1]
/-- what Feed says, by P16.3 -/
def feedR (r : Rd) (t : Tb) (b : List Int) (fin : Bool) : Rd × Int :=
  if 800 < r.held.length ∨ 800 < b.length ∨ 200 < r.body.length then (rd0, 1) else if r.ended = true then (rd0, 17)
  else feedN t fin (r.held.length + b.length + 1) ⟨r.held ++ b, r.flds, r.begun, r.body, r.ended⟩
/-- bytes that come in two parts: what was read of the first ones goes on with the others -/
theorem feedN_cut {t : Tb} : ∀ (n : Nat) (r r' : Rd), r.held.length < n → r.ended = false → feedN t false n r = (r', 0) →
    r'.ended = false ∧ r'.held.length ≤ r.held.length ∧ ∀ (m : List Int) (fin : Bool) (N N' : Nat), (r'.held ++ m).length < N → (r.held ++ m).length < N' → feedN t fin N ⟨r'.held ++ m, r'.flds, r'.begun, r'.body, r'.ended⟩ = feedN t fin N' ⟨r.held ++ m, r.flds, r.begun, r.body, r.ended⟩
  | 0, r, r', hn, _, _ => by omega
  | n + 1, r, r', hn, he, h => by
    by_cases h0 : r.held = []
    · rw [feedN_nil h0, if_neg (by simp)] at h
      simp only [Prod.mk.injEq, and_true] at h
      subst h
      refine ⟨rfl, by simp, fun m fin N N' h1 h2 => ?_⟩
      rw [h0, he]
      rw [h0] at h2
      exact feedN_more _ _ _ h1 h2
    · by_cases h1 : (firstR r.held).2 = 0
      · by_cases h2 : (takeR t r.flds r.begun r.body (firstR r.held).1).2 = 14
        · rw [feedN_wait h0 h1 h2] at h; simp at h
        · by_cases h3 : (takeR t r.flds r.begun r.body (firstR r.held).1).2 = 0
          · rw [feedN_step h0 h1 h3] at h
            have hl := firstR_less h1
            obtain ⟨i1, i2, i4⟩ := feedN_cut n ⟨(firstR r.held).1.rest, (takeR t r.flds r.begun r.body (firstR r.held).1).1.1, (takeR t r.flds r.begun r.body (firstR r.held).1).1.2.1, (takeR t r.flds r.begun r.body (firstR r.held).1).1.2.2, r.ended⟩ r' (by dsimp only; omega) he h
            dsimp only at i2 i4
            refine ⟨i1, by omega, fun m fin N N' q1 q2 => ?_⟩
            · rcases N' with _ | N'
              · omega
              · have e := firstR_ext m h1
                have hne : r.held ++ m ≠ [] := by simp [h0]
                rw [feedN_step (r := ⟨r.held ++ m, r.flds, r.begun, r.body, r.ended⟩) hne (by dsimp only; rw [e]) (by dsimp only; rw [e]; exact h3)]
                dsimp only
                rw [e]
                dsimp only
                exact i4 m fin N N' q1 (by rw [List.length_append] at q2 ⊢; omega)
          · rw [feedN_bad h0 h1 h2 h3] at h
            simp only [Prod.mk.injEq] at h
            exact absurd h.2 h3
      · by_cases h4 : (firstR r.held).2 = 4
        · rw [feedN_short h0 h4] at h
          simp only [Prod.mk.injEq, and_true] at h
          subst h
          exact ⟨he, Nat.le_refl _, fun m fin N N' q1 q2 => feedN_more _ _ _ q1 q2⟩
        · rw [feedN_err h0 h1 (Or.inl h4)] at h
          simp only [Prod.mk.injEq] at h
          exact absurd h.2 h1
theorem takeR_grow {t : Tb} {fl : List Fld} {bg : Bool} {bd : List Int} {p : Prt} (h : (takeR t fl bg bd p).2 = 0) : bd.length ≤ (takeR t fl bg bd p).1.2.2.length := by
  unfold takeR at h ⊢
  by_cases h1 : p.kind = 1
  · rw [if_pos h1] at h ⊢
    by_cases h2 : bg = true
    · rw [if_pos h2] at h; simp at h
    · rw [if_neg h2] at h ⊢
      by_cases h3 : (decFl t p.dat).2 = 14
      · rw [if_pos h3] at h; simp at h
      · rw [if_neg h3] at h ⊢
        by_cases h4 : (decFl t p.dat).2 ≠ 0
        · rw [if_pos h4] at h; exact absurd h h4
        · rw [if_neg h4] at h ⊢
          by_cases h5 : faultRq (decFl t p.dat).1 ≠ 0
          · rw [if_pos h5] at h; exact absurd h h5
          · rw [if_neg h5]; exact Nat.le_refl _
  · rw [if_neg h1] at h ⊢
    by_cases h2 : p.kind = 0
    · rw [if_pos h2] at h ⊢
      by_cases h3 : bg = false
      · rw [if_pos h3] at h; simp at h
      · rw [if_neg h3] at h ⊢
        by_cases h4 : 200 < bd.length + p.dat.length
        · rw [if_pos h4] at h; simp at h
        · rw [if_neg h4]; simp
    · rw [if_neg h2]; exact Nat.le_refl _
theorem feedN_grow {t : Tb} {fin : Bool} : ∀ (n : Nat) (r r' : Rd), feedN t fin n r = (r', 0) → r.body.length ≤ r'.body.length
  | 0, r, r', h => by
    simp only [feedN, Prod.mk.injEq, and_true] at h
    rw [h]; exact Nat.le_refl _
  | n + 1, r, r', h => by
    by_cases h0 : r.held = []
    · rw [feedN_nil h0] at h
      split at h
      · simp at h
      · simp only [Prod.mk.injEq, and_true] at h
        subst h; exact Nat.le_refl _
    · by_cases h1 : (firstR r.held).2 = 0
      · by_cases h2 : (takeR t r.flds r.begun r.body (firstR r.held).1).2 = 14
        · rw [feedN_wait h0 h1 h2] at h; simp at h
        · by_cases h3 : (takeR t r.flds r.begun r.body (firstR r.held).1).2 = 0
          · rw [feedN_step h0 h1 h3] at h
            exact Nat.le_trans (takeR_grow h3) (feedN_grow n _ r' h)
          · rw [feedN_bad h0 h1 h2 h3] at h
            simp only [Prod.mk.injEq] at h
            exact absurd h.2 h3
      · by_cases h4 : (firstR r.held).2 = 4 ∧ fin = false
        · obtain ⟨h4, rfl⟩ := h4
          rw [feedN_short h0 h4] at h
          simp only [Prod.mk.injEq, and_true] at h
          rw [h]; exact Nat.le_refl _
        · rw [feedN_err h0 h1 (by cases fin; exact Or.inl (fun q => h4 ⟨q, rfl⟩); exact Or.inr rfl)] at h
          simp only [Prod.mk.injEq] at h
          exact absurd h.2 h1
/-- of bytes that come in parts, a beginning is read without an error where all of it is -/
theorem feedN_begin {t : Tb} : ∀ (n : Nat) (r : Rd) (m : List Int) (fin : Bool) (r2 : Rd), (r.held ++ m).length < n → feedN t fin n ⟨r.held ++ m, r.flds, r.begun, r.body, r.ended⟩ = (r2, 0) → ∃ r', feedN t false n r = (r', 0)
  | 0, r, m, fin, r2, hn, _ => by omega
  | n + 1, r, m, fin, r2, hn, h => by
    by_cases h0 : r.held = []
    · rw [feedN_nil h0, if_neg (by simp)]
      exact ⟨_, rfl⟩
    · have hne : r.held ++ m ≠ [] := by simp [h0]
      by_cases h1 : (firstR r.held).2 = 0
      · have e := firstR_ext m h1
        by_cases h2 : (takeR t r.flds r.begun r.body (firstR r.held).1).2 = 14
        · rw [feedN_wait (r := ⟨r.held ++ m, r.flds, r.begun, r.body, r.ended⟩) hne (by dsimp only; rw [e]) (by dsimp only; rw [e]; exact h2)] at h
          simp at h
        · by_cases h3 : (takeR t r.flds r.begun r.body (firstR r.held).1).2 = 0
          · rw [feedN_step (r := ⟨r.held ++ m, r.flds, r.begun, r.body, r.ended⟩) hne (by dsimp only; rw [e]) (by dsimp only; rw [e]; exact h3)] at h
            dsimp only at h
            rw [e] at h
            dsimp only at h
            rw [feedN_step h0 h1 h3]
            have hl := firstR_less h1
            exact feedN_begin n _ m fin r2 (by dsimp only; rw [List.length_append] at hn ⊢; omega) h
          · rw [feedN_bad (r := ⟨r.held ++ m, r.flds, r.begun, r.body, r.ended⟩) hne (by dsimp only; rw [e]) (by dsimp only; rw [e]; exact h2) (by dsimp only; rw [e]; exact h3)] at h
            dsimp only at h
            rw [e] at h
            simp only [Prod.mk.injEq] at h
            exact absurd h.2 h3
      · by_cases h4 : (firstR r.held).2 = 4
        · rw [feedN_short h0 h4]
          exact ⟨_, rfl⟩
        · have h5 : (firstR r.held).2 = 1 := by rcases firstR_cases r.held with q | q | q <;> omega
          have e := firstR_ext1 m h5
          rw [feedN_err (r := ⟨r.held ++ m, r.flds, r.begun, r.body, r.ended⟩) hne (by dsimp only; rw [e]; decide) (Or.inl (by dsimp only; rw [e]; decide))] at h
          dsimp only at h
          rw [e] at h
          simp at h
end Go.Proofs.Ytpfahdogedchpaa.P
