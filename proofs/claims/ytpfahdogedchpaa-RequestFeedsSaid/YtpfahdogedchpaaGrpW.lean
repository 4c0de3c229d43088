/- Several texts in one. -/
import Derived.Test.YtpfahdogedchpaaGrpZa
/- Requests that are read as they were written: plain mathematics. Nothing of the program's. -/
namespace Go.Proofs.Ytpfahdogedchpaa.P
set_option linter.unusedVariables false

/-- the bytes of a Body -/
def bodT (body : List Int) : List Int := if body = [] then [] else enc 0 ++ (enc (body.length : Int) ++ (body ++ []))
/-- the bytes of a request, by P16.2 -/
def reqT (sec body : List Int) : List Int := enc 1 ++ (enc (sec.length : Int) ++ (sec ++ bodT body))
theorem enc_small {n : Int} (h : n < 64) : enc n = [n] := by unfold enc; rw [if_pos h]
theorem enc_len2 {n : Int} (h : n < 16384) : (enc n).length ≤ 2 := by
  have := enc_len n
  unfold sz at this
  split at this
  · omega
  · first | omega | (rw [if_pos h] at this; omega)
theorem bodT_len (body : List Int) (h : body.length ≤ 200) : (bodT body).length ≤ 203 := by
  unfold bodT
  split
  · simp
  · have := enc_len2 (n := 0) (by decide)
    have := enc_len2 (n := (body.length : Int)) (by omega)
    have e : (enc 0).length = 1 := rfl
    simp only [List.length_append, List.length_nil]
    omega
theorem reqT_len (sec body : List Int) (hs : sec.length ≤ 400) (h : body.length ≤ 200) : (reqT sec body).length ≤ 606 := by
  have := bodT_len body h
  have := enc_len2 (n := (sec.length : Int)) (by omega)
  have e : (enc 1).length = 1 := rfl
  unfold reqT
  simp only [List.length_append]
  omega
theorem reqT_ne (sec body : List Int) : reqT sec body ≠ [] := by
  unfold reqT
  rw [enc_small (by decide)]
  simp
/-- the section is the first frame -/
theorem req_first {sec body : List Int} (hs : sec.length ≤ 400) (m : List Int) : firstR (reqT sec body ++ m) = (⟨1, sec, bodT body ++ m⟩, 0) := by
  unfold reqT
  rw [List.append_assoc, List.append_assoc, List.append_assoc]
  exact firstR_enc 1 sec _ (by decide) (by decide) hs
theorem bod_first {body : List Int} (h : body ≠ []) (hb : body.length ≤ 200) (m : List Int) : firstR (bodT body ++ m) = (⟨0, body, m⟩, 0) := by
  unfold bodT
  rw [if_neg h, List.append_nil, List.append_assoc, List.append_assoc]
  exact firstR_enc 0 body _ (by decide) (by decide) (by omega)
theorem bodT_ne {body : List Int} (h : body ≠ []) (m : List Int) : bodT body ++ m ≠ [] := by
  unfold bodT
  rw [if_neg h, enc_small (by decide)]
  simp
theorem take_one {t : Tb} {sec : List Int} {l : List Fld} (hd : decFl t sec = (l, 0)) (hf : faultRq l = 0) (bd rest : List Int) : takeR t [] false bd ⟨1, sec, rest⟩ = ((l, true, bd), 0) := by
  unfold takeR
  rw [if_pos rfl, if_neg (by decide), hd]
  dsimp only
  rw [if_neg (by decide), if_neg (by decide), if_neg (by omega)]
theorem take_zero {t : Tb} {l : List Fld} {bd d : List Int} (h : bd.length + d.length ≤ 200) (rest : List Int) : takeR t l true bd ⟨0, d, rest⟩ = ((l, true, bd ++ d), 0) := by
  unfold takeR
  rw [if_neg (show ¬ (0 : Int) = 1 by decide), if_pos rfl, if_neg (by decide), if_neg (by dsimp only; omega)]
/-- behind the section: what is Held then -/
theorem feed_sec {t : Tb} {sec body : List Int} {l : List Fld} (hd : decFl t sec = (l, 0)) (hf : faultRq l = 0) (hs : sec.length ≤ 400) (hb : body.length ≤ 200) (m : List Int) (fin : Bool) (N : Nat) (hN : (reqT sec body ++ m).length < N) :
    feedN t fin N ⟨reqT sec body ++ m, [], false, [], false⟩ = feedN t fin (m.length + 1) ⟨m, l, true, body, false⟩ := by
  rcases N with _ | N
  · omega
  have hne : reqT sec body ++ m ≠ [] := by simp [reqT_ne]
  have e := req_first (body := body) hs m
  have k := take_one hd hf [] (bodT body ++ m)
  rw [feedN_step (r := ⟨reqT sec body ++ m, [], false, [], false⟩) hne (by dsimp only; rw [e]) (by dsimp only; rw [e]; dsimp only; rw [k])]
  dsimp only
  rw [e]
  dsimp only
  rw [k]
  dsimp only
  have hlen : (bodT body ++ m).length < N := by
    have := firstR_less (b := reqT sec body ++ m) (by rw [e])
    rw [e] at this
    dsimp only at this
    omega
  by_cases h0 : body = []
  · subst h0
    have q : bodT [] = [] := rfl
    rw [q, List.nil_append] at hlen ⊢
    exact feedN_more _ _ _ hlen (Nat.lt_succ_self _)
  · rcases N with _ | N
    · omega
    have hn2 := bodT_ne h0 m
    have e2 := bod_first h0 hb m
    have k2 := take_zero (t := t) (l := l) (bd := []) (d := body) (by simpa using hb) m
    rw [feedN_step (r := ⟨bodT body ++ m, l, true, [], false⟩) hn2 (by dsimp only; rw [e2]) (by dsimp only; rw [e2]; dsimp only; rw [k2])]
    dsimp only
    rw [e2]
    dsimp only
    rw [k2]
    dsimp only
    rw [List.nil_append]
    refine feedN_more _ _ _ ?_ (Nat.lt_succ_self _)
    have := firstR_less (b := bodT body ++ m) (by rw [e2])
    rw [e2] at this
    dsimp only at this ⊢
    omega
/-- all of a request is read -/
theorem feed_all {t : Tb} {sec body : List Int} {l : List Fld} (hd : decFl t sec = (l, 0)) (hf : faultRq l = 0) (hs : sec.length ≤ 400) (hb : body.length ≤ 200) (N : Nat) (hN : (reqT sec body).length < N) :
    feedN t true N ⟨reqT sec body, [], false, [], false⟩ = (⟨[], l, true, body, true⟩, 0) := by
  have := feed_sec hd hf hs hb [] true N (by rw [List.append_nil]; exact hN)
  rw [List.append_nil] at this
  rw [this]
  rfl
/-- it waits for what is told ahead -/
theorem feed_waits {t : Tb} {sec body : List Int} (hd : (decFl t sec).2 = 14) (hs : sec.length ≤ 400) (fin : Bool) (N : Nat) (hN : 0 < N) :
    feedN t fin N ⟨reqT sec body, [], false, [], false⟩ = (⟨reqT sec body, [], false, [], false⟩, 14) := by
  rcases N with _ | N
  · omega
  have e := req_first (body := body) hs []
  rw [List.append_nil] at e
  refine feedN_wait (r := ⟨reqT sec body, [], false, [], false⟩) (reqT_ne _ _) (by dsimp only; rw [e]) ?_
  dsimp only
  rw [e]
  dsimp only
  unfold takeR
  rw [if_pos rfl, if_neg (by decide), if_pos hd]
theorem feedR_in {r : Rd} {t : Tb} {b : List Int} {fin : Bool} (h1 : r.held.length ≤ 800) (h2 : b.length ≤ 800) (h3 : r.body.length ≤ 200) (h4 : r.ended = false) (N : Nat) (hN : (r.held ++ b).length < N) : feedR r t b fin = feedN t fin N ⟨r.held ++ b, r.flds, r.begun, r.body, r.ended⟩ := by
  unfold feedR
  rw [if_neg (by omega), if_neg (by rw [h4]; decide)]
  exact feedN_more _ _ _ (by rw [List.length_append]; omega) hN
theorem feedR_done {r : Rd} {t : Tb} {b : List Int} {fin : Bool} (h1 : r.held.length ≤ 800) (h2 : b.length ≤ 800) (h3 : r.body.length ≤ 200) (h4 : r.ended = true) : feedR r t b fin = (rd0, 17) := by
  unfold feedR
  rw [if_neg (by omega), if_pos h4]
/-- A REQUEST IS READ AS IT WAS WRITTEN, however its bytes are cut -/
theorem feed_parts {t : Tb} {all : List Int} {R : Rd} (hA : all.length ≤ 800) (hR : feedN t true (all.length + 1) ⟨all, [], false, [], false⟩ = (R, 0)) (hB : R.body.length ≤ 200) (i j : Nat) (hij : i ≤ j) (hj : j ≤ all.length) :
    ∃ x1 x2 : Rd, feedR rd0 t (all.take i) false = (x1, 0) ∧ feedR x1 t ((all.drop i).take (j - i)) false = (x2, 0) ∧ feedR x2 t (all.drop j) true = (R, 0) := by
  have ejk : all.take i ++ (all.drop i).take (j - i) = all.take j := by
    have := List.take_add (l := all) (i := i) (j := j - i)
    rw [show i + (j - i) = j by omega] at this
    exact this.symm
  have e1 : feedR rd0 t (all.take i) false = feedN t false (all.length + 2) ⟨all.take i, [], false, [], false⟩ := feedR_in (r := rd0) (by simp [rd0]) (by rw [List.length_take]; omega) (by simp [rd0]) rfl _ (by simp [rd0]; omega)
  obtain ⟨x1, hx1⟩ := feedN_begin (all.length + 2) ⟨all.take i, [], false, [], false⟩ (all.drop i) true R (by simp only [List.take_append_drop]; omega) (by simp only [List.take_append_drop]; rw [feedN_more _ (all.length + 1) _ (by dsimp only; omega) (by dsimp only; omega)]; exact hR)
  obtain ⟨p1, p2, p3⟩ := feedN_cut _ _ _ (by dsimp only; rw [List.length_take]; omega) rfl hx1
  dsimp only at p2 p3
  have hR1 := p3 (all.drop i) true (x1.held.length + all.length + 1) (all.length + 1) (by rw [List.length_append, List.length_drop]; omega) (by rw [List.take_append_drop]; omega)
  rw [List.take_append_drop, hR] at hR1
  have hb1 : x1.body.length ≤ 200 := by have := feedN_grow _ _ _ hR1; first | omega | (dsimp only at this; omega)
  have hh1 : x1.held.length ≤ 800 := by rw [List.length_take] at p2; omega
  have e2 : feedR x1 t ((all.drop i).take (j - i)) false = feedN t false (x1.held.length + all.length + 1) ⟨x1.held ++ (all.drop i).take (j - i), x1.flds, x1.begun, x1.body, x1.ended⟩ := feedR_in hh1 (by rw [List.length_take, List.length_drop]; omega) hb1 p1 _ (by rw [List.length_append, List.length_take, List.length_drop]; omega)
  have hsp : all.drop i = (all.drop i).take (j - i) ++ all.drop j := by
    conv => lhs; rw [← List.take_append_drop (j - i) (all.drop i)]
    rw [List.drop_drop, show i + (j - i) = j by omega]
  rw [hsp, ← List.append_assoc] at hR1
  obtain ⟨x2, hx2⟩ := feedN_begin (x1.held.length + all.length + 1) ⟨x1.held ++ (all.drop i).take (j - i), x1.flds, x1.begun, x1.body, x1.ended⟩ (all.drop j) true R (by simp only [List.length_append, List.length_take, List.length_drop]; omega) hR1
  obtain ⟨r1, r2, r3⟩ := feedN_cut (x1.held.length + all.length + 1) ⟨x1.held ++ (all.drop i).take (j - i), x1.flds, x1.begun, x1.body, x1.ended⟩ x2 (by simp only [List.length_append, List.length_take, List.length_drop]; omega) p1 hx2
  dsimp only at r2 r3
  have hR2 := r3 (all.drop j) true (x2.held.length + all.length + 1) (x1.held.length + all.length + 1) (by rw [List.length_append, List.length_drop]; omega) (by simp only [List.length_append, List.length_take, List.length_drop]; omega)
  rw [hR1] at hR2
  have hb2 : x2.body.length ≤ 200 := by have := feedN_grow _ _ _ hR2; first | omega | (dsimp only at this; omega)
  have hh2 : x2.held.length ≤ 800 := by
    rw [List.length_append, List.length_take, List.length_drop] at r2
    rw [List.length_take] at p2
    omega
  refine ⟨x1, x2, by rw [e1]; exact hx1, by rw [e2]; exact hx2, ?_⟩
  rw [feedR_in hh2 (by rw [List.length_drop]; omega) hb2 r1 (x2.held.length + all.length + 1) (by rw [List.length_append, List.length_drop]; omega)]
  exact hR2
end Go.Proofs.Ytpfahdogedchpaa.P
