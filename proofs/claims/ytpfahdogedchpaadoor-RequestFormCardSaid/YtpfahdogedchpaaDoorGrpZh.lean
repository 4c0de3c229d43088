/- Several texts in one. -/
import Derived.Test.YtpfahdogedchpaaDoorRqOfM
import Derived.Test.YtpfahdogedchpaaDoorRqLen
import Derived.Test.YtpfahdogedchpaaDoorRqP5
/- The statements' own requestOf: how long its bytes are; what Write and Feed make of them. Plain mathematics. -/
namespace Go.Proofs.YtpfahdogedchpaaDoor.P
set_option linter.unusedVariables false
theorem pxT_one {first top n : Int} (h : n < top) : (pxT first top n).length = 1 := by
  unfold pxT
  rw [if_pos h]
  rfl
theorem line_small {need : Int} {f : Fld} {r : Option Int} (hk : 0 ≤ kpL f false ∨ f.name.length ≤ 6) (hv : f.val.length ≤ 11) (hn : need ≤ 4611686018427387904) (hr : ∀ n, r = some n → 0 ≤ n ∧ n < need) : (lineT need f r).length ≤ 20 := by
  have i1 := kpL_in f true
  have i2 := kpL_in f false
  unfold lineT
  by_cases c : 0 ≤ kpL f true
  · rw [if_pos c, pxT_one (by omega)]
    omega
  · rw [if_neg c]
    cases r with
    | some n =>
      have h := hr n rfl
      have := (pxT_len (first := 128) (top := 63) (n := need - 1 - n) (by decide) (by decide) (by decide) (by omega) (by omega)).2.2
      dsimp only
      omega
    | none =>
      dsimp only
      have hv1 : (valT f).length ≤ 12 := by
        unfold valT
        rw [List.length_append, pxT_one (by omega)]
        omega
      by_cases c2 : 0 ≤ kpL f false
      · rw [if_pos c2, List.length_append, pxT_one (by omega)]
        omega
      · have h6 := hk.resolve_left c2
        rw [if_neg c2, List.length_append, List.length_append, pxT_one (by omega)]
        omega
theorem rqFs_known {s : ByteArray} {rs : List RawT} {f : Fld} (h : f ∈ rqFs s rs) : 0 ≤ kpL f false ∨ f.name.length ≤ 6 := by
  rcases rqFs_in h with rfl | rfl | ⟨r, rfl⟩
  · exact .inl (by decide)
  · exact .inr (by show nmP.length ≤ 6; decide)
  · exact .inr (nm_len _).2
theorem rqFs_sec {t : Tb} {s : ByteArray} {rs : List RawT} {ahead : Bool} (h0 : faultTb t = 0) : (encFl t (rqFs s rs) ahead).2.2.1.length ≤ 160 := by
  have hl := rqFs_faultFl s rs
  rw [encFl_ok h0 hl]
  obtain ⟨h8, ok⟩ := (faultFl_iff _).1 hl
  have I := encAll_inv h0 ahead (rqFs s rs) ok
  have hp := ((faultTb_iff _).1 I.f).2.1.2
  have hn0 := I.n0
  have hnp := I.np
  have e : linesT (encAll ahead t (rqFs s rs)).need (rqFs s rs) (encAll ahead t (rqFs s rs)).refs = pxL 0 8 (encAll ahead t (rqFs s rs)).need ++ (((rqFs s rs).zip (encAll ahead t (rqFs s rs)).refs).map (fun q => lineT (encAll ahead t (rqFs s rs)).need q.1 q.2)).flatten := rfl
  have h1 := (pxL_len (pxF_of (first := 0) (wi := 8) (n := (encAll ahead t (rqFs s rs)).need) (by decide) (by omega) (by decide))).2
  have h2 := rq_flat_len 20 (((rqFs s rs).zip (encAll ahead t (rqFs s rs)).refs).map (fun q => lineT (encAll ahead t (rqFs s rs)).need q.1 q.2)) (fun x hx => by
    obtain ⟨q, hq, rfl⟩ := List.mem_map.1 hx
    have hz := List.of_mem_zip (a := q.1) (b := q.2) hq
    refine line_small (rqFs_known hz.1) (rqFs_ok hz.1).2.2.2.2 (by omega) (fun n hn => ?_)
    obtain ⟨i, hi, he⟩ := List.getElem_of_mem hz.2
    have := I.rs i n (by rw [List.getD_eq_getElem?_getD, List.getElem?_eq_getElem hi, he, hn]; rfl)
    exact ⟨this.1, this.2.1⟩)
  rw [List.length_map, List.length_zip, rqFs_len] at h2
  dsimp only
  rw [e, List.length_append]
  omega
/-- what Write makes of a request of requestOf -/
theorem rqOf_wr {t : Tb} {s : ByteArray} {rs : List RawT} {body : List Int} {ahead : Bool} (h0 : faultTb t = 0) (hb : body.length ≤ 200) : wrRq t (rqFs s rs) body ahead = ((encAll ahead t (rqFs s rs)).t, (encAll ahead t (rqFs s rs)).tell, reqT (linesT (encAll ahead t (rqFs s rs)).need (rqFs s rs) (encAll ahead t (rqFs s rs)).refs) body, 0) := by
  unfold wrRq
  rw [if_neg (by rw [rqFs_fault]; simp), if_neg (by omega), encFl_ok h0 (rqFs_faultFl s rs), if_neg (by simp)]
theorem rq_tell_len {ahead : Bool} {t : Tb} {l : List Fld} (hl : faultFl l = 0) (hw : ∀ f ∈ l, FdWf f) : (encAll ahead t l).tell.length ≤ 1600 := by
  obtain ⟨h8, ok⟩ := (faultFl_iff l).1 hl
  have key : ∀ (l : List Fld) (s : EncS), (∀ x ∈ l, FdWf x ∧ okFd x) → (l.foldl (encStep ahead) s).tell.length ≤ s.tell.length + 200 * l.length := by
    intro l
    induction l with
    | nil => intro s _; simp
    | cons x l ih =>
      intro s h
      have h1 := ih (encStep ahead s x) (fun y hy => h y (List.mem_cons_of_mem _ hy))
      have hx := h x (List.mem_cons_self ..)
      have h2 : (encStep ahead s x).tell.length ≤ s.tell.length + 200 := by
        have := (tellT_len hx.1 hx.2).2.2
        unfold encStep
        split
        · exact Nat.le_add_right _ _
        · split
          · exact Nat.le_add_right _ _
          · split
            · simp only [List.length_append]; omega
            · exact Nat.le_add_right _ _
      rw [List.foldl_cons, List.length_cons]
      omega
  have := key l ⟨t, [], [], 0⟩ (fun x hx => ⟨hw x hx, ok x hx⟩)
  have e : (l.foldl (encStep ahead) ⟨t, [], [], 0⟩) = encAll ahead t l := rfl
  rw [e, List.length_nil] at this
  omega
end Go.Proofs.YtpfahdogedchpaaDoor.P
/- RequestBack, RequestWaits, RequestForm: what they ask, in plain mathematics. -/
namespace Go.Proofs.YtpfahdogedchpaaDoor.P
set_option linter.unusedVariables false
/-- the section of a request of requestOf -/
def secR (ahead : Bool) (t : Tb) (l : List Fld) : List Int := linesT (encAll ahead t l).need l (encAll ahead t l).refs
theorem secR_of {t : Tb} {s : ByteArray} {rs : List RawT} {ahead : Bool} (h0 : faultTb t = 0) : (secR ahead t (rqFs s rs)).length ≤ 160 ∧ secR ahead t (rqFs s rs) ≠ [] ∧ decFl (encAll ahead t (rqFs s rs)).t (secR ahead t (rqFs s rs)) = (rqFs s rs, 0) := by
  have h1 := rqFs_sec (s := s) (rs := rs) (ahead := ahead) h0
  rw [encFl_ok h0 (rqFs_faultFl s rs)] at h1
  refine ⟨h1, ?_, encFl_dec h0 (rqFs_faultFl s rs)⟩
  unfold secR linesT pxT
  split <;> simp
theorem all_len {sec body : List Int} (h1 : sec.length ≤ 160) (hb : body.length ≤ 200) : (reqT sec body).length ≤ 367 := by
  have b1 := bodT_len body hb
  have e1 := enc_len2 (n := 1) (by decide)
  have e2 := enc_len2 (n := (sec.length : Int)) (by omega)
  unfold reqT
  simp only [List.length_append]
  omega
/-- RequestBack -/
theorem rqBack_core {t : Tb} {s : ByteArray} {rs : List RawT} {body : List Int} {ahead : Bool} (h0 : faultTb t = 0) (hb : body.length ≤ 200) (i j : Nat) (hij : i ≤ j) (hj : j ≤ (reqT (secR ahead t (rqFs s rs)) body).length) :
    ∃ x1 x2 : Rd, feedR rd0 (encAll ahead t (rqFs s rs)).t ((reqT (secR ahead t (rqFs s rs)) body).take i) false = (x1, 0) ∧ feedR x1 (encAll ahead t (rqFs s rs)).t (((reqT (secR ahead t (rqFs s rs)) body).drop i).take (j - i)) false = (x2, 0) ∧ feedR x2 (encAll ahead t (rqFs s rs)).t ((reqT (secR ahead t (rqFs s rs)) body).drop j) true = (⟨[], rqFs s rs, true, body, true⟩, 0) := by
  obtain ⟨h1, h2, h3⟩ := secR_of (s := s) (rs := rs) (ahead := ahead) h0
  have hA := all_len h1 hb
  exact feed_parts (by omega) (feed_all h3 (rqFs_fault s rs) (by omega) hb _ (by omega)) hb i j hij hj
theorem rqDone_core {t : Tb} {l : List Fld} {body : List Int} (hb : body.length ≤ 200) : feedR ⟨[], l, true, body, true⟩ t [] true = (rd0, 17) := feedR_done (by simp) (by simp) hb rfl
/-- RequestWaits -/
theorem rqWait_core {t : Tb} {s : ByteArray} {rs : List RawT} {body : List Int} {ahead : Bool} (h0 : faultTb t = 0) (hb : body.length ≤ 200) :
    (t.put < (encAll ahead t (rqFs s rs)).t.put → feedR rd0 t (reqT (secR ahead t (rqFs s rs)) body) true = (⟨reqT (secR ahead t (rqFs s rs)) body, [], false, [], false⟩, 14)) ∧
    (¬ t.put < (encAll ahead t (rqFs s rs)).t.put → feedR rd0 t (reqT (secR ahead t (rqFs s rs)) body) true = (⟨[], rqFs s rs, true, body, true⟩, 0)) ∧
    feedR ⟨reqT (secR ahead t (rqFs s rs)) body, [], false, [], false⟩ (encAll ahead t (rqFs s rs)).t [] true = (⟨[], rqFs s rs, true, body, true⟩, 0) := by
  obtain ⟨h1, h2, h3⟩ := secR_of (s := s) (rs := rs) (ahead := ahead) h0
  have hA := all_len h1 hb
  obtain ⟨w1, w2, w3⟩ := encFl_wait (ahead := ahead) h0 (rqFs_faultFl s rs)
  have e : ∀ T, feedR rd0 T (reqT (secR ahead t (rqFs s rs)) body) true = feedN T true ((reqT (secR ahead t (rqFs s rs)) body).length + 1) ⟨reqT (secR ahead t (rqFs s rs)) body, [], false, [], false⟩ := fun T => feedR_in (r := rd0) (by simp [rd0]) (by omega) (by simp [rd0]) rfl _ (by simp [rd0])
  refine ⟨fun h => ?_, fun h => ?_, ?_⟩
  · rw [e]
    exact feed_waits (by rw [show decFl t (secR ahead t (rqFs s rs)) = ([], 14) from w2 h]) (by omega) true _ (by omega)
  · rw [e]
    exact feed_all (show decFl t (secR ahead t (rqFs s rs)) = (rqFs s rs, 0) from w3 (by omega)) (rqFs_fault s rs) (by omega) hb _ (by omega)
  · rw [feedR_in (by dsimp only; omega) (by simp) (by simp) rfl ((reqT (secR ahead t (rqFs s rs)) body).length + 1) (by rw [List.append_nil]; dsimp only; omega)]
    rw [List.append_nil]
    exact feed_all h3 (rqFs_fault s rs) (by omega) hb _ (by omega)
theorem len_pos {α : Type} {l : List α} (h : l ≠ []) : 0 < l.length := Nat.pos_of_ne_zero (fun q => h (List.eq_nil_of_length_eq_zero q))
/-- a frame whose last byte lacks -/
theorem firstR_cut {k : Int} {d : List Int} (hk0 : 0 ≤ k) (hk1 : k ≤ 4611686018427387903) (hd : d.length ≤ 400) (hne : d ≠ []) : firstR ((enc k ++ (enc (d.length : Int) ++ d)).take ((enc k ++ (enc (d.length : Int) ++ d)).length - 1)) = (prt0, 4) := by
  have hp : 0 < d.length := (len_pos hne)
  have e : (enc k ++ (enc (d.length : Int) ++ d)).take ((enc k ++ (enc (d.length : Int) ++ d)).length - 1) = enc k ++ (enc (d.length : Int) ++ d.take (d.length - 1)) := by
    rw [List.take_append, List.take_of_length_le (by simp only [List.length_append]; omega), List.take_append, List.take_of_length_le (by simp only [List.length_append]; omega)]
    congr 3
    simp only [List.length_append]
    omega
  rw [e, firstR_ok (rd_enc k hk0 hk1 _) (rd_enc (d.length : Int) (by omega) (by omega) _), if_neg (by omega), if_pos (by rw [List.length_take]; omega)]
/-- RequestForm: a body ahead of its fields -/
theorem rqForm_0 {t : Tb} {all : List Int} (hA : all.length ≤ 367) : feedR rd0 t ([0, 1, 65] ++ all) true = (rd0, 3) := by
  rw [feedR_in (r := rd0) (by simp [rd0]) (by simp; omega) (by simp [rd0]) rfl (all.length + 4) (by simp [rd0])]
  have e : firstR ([0, 1, 65] ++ all) = (⟨0, [65], all⟩, 0) := by
    have := firstR_enc 0 [65] all (by decide) (by decide) (by decide)
    rw [enc_small (n := 0) (by decide), enc_small (n := (([65] : List Int).length : Int)) (by decide)] at this
    exact this
  have h2 : takeR t [] false [] ⟨0, [65], all⟩ = (([], false, []), 3) := by
    unfold takeR
    rw [if_neg (show ¬ (0 : Int) = 1 by decide), if_pos rfl, if_pos rfl]
  have := feedN_bad (t := t) (fin := true) (n := all.length + 3) (r := ⟨[0, 1, 65] ++ all, [], false, [], false⟩) (by simp) (by dsimp only; rw [e]) (by dsimp only; rw [e]; dsimp only; rw [h2]; decide) (by dsimp only; rw [e]; dsimp only; rw [h2]; decide)
  dsimp only at this
  rw [e] at this
  dsimp only at this
  rw [h2] at this
  exact this
/-- fields that come twice -/
theorem rqForm_1 {t : Tb} {sec body : List Int} {l : List Fld} (hd : decFl t sec = (l, 0)) (hf : faultRq l = 0) (h1 : sec.length ≤ 160) (hb : body.length ≤ 200) : feedR rd0 t (reqT sec body ++ reqT sec body) true = (rd0, 3) := by
  have hA := all_len h1 hb
  rw [feedR_in (r := rd0) (by simp [rd0]) (by rw [List.length_append]; omega) (by simp [rd0]) rfl ((reqT sec body ++ reqT sec body).length + 1) (by simp [rd0])]
  have hs := feed_sec hd hf (by omega) hb (reqT sec body) true ((reqT sec body ++ reqT sec body).length + 1) (by omega)
  refine hs.trans ?_
  have e := req_first (sec := sec) (body := body) (by omega) []
  rw [List.append_nil] at e
  have h2 : takeR t l true body ⟨1, sec, bodT body ++ []⟩ = (([], false, []), 3) := by
    unfold takeR
    rw [if_pos rfl, if_pos rfl]
  have := feedN_bad (t := t) (fin := true) (n := (reqT sec body).length) (r := ⟨reqT sec body, l, true, body, false⟩) (reqT_ne _ _) (by dsimp only; rw [e]) (by dsimp only; rw [e]; dsimp only; rw [h2]; decide) (by dsimp only; rw [e]; dsimp only; rw [h2]; decide)
  dsimp only at this
  rw [e] at this
  dsimp only at this
  rw [h2] at this
  exact this
/-- a request that ends too early -/
theorem rqForm_2 {t : Tb} {sec body : List Int} {l : List Fld} (hd : decFl t sec = (l, 0)) (hf : faultRq l = 0) (h1 : sec.length ≤ 160) (hne : sec ≠ []) (hb : body.length ≤ 200) : feedR rd0 t ((reqT sec body).take ((reqT sec body).length - 1)) true = (rd0, 4) := by
  have hA := all_len h1 hb
  rw [feedR_in (r := rd0) (by simp [rd0]) (by rw [List.length_take]; omega) (by simp [rd0]) rfl ((reqT sec body).length + 1) (by simp [rd0]; omega)]
  dsimp only [rd0]
  rw [List.nil_append]
  by_cases hbe : body = []
  · subst hbe
    have e0 : reqT sec [] = enc 1 ++ (enc (sec.length : Int) ++ sec) := by unfold reqT bodT; rw [if_pos rfl, List.append_nil]
    rw [e0]
    have e := firstR_cut (k := 1) (d := sec) (by decide) (by decide) (by omega) hne
    have := feedN_err (t := t) (fin := true) (n := (enc 1 ++ (enc (sec.length : Int) ++ sec)).length) (r := ⟨(enc 1 ++ (enc (sec.length : Int) ++ sec)).take ((enc 1 ++ (enc (sec.length : Int) ++ sec)).length - 1), [], false, [], false⟩) (fun q => by
      have hp : 0 < sec.length := (len_pos hne)
      have := congrArg List.length q
      dsimp only at this
      rw [enc_small (n := 1) (by decide)] at this
      simp only [List.length_take, List.length_append, List.length_cons, List.length_nil] at this
      omega) (by dsimp only; rw [e]; decide) (.inr rfl)
    rw [this]
    dsimp only
    rw [e]
    rfl
  · have hB : bodT body = enc 0 ++ (enc (body.length : Int) ++ body) := by unfold bodT; rw [if_neg hbe, List.append_nil]
    have hp : 0 < body.length := (len_pos hbe)
    have hlB : 0 < (bodT body).length := by rw [hB]; simp only [List.length_append]; omega
    have e0 : (reqT sec body).take ((reqT sec body).length - 1) = enc 1 ++ (enc (sec.length : Int) ++ (sec ++ (bodT body).take ((bodT body).length - 1))) := by
      unfold reqT
      rw [List.take_append, List.take_of_length_le (by simp only [List.length_append]; omega), List.take_append, List.take_of_length_le (by simp only [List.length_append]; omega), List.take_append, List.take_of_length_le (by simp only [List.length_append]; omega)]
      congr 4
      simp only [List.length_append]
      omega
    rw [e0]
    have ef := firstR_enc 1 sec ((bodT body).take ((bodT body).length - 1)) (by decide) (by decide) (by omega)
    have hN : (reqT sec body).length + 1 = ((reqT sec body).length - 1) + 1 + 1 := by
      have : 0 < (reqT sec body).length := (len_pos (reqT_ne _ _))
      omega
    rw [hN]
    have h2 := take_one (t := t) hd hf [] ((bodT body).take ((bodT body).length - 1))
    rw [feedN_step (r := ⟨enc 1 ++ (enc (sec.length : Int) ++ (sec ++ (bodT body).take ((bodT body).length - 1))), [], false, [], false⟩) (by
      have e1 := enc_small (n := 1) (by decide)
      dsimp only
      rw [e1]
      simp) (by dsimp only; rw [ef]) (by dsimp only; rw [ef]; dsimp only; rw [h2])]
    dsimp only
    rw [ef]
    dsimp only
    rw [h2]
    dsimp only
    have e := firstR_cut (k := 0) (d := body) (by decide) (by decide) (by omega) hbe
    rw [← hB] at e
    rw [feedN_err (r := ⟨(bodT body).take ((bodT body).length - 1), l, true, [], false⟩) (fun q => by
      have := congrArg List.length q
      dsimp only at this
      have e1 := enc_small (n := 0) (by decide)
      have e2 := enc_len (body.length : Int)
      rw [hB, e1] at this
      simp only [List.length_take, List.length_append, List.length_cons, List.length_nil] at this
      omega) (by dsimp only; rw [e]; decide) (.inr rfl)]
    dsimp only
    rw [e]
    rfl
/-- one that never came -/
theorem rqForm_3 (t : Tb) : feedR rd0 t [] true = (rd0, 4) := by
  unfold feedR
  rw [if_neg (by simp [rd0]), if_neg (by simp [rd0])]
  exact (feedN_nil (r := ⟨[], [], false, [], false⟩) rfl).trans (if_pos ⟨rfl, rfl⟩)
end Go.Proofs.YtpfahdogedchpaaDoor.P
