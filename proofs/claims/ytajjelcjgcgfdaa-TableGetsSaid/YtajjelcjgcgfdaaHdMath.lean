/- Heads in bytes: what may be, the bytes, and what is read; a head is read as it was written, cut short it is none; what is read may be, and is written in no more bytes. Nothing of the program's. -/
import Derived.Test.YtajjelcjgcgfdaaFrBack
import Derived.Test.YtajjelcjgcgfdaaPackMath
namespace Go.Proofs.Ytajjelcjgcgfdaa.P
set_option linter.unusedVariables false
open Go.RowKit

structure Hd where
  kind : Int
  to : Int
  frm : Int
  tok : List Int
  num : Int
  size : Int

/-- what Check says, by P5.1 -/
def faultH (h : Hd) : Int :=
  if ¬(0 ≤ h.kind ∧ h.kind ≤ 2) then 2
  else if 120 < h.tok.length then 1
  else if ¬(0 ≤ h.to ∧ h.to ≤ 255) ∨ ¬(0 ≤ h.frm ∧ h.frm ≤ 255) then 6
  else if h.kind = 1 then (if h.size ≠ 0 ∨ h.num ≠ 0 then 3 else 0)
  else if ¬(1 ≤ h.size ∧ h.size ≤ 4) ∨ ¬(0 ≤ h.num ∧ h.num < winOf h.size) then 6
  else if h.kind = 2 ∧ (h.frm ≠ 0 ∨ 0 < h.tok.length) then 3
  else 0
/-- the byte that a head begins with -/
def markH (h : Hd) : Int := if h.kind = 2 then 63 + h.size else if h.kind = 0 then 191 + h.size else 240
/-- the bytes of a head, by P5.2 -/
def hdT (h : Hd) : List Int :=
  markH h :: h.to :: ((if h.kind = 2 then [] else h.frm :: (enc h.tok.length ++ h.tok)) ++ lowB h.size.toNat h.num)

/-- the kind, and the Number's size, that a first byte tells -/
def kindH (z : Int) : Option (Int × Int) :=
  if 64 ≤ z ∧ z < 68 then some (2, z - 63) else if 192 ≤ z ∧ z < 196 then some (0, z - 191) else if z = 240 then some (1, 0) else none
def decNum (h : Hd) (s : List Int) : Except Int (Hd × List Int) :=
  if (s.length : Int) < h.size then .error 4 else .ok ({ h with num := beFrom 0 (s.take h.size.toNat) }, s.drop h.size.toNat)
def decTok (s : List Int) : Except Int (List Int × List Int) :=
  match rd s with
  | .error e => .error e
  | .ok (n, t) => if 120 < n then .error 1 else if (t.length : Int) < n then .error 4 else .ok (t.take n.toNat, t.drop n.toNat)
/-- the head that bytes begin with, by P5.3, and what stands behind it -/
def decH : List Int → Except Int (Hd × List Int)
  | [] => .error 4
  | z :: s =>
    match kindH z with
    | none => .error 2
    | some (k, n) =>
      match s with
      | [] => .error 4
      | a :: s =>
        if k = 2 then decNum ⟨2, a, 0, [], 0, n⟩ s else
        match s with
        | [] => .error 4
        | b :: s =>
          match decTok s with
          | .error e => .error e
          | .ok (t, u) => decNum ⟨k, a, b, t, 0, n⟩ u

theorem winOf_le (k : Int) : winOf k ≤ 4294967296 := by unfold winOf; split <;> (try split) <;> (try split) <;> omega
theorem kindH_some {z k n : Int} (h : kindH z = some (k, n)) : (k = 2 ∧ n = z - 63 ∧ 64 ≤ z ∧ z < 68) ∨ (k = 0 ∧ n = z - 191 ∧ 192 ≤ z ∧ z < 196) ∨ (k = 1 ∧ n = 0 ∧ z = 240) := by
  unfold kindH at h
  split at h
  · simp only [Option.some.injEq, Prod.mk.injEq] at h; omega
  split at h
  · simp only [Option.some.injEq, Prod.mk.injEq] at h; omega
  split at h
  · simp only [Option.some.injEq, Prod.mk.injEq] at h; omega
  · cases h
theorem decNum_ext (h : Hd) (m s : List Int) : (∀ g t, decNum h s = .ok (g, t) → decNum h (s ++ m) = .ok (g, t ++ m)) ∧ (∀ e, decNum h s = .error e → e ≠ 4 → decNum h (s ++ m) = .error e) := by
  unfold decNum
  by_cases hl : (s.length : Int) < h.size
  · rw [if_pos hl]
    exact ⟨fun g t h => by simp at h, fun e h he => by simp at h; omega⟩
  · rw [if_neg hl]
    refine ⟨fun g t h' => ?_, fun e h => by simp at h⟩
    rw [if_neg (by rw [List.length_append]; omega), List.take_append_of_le_length (by omega), List.drop_append_of_le_length (by omega)]
    simp only [Except.ok.injEq, Prod.mk.injEq] at h' ⊢
    exact ⟨h'.1, by rw [h'.2]⟩
theorem decTok_ext (m s : List Int) : (∀ g t, decTok s = .ok (g, t) → decTok (s ++ m) = .ok (g, t ++ m)) ∧ (∀ e, decTok s = .error e → e ≠ 4 → decTok (s ++ m) = .error e) := by
  unfold decTok
  cases h1 : rd s with
  | error e => exact ⟨fun g t h => by simp at h, fun e' h he => by simp at h; have := rd_err h1; omega⟩
  | ok p =>
    obtain ⟨n, t⟩ := p
    rw [rd_ext m h1]
    simp only
    by_cases hn : 120 < n
    · rw [if_pos hn, if_pos hn]
      exact ⟨fun g t h => by simp at h, fun e h _ => h⟩
    · rw [if_neg hn, if_neg hn]
      by_cases hl : (t.length : Int) < n
      · rw [if_pos hl]
        exact ⟨fun g t h => by simp at h, fun e h he => by simp at h; omega⟩
      · rw [if_neg hl]
        refine ⟨fun g t' h => ?_, fun e h => by simp at h⟩
        rw [if_neg (by rw [List.length_append]; omega), List.take_append_of_le_length (by omega), List.drop_append_of_le_length (by omega)]
        simp only [Except.ok.injEq, Prod.mk.injEq] at h ⊢
        exact ⟨h.1, by rw [h.2]⟩
theorem decH_ext (m s : List Int) : (∀ g t, decH s = .ok (g, t) → decH (s ++ m) = .ok (g, t ++ m)) ∧ (∀ e, decH s = .error e → e ≠ 4 → decH (s ++ m) = .error e) := by
  cases s with
  | nil => exact ⟨fun g t h => by simp [decH] at h, fun e h he => by simp [decH] at h; omega⟩
  | cons z s =>
    simp only [List.cons_append, decH]
    cases hk : kindH z with
    | none => exact ⟨fun g t h => by simp at h, fun e h _ => h⟩
    | some p =>
      obtain ⟨k, n⟩ := p
      simp only
      cases s with
      | nil => exact ⟨fun g t h => by simp at h, fun e h he => by simp at h; omega⟩
      | cons a s =>
        simp only [List.cons_append]
        by_cases k2 : k = 2
        · rw [if_pos k2, if_pos k2]
          exact decNum_ext _ m s
        · rw [if_neg k2, if_neg k2]
          cases s with
          | nil => exact ⟨fun g t h => by simp at h, fun e h he => by simp at h; omega⟩
          | cons b s =>
            simp only [List.cons_append]
            have hx := decTok_ext m s
            cases h1 : decTok s with
            | error e => exact ⟨fun g t h => by simp at h, fun e' h he => by simp at h; subst h; rw [hx.2 _ h1 he]⟩
            | ok p =>
              obtain ⟨t, u⟩ := p
              rw [hx.1 _ _ h1]
              exact decNum_ext _ m u

/-- a head that may be -/
structure OkH (h : Hd) : Prop where
  kind0 : 0 ≤ h.kind
  kind1 : h.kind ≤ 2
  tok : h.tok.length ≤ 120
  to0 : 0 ≤ h.to
  to1 : h.to ≤ 255
  frm0 : 0 ≤ h.frm
  frm1 : h.frm ≤ 255
  retry : h.kind = 1 → h.size = 0 ∧ h.num = 0
  size : h.kind ≠ 1 → 1 ≤ h.size ∧ h.size ≤ 4 ∧ 0 ≤ h.num ∧ h.num < winOf h.size
  short : h.kind = 2 → h.frm = 0 ∧ h.tok = []
theorem okH_of {h : Hd} (H : faultH h = 0) : OkH h := by
  unfold faultH at H
  split at H
  · omega
  split at H
  · omega
  split at H
  · omega
  split at H
  · split at H
    · omega
    · exact ⟨by omega, by omega, by omega, by omega, by omega, by omega, by omega, fun _ => by omega, fun e => by omega, fun e => by omega⟩
  split at H
  · omega
  split at H
  · omega
  · rename_i c1 c2 c3 c4 c5 c6
    exact ⟨by omega, by omega, by omega, by omega, by omega, by omega, by omega, fun e => absurd e c4, fun e => ⟨by omega, by omega, by omega, by omega⟩, fun e => ⟨by omega, List.eq_nil_of_length_eq_zero (by omega)⟩⟩
theorem of_okH {h : Hd} (H : OkH h) : faultH h = 0 := by
  unfold faultH
  have h1 := H.kind0; have h2 := H.kind1; have h3 := H.tok; have h4 := H.to0; have h5 := H.to1; have h6 := H.frm0; have h7 := H.frm1
  rw [if_neg (by omega), if_neg (by omega), if_neg (by omega)]
  by_cases k : h.kind = 1
  · rw [if_pos k, if_neg (by have := H.retry k; omega)]
  · have := H.size k
    rw [if_neg k, if_neg (by omega)]
    by_cases k2 : h.kind = 2
    · have h8 := H.short k2
      rw [if_neg (by rw [h8.2]; simp; omega)]
    · rw [if_neg (by omega)]

theorem decNum_low (h : Hd) (H : OkH h) (m : List Int) : decNum { h with num := 0 } (lowB h.size.toNat h.num ++ m) = .ok (h, m) := by
  have hl := lowB_len h.size.toNat h.num
  have hs : 0 ≤ h.size := by
    by_cases k : h.kind = 1
    · have := H.retry k; omega
    · have := H.size k; omega
  unfold decNum
  simp only
  rw [if_neg (by rw [List.length_append]; omega), List.take_append_of_le_length (by omega), List.take_of_length_le (by omega), List.drop_append_of_le_length (by omega), List.drop_of_length_le (by omega), List.nil_append]
  have e : beFrom 0 (lowB h.size.toNat h.num) = h.num := by
    by_cases k : h.kind = 1
    · have := H.retry k
      rw [this.1, this.2]; rfl
    · have := H.size k
      rw [be_low _ (by omega), show ((h.size.toNat : Nat) : Int) = h.size by omega]
      exact Int.emod_eq_of_lt this.2.2.1 this.2.2.2
  rw [e]
theorem decTok_enc (t m : List Int) (h : t.length ≤ 120) : decTok (enc t.length ++ (t ++ m)) = .ok (t, m) := by
  unfold decTok
  rw [rd_enc _ (by omega) (by omega)]
  simp only
  rw [if_neg (by omega), if_neg (by rw [List.length_append]; omega), show ((t.length : Int)).toNat = t.length by omega, List.take_left, List.drop_left]
/-- a head is read as it was written, whatever stands behind it -/
theorem decH_back {h : Hd} (H : faultH h = 0) (m : List Int) : decH (hdT h ++ m) = .ok (h, m) := by
  have H := okH_of H
  have h1 := H.kind0
  have h2 := H.kind1
  have key := decNum_low h H m
  unfold hdT
  simp only [List.cons_append, List.append_assoc, decH]
  rcases (show h.kind = 2 ∨ h.kind = 0 ∨ h.kind = 1 by omega) with k | k | k
  · have hs := H.size (by omega)
    have hh := H.short k
    rw [show markH h = 63 + h.size from if_pos k, show kindH (63 + h.size) = some (2, h.size) by unfold kindH; rw [if_pos (by omega), show 63 + h.size - 63 = h.size by omega]]
    simp only
    rw [if_pos trivial, if_pos k, List.nil_append]
    rw [show ({ h with num := 0 } : Hd) = ⟨2, h.to, 0, [], 0, h.size⟩ by cases h; simp_all] at key
    exact key
  · have hs := H.size (by omega)
    rw [show markH h = 191 + h.size by unfold markH; rw [if_neg (by omega), if_pos k], show kindH (191 + h.size) = some (0, h.size) by unfold kindH; rw [if_neg (by omega), if_pos (by omega), show 191 + h.size - 191 = h.size by omega]]
    simp only
    rw [if_neg (by omega), if_neg (by omega)]
    simp only [List.cons_append, List.append_assoc]
    rw [decTok_enc _ _ H.tok]
    simp only
    rw [show ({ h with num := 0 } : Hd) = ⟨0, h.to, h.frm, h.tok, 0, h.size⟩ by cases h; simp_all] at key
    exact key
  · have hs := H.retry k
    rw [show markH h = 240 by unfold markH; rw [if_neg (by omega), if_neg (by omega)], show kindH 240 = some (1, 0) from rfl]
    simp only
    rw [if_neg (by omega), if_neg (by omega)]
    simp only [List.cons_append, List.append_assoc]
    rw [decTok_enc _ _ H.tok]
    simp only
    rw [show ({ h with num := 0 } : Hd) = ⟨1, h.to, h.frm, h.tok, 0, 0⟩ by cases h; simp_all] at key
    exact key
/-- cut short it is none -/
theorem decH_cut {h : Hd} (H : faultH h = 0) (j : Nat) (hj : j < (hdT h).length) : decH ((hdT h).take j) = .error 4 := by
  have hx := decH_ext ((hdT h).drop j) ((hdT h).take j)
  rw [List.take_append_drop] at hx
  have hb := decH_back H []
  rw [List.append_nil] at hb
  cases hd : decH ((hdT h).take j) with
  | ok p =>
    obtain ⟨g, t⟩ := p
    have := hx.1 g t hd
    rw [hb] at this
    simp only [Except.ok.injEq, Prod.mk.injEq] at this
    have hl := congrArg List.length this.2
    rw [List.length_append, List.length_drop, List.length_nil] at hl
    omega
  | error e =>
    by_cases he : e = 4
    · rw [he]
    · have := hx.2 e hd he
      rw [hb] at this
      cases this
/-- of the bytes behind a head: fewer, and bytes -/
theorem decNum_any {g h : Hd} {s t : List Int} (hb : Byt s) (hs : g.size = 0 ∨ 1 ≤ g.size ∧ g.size ≤ 4) (hd : decNum g s = .ok (h, t)) : h = { g with num := h.num } ∧ s.length = g.size.toNat + t.length ∧ t = s.drop g.size.toNat ∧ 0 ≤ h.num ∧ (g.size = 0 → h.num = 0) ∧ (g.size ≠ 0 → h.num < winOf g.size) := by
  unfold decNum at hd
  by_cases hl : (s.length : Int) < g.size
  · rw [if_pos hl] at hd; simp at hd
  rw [if_neg hl] at hd
  simp only [Except.ok.injEq, Prod.mk.injEq] at hd
  obtain ⟨rfl, rfl⟩ := hd
  refine ⟨rfl, by rw [List.length_drop]; omega, rfl, ?_⟩
  simp only
  rcases hs with h0 | h1
  · rw [h0]
    exact ⟨Int.le_refl 0, fun _ => rfl, fun e => absurd rfl e⟩
  · have b := be_bd g.size.toNat (by omega) (s.take g.size.toNat) (by rw [List.length_take]; omega) (hb.take _)
    rw [show ((g.size.toNat : Nat) : Int) = g.size by omega] at b
    exact ⟨b.1, fun e => by omega, fun _ => b.2⟩
theorem decTok_any {s t u : List Int} (hb : Byt s) (h : decTok s = .ok (t, u)) : t.length ≤ 120 ∧ (enc t.length).length + t.length + u.length ≤ s.length ∧ Byt t ∧ Byt u := by
  unfold decTok at h
  cases h1 : rd s with
  | error e => rw [h1] at h; simp at h
  | ok p =>
    obtain ⟨n, v⟩ := p
    have r := rd_bd hb h1
    rw [h1] at h
    simp only at h
    by_cases hn : 120 < n
    · rw [if_pos hn] at h; simp at h
    rw [if_neg hn] at h
    by_cases hl : (v.length : Int) < n
    · rw [if_pos hl] at h; simp at h
    rw [if_neg hl] at h
    simp only [Except.ok.injEq, Prod.mk.injEq] at h
    obtain ⟨rfl, rfl⟩ := h
    have e : (((v.take n.toNat).length : Nat) : Int) = n := by rw [List.length_take]; omega
    rw [e, List.length_take, List.length_drop]
    exact ⟨by omega, by omega, r.2.2.2.take _, r.2.2.2.drop _⟩
/-- what is read may be, and is written in no more bytes -/
theorem decH_any {s t : List Int} {h : Hd} (hb : Byt s) (hd : decH s = .ok (h, t)) : faultH h = 0 ∧ (hdT h).length + t.length ≤ s.length ∧ Byt h.tok := by
  cases s with
  | nil => simp [decH] at hd
  | cons z s =>
    simp only [decH] at hd
    cases hk : kindH z with
    | none => rw [hk] at hd; simp at hd
    | some p =>
      obtain ⟨k, n⟩ := p
      rw [hk] at hd
      have kk := kindH_some hk
      simp only at hd
      cases s with
      | nil => simp at hd
      | cons a s =>
        have ba := hb 1
        simp only [List.getD_cons_succ, List.getD_cons_zero] at ba
        simp only at hd
        by_cases k2 : k = 2
        · rw [if_pos k2] at hd
          have hs : Byt s := hb.drop 2
          have r := decNum_any hs (.inr (by simp only; omega)) hd
          obtain ⟨e, l, _, n0, _, n1⟩ := r
          simp only at l n1
          generalize h.num = v at *
          subst e
          refine ⟨of_okH ⟨by simp, by simp, by simp, by simp only; omega, by simp only; omega, by simp, by simp, fun e => by simp at e, fun _ => ⟨by simp only; omega, by simp only; omega, n0, n1 (by omega)⟩, fun _ => ⟨rfl, rfl⟩⟩, ?_, Byt.nil⟩
          unfold hdT
          simp only [List.length_cons, List.length_append, lowB_len, if_true, List.length_nil]
          omega
        · rw [if_neg k2] at hd
          cases s with
          | nil => simp at hd
          | cons b s =>
            have bb := hb 2
            simp only [List.getD_cons_succ, List.getD_cons_zero] at bb
            have hs : Byt s := hb.drop 3
            simp only at hd
            cases h1 : decTok s with
            | error e => rw [h1] at hd; simp at hd
            | ok p =>
              obtain ⟨tk, u⟩ := p
              rw [h1] at hd
              simp only at hd
              have q := decTok_any hs h1
              have r := decNum_any q.2.2.2 (by simp only; omega) hd
              obtain ⟨e, l, _, n0, nz, n1⟩ := r
              simp only at l n1 nz
              generalize h.num = v at *
              subst e
              refine ⟨of_okH ⟨by simp only; omega, by simp only; omega, q.1, by simp only; omega, by simp only; omega, by simp only; omega, by simp only; omega, fun e => ?_, fun e => ?_, fun e => absurd e k2⟩, ?_, q.2.2.1⟩
              · simp only at e ⊢
                exact ⟨by omega, nz (by omega)⟩
              · simp only at e ⊢
                exact ⟨by omega, by omega, n0, n1 (by omega)⟩
              · unfold hdT
                simp only [if_neg k2, List.length_cons, List.length_append, lowB_len]
                omega
theorem hdT_len {h : Hd} (H : OkH h) : (hdT h).length ≤ 200 := by
  unfold hdT
  have h1 := H.kind0; have h2 := H.kind1; have h3 := H.tok
  have hl := enc_len h.tok.length
  have hs := sz_bd h.tok.length
  have hz : h.size ≤ 4 := by
    by_cases k : h.kind = 1
    · have := H.retry k; omega
    · have := H.size k; omega
  simp only [List.length_cons, List.length_append, lowB_len]
  split <;> simp <;> omega
theorem hdT_byt {h : Hd} (H : OkH h) (hb : Byt h.tok) : Byt (hdT h) := by
  unfold hdT
  have h1 := H.kind0; have h2 := H.kind1; have h3 := H.tok; have h4 := H.to0; have h5 := H.to1; have h6 := H.frm0; have h7 := H.frm1
  refine byt_cons ?_ (byt_cons ⟨h4, h5⟩ (Byt.append ?_ (lowB_byt _ _)))
  · unfold markH
    rcases (show h.kind = 2 ∨ h.kind = 0 ∨ h.kind = 1 by omega) with k | k | k
    · have := H.size (by omega)
      rw [if_pos k]; omega
    · have := H.size (by omega)
      rw [if_neg (by omega), if_pos k]; omega
    · rw [if_neg (by omega), if_neg (by omega)]; omega
  · split
    · exact Byt.nil
    · exact byt_cons ⟨h6, h7⟩ (Byt.append (enc_byt _ (by omega) (by omega)) hb)
theorem hdT_pos (h : Hd) : 0 < (hdT h).length := by unfold hdT; simp
end Go.Proofs.Ytajjelcjgcgfdaa.P
