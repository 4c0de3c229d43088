/- Numbers heard of one after another, as SpaceTells asks of them: plain lists, nothing of the program's. -/
import Derived.Test.YtnccibaifffhhaaGrpSa
namespace Go.Proofs.Ytnccibaifffhhaa.P
set_option linter.unusedVariables false

/-- a space that has heard of these numbers, and nothing else -/
def hSp (H : List (Int × Int)) : Sp := ⟨0, [], -1, H, []⟩
theorem lastHi_ne (a b : Int) {l : List (Int × Int)} (h : l ≠ []) : lastHi a l = lastHi b l := by
  cases l with
  | nil => exact absurd rfl h
  | cons x l => rfl
theorem lastHi_mem : ∀ {l : List (Int × Int)} {c : Int} (a : Int), okFrom c l → l ≠ [] → mem l (lastHi a l)
  | [], _, _, _, h => absurd rfl h
  | [x], _, a, h, _ => .inl ⟨h.1.2.1, Int.le_refl _⟩
  | x :: y :: l, _, a, h, _ => .inr (lastHi_mem (l := y :: l) x.2 h.2.2 (by simp))
theorem lastHi_ge : ∀ {l : List (Int × Int)} {c n : Int} (a : Int), okFrom c l → mem l n → n ≤ lastHi a l
  | x :: l, _, n, a, h, hm => by
    rcases hm with k | k
    · have := k.2
      cases l with
      | nil => exact this
      | cons y l =>
        have g : y.2 ≤ lastHi x.2 (y :: l) := lastHi_ge (l := y :: l) x.2 h.2.2 (.inl ⟨h.2.2.1.2.1, Int.le_refl _⟩)
        have := h.2.2.2.1
        have := h.2.2.1.2.1
        exact Int.le_trans (by omega) g
    · exact lastHi_ge (l := l) x.2 h.2.2 k
theorem lastHi_is {l : List (Int × Int)} {c t : Int} (a : Int) (h : okFrom c l) (hm : mem l t) (hx : ∀ n, mem l n → n ≤ t) : lastHi a l = t := by
  have hne : l ≠ [] := fun e => by rw [e] at hm; exact hm
  have g1 := hx _ (lastHi_mem a h hne)
  have g2 := lastHi_ge a h hm
  omega
theorem memB_iff (l : List (Int × Int)) (n : Int) : memB l n = true ↔ mem l n := by
  unfold memB
  rw [mem_iff, List.any_eq_true]
  simp [inR]
theorem memB_not {l : List (Int × Int)} {n : Int} (h : ¬ mem l n) : memB l n = false := by
  cases e : memB l n with
  | false => rfl
  | true => exact absurd ((memB_iff l n).1 e) h
/-- so many ranges, that may be; the highest number of theirs, or -1 -/
structure HI (H : List (Int × Int)) (top : Int) : Prop where
  ok : okL H
  len : H.length ≤ 6
  top : top = lastHi (-1) H
theorem HI.nil : HI [] (-1) := ⟨trivial, by simp, rfl⟩
theorem HI.sp {H : List (Int × Int)} {top : Int} (h : HI H top) : okSp (hSp H) :=
  ⟨by simp [hSp], by simp [hSp], by simp [hSp], (fun p hp => by cases hp), trivial, h.len, h.ok, by simp [hSp], trivial, by simp [hSp], (fun n hn => by cases hn)⟩
theorem HI.fault {H : List (Int × Int)} {top : Int} (h : HI H top) : faultSp (hSp H) = 0 := (faultSp_iff _).2 h.sp
theorem HI.top_lo {H : List (Int × Int)} {top : Int} (h : HI H top) : -1 ≤ top := by
  rw [h.top]
  by_cases e : H = []
  · rw [e]; exact Int.le_refl _
  · have := mem_above h.ok (lastHi_mem (-1) h.ok e); omega
theorem HI.ge {H : List (Int × Int)} {top n : Int} (h : HI H top) (hm : mem H n) : n ≤ top := by rw [h.top]; exact lastHi_ge _ h.ok hm
/-- below all that is kept: below the highest one, too -/
theorem HI.low {H : List (Int × Int)} {top n : Int} (h : HI H top) (hl : lowSp (hSp H) n) : n < top := by
  obtain ⟨l6, hn⟩ := hl
  cases H with
  | nil => cases l6
  | cons x l =>
    have : x.1 ≤ top := h.ge (.inl ⟨Int.le_refl _, h.ok.1.2.1⟩)
    have hn : n < x.1 := hn
    omega
theorem hear_low {H : List (Int × Int)} {top n : Int} (h : HI H top) (n0 : 0 ≤ n) (n1 : n ≤ 4611686018427387903) (hl : lowSp (hSp H) n) : hearSp (hSp H) n = (hSp H, false, 0) := by
  unfold hearSp
  rw [if_neg (fun q => q h.fault), if_neg (fun q => q ⟨n0, n1⟩), if_pos hl]
theorem hear_new {H : List (Int × Int)} {top n : Int} (h : HI H top) (n0 : 0 ≤ n) (n1 : n ≤ 4611686018427387903) (hl : ¬ lowSp (hSp H) n) : hearSp (hSp H) n = (hSp (noteSp H n), !memB H n, 0) := by
  unfold hearSp
  rw [if_neg (fun q => q h.fault), if_neg (fun q => q ⟨n0, n1⟩), if_neg hl]
  rfl
/-- what is noted stays a set that may be, the number is in it, and it has no other ones -/
theorem note_ok {H : List (Int × Int)} {top n : Int} (h : HI H top) (n0 : 0 ≤ n) (n1 : n ≤ 4611686018427387903) (hl : ¬ lowSp (hSp H) n) :
    okL (noteSp H n) ∧ (noteSp H n).length ≤ 6 ∧ mem (noteSp H n) n ∧ ∀ m, mem (noteSp H n) m → m = n ∨ mem H m := by
  have hr : okR (n, n) := ⟨n0, Int.le_refl _, n1⟩
  obtain ⟨o, m⟩ := insL_ok h.ok hr
  have ll := ins_len (n, n) H
  have h6 := h.len
  unfold noteSp
  refine ⟨okFrom_drop o (by omega) _, by rw [List.length_drop]; omega, ?_, fun k hk => ?_⟩
  · by_cases c : (insR (n, n) H).length ≤ 6
    · rw [show (insR (n, n) H).length - 6 = 0 by omega, List.drop_zero, m n]
      exact .inl ⟨Int.le_refl _, Int.le_refl _⟩
    · rw [show (insR (n, n) H).length - 6 = 1 by omega]
      have h66 : H.length = 6 := by omega
      have hm : mem (insR (n, n) H) n := (m n).2 (.inl ⟨Int.le_refl _, Int.le_refl _⟩)
      cases H with
      | nil => cases h66
      | cons x l =>
        have hx : x.1 ≤ n := by
          by_cases q : x.1 ≤ n
          · exact q
          · exact absurd ⟨h66, (by show n < x.1; omega)⟩ hl
        unfold insR at c hm ⊢
        by_cases a : x.2 + 1 < (n, n).1
        · rw [if_pos a] at hm ⊢
          rcases hm with q | q
          · have := q.2; simp only at a; omega
          · exact q
        · rw [if_neg a] at c
          have a' : ¬ x.2 + 1 < n := a
          unfold absR at c
          rw [if_pos (by show x.1 ≤ n + 1; omega)] at c
          have := abs_len (min (n, n).1 x.1, max (n, n).2 x.2) l
          simp only [List.length_cons] at h66
          omega
  · have hk' : mem (insR (n, n) H) k := by
      rw [← List.take_append_drop ((insR (n, n) H).length - 6) (insR (n, n) H), mem_app]
      exact .inr hk
    rcases (m k).1 hk' with q | q
    · exact .inl (by have := q.1; have := q.2; simp only at *; omega)
    · exact .inr q
/-- a number heard of: nobody refuses it; it is new, if it is greater than all; the highest one is the greater one; it is new once -/
theorem hear_step {H : List (Int × Int)} {top n : Int} (h : HI H top) (n0 : 0 ≤ n) (n1 : n ≤ 4611686018427387903) :
    ∃ (H' : List (Int × Int)) (f : Bool) (S : Sp), hearSp (hSp H) n = (hSp H', f, 0) ∧ (top < n → f = true) ∧ HI H' (max top n) ∧ hearSp (hSp H') n = (S, false, 0) := by
  by_cases hl : lowSp (hSp H) n
  · have hlt := h.low hl
    exact ⟨H, false, _, hear_low h n0 n1 hl, fun q => by omega, by rw [show max top n = top by omega]; exact h, hear_low h n0 n1 hl⟩
  · obtain ⟨o, l, m, k⟩ := note_ok h n0 n1 hl
    have hn : HI (noteSp H n) (max top n) := by
      refine ⟨o, l, (lastHi_is (-1) o ?_ fun j hj => ?_).symm⟩
      · by_cases q : top ≤ n
        · rw [show max top n = n by omega]; exact m
        · rw [show max top n = top by omega]
          -- the highest one is there still
          have hne : H ≠ [] := fun e => by have := h.top; rw [e] at this; have : top = -1 := this; omega
          have hm : mem H top := by rw [h.top]; exact lastHi_mem _ h.ok hne
          obtain ⟨oo, mm⟩ := insL_ok h.ok (r := (n, n)) ⟨n0, Int.le_refl _, n1⟩
          have ht : lastHi (-1) (insR (n, n) H) = top := lastHi_is _ oo ((mm top).2 (.inr hm)) fun j hj => by
            rcases (mm j).1 hj with g | g
            · have := g.2; simp only at this; omega
            · exact h.ge g
          have hd : noteSp H n ≠ [] := fun e => by rw [e] at m; exact m
          have e : lastHi (-1) (noteSp H n) = top := by
            rw [← ht]
            unfold noteSp at hd ⊢
            conv => rhs; rw [← List.take_append_drop ((insR (n, n) H).length - 6) (insR (n, n) H)]
            unfold lastHi
            rw [List.foldl_append]
            exact lastHi_ne _ _ hd
          rw [← e]
          exact lastHi_mem _ o hd
      · rcases k j hj with rfl | g
        · omega
        · have := h.ge g; omega
    have hag : ∃ S, hearSp (hSp (noteSp H n)) n = (S, false, 0) := by
      by_cases hl2 : lowSp (hSp (noteSp H n)) n
      · exact ⟨_, hear_low hn n0 n1 hl2⟩
      · refine ⟨hSp (noteSp (noteSp H n) n), ?_⟩
        rw [hear_new hn n0 n1 hl2, (memB_iff _ _).2 m]
        rfl
    obtain ⟨S, hS⟩ := hag
    refine ⟨_, _, S, hear_new h n0 n1 hl, fun q => ?_, hn, hS⟩
    rw [memB_not (fun g => by have := h.ge g; omega)]
    rfl
/-- what is told: the highest first -/
theorem tell_h {H : List (Int × Int)} {top : Int} (h : HI H top) : tellSp (hSp H) = (H.reverse, 0) := by
  unfold tellSp
  rw [if_neg (fun q => q h.fault)]
  rfl
theorem ok_pair {c : Int} : ∀ {l : List (Int × Int)}, okFrom c l → ∀ i, i + 1 < l.length → (l.getD i (0, 0)).2 + 2 ≤ (l.getD (i + 1) (0, 0)).1
  | x :: y :: l, h, 0, _ => h.2.2.2.1
  | x :: y :: l, h, i + 1, hi => ok_pair (l := y :: l) h.2.2 i (by simpa using hi)
theorem rev_get (l : List (Int × Int)) (i : Nat) (h : i < l.length) : l.reverse.getD i (0, 0) = l.getD (l.length - 1 - i) (0, 0) := by
  rw [List.getD_eq_getElem?_getD, List.getD_eq_getElem?_getD, List.getElem?_reverse h]
theorem HI.pair {H : List (Int × Int)} {top : Int} (h : HI H top) (i : Nat) (h0 : 0 < i) (hi : i < H.reverse.length) : (H.reverse.getD i (0, 0)).2 < (H.reverse.getD (i - 1) (0, 0)).1 - 1 := by
  rw [List.length_reverse] at hi
  rw [rev_get H i hi, rev_get H (i - 1) (by omega)]
  have := ok_pair h.ok (H.length - 1 - i) (by omega)
  rw [show H.length - 1 - (i - 1) = H.length - 1 - i + 1 by omega]
  omega
theorem HI.first {H : List (Int × Int)} {top : Int} (h : HI H top) (hl : 0 < H.length) : (H.reverse.getD 0 (0, 0)).2 = top := by
  rw [rev_get H 0 hl, h.top]
  have e := takeR_snoc H (H.length - 1) (by omega)
  rw [show H.length - 1 + 1 = H.length by omega, List.take_length] at e
  conv => rhs; rw [e, lastHi_snoc]
  simp
theorem HI.none {H : List (Int × Int)} {top : Int} (h : HI H top) (hl : H.length = 0) : top = -1 := by
  cases H with
  | nil => exact h.top
  | cons x l => cases hl
end Go.Proofs.Ytnccibaifffhhaa.P
