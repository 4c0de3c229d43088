/- What happens to a pace: what is on its way. -/
import Derived.Test.YtlafjladlkbnoaaRowE
import Derived.Test.YtlafjladlkbnoaaPaYes
import Derived.Test.YtlafjladlkbnoaaRaw
namespace Go.Proofs.Ytlafjladlkbnoaa
set_option linter.unusedVariables false
open Go.RowKit P

/-- a parcel without frames: when it was sent, and how large it is -/
def wayE : Lay (Int × Int) := ⟨fun x => [.int .i64 0, .int .i64 x.1, .int .i64 x.2, .slice none 0 0], 4, fun _ => rfl, fun x u hu => by
  simp only [List.mem_cons, List.not_mem_nil, or_false] at hu
  rcases hu with rfl | rfl | rfl | rfl <;> rfl, by decide⟩
def sumW : List (Int × Int) → Int
  | [] => 0
  | x :: ps => x.2 + sumW ps
theorem sumW_app (xs ys : List (Int × Int)) : sumW (xs ++ ys) = sumW xs + sumW ys := by
  induction xs with
  | nil => simp [sumW]
  | cons x xs ih => simp only [List.cons_append, sumW, ih]; omega
theorem sumW_nn {ps : List (Int × Int)} (h : ∀ x ∈ ps, 0 ≤ x.2 ∧ x.2 < 150) : 0 ≤ sumW ps ∧ sumW ps ≤ 150 * ps.length := by
  induction ps with
  | nil => simp [sumW]
  | cons x ps ih =>
    have a := ih fun y hy => h y (List.mem_cons_of_mem _ hy)
    have b := h x List.mem_cons_self
    simp only [sumW, List.length_cons]
    omega
theorem split_at (ps : List (Int × Int)) (i : Nat) (h : i < ps.length) : ps = ps.take i ++ (ps[i] :: ps.drop (i + 1)) := by
  rw [← List.drop_eq_getElem_cons h, List.take_append_drop]
/-- what holds of a pace to which raw things happened, and of what is on its way -/
structure PI (wd th fl si nw : Int) (ps : List (Int × Int)) : Prop where
  ok : paF wd th fl si = 0
  sum : fl = sumW ps
  n0 : 0 ≤ nw
  sn : si ≤ nw
  tm : ∀ x ∈ ps, 0 ≤ x.1 ∧ x.1 ≤ nw
  sz : ∀ x ∈ ps, 0 ≤ x.2 ∧ x.2 < 150
  up : ps.Pairwise fun a b => a.1 ≤ b.1
theorem PI.begin : PI 400 0 0 (-1) 0 [] := ⟨by decide, rfl, by omega, by omega, fun _ h => (by cases h), fun _ h => (by cases h), List.Pairwise.nil⟩
theorem PI.tick {wd th fl si nw : Int} {ps : List (Int × Int)} (h : PI wd th fl si nw ps) (d : Int) (hd : 0 ≤ d) : PI wd th fl si (nw + d) ps :=
  ⟨h.ok, h.sum, by have := h.n0; omega, by have := h.sn; omega, fun x hx => by have := h.tm x hx; omega, h.sz, h.up⟩
theorem PI.send {wd th fl si nw : Int} {ps : List (Int × Int)} (h : PI wd th fl si nw ps) (n : Int) (h0 : 0 ≤ n) (h1 : n < 150) (hw : fl + n ≤ wd) : PI wd th (fl + n) si nw (ps ++ [(nw, n)]) := by
  obtain ⟨k0, k1, k2, k3, k4, k5⟩ := paF_ok h.ok
  refine ⟨paF_yes k0 k1 k2 ⟨by have := k3.1; omega, by omega⟩ k4 k5, ?_, h.n0, h.sn, fun x hx => ?_, fun x hx => ?_, ?_⟩
  · rw [sumW_app, h.sum]; simp [sumW]
  · rcases List.mem_append.1 hx with hx | hx
    · exact h.tm x hx
    · rw [List.mem_singleton.1 hx]; exact ⟨h.n0, by omega⟩
  · rcases List.mem_append.1 hx with hx | hx
    · exact h.sz x hx
    · rw [List.mem_singleton.1 hx]; exact ⟨h0, h1⟩
  · refine List.pairwise_append.2 ⟨h.up, List.pairwise_singleton _ _, fun a ha b hb => ?_⟩
    rw [List.mem_singleton.1 hb]
    exact (h.tm a ha).2
theorem PI.less {wd th fl si nw : Int} {ps : List (Int × Int)} (h : PI wd th fl si nw ps) (i : Nat) (hi : i < ps.length) :
    0 ≤ ps[i].2 ∧ ps[i].2 < 150 ∧ ps[i].2 ≤ fl ∧ 0 ≤ ps[i].1 ∧ ps[i].1 ≤ nw ∧ fl - ps[i].2 = sumW (ps.take i ++ ps.drop (i + 1)) ∧ (∀ x ∈ ps.take i ++ ps.drop (i + 1), x ∈ ps) ∧ (ps.take i ++ ps.drop (i + 1)).Pairwise (fun a b => a.1 ≤ b.1) := by
  have hm : ps[i] ∈ ps := List.getElem_mem hi
  have hs := split_at ps i hi
  have e : sumW ps = sumW (ps.take i) + (ps[i].2 + sumW (ps.drop (i + 1))) := by
    conv => lhs; rw [hs]
    rw [sumW_app]; rfl
  have hsub : ∀ x ∈ ps.take i ++ ps.drop (i + 1), x ∈ ps := fun x hx => by
    rcases List.mem_append.1 hx with hx | hx
    · exact List.mem_of_mem_take hx
    · exact List.mem_of_mem_drop hx
  have a := (sumW_nn (ps := ps.take i) fun x hx => h.sz x (List.mem_of_mem_take hx)).1
  have b := (sumW_nn (ps := ps.drop (i + 1)) fun x hx => h.sz x (List.mem_of_mem_drop hx)).1
  refine ⟨(h.sz _ hm).1, (h.sz _ hm).2, by rw [h.sum, e]; omega, (h.tm _ hm).1, (h.tm _ hm).2, by rw [h.sum, e, sumW_app]; omega, hsub, ?_⟩
  have hp := h.up
  rw [hs] at hp
  exact hp.sublist (List.Sublist.append (List.Sublist.refl _) (List.sublist_cons_self _ _))
theorem PI.heard {wd th fl si nw : Int} {ps : List (Int × Int)} (h : PI wd th fl si nw ps) (hn : nw ≤ 1000) (i : Nat) (hi : i < ps.length) :
    ∃ wd', paH wd th fl si ps[i].2 ps[i].1 = (wd', th, fl - ps[i].2, si, 0) ∧ PI wd' th (fl - ps[i].2) si nw (ps.take i ++ ps.drop (i + 1)) := by
  obtain ⟨a0, a1, a2, a3, a4, a5, a6, a7⟩ := h.less i hi
  obtain ⟨k0, k1, k2, k3, k4, k5⟩ := paF_ok h.ok
  have hf : mtB (fl - ps[i].2) := ⟨by omega, by have := k3.2; omega⟩
  have mk : ∀ wd', 200 ≤ wd' → wd' ≤ 1099511627776 → PI wd' th (fl - ps[i].2) si nw (ps.take i ++ ps.drop (i + 1)) := fun wd' q0 q1 =>
    ⟨paF_yes q0 q1 k2 hf k4 k5, a5, h.n0, h.sn, fun x hx => h.tm x (a6 x hx), fun x hx => h.sz x (a6 x hx), a7⟩
  by_cases s : si < ps[i].1
  · obtain ⟨g0, g1⟩ := paG_in (wd := wd) (th := th) k0 a0
    exact ⟨_, paH_new h.ok ⟨by omega, by omega⟩ ⟨by omega, by omega⟩ a2 s, mk _ (by omega) (by omega)⟩
  · exact ⟨_, paH_old h.ok ⟨by omega, by omega⟩ ⟨by omega, by omega⟩ a2 (by omega), mk _ k0 k1⟩
theorem PI.lost {wd th fl si nw : Int} {ps : List (Int × Int)} (h : PI wd th fl si nw ps) (hn : nw ≤ 1000) (i : Nat) (hi : i < ps.length) :
    ∃ wd' th' si', paL wd th fl si ps[i].2 ps[i].1 nw = (wd', th', fl - ps[i].2, si', 0) ∧ PI wd' th' (fl - ps[i].2) si' nw (ps.take i ++ ps.drop (i + 1)) := by
  obtain ⟨a0, a1, a2, a3, a4, a5, a6, a7⟩ := h.less i hi
  obtain ⟨k0, k1, k2, k3, k4, k5⟩ := paF_ok h.ok
  have n0 := h.n0
  have hf : mtB (fl - ps[i].2) := ⟨by omega, by have := k3.2; omega⟩
  have mk : ∀ wd' th' si', 200 ≤ wd' → wd' ≤ 1099511627776 → mtB th' → -1 ≤ si' → si' ≤ nw → PI wd' th' (fl - ps[i].2) si' nw (ps.take i ++ ps.drop (i + 1)) := fun wd' th' si' q0 q1 q2 q3 q4 =>
    ⟨paF_yes q0 q1 q2 hf q3 (by omega), a5, h.n0, q4, fun x hx => h.tm x (a6 x hx), fun x hx => h.sz x (a6 x hx), a7⟩
  by_cases s : si < ps[i].1
  · exact ⟨_, _, _, paL_new h.ok ⟨by omega, by omega⟩ ⟨by omega, by omega⟩ ⟨by omega, by omega⟩ a2 s, mk _ _ _ (by omega) (by omega) ⟨by omega, by omega⟩ (by omega) (by omega)⟩
  · exact ⟨_, _, _, paL_old h.ok ⟨by omega, by omega⟩ ⟨by omega, by omega⟩ ⟨by omega, by omega⟩ a2 (by omega), mk _ _ _ k0 k1 k2 k4 h.sn⟩

theorem some30 (A : Option Addr) (len cap : Nat) (w : World) (hl : len ≤ cap) (hc : cap ≤ maxLen) :
    Calls Try.prog 26 #[.slice A len cap, .int .i64 30] w fun e w' => e = .returned (.slice A (min len 30) cap) ∧ w = w' := by
  unfold maxLen at hc
  by_cases h : 30 < len
  · have e := Lib.hid (show min len 30 = 30 by omega)
    go_enter Try.func26, Try.ntmps26
    go_wp2
    go_ret
    exact ⟨by rw [e.out]; rfl, rfl⟩
  · have e := Lib.hid (show min len 30 = len by omega)
    go_enter Try.func26, Try.ntmps26
    go_wp2
    go_ret
    exact ⟨by rw [e.out]; rfl, rfl⟩
def PacedPost (w : World) (e : Ending) (w' : World) : Prop := ∃ (wd th fl si nw : Int) (ps : List (Int × Int)) (A : Option Addr) (c : Nat),
  e = .returned (.tuple #[.agg #[.int .i64 wd, .int .i64 th, .int .i64 fl, .int .i64 si], .slice A ps.length c, .bool true]) ∧ PI wd th fl si nw ps ∧ nw ≤ 60 ∧ ps.length ≤ 30 ∧ ps.length ≤ c ∧ c ≤ maxLen ∧ RowE wayE w' w'.heap.size A ps ∧ Below w.heap.size w w'
end Go.Proofs.Ytlafjladlkbnoaa
