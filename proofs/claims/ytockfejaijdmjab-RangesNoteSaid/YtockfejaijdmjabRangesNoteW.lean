/- RangesNote's walk. -/
import Derived.Test.YtockfejaijdmjabRngNote
import Derived.Test.YtockfejaijdmjabRngTell
import Derived.Test.YtockfejaijdmjabRngSame
import Derived.Test.YtockfejaijdmjabPick
import Derived.Deep.LoopGhost
namespace Go.Proofs.Ytockfejaijdmjab
set_option linter.unusedVariables false
open Go.RowKit P

theorem mem_drop {l : List (Int × Int)} {k : Nat} {n : Int} (h : mem (l.drop k) n) : mem l n := by
  rw [← List.take_append_drop k l, mem_app]
  exact .inr h
theorem okR_one {n : Int} (h0 : 0 ≤ n) (h1 : n ≤ 4611686018427387903) : okR (n, n) := ⟨h0, Int.le_refl _, h1⟩
theorem note_ok {ps : List (Int × Int)} {n : Int} (h : okL ps) (hr : okR (n, n)) : okL (noteL ps n) ∧ (noteL ps n).length ≤ 6 ∧ ∀ m, mem (noteL ps n) m → m = n ∨ mem ps m := by
  have H := insL_ok h hr
  refine ⟨okFrom_drop H.1 (Int.le_refl _) _, by unfold noteL; rw [List.length_drop]; omega, fun m hm => ?_⟩
  rcases (H.2 m).1 (mem_drop hm) with c | c
  · exact .inl (by have h1 := c.1; have h2 := c.2; simp only at h1 h2; omega)
  · exact .inr c
theorem last_in : ∀ {J : List (Int × Int)} {a k : Int} {j : Nat}, okFrom a J → mem J k → (∀ m, mem J m → m ≤ k) → j < J.length → mem (J.drop j) k
  | [], _, _, _, _, hm, _, _ => hm.elim
  | x :: l, a, k, 0, _, hm, _, _ => hm
  | [x], a, k, j + 1, _, _, _, hj => by simp at hj
  | x :: y :: l, a, k, j + 1, ho, hm, hb, hj => by
    refine last_in (J := y :: l) ho.2.2 ?_ (fun m h => hb m (.inr h)) (by simpa using hj)
    rcases hm with c | c
    · have g1 := ho.2.2.2.1
      have g2 := ho.2.2.1.2.1
      have g3 := hb y.1 (.inr (.inl ⟨Int.le_refl _, g2⟩))
      have := c.2
      omega
    · exact c
theorem below50 {D C : List (Int × Int)} {k : Int} (h : ∀ m, mem D m → m = k ∨ mem C m) (hk : k < 50) (hc : ∀ m, mem C m → m < 50) : ∀ m, mem D m → m < 50 := fun m hm => by
  rcases h m hm with e | e
  · omega
  · exact hc m e
theorem note_has {ps : List (Int × Int)} {n : Int} (h : okL ps) (hr : okR (n, n)) (hb : ∀ m, mem ps m → m < n) : mem (noteL ps n) n := by
  have H := insL_ok h hr
  have hm : mem (insR (n, n) ps) n := (H.2 n).2 (.inl ⟨Int.le_refl _, Int.le_refl _⟩)
  refine last_in H.1 hm (fun m hmm => ?_) ?_
  · rcases (H.2 m).1 hmm with c | c
    · exact c.2
    · have := hb m c; omega
  · cases hJ : insR (n, n) ps with
    | nil => rw [hJ] at hm; exact hm.elim
    | cons x l => simp only [List.length_cons]; omega
theorem note_same {u : List (Int × Int)} {n : Int} (h : okL u) (hr : okR (n, n)) (hl : u.length ≤ 6) (hm : mem u n) : noteL u n = u := by
  have H := insL_ok h hr
  have e := ok_ext H.1 h (fun m => by
    rw [H.2 m]
    refine ⟨fun c => ?_, .inr⟩
    rcases c with c | c
    · have : m = n := by have h1 := c.1; have h2 := c.2; simp only at h1 h2; omega
      rw [this]; exact hm
    · exact c)
  unfold noteL
  rw [e, show u.length - 6 = 0 by omega, List.drop_zero]

theorem rangesNote_walk (n : Int) (A : Option Addr) (len cap : Nat) (zs : List Int) (w : World) (h : IsRow .i64 w A len cap zs) :
    Calls Try.prog 4 #[.slice A len cap, .int .i64 n] w fun e w' => e = .returned (.bool true) ∧ Below w.heap.size w w' := by
  have hrow : len ≤ cap ∧ cap ≤ maxLen ∧ (0 < len → ∃ b off, A = some ⟨b, off, none⟩ ∧ b < w.heap.size ∧ ∀ j, j < len → w.cell? ⟨b, off + j, none⟩ = some (.int .i64 (zs.getD j 0))) := by
    rcases h with ⟨rfl, rfl, rfl, rfl⟩ | ⟨x, rfl, hl, hm, hz, hc, _⟩
    · exact ⟨Nat.le_refl _, by unfold maxLen; omega, fun h => absurd h (by omega)⟩
    · refine ⟨hl, hm, fun hp => ?_⟩
      obtain ⟨b, off, rfl, hat⟩ := ints_at hc (by omega)
      exact ⟨b, off, rfl, cell_lt (hat 0 (by omega)), fun j hj => hat j (by omega)⟩
  obtain ⟨hlc, hcm, hrow⟩ := hrow
  have hcm' := hcm
  unfold maxLen at hcm'
  have HR := Lib.hid hrow
  obtain ⟨N, hN⟩ : ∃ N, min len 30 = N := ⟨_, rfl⟩
  have n1 : N ≤ 30 := by omega
  have n2 : N ≤ len := by omega
  have s1 : (if (30 : Int) < (len : Int) then (30 : Int) else (len : Int)) = (N : Int) := by split <;> omega
  have s2 : (if 30 < len then (30 : Int) else (len : Int)) = (N : Int) := by split <;> omega
  obtain ⟨pn, hpn⟩ : ∃ x, n % 9 = x := ⟨_, rfl⟩
  have p0 : 0 ≤ pn := by omega
  have p1 : pn < 9 := by omega
  have HP := Lib.hid hpn
  clear h hrow hpn hN hcm
  go_enter Try.func4, Try.ntmps4
  go_wp2
  clear s1 s2
  go_loopg [5, 26] N (fun g v i wr => ∃ (k : Nat) (C : List (Int × Int)) (A' : Option Addr) (c : Nat), k + g = N ∧ i = .int .i64 k ∧ v = .slice A' C.length c ∧ C.length ≤ 6 ∧ C.length ≤ c ∧ Hid (c ≤ maxLen) ∧ Hid (okL C) ∧ Hid (∀ m, mem C m → m < 50) ∧ Hid (RRow wr wr.heap.size A' C) ∧ Below w.heap.size w wr)
  case atStart => exact ⟨0, [], none, 0, by omega, rfl, rfl, Nat.zero_le _, Nat.le_refl _, Nat.zero_le _, trivial, fun m h => h.elim, RRow.nil _ _ _, Below.refl _ _⟩
  case round =>
    obtain ⟨k, C, A', c, hk, rfl, rfl, hC6, hCc, hcm0, HO, HM, HC, hb⟩ := hrel
    have HB := Lib.hid hb
    clear hb
    by_cases hlt : k < N
    · obtain ⟨b, off, rfl, hbb, hc⟩ := HR.out (by omega)
      have c0 := (HB.out.cell (p := ⟨b, off + k, none⟩) hbb).trans (hc k (by omega))
      generalize zs.getD k 0 = z at c0
      obtain ⟨pk, hpk⟩ : ∃ x, z % 50 = x := ⟨_, rfl⟩
      have k0 : 0 ≤ pk := by omega
      have k1 : pk < 50 := by omega
      have HK := Lib.hid hpk
      have HX := Lib.hid (okR_one k0 (by omega) : okR (pk, pk))
      have HN := Lib.hid (note_ok HO.out HX.out)
      obtain ⟨D, hD⟩ : ∃ D, noteL C pk = D := ⟨_, rfl⟩
      rw [hD] at HN
      have HD := Lib.hid hD
      have d6 := HN.out.2.1
      have cv := Lib.hid (show ckV D = 0 from if_pos HN.out.1)
      have g1 : decide ((6 : Int) < (D.length : Int)) = false := by simp; omega
      have g2 : decide (6 < D.length) = false := by simp; omega
      clear hpk hc hD
      cases hb : hasB C pk
      all_goals
        have Hb := Lib.hid hb
        clear hb
        go_wp2_with (first
          | (go_at_call 7; refine (picked_any _ _ (by omega) (by omega) _).mono ?_; rintro e w' ⟨rfl, rfl⟩; simp only [HK.out])
          | (go_at_call 11
             refine (khas_any _ _ _ C _ _ HC.out rfl HO.out (by omega)).mono ?_
             rintro e w1 ⟨rfl, hb1⟩
             have HB1 := Lib.hid hb1
             clear hb1
             rw [Hb.out])
          | (go_at_call 12
             refine (note_any _ _ _ C _ _ (HC.out.on HB1.out) rfl HO.out HX.out (by omega) hCc hcm0.out).mono ?_
             rintro e w2 ⟨A2, c2, rfl, l2, m2, r2, hb2⟩
             rw [HD.out] at l2 r2 ⊢
             have R2 := Lib.hid r2
             have M2 := Lib.hid m2
             have HB2 := Lib.hid hb2
             clear hb2 r2 m2
             rw [Hb.out])
          | (go_at_call 13
             refine (check_any _ _ _ D _ R2.out rfl (by omega)).mono ?_
             rintro e w3 ⟨rfl, hb3⟩
             have HB3 := Lib.hid hb3
             clear hb3
             rw [cv.out]))
        go_roundg (gk - 1)
        case measure => omega
        case rel => exact ⟨k + 1, D, A2, c2, by omega, by go_num, rfl, d6, l2, M2, HN.out.1, below50 HN.out.2.2 k1 HM.out, R2.out.on HB3.out, bt HB.out (bt HB1.out (bt HB2.out HB3.out))⟩
    · have HX := Lib.hid (okR_one (by omega) (by omega) : okR (60 + pn, 60 + pn))
      have hf := Lib.hid (show hasB C (60 + pn) = false from decide_eq_false (fun h => by have := HM.out _ h; omega))
      have HN := Lib.hid (note_ok HO.out HX.out)
      have ht := note_has HO.out HX.out (fun m hm => by have := HM.out m hm; omega)
      have hs := note_same HN.out.1 HX.out HN.out.2.1 ht
      obtain ⟨U, hU⟩ : ∃ U, noteL C (60 + pn) = U := ⟨_, rfl⟩
      rw [hU] at HN ht hs
      have u6 := HN.out.2.1
      have HU := Lib.hid hU
      have HS := Lib.hid hs
      have Ht := Lib.hid (show hasB U (60 + pn) = true from decide_eq_true ht)
      clear hU hs ht
      go_wp2_with (first
        | (go_at_call 7; refine (picked_any _ _ (by omega) (by omega) _).mono ?_; rintro e w' ⟨rfl, rfl⟩; simp only [HP.out])
        | (go_at_call 12
           (with_reducible refine (note_any _ _ _ U _ _ R1.out rfl HN.out.1 HX.out (by omega) l1 M1.out).mono ?_)
           rintro e w2 ⟨A2, c2, rfl, l2, m2, r2, hb2⟩
           rw [HS.out] at l2 r2 ⊢
           have R2 := Lib.hid r2
           have HB2 := Lib.hid hb2
           clear hb2 r2 m2
           rw [Ht.out])
        | (go_at_call 12
           (with_reducible refine (note_any _ _ _ C _ _ HC.out rfl HO.out HX.out (by omega) hCc hcm0.out).mono ?_)
           rintro e w1 ⟨A1, c1, rfl, l1, m1, r1, hb1⟩
           rw [HU.out] at l1 r1 ⊢
           have R1 := Lib.hid r1
           have M1 := Lib.hid m1
           have HB1 := Lib.hid hb1
           clear hb1 r1 m1
           rw [hf.out])
        | (go_at_call 9
           refine (tell_any _).mono ?_
           rintro e w3 ⟨rfl, hb3⟩
           have HB3 := Lib.hid hb3
           clear hb3)
        | (go_at_call 11
           refine (khas_any _ _ _ U _ _ (R1.out.on (bt HB2.out HB3.out)) rfl HN.out.1 (by omega)).mono ?_
           rintro e w4 ⟨rfl, hb4⟩
           have HB4 := Lib.hid hb4
           clear hb4
           rw [Ht.out])
        | (go_at_call 10
           refine (same_any _ _ _ _ _ U _ (R1.out.on (bt HB2.out (bt HB3.out HB4.out))) (R2.out.on (bt HB3.out HB4.out)) rfl (by omega)).mono ?_
           rintro e w5 ⟨rfl, hb5⟩
           have HB5 := Lib.hid hb5
           clear hb5))
      go_ret
      exact ⟨rfl, bt HB.out (bt HB1.out (bt HB2.out (bt HB3.out (bt HB4.out HB5.out))))⟩
end Go.Proofs.Ytockfejaijdmjab
