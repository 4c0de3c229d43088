/- Several texts in one. -/
import Derived.Test.YtpfahdogedchpaaRefKn
import Derived.Test.YtpfahdogedchpaaGrpZc
/- The document's answers on fields: FieldsFault, knownPlace, knownOf. -/
namespace Go.Proofs.Ytpfahdogedchpaa.P
set_option linter.unusedVariables false
theorem faultFl_no {l : List Fld} {i : Nat} (h : i < l.length) (h8 : l.length ≤ 8) (k : ¬ okFd (l.getD i fd0)) : faultFl l = 3 := by
  unfold faultFl
  rw [if_neg (by omega), if_neg]
  intro q
  refine k (q _ ?_)
  rw [List.getD_eq_getElem?_getD, List.getElem?_eq_getElem h]
  exact List.getElem_mem h
theorem faultFl_yes {l : List Fld} (h8 : l.length ≤ 8) (k : okPre l l.length) : faultFl l = 0 := by
  unfold faultFl
  rw [if_neg (by omega), if_pos]
  unfold okPre at k
  rwa [List.take_length] at k
/-- the first place at which something holds, or -1 -/
def firstP (p : Fld → Bool) : List Fld → Int
  | [] => -1
  | x :: l => if p x then 0 else if firstP p l = -1 then -1 else firstP p l + 1
theorem firstP_in (p : Fld → Bool) (l : List Fld) : firstP p l = -1 ∨ (0 ≤ firstP p l ∧ firstP p l < l.length) := by
  induction l with
  | nil => exact .inl rfl
  | cons x l ih =>
    unfold firstP
    split
    · exact .inr ⟨by omega, by simp only [List.length_cons]; omega⟩
    · split
      · exact .inl rfl
      · rcases ih with h | h
        · contradiction
        · exact .inr ⟨by omega, by simp only [List.length_cons]; omega⟩
theorem firstP_at {p : Fld → Bool} : ∀ {l : List Fld} {i : Nat}, i < l.length → p (l.getD i fd0) = true → (∀ j, j < i → p (l.getD j fd0) = false) → firstP p l = i
  | [], i, h, _, _ => by cases h
  | x :: l, 0, _, hp, _ => by
    unfold firstP
    rw [List.getD_cons_zero] at hp
    rw [if_pos hp]; rfl
  | x :: l, i + 1, h, hp, hn => by
    have h0 := hn 0 (by omega)
    rw [List.getD_cons_zero] at h0
    rw [List.getD_cons_succ] at hp
    have := firstP_at (l := l) (i := i) (by simpa using h) hp (fun j hj => by have := hn (j + 1) (by omega); rwa [List.getD_cons_succ] at this)
    unfold firstP
    rw [if_neg (by rw [h0]; decide), this, if_neg (by omega)]
    omega
theorem firstP_no {p : Fld → Bool} : ∀ {l : List Fld}, (∀ j, j < l.length → p (l.getD j fd0) = false) → firstP p l = -1
  | [], _ => rfl
  | x :: l, hn => by
    have h0 := hn 0 (by simp)
    rw [List.getD_cons_zero] at h0
    have := firstP_no (l := l) (fun j hj => by have := hn (j + 1) (by simp only [List.length_cons]; omega); rwa [List.getD_cons_succ] at this)
    unfold firstP
    rw [if_neg (by rw [h0]; decide), if_pos this]
/-- the place of one that all know: the same, or (not 'same') of the same name -/
def kpB (f : Fld) (same : Bool) (x : Fld) : Bool := decide (x = f) || (!same && decide (x.name = f.name))
def kpL (f : Fld) (same : Bool) : Int := firstP (kpB f same) knL
theorem knL_wf : ∀ x ∈ knL, FdWf x := by
  have key : ∀ x ∈ knL, (∀ c ∈ x.name, 0 ≤ c ∧ c ≤ 255) ∧ (∀ c ∈ x.val, 0 ≤ c ∧ c ≤ 255) ∧ x.name.length ≤ 140737488355328 ∧ x.val.length ≤ 140737488355328 := by decide
  intro x hx
  obtain ⟨h1, h2, h3, h4⟩ := key x hx
  exact ⟨byt_all h1, byt_all h2, h3, h4⟩
end Go.Proofs.Ytpfahdogedchpaa.P
namespace Go.Proofs.Ytpfahdogedchpaa
set_option linter.unusedVariables false
open Go.RowKit P

set_option maxHeartbeats 2000000 in
theorem refFlF_any (A : Option Addr) (n c : Nat) (l : List Fld) (w : World) (h : RowE FdE w w.heap.size A l) (hn : l.length = n) (hwf : ∀ x ∈ l, FdWf x) (hm : n ≤ 8796093022208) :
    Calls Try.prog 41 #[.slice A n c] w fun e w' => e = .returned (.int .i64 (faultFl l)) ∧ Below w.heap.size w w' := by
  by_cases h8 : 8 < n
  · have HE := Lib.hid (show faultFl l = 1 by unfold faultFl; rw [if_pos (by omega)])
    have h8' : (8 : Int) < (n : Int) := by omega
    clear h hn hwf
    go_enter Try.func41, Try.ntmps41
    go_wp2_with fail
    go_ret
    exact ⟨by rw [HE.out]; rfl, Below.refl _ _⟩
  · have h8' : ¬ (8 : Int) < (n : Int) := by omega
    have HR := Lib.hid h
    have HN := Lib.hid hn
    have HW := Lib.hid hwf
    have HL8 := Lib.hid (show l.length ≤ 8 by omega)
    clear h hn hwf
    go_enter Try.func41, Try.ntmps41
    go_wp2_with fail
    go_loopg [10] n (fun gq iv wr => ∃ i : Nat, iv = .int .i64 i ∧ i + gq = n ∧ Hid (okPre l i) ∧ Hid (Below w.heap.size w wr))
    case atStart => exact ⟨0, rfl, by omega, Lib.hid (fun x hx => by simp at hx), Lib.hid (Below.refl _ _)⟩
    case round =>
      obtain ⟨i, rfl, hig, HP, BK⟩ := hrel
      by_cases hlt : i < n
      · have hil : i < l.length := by rw [HN.out]; exact hlt
        obtain ⟨b, off, hA, hbl, x0, x1⟩ := fd_cells HR.out hil
        have hmem : l.getD i fd0 ∈ l := by rw [List.getD_eq_getElem?_getD, List.getElem?_eq_getElem hil]; exact List.getElem_mem hil
        have HIF := Lib.hid (fun w => isField_any _ (HW.out _ hmem) w)
        have HNO := Lib.hid (fun k => faultFl_no hil HL8.out k)
        have HYS := Lib.hid (fun k => (okPre_step hil).2 ⟨HP.out, k⟩)
        obtain ⟨x, hx⟩ : ∃ x, l.getD i fd0 = x := ⟨_, rfl⟩
        rw [hx] at x0 x1 HIF HNO HYS
        unfold fdV at HIF
        obtain ⟨S1, hS1⟩ : ∃ S, strOfNums x.name = S := ⟨_, rfl⟩
        obtain ⟨S2, hS2⟩ : ∃ S, strOfNums x.val = S := ⟨_, rfl⟩
        rw [hS1] at x0 HIF
        rw [hS2] at x1 HIF
        subst hA
        have y0 := (BK.out.cell (p := ⟨b, off + i * 2, none⟩) hbl).trans x0
        have y1 := (BK.out.cell (p := ⟨b, off + i * 2 + 1, none⟩) hbl).trans x1
        have BA := Lib.hid (BK.out.alloc BK.out.size (.cells #[.string S1, .string S2] 66))
        have hnk : (i : Int) < (n : Int) := by omega
        clear x0 x1 hx hS1 hS2 hmem hil hbl
        by_cases ok : okFd x
        · rw [decide_eq_true ok] at HIF
          have HP1 := Lib.hid (HYS.out ok)
          clear ok HNO HYS
          go_wp2_with fail
          refine (HIF.out _).mono ?_
          rintro e w4 ⟨rfl, b4⟩
          have B4 := Lib.hid (BA.out.trans (b4.mono BA.out.size))
          clear b4 y0 y1
          go_wp2_with fail
          go_roundg (gk - 1)
          case measure => omega
          case rel => exact ⟨i + 1, by first | rfl | go_num, by omega, HP1, B4⟩
        · rw [decide_eq_false ok] at HIF
          have HE := Lib.hid (HNO.out ok)
          clear ok HNO HYS
          go_wp2_with fail
          refine (HIF.out _).mono ?_
          rintro e w4 ⟨rfl, b4⟩
          have B4 := Lib.hid (BA.out.trans (b4.mono BA.out.size))
          clear b4 y0 y1
          go_wp2_with fail
          go_ret
          exact ⟨by rw [HE.out]; rfl, B4.out⟩
      · obtain rfl : i = n := by omega
        have HE := Lib.hid (faultFl_yes HL8.out (by rw [HN.out]; exact HP.out))
        go_wp2_with fail
        go_ret
        exact ⟨by rw [HE.out]; rfl, BK.out⟩
end Go.Proofs.Ytpfahdogedchpaa
/- The document's answers on fields: knownOf. -/
namespace Go.Proofs.Ytpfahdogedchpaa
set_option linter.unusedVariables false
open Go.RowKit P

def fdRV (r : Fld × Int × Int) : Value := .tuple #[fdV r.1, .int .i64 r.2.1, .int .i64 r.2.2]
set_option maxHeartbeats 2000000 in
theorem refKo_any (b : List Int) (wi : Int) (w : World) (hb : Byt b) (hl : b.length ≤ 140737488355328) (w0 : -9223372036854775808 ≤ wi) (w1 : wi ≤ 9223372036854775807) :
    Calls Try.prog 47 #[.string (strOfNums b), .int .i64 wi] w fun e w' => e = .returned (fdRV (knR b wi)) ∧ Below w.heap.size w w' := by
  have HO := Lib.hid (fun w => refPxO_any b wi w hb hl w0 w1)
  have HIN := Lib.hid (fun h => pxR_in (b := b) (w := wi) (fun j => (hb j).1) h)
  have HKN := Lib.hid (fun w => refKn_any w)
  have HE : Hid (knR b wi = if (pxR b wi).2.2 ≠ 0 then (fd0, 0, (pxR b wi).2.2) else if 10 < (pxR b wi).1 then (fd0, 0, 5) else (knL.getD (pxR b wi).1.toNat fd0, (pxR b wi).2.1, 0)) := Lib.hid rfl
  obtain ⟨⟨n, u, x⟩, hr⟩ : ∃ r, pxR b wi = r := ⟨_, rfl⟩
  rw [hr] at HO HIN HE
  simp only at HIN HE
  obtain ⟨S, hS⟩ : ∃ S, strOfNums b = S := ⟨_, rfl⟩
  rw [hS] at HO ⊢
  unfold pxRV at HO
  rw [HE.out]
  have B0 := Lib.hid ((Below.refl w.heap.size w).alloc (Nat.le_refl _) (.cells #[.string ⟨#[]⟩, .string ⟨#[]⟩] 66))
  have G0 := Lib.hid (heap_alloc_new w (.cells #[.string ⟨#[]⟩, .string ⟨#[]⟩] 66))
  clear hS hr w0 w1 hb hl
  by_cases hx : x = 0
  · subst hx
    obtain ⟨n0, n1, u0, u1, u2⟩ := HIN.out rfl
    rw [if_neg (fun k => k rfl)]
    by_cases h1 : 10 < n
    · rw [if_pos h1]
      have e1 : decide (10 < n) = true := by simp [h1]
      unfold fdRV fdV
      go_enter Try.func47, Try.ntmps47
      go_wp2_with (go_at_call 39; refine (HO.out _).mono ?_; rintro e w1 ⟨rfl, b1⟩; have B1 := Lib.hid (B0.out.trans (b1.mono B0.out.size)); have G1 := Lib.hid ((b1.block _ (lt_of_block G0.out)).trans G0.out); clear b1; obtain ⟨q0, q1⟩ := bk2F G1.out; have qf := fun j => bk_frz G1.out j)
      obtain ⟨r0, r1, gp⟩ := bk2_putF G1.out (.string ⟨#[]⟩) (.string ⟨#[]⟩)
      refine bodyPost_ret (by simp [results, Try.results47, go_sem, r0, r1]; try rfl) rfl ?_
      exact ⟨rfl, gr_from B1.out B1.out.size (Nat.le_refl _) gp⟩
    · rw [if_neg h1]
      have e1 : decide (10 < n) = false := by simp; omega
      obtain ⟨m, rfl⟩ : ∃ m : Nat, n = m := ⟨n.toNat, by omega⟩
      rw [Int.toNat_natCast]
      have hm : m < 11 := by omega
      have hmI : (m : Int) < 11 := by omega
      unfold fdRV fdV
      obtain ⟨z, hz⟩ : ∃ z, knL.getD m fd0 = z := ⟨_, rfl⟩
      have HZ := Lib.hid hz
      rw [hz]
      obtain ⟨S1, hS1⟩ : ∃ S, strOfNums z.name = S := ⟨_, rfl⟩
      obtain ⟨S2, hS2⟩ : ∃ S, strOfNums z.val = S := ⟨_, rfl⟩
      have HS1 := Lib.hid hS1
      have HS2 := Lib.hid hS2
      dsimp only
      rw [hS1, hS2]
      clear hz hS1 hS2
      go_enter Try.func47, Try.ntmps47
      go_wp2_with (go_at_call 39; refine (HO.out _).mono ?_; rintro e w1 ⟨rfl, b1⟩; have B1 := Lib.hid (B0.out.trans (b1.mono B0.out.size)); have G1 := Lib.hid ((b1.block _ (lt_of_block G0.out)).trans G0.out); clear b1)
      refine (HKN.out _).mono ?_
      rintro e w2 ⟨b2, v, rfl, hv⟩
      obtain ⟨A, c, hv2, _, _, hrow⟩ := hv.slice
      rw [show knL.length = 11 from rfl] at hv2
      subst hv2
      obtain ⟨b, off, rfl, hbl, x0, x1⟩ := fd_cells hrow (i := m) hm
      rw [HZ.out] at x0 x1
      rw [HS1.out] at x0
      rw [HS2.out] at x1
      have B2 := Lib.hid (B1.out.trans (b2.mono B1.out.size))
      have G2 := Lib.hid ((b2.block _ (lt_of_block G1.out)).trans G1.out)
      obtain ⟨q0, q1⟩ := bk2F G2.out
      have qf := fun j => bk_frz G2.out j
      clear b2 hv hrow
      go_wp2_with fail
      obtain ⟨r0, r1, gp⟩ := bk2_putF G2.out (.string S1) (.string S2)
      refine bodyPost_ret (by simp [results, Try.results47, go_sem, r0, r1]; try rfl) rfl ?_
      exact ⟨rfl, gr_from B2.out B2.out.size (Nat.le_refl _) gp⟩
  · rw [if_pos hx]
    have g : (x != 0) = true := by simp [hx]
    unfold fdRV fdV
    go_enter Try.func47, Try.ntmps47
    go_wp2_with (go_at_call 39; refine (HO.out _).mono ?_; rintro e w1 ⟨rfl, b1⟩; have B1 := Lib.hid (B0.out.trans (b1.mono B0.out.size)); have G1 := Lib.hid ((b1.block _ (lt_of_block G0.out)).trans G0.out); clear b1; obtain ⟨q0, q1⟩ := bk2F G1.out; have qf := fun j => bk_frz G1.out j)
    obtain ⟨r0, r1, gp⟩ := bk2_putF G1.out (.string ⟨#[]⟩) (.string ⟨#[]⟩)
    refine bodyPost_ret (by simp [results, Try.results47, go_sem, r0, r1]; try rfl) rfl ?_
    exact ⟨rfl, gr_from B1.out B1.out.size (Nat.le_refl _) gp⟩
end Go.Proofs.Ytpfahdogedchpaa
