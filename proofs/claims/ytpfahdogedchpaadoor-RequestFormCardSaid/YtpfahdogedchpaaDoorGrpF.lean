/- Several texts in one. -/
import Derived.Test.YtpfahdogedchpaaDoorRefKn
import Derived.Test.YtpfahdogedchpaaDoorGrpZc
/- The document's answers on fields: FieldsFault, knownPlace, knownOf. -/
namespace Go.Proofs.YtpfahdogedchpaaDoor.P
set_option linter.unusedVariables false
theorem faultFl_no {l : List Fld} {i : Nat} (h : i < l.length) (h8 : l.length ≤ 8) (k : ¬ okFd (l.getD i fd0)) : faultFl l = 3 := by
  unfold faultFl
  rw [if_neg (by omega), if_neg]
  intro q
  refine k (q _ ?_)
  rw [List.getD_eq_getElem?_getD, List.getElem?_eq_getElem h]
  exact List.getElem_mem h
theorem faultFl_yes {l : List Fld} (h8 : l.length ≤ 8) (k : okPre l l.length) : faultFl l = 0 := by
  unfold faultFl
  rw [if_neg (by omega), if_pos]
  unfold okPre at k
  rwa [List.take_length] at k
/-- the first place at which something holds, or -1 -/
def firstP (p : Fld → Bool) : List Fld → Int
  | [] => -1
  | x :: l => if p x then 0 else if firstP p l = -1 then -1 else firstP p l + 1
theorem firstP_in (p : Fld → Bool) (l : List Fld) : firstP p l = -1 ∨ (0 ≤ firstP p l ∧ firstP p l < l.length) := by
  induction l with
  | nil => exact .inl rfl
  | cons x l ih =>
    unfold firstP
    split
    · exact .inr ⟨by omega, by simp only [List.length_cons]; omega⟩
    · split
      · exact .inl rfl
      · rcases ih with h | h
        · contradiction
        · exact .inr ⟨by omega, by simp only [List.length_cons]; omega⟩
theorem firstP_at {p : Fld → Bool} : ∀ {l : List Fld} {i : Nat}, i < l.length → p (l.getD i fd0) = true → (∀ j, j < i → p (l.getD j fd0) = false) → firstP p l = i
  | [], i, h, _, _ => by cases h
  | x :: l, 0, _, hp, _ => by
    unfold firstP
    rw [List.getD_cons_zero] at hp
    rw [if_pos hp]; rfl
  | x :: l, i + 1, h, hp, hn => by
    have h0 := hn 0 (by omega)
    rw [List.getD_cons_zero] at h0
    rw [List.getD_cons_succ] at hp
    have := firstP_at (l := l) (i := i) (by simpa using h) hp (fun j hj => by have := hn (j + 1) (by omega); rwa [List.getD_cons_succ] at this)
    unfold firstP
    rw [if_neg (by rw [h0]; decide), this, if_neg (by omega)]
    omega
theorem firstP_no {p : Fld → Bool} : ∀ {l : List Fld}, (∀ j, j < l.length → p (l.getD j fd0) = false) → firstP p l = -1
  | [], _ => rfl
  | x :: l, hn => by
    have h0 := hn 0 (by simp)
    rw [List.getD_cons_zero] at h0
    have := firstP_no (l := l) (fun j hj => by have := hn (j + 1) (by simp only [List.length_cons]; omega); rwa [List.getD_cons_succ] at this)
    unfold firstP
    rw [if_neg (by rw [h0]; decide), if_pos this]
/-- the place of one that all know: the same, or (not 'same') of the same name -/
def kpB (f : Fld) (same : Bool) (x : Fld) : Bool := decide (x = f) || (!same && decide (x.name = f.name))
def kpL (f : Fld) (same : Bool) : Int := firstP (kpB f same) knL
theorem knL_wf : ∀ x ∈ knL, FdWf x := by
  have key : ∀ x ∈ knL, (∀ c ∈ x.name, 0 ≤ c ∧ c ≤ 255) ∧ (∀ c ∈ x.val, 0 ≤ c ∧ c ≤ 255) ∧ x.name.length ≤ 140737488355328 ∧ x.val.length ≤ 140737488355328 := by decide
  intro x hx
  obtain ⟨h1, h2, h3, h4⟩ := key x hx
  exact ⟨byt_all h1, byt_all h2, h3, h4⟩
end Go.Proofs.YtpfahdogedchpaaDoor.P
namespace Go.Proofs.YtpfahdogedchpaaDoor
set_option linter.unusedVariables false
open Go.RowKit P

set_option maxHeartbeats 2000000 in
theorem refFlF_any (A : Option Addr) (n c : Nat) (l : List Fld) (w : World) (h : RowE FdE w w.heap.size A l) (hn : l.length = n) (hwf : ∀ x ∈ l, FdWf x) (hm : n ≤ 8796093022208) :
    Calls Tryd.prog 25 #[.slice A n c] w fun e w' => e = .returned (.int .i64 (faultFl l)) ∧ Below w.heap.size w w' := by
  by_cases h8 : 8 < n
  · have HE := Lib.hid (show faultFl l = 1 by unfold faultFl; rw [if_pos (by omega)])
    have h8' : (8 : Int) < (n : Int) := by omega
    clear h hn hwf
    go_enter Tryd.func25, Tryd.ntmps25
    go_wp2_with fail
    go_ret
    exact ⟨by rw [HE.out]; rfl, Below.refl _ _⟩
  · have h8' : ¬ (8 : Int) < (n : Int) := by omega
    have HR := Lib.hid h
    have HN := Lib.hid hn
    have HW := Lib.hid hwf
    have HL8 := Lib.hid (show l.length ≤ 8 by omega)
    clear h hn hwf
    go_enter Tryd.func25, Tryd.ntmps25
    go_wp2_with fail
    go_loopg [10] n (fun gq iv wr => ∃ i : Nat, iv = .int .i64 i ∧ i + gq = n ∧ Hid (okPre l i) ∧ Hid (Below w.heap.size w wr))
    case atStart => exact ⟨0, rfl, by omega, Lib.hid (fun x hx => by simp at hx), Lib.hid (Below.refl _ _)⟩
    case round =>
      obtain ⟨i, rfl, hig, HP, BK⟩ := hrel
      by_cases hlt : i < n
      · have hil : i < l.length := by rw [HN.out]; exact hlt
        obtain ⟨b, off, hA, hbl, x0, x1⟩ := fd_cells HR.out hil
        have hmem : l.getD i fd0 ∈ l := by rw [List.getD_eq_getElem?_getD, List.getElem?_eq_getElem hil]; exact List.getElem_mem hil
        have HIF := Lib.hid (fun w => isField_any _ (HW.out _ hmem) w)
        have HNO := Lib.hid (fun k => faultFl_no hil HL8.out k)
        have HYS := Lib.hid (fun k => (okPre_step hil).2 ⟨HP.out, k⟩)
        obtain ⟨x, hx⟩ : ∃ x, l.getD i fd0 = x := ⟨_, rfl⟩
        rw [hx] at x0 x1 HIF HNO HYS
        unfold fdV at HIF
        obtain ⟨S1, hS1⟩ : ∃ S, strOfNums x.name = S := ⟨_, rfl⟩
        obtain ⟨S2, hS2⟩ : ∃ S, strOfNums x.val = S := ⟨_, rfl⟩
        rw [hS1] at x0 HIF
        rw [hS2] at x1 HIF
        subst hA
        have y0 := (BK.out.cell (p := ⟨b, off + i * 2, none⟩) hbl).trans x0
        have y1 := (BK.out.cell (p := ⟨b, off + i * 2 + 1, none⟩) hbl).trans x1
        have BA := Lib.hid (BK.out.alloc BK.out.size (.cells #[.string S1, .string S2] 54))
        have hnk : (i : Int) < (n : Int) := by omega
        clear x0 x1 hx hS1 hS2 hmem hil hbl
        by_cases ok : okFd x
        · rw [decide_eq_true ok] at HIF
          have HP1 := Lib.hid (HYS.out ok)
          clear ok HNO HYS
          go_wp2_with fail
          refine (HIF.out _).mono ?_
          rintro e w4 ⟨rfl, b4⟩
          have B4 := Lib.hid (BA.out.trans (b4.mono BA.out.size))
          clear b4 y0 y1
          go_wp2_with fail
          go_roundg (gk - 1)
          case measure => omega
          case rel => exact ⟨i + 1, by first | rfl | go_num, by omega, HP1, B4⟩
        · rw [decide_eq_false ok] at HIF
          have HE := Lib.hid (HNO.out ok)
          clear ok HNO HYS
          go_wp2_with fail
          refine (HIF.out _).mono ?_
          rintro e w4 ⟨rfl, b4⟩
          have B4 := Lib.hid (BA.out.trans (b4.mono BA.out.size))
          clear b4 y0 y1
          go_wp2_with fail
          go_ret
          exact ⟨by rw [HE.out]; rfl, B4.out⟩
      · obtain rfl : i = n := by omega
        have HE := Lib.hid (faultFl_yes HL8.out (by rw [HN.out]; exact HP.out))
        go_wp2_with fail
        go_ret
        exact ⟨by rw [HE.out]; rfl, BK.out⟩
set_option maxHeartbeats 2000000 in
theorem refKp_any (f : Fld) (hf : FdWf f) (same : Bool) (w : World) : Calls Tryd.prog 47 #[fdV f, .bool same] w fun e w' => e = .returned (.int .i64 (kpL f same)) ∧ Below w.heap.size w w' := by
  have HKN := Lib.hid (fun w => refKn_any w)
  have HEQ := Lib.hid (fun x (hx : FdWf x) => And.intro (fl_eqB hx.1 hf.1) (fl_eqB hx.2.1 hf.2.1))
  have HAT := Lib.hid (fun i h1 h2 h3 => firstP_at (p := kpB f same) (l := knL) (i := i) h1 h2 h3)
  have HNO := Lib.hid (fun h => firstP_no (p := kpB f same) (l := knL) h)
  unfold fdV
  obtain ⟨T1, hT1⟩ : ∃ S, strOfNums f.name = S := ⟨_, rfl⟩
  obtain ⟨T2, hT2⟩ : ∃ S, strOfNums f.val = S := ⟨_, rfl⟩
  rw [hT1, hT2] at HEQ ⊢
  have B0 := Lib.hid ((Below.refl w.heap.size w).alloc (Nat.le_refl _) (.cells #[.string T1, .string T2] 54))
  have G0 := Lib.hid (heap_alloc_new w (.cells #[.string T1, .string T2] 54))
  clear hf hT1 hT2
  go_enter Tryd.func47, Tryd.ntmps47
  go_wp2_with fail
  refine (HKN.out _).mono ?_
  rintro e w1 ⟨b1, v, rfl, hv⟩
  obtain ⟨A, c, hv2, _, _, hrow⟩ := hv.slice
  rw [show knL.length = 11 from rfl] at hv2
  subst hv2
  have HR := Lib.hid hrow
  have B1 := Lib.hid (B0.out.trans (b1.mono B0.out.size))
  have G1 := Lib.hid ((b1.block _ (lt_of_block G0.out)).trans G0.out)
  clear b1 hv hrow
  go_wp2_with fail
  go_loopg [9] 11 (fun gq iv wr => ∃ i : Nat, iv = .int .i64 i ∧ i + gq = 11 ∧ Hid (∀ j, j < i → kpB f same (knL.getD j fd0) = false) ∧ Hid (Below w1.heap.size w1 wr))
  case atStart => exact ⟨0, rfl, by omega, Lib.hid (fun j hj => by omega), Lib.hid (Below.refl _ _)⟩
  case round =>
    obtain ⟨i, rfl, hig, HP, BK⟩ := hrel
    have BR := Lib.hid (B1.out.trans (BK.out.mono B1.out.size))
    by_cases hlt : i < 11
    · have hil : i < knL.length := hlt
      obtain ⟨b, off, hA, hbl, x0, x1⟩ := fd_cells HR.out hil
      have hmem : knL.getD i fd0 ∈ knL := by rw [List.getD_eq_getElem?_getD, List.getElem?_eq_getElem hil]; exact List.getElem_mem hil
      have HE := Lib.hid (HEQ.out _ (knL_wf _ hmem))
      have HHIT := Lib.hid (fun k => HAT.out i hil k HP.out)
      have HMISS := Lib.hid (fun (k : kpB f same (knL.getD i fd0) = false) j (hj : j < i + 1) => (by
        rcases Nat.lt_or_ge j i with q | q
        · exact HP.out j q
        · obtain rfl : j = i := by omega
          exact k : kpB f same (knL.getD j fd0) = false))
      obtain ⟨z, hz⟩ : ∃ z, knL.getD i fd0 = z := ⟨_, rfl⟩
      rw [hz] at x0 x1 HE HHIT HMISS
      obtain ⟨S1, hS1⟩ : ∃ S, strOfNums z.name = S := ⟨_, rfl⟩
      obtain ⟨S2, hS2⟩ : ∃ S, strOfNums z.val = S := ⟨_, rfl⟩
      rw [hS1] at x0 HE
      rw [hS2] at x1 HE
      subst hA
      have y0 := (BK.out.cell (p := ⟨b, off + i * 2, none⟩) hbl).trans x0
      have y1 := (BK.out.cell (p := ⟨b, off + i * 2 + 1, none⟩) hbl).trans x1
      have BA := Lib.hid (BK.out.alloc BK.out.size (.cells #[.string S1, .string S2] 54))
      have BS := Lib.hid (B1.out.trans (BA.out.mono B1.out.size))
      obtain ⟨u0, u1⟩ := bk2F ((BA.out.block _ (lt_of_block G1.out)).trans G1.out)
      have hnk : (i : Int) < 11 := by omega
      clear x0 x1 hz hS1 hS2 hmem hil hbl
      by_cases hn : z.name = f.name
      · have g1 : (S1.toList == T1.toList) = true := by rw [HE.out.1, decide_eq_true hn]
        by_cases hq : z.val = f.val
        · have g2 : (S2.toList == T2.toList) = true := by rw [HE.out.2, decide_eq_true hq]
          have HX := Lib.hid (HHIT.out (by unfold kpB; rw [decide_eq_true (fld_iff.2 ⟨hn, hq⟩)]; rfl))
          clear hn hq HHIT HMISS
          go_wp2_with fail
          go_ret
          exact ⟨by unfold kpL; rw [HX.out]; rfl, BS.out⟩
        · have g2 : (S2.toList == T2.toList) = false := by rw [HE.out.2, decide_eq_false hq]
          have hzf : decide (z = f) = false := decide_eq_false (fun k => hq (fld_iff.1 k).2)
          cases same with
          | false =>
            have HX := Lib.hid (HHIT.out (by unfold kpB; rw [decide_eq_true hn]; simp))
            clear hn hq HHIT HMISS hzf
            go_wp2_with fail
            go_ret
            exact ⟨by unfold kpL; rw [HX.out]; rfl, BS.out⟩
          | true =>
            have HX := Lib.hid (HMISS.out (by unfold kpB; rw [hzf]; simp))
            clear hn hq HHIT HMISS hzf
            go_wp2_with fail
            go_roundg (gk - 1)
            case measure => omega
            case rel => exact ⟨i + 1, by first | rfl | go_num, by omega, HX, BA⟩
      · have g1 : (S1.toList == T1.toList) = false := by rw [HE.out.1, decide_eq_false hn]
        have hzf : decide (z = f) = false := decide_eq_false (fun k => hn (fld_iff.1 k).1)
        have HX := Lib.hid (HMISS.out (by unfold kpB; rw [hzf, decide_eq_false hn]; simp))
        clear hn HHIT HMISS hzf
        cases same with
        | false =>
          go_wp2_with fail
          go_roundg (gk - 1)
          case measure => omega
          case rel => exact ⟨i + 1, by first | rfl | go_num, by omega, HX, BA⟩
        | true =>
          go_wp2_with fail
          go_roundg (gk - 1)
          case measure => omega
          case rel => exact ⟨i + 1, by first | rfl | go_num, by omega, HX, BA⟩
    · obtain rfl : i = 11 := by omega
      have HX := Lib.hid (HNO.out HP.out)
      go_wp2_with fail
      go_ret
      exact ⟨by unfold kpL; rw [HX.out]; rfl, BR.out⟩
end Go.Proofs.YtpfahdogedchpaaDoor
/- The document's answers on fields: knownOf. -/
namespace Go.Proofs.YtpfahdogedchpaaDoor
set_option linter.unusedVariables false
open Go.RowKit P

def fdRV (r : Fld × Int × Int) : Value := .tuple #[fdV r.1, .int .i64 r.2.1, .int .i64 r.2.2]
end Go.Proofs.YtpfahdogedchpaaDoor
