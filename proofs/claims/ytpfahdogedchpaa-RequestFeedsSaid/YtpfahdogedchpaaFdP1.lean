/- The project's fields: Known, mayNotBe, IndexFunc and ContainsFunc of fields, Check. -/
import Derived.Test.YtpfahdogedchpaaGrpF
import Derived.Test.YtpfahdogedchpaaGrpH
namespace Go.Proofs.Ytpfahdogedchpaa.P
set_option linter.unusedVariables false
open Go.RowKit
theorem ownE_lit (w : World) (cs : Array Value) (n : Nat) (l : List Fld) (t : TypeId) (hl : l.length = n) (hc : cs.toList = FdE.cat l) (h0 : 0 < n) (hm : n ≤ 1000) : OwnE FdE (w.alloc (.cells cs t)) w.heap.size t (.slice (some ⟨w.heap.size, 0, none⟩) n n) l := by
  subst hl
  exact ⟨FdE.cat_len l, .inr ⟨w.heap.size, l.length, cs, rfl, Nat.le_refl _, heap_alloc_new w (.cells cs t), Nat.le_refl _, by unfold maxLen; omega, by rw [← Array.length_toList, hc, FdE.cat_len], by rw [hc, List.take_of_length_le (by rw [FdE.cat_len]; exact Nat.le_refl _)]⟩⟩
theorem firstP_lt0 (p : Fld → Bool) (l : List Fld) : decide (0 ≤ firstP p l) = l.any p := by
  induction l with
  | nil => rfl
  | cons x l ih =>
    rw [List.any_cons, ← ih, show firstP p (x :: l) = if p x then 0 else if firstP p l = -1 then -1 else firstP p l + 1 from rfl]
    cases h : p x with
    | true => rw [if_pos rfl]; rfl
    | false =>
      rw [if_neg (by decide)]
      rcases firstP_in p l with e | e
      · rw [if_pos e, e]; rfl
      · rw [if_neg (by omega)]
        rw [Bool.false_or, decide_eq_decide]
        omega
theorem firstP_max (p : Fld → Bool) (l : List Fld) : -1 ≤ firstP p l ∧ firstP p l ≤ l.length := by
  rcases firstP_in p l with e | e <;> omega
end Go.Proofs.Ytpfahdogedchpaa.P
namespace Go.Proofs.Ytpfahdogedchpaa
set_option linter.unusedVariables false
open Go.RowKit P

set_option maxRecDepth 100000 in
theorem known_any (W : World) : Calls Try.prog 74 #[] W fun e w' => Below W.heap.size W w' ∧ ∃ A, e = .returned (.slice A 11 11) ∧ OwnE FdE w' W.heap.size 66 (.slice A 11 11) knL := by
  go_enter Try.func74, Try.ntmps74
  go_wp2_with fail
  go_ret
  exact ⟨(Below.refl _ _).alloc (Nat.le_refl _) _, _, rfl, ownE_lit W _ 11 knL _ rfl (by rfl) (by decide) (by decide)⟩
theorem mayNotBe_any (x : Fld) (hw : FdWf x) (w : World) :
    Calls Try.prog 69 #[fdV x] w fun e w' => e = .returned (.bool (!decide (okFd x))) ∧ Below w.heap.size w w' := by
  obtain ⟨_, _, m1, m2⟩ := hw
  have z1 : (strOfNums x.name).size = x.name.length := strOfNums_size _
  have z2 : (strOfNums x.val).size = x.val.length := strOfNums_size _
  have e : (!decide (okFd x)) = (decide ((x.name.length : Int) < 1) || decide ((20 : Int) < (x.name.length : Int)) || decide ((40 : Int) < (x.val.length : Int))) := by
    rw [Bool.eq_iff_iff, Bool.not_eq_true', decide_eq_false_iff_not, Bool.or_eq_true, Bool.or_eq_true, decide_eq_true_iff, decide_eq_true_iff, decide_eq_true_iff]
    unfold okFd
    omega
  rw [e]
  unfold fdV
  obtain ⟨S1, hS1⟩ : ∃ S, strOfNums x.name = S := ⟨_, rfl⟩
  obtain ⟨S2, hS2⟩ : ∃ S, strOfNums x.val = S := ⟨_, rfl⟩
  rw [hS1] at z1 ⊢
  rw [hS2] at z2 ⊢
  obtain ⟨p, hp⟩ : ∃ p, x.name.length = p := ⟨_, rfl⟩
  obtain ⟨q, hq⟩ : ∃ p, x.val.length = p := ⟨_, rfl⟩
  rw [hp] at z1 m1 ⊢
  rw [hq] at z2 m2 ⊢
  have B2 := Lib.hid ((Below.refl w.heap.size w).alloc (Nat.le_refl _) (.cells #[.string S1, .string S2] 66))
  clear hS1 hS2 hp hq e
  by_cases h1 : (p : Int) < 1
  · go_enter Try.func69, Try.ntmps69
    go_wp2_with fail
    go_ret
    exact ⟨by simp <;> omega, B2.out⟩
  · by_cases h2 : (20 : Int) < (p : Int)
    · go_enter Try.func69, Try.ntmps69
      go_wp2_with fail
      go_ret
      exact ⟨by simp <;> omega, B2.out⟩
    · go_enter Try.func69, Try.ntmps69
      go_wp2_with fail
      go_ret
      exact ⟨by simp <;> omega, B2.out⟩
set_option maxHeartbeats 2000000 in
theorem idxBad_any (A : Option Addr) (n c : Nat) (l : List Fld) (w : World) (h : RowE FdE w w.heap.size A l) (hn : l.length = n) (hwf : ∀ x ∈ l, FdWf x) (hm : n ≤ 8796093022208) :
    Calls Try.prog 70 #[.slice A n c, .func (.func 69) #[] #[]] w fun e w' => e = .returned (.int .i64 (firstP (fun x => !decide (okFd x)) l)) ∧ Below w.heap.size w w' := by
  have HAT := Lib.hid (fun i h1 h2 h3 => firstP_at (p := fun x => !decide (okFd x)) (l := l) (i := i) h1 h2 h3)
  have HNO := Lib.hid (fun h => firstP_no (p := fun x => !decide (okFd x)) (l := l) h)
  have HR := Lib.hid h
  have HN := Lib.hid hn
  have HW := Lib.hid hwf
  obtain ⟨rz, hrz⟩ : ∃ rz, firstP (fun x => !decide (okFd x)) l = rz := ⟨_, rfl⟩
  rw [hrz] at HAT HNO ⊢
  clear h hn hwf hrz
  go_enter Try.func70, Try.ntmps70
  go_wp2_with fail
  go_loopg [8] n (fun gq iv wr => ∃ i : Nat, iv = .int .i64 i ∧ i + gq = n ∧ Hid (∀ j, j < i → (!decide (okFd (l.getD j fd0))) = false) ∧ Hid (Below w.heap.size w wr))
  case atStart => exact ⟨0, rfl, by omega, Lib.hid (fun j hj => by omega), Lib.hid (Below.refl _ _)⟩
  case round =>
    obtain ⟨i, rfl, hig, HP, BK⟩ := hrel
    by_cases hlt : i < n
    · have hil : i < l.length := by rw [HN.out]; exact hlt
      obtain ⟨b, off, hA, hbl, x0, x1⟩ := fd_cells HR.out hil
      have hmem : l.getD i fd0 ∈ l := by rw [List.getD_eq_getElem?_getD, List.getElem?_eq_getElem hil]; exact List.getElem_mem hil
      have HIF := Lib.hid (fun w => mayNotBe_any _ (HW.out _ hmem) w)
      have HHIT := Lib.hid (fun k => HAT.out i hil k HP.out)
      have HMISS := Lib.hid (fun (k : (!decide (okFd (l.getD i fd0))) = false) j (hj : j < i + 1) => (by
        rcases Nat.lt_or_ge j i with q | q
        · exact HP.out j q
        · obtain rfl : j = i := by omega
          exact k : (!decide (okFd (l.getD j fd0))) = false))
      obtain ⟨x, hx⟩ : ∃ x, l.getD i fd0 = x := ⟨_, rfl⟩
      rw [hx] at x0 x1 HIF HHIT HMISS
      unfold fdV at HIF
      obtain ⟨S1, hS1⟩ : ∃ S, strOfNums x.name = S := ⟨_, rfl⟩
      obtain ⟨S2, hS2⟩ : ∃ S, strOfNums x.val = S := ⟨_, rfl⟩
      rw [hS1] at x0 HIF
      rw [hS2] at x1 HIF
      subst hA
      have y0 := (BK.out.cell (p := ⟨b, off + i * 2, none⟩) hbl).trans x0
      have y1 := (BK.out.cell (p := ⟨b, off + i * 2 + 1, none⟩) hbl).trans x1
      have hnk : (i : Int) < (n : Int) := by omega
      clear x0 x1 hx hS1 hS2 hmem hil hbl
      by_cases ok : okFd x
      · rw [decide_eq_true ok] at HIF HHIT HMISS
        have HP1 := Lib.hid (HMISS.out rfl)
        clear ok HHIT HMISS
        go_wp2_with fail
        refine (HIF.out _).mono ?_
        rintro e w4 ⟨rfl, b4⟩
        have B4 := Lib.hid (BK.out.trans (b4.mono BK.out.size))
        clear b4 y0 y1
        go_wp2_with fail
        go_roundg (gk - 1)
        case measure => omega
        case rel => exact ⟨i + 1, by first | rfl | go_num, by omega, HP1, B4⟩
      · rw [decide_eq_false ok] at HIF HHIT HMISS
        have HE := Lib.hid (HHIT.out rfl)
        clear ok HHIT HMISS
        go_wp2_with fail
        refine (HIF.out _).mono ?_
        rintro e w4 ⟨rfl, b4⟩
        have B4 := Lib.hid (BK.out.trans (b4.mono BK.out.size))
        clear b4 y0 y1
        go_wp2_with fail
        go_ret
        exact ⟨by rw [HE.out]; rfl, B4.out⟩
    · obtain rfl : i = n := by omega
      have HE := Lib.hid (HNO.out (by rw [HN.out]; exact HP.out))
      go_wp2_with fail
      go_ret
      exact ⟨by rw [HE.out]; rfl, BK.out⟩
theorem hasBad_any (A : Option Addr) (n c : Nat) (l : List Fld) (w : World) (h : RowE FdE w w.heap.size A l) (hn : l.length = n) (hwf : ∀ x ∈ l, FdWf x) (hm : n ≤ 8796093022208) :
    Calls Try.prog 55 #[.slice A n c, .func (.func 69) #[] #[]] w fun e w' => e = .returned (.bool (l.any (fun x => !decide (okFd x)))) ∧ Below w.heap.size w w' := by
  have H := Lib.hid (idxBad_any A n c l w h hn hwf hm)
  rw [← firstP_lt0]
  obtain ⟨rz, hrz⟩ : ∃ rz, firstP (fun x => !decide (okFd x)) l = rz := ⟨_, rfl⟩
  rw [hrz] at H ⊢
  clear h hn hwf hrz
  go_enter Try.func55, Try.ntmps55
  go_wp2_with fail
  refine (H.out).mono ?_
  rintro e w4 ⟨rfl, b4⟩
  have B4 := Lib.hid b4
  clear b4
  go_wp2_with fail
  go_ret
  exact ⟨by rfl, B4.out⟩
theorem faultFl_any (l : List Fld) : faultFl l = if 8 < l.length then 1 else if l.any (fun x => !decide (okFd x)) then 3 else 0 := by
  unfold faultFl
  split
  · rfl
  · by_cases h : ∀ f ∈ l, okFd f
    · rw [if_pos h, if_neg]
      intro k
      obtain ⟨x, hx, hk⟩ := List.any_eq_true.1 k
      simp [h x hx] at hk
    · rw [if_neg h, if_pos]
      rw [List.any_eq_true]
      apply Classical.byContradiction
      intro k
      apply h
      intro x hx
      apply Classical.byContradiction
      intro q
      exact k ⟨x, hx, by simp [q]⟩
/-- Check by P15.2 -/
theorem fdchk_any (A : Option Addr) (n c : Nat) (l : List Fld) (w : World) (h : RowE FdE w w.heap.size A l) (hn : l.length = n) (hwf : ∀ x ∈ l, FdWf x) (hm : n ≤ 8796093022208) :
    Calls Try.prog 53 #[.slice A n c] w fun e w' => e = .returned (.int .i64 (faultFl l)) ∧ Below w.heap.size w w' := by
  have H := Lib.hid (hasBad_any A n c l w h hn hwf hm)
  rw [faultFl_any, hn]
  obtain ⟨bz, hbz⟩ : ∃ bz, l.any (fun x => !decide (okFd x)) = bz := ⟨_, rfl⟩
  rw [hbz] at H ⊢
  clear h hn hwf hbz
  by_cases h8 : 8 < n
  · have h8' : (8 : Int) < (n : Int) := by omega
    rw [if_pos h8]
    go_enter Try.func53, Try.ntmps53
    go_wp2_with fail
    go_ret
    exact ⟨rfl, Below.refl _ _⟩
  · have h8' : ¬ (8 : Int) < (n : Int) := by omega
    rw [if_neg h8]
    cases bz
    all_goals
      go_enter Try.func53, Try.ntmps53
      go_wp2_with fail
      refine (H.out).mono ?_
      rintro e w4 ⟨rfl, b4⟩
      have B4 := Lib.hid b4
      clear b4
      go_wp2_with fail
      go_ret
      exact ⟨by rfl, B4.out⟩
end Go.Proofs.Ytpfahdogedchpaa
