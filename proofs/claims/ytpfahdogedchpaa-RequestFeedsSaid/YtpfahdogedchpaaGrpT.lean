/- Several texts in one. -/
import Derived.Test.YtpfahdogedchpaaGrpZa
import Derived.Test.YtpfahdogedchpaaFdP1
import Derived.Test.YtpfahdogedchpaaGrpC
import Derived.Test.YtpfahdogedchpaaGrpZg
import Derived.StringKeys
/- The project's request: isOwn, misnamed, where fields fall, split. -/
namespace Go.Proofs.Ytpfahdogedchpaa.P
set_option linter.unusedVariables false
open Go.RowKit
theorem own_cut {zs : List Int} (hb : Byt zs) : ((strOfNums (zs.take 1)).toList == (strOfNums [58]).toList) = decide (zs.getD 0 0 = 58) := by
  rw [fl_eqB (hb.take 1) (byt_all (by decide))]
  rcases zs with _ | ⟨z, zs⟩
  · rfl
  · simp
theorem any_drop {p : Int → Bool} {l : List Int} {i : Nat} (h : i < l.length) : (l.drop i).any p = (p (l.getD i 0) || (l.drop (i + 1)).any p) := by
  rw [List.drop_eq_getElem_cons h, List.any_cons, List.getD_eq_getElem?_getD, List.getElem?_eq_getElem h]
  rfl
/-- how many of the first ones are the request's own -/
def nOwn (l : List Fld) : Nat := (l.takeWhile isOwnF).length
theorem nOwn_le (l : List Fld) : nOwn l ≤ l.length := by
  unfold nOwn
  have := congrArg List.length (List.takeWhile_append_dropWhile (p := isOwnF) (l := l))
  rw [List.length_append] at this
  omega
theorem own_split (l : List Fld) : l.takeWhile isOwnF = l.take (nOwn l) ∧ l.dropWhile isOwnF = l.drop (nOwn l) := by
  have e := List.takeWhile_append_dropWhile (p := isOwnF) (l := l)
  unfold nOwn
  obtain ⟨a, ha⟩ : ∃ a, l.takeWhile isOwnF = a := ⟨_, rfl⟩
  obtain ⟨b, hb⟩ : ∃ b, l.dropWhile isOwnF = b := ⟨_, rfl⟩
  rw [ha, hb] at e
  rw [ha, hb, ← e, List.take_left, List.drop_left]
  exact ⟨rfl, rfl⟩
theorem nOwn_at {l : List Fld} {i : Nat} (h : i < l.length) (hp : isOwnF (l.getD i fd0) = false) (hn : ∀ j, j < i → isOwnF (l.getD j fd0) = true) : nOwn l = i := by
  induction l generalizing i with
  | nil => simp at h
  | cons x l ih =>
    unfold nOwn
    rcases i with _ | i
    · rw [List.getD_cons_zero] at hp
      rw [List.takeWhile_cons, hp]; rfl
    · have h0 := hn 0 (by omega)
      rw [List.getD_cons_zero] at h0
      rw [List.getD_cons_succ] at hp
      have := ih (i := i) (by simpa using h) hp (fun j hj => by have := hn (j + 1) (by omega); rwa [List.getD_cons_succ] at this)
      unfold nOwn at this
      rw [List.takeWhile_cons, h0]
      simp only [if_true, List.length_cons, this]
theorem nOwn_all {l : List Fld} (hn : ∀ j, j < l.length → isOwnF (l.getD j fd0) = true) : nOwn l = l.length := by
  induction l with
  | nil => rfl
  | cons x l ih =>
    have h0 := hn 0 (by simp)
    rw [List.getD_cons_zero] at h0
    have := ih (fun j hj => by have := hn (j + 1) (by simp only [List.length_cons]; omega); rwa [List.getD_cons_succ] at this)
    unfold nOwn at this ⊢
    rw [List.takeWhile_cons, h0]
    simp only [if_true, List.length_cons, this]
end Go.Proofs.Ytpfahdogedchpaa.P
namespace Go.Proofs.Ytpfahdogedchpaa
set_option linter.unusedVariables false
open Go.RowKit P

set_option maxRecDepth 100000 in
theorem hasPre_any (zs : List Int) (hb : Byt zs) (hm : zs.length ≤ 140737488355328) (w : World) :
    Calls Try.prog 71 #[.string (strOfNums zs), .string { data := #[58] }] w fun e w' => e = .returned (.bool (decide (zs.getD 0 0 = 58))) ∧ w = w' := by
  have hsz : (strOfNums zs).size = zs.length := strOfNums_size zs
  have hcut : (strOfNums zs).extract 0 1 = strOfNums (zs.take 1) := str_cut zs 1
  have hone : ({ data := #[58] } : ByteArray) = strOfNums [58] := by rfl
  have HC := Lib.hid (own_cut hb)
  obtain ⟨bz, hbz⟩ : ∃ bz, decide (zs.getD 0 0 = 58) = bz := ⟨_, rfl⟩
  rw [hbz] at HC ⊢
  by_cases h0 : zs.length = 0
  · obtain rfl : zs = [] := List.eq_nil_of_length_eq_zero h0
    obtain rfl : bz = false := by rw [← hbz]; rfl
    clear hbz HC hcut hsz
    go_enter Try.func71, Try.ntmps71
    go_wp2
    go_ret
    exact ⟨rfl, rfl⟩
  · obtain ⟨S, hS⟩ : ∃ S, strOfNums zs = S := ⟨_, rfl⟩
    obtain ⟨S1, hS1⟩ : ∃ S, strOfNums (zs.take 1) = S := ⟨_, rfl⟩
    obtain ⟨S2, hS2⟩ : ∃ S : ByteArray, strOfNums [58] = S := ⟨_, rfl⟩
    rw [hone]
    rw [hS2] at HC ⊢
    have h2 : S2.size = 1 := by rw [← hS2]; rfl
    rw [hS] at hsz hcut ⊢
    rw [hS1] at hcut HC
    have h1 : (1 : Int) ≤ (S.size : Int) := by omega
    have h1n : 1 ≤ S.size := by omega
    clear hS hS1 hS2 hone hbz
    go_enter Try.func71, Try.ntmps71
    go_wp2
    go_ret
    exact ⟨by first | rfl | (rw [HC.out]; rfl), rfl⟩
theorem isOwn_any (x : Fld) (hw : FdWf x) (w : World) : Calls Try.prog 57 #[fdV x] w fun e w' => e = .returned (.bool (isOwnF x)) ∧ Below w.heap.size w w' := by
  have HP := Lib.hid (fun w => hasPre_any x.name hw.1 hw.2.2.1 w)
  unfold isOwnF fdV
  obtain ⟨bz, hbz⟩ : ∃ bz, decide (x.name.getD 0 0 = 58) = bz := ⟨_, rfl⟩
  obtain ⟨S1, hS1⟩ : ∃ S, strOfNums x.name = S := ⟨_, rfl⟩
  obtain ⟨S2, hS2⟩ : ∃ S, strOfNums x.val = S := ⟨_, rfl⟩
  rw [hbz, hS1] at HP
  rw [hbz, hS1, hS2]
  have B2 := Lib.hid ((Below.refl w.heap.size w).alloc (Nat.le_refl _) (.cells #[.string S1, .string S2] 66))
  clear hbz hS1 hS2 hw
  go_enter Try.func57, Try.ntmps57
  go_wp2_with fail
  refine (HP.out _).mono ?_
  rintro e w4 ⟨rfl, rfl⟩
  go_wp2_with fail
  go_ret
  exact ⟨rfl, B2.out⟩
theorem badC_ways (c : Int) : (badC c = true ∧ c < 33) ∨ (badC c = true ∧ ¬ c < 33 ∧ 126 < c) ∨ (badC c = true ∧ ¬ c < 33 ∧ ¬ 126 < c ∧ 65 ≤ c ∧ c ≤ 90) ∨ (badC c = false ∧ ¬ c < 33 ∧ ¬ 126 < c ∧ ¬ 65 ≤ c) ∨ (badC c = false ∧ ¬ c < 33 ∧ ¬ 126 < c ∧ 65 ≤ c ∧ ¬ c ≤ 90) := by
  unfold badC
  by_cases h1 : c < 33
  · simp [h1]
  · by_cases h2 : 126 < c
    · simp [h1, h2]
    · by_cases h3 : 65 ≤ c
      · by_cases h4 : c ≤ 90
        · simp [h1, h2, h3, h4]
        · simp [h1, h2, h3, h4]
      · simp [h1, h2, h3]
set_option maxHeartbeats 2000000 in
theorem misnamed_any (x : Fld) (hw : FdWf x) (ok : okFd x) (w : World) : Calls Try.prog 56 #[fdV x] w fun e w' => e = .returned (.bool (badN x.name)) ∧ Below w.heap.size w w' := by
  have hl := ok.2.1
  have hb := hw.1
  unfold fdV
  obtain ⟨zs, hzs⟩ : ∃ z, x.name = z := ⟨_, rfl⟩
  rw [hzs] at hl hb ⊢
  obtain ⟨S2, hS2⟩ : ∃ S, strOfNums x.val = S := ⟨_, rfl⟩
  rw [hS2]
  have X1 := (Below.refl w.heap.size w).alloc (Nat.le_refl _) (.cells #[.string (strOfNums zs), .string S2] 66)
  obtain ⟨C, W1, hrun, b1, hsz, hbs⟩ := conv_str zs hb (by omega) (w.alloc (.cells #[.string (strOfNums zs), .string S2] 66))
  have B1 := Lib.hid (X1.trans (b1.mono X1.size))
  obtain ⟨q, hq⟩ : ∃ q, (w.alloc (.cells #[.string (strOfNums zs), .string S2] 66)).heap.size = q := ⟨_, rfl⟩
  rw [hq] at hrun hbs
  have HCL := Lib.hid (fun i (hi : i < zs.length) => show W1.cell? ⟨q, i, none⟩ = some (.int .u8 (zs.getD i 0)) by
    obtain ⟨A', c', e, _, _, _, h4⟩ := hbs.ex
    cases e
    obtain ⟨b, off, e', _, hc⟩ := h4.2 (by omega)
    cases e'
    have := hc i hi
    rwa [Nat.zero_add] at this)
  have HY := Lib.hid hb
  have HBN := Lib.hid (show ∀ i, i < zs.length → (zs.drop i).any badC = (badC (zs.getD i 0) || (zs.drop (i + 1)).any badC) from fun i hi => any_drop hi)
  have hCn : zs.length ≤ C := by
    obtain ⟨A', c', e, h1, _, _, _⟩ := hbs.ex
    cases e
    exact h1
  obtain ⟨S1, hS1⟩ : ∃ S, strOfNums zs = S := ⟨_, rfl⟩
  rw [hS1] at hrun ⊢
  unfold badN
  have HST := Lib.hid (show (zs.drop 0).any badC = zs.any badC from by rw [List.drop_zero])
  have HEN := Lib.hid (show (zs.drop zs.length).any badC = false from by rw [List.drop_length]; rfl)
  obtain ⟨bz, hbz⟩ : ∃ bz, zs.any badC = bz := ⟨_, rfl⟩
  rw [hbz] at HST ⊢
  obtain ⟨n, hn⟩ : ∃ n, zs.length = n := ⟨_, rfl⟩
  rw [hn] at hrun HCL HBN HEN hCn hl
  clear hzs hS1 hS2 hbz hn hbs hb hw ok b1 hsz hq X1
  go_enter Try.func56, Try.ntmps56
  go_wp2_with fail
  go_loopg [9] n (fun gq iv wr => ∃ i : Nat, iv = .int .i64 i ∧ i + gq = n ∧ Hid ((zs.drop i).any badC = bz) ∧ wr = W1)
  case atStart => exact ⟨0, rfl, by omega, HST, rfl⟩
  case round =>
    obtain ⟨i, rfl, hig, HP, rfl⟩ := hrel
    by_cases hlt : i < n
    · have x0 := HCL.out i hlt
      have hy := HY.out i
      have HD := Lib.hid (HBN.out i hlt)
      have hnk : (i : Int) < (n : Int) := by omega
      obtain ⟨c, hc⟩ : ∃ c, zs.getD i 0 = c := ⟨_, rfl⟩
      rw [hc] at x0 hy HD
      clear hc
      rcases badC_ways c with ⟨hb, h1⟩ | ⟨hb, h1, h2⟩ | ⟨hb, h1, h2, h3, h4⟩ | ⟨hb, h1, h2, h3⟩ | ⟨hb, h1, h2, h3, h4⟩
      · have HE := Lib.hid (show bz = true by rw [← HP.out, HD.out, hb, Bool.true_or])
        clear hb
        go_wp2_with fail
        go_ret
        exact ⟨by rw [HE.out]; rfl, B1.out⟩
      · have HE := Lib.hid (show bz = true by rw [← HP.out, HD.out, hb, Bool.true_or])
        clear hb
        go_wp2_with fail
        go_ret
        exact ⟨by rw [HE.out]; rfl, B1.out⟩
      · have HE := Lib.hid (show bz = true by rw [← HP.out, HD.out, hb, Bool.true_or])
        clear hb
        go_wp2_with fail
        go_ret
        exact ⟨by rw [HE.out]; rfl, B1.out⟩
      · have HP1 := Lib.hid (show (zs.drop (i + 1)).any badC = bz by rw [← HP.out, HD.out, hb, Bool.false_or])
        clear hb
        go_wp2_with fail
        go_roundg (gk - 1)
        case measure => omega
        case rel => exact ⟨i + 1, by first | rfl | go_num, by omega, HP1, rfl⟩
      · have HP1 := Lib.hid (show (zs.drop (i + 1)).any badC = bz by rw [← HP.out, HD.out, hb, Bool.false_or])
        clear hb
        go_wp2_with fail
        go_roundg (gk - 1)
        case measure => omega
        case rel => exact ⟨i + 1, by first | rfl | go_num, by omega, HP1, rfl⟩
    · obtain rfl : i = n := by omega
      have HE := Lib.hid (show bz = false by rw [← HP.out, HEN.out])
      go_wp2_with fail
      go_ret
      exact ⟨by rw [HE.out]; rfl, B1.out⟩
end Go.Proofs.Ytpfahdogedchpaa
/- The project's request: fields that something holds of, split. -/
namespace Go.Proofs.Ytpfahdogedchpaa.P
/-- a field whose Name has a byte that none may have -/
def badF (f : Fld) : Bool := badN f.name
end Go.Proofs.Ytpfahdogedchpaa.P
namespace Go.Proofs.Ytpfahdogedchpaa
set_option linter.unusedVariables false
open Go.RowKit P

set_option maxHeartbeats 2000000 in
theorem idxM_any (A : Option Addr) (n c : Nat) (l : List Fld) (w : World) (h : RowE FdE w w.heap.size A l) (hn : l.length = n) (hwf : ∀ x ∈ l, ∀ w, Calls Try.prog 56 #[fdV x] w fun e w' => e = .returned (.bool (badF x)) ∧ Below w.heap.size w w') (hm : n ≤ 8796093022208) :
    Calls Try.prog 70 #[.slice A n c, .func (.func 56) #[] #[]] w fun e w' => e = .returned (.int .i64 (firstP badF l)) ∧ Below w.heap.size w w' := by
  have HAT := Lib.hid (fun i h1 h2 h3 => firstP_at (p := badF) (l := l) (i := i) h1 h2 h3)
  have HNO := Lib.hid (fun h => firstP_no (p := badF) (l := l) h)
  have HR := Lib.hid h
  have HN := Lib.hid hn
  have HW := Lib.hid hwf
  obtain ⟨rz, hrz⟩ : ∃ rz, firstP badF l = rz := ⟨_, rfl⟩
  rw [hrz] at HAT HNO ⊢
  clear h hn hwf hrz
  go_enter Try.func70, Try.ntmps70
  go_wp2_with fail
  go_loopg [8] n (fun gq iv wr => ∃ i : Nat, iv = .int .i64 i ∧ i + gq = n ∧ Hid (∀ j, j < i → (badF (l.getD j fd0)) = false) ∧ Hid (Below w.heap.size w wr))
  case atStart => exact ⟨0, rfl, by omega, Lib.hid (fun j hj => by omega), Lib.hid (Below.refl _ _)⟩
  case round =>
    obtain ⟨i, rfl, hig, HP, BK⟩ := hrel
    by_cases hlt : i < n
    · have hil : i < l.length := by rw [HN.out]; exact hlt
      obtain ⟨b, off, hA, hbl, x0, x1⟩ := fd_cells HR.out hil
      have hmem : l.getD i fd0 ∈ l := by rw [List.getD_eq_getElem?_getD, List.getElem?_eq_getElem hil]; exact List.getElem_mem hil
      have HIF := Lib.hid (fun w => HW.out _ hmem w)
      have HHIT := Lib.hid (fun k => HAT.out i hil k HP.out)
      have HMISS := Lib.hid (fun (k : (badF (l.getD i fd0)) = false) j (hj : j < i + 1) => (by
        rcases Nat.lt_or_ge j i with q | q
        · exact HP.out j q
        · obtain rfl : j = i := by omega
          exact k : (badF (l.getD j fd0)) = false))
      obtain ⟨x, hx⟩ : ∃ x, l.getD i fd0 = x := ⟨_, rfl⟩
      rw [hx] at x0 x1 HIF HHIT HMISS
      unfold fdV at HIF
      obtain ⟨S1, hS1⟩ : ∃ S, strOfNums x.name = S := ⟨_, rfl⟩
      obtain ⟨S2, hS2⟩ : ∃ S, strOfNums x.val = S := ⟨_, rfl⟩
      rw [hS1] at x0 HIF
      rw [hS2] at x1 HIF
      subst hA
      have y0 := (BK.out.cell (p := ⟨b, off + i * 2, none⟩) hbl).trans x0
      have y1 := (BK.out.cell (p := ⟨b, off + i * 2 + 1, none⟩) hbl).trans x1
      have hnk : (i : Int) < (n : Int) := by omega
      clear x0 x1 hx hS1 hS2 hmem hil hbl
      rcases hpx : badF x with _ | _
      · rw [hpx] at HIF HHIT HMISS
        have HP1 := Lib.hid (HMISS.out rfl)
        clear hpx HHIT HMISS
        go_wp2_with fail
        refine (HIF.out _).mono ?_
        rintro e w4 ⟨rfl, b4⟩
        have B4 := Lib.hid (BK.out.trans (b4.mono BK.out.size))
        clear b4 y0 y1
        go_wp2_with fail
        go_roundg (gk - 1)
        case measure => omega
        case rel => exact ⟨i + 1, by first | rfl | go_num, by omega, HP1, B4⟩
      · rw [hpx] at HIF HHIT HMISS
        have HE := Lib.hid (HHIT.out rfl)
        clear hpx HHIT HMISS
        go_wp2_with fail
        refine (HIF.out _).mono ?_
        rintro e w4 ⟨rfl, b4⟩
        have B4 := Lib.hid (BK.out.trans (b4.mono BK.out.size))
        clear b4 y0 y1
        go_wp2_with fail
        go_ret
        exact ⟨by rw [HE.out]; rfl, B4.out⟩
    · obtain rfl : i = n := by omega
      have HE := Lib.hid (HNO.out (by rw [HN.out]; exact HP.out))
      go_wp2_with fail
      go_ret
      exact ⟨by rw [HE.out]; rfl, BK.out⟩
theorem hasM_any (A : Option Addr) (n c : Nat) (l : List Fld) (w : World) (h : RowE FdE w w.heap.size A l) (hn : l.length = n) (hwf : ∀ x ∈ l, ∀ w, Calls Try.prog 56 #[fdV x] w fun e w' => e = .returned (.bool (badF x)) ∧ Below w.heap.size w w') (hm : n ≤ 8796093022208) :
    Calls Try.prog 55 #[.slice A n c, .func (.func 56) #[] #[]] w fun e w' => e = .returned (.bool (l.any badF)) ∧ Below w.heap.size w w' := by
  have H := Lib.hid (idxM_any A n c l w h hn hwf hm)
  rw [← firstP_lt0]
  obtain ⟨rz, hrz⟩ : ∃ rz, firstP badF l = rz := ⟨_, rfl⟩
  rw [hrz] at H ⊢
  clear h hn hwf hrz
  go_enter Try.func55, Try.ntmps55
  go_wp2_with fail
  refine (H.out).mono ?_
  rintro e w4 ⟨rfl, b4⟩
  have B4 := Lib.hid b4
  clear b4
  go_wp2_with fail
  go_ret
  exact ⟨by rfl, B4.out⟩
set_option maxHeartbeats 2000000 in
theorem idxO_any (A : Option Addr) (n c : Nat) (l : List Fld) (w : World) (h : RowE FdE w w.heap.size A l) (hn : l.length = n) (hwf : ∀ x ∈ l, ∀ w, Calls Try.prog 57 #[fdV x] w fun e w' => e = .returned (.bool (isOwnF x)) ∧ Below w.heap.size w w') (hm : n ≤ 8796093022208) :
    Calls Try.prog 70 #[.slice A n c, .func (.func 57) #[] #[]] w fun e w' => e = .returned (.int .i64 (firstP isOwnF l)) ∧ Below w.heap.size w w' := by
  have HAT := Lib.hid (fun i h1 h2 h3 => firstP_at (p := isOwnF) (l := l) (i := i) h1 h2 h3)
  have HNO := Lib.hid (fun h => firstP_no (p := isOwnF) (l := l) h)
  have HR := Lib.hid h
  have HN := Lib.hid hn
  have HW := Lib.hid hwf
  obtain ⟨rz, hrz⟩ : ∃ rz, firstP isOwnF l = rz := ⟨_, rfl⟩
  rw [hrz] at HAT HNO ⊢
  clear h hn hwf hrz
  go_enter Try.func70, Try.ntmps70
  go_wp2_with fail
  go_loopg [8] n (fun gq iv wr => ∃ i : Nat, iv = .int .i64 i ∧ i + gq = n ∧ Hid (∀ j, j < i → (isOwnF (l.getD j fd0)) = false) ∧ Hid (Below w.heap.size w wr))
  case atStart => exact ⟨0, rfl, by omega, Lib.hid (fun j hj => by omega), Lib.hid (Below.refl _ _)⟩
  case round =>
    obtain ⟨i, rfl, hig, HP, BK⟩ := hrel
    by_cases hlt : i < n
    · have hil : i < l.length := by rw [HN.out]; exact hlt
      obtain ⟨b, off, hA, hbl, x0, x1⟩ := fd_cells HR.out hil
      have hmem : l.getD i fd0 ∈ l := by rw [List.getD_eq_getElem?_getD, List.getElem?_eq_getElem hil]; exact List.getElem_mem hil
      have HIF := Lib.hid (fun w => HW.out _ hmem w)
      have HHIT := Lib.hid (fun k => HAT.out i hil k HP.out)
      have HMISS := Lib.hid (fun (k : (isOwnF (l.getD i fd0)) = false) j (hj : j < i + 1) => (by
        rcases Nat.lt_or_ge j i with q | q
        · exact HP.out j q
        · obtain rfl : j = i := by omega
          exact k : (isOwnF (l.getD j fd0)) = false))
      obtain ⟨x, hx⟩ : ∃ x, l.getD i fd0 = x := ⟨_, rfl⟩
      rw [hx] at x0 x1 HIF HHIT HMISS
      unfold fdV at HIF
      obtain ⟨S1, hS1⟩ : ∃ S, strOfNums x.name = S := ⟨_, rfl⟩
      obtain ⟨S2, hS2⟩ : ∃ S, strOfNums x.val = S := ⟨_, rfl⟩
      rw [hS1] at x0 HIF
      rw [hS2] at x1 HIF
      subst hA
      have y0 := (BK.out.cell (p := ⟨b, off + i * 2, none⟩) hbl).trans x0
      have y1 := (BK.out.cell (p := ⟨b, off + i * 2 + 1, none⟩) hbl).trans x1
      have hnk : (i : Int) < (n : Int) := by omega
      clear x0 x1 hx hS1 hS2 hmem hil hbl
      rcases hpx : isOwnF x with _ | _
      · rw [hpx] at HIF HHIT HMISS
        have HP1 := Lib.hid (HMISS.out rfl)
        clear hpx HHIT HMISS
        go_wp2_with fail
        refine (HIF.out _).mono ?_
        rintro e w4 ⟨rfl, b4⟩
        have B4 := Lib.hid (BK.out.trans (b4.mono BK.out.size))
        clear b4 y0 y1
        go_wp2_with fail
        go_roundg (gk - 1)
        case measure => omega
        case rel => exact ⟨i + 1, by first | rfl | go_num, by omega, HP1, B4⟩
      · rw [hpx] at HIF HHIT HMISS
        have HE := Lib.hid (HHIT.out rfl)
        clear hpx HHIT HMISS
        go_wp2_with fail
        refine (HIF.out _).mono ?_
        rintro e w4 ⟨rfl, b4⟩
        have B4 := Lib.hid (BK.out.trans (b4.mono BK.out.size))
        clear b4 y0 y1
        go_wp2_with fail
        go_ret
        exact ⟨by rw [HE.out]; rfl, B4.out⟩
    · obtain rfl : i = n := by omega
      have HE := Lib.hid (HNO.out (by rw [HN.out]; exact HP.out))
      go_wp2_with fail
      go_ret
      exact ⟨by rw [HE.out]; rfl, BK.out⟩
theorem hasO_any (A : Option Addr) (n c : Nat) (l : List Fld) (w : World) (h : RowE FdE w w.heap.size A l) (hn : l.length = n) (hwf : ∀ x ∈ l, ∀ w, Calls Try.prog 57 #[fdV x] w fun e w' => e = .returned (.bool (isOwnF x)) ∧ Below w.heap.size w w') (hm : n ≤ 8796093022208) :
    Calls Try.prog 55 #[.slice A n c, .func (.func 57) #[] #[]] w fun e w' => e = .returned (.bool (l.any isOwnF)) ∧ Below w.heap.size w w' := by
  have H := Lib.hid (idxO_any A n c l w h hn hwf hm)
  rw [← firstP_lt0]
  obtain ⟨rz, hrz⟩ : ∃ rz, firstP isOwnF l = rz := ⟨_, rfl⟩
  rw [hrz] at H ⊢
  clear h hn hwf hrz
  go_enter Try.func55, Try.ntmps55
  go_wp2_with fail
  refine (H.out).mono ?_
  rintro e w4 ⟨rfl, b4⟩
  have B4 := Lib.hid b4
  clear b4
  go_wp2_with fail
  go_ret
  exact ⟨by rfl, B4.out⟩
set_option maxHeartbeats 2000000 in
theorem split_any (A : Option Addr) (n c : Nat) (l : List Fld) (w : World) (h : RowE FdE w w.heap.size A l) (hn : l.length = n) (hnc : n ≤ c) (hc : c ≤ maxLen) (hwf : ∀ x ∈ l, FdWf x) (hm : n ≤ 8796093022208) :
    Calls Try.prog 54 #[.slice A n c] w fun e w' => Below w.heap.size w w' ∧ ∃ A2 n2 c2, e = .returned (.tuple #[.slice A (nOwn l) c, .slice A2 n2 c2]) ∧ FSl w' w'.heap.size (.slice A2 n2 c2) (l.drop (nOwn l)) := by
  have HAT := Lib.hid (fun i (h1 : i < l.length) h2 h3 => nOwn_at (l := l) (i := i) h1 h2 h3)
  have HNO := Lib.hid (fun h => nOwn_all (l := l) h)
  have HR := Lib.hid h
  have HN := Lib.hid hn
  have HW := Lib.hid hwf
  have HCUT := Lib.hid (fun i => h.cut i c (by omega))
  unfold maxLen at hc
  have HM := Lib.hid hc
  obtain ⟨rz, hrz⟩ : ∃ rz, nOwn l = rz := ⟨_, rfl⟩
  rw [hrz] at HAT HNO ⊢
  clear h hn hwf hrz hc
  go_enter Try.func54, Try.ntmps54
  go_wp2_with fail
  go_loopg [8] n (fun gq iv wr => ∃ i : Nat, iv = .int .i64 i ∧ i + gq = n ∧ Hid (∀ j, j < i → isOwnF (l.getD j fd0) = true) ∧ Hid (Below w.heap.size w wr))
  case atStart => exact ⟨0, rfl, by omega, Lib.hid (fun j hj => by omega), Lib.hid (Below.refl _ _)⟩
  case round =>
    obtain ⟨i, rfl, hig, HP, BK⟩ := hrel
    by_cases hlt : i < n
    · have hil : i < l.length := by rw [HN.out]; exact hlt
      obtain ⟨b, off, hA, hbl, x0, x1⟩ := fd_cells HR.out hil
      have hmem : l.getD i fd0 ∈ l := by rw [List.getD_eq_getElem?_getD, List.getElem?_eq_getElem hil]; exact List.getElem_mem hil
      have HIF := Lib.hid (fun w => isOwn_any _ (HW.out _ hmem) w)
      have HHIT := Lib.hid (fun k => HAT.out i hil k HP.out)
      have HMISS := Lib.hid (fun (k : isOwnF (l.getD i fd0) = true) j (hj : j < i + 1) => (by
        rcases Nat.lt_or_ge j i with q | q
        · exact HP.out j q
        · obtain rfl : j = i := by omega
          exact k : isOwnF (l.getD j fd0) = true))
      obtain ⟨x, hx⟩ : ∃ x, l.getD i fd0 = x := ⟨_, rfl⟩
      rw [hx] at x0 x1 HIF HHIT HMISS
      unfold fdV at HIF
      obtain ⟨S1, hS1⟩ : ∃ S, strOfNums x.name = S := ⟨_, rfl⟩
      obtain ⟨S2, hS2⟩ : ∃ S, strOfNums x.val = S := ⟨_, rfl⟩
      rw [hS1] at x0 HIF
      rw [hS2] at x1 HIF
      have HAH := Lib.hid hA
      subst hA
      have y0 := (BK.out.cell (p := ⟨b, off + i * 2, none⟩) hbl).trans x0
      have y1 := (BK.out.cell (p := ⟨b, off + i * 2 + 1, none⟩) hbl).trans x1
      have hnk : (i : Int) < (n : Int) := by omega
      have BX := Lib.hid ((Below.refl wr.heap.size wr).alloc (Nat.le_refl _) (.cells #[.string S1, .string S2] 66))
      have FX := Lib.hid (heap_alloc_new wr (.cells #[.string S1, .string S2] 66))
      clear x0 x1 hx hS1 hS2 hmem hil hbl
      rcases hpx : isOwnF x with _ | _
      · rw [hpx] at HIF HHIT HMISS
        have HE := Lib.hid (HHIT.out rfl)
        clear hpx HHIT HMISS
        go_wp2_with fail
        refine (HIF.out _).mono ?_
        rintro e w4 ⟨rfl, b4⟩
        have B4 := Lib.hid (BK.out.trans ((BX.out.trans (b4.mono BX.out.size)).mono BK.out.size))
        have k1 : (0 : Int) ≤ (i : Int) := by omega
        have k2 : (i : Int) ≤ (n : Int) := by omega
        have k3 : (i : Int) ≤ (c : Int) := by omega
        have HCI := Lib.hid (HCUT.out i)
        obtain ⟨SA, hSA⟩ : ∃ SA, (if c = i then some ⟨b, off, none⟩ else Option.map (fun x : Addr => x.add (i * 2)) (some ⟨b, off, none⟩)) = SA := ⟨_, rfl⟩
        have HSA := Lib.hid hSA
        clear b4 y0 y1
        go_wp2_with fail
        go_quiet (fail)
        rename_i nq
        have B5 := Lib.hid (Go.below_drewN B4.out nq)
        go_wp2_with fail
        go_ret2
        refine ⟨B5.out, (if c = i then some ⟨b, off, none⟩ else Option.map (fun x : Addr => x.add (i * 2)) (some ⟨b, off, none⟩)), n - i, c - i, ?_, ?_⟩
        · rw [HE.out]
          rw [if_neg (by omega)]
          simp [add_plain2]
        · rw [HE.out]
          refine ⟨_, _, by rw [List.length_drop, HN.out], by rw [List.length_drop, HN.out]; omega, by unfold maxLen; have := HM.out; omega, ?_⟩
          exact (HCI.out.below B5.out).more B5.out.size
      · rw [hpx] at HIF HHIT HMISS
        have HP1 := Lib.hid (HMISS.out rfl)
        clear hpx HHIT HMISS
        go_wp2_with fail
        refine (HIF.out _).mono ?_
        rintro e w4 ⟨rfl, b4⟩
        have B4 := Lib.hid (BK.out.trans ((BX.out.trans (b4.mono BX.out.size)).mono BK.out.size))
        clear b4 y0 y1
        go_wp2_with fail
        go_roundg (gk - 1)
        case measure => omega
        case rel => exact ⟨i + 1, by first | rfl | go_num, by omega, HP1, B4⟩
    · obtain rfl : i = n := by omega
      have HE := Lib.hid (HNO.out (by rw [HN.out]; exact HP.out))
      go_wp2_with fail
      go_ret2
      refine ⟨BK.out, none, 0, 0, by rw [HE.out, HN.out]; rfl, ?_⟩
      rw [HE.out, List.drop_length]
      exact FSl.nil _ _
end Go.Proofs.Ytpfahdogedchpaa
/- The project's request: a map that counts Names, complete. -/
namespace Go.Proofs.Ytpfahdogedchpaa.P
set_option linter.unusedVariables false
open Go.RowKit
abbrev kyS (zs : List Int) : Lit := .string (strOfNums zs).data.toList
theorem kyS_key (x : List Int) : WideAt.IsKeyLit (kyS x) := trivial
theorem kyS_ne {x y : List Int} (hx : Byt x) (hy : Byt y) (h : x ≠ y) : kyS x ≠ kyS y := fun e => h (fl_inj hx hy (by
  injection e with e
  exact ByteArray.ext (Array.toList_inj.1 e)))
/-- what a map's reading says: how often Names stand in fields -/
structure MapS (D : DataW Unit) (l : List Fld) : Prop where
  map : Maps.IsMap D
  at_ : ∀ zs, Byt zs → D.atKey (kyS zs) (.lit (.int .i64 0)) = .lit (.int .i64 (cntN zs l : Int))
  no : ∀ zs, Byt zs → cntN zs l = 0 → Maps.has D (kyS zs) = false
theorem cntN_nil (zs : List Int) : cntN zs [] = 0 := rfl
theorem cntN_snoc (zs : List Int) (l : List Fld) (f : Fld) : cntN zs (l ++ [f]) = cntN zs l + if f.name = zs then 1 else 0 := by
  unfold cntN
  rw [List.countP_append, List.countP_cons, List.countP_nil]
  by_cases h : f.name = zs <;> simp [h]
theorem cntN_le (zs : List Int) (l : List Fld) : cntN zs l ≤ l.length := List.countP_le_length
theorem MapS.empty : MapS (.map [] : DataW Unit) [] := ⟨Maps.isMap_empty, fun zs _ => rfl, fun zs _ _ => rfl⟩
theorem MapS.put {D : DataW Unit} {l : List Fld} {f : Fld} (h : MapS D l) (hf : Byt f.name) : MapS (D.put (kyS f.name) (.lit (.int .i64 ((cntN f.name l : Int) + 1)))) (l ++ [f]) := by
  refine ⟨h.map.put _ _, fun zs hz => ?_, fun zs hz h0 => ?_⟩
  · rw [cntN_snoc]
    by_cases e : f.name = zs
    · subst e
      rw [if_pos rfl, Maps.atKey_put_same h.map (kyS_key _)]
      simp
    · rw [if_neg e, Maps.atKey_put_other (kyS_ne hz hf (fun q => e q.symm)), h.at_ zs hz]
      simp
  · rw [cntN_snoc] at h0
    by_cases e : f.name = zs
    · rw [if_pos e] at h0; omega
    · rw [if_neg e] at h0
      rw [Maps.has_put_other (kyS_ne hz hf (fun q => e q.symm))]
      exact h.no zs hz (by omega)
/-- what lies in memory between the rounds: the map -/
structure MpI (P : Program) (ks ki : TypeId) (W : World) (M n : Nat) (l : List Fld) (w : World) : Prop where
  m : ∃ D : DataW Unit, w.ownsMap P ks (plainElem P ki) M n D ∧ MapS D l
  b : Below W.heap.size W w
  lo : W.heap.size ≤ M
theorem MpI.later {P : Program} {ks ki : TypeId} {W : World} {M n : Nat} {l : List Fld} {w w' : World} (h : MpI P ks ki W M n l w) (b : Below w.heap.size w w') : MpI P ks ki W M n l w' := by
  obtain ⟨D, ⟨es, clock, h1, h2⟩, m⟩ := h.m
  exact ⟨⟨D, ⟨es, clock, (b.block _ (lt_of_block h1)).trans h1, h2⟩, m⟩, h.b.trans (b.mono h.b.size), h.lo⟩
theorem MpI.store {P : Program} {ks ki : TypeId} {W : World} {M n : Nat} {l : List Fld} {f : Fld} {w w' : World} {D : DataW Unit} (h : MpI P ks ki W M n l w) (hm : MapS D l) (hf : Byt f.name) (o : w'.ownsMap P ks (plainElem P ki) M (n + 1) (D.put (kyS f.name) (.lit (.int .i64 ((cntN f.name l : Int) + 1))))) (g : w.grownBy w' (some M)) : MpI P ks ki W M (n + 1) (l ++ [f]) w' :=
  ⟨⟨_, o, hm.put hf⟩, h.b.grown g h.b.size (fun k e => by cases e; exact h.lo), h.lo⟩
theorem okOwn_ways (l : List Fld) : (decide (okOwn l) = false ∧ cntN nmM l ≠ 1) ∨ (decide (okOwn l) = false ∧ cntN nmM l = 1 ∧ cntN nmP l ≠ 1) ∨ (decide (okOwn l) = false ∧ cntN nmM l = 1 ∧ cntN nmP l = 1 ∧ 1 < cntN nmA l) ∨ (cntN nmM l = 1 ∧ cntN nmP l = 1 ∧ ¬ 1 < cntN nmA l ∧ decide (okOwn l) = decide (cntN nmM l + cntN nmP l + cntN nmA l = l.length)) := by
  by_cases h1 : cntN nmM l = 1
  · by_cases h2 : cntN nmP l = 1
    · by_cases h3 : 1 < cntN nmA l
      · exact .inr (.inr (.inl ⟨decide_eq_false (fun h => by have := h.2.2.1; omega), h1, h2, h3⟩))
      · refine .inr (.inr (.inr ⟨h1, h2, h3, ?_⟩))
        rw [decide_eq_decide]
        unfold okOwn
        omega
    · exact .inr (.inl ⟨decide_eq_false (fun h => h2 h.2.1), h1, h2⟩)
  · exact .inl ⟨decide_eq_false (fun h => h1 h.1), h1⟩
end Go.Proofs.Ytpfahdogedchpaa.P
namespace Go.Proofs.Ytpfahdogedchpaa
set_option linter.unusedVariables false
open Go.RowKit P

theorem keyS_of (zs : List Int) (h : zs.length ≤ 1000) : keyOf Try.prog 9 (.string (strOfNums zs)) = some (kyS zs) := Go.WideMaps.keyOf_string_mk Try.underlying9 (by rw [strOfNums_size]; unfold maxLen; omega)
set_option maxRecDepth 100000 in
set_option maxHeartbeats 4000000 in
theorem complete_any (A : Option Addr) (n c : Nat) (l : List Fld) (w : World) (h : RowE FdE w w.heap.size A l) (hn : l.length = n) (hwf : ∀ x ∈ l, FdWf x ∧ okFd x) (hm : n ≤ 8) :
    Calls Try.prog 58 #[.slice A n c] w fun e w' => e = .returned (.bool (decide (okOwn l))) ∧ Below w.heap.size w w' := by
  have HR := Lib.hid h
  have HN := Lib.hid hn
  have HW := Lib.hid hwf
  have hmm := @run_makeMap Try.prog
  have B0 := (Below.refl w.heap.size w).alloc (Nat.le_refl _) (.map #[] 0)
  have I0 : MpI Try.prog 9 3 w w.heap.size 0 [] (w.alloc (.map #[] 0)) := ⟨⟨_, World.ownsMap_made w Try.prog 9 (plainElem Try.prog 3), MapS.empty⟩, B0, Nat.le_refl _⟩
  obtain ⟨w1, hw1⟩ : ∃ x, w.alloc (.map #[] 0) = x := ⟨_, rfl⟩
  obtain ⟨M, hM⟩ : ∃ q, w.heap.size = q := ⟨_, rfl⟩
  have I1 := Lib.hid I0
  rw [hw1, hM] at I1
  have HFIN := Lib.hid (okOwn_ways l)
  obtain ⟨bz, hbz⟩ : ∃ bz, decide (okOwn l) = bz := ⟨_, rfl⟩
  rw [hbz] at HFIN ⊢
  clear h hn hwf hbz I0 B0
  go_enter Try.func58, Try.ntmps58
  go_upto_region 2 with fail
  have HMM := Lib.hid hM
  clear hw1 hM hmm
  go_wp2_with fail
  go_loopg [9] n (fun gq iv wr => ∃ i : Nat, iv = .int .i64 i ∧ i + gq = n ∧ Hid (MpI Try.prog 9 3 w M i (l.take i) wr))
  case atStart => exact ⟨0, rfl, by omega, I1⟩
  case round =>
    obtain ⟨i, rfl, hig, IW⟩ := hrel
    by_cases hlt : i < n
    · have hil : i < l.length := by rw [HN.out]; exact hlt
      obtain ⟨b, off, hA, hbl, x0, x1⟩ := fd_cells HR.out hil
      have hmem : l.getD i fd0 ∈ l := by rw [List.getD_eq_getElem?_getD, List.getElem?_eq_getElem hil]; exact List.getElem_mem hil
      have HFW := Lib.hid (HW.out _ hmem)
      have HTK := Lib.hid (show l.take (i + 1) = l.take i ++ [l.getD i fd0] by rw [List.take_succ_eq_append_getElem hil, List.getD_eq_getElem?_getD, List.getElem?_eq_getElem hil]; rfl)
      obtain ⟨x, hx⟩ : ∃ x, l.getD i fd0 = x := ⟨_, rfl⟩
      rw [hx] at x0 x1 HFW HTK
      have HKY := Lib.hid (keyS_of x.name (by have := HFW.out.2.2.1; omega))
      have HCL := Lib.hid (cntN_le x.name (l.take i))
      have y0 := (IW.out.b.cell (p := ⟨b, off + i * 2, none⟩) hbl).trans x0
      have y1 := (IW.out.b.cell (p := ⟨b, off + i * 2 + 1, none⟩) hbl).trans x1
      obtain ⟨S1, hS1⟩ : ∃ S, strOfNums x.name = S := ⟨_, rfl⟩
      obtain ⟨S2, hS2⟩ : ∃ S, strOfNums x.val = S := ⟨_, rfl⟩
      rw [hS1] at y0 HKY
      rw [hS2] at y1
      subst hA
      have hnk : (i : Int) < (n : Int) := by omega
      have I2 := Lib.hid (IW.out.later ((Below.refl wr.heap.size wr).alloc (Nat.le_refl _) (.cells #[.string S1, .string S2] 66)))
      have FX := Lib.hid (heap_alloc_new wr (.cells #[.string S1, .string S2] 66))
      clear x0 x1 hx hS1 hS2 hmem hil hbl
      go_upto_region 5 with fail
      obtain ⟨w2, hw2⟩ : ∃ q, wr.alloc (.cells #[.string S1, .string S2] 66) = q := ⟨_, rfl⟩
      rw [hw2] at I2 FX ⊢
      obtain ⟨D, OO, MM⟩ := I2.out.m
      have OH := Lib.hid OO
      have MH := Lib.hid MM
      have HATK := Lib.hid (MM.at_ x.name HFW.out.1.1)
      have hkb := HCL.out
      rw [List.length_take] at hkb
      obtain ⟨k, hk⟩ : ∃ k, cntN x.name (l.take i) = k := ⟨_, rfl⟩
      have HK := Lib.hid hk
      rw [hk] at HATK hkb
      have hk8 : k ≤ i := by omega
      clear hk hkb
      obtain ⟨y0', y1'⟩ := bk2F FX.out
      clear OO MM hw2 y0 y1
      go_wp2_with (first
        | (at_lookup
           go_loud (refine wpList_lookup_own_int _ rfl _ _ 77 rfl 9 3 .i64 (Maps.string_keyed Try.underlying9) Try.underlying77 Try.underlying3 (zeroIN _) M i D rfl OH.out _ (kyS x.name) rfl HKY.out ?_)
           intro z hat hwz
           obtain rfl : z = (k : Int) := by have := hat.symm.trans HATK.out; cases this; rfl
           clear hat hwz)
        | (at_mapUpdate
           go_loud (refine wpList_mapUpdate_own _ rfl _ _ _ 77 rfl 9 3 (Maps.string_keyed Try.underlying9) Try.underlying77 _ M i D rfl OH.out (by unfold maxLen; omega) _ _ (kyS x.name) rfl rfl HKY.out (.lit (.int .i64 ((k : Int) + 1))) [] (plainElem_int Try.underlying3 (wfN (by omega) (by omega))) ?_)
           intro w3 own3 gr3
           have I3 := Lib.hid (I2.out.store MH.out HFW.out.1.1 (by rw [HK.out]; exact own3) gr3)
           clear own3 gr3))
      go_roundg (gk - 1)
      case measure => omega
      case rel => exact ⟨i + 1, by first | rfl | go_num, by omega, by rw [HTK.out]; exact I3⟩
    · obtain rfl : i = n := by omega
      obtain ⟨D, OO, MM⟩ := IW.out.m
      have e0 : l.take i = l := List.take_of_length_le (by rw [HN.out]; exact Nat.le_refl _)
      rw [e0] at MM
      obtain ⟨cM, rM, aM, _⟩ := OO.lookup_int (Maps.string_keyed Try.underlying9) Try.underlying77 Try.underlying3 (zeroIN wr) (key := .string { data := #[58, 109, 101, 116, 104, 111, 100] }) (kl := kyS nmM) (keyS_of nmM (by decide))
      obtain ⟨cP, rP, aP, _⟩ := OO.lookup_int (Maps.string_keyed Try.underlying9) Try.underlying77 Try.underlying3 (zeroIN wr) (key := .string { data := #[58, 112, 97, 116, 104] }) (kl := kyS nmP) (keyS_of nmP (by decide))
      obtain ⟨cA, rA, aA, _⟩ := OO.lookup_int (Maps.string_keyed Try.underlying9) Try.underlying77 Try.underlying3 (zeroIN wr) (key := .string { data := #[58, 97, 117, 116, 104, 111, 114, 105, 116, 121] }) (kl := kyS nmA) (keyS_of nmA (by decide))
      obtain rfl : cM = (cntN nmM l : Int) := by have := aM.symm.trans (MM.at_ nmM (byt_all (by decide))); cases this; rfl
      obtain rfl : cP = (cntN nmP l : Int) := by have := aP.symm.trans (MM.at_ nmP (byt_all (by decide))); cases this; rfl
      obtain rfl : cA = (cntN nmA l : Int) := by have := aA.symm.trans (MM.at_ nmA (byt_all (by decide))); cases this; rfl
      have lM := cntN_le nmM l
      have lP := cntN_le nmP l
      have lA := cntN_le nmA l
      rw [HN.out] at HFIN lM lP lA
      obtain ⟨x, hx⟩ : ∃ x, cntN nmM l = x := ⟨_, rfl⟩
      obtain ⟨y, hy⟩ : ∃ y, cntN nmP l = y := ⟨_, rfl⟩
      obtain ⟨z, hz⟩ : ∃ z, cntN nmA l = z := ⟨_, rfl⟩
      rw [hx] at HFIN rM lM
      rw [hy] at HFIN rP lP
      rw [hz] at HFIN rA lA
      have BE := Lib.hid IW.out.b
      have hsum : IntKind.i64.wrap ((x : Int) + (y : Int)) = (x : Int) + (y : Int) := by rw [IntKind.wrap_i64]; omega
      have hsum2 : IntKind.i64.wrap ((x : Int) + (y : Int) + (z : Int)) = (x : Int) + (y : Int) + (z : Int) := by rw [IntKind.wrap_i64]; omega
      clear aM aP aA MM OO e0 hx hy hz lM lP lA
      rcases HFIN.out with ⟨hb, h1⟩ | ⟨hb, h1, h2⟩ | ⟨hb, h1, h2, h3⟩ | ⟨h1, h2, h3, hb⟩
      · have e1 : ((x : Int) != 1) = true := by simp; omega
        have HB := Lib.hid hb
        clear hb h1
        go_wp2_with fail
        go_ret
        exact ⟨by rw [HB.out]; rfl, BE.out⟩
      · have e1 : ((y : Int) != 1) = true := by simp; omega
        subst h1
        have HB := Lib.hid hb
        clear hb h2
        go_wp2_with fail
        go_ret
        exact ⟨by rw [HB.out]; rfl, BE.out⟩
      · subst h1 h2
        have e1 : (1 : Int) < (z : Int) := by omega
        have HB := Lib.hid hb
        clear hb
        go_wp2_with fail
        go_ret
        exact ⟨by rw [HB.out]; rfl, BE.out⟩
      · subst h1 h2
        have e1 : ¬ (1 : Int) < (z : Int) := by omega
        have HB := Lib.hid hb
        clear hb
        go_wp2_with fail
        go_ret
        exact ⟨by rw [HB.out]; show Ending.returned (.bool ((2 + (z : Int)) == (i : Int))) = _; congr 2; rw [Bool.eq_iff_iff, beq_iff_eq, decide_eq_true_iff]; omega, BE.out⟩
/-- what is asked of request.Check, and of the document's RequestFault -/
def RqChk (P : Program) (f : FuncId) : Prop := ∀ (A : Option Addr) (n c : Nat) (l : List Fld) (w : World), RowE FdE w w.heap.size A l → l.length = n → n ≤ c → c ≤ maxLen → (∀ x ∈ l, FdWf x) → n ≤ 8796093022208 → Calls P f #[.slice A n c] w fun e w' => e = .returned (.int .i64 (faultRq l)) ∧ Below w.heap.size w w'
theorem okRq_any {l : List Fld} (h0 : faultFl l = 0) : faultRq l = if l.any badF then 3 else if (l.drop (nOwn l)).any isOwnF then 3 else if okOwn (l.take (nOwn l)) then 0 else 3 := by
  rw [faultRq_good h0]
  obtain ⟨e1, e2⟩ := own_split l
  by_cases h1 : l.any badF = true
  · rw [if_pos h1, if_neg]
    rintro ⟨k, _⟩
    obtain ⟨f, hf, hb⟩ := List.any_eq_true.1 h1
    have := k f hf
    unfold badF at hb
    rw [this] at hb; cases hb
  · rw [if_neg h1]
    by_cases h2 : (l.drop (nOwn l)).any isOwnF = true
    · rw [if_pos h2, if_neg]
      rintro ⟨_, k, _⟩
      rw [e2] at k
      obtain ⟨f, hf, hb⟩ := List.any_eq_true.1 h2
      rw [k f hf] at hb; cases hb
    · rw [if_neg h2]
      by_cases h3 : okOwn (l.take (nOwn l))
      · rw [if_pos h3, if_pos]
        refine ⟨fun f hf => ?_, fun f hf => ?_, by rw [e1]; exact h3⟩
        · cases hq : badN f.name with
          | false => rfl
          | true => exact absurd (List.any_eq_true.2 ⟨f, hf, hq⟩) h1
        · rw [e2] at hf
          cases hq : isOwnF f with
          | false => rfl
          | true => exact absurd (List.any_eq_true.2 ⟨f, hf, hq⟩) h2
      · rw [if_neg h3, if_neg]
        rintro ⟨_, _, k⟩
        rw [e1] at k
        exact h3 k
set_option maxHeartbeats 2000000 in
theorem rqchk_any : RqChk Try.prog 44 := by
  intro A n c l w h hn hnc hc hwf hm
  have HC := Lib.hid (fun w' (hb : Below w.heap.size w w') => fdchk_any A n c l w' (h.on hb) hn hwf hm)
  by_cases h0 : faultFl l = 0
  · rw [okRq_any h0]
    rw [h0] at HC
    obtain ⟨q8, qok⟩ : l.length ≤ 8 ∧ ∀ f ∈ l, okFd f := by
      unfold faultFl at h0
      by_cases g : 8 < l.length
      · rw [if_pos g] at h0; simp at h0
      · rw [if_neg g] at h0
        by_cases d : ∀ f ∈ l, okFd f
        · exact ⟨by omega, d⟩
        · rw [if_neg d] at h0; simp at h0
    have HS := Lib.hid (fun w' (hb : Below w.heap.size w w') => split_any A n c l w' (h.on hb) hn hnc hc hwf hm)
    have HM := Lib.hid (fun w' (hb : Below w.heap.size w w') => hasM_any A n c l w' (h.on hb) hn (fun x hx w => misnamed_any x (hwf x hx) (qok x hx) w) hm)
    have HO := Lib.hid (fun A2 n2 c2 w' (hf : FSl w' w'.heap.size (.slice A2 n2 c2) (l.drop (nOwn l))) => hasO_any A2 n2 c2 (l.drop (nOwn l)) w' (by obtain ⟨A', c', e, _, _, r⟩ := hf.ex; cases e; exact r) (by obtain ⟨A', c', e, _, _, r⟩ := hf.ex; cases e; rfl) (fun x hx w => isOwn_any x (hwf x (List.mem_of_mem_drop hx)) w) (by obtain ⟨A', c', e, _, _, r⟩ := hf.ex; cases e; rw [List.length_drop]; omega))
    have HK := Lib.hid (fun w' (hb : Below w.heap.size w w') => complete_any A (nOwn l) c (l.take (nOwn l)) w' ((h.on hb).take _) (by rw [List.length_take]; have := nOwn_le l; omega) (fun x hx => ⟨hwf x (List.mem_of_mem_take hx), qok x (List.mem_of_mem_take hx)⟩) (by have := nOwn_le l; omega))
    obtain ⟨k, hk⟩ : ∃ k, nOwn l = k := ⟨_, rfl⟩
    rw [hk] at HS HO HK ⊢
    obtain ⟨x, hx⟩ : ∃ x, l.any badF = x := ⟨_, rfl⟩
    obtain ⟨y, hy⟩ : ∃ x, (l.drop k).any isOwnF = x := ⟨_, rfl⟩
    obtain ⟨z, hz⟩ : ∃ x, decide (okOwn (l.take k)) = x := ⟨_, rfl⟩
    have hz2 : (if okOwn (l.take k) then (0 : Int) else 3) = if z = true then 0 else 3 := by rw [← hz]; by_cases g : okOwn (l.take k) <;> simp [g]
    rw [hz2, hx, hy]
    rw [hx] at HM
    rw [hy] at HO
    rw [hz] at HK
    clear h hn hnc hc hwf hm h0 q8 qok hk hx hy hz hz2
    cases x <;> cases y <;> cases z
    all_goals
      go_enter Try.func44, Try.ntmps44
      go_wp2_with fail
      refine (HC.out _ (Below.refl _ _)).mono ?_
      rintro e w1 ⟨rfl, b1⟩
      have B1 := Lib.hid b1
      clear b1
      go_wp2_with fail
      refine (HS.out _ B1.out).mono ?_
      rintro e w2 ⟨b2, A2, n2, c2, rfl, f2⟩
      have B2 := Lib.hid (B1.out.trans (b2.mono B1.out.size))
      have F2 := Lib.hid f2
      clear b2 f2
      go_wp2_with fail
      refine (HM.out _ B2.out).mono ?_
      rintro e w3 ⟨rfl, b3⟩
      have B3 := Lib.hid (B2.out.trans (b3.mono B2.out.size))
      have F3 := Lib.hid (F2.out.on b3)
      clear b3
      go_wp2_with fail
      first
        | (go_ret; exact ⟨rfl, B3.out⟩)
        | (refine (HO.out _ _ _ _ F3.out).mono ?_
           rintro e w4 ⟨rfl, b4⟩
           have B4 := Lib.hid (B3.out.trans (b4.mono B3.out.size))
           clear b4
           go_wp2_with fail
           first
             | (go_ret; exact ⟨rfl, B4.out⟩)
             | (refine (HK.out _ B4.out).mono ?_
                rintro e w5 ⟨rfl, b5⟩
                have B5 := Lib.hid (B4.out.trans (b5.mono B4.out.size))
                clear b5
                go_wp2_with fail
                go_ret
                exact ⟨rfl, B5.out⟩))
  · rw [faultRq_bad h0]
    obtain ⟨x, hx⟩ : ∃ x, faultFl l = x := ⟨_, rfl⟩
    rw [hx] at h0 HC ⊢
    have hx0 : (x != 0) = true := by simp; exact h0
    clear h hn hnc hc hwf hm hx
    go_enter Try.func44, Try.ntmps44
    go_wp2_with fail
    refine (HC.out _ (Below.refl _ _)).mono ?_
    rintro e w1 ⟨rfl, b1⟩
    have B1 := Lib.hid b1
    clear b1
    go_wp2_with fail
    go_ret
    exact ⟨rfl, B1.out⟩
end Go.Proofs.Ytpfahdogedchpaa
