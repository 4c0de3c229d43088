/- The project's looking up of a field among those that all know: Index, Contains, IndexFunc. -/
import Derived.Test.YtpfahdogedchpaaDoorFdP1
import Derived.BigQuiet
namespace Go.Proofs.YtpfahdogedchpaaDoor
set_option linter.unusedVariables false
open Go.RowKit P

set_option maxHeartbeats 2000000 in
theorem idxSame_any (A : Option Addr) (n c : Nat) (l : List Fld) (f : Fld) (hf : FdWf f) (w : World) (h : RowE FdE w w.heap.size A l) (hn : l.length = n) (hwf : ∀ x ∈ l, FdWf x) (hm : n ≤ 8796093022208) :
    Calls Tryd.prog 80 #[.slice A n c, fdV f] w fun e w' => e = .returned (.int .i64 (firstP (fun x => decide (x = f)) l)) ∧ Below w.heap.size w w' := by
  have HAT := Lib.hid (fun i h1 h2 h3 => firstP_at (p := fun x => decide (x = f)) (l := l) (i := i) h1 h2 h3)
  have HNO := Lib.hid (fun h => firstP_no (p := fun x => decide (x = f)) (l := l) h)
  have HEQ := Lib.hid (fun x (hx : FdWf x) => And.intro (fl_eqB hf.1 hx.1) (fl_eqB hf.2.1 hx.2.1))
  have HR := Lib.hid h
  have HN := Lib.hid hn
  have HW := Lib.hid hwf
  obtain ⟨rz, hrz⟩ : ∃ rz, firstP (fun x => decide (x = f)) l = rz := ⟨_, rfl⟩
  rw [hrz] at HAT HNO ⊢
  unfold fdV
  obtain ⟨T1, hT1⟩ : ∃ S, strOfNums f.name = S := ⟨_, rfl⟩
  obtain ⟨T2, hT2⟩ : ∃ S, strOfNums f.val = S := ⟨_, rfl⟩
  rw [hT1, hT2] at HEQ ⊢
  have B0 := Lib.hid ((Below.refl w.heap.size w).alloc (Nat.le_refl _) (.cells #[.string T1, .string T2] 54))
  have G0 := Lib.hid (heap_alloc_new w (.cells #[.string T1, .string T2] 54))
  clear h hn hwf hrz hf hT1 hT2
  go_enter Tryd.func80, Tryd.ntmps80
  go_wp2_with fail
  go_loopg [8] n (fun gq iv wr => ∃ i : Nat, iv = .int .i64 i ∧ i + gq = n ∧ Hid (∀ j, j < i → decide (l.getD j fd0 = f) = false) ∧ Hid (Below w.heap.size w wr) ∧ Hid (wr.heap[w.heap.size]? = some (.cells #[.string T1, .string T2] 54 (0, 0))))
  case atStart => exact ⟨0, rfl, by omega, Lib.hid (fun j hj => by omega), B0, G0⟩
  case round =>
    obtain ⟨i, rfl, hig, HP, BK, GK⟩ := hrel
    by_cases hlt : i < n
    · have hil : i < l.length := by rw [HN.out]; exact hlt
      obtain ⟨b, off, hA, hbl, x0, x1⟩ := fd_cells HR.out hil
      have hmem : l.getD i fd0 ∈ l := by rw [List.getD_eq_getElem?_getD, List.getElem?_eq_getElem hil]; exact List.getElem_mem hil
      have HE := Lib.hid (HEQ.out _ (HW.out _ hmem))
      have HHIT := Lib.hid (fun k => HAT.out i hil k HP.out)
      have HMISS := Lib.hid (fun (k : decide (l.getD i fd0 = f) = false) j (hj : j < i + 1) => (by
        rcases Nat.lt_or_ge j i with q | q
        · exact HP.out j q
        · obtain rfl : j = i := by omega
          exact k : decide (l.getD j fd0 = f) = false))
      obtain ⟨x, hx⟩ : ∃ x, l.getD i fd0 = x := ⟨_, rfl⟩
      rw [hx] at x0 x1 HE HHIT HMISS
      obtain ⟨S1, hS1⟩ : ∃ S, strOfNums x.name = S := ⟨_, rfl⟩
      obtain ⟨S2, hS2⟩ : ∃ S, strOfNums x.val = S := ⟨_, rfl⟩
      rw [hS1] at x0 HE
      rw [hS2] at x1 HE
      subst hA
      have y0 := (BK.out.cell (p := ⟨b, off + i * 2, none⟩) hbl).trans x0
      have y1 := (BK.out.cell (p := ⟨b, off + i * 2 + 1, none⟩) hbl).trans x1
      have hnk : (i : Int) < (n : Int) := by omega
      obtain ⟨u0, u1⟩ := bk2F GK.out
      clear x0 x1 hx hS1 hS2 hmem hil hbl
      by_cases hq : x = f
      · have g1 : (T1.toList == S1.toList) = true := by rw [HE.out.1, decide_eq_true (congrArg Fld.name hq).symm]
        have g2 : (T2.toList == S2.toList) = true := by rw [HE.out.2, decide_eq_true (congrArg Fld.val hq).symm]
        have HX := Lib.hid (HHIT.out (decide_eq_true hq))
        clear hq HHIT HMISS
        go_wp2_with fail
        go_quiet (fail)
        rename_i nq
        have B2 := Lib.hid (Go.below_drewN BK.out nq)
        go_wp2_with fail
        go_ret
        exact ⟨by rw [HX.out]; rfl, B2.out⟩
      · have hnn : (T1.toList == S1.toList) = false ∨ ((T1.toList == S1.toList) = true ∧ (T2.toList == S2.toList) = false) := by
          rw [HE.out.1, HE.out.2, decide_eq_true_iff, decide_eq_false_iff_not, decide_eq_false_iff_not]
          by_cases a : f.name = x.name
          · exact .inr ⟨a, fun k => hq (fld_iff.2 ⟨a.symm, k.symm⟩)⟩
          · exact .inl a
        have HX := Lib.hid (HMISS.out (decide_eq_false hq))
        clear hq HHIT HMISS
        rcases hnn with g1 | ⟨g1, g2⟩
        all_goals
          go_wp2_with fail
          go_quiet (fail)
          rename_i nq
          have B2 := Lib.hid (Go.below_drewN BK.out nq)
          have G2 := Lib.hid (show (wr.drewN nq).heap[w.heap.size]? = _ from ((Go.below_drewN (Below.refl wr.heap.size wr) nq).block _ (lt_of_block GK.out)).trans GK.out)
          obtain ⟨w2, hw2⟩ : ∃ w2, wr.drewN nq = w2 := ⟨_, rfl⟩
          rw [hw2] at B2 G2 ⊢
          clear hw2 y0 y1 u0 u1
          go_wp2_with fail
          go_roundg (gk - 1)
          case measure => omega
          case rel => exact ⟨i + 1, by first | rfl | go_num, by omega, HX, B2, G2⟩
    · obtain rfl : i = n := by omega
      have HE := Lib.hid (HNO.out (by rw [HN.out]; exact HP.out))
      go_wp2_with fail
      go_ret
      exact ⟨by rw [HE.out]; rfl, BK.out⟩
theorem hasSame_any (A : Option Addr) (n c : Nat) (l : List Fld) (f : Fld) (hf : FdWf f) (w : World) (h : RowE FdE w w.heap.size A l) (hn : l.length = n) (hwf : ∀ x ∈ l, FdWf x) (hm : n ≤ 8796093022208) :
    Calls Tryd.prog 62 #[.slice A n c, fdV f] w fun e w' => e = .returned (.bool (decide (0 ≤ firstP (fun x => decide (x = f)) l))) ∧ Below w.heap.size w w' := by
  have H := Lib.hid (fun w' (hb : Below w.heap.size w w') => idxSame_any A n c l f hf w' (h.on hb) hn hwf hm)
  obtain ⟨rz, hrz⟩ : ∃ rz, firstP (fun x => decide (x = f)) l = rz := ⟨_, rfl⟩
  rw [hrz] at H ⊢
  unfold fdV at H ⊢
  obtain ⟨T1, hT1⟩ : ∃ S, strOfNums f.name = S := ⟨_, rfl⟩
  obtain ⟨T2, hT2⟩ : ∃ S, strOfNums f.val = S := ⟨_, rfl⟩
  rw [hT1, hT2] at H ⊢
  have B0 := Lib.hid ((Below.refl w.heap.size w).alloc (Nat.le_refl _) (.cells #[.string T1, .string T2] 54))
  clear h hn hwf hrz hf hT1 hT2
  go_enter Tryd.func62, Tryd.ntmps62
  go_wp2_with fail
  refine (H.out _ B0.out).mono ?_
  rintro e w4 ⟨rfl, b4⟩
  have B4 := Lib.hid (B0.out.trans (b4.mono B0.out.size))
  clear b4
  go_wp2_with fail
  go_ret
  exact ⟨by rfl, B4.out⟩
theorem lineC_any (x : Fld) (f : Fld) (hx : FdWf x) (hf : FdWf f) (k : Nat) (w : World) (hk : w.heap[k]? = some (.cells #[.string (strOfNums f.name), .string (strOfNums f.val)] 54 (0, 0))) :
    Calls Tryd.prog 89 #[fdV x, .pointer (some ⟨k, 0, none⟩)] w fun e w' => e = .returned (.bool (decide (x.name = f.name))) ∧ Below w.heap.size w w' := by
  have HE := fl_eqB hx.1 hf.1
  unfold fdV
  obtain ⟨T1, hT1⟩ : ∃ S, strOfNums f.name = S := ⟨_, rfl⟩
  obtain ⟨T2, hT2⟩ : ∃ S, strOfNums f.val = S := ⟨_, rfl⟩
  obtain ⟨S1, hS1⟩ : ∃ S, strOfNums x.name = S := ⟨_, rfl⟩
  obtain ⟨S2, hS2⟩ : ∃ S, strOfNums x.val = S := ⟨_, rfl⟩
  rw [hT1, hT2] at hk
  rw [hT1, hS1] at HE
  rw [hS1, hS2, ← HE]
  have B0 := Lib.hid ((Below.refl w.heap.size w).alloc (Nat.le_refl _) (.cells #[.string S1, .string S2] 54))
  obtain ⟨u0, u1⟩ := bk2F ((Below.heap_alloc w (.cells #[.string S1, .string S2] 54) k (lt_of_block hk)).trans hk)
  clear hT1 hT2 hS1 hS2 HE hf hx hk
  go_enter Tryd.func89, Tryd.ntmps89
  go_wp2_with fail
  go_ret
  exact ⟨by rfl, B0.out⟩
set_option maxHeartbeats 2000000 in
theorem idxNamed_any (A : Option Addr) (n c : Nat) (l : List Fld) (f : Fld) (hf : FdWf f) (kb : Nat) (w : World) (h : RowE FdE w w.heap.size A l) (hn : l.length = n) (hwf : ∀ x ∈ l, FdWf x) (hm : n ≤ 8796093022208) (hk : w.heap[kb]? = some (.cells #[.string (strOfNums f.name), .string (strOfNums f.val)] 54 (0, 0))) :
    Calls Tryd.prog 38 #[.slice A n c, .func (.func 89) #[] #[.pointer (some ⟨kb, 0, none⟩)]] w fun e w' => e = .returned (.int .i64 (firstP (fun x => decide (x.name = f.name)) l)) ∧ Below w.heap.size w w' := by
  have HAT := Lib.hid (fun i h1 h2 h3 => firstP_at (p := fun x => decide (x.name = f.name)) (l := l) (i := i) h1 h2 h3)
  have HNO := Lib.hid (fun h => firstP_no (p := fun x => decide (x.name = f.name)) (l := l) h)
  have HLC := Lib.hid (fun x (hx : FdWf x) w' (hb : Below w.heap.size w w') => lineC_any x f hx hf kb w' ((hb.block _ (lt_of_block hk)).trans hk))
  have HR := Lib.hid h
  have HN := Lib.hid hn
  have HW := Lib.hid hwf
  obtain ⟨rz, hrz⟩ : ∃ rz, firstP (fun x => decide (x.name = f.name)) l = rz := ⟨_, rfl⟩
  rw [hrz] at HAT HNO ⊢
  clear h hn hwf hrz hk
  go_enter Tryd.func38, Tryd.ntmps38
  go_wp2_with fail
  go_loopg [8] n (fun gq iv wr => ∃ i : Nat, iv = .int .i64 i ∧ i + gq = n ∧ Hid (∀ j, j < i → decide ((l.getD j fd0).name = f.name) = false) ∧ Hid (Below w.heap.size w wr))
  case atStart => exact ⟨0, rfl, by omega, Lib.hid (fun j hj => by omega), Lib.hid (Below.refl _ _)⟩
  case round =>
    obtain ⟨i, rfl, hig, HP, BK⟩ := hrel
    by_cases hlt : i < n
    · have hil : i < l.length := by rw [HN.out]; exact hlt
      obtain ⟨b, off, hA, hbl, x0, x1⟩ := fd_cells HR.out hil
      have hmem : l.getD i fd0 ∈ l := by rw [List.getD_eq_getElem?_getD, List.getElem?_eq_getElem hil]; exact List.getElem_mem hil
      have HIF := Lib.hid (HLC.out _ (HW.out _ hmem))
      have HHIT := Lib.hid (fun k => HAT.out i hil k HP.out)
      have HMISS := Lib.hid (fun (k : decide ((l.getD i fd0).name = f.name) = false) j (hj : j < i + 1) => (by
        rcases Nat.lt_or_ge j i with q | q
        · exact HP.out j q
        · obtain rfl : j = i := by omega
          exact k : decide ((l.getD j fd0).name = f.name) = false))
      obtain ⟨x, hx⟩ : ∃ x, l.getD i fd0 = x := ⟨_, rfl⟩
      rw [hx] at x0 x1 HIF HHIT HMISS
      unfold fdV at HIF
      obtain ⟨S1, hS1⟩ : ∃ S, strOfNums x.name = S := ⟨_, rfl⟩
      obtain ⟨S2, hS2⟩ : ∃ S, strOfNums x.val = S := ⟨_, rfl⟩
      rw [hS1] at x0 HIF
      rw [hS2] at x1 HIF
      subst hA
      have y0 := (BK.out.cell (p := ⟨b, off + i * 2, none⟩) hbl).trans x0
      have y1 := (BK.out.cell (p := ⟨b, off + i * 2 + 1, none⟩) hbl).trans x1
      have hnk : (i : Int) < (n : Int) := by omega
      clear x0 x1 hx hS1 hS2 hmem hil hbl
      by_cases ok : x.name = f.name
      · rw [decide_eq_true ok] at HIF
        have HE := Lib.hid (HHIT.out (decide_eq_true ok))
        clear ok HHIT HMISS
        go_wp2_with fail
        refine (HIF.out _ BK.out).mono ?_
        rintro e w4 ⟨rfl, b4⟩
        have B4 := Lib.hid (BK.out.trans (b4.mono BK.out.size))
        clear b4 y0 y1
        go_wp2_with fail
        go_ret
        exact ⟨by rw [HE.out]; rfl, B4.out⟩
      · rw [decide_eq_false ok] at HIF
        have HP1 := Lib.hid (HMISS.out (decide_eq_false ok))
        clear ok HHIT HMISS
        go_wp2_with fail
        refine (HIF.out _ BK.out).mono ?_
        rintro e w4 ⟨rfl, b4⟩
        have B4 := Lib.hid (BK.out.trans (b4.mono BK.out.size))
        clear b4 y0 y1
        go_wp2_with fail
        go_roundg (gk - 1)
        case measure => omega
        case rel => exact ⟨i + 1, by first | rfl | go_num, by omega, HP1, B4⟩
    · obtain rfl : i = n := by omega
      have HE := Lib.hid (HNO.out (by rw [HN.out]; exact HP.out))
      go_wp2_with fail
      go_ret
      exact ⟨by rw [HE.out]; rfl, BK.out⟩
end Go.Proofs.YtpfahdogedchpaaDoor
