/- Several texts in one. -/
import Derived.Test.YtpfahdogedchpaaGrpB
import Derived.Test.YtpfahdogedchpaaGrpC
import Derived.Deep.LoopGhost
import Derived.Deep.CutRange
/- The document's answers on tables: weight, isField. -/
namespace Go.Proofs.Ytpfahdogedchpaa.P
set_option linter.unusedVariables false
theorem wtL_take {l : List Fld} {i : Nat} (h : i < l.length) : wtL (l.take (i + 1)) = wtL (l.take i) + szF (l.getD i fd0) := by
  rw [List.take_succ_eq_append_getElem h, wtL_app, wtL_cons, wtL_nil, List.getD_eq_getElem?_getD, List.getElem?_eq_getElem h]
  rfl
theorem wrap_add (a b : Int) : IntKind.i64.wrap (IntKind.i64.wrap a + b) = IntKind.i64.wrap (a + b) := by
  rw [IntKind.wrap_i64, IntKind.wrap_i64, IntKind.wrap_i64]; omega
theorem wrap_bd (a : Int) : -9223372036854775808 ≤ IntKind.i64.wrap a ∧ IntKind.i64.wrap a ≤ 9223372036854775807 := by rw [IntKind.wrap_i64]; omega
end Go.Proofs.Ytpfahdogedchpaa.P
namespace Go.Proofs.Ytpfahdogedchpaa
set_option linter.unusedVariables false
open Go.RowKit P

theorem bk2F {w : World} {b : Nat} {a0 a1 : Value} {T : TypeId} (h : w.heap[b]? = some (.cells #[a0, a1] T (0, 0))) : w.cell? ⟨b, 0, none⟩ = some a0 ∧ w.cell? ⟨b, 1, none⟩ = some a1 := ⟨bk_cell h 0, bk_cell h 1⟩
set_option maxHeartbeats 1000000 in
theorem weight_any (A : Option Addr) (n c : Nat) (l : List Fld) (w : World) (h : RowE FdE w w.heap.size A l) (hn : l.length = n) (hm : n ≤ 8796093022208) (hwf : ∀ x ∈ l, FdWf x) :
    Calls Try.prog 45 #[.slice A n c] w fun e w' => e = .returned (.int .i64 (IntKind.i64.wrap (wtL l))) ∧ Below w.heap.size w w' := by
  have HR := Lib.hid h
  have HN := Lib.hid hn
  have HW := Lib.hid hwf
  clear h hn hwf
  go_enter Try.func45, Try.ntmps45
  go_wp2_with fail
  go_loopg [3, 8] n (fun gq nv iv wr => ∃ (i : Nat) (a : Int), nv = .int .i64 a ∧ iv = .int .i64 i ∧ i + gq = n ∧ Hid (a = IntKind.i64.wrap (wtL (l.take i))) ∧ Hid (Below w.heap.size w wr))
  case atStart => exact ⟨0, 0, rfl, rfl, by omega, Lib.hid (by rw [List.take_zero, wtL_nil]; rfl), Lib.hid (Below.refl _ _)⟩
  case round =>
    obtain ⟨i, a, rfl, rfl, hig, HA, BK⟩ := hrel
    by_cases hlt : i < n
    · have hil : i < l.length := by rw [HN.out]; exact hlt
      obtain ⟨b, off, hA, hb, x0, x1⟩ := fd_cells HR.out hil
      have hmem : l.getD i fd0 ∈ l := by rw [List.getD_eq_getElem?_getD, List.getElem?_eq_getElem hil]; exact List.getElem_mem hil
      obtain ⟨_, _, m1, m2⟩ := HW.out _ hmem
      have HS := Lib.hid (wtL_take hil)
      obtain ⟨x, hx⟩ : ∃ x, l.getD i fd0 = x := ⟨_, rfl⟩
      rw [hx] at x0 x1 m1 m2 HS
      subst hA
      have y0 := (BK.out.cell (p := ⟨b, off + i * 2, none⟩) hb).trans x0
      have y1 := (BK.out.cell (p := ⟨b, off + i * 2 + 1, none⟩) hb).trans x1
      have z1 : (strOfNums x.name).size = x.name.length := strOfNums_size _
      have z2 : (strOfNums x.val).size = x.val.length := strOfNums_size _
      obtain ⟨S1, hS1⟩ : ∃ S, strOfNums x.name = S := ⟨_, rfl⟩
      obtain ⟨S2, hS2⟩ : ∃ S, strOfNums x.val = S := ⟨_, rfl⟩
      rw [hS1] at y0 z1
      rw [hS2] at y1 z2
      obtain ⟨p, hp⟩ : ∃ p, x.name.length = p := ⟨_, rfl⟩
      obtain ⟨q, hq⟩ : ∃ p, x.val.length = p := ⟨_, rfl⟩
      have hab := wrap_bd (wtL (l.take i))
      rw [← HA.out] at hab
      have HNX := Lib.hid (show IntKind.i64.wrap (a + ((p : Int) + (q : Int) + 32)) = IntKind.i64.wrap (wtL (l.take (i + 1))) by
        rw [HA.out, wrap_add, HS.out]
        unfold szF
        rw [hp, hq]
        congr 1)
      obtain ⟨a2, ha2⟩ : ∃ a2, IntKind.i64.wrap (a + ((p : Int) + (q : Int) + 32)) = a2 := ⟨_, rfl⟩
      rw [ha2] at HNX
      rw [hp] at m1 z1
      rw [hq] at m2 z2
      have hnk : (i : Int) < (n : Int) := by omega
      have B2 := Lib.hid (BK.out.alloc BK.out.size (.cells #[.string S1, .string S2] 66))
      clear x0 x1 hx hS1 hS2 hp hq hmem hab hil
      go_wp2_with fail
      go_roundg (gk - 1)
      case measure => omega
      case rel => exact ⟨i + 1, a2, by first | rfl | (rw [← ha2]; rfl), by first | rfl | go_num, by omega, HNX, B2⟩
    · obtain rfl : i = n := by omega
      have hT := Lib.hid (show a = IntKind.i64.wrap (wtL l) by rw [HA.out, List.take_of_length_le (by rw [HN.out]; omega)])
      go_wp2_with fail
      go_ret
      exact ⟨by rw [← hT.out]; rfl, BK.out⟩
theorem okFd_iff (x : Fld) : decide (okFd x) = (upB2 ((x.name.length : Int) - 1) 19 && decide ((x.val.length : Int) ≤ 40)) := by
  by_cases h : okFd x
  · rw [decide_eq_true h]
    unfold okFd at h
    rw [upB2_yes (by omega) (by omega)]
    simp
    omega
  · rw [decide_eq_false h]
    unfold okFd at h
    by_cases q : x.val.length ≤ 40
    · rw [upB2_no (by omega)]
      rfl
    · have : decide ((x.val.length : Int) ≤ 40) = false := by simp; omega
      rw [this, Bool.and_false]
theorem isField_any (x : Fld) (hw : FdWf x) (w : World) :
    Calls Try.prog 46 #[fdV x] w fun e w' => e = .returned (.bool (decide (okFd x))) ∧ Below w.heap.size w w' := by
  obtain ⟨_, _, m1, m2⟩ := hw
  have z1 : (strOfNums x.name).size = x.name.length := strOfNums_size _
  have z2 : (strOfNums x.val).size = x.val.length := strOfNums_size _
  rw [okFd_iff]
  unfold fdV
  obtain ⟨S1, hS1⟩ : ∃ S, strOfNums x.name = S := ⟨_, rfl⟩
  obtain ⟨S2, hS2⟩ : ∃ S, strOfNums x.val = S := ⟨_, rfl⟩
  rw [hS1] at z1 ⊢
  rw [hS2] at z2 ⊢
  obtain ⟨p, hp⟩ : ∃ p, x.name.length = p := ⟨_, rfl⟩
  obtain ⟨q, hq⟩ : ∃ p, x.val.length = p := ⟨_, rfl⟩
  rw [hp] at z1 m1 ⊢
  rw [hq] at z2 m2 ⊢
  have B2 := Lib.hid ((Below.refl w.heap.size w).alloc (Nat.le_refl _) (.cells #[.string S1, .string S2] 66))
  clear hS1 hS2 hp hq
  cases h : upB2 ((p : Int) - 1) 19 with
  | false =>
    go_enter Try.func46, Try.ntmps46
    go_wp2_with (go_at_call 31; refine (upTo_any _ _ _).mono ?_; rintro e w' ⟨rfl, rfl⟩)
    go_ret
    exact ⟨by rfl, B2.out⟩
  | true =>
    go_enter Try.func46, Try.ntmps46
    go_wp2_with (go_at_call 31; refine (upTo_any _ _ _).mono ?_; rintro e w' ⟨rfl, rfl⟩)
    go_ret
    exact ⟨by simp, B2.out⟩
end Go.Proofs.Ytpfahdogedchpaa
/- The document's answers on tables: TableFault. -/
namespace Go.Proofs.Ytpfahdogedchpaa
set_option linter.unusedVariables false
open Go.RowKit P

theorem wt_ok {l : List Fld} (h : ∀ x ∈ l, okFd x) : wtL l ≤ 92 * l.length := by
  induction l with
  | nil => simp [wtL]
  | cons x l ih =>
    rw [wtL_cons, List.length_cons]
    have := ih fun y hy => h y (List.mem_cons_of_mem _ hy)
    have hx := h x (List.mem_cons_self ..)
    unfold okFd at hx
    unfold szF
    omega
/-- what the document asks ahead of the fields -/
def tbP (room put n wt : Int) : Bool := upB2 room 160 && upB2 put 4611686018427387903 && decide (n ≤ put) && decide (wt ≤ room)
theorem faultTb_ref (t : Tb) (hl : t.rows.length ≤ 8796093022208) : faultTb t = if tbP t.room t.put t.rows.length (IntKind.i64.wrap (wtL t.rows)) = true ∧ ∀ x ∈ t.rows, okFd x then 0 else 9 := by
  have key : okTb t ↔ tbP t.room t.put t.rows.length (IntKind.i64.wrap (wtL t.rows)) = true ∧ ∀ x ∈ t.rows, okFd x := by
    by_cases ha : ∀ x ∈ t.rows, okFd x
    · have hw := wt_ok ha
      have e : IntKind.i64.wrap (wtL t.rows : Int) = (wtL t.rows : Int) := by rw [IntKind.wrap_i64]; omega
      rw [e]
      unfold okTb tbP upB2
      simp only [Bool.and_eq_true, decide_eq_true_iff]
      constructor
      · rintro ⟨a, b, c, d, e⟩; exact ⟨⟨⟨⟨a, b⟩, c⟩, d⟩, e⟩
      · rintro ⟨⟨⟨⟨a, b⟩, c⟩, d⟩, e⟩; exact ⟨a, b, c, d, e⟩
    · exact ⟨fun h => absurd h.2.2.2.2 ha, fun h => absurd h.2 ha⟩
  unfold faultTb
  by_cases h : okTb t
  · rw [if_pos h, if_pos (key.1 h)]
  · rw [if_neg h, if_neg (fun k => h (key.2 k))]
theorem bk3T {w : World} {b : Nat} {a0 a1 a2 : Value} {T : TypeId} (h : w.heap[b]? = some (.cells #[a0, a1, a2] T (0, 0))) : w.cell? ⟨b, 0, none⟩ = some a0 ∧ w.cell? ⟨b, 1, none⟩ = some a1 ∧ w.cell? ⟨b, 2, none⟩ = some a2 := ⟨bk_cell h 0, bk_cell h 1, bk_cell h 2⟩
/-- so far all fields may be -/
def okPre (l : List Fld) (i : Nat) : Prop := ∀ x ∈ l.take i, okFd x
instance (l : List Fld) (i : Nat) : Decidable (okPre l i) := by unfold okPre; infer_instance
theorem okPre_step {l : List Fld} {i : Nat} (h : i < l.length) : okPre l (i + 1) ↔ okPre l i ∧ okFd (l.getD i fd0) := by
  unfold okPre
  rw [List.take_succ_eq_append_getElem h, List.getD_eq_getElem?_getD, List.getElem?_eq_getElem h]
  constructor
  · intro k; exact ⟨fun x hx => k x (List.mem_append_left _ hx), k _ (List.mem_append_right _ (by simp))⟩
  · rintro ⟨k1, k2⟩ x hx
    rcases List.mem_append.1 hx with hx | hx
    · exact k1 x hx
    · rw [List.mem_singleton.1 hx]; exact k2
set_option maxHeartbeats 2000000 in
theorem refTabF_any : TbChk Try.prog 38 := fun v t W hv hw => by
  obtain ⟨sv, rfl, hs⟩ := hv.ex
  obtain ⟨A, c, rfl, hlc, hcm, hr⟩ := hs.ex
  have hl := hw.len
  have HF := Lib.hid (faultTb_ref t hl)
  have HR := Lib.hid hr
  have HW := Lib.hid hw.rows
  have hwb := wrap_bd (wtL t.rows)
  have HWT := Lib.hid (fun w (hb : Below W.heap.size W w) => weight_any A t.rows.length c t.rows w (hr.on hb) rfl hl hw.rows)
  have HST := Lib.hid (fun i (h : i < t.rows.length) => okPre_step h)
  have HALL := Lib.hid (show (∀ x ∈ t.rows, okFd x) ↔ okPre t.rows t.rows.length by unfold okPre; rw [List.take_length])
  obtain ⟨R, hR⟩ : ∃ R, faultTb t = R := ⟨_, rfl⟩
  rw [hR] at HF ⊢
  obtain ⟨wt, hwt⟩ : ∃ wt, IntKind.i64.wrap (wtL t.rows : Int) = wt := ⟨_, rfl⟩
  rw [hwt] at HF HWT hwb
  have rb := hw.room
  have pb := hw.put
  obtain ⟨room, put, rows⟩ := t
  simp only at *
  obtain ⟨n, hn⟩ : ∃ n, rows.length = n := ⟨_, rfl⟩
  have HN := Lib.hid hn
  rw [hn] at HF HWT HST HALL hl hlc ⊢
  have B0 := Lib.hid ((Below.refl W.heap.size W).alloc (Nat.le_refl _) (.cells #[.int .i64 room, .int .i64 put, .slice A n c] 27))
  have F0 := Lib.hid (heap_alloc_new W (.cells #[.int .i64 room, .int .i64 put, .slice A n c] 27))
  clear hv hs hw hr hR hwt hn
  go_enter Try.func38, Try.ntmps38
  go_upto_region 1 with fail
  obtain ⟨V, hV⟩ : ∃ V, W.alloc (.cells #[.int .i64 room, .int .i64 put, .slice A n c] 27) = V := ⟨_, rfl⟩
  rw [hV] at B0 F0 ⊢
  clear hV
  go_cut [3] from 6 to 43 (fun s3 wx => s3 = .bool (tbP room put n wt) ∧ Hid (Below V.heap.size V wx))
  case first =>
    obtain ⟨q0, q1, q2⟩ := bk3T F0.out
    have z0 := Ext.cell q0
    have z1 := Ext.cell q1
    have z2 := Ext.cell q2
    cases u1 : upB2 room 160 with
    | false =>
      have U1 := Lib.hid (fun w => (upTo_any room 160 w).mono fun e w' h => by rw [u1] at h; exact h)
      have HP := Lib.hid (show tbP room put n wt = false by unfold tbP; rw [u1]; rfl)
      refine wp_region_ext (by kernel_rfl) (by kernel_rfl) ?_
      repeat (go_big_quiet_step (first | (go_at_call 31; with_reducible exact Ext.call_same (U1.out _))))
      refine wpQuiet_nil ?_
      intro w2 hb2
      go_wp2_with fail
      go_meet
      exact ⟨by rw [HP.out], Lib.hid hb2⟩
    | true =>
      have U1 := Lib.hid (fun w => (upTo_any room 160 w).mono fun e w' h => by rw [u1] at h; exact h)
      cases u2 : upB2 put 4611686018427387903 with
      | false =>
        have U2 := Lib.hid (fun w => (upTo_any put 4611686018427387903 w).mono fun e w' h => by rw [u2] at h; exact h)
        have HP := Lib.hid (show tbP room put n wt = false by unfold tbP; rw [u1, u2]; rfl)
        refine wp_region_ext (by kernel_rfl) (by kernel_rfl) ?_
        repeat (go_big_quiet_step (first | (go_at_call 31; with_reducible exact Ext.call_same (U1.out _)) | (go_at_call 31; with_reducible exact Ext.call_same (U2.out _)) | (go_at_call 45; exact Ext.call (HWT.out _ (B0.out.trans ((Ext.h _).mono B0.out.size))))))
        refine wpQuiet_nil ?_
        intro w2 hb2
        go_wp2_with fail
        go_meet
        exact ⟨by rw [HP.out], Lib.hid hb2⟩
      | true =>
        have U2 := Lib.hid (fun w => (upTo_any put 4611686018427387903 w).mono fun e w' h => by rw [u2] at h; exact h)
        cases d3 : decide ((n : Int) ≤ put) with
        | false =>
          have HP := Lib.hid (show tbP room put n wt = false by unfold tbP; rw [u1, u2, d3]; rfl)
          refine wp_region_ext (by kernel_rfl) (by kernel_rfl) ?_
          repeat (go_big_quiet_step (first | (go_at_call 31; with_reducible exact Ext.call_same (U1.out _)) | (go_at_call 31; with_reducible exact Ext.call_same (U2.out _)) | (go_at_call 45; exact Ext.call (HWT.out _ (B0.out.trans ((Ext.h _).mono B0.out.size))))))
          refine wpQuiet_nil ?_
          intro w2 hb2
          go_wp2_with fail
          go_meet
          exact ⟨by rw [HP.out], Lib.hid hb2⟩
        | true =>
          cases d4 : decide (wt ≤ room) with
          | false =>
            have HP := Lib.hid (show tbP room put n wt = false by unfold tbP; rw [u1, u2, d3, d4]; rfl)
            refine wp_region_ext (by kernel_rfl) (by kernel_rfl) ?_
            repeat (go_big_quiet_step (first | (go_at_call 31; with_reducible exact Ext.call_same (U1.out _)) | (go_at_call 31; with_reducible exact Ext.call_same (U2.out _)) | (go_at_call 45; exact Ext.call (HWT.out _ (B0.out.trans ((Ext.h _).mono B0.out.size))))))
            refine wpQuiet_nil ?_
            intro w2 hb2
            go_wp2_with fail
            go_meet
            exact ⟨by rw [HP.out], Lib.hid hb2⟩
          | true =>
            have HP := Lib.hid (show tbP room put n wt = true by unfold tbP; rw [u1, u2, d3, d4]; rfl)
            refine wp_region_ext (by kernel_rfl) (by kernel_rfl) ?_
            repeat (go_big_quiet_step (first | (go_at_call 31; with_reducible exact Ext.call_same (U1.out _)) | (go_at_call 31; with_reducible exact Ext.call_same (U2.out _)) | (go_at_call 45; exact Ext.call (HWT.out _ (B0.out.trans ((Ext.h _).mono B0.out.size))))))
            refine wpQuiet_nil ?_
            intro w2 hb2
            go_wp2_with fail
            go_meet
            exact ⟨by rw [HP.out], Lib.hid hb2⟩
  case rest =>
    obtain ⟨rfl, B1⟩ := hcut
    have F1 := Lib.hid ((B1.out.block _ (lt_of_block F0.out)).trans F0.out)
    have B2 := Lib.hid (B0.out.trans (B1.out.mono B0.out.size))
    obtain ⟨q0, q1, q2⟩ := bk3T F1.out
    obtain ⟨ok0, hok⟩ : ∃ b, tbP room put n wt = b := ⟨_, rfl⟩
    rw [hok] at HF ⊢
    clear hok B1 HWT
    go_wp2_with fail
    clear q0 q1 q2 F1 F0 B0
    go_loopg [3, 33] n (fun gq bv iv wr => ∃ (i : Nat) (b : Bool), bv = .bool b ∧ iv = .int .i64 i ∧ i + gq = n ∧ Hid (b = (ok0 && decide (okPre rows i))) ∧ Hid (Below W.heap.size W wr))
    case atStart => exact ⟨0, ok0, rfl, rfl, by omega, Lib.hid (by rw [decide_eq_true (show okPre rows 0 from fun x hx => by simp at hx), Bool.and_true]), B2⟩
    case round =>
      obtain ⟨i, b, rfl, rfl, hig, HB, BK⟩ := hrel
      by_cases hlt : i < n
      · have hil : i < rows.length := by rw [HN.out]; exact hlt
        obtain ⟨bb, off, hA, hb, x0, x1⟩ := fd_cells HR.out hil
        have hmem : rows.getD i fd0 ∈ rows := by rw [List.getD_eq_getElem?_getD, List.getElem?_eq_getElem hil]; exact List.getElem_mem hil
        have HS := Lib.hid (HST.out i hlt)
        have HIF := Lib.hid (fun w => isField_any _ (HW.out _ hmem) w)
        unfold fdV at HIF
        obtain ⟨x, hx⟩ : ∃ x, rows.getD i fd0 = x := ⟨_, rfl⟩
        rw [hx] at x0 x1 HS HIF
        subst hA
        have y0 := (BK.out.cell (p := ⟨bb, off + i * 2, none⟩) hb).trans x0
        have y1 := (BK.out.cell (p := ⟨bb, off + i * 2 + 1, none⟩) hb).trans x1
        obtain ⟨S1, hS1⟩ : ∃ S, strOfNums x.name = S := ⟨_, rfl⟩
        obtain ⟨S2, hS2⟩ : ∃ S, strOfNums x.val = S := ⟨_, rfl⟩
        rw [hS1] at y0 HIF
        rw [hS2] at y1 HIF
        obtain ⟨okx, hokx⟩ : ∃ b, decide (okFd x) = b := ⟨_, rfl⟩
        rw [hokx] at HIF
        have hnk : (i : Int) < (n : Int) := by omega
        have BA := Lib.hid (BK.out.alloc BK.out.size (.cells #[.string S1, .string S2] 66))
        clear x0 x1 hx hS1 hS2 hmem hil
        cases b with
        | false =>
          have HNX := Lib.hid (show false = (ok0 && decide (okPre rows (i + 1))) by
            have h := HB.out
            cases ok0 with
            | false => rfl
            | true =>
              rw [Bool.true_and] at h ⊢
              exact (decide_eq_false (fun k => by have := (HS.out.1 k).1; rw [decide_eq_true this] at h; cases h)).symm)
          clear HIF hokx
          go_wp2_with fail
          go_roundg (gk - 1)
          case measure => omega
          case rel => exact ⟨i + 1, false, rfl, by first | rfl | go_num, by omega, HNX, BA⟩
        | true =>
          have HNX := Lib.hid (show okx = (ok0 && decide (okPre rows (i + 1))) by
            have h := HB.out
            cases ok0 with
            | false => cases h
            | true =>
              rw [Bool.true_and] at h ⊢
              have hp : okPre rows i := of_decide_eq_true h.symm
              rw [← hokx]
              rw [Bool.eq_iff_iff, decide_eq_true_iff, decide_eq_true_iff]
              exact ⟨fun k => HS.out.2 ⟨hp, k⟩, fun k => (HS.out.1 k).2⟩)
          clear hokx
          go_wp2_with fail
          refine (HIF.out _).mono ?_
          rintro e w3 ⟨rfl, b3⟩
          have B3 := Lib.hid (BA.out.trans (b3.mono BA.out.size))
          clear b3
          go_wp2_with fail
          go_roundg (gk - 1)
          case measure => omega
          case rel => exact ⟨i + 1, okx, by first | rfl | simp, by first | rfl | go_num, by omega, HNX, B3⟩
      · obtain rfl : i = n := by omega
        have HE := Lib.hid (show R = if b = true then 0 else 9 by
          rw [HF.out, HB.out]
          congr 1
          rw [HALL.out, Bool.and_eq_true, decide_eq_true_iff])
        cases b with
        | false =>
          have HE0 := Lib.hid (HE.out.trans (if_neg (by decide)))
          go_wp2_with fail
          go_ret
          exact ⟨by rw [HE0.out]; rfl, BK.out⟩
        | true =>
          have HE0 := Lib.hid (HE.out.trans (if_pos rfl))
          go_wp2_with fail
          go_ret
          exact ⟨by rw [HE0.out]; rfl, BK.out⟩
end Go.Proofs.Ytpfahdogedchpaa
