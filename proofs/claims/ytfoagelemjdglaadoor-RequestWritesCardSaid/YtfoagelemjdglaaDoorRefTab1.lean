/- The document's answers on tables: weight, isField. -/
import Derived.Test.YtfoagelemjdglaaDoorGrpB
import Derived.Test.YtfoagelemjdglaaDoorGrpC
import Derived.Deep.LoopGhost
namespace Go.Proofs.YtfoagelemjdglaaDoor.P
set_option linter.unusedVariables false
theorem wtL_take {l : List Fld} {i : Nat} (h : i < l.length) : wtL (l.take (i + 1)) = wtL (l.take i) + szF (l.getD i fd0) := by
  rw [List.take_succ_eq_append_getElem h, wtL_app, wtL_cons, wtL_nil, List.getD_eq_getElem?_getD, List.getElem?_eq_getElem h]
  rfl
theorem wrap_add (a b : Int) : IntKind.i64.wrap (IntKind.i64.wrap a + b) = IntKind.i64.wrap (a + b) := by
  rw [IntKind.wrap_i64, IntKind.wrap_i64, IntKind.wrap_i64]; omega
theorem wrap_bd (a : Int) : -9223372036854775808 ≤ IntKind.i64.wrap a ∧ IntKind.i64.wrap a ≤ 9223372036854775807 := by rw [IntKind.wrap_i64]; omega
end Go.Proofs.YtfoagelemjdglaaDoor.P
namespace Go.Proofs.YtfoagelemjdglaaDoor
set_option linter.unusedVariables false
open Go.RowKit P

theorem bk2F {w : World} {b : Nat} {a0 a1 : Value} {T : TypeId} (h : w.heap[b]? = some (.cells #[a0, a1] T (0, 0))) : w.cell? ⟨b, 0, none⟩ = some a0 ∧ w.cell? ⟨b, 1, none⟩ = some a1 := ⟨bk_cell h 0, bk_cell h 1⟩
set_option maxHeartbeats 1000000 in
theorem weight_any (A : Option Addr) (n c : Nat) (l : List Fld) (w : World) (h : RowE FdE w w.heap.size A l) (hn : l.length = n) (hm : n ≤ 8796093022208) (hwf : ∀ x ∈ l, FdWf x) :
    Calls Tryd.prog 49 #[.slice A n c] w fun e w' => e = .returned (.int .i64 (IntKind.i64.wrap (wtL l))) ∧ Below w.heap.size w w' := by
  have HR := Lib.hid h
  have HN := Lib.hid hn
  have HW := Lib.hid hwf
  clear h hn hwf
  go_enter Tryd.func49, Tryd.ntmps49
  go_wp2_with fail
  go_loopg [3, 8] n (fun gq nv iv wr => ∃ (i : Nat) (a : Int), nv = .int .i64 a ∧ iv = .int .i64 i ∧ i + gq = n ∧ Hid (a = IntKind.i64.wrap (wtL (l.take i))) ∧ Hid (Below w.heap.size w wr))
  case atStart => exact ⟨0, 0, rfl, rfl, by omega, Lib.hid (by rw [List.take_zero, wtL_nil]; rfl), Lib.hid (Below.refl _ _)⟩
  case round =>
    obtain ⟨i, a, rfl, rfl, hig, HA, BK⟩ := hrel
    by_cases hlt : i < n
    · have hil : i < l.length := by rw [HN.out]; exact hlt
      obtain ⟨b, off, hA, hb, x0, x1⟩ := fd_cells HR.out hil
      have hmem : l.getD i fd0 ∈ l := by rw [List.getD_eq_getElem?_getD, List.getElem?_eq_getElem hil]; exact List.getElem_mem hil
      obtain ⟨_, _, m1, m2⟩ := HW.out _ hmem
      have HS := Lib.hid (wtL_take hil)
      obtain ⟨x, hx⟩ : ∃ x, l.getD i fd0 = x := ⟨_, rfl⟩
      rw [hx] at x0 x1 m1 m2 HS
      subst hA
      have y0 := (BK.out.cell (p := ⟨b, off + i * 2, none⟩) hb).trans x0
      have y1 := (BK.out.cell (p := ⟨b, off + i * 2 + 1, none⟩) hb).trans x1
      have z1 : (strOfNums x.name).size = x.name.length := strOfNums_size _
      have z2 : (strOfNums x.val).size = x.val.length := strOfNums_size _
      obtain ⟨S1, hS1⟩ : ∃ S, strOfNums x.name = S := ⟨_, rfl⟩
      obtain ⟨S2, hS2⟩ : ∃ S, strOfNums x.val = S := ⟨_, rfl⟩
      rw [hS1] at y0 z1
      rw [hS2] at y1 z2
      obtain ⟨p, hp⟩ : ∃ p, x.name.length = p := ⟨_, rfl⟩
      obtain ⟨q, hq⟩ : ∃ p, x.val.length = p := ⟨_, rfl⟩
      have hab := wrap_bd (wtL (l.take i))
      rw [← HA.out] at hab
      have HNX := Lib.hid (show IntKind.i64.wrap (a + ((p : Int) + (q : Int) + 32)) = IntKind.i64.wrap (wtL (l.take (i + 1))) by
        rw [HA.out, wrap_add, HS.out]
        unfold szF
        rw [hp, hq]
        congr 1)
      obtain ⟨a2, ha2⟩ : ∃ a2, IntKind.i64.wrap (a + ((p : Int) + (q : Int) + 32)) = a2 := ⟨_, rfl⟩
      rw [ha2] at HNX
      rw [hp] at m1 z1
      rw [hq] at m2 z2
      have hnk : (i : Int) < (n : Int) := by omega
      have B2 := Lib.hid (BK.out.alloc BK.out.size (.cells #[.string S1, .string S2] 54))
      clear x0 x1 hx hS1 hS2 hp hq hmem hab hil
      go_wp2_with fail
      go_roundg (gk - 1)
      case measure => omega
      case rel => exact ⟨i + 1, a2, by first | rfl | (rw [← ha2]; rfl), by first | rfl | go_num, by omega, HNX, B2⟩
    · obtain rfl : i = n := by omega
      have hT := Lib.hid (show a = IntKind.i64.wrap (wtL l) by rw [HA.out, List.take_of_length_le (by rw [HN.out]; omega)])
      go_wp2_with fail
      go_ret
      exact ⟨by rw [← hT.out]; rfl, BK.out⟩
theorem okFd_iff (x : Fld) : decide (okFd x) = (upB2 ((x.name.length : Int) - 1) 19 && decide ((x.val.length : Int) ≤ 40)) := by
  by_cases h : okFd x
  · rw [decide_eq_true h]
    unfold okFd at h
    rw [upB2_yes (by omega) (by omega)]
    simp
    omega
  · rw [decide_eq_false h]
    unfold okFd at h
    by_cases q : x.val.length ≤ 40
    · rw [upB2_no (by omega)]
      rfl
    · have : decide ((x.val.length : Int) ≤ 40) = false := by simp; omega
      rw [this, Bool.and_false]
theorem isField_any (x : Fld) (hw : FdWf x) (w : World) :
    Calls Tryd.prog 45 #[fdV x] w fun e w' => e = .returned (.bool (decide (okFd x))) ∧ Below w.heap.size w w' := by
  obtain ⟨_, _, m1, m2⟩ := hw
  have z1 : (strOfNums x.name).size = x.name.length := strOfNums_size _
  have z2 : (strOfNums x.val).size = x.val.length := strOfNums_size _
  rw [okFd_iff]
  unfold fdV
  obtain ⟨S1, hS1⟩ : ∃ S, strOfNums x.name = S := ⟨_, rfl⟩
  obtain ⟨S2, hS2⟩ : ∃ S, strOfNums x.val = S := ⟨_, rfl⟩
  rw [hS1] at z1 ⊢
  rw [hS2] at z2 ⊢
  obtain ⟨p, hp⟩ : ∃ p, x.name.length = p := ⟨_, rfl⟩
  obtain ⟨q, hq⟩ : ∃ p, x.val.length = p := ⟨_, rfl⟩
  rw [hp] at z1 m1 ⊢
  rw [hq] at z2 m2 ⊢
  have B2 := Lib.hid ((Below.refl w.heap.size w).alloc (Nat.le_refl _) (.cells #[.string S1, .string S2] 54))
  clear hS1 hS2 hp hq
  cases h : upB2 ((p : Int) - 1) 19 with
  | false =>
    go_enter Tryd.func45, Tryd.ntmps45
    go_wp2_with (go_at_call 73; refine (upTo_any _ _ _).mono ?_; rintro e w' ⟨rfl, rfl⟩)
    go_ret
    exact ⟨by rfl, B2.out⟩
  | true =>
    go_enter Tryd.func45, Tryd.ntmps45
    go_wp2_with (go_at_call 73; refine (upTo_any _ _ _).mono ?_; rintro e w' ⟨rfl, rfl⟩)
    go_ret
    exact ⟨by simp, B2.out⟩
end Go.Proofs.YtfoagelemjdglaaDoor
