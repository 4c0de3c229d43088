/- The exact texts' sameFields, sameTable: two that read the same are the same. -/
import Derived.Test.YtlddbojfikkhfaaRefTab5
import Derived.BigQuiet
namespace Go.Proofs.Ytlddbojfikkhfaa
set_option linter.unusedVariables false
open Go.RowKit P

set_option maxHeartbeats 1000000 in
theorem lsameFd_eq (A A' : Option Addr) (n c c' : Nat) (l : List Fld) (w : World) (h : RowE FdE w w.heap.size A l) (h' : RowE FdE w w.heap.size A' l) (hn : l.length = n) (hm : n ≤ 8796093022208) :
    Calls Try.prog 15 #[.slice A n c, .slice A' n c'] w fun e w' => e = .returned (.bool true) ∧ Below w.heap.size w w' := by
  have HR := Lib.hid h
  have HR' := Lib.hid h'
  have HN := Lib.hid hn
  clear h h' hn
  go_enter Try.func15, Try.ntmps15
  go_wp2_with fail
  go_loopg [5, 6] n (fun gq bv iv wr => ∃ i : Nat, bv = .bool true ∧ iv = .int .i64 i ∧ i + gq = n ∧ Hid (Below w.heap.size w wr))
  case atStart => exact ⟨0, rfl, rfl, by omega, Lib.hid (Below.refl _ _)⟩
  case round =>
    obtain ⟨i, rfl, rfl, hig, BK⟩ := hrel
    by_cases hlt : i < n
    · have hil : i < l.length := by rw [HN.out]; exact hlt
      obtain ⟨b, off, hA, hbl, x0, x1⟩ := fd_cells HR.out hil
      obtain ⟨b', off', hA', hbl', x0', x1'⟩ := fd_cells HR'.out hil
      obtain ⟨y, hy⟩ : ∃ y, l.getD i fd0 = y := ⟨_, rfl⟩
      rw [hy] at x0 x1 x0' x1'
      obtain ⟨S1, hS1⟩ : ∃ S, strOfNums y.name = S := ⟨_, rfl⟩
      obtain ⟨S2, hS2⟩ : ∃ S, strOfNums y.val = S := ⟨_, rfl⟩
      rw [hS1] at x0 x0'
      rw [hS2] at x1 x1'
      subst hA hA'
      have y0 := (BK.out.cell (p := ⟨b, off + i * 2, none⟩) hbl).trans x0
      have y1 := (BK.out.cell (p := ⟨b, off + i * 2 + 1, none⟩) hbl).trans x1
      have y0' := (BK.out.cell (p := ⟨b', off' + i * 2, none⟩) hbl').trans x0'
      have y1' := (BK.out.cell (p := ⟨b', off' + i * 2 + 1, none⟩) hbl').trans x1'
      have hnk : (i : Int) < (n : Int) := by omega
      clear x0 x1 x0' x1' hy hS1 hS2 hil
      go_wp2_with fail
      go_quiet (fail)
      rename_i nq
      have B2 := Lib.hid (Go.below_drewN BK.out nq)
      obtain ⟨w2, hw2⟩ : ∃ w2, wr.drewN nq = w2 := ⟨_, rfl⟩
      rw [hw2] at B2 ⊢
      clear hw2 y0 y1 y0' y1'
      go_wp2_with fail
      go_roundg (gk - 1)
      case measure => omega
      case rel => exact ⟨i + 1, rfl, by first | rfl | go_num, by omega, B2⟩
    · obtain rfl : i = n := by omega
      go_wp2_with fail
      go_ret
      exact ⟨rfl, BK.out⟩
set_option maxHeartbeats 1000000 in
theorem lsameTb_eq (v v' : Value) (t : Tb) (w : World) (h : TbVal w w.heap.size v t) (h' : TbVal w w.heap.size v' t) (hm : t.rows.length ≤ 8796093022208) :
    Calls Try.prog 14 #[v, v'] w fun e w' => e = .returned (.bool true) ∧ Below w.heap.size w w' := by
  obtain ⟨sv, rfl, hs⟩ := h.ex
  obtain ⟨A, c, rfl, _, _, hr⟩ := hs.ex
  obtain ⟨sv', rfl, hs'⟩ := h'.ex
  obtain ⟨A', c', rfl, _, _, hr'⟩ := hs'.ex
  obtain ⟨g0, g1, g2⟩ := two_bk w #[.int .i64 t.room, .int .i64 t.put, .slice A t.rows.length c] #[.int .i64 t.room, .int .i64 t.put, .slice A' t.rows.length c'] 24 24
  have B0 := Lib.hid g2
  have R0 := Lib.hid (hr.on g2)
  have R1 := Lib.hid (hr'.on g2)
  obtain ⟨q0, q1, q2⟩ := bk3T g0
  obtain ⟨z0, z1, z2⟩ := bk3T g1
  clear h h' hs hs' hr hr' g0 g1 g2
  go_enter Try.func14, Try.ntmps14
  go_wp2_with fail
  refine (lsameFd_eq _ _ _ _ _ _ _ R0.out R1.out rfl hm).mono ?_
  rintro e w1 ⟨rfl, b1⟩
  have B1 := Lib.hid (B0.out.trans (b1.mono B0.out.size))
  clear b1 q0 q1 q2 z0 z1 z2
  go_wp2_with fail
  go_ret
  exact ⟨by first | rfl | simp, B1.out⟩
end Go.Proofs.Ytlddbojfikkhfaa
