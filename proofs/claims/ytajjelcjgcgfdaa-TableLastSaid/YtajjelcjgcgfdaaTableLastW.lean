/- The walk of TableLast. -/
import Derived.Test.YtajjelcjgcgfdaaTableStaysW
import Derived.Test.YtajjelcjgcgfdaaExt
namespace Go.Proofs.Ytajjelcjgcgfdaa
set_option linter.unusedVariables false
open Go.RowKit P

theorem putL_fits {room : Int} (fs : List Fld) : ∀ x ∈ putL room fs, (szF x : Int) ≤ room := by
  have key : ∀ (fs all : List Fld), (∀ x ∈ all, (szF x : Int) ≤ room) → ∀ x ∈ fs.foldl (putF room) all, (szF x : Int) ≤ room := by
    intro fs
    induction fs with
    | nil => intro all h x hx; exact h x hx
    | cons f fs ih =>
      intro all h
      refine ih _ ?_
      unfold putF
      split
      · exact h
      · intro x hx
        rcases List.mem_append.1 hx with hx | hx
        · exact h x hx
        · rw [List.mem_singleton.1 hx]; omega
  exact key fs [] (fun x hx => by cases hx)
set_option maxRecDepth 100000 in
set_option maxHeartbeats 4000000 in
theorem tableLast_walk (a0 : Int) (a1 : Option Addr) (n c : Nat) (rs : List RawT) (W : World) (hrow : RawRow W W.heap.size a1 rs) (hn : rs.length = n) (hnc : n ≤ c) (hc : c ≤ maxLen) (hbt : ∀ i, i < n → (rs.getD i raw0).text.size ≤ maxLen) :
    Calls Try.prog 7 #[.int .i64 a0, .slice a1 n c] W fun e w' => e = .returned (.bool true) ∧ Below W.heap.size W w' := by
  have HTO := Lib.hid (tableOf_any tinsN_any tsize_any a0 a1 n c rs W hrow hn hnc hc hbt)
  have HTT := Lib.hid (fun w => tableTells_core tins_any tget_any w)
  obtain ⟨room, hroom⟩ : ∃ room, 40 + a0 % 121 = room := ⟨_, rfl⟩
  have hrb : 0 ≤ room ∧ room ≤ 160 := by omega
  rw [hroom] at HTO
  clear hrow hbt hc hroom hn
  go_enter Try.func7, Try.ntmps7
  go_wp2_with fail
  refine HTO.out.mono ?_
  rintro e w1 ⟨all, At, Aa, ct, ca, hall, rfl, h1, h2, h3, h4, r1, r2, b1⟩
  obtain ⟨f1, f2, f3, f4, f5, f6⟩ := tabOf_facts hrb hall
  have HLO := Lib.hid (last_one (room := room) (all := all) (by rw [hall]; exact putL_fits _))
  have HLM := Lib.hid (last_more (room := room) (all := all))
  have HFY := Lib.hid f5
  have HAW := Lib.hid f2
  obtain ⟨L, hL⟩ : ∃ L, all.length = L := ⟨_, rfl⟩
  obtain ⟨M, hM⟩ : ∃ M, (young room all).length = M := ⟨_, rfl⟩
  have HLA := Lib.hid hL
  have HYL := Lib.hid hM
  rw [hL] at f1 f4 h3 HLO HLM ⊢
  rw [hM] at f4 h1 HLO HLM ⊢
  have X1 := Lib.hid ((Below.refl w1.heap.size w1).alloc (Nat.le_refl _) (.cells #[.int .i64 room, .int .i64 (L : Int), .slice At M ct] 24))
  have F1 := Lib.hid (heap_alloc_new w1 (.cells #[.int .i64 room, .int .i64 (L : Int), .slice At M ct] 24))
  have B1 := Lib.hid (b1.trans (X1.out.mono b1.size))
  have RT := Lib.hid r1
  have RA := Lib.hid r2
  clear hall r1 r2 b1 f2 f3 f5 hL hM
  obtain ⟨q0, q1, q2⟩ := bk3T F1.out
  go_wp2_with fail
  clear q0 q1 q2
  go_loopg [8, 22] M (fun gq sv iv wr => ∃ (i s : Nat), sv = .int .i64 s ∧ iv = .int .i64 i ∧ i + gq = M ∧ s ≤ 160 ∧ Hid (s = wtL ((young room all).take i)) ∧ Hid (Below (w1.alloc (.cells #[.int .i64 room, .int .i64 (L : Int), .slice At M ct] 24)).heap.size (w1.alloc (.cells #[.int .i64 room, .int .i64 (L : Int), .slice At M ct] 24)) wr))
  case atStart => exact ⟨0, 0, rfl, rfl, by omega, by omega, Lib.hid (by rw [List.take_zero, wtL_nil]), Lib.hid (Below.refl _ _)⟩
  case round =>
    obtain ⟨i, s, rfl, rfl, hig, hs0, HA, BK⟩ := hrel
    have Y3 := Lib.hid (X1.out.trans (BK.out.mono X1.out.size))
    have B3 := Lib.hid (B1.out.trans (BK.out.mono B1.out.size))
    by_cases hlt : i < M
    · have hil : i < (young room all).length := by rw [HYL.out]; exact hlt
      obtain ⟨b, off, hA, hbl, x0, x1⟩ := fd_cells RT.out hil
      have hmem : (young room all).getD i fd0 ∈ young room all := by rw [List.getD_eq_getElem?_getD, List.getElem?_eq_getElem hil]; exact List.getElem_mem hil
      have HST := Lib.hid (wtL_take hil)
      have HSI := Lib.hid (fun w => tsize_any _ w (HFY.out _ hmem))
      have hsum : wtL ((young room all).take (i + 1)) ≤ wtL (young room all) := by
        have := wtL_app ((young room all).take (i + 1)) ((young room all).drop (i + 1))
        rw [List.take_append_drop] at this
        omega
      obtain ⟨x, hx⟩ : ∃ x, (young room all).getD i fd0 = x := ⟨_, rfl⟩
      rw [hx] at x0 x1 HST HSI
      unfold fdV at HSI
      obtain ⟨T1, hT1⟩ : ∃ S, strOfNums x.name = S := ⟨_, rfl⟩
      obtain ⟨T2, hT2⟩ : ∃ S, strOfNums x.val = S := ⟨_, rfl⟩
      rw [hT1] at x0 HSI
      rw [hT2] at x1 HSI
      have hs1 : s + szF x ≤ 160 := by have := HA.out; have := HST.out; omega
      have HA1 := Lib.hid (show s + szF x = wtL ((young room all).take (i + 1)) by rw [HST.out, HA.out])
      obtain ⟨z, hz⟩ : ∃ z, szF x = z := ⟨_, rfl⟩
      rw [hz] at HSI hs1 HA1
      subst hA
      have y0 := (Y3.out.cell (p := ⟨b, off + i * 2, none⟩) hbl).trans x0
      have y1 := (Y3.out.cell (p := ⟨b, off + i * 2 + 1, none⟩) hbl).trans x1
      have BA := Lib.hid (BK.out.alloc BK.out.size (.cells #[.string T1, .string T2] 26))
      have hnk : (i : Int) < (M : Int) := by omega
      clear x0 x1 hx hT1 hT2 hmem hil hbl hz hsum
      go_wp2_with fail
      refine (HSI.out _).mono ?_
      rintro e w4 ⟨rfl, b4⟩
      have B4 := Lib.hid (BA.out.trans (b4.mono BA.out.size))
      clear b4 y0 y1
      go_wp2_with fail
      go_roundg (gk - 1)
      case measure => omega
      case rel => exact ⟨i + 1, s + z, by first | rfl | go_num, by first | rfl | go_num, by omega, hs1, HA1, B4⟩
    · obtain rfl : i = M := by omega
      have hsr : (s : Int) ≤ room := by
        have := HA.out
        rw [List.take_of_length_le (by rw [HYL.out]; exact Nat.le_refl _)] at this
        rw [this]; exact f6
      have F3 := Lib.hid ((BK.out.block _ (lt_of_block F1.out)).trans F1.out)
      have HSE := Lib.hid (show s = wtL (young room all) by have := HA.out; rwa [List.take_of_length_le (by rw [HYL.out]; exact Nat.le_refl _)] at this)
      obtain ⟨q0, q1, q2⟩ := bk3T F3.out
      by_cases c1 : L = i
      · subst c1
        have hLL : (L : Int) - (L : Int) = 0 := by omega
        by_cases c0 : L = 0
        · subst c0
          clear f6 hlt HLO HLM
          go_upto_region 9 with fail
          have z0 := Ext.cell q0
          have z1 := Ext.cell q1
          have z2 := Ext.cell q2
          clear q0 q1 q2
          refine wp_region_ext (by kernel_rfl) (by kernel_rfl) ?_
          repeat (go_big_quiet_step (first | (go_at_call 24; with_reducible exact Ext.call (HTT.out _))))
          refine wpQuiet_nil ?_
          intro w4 hb4
          have B4 := Lib.hid (B3.out.trans (hb4.mono B3.out.size))
          clear z0 z1 z2 hb4
          go_wp2_with fail
          go_ret
          exact ⟨by first | rfl | simp, B4.out⟩
        · have hL0 : (0 : Int) < (L : Int) := by omega
          have hL0n : 0 < L := by omega
          have hLb : ((L : Int) == 0) = false := by simp; omega
          clear f6 hlt HLO HLM
          go_upto_region 9 with fail
          have z0 := Ext.cell q0
          have z1 := Ext.cell q1
          have z2 := Ext.cell q2
          clear q0 q1 q2
          refine wp_region_ext (by kernel_rfl) (by kernel_rfl) ?_
          repeat (go_big_quiet_step (first | (go_at_call 24; with_reducible exact Ext.call (HTT.out _))))
          refine wpQuiet_nil ?_
          intro w4 hb4
          have B4 := Lib.hid (B3.out.trans (hb4.mono B3.out.size))
          clear z0 z1 z2 hb4
          go_wp2_with fail
          go_ret
          exact ⟨by first | rfl | simp, B4.out⟩
      · have hi0 := HLO.out (by omega)
        obtain ⟨j, hj⟩ : ∃ j : Nat, L - i = j + 1 := ⟨L - i - 1, by omega⟩
        have hjI : (L : Int) - (i : Int) = (j : Int) + 1 := by omega
        have hji : (j : Int) + 1 - 1 = (j : Int) := by omega
        have hjl : (j : Int) < (L : Int) := by omega
        have hj0 : (0 : Int) ≤ (j : Int) := by omega
        have hL0 : (0 : Int) < (L : Int) := by omega
        have hLb : ((L : Int) == 0) = false := by simp; omega
        have hjb : ((j : Int) + 1 == 0) = false := by simp; omega
        have hjp : (0 : Int) ≤ (j : Int) + 1 := by omega
        have hiI : (0 : Int) < (i : Int) := by omega
        have hmo := HLM.out (by omega)
        rw [hj, show j + 1 - 1 = j by omega, ← HSE.out] at hmo
        have hal : j < all.length := by rw [HLA.out]; omega
        obtain ⟨b, off, hA, hbl, x0, x1⟩ := fd_cells RA.out (i := j) hal
        have hmem : all.getD j fd0 ∈ all := by rw [List.getD_eq_getElem?_getD, List.getElem?_eq_getElem hal]; exact List.getElem_mem hal
        have HSJ := Lib.hid (fun w => tsize_any _ w (HAW.out _ hmem).2)
        have hsj : szF (all.getD j fd0) ≤ 92 := by have := (HAW.out _ hmem).1; unfold okFd at this; unfold szF; omega
        obtain ⟨x, hx⟩ : ∃ x, all.getD j fd0 = x := ⟨_, rfl⟩
        rw [hx] at x0 x1 HSJ hsj hmo
        unfold fdV at HSJ
        obtain ⟨T1, hT1⟩ : ∃ S, strOfNums x.name = S := ⟨_, rfl⟩
        obtain ⟨T2, hT2⟩ : ∃ S, strOfNums x.val = S := ⟨_, rfl⟩
        rw [hT1] at x0 HSJ
        rw [hT2] at x1 HSJ
        obtain ⟨z, hz⟩ : ∃ z, szF x = z := ⟨_, rfl⟩
        rw [hz] at HSJ hsj hmo
        subst hA
        have y0 := (Y3.out.cell (p := ⟨b, off + j * 2, none⟩) hbl).trans x0
        have y1 := (Y3.out.cell (p := ⟨b, off + j * 2 + 1, none⟩) hbl).trans x1
        have hgt : decide (room < (s : Int) + (z : Int)) = true := by simp; omega
        clear f6 hlt HLO HLM hx hT1 hT2 hmem hal hz x0 x1
        go_upto_region 9 with fail
        have z0 := Ext.cell q0
        have z1 := Ext.cell q1
        have z2 := Ext.cell q2
        have z3 := Ext.cell y0
        have z4 := Ext.cell y1
        clear q0 q1 q2 y0 y1
        refine wp_region_ext (by kernel_rfl) (by kernel_rfl) ?_
        repeat (go_big_quiet_step (first | (go_at_call 24; with_reducible exact Ext.call (HTT.out _)) | (go_at_call 15; with_reducible exact Ext.call (HSJ.out _))))
        refine wpQuiet_nil ?_
        intro w4 hb4
        have B4 := Lib.hid (B3.out.trans (hb4.mono B3.out.size))
        clear z0 z1 z2 z3 z4 hb4
        go_wp2_with fail
        go_ret
        exact ⟨by first | rfl | simp, B4.out⟩
end Go.Proofs.Ytajjelcjgcgfdaa
