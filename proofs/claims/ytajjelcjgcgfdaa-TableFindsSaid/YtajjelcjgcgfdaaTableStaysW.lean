/- The walk of TableStays. -/
import Derived.Test.YtajjelcjgcgfdaaTabP5
import Derived.Test.YtajjelcjgcgfdaaTabP7
import Derived.Test.YtajjelcjgcgfdaaTabOf
import Derived.Test.YtajjelcjgcgfdaaTabTells
import Derived.Test.YtajjelcjgcgfdaaOpen
import Derived.BigQuiet
namespace Go.Proofs.Ytajjelcjgcgfdaa
set_option linter.unusedVariables false
open Go.RowKit P

/-- what is known of a table that tableOf made -/
theorem tabOf_facts {room : Int} (hr : 0 ≤ room ∧ room ≤ 160) {rs : List RawT} {all : List Fld} (h : all = putL room (fldsOf rs)) : all.length ≤ 12 ∧ (∀ x ∈ all, okFd x ∧ FdWf x) ∧ TbWf (tabF room all) ∧ (young room all).length ≤ all.length ∧ (∀ x ∈ young room all, FdWf x) ∧ (wtL (young room all) : Int) ≤ room := by
  have h1 : all.length ≤ 12 := by
    have := putL_len (room := room) (fldsOf rs)
    rw [fldsOf_len] at this
    rw [h]
    omega
  have h2 : ∀ x ∈ all, okFd x ∧ FdWf x := by rw [h]; exact putL_mem (fldsOf rs) (fldsOf_ok rs)
  obtain ⟨k, h3, h4⟩ := young_suffix room all
  exact ⟨h1, h2, tabWf hr (by omega) (fun x hx => (h2 x hx).2), by rw [h4, List.length_drop]; omega, fun x hx => (h2 x (by rw [h4] at hx; exact List.mem_of_mem_drop hx)).2, young_wt hr.1 all⟩
theorem tabVal_of {w : World} {room : Int} {all : List Fld} {At : Option Addr} {L M ct : Nat} (hL : all.length = L) (hM : (young room all).length = M) (h1 : M ≤ ct) (h2 : ct ≤ maxLen) (hr : RowE FdE w w.heap.size At (young room all)) :
    TbVal w w.heap.size (.agg #[.int .i64 room, .int .i64 (L : Int), .slice At M ct]) (tabF room all) :=
  ⟨.slice At M ct, by rw [← hL]; rfl, At, ct, by rw [← hM]; rfl, by show (young room all).length ≤ ct; rw [hM]; exact h1, h2, hr⟩
set_option maxRecDepth 100000 in
set_option maxHeartbeats 4000000 in
theorem tableStays_walk (a0 : Int) (a1 : Option Addr) (n c : Nat) (rs : List RawT) (a2 : Int) (W : World) (hrow : RawRow W W.heap.size a1 rs) (hn : rs.length = n) (hnc : n ≤ c) (hc : c ≤ maxLen) (hbt : ∀ i, i < n → (rs.getD i raw0).text.size ≤ maxLen) :
    Calls Try.prog 6 #[.int .i64 a0, .slice a1 n c, .int .i64 a2] W fun e w' => e = .returned (.bool true) ∧ Below W.heap.size W w' := by
  have HTO := Lib.hid (tableOf_any tinsN_any tsize_any a0 a1 n c rs W hrow hn hnc hc hbt)
  have HTT := Lib.hid (fun w => tableTells_core tins_any tget_any w)
  obtain ⟨room, hroom⟩ : ∃ room, 40 + a0 % 121 = room := ⟨_, rfl⟩
  have hrb : 0 ≤ room ∧ room ≤ 160 := by omega
  rw [hroom] at HTO
  clear hrow hbt hc hroom hn
  go_enter Try.func6, Try.ntmps6
  go_wp2_with fail
  refine HTO.out.mono ?_
  rintro e w1 ⟨all, At, Aa, ct, ca, hall, rfl, h1, h2, h3, h4, r1, r2, b1⟩
  obtain ⟨f1, f2, f3, f4, f5, f6⟩ := tabOf_facts hrb hall
  have HSG := Lib.hid (fun k hk => stays_get hrb (all := all) (by omega) (fun x hx => (f2 x hx).1) k hk)
  have HOK := Lib.hid ((faultTb_iff _).2 (tabF_ok hrb (all := all) (by omega) (fun x hx => (f2 x hx).1)))
  have HWT := Lib.hid f3
  have HFY := Lib.hid f5
  have HTV := Lib.hid (fun w L M (hL : all.length = L) (hM : (young room all).length = M) (h1 : M ≤ ct) (hr : RowE FdE w w.heap.size At (young room all)) => tabVal_of (room := room) hL hM h1 h2 hr)
  obtain ⟨L, hL⟩ : ∃ L, all.length = L := ⟨_, rfl⟩
  obtain ⟨M, hM⟩ : ∃ M, (young room all).length = M := ⟨_, rfl⟩
  have HLA := Lib.hid hL
  have HYL := Lib.hid hM
  rw [hL] at f1 f4 h3 HSG ⊢
  rw [hM] at f4 h1 HSG ⊢
  obtain ⟨k, hk⟩ : ∃ k : Nat, a2 % ((L : Int) + 1) = k := ⟨(a2 % ((L : Int) + 1)).toNat, by have := Int.emod_nonneg a2 (show (L : Int) + 1 ≠ 0 by omega); omega⟩
  have hkL : k ≤ L := by have := Int.emod_lt_of_pos a2 (show (0 : Int) < (L : Int) + 1 by omega); omega
  have HPK := Lib.hid (fun w => hk ▸ picked_any a2 ((L : Int) + 1) (by omega) (by omega) w)
  have X1 := Lib.hid ((Below.refl w1.heap.size w1).alloc (Nat.le_refl _) (.cells #[.int .i64 room, .int .i64 (L : Int), .slice At M ct] 24))
  have F1 := Lib.hid (heap_alloc_new w1 (.cells #[.int .i64 room, .int .i64 (L : Int), .slice At M ct] 24))
  have B1 := Lib.hid (b1.trans (X1.out.mono b1.size))
  have RT := Lib.hid r1
  have RA := Lib.hid r2
  have HGT := Lib.hid (fun w (hb : Below w1.heap.size w1 w) => tget_any (.agg #[.int .i64 room, .int .i64 (L : Int), .slice At M ct]) (tabF room all) k w (HTV.out w L M hL hM h1 (RT.out.on hb)) HWT.out (by omega))
  have HCK := Lib.hid (fun w (hb : Below w1.heap.size w1 w) => HOK.out ▸ tchk_any (.agg #[.int .i64 room, .int .i64 (L : Int), .slice At M ct]) (tabF room all) w (HTV.out w L M hL hM h1 (RT.out.on hb)) HWT.out)
  have HG := Lib.hid (HSG.out k hkL)
  obtain ⟨⟨g, eg⟩, hg⟩ : ∃ r, getT (tabF room all) k = r := ⟨_, rfl⟩
  rw [hg] at HG HGT
  have HGV := Lib.hid (show fdV g = .agg #[.string (strOfNums g.name), .string (strOfNums g.val)] from rfl)
  simp only at HGT
  rw [HGV.out] at HGT
  obtain ⟨S1, hS1⟩ : ∃ S, strOfNums g.name = S := ⟨_, rfl⟩
  obtain ⟨S2, hS2⟩ : ∃ S, strOfNums g.val = S := ⟨_, rfl⟩
  have HS1 := Lib.hid hS1
  have HS2 := Lib.hid hS2
  rw [hS1, hS2] at HGT
  clear hall r1 r2 b1 f2 f3 f5 HSG HTV hL hM hk hg HGV hS1 hS2 HOK
  go_wp2_with (go_at_call 23; refine (HPK.out _).mono ?_; rintro e w' ⟨rfl, rfl⟩)
  refine (HGT.out _ X1.out).mono ?_
  rintro e w2 ⟨b2, rfl⟩
  have X2 := Lib.hid (b2.alloc b2.size (.cells #[.string S1, .string S2] 26))
  have G2 := Lib.hid (heap_alloc_new w2 (.cells #[.string S1, .string S2] 26))
  have B2 := Lib.hid (B1.out.trans (X2.out.mono B1.out.size))
  have Y2 := Lib.hid (X1.out.trans (X2.out.mono X1.out.size))
  have F2 := Lib.hid ((X2.out.block _ (lt_of_block F1.out)).trans F1.out)
  clear b2
  obtain ⟨q0, q1, q2⟩ := bk3T F2.out
  go_wp2_with fail
  clear q0 q1 q2
  go_loopg [13, 37] M (fun gq sv iv wr => ∃ (i s : Nat), sv = .int .i64 s ∧ iv = .int .i64 i ∧ i + gq = M ∧ s ≤ 160 ∧ Hid (s = wtL ((young room all).take i)) ∧ Hid (Below (w2.alloc (.cells #[.string S1, .string S2] 26)).heap.size (w2.alloc (.cells #[.string S1, .string S2] 26)) wr))
  case atStart => exact ⟨0, 0, rfl, rfl, by omega, by omega, Lib.hid (by rw [List.take_zero, wtL_nil]), Lib.hid (Below.refl _ _)⟩
  case round =>
    obtain ⟨i, s, rfl, rfl, hig, hs0, HA, BK⟩ := hrel
    have Y3 := Lib.hid (Y2.out.trans (BK.out.mono Y2.out.size))
    have B3 := Lib.hid (B2.out.trans (BK.out.mono B2.out.size))
    by_cases hlt : i < M
    · have hil : i < (young room all).length := by rw [HYL.out]; exact hlt
      obtain ⟨b, off, hA, hbl, x0, x1⟩ := fd_cells RT.out hil
      have hmem : (young room all).getD i fd0 ∈ young room all := by rw [List.getD_eq_getElem?_getD, List.getElem?_eq_getElem hil]; exact List.getElem_mem hil
      have HST := Lib.hid (wtL_take hil)
      have HSI := Lib.hid (fun w => tsize_any _ w (HFY.out _ hmem))
      have hsum : wtL ((young room all).take (i + 1)) ≤ wtL (young room all) := by
        have := wtL_app ((young room all).take (i + 1)) ((young room all).drop (i + 1))
        rw [List.take_append_drop] at this
        omega
      obtain ⟨x, hx⟩ : ∃ x, (young room all).getD i fd0 = x := ⟨_, rfl⟩
      rw [hx] at x0 x1 HST HSI
      unfold fdV at HSI
      obtain ⟨T1, hT1⟩ : ∃ S, strOfNums x.name = S := ⟨_, rfl⟩
      obtain ⟨T2, hT2⟩ : ∃ S, strOfNums x.val = S := ⟨_, rfl⟩
      rw [hT1] at x0 HSI
      rw [hT2] at x1 HSI
      have hs1 : s + szF x ≤ 160 := by have := HA.out; have := HST.out; omega
      have HA1 := Lib.hid (show s + szF x = wtL ((young room all).take (i + 1)) by rw [HST.out, HA.out])
      obtain ⟨z, hz⟩ : ∃ z, szF x = z := ⟨_, rfl⟩
      rw [hz] at HSI hs1 HA1
      subst hA
      have y0 := (Y3.out.cell (p := ⟨b, off + i * 2, none⟩) hbl).trans x0
      have y1 := (Y3.out.cell (p := ⟨b, off + i * 2 + 1, none⟩) hbl).trans x1
      have BA := Lib.hid (BK.out.alloc BK.out.size (.cells #[.string T1, .string T2] 26))
      have hnk : (i : Int) < (M : Int) := by omega
      clear x0 x1 hx hT1 hT2 hmem hil hbl hz hsum
      go_wp2_with fail
      refine (HSI.out _).mono ?_
      rintro e w4 ⟨rfl, b4⟩
      have B4 := Lib.hid (BA.out.trans (b4.mono BA.out.size))
      clear b4 y0 y1
      go_wp2_with fail
      go_roundg (gk - 1)
      case measure => omega
      case rel => exact ⟨i + 1, s + z, by first | rfl | go_num, by first | rfl | go_num, by omega, hs1, HA1, B4⟩
    · obtain rfl : i = M := by omega
      have hsr : (s : Int) ≤ room := by
        have := HA.out
        rw [List.take_of_length_le (by rw [HYL.out]; exact Nat.le_refl _)] at this
        rw [this]; exact f6
      have F3 := Lib.hid ((BK.out.block _ (lt_of_block F2.out)).trans F2.out)
      have G3 := Lib.hid ((BK.out.block _ (lt_of_block G2.out)).trans G2.out)
      clear f6 hlt
      go_wp2_with fail
      refine (HTT.out _).mono ?_
      rintro e w4 ⟨rfl, b4⟩
      have B4 := Lib.hid (B3.out.trans (b4.mono B3.out.size))
      have Y4 := Lib.hid (Y3.out.trans (b4.mono Y3.out.size))
      have F4 := Lib.hid ((b4.block _ (lt_of_block F3.out)).trans F3.out)
      have G4 := Lib.hid ((b4.block _ (lt_of_block G3.out)).trans G3.out)
      clear b4
      obtain ⟨q0, q1, q2⟩ := bk3T F4.out
      go_wp2_with fail
      refine (HCK.out _ Y4.out).mono ?_
      rintro e w5 ⟨rfl, b5⟩
      have B5 := Lib.hid (B4.out.trans (b5.mono B4.out.size))
      have Y5 := Lib.hid (Y4.out.trans (b5.mono Y4.out.size))
      have F5 := Lib.hid ((b5.block _ (lt_of_block F4.out)).trans F4.out)
      have G5 := Lib.hid ((b5.block _ (lt_of_block G4.out)).trans G4.out)
      clear b5 q0 q1 q2
      obtain ⟨q0, q1, q2⟩ := bk3T F5.out
      have HGX := HG.out
      by_cases c1 : k = L
      · rw [if_pos c1] at HGX
        obtain ⟨rfl, rfl⟩ : g = fd0 ∧ eg = 5 := by simpa using HGX
        have c1' : (k : Int) = (L : Int) := by omega
        clear HGX HG
        go_wp2_with fail
        go_ret
        exact ⟨by first | rfl | simp, B5.out⟩
      · rw [if_neg c1] at HGX
        have c1' : ¬ (k : Int) = (L : Int) := by omega
        have c1b : decide (k = L) = false := by simp [c1]
        by_cases c2 : k < L - i
        · rw [if_pos c2] at HGX
          obtain ⟨rfl, rfl⟩ : g = fd0 ∧ eg = 16 := by simpa using HGX
          have c2' : (k : Int) < (L : Int) - (i : Int) := by omega
          clear HGX HG
          go_wp2_with fail
          go_ret
          exact ⟨by first | rfl | simp, B5.out⟩
        · rw [if_neg c2] at HGX
          obtain ⟨rfl, rfl⟩ : g = all.getD k fd0 ∧ eg = 0 := by simpa using HGX
          have c2' : ¬ (k : Int) < (L : Int) - (i : Int) := by omega
          clear HGX HG
          obtain ⟨b, off, hA, hbl, x0, x1⟩ := fd_cells RA.out (i := k) (by rw [HLA.out]; omega)
          rw [HS1.out] at x0
          rw [HS2.out] at x1
          subst hA
          have y0 := (Y5.out.cell (p := ⟨b, off + k * 2, none⟩) hbl).trans x0
          have y1 := (Y5.out.cell (p := ⟨b, off + k * 2 + 1, none⟩) hbl).trans x1
          obtain ⟨z0, z1⟩ := bk2F G5.out
          have hkl : (k : Int) < (L : Int) := by omega
          clear x0 x1 hbl
          go_wp2_with fail
          go_quiet (fail)
          rename_i nq
          have B6 := Lib.hid (Go.below_drewN B5.out nq)
          obtain ⟨w6, hw6⟩ : ∃ w2, w5.drewN nq = w2 := ⟨_, rfl⟩
          rw [hw6] at B6 ⊢
          clear hw6 y0 y1 z0 z1
          go_wp2_with fail
          go_ret
          exact ⟨by first | rfl | simp, B6.out⟩
end Go.Proofs.Ytajjelcjgcgfdaa
