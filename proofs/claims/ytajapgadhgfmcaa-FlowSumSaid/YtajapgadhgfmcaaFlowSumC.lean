/- The walk of FlowSum, over what is asked of the project. -/
import Derived.Test.YtajapgadhgfmcaaFlowV
import Derived.Test.YtajapgadhgfmcaaRaw
import Derived.Deep.LoopGhost
namespace Go.Proofs.Ytajapgadhgfmcaa
set_option linter.unusedVariables false
open Go.RowKit P

theorem bk2_blk {w : World} {b : Nat} {a0 a1 : Value} {T : TypeId} (h : w.heap[b]? = some (.cells #[a0, a1] T (0, 0))) (v0 v1 : Value) : ((w.setCell ⟨b, 0, none⟩ v0).setCell ⟨b, 1, none⟩ v1).heap[b]? = some (.cells #[v0, v1] T (0, 0)) := by
  have h0 : (w.setCell ⟨b, 0, none⟩ v0).heap[b]? = some (.cells #[v0, a1] T (0, 0)) := by simpa using bk_set h 0 v0
  simpa using bk_set h0 1 v1
theorem flF_ok {mx us : Int} (h0 : 0 ≤ us) (h1 : us ≤ mx) (h2 : mx ≤ 80) : flF mx us = 0 := if_pos ⟨h0, h1, by omega⟩
set_option maxRecDepth 100000 in
set_option maxHeartbeats 4000000 in
theorem flowSum_core (hC : FlChk Try.prog 6) (hS : FlSpend Try.prog 7) (hG : FlGrant Try.prog 10) (A : Option Addr) (len cap : Nat) (rs : List RawT) (w : World) (h : RawRow w w.heap.size A rs) (hl : rs.length = len) (hlc : len ≤ cap) (hcm : cap ≤ maxLen) :
    Calls Try.prog 5 #[.slice A len cap] w fun e w' => e = .returned (.bool true) ∧ Below w.heap.size w w' := by
  have HR := Lib.hid h
  have HLN := Lib.hid hl
  have HC := Lib.hid hC
  have HS := Lib.hid hS
  have HG := Lib.hid hG
  obtain ⟨N, hN⟩ : ∃ N, min len 20 = N := ⟨_, rfl⟩
  have n1 : N ≤ 20 := by omega
  have n2 : N ≤ len := by omega
  have HN := Lib.hid hN
  have HSM := Lib.hid (fun w => some20 A len cap w hlc hcm)
  rw [hN] at HSM
  have hcm' := hcm
  unfold maxLen at hcm'
  have B0 := Lib.hid ((Below.refl w.heap.size w).alloc (Nat.le_refl _) (.cells #[.int .i64 50, .int .i64 0] 23))
  have F0 := Lib.hid (heap_alloc_new w (.cells #[.int .i64 50, .int .i64 0] 23))
  clear h hl hN hC hS hG hcm
  go_enter Try.func5, Try.ntmps5
  go_wp2_with fail
  refine (HSM.out _).mono ?_
  rintro e w' ⟨rfl, rfl⟩
  go_wp2_with fail
  go_loopg [4, 5, 17] N (fun gq uv tv iv wr => ∃ (k : Nat) (us tp : Int), uv = .int .i64 us ∧ tv = .int .i64 tp ∧ iv = .int .i64 k ∧ k + gq = N ∧ 0 ≤ us ∧ us ≤ tp ∧ 50 ≤ tp ∧ tp ≤ 80 ∧ Hid (Below w.heap.size w wr) ∧ Hid (wr.heap[w.heap.size]? = some (.cells #[.int .i64 tp, .int .i64 us] 23 (0, 0))))
  case atStart => exact ⟨0, 0, 50, rfl, rfl, rfl, by omega, by omega, by omega, by omega, by omega, B0, F0⟩
  case round =>
    obtain ⟨k, us, tp, rfl, rfl, rfl, hk, u0, u1, t0, t1, BK, FK⟩ := hrel
    by_cases hlt : k < N
    · obtain ⟨b, off, hA, hbb, hc⟩ := HR.out (by rw [HLN.out]; omega)
      subst hA
      obtain ⟨c0, c1, c2, c3⟩ := hc k (by rw [HLN.out]; omega)
      generalize rs.getD k raw0 = r at c0 c1 c2 c3
      obtain ⟨kd, ra, rb, rt⟩ := r
      simp only at c0 c1 c2 c3
      have x0 := (BK.out.cell (p := ⟨b, off + k * 4, none⟩) hbb).trans c0
      have x1 := (BK.out.cell (p := ⟨b, off + k * 4 + 1, none⟩) hbb).trans c1
      have x2 := (BK.out.cell (p := ⟨b, off + k * 4 + 2, none⟩) hbb).trans c2
      have x3 := (BK.out.cell (p := ⟨b, off + k * 4 + 3, none⟩) hbb).trans c3
      clear c0 c1 c2 c3 hc
      have hkN : (k : Int) < (N : Int) := by omega
      obtain ⟨n, hn⟩ : ∃ n, ra % 40 = n := ⟨_, rfl⟩
      have m0 : 0 ≤ n := by omega
      have m1 : n < 40 := by omega
      have HPN := Lib.hid (fun w => hn ▸ picked_any ra 40 (by omega) (by omega) w)
      have HP3 := Lib.hid (fun w => picked_any kd 3 (by omega) (by omega) w)
      have hf0 := flF_ok u0 u1 t1
      have XR := Lib.hid ((Below.refl wr.heap.size wr).alloc (Nat.le_refl _) (.cells #[.int .i64 kd, .int .i64 ra, .int .i64 rb, .string rt] 32))
      have R1 := Lib.hid (heap_alloc_new wr (.cells #[.int .i64 kd, .int .i64 ra, .int .i64 rb, .string rt] 32))
      have F1 := Lib.hid ((XR.out.block _ (lt_of_block FK.out)).trans FK.out)
      have B1 := Lib.hid (BK.out.trans (XR.out.mono BK.out.size))
      obtain ⟨f0, f1, ff⟩ := bk2 F1.out
      have HSP : Hid (∀ w, Calls Try.prog 7 #[.agg #[.int .i64 tp, .int .i64 us], .int .i64 n] w fun e w' => e = .returned (if tp - us < n then .tuple #[.agg #[.int .i64 0, .int .i64 0], .int .i64 11] else .tuple #[.agg #[.int .i64 tp, .int .i64 (us + n)], .int .i64 0]) ∧ Below w.heap.size w w') := Lib.hid (fun w => (HS.out tp us n w ⟨by omega, by omega⟩).mono fun e w' he => by
        unfold flR flS flV at he
        rw [hf0, if_neg (by decide), if_neg (by omega)] at he
        by_cases q : tp - us < n
        · rw [if_pos q] at he ⊢; exact he
        · rw [if_neg q] at he ⊢; exact he)
      clear hn
      by_cases k3 : kd % 3 = 0
      · obtain ⟨⟨P1, Q1, E1⟩, hr⟩ : ∃ r, flS tp us n = r := ⟨_, rfl⟩
        have HS0 : Hid (∀ w, Calls Try.prog 7 #[.agg #[.int .i64 tp, .int .i64 us], .int .i64 n] w fun e w' => e = .returned (.tuple #[.agg #[.int .i64 P1, .int .i64 Q1], .int .i64 E1]) ∧ Below w.heap.size w w') := Lib.hid (fun w => (HS.out tp us n w ⟨by omega, by omega⟩).mono fun e w' he => by
          rw [hr] at he
          exact he)
        obtain ⟨T, hT⟩ : ∃ T, max (2 * n) tp = T := ⟨_, rfl⟩
        have HG0 : Hid (∀ w, Calls Try.prog 10 #[.agg #[.int .i64 tp, .int .i64 us], .int .i64 (2 * n)] w fun e w' => e = .returned (.tuple #[.agg #[.int .i64 T, .int .i64 us], .int .i64 0]) ∧ Below w.heap.size w w') := Lib.hid (fun w => (HG.out tp us (2 * n) w).mono fun e w' he => by
          unfold flR flG flV at he
          rw [hf0, if_neg (by decide), if_neg (by omega), hT] at he
          exact he)
        have T0 : 50 ≤ T := by omega
        have T1 : T ≤ 80 := by omega
        have TU : us ≤ T := by omega
        have hm1 : (if tp < 2 * n then 2 * n else tp) = T := by split <;> omega
        have hwm : IntKind.i64.wrap (2 * n) = 2 * n := by rw [IntKind.wrap_i64]; omega
        have gT : decide (T < us) = false := by simp; omega
        have g3 : (kd % 3 == 0) = true := by simp [k3]
        clear k3 hr hT HSP
        go_wp2_with fail
        refine (HPN.out _).mono ?_
        rintro e w' ⟨rfl, rfl⟩
        go_wp2_with fail
        refine (HS0.out _).mono ?_
        rintro e w2 ⟨rfl, b2⟩
        have X2 := Lib.hid (b2.alloc b2.size (.cells #[.int .i64 P1, .int .i64 Q1] 23))
        have N2 := Lib.hid (heap_alloc_new w2 (.cells #[.int .i64 P1, .int .i64 Q1] 23))
        have F2 := Lib.hid ((X2.out.block _ (lt_of_block F1.out)).trans F1.out)
        have R2 := Lib.hid ((X2.out.block _ (lt_of_block R1.out)).trans R1.out)
        have B2 := Lib.hid (B1.out.trans (X2.out.mono B1.out.size))
        have LT := Lib.hid (show w.heap.size < w2.heap.size from Nat.lt_of_lt_of_le (lt_of_block F1.out) b2.size)
        clear b2 f0 f1 ff
        have r0 := bk_cell R2.out 0
        simp only [List.getElem?_toArray, List.getElem?_cons_zero] at r0
        obtain ⟨f0, f1, ff⟩ := bk2 F2.out
        go_wp2_with fail
        refine (HP3.out _).mono ?_
        rintro e w' ⟨rfl, rfl⟩
        go_wp2_with fail
        refine (HG0.out _).mono ?_
        rintro e w4 ⟨rfl, b4⟩
        have B4 := Lib.hid (B2.out.trans (b4.mono B2.out.size))
        have F4 := Lib.hid ((b4.block _ (lt_of_block F2.out)).trans F2.out)
        have N4 := Lib.hid ((b4.block _ (lt_of_block N2.out)).trans N2.out)
        clear b4 f0 f1 ff r0
        obtain ⟨z0, z1, zf⟩ := bk2 N4.out
        obtain ⟨y0, y1, gp⟩ := bk2_put N4.out (.int .i64 T) (.int .i64 us)
        have FX := Lib.hid ((gp.block _ (lt_of_block F4.out) (by have := LT.out; simp; omega)).trans F4.out)
        have BX := Lib.hid (gr_from B4.out B4.out.size (by have := LT.out; omega) gp)
        have FY := Lib.hid (bk2_blk FX.out (.int .i64 T) (.int .i64 us))
        have BY := Lib.hid (gr_from BX.out BX.out.size (Nat.le_refl _) (bk2_put FX.out (.int .i64 T) (.int .i64 us)).2.2)
        obtain ⟨f0, f1, ff⟩ := bk2 FX.out
        clear gp
        go_wp2_with fail
        go_roundg (gk - 1)
        case measure => omega
        case rel => exact ⟨k + 1, us, T, by first | rfl | simp, rfl, by first | rfl | go_num, by omega, u0, TU, T0, T1, BY, FY⟩
      · have g3 : (kd % 3 == 0) = false := by simp [k3]
        clear k3
        by_cases q : tp - us < n
        · have hq : (if tp - us < n then Value.tuple #[.agg #[.int .i64 0, .int .i64 0], .int .i64 11] else .tuple #[.agg #[.int .i64 tp, .int .i64 (us + n)], .int .i64 0]) = .tuple #[.agg #[.int .i64 0, .int .i64 0], .int .i64 11] := if_pos q
          rw [hq] at HSP
          clear hq
          have gc : decide (tp < us + n) = true := by simp; omega
          go_wp2_with fail
          refine (HPN.out _).mono ?_
          rintro e w' ⟨rfl, rfl⟩
          go_wp2_with fail
          refine (HSP.out _).mono ?_
          rintro e w2 ⟨rfl, b2⟩
          have X2 := Lib.hid (b2.alloc b2.size (.cells #[.int .i64 0, .int .i64 0] 23))
          have F2 := Lib.hid ((X2.out.block _ (lt_of_block F1.out)).trans F1.out)
          have R2 := Lib.hid ((X2.out.block _ (lt_of_block R1.out)).trans R1.out)
          have B2 := Lib.hid (B1.out.trans (X2.out.mono B1.out.size))
          clear b2 f0 f1 ff
          have r0 := bk_cell R2.out 0
          simp only [List.getElem?_toArray, List.getElem?_cons_zero] at r0
          go_wp2_with fail
          refine (HP3.out _).mono ?_
          rintro e w' ⟨rfl, rfl⟩
          go_wp2_with fail
          go_roundg (gk - 1)
          case measure => omega
          case rel => exact ⟨k + 1, us, tp, rfl, rfl, by first | rfl | go_num, by omega, u0, u1, t0, t1, B2, F2⟩
        · have hq : (if tp - us < n then Value.tuple #[.agg #[.int .i64 0, .int .i64 0], .int .i64 11] else .tuple #[.agg #[.int .i64 tp, .int .i64 (us + n)], .int .i64 0]) = .tuple #[.agg #[.int .i64 tp, .int .i64 (us + n)], .int .i64 0] := if_neg q
          rw [hq] at HSP
          clear hq
          have gc : decide (tp < us + n) = false := by simp; omega
          go_wp2_with fail
          refine (HPN.out _).mono ?_
          rintro e w' ⟨rfl, rfl⟩
          go_wp2_with fail
          refine (HSP.out _).mono ?_
          rintro e w2 ⟨rfl, b2⟩
          have X2 := Lib.hid (b2.alloc b2.size (.cells #[.int .i64 tp, .int .i64 (us + n)] 23))
          have F2 := Lib.hid ((X2.out.block _ (lt_of_block F1.out)).trans F1.out)
          have R2 := Lib.hid ((X2.out.block _ (lt_of_block R1.out)).trans R1.out)
          have B2 := Lib.hid (B1.out.trans (X2.out.mono B1.out.size))
          clear b2 f0 f1 ff
          have r0 := bk_cell R2.out 0
          simp only [List.getElem?_toArray, List.getElem?_cons_zero] at r0
          obtain ⟨f0, f1, ff⟩ := bk2 F2.out
          have FY := Lib.hid (bk2_blk F2.out (.int .i64 tp) (.int .i64 (us + n)))
          have BY := Lib.hid (gr_from B2.out B2.out.size (Nat.le_refl _) (bk2_put F2.out (.int .i64 tp) (.int .i64 (us + n))).2.2)
          go_wp2_with fail
          refine (HP3.out _).mono ?_
          rintro e w' ⟨rfl, rfl⟩
          go_wp2_with fail
          go_roundg (gk - 1)
          case measure => omega
          case rel => exact ⟨k + 1, us + n, tp, by first | rfl | go_num, rfl, by first | rfl | go_num, by omega, by omega, by omega, t0, t1, BY, FY⟩
    · have hkN : k = N := by omega
      have HE : Hid (∀ w, Calls Try.prog 7 #[.agg #[.int .i64 tp, .int .i64 us], .int .i64 (tp - us + 1)] w fun e w' => e = .returned (.tuple #[.agg #[.int .i64 0, .int .i64 0], .int .i64 11]) ∧ Below w.heap.size w w') := Lib.hid (fun w => (HS.out tp us (tp - us + 1) w ⟨by omega, by omega⟩).mono fun e w' he => by
        unfold flR flS flV at he
        rw [flF_ok u0 u1 t1, if_neg (by decide), if_neg (by omega), if_pos (by omega)] at he
        exact he)
      have HC0 : Hid (∀ w, Calls Try.prog 6 #[.agg #[.int .i64 tp, .int .i64 us]] w fun e w' => e = .returned (.int .i64 0) ∧ Below w.heap.size w w') := Lib.hid (fun w => by have := HC.out tp us w; rw [flF_ok u0 u1 t1] at this; exact this)
      have HC1 : Hid (∀ w, Calls Try.prog 6 #[.agg #[.int .i64 0, .int .i64 1]] w fun e w' => e = .returned (.int .i64 9) ∧ Below w.heap.size w w') := Lib.hid (fun w => HC.out 0 1 w)
      have hw1 : IntKind.i64.wrap (tp - us) = tp - us := by rw [IntKind.wrap_i64]; omega
      have hw2 : IntKind.i64.wrap (tp - us + 1) = tp - us + 1 := by rw [IntKind.wrap_i64]; omega
      obtain ⟨f0, f1, ff⟩ := bk2 FK.out
      subst hkN
      go_wp2_with fail
      refine (HE.out _).mono ?_
      rintro e w2 ⟨rfl, b2⟩
      have X2 := Lib.hid (b2.alloc b2.size (.cells #[.int .i64 0, .int .i64 0] 23))
      have F2 := Lib.hid ((X2.out.block _ (lt_of_block FK.out)).trans FK.out)
      have B2 := Lib.hid (BK.out.trans (X2.out.mono BK.out.size))
      clear b2 f0 f1 ff
      obtain ⟨f0, f1, ff⟩ := bk2 F2.out
      go_wp2_with fail
      refine (HC0.out _).mono ?_
      rintro e w3 ⟨rfl, b3⟩
      have B3 := Lib.hid (B2.out.trans (b3.mono B2.out.size))
      clear b3 f0 f1 ff
      go_wp2_with fail
      refine (HC1.out _).mono ?_
      rintro e w4 ⟨rfl, b4⟩
      have B4 := Lib.hid (B3.out.trans (b4.mono B3.out.size))
      clear b4
      go_wp2_with fail
      go_ret
      exact ⟨by first | rfl | simp, B4.out⟩
end Go.Proofs.Ytajapgadhgfmcaa
