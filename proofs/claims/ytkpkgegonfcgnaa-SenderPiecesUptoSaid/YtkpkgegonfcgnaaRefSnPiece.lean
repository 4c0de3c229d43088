/- The document's SenderPiece (P10.4). -/
import Derived.Test.YtkpkgegonfcgnaaRefSnFault
import Derived.Test.YtkpkgegonfcgnaaSnPcDef
import Derived.Test.YtkpkgegonfcgnaaRefWo
import Derived.Test.YtkpkgegonfcgnaaTxtPart
import Derived.Deep.CutRange
namespace Go.Proofs.Ytkpkgegonfcgnaa
set_option linter.unusedVariables false
open Go.RowKit P

theorem frv_nil (w : World) (B : Nat) : FrVal w B (.agg #[.int .i64 0, .int .i64 0, .int .i64 0, .bool false, .int .i64 0, .slice none 0 0, .slice none 0 0]) fr00 := ⟨_, _, rfl, RSl.nil _ _, BSl.nil _ _⟩
theorem _root_.Go.Proofs.Ytkpkgegonfcgnaa.P.RSl.on9 {w w' : World} {v : Value} {ps : List (Int × Int)} (h : RSl w w.heap.size v ps) (hb : Below w.heap.size w w') : RSl w' w'.heap.size v ps := (h.below hb).more hb.size
theorem _root_.Go.Proofs.Ytkpkgegonfcgnaa.P.BSl.on9 {w w' : World} {v : Value} {ps : List Int} (h : BSl w w.heap.size v ps) (hb : Below w.heap.size w w') : BSl w' w'.heap.size v ps := (h.below hb).more hb.size
set_option maxRecDepth 100000 in
set_option maxHeartbeats 4000000 in
theorem refSnPc_any : SnPc Try.prog 21 := by
  intro v s room credit w hv hw
  obtain ⟨d, l, a, rfl, hd, hl, ha⟩ := hv.ex
  obtain ⟨Ad, cd, rfl, hdc, hdm, hdn, hdr⟩ := hd.ex
  obtain ⟨Al, cl, rfl, hlc, hlm, hlr⟩ := hl.ex
  obtain ⟨Aa, ca, rfl, hac, ham, har⟩ := ha.ex
  have HF := Lib.hid (fun w' (hb : Below w.heap.size w w') => refSnF_any _ s w' (hv.on hb) hw)
  have HD := Lib.hid hd
  have HL := Lib.hid hl
  have HA := Lib.hid ha
  have HLR := Lib.hid hlr
  have hll := hw.ll
  have PIS := fun (h1 : okSn s) (h2 : 0 ≤ room ∧ room ≤ 120 ∧ 0 ≤ credit) => piece_is h1 h2
  obtain ⟨fi, hfi⟩ : ∃ x, s.fin = x := ⟨_, rfl⟩
  obtain ⟨nx, hnx⟩ : ∃ x, s.next = x := ⟨_, rfl⟩
  obtain ⟨mx, hmx⟩ : ∃ x, s.mx = x := ⟨_, rfl⟩
  obtain ⟨en, hen⟩ : ∃ x, s.ended = x := ⟨_, rfl⟩
  obtain ⟨ov, hov⟩ : ∃ x, s.over = x := ⟨_, rfl⟩
  obtain ⟨nd, hnd⟩ : ∃ x, s.data.length = x := ⟨_, rfl⟩
  obtain ⟨nl, hnl⟩ : ∃ x, s.lost.length = x := ⟨_, rfl⟩
  obtain ⟨na, hna⟩ : ∃ x, s.acked.length = x := ⟨_, rfl⟩
  rw [hfi, hnx, hmx, hen, hov, hnd, hnl, hna] at HF
  rw [hfi, hnx, hmx, hen, hov, hnd, hnl, hna]
  rw [hnl] at hll HL
  rw [hnd] at hdc HD
  rw [hna] at HA
  obtain ⟨g0, g1, g2, g3⟩ := threeX w #[.slice Ad nd cd, .bool fi, .int .i64 nx, .int .i64 mx, .slice Al nl cl, .slice Aa na ca, .bool en, .bool ov] #[.slice none 0 0, .bool false, .int .i64 0, .int .i64 0, .slice none 0 0, .slice none 0 0, .bool false, .bool false] #[.int .i64 0, .int .i64 0, .int .i64 0, .bool false, .int .i64 0, .slice none 0 0, .slice none 0 0] 25 25 37
  have F0 := Lib.hid g0
  have Z0 := Lib.hid g1
  have T0 := Lib.hid g2
  have B0 := Lib.hid g3
  clear g0 g1 g2 g3 hlr hdr har
  unfold pieceS
  by_cases hf : faultSn s = 0
  · have ok := (fault_iff s).1 hf
    rw [if_neg (fun e => e hf)]
    rw [hf] at HF
    by_cases a1 : 0 ≤ room ∧ room ≤ 120
    · have u1 : upB2 room 120 = true := upB2_yes a1.1 a1.2
      by_cases a3 : credit < 0
      · rw [if_pos (by omega)]
        clear hv hw hd hl ha hfi hnx hmx hen hov ok hf hnd hnl hna PIS a1
        go_enter Try.func21, Try.ntmps21
        go_upto_region 5 with (first
          | (go_at_call 13; refine (HF.out _ B0.out).mono ?_; rintro e w1 ⟨rfl, b1⟩; have B1 := Lib.hid (B0.out.trans (b1.mono B0.out.size)); have F1 := Lib.hid ((b1.block _ (lt_of_block F0.out)).trans F0.out); have Z1 := Lib.hid ((b1.block _ (lt_of_block Z0.out)).trans Z0.out); have T1 := Lib.hid ((b1.block _ (lt_of_block T0.out)).trans T0.out); clear b1; obtain ⟨q0, q1, q2, q3, q4, q5, q6, q7⟩ := bkS F1.out)
          | (go_at_call 37; refine (upTo_any _ _ _).mono ?_; rintro e w9 ⟨rfl, rfl⟩))
        obtain ⟨RZ, gz⟩ := bkS_put Z1.out (.slice none 0 0) (.bool false) (.int .i64 0) (.int .i64 0) (.slice none 0 0) (.slice none 0 0) (.bool false) (.bool false)
        have hZ0 := lt_of_block Z1.out
        have hT0 := lt_of_block T1.out
        obtain ⟨x0, x1, x2, x3, x4, x5, x6, x7⟩ := bkS Z1.out
        have cf := fun i => bk_frz Z1.out i
        obtain ⟨U1, hU1⟩ : ∃ x, ((((((((w1.setCell ⟨w.heap.size + 1, 0, none⟩ (.slice none 0 0)).setCell ⟨w.heap.size + 1, 1, none⟩ (.bool false)).setCell ⟨w.heap.size + 1, 2, none⟩ (.int .i64 0)).setCell ⟨w.heap.size + 1, 3, none⟩ (.int .i64 0)).setCell ⟨w.heap.size + 1, 4, none⟩ (.slice none 0 0)).setCell ⟨w.heap.size + 1, 5, none⟩ (.slice none 0 0)).setCell ⟨w.heap.size + 1, 6, none⟩ (.bool false)).setCell ⟨w.heap.size + 1, 7, none⟩ (.bool false)) = x := ⟨_, rfl⟩
        rw [hU1] at RZ gz
        have TU := (gz.block _ hT0 (by simp)).trans T1.out
        obtain ⟨RT, gt⟩ := bkF_put TU (.int .i64 0) (.int .i64 0) (.int .i64 0) (.bool false) (.int .i64 0) (.slice none 0 0) (.slice none 0 0)
        obtain ⟨v0, v1, v2, v3, v4, v5, v6⟩ := bkF TU
        have vf := fun i => bk_frz TU i
        obtain ⟨U2, hU2⟩ : ∃ x, (((((((U1.setCell ⟨w.heap.size + 2, 0, none⟩ (.int .i64 0)).setCell ⟨w.heap.size + 2, 1, none⟩ (.int .i64 0)).setCell ⟨w.heap.size + 2, 2, none⟩ (.int .i64 0)).setCell ⟨w.heap.size + 2, 3, none⟩ (.bool false)).setCell ⟨w.heap.size + 2, 4, none⟩ (.int .i64 0)).setCell ⟨w.heap.size + 2, 5, none⟩ (.slice none 0 0)).setCell ⟨w.heap.size + 2, 6, none⟩ (.slice none 0 0)) = x := ⟨_, rfl⟩
        rw [hU2] at RT gt
        have RZ2 := (gt.block _ (lt_of_block RZ) (by simp)).trans RZ
        obtain ⟨r0, r1, r2, r3, r4, r5, r6, r7⟩ := bkS RZ2
        obtain ⟨t0, t1, t2, t3, t4, t5, t6⟩ := bkF RT
        go_wp2_with fail
        refine bodyPost_ret (by simp [results, Try.results21, go_sem, r0, r1, r2, r3, r4, r5, r6, r7, t0, t1, t2, t3, t4, t5, t6]; try rfl) rfl ?_
        have BB := gr_from (gr_from B1.out B1.out.size (Nat.le_succ _) gz) (by have := B1.out.size; have := gz.size; omega) (by omega) gt
        exact ⟨BB, _, _, rfl, SnVal.nil _ _, frv_nil _ _⟩
      · rw [if_neg (by omega)]
        have hrm : 0 ≤ room ∧ room ≤ 120 ∧ 0 ≤ credit := by omega
        have pis := PIS ok hrm
        have OK := Lib.hid ok
        have hN := Lib.hid (show stNext s room credit = max s.next (pcLo s room + pcN s room credit) from rfl)
        have hL := Lib.hid (show stLost s room credit = if 0 < pcN s room credit then cutL (pcLo s room, pcLo s room + pcN s room credit - 1) s.lost else s.lost from rfl)
        rw [← hN.out, ← hL.out]
        have hFN := Lib.hid (show pcFin s room credit = (fi && !en && !ov && decide (pcLo s room + pcN s room credit = s.data.length)) by unfold pcFin; rw [hfi, hen, hov])
        have hLO := Lib.hid (show pcLo s room = match s.lost with
          | x :: _ => if 0 < room then x.1 else s.next
          | [] => s.next from rfl)
        have hPN := Lib.hid (show pcN s room credit = match s.lost with
          | x :: _ => if 0 < room then min room (x.2 - x.1 + 1) else 0
          | [] => min (min room credit) (min (s.data.length - s.next) (s.mx - s.next)) from rfl)
        obtain ⟨n, hn⟩ : ∃ x : Nat, pcN s room credit = (x : Int) := ⟨(pcN s room credit).toNat, by omega⟩
        obtain ⟨lo, hlo⟩ : ∃ x : Nat, pcLo s room = (x : Int) := ⟨(pcLo s room).toNat, by omega⟩
        obtain ⟨fn, hfn⟩ : ∃ x, pcFin s room credit = x := ⟨_, rfl⟩
        obtain ⟨nn, hnn⟩ : ∃ x, stNext s room credit = x := ⟨_, rfl⟩
        obtain ⟨L1, hL1⟩ : ∃ x, stLost s room credit = x := ⟨_, rfl⟩
        rw [hn, hlo] at hN hL pis
        rw [hnn] at hN
        rw [hL1] at hL
        rw [hfn, hn, hlo] at hFN
        rw [hlo] at hLO
        rw [hn] at hPN
        rw [hn, hlo, hfn, hnn, hL1]
        obtain ⟨p1, p2, p3, p4, p5, p6⟩ := pis
        have hk1 := ok.1
        have hk2 := ok.2.1
        have hk3 := ok.2.2.1
        have HKL := Lib.hid ok.2.2.2.1
        have HK8 := Lib.hid ok.2.2.2.2.2.2.2.1
        rw [hnx] at p4 hk2 hk3
        rw [hmx] at hk3
        rw [hnx] at hLO HK8
        rw [hnx, hmx] at hPN
        rw [hnd] at p5 hk1 hk2 hFN hPN
        obtain ⟨ps, hps⟩ : ∃ x, s.lost = x := ⟨_, rfl⟩
        rw [hps] at hLO hPN hL HKL HK8 HLR
        have HNL := Lib.hid (show ps.length = nl by rw [← hps]; exact hnl)
        have HPS := Lib.hid hps
        have HFI := Lib.hid hfi
        have HNX := Lib.hid hnx
        have HMX := Lib.hid hmx
        have HEN := Lib.hid hen
        have HOV := Lib.hid hov
        have HND := Lib.hid hnd
        clear hv hw hd hl ha hf ok hn hlo hfn hnn hL1 hfi hnx hmx hen hov hnd hnl hna hps PIS
        rw [Int.toNat_natCast, Int.toNat_natCast]
        obtain ⟨R, hR⟩ : ∃ x, (if (n : Int) = 0 ∧ fn = false then (s, fr00, false, 0) else ({ s with lost := L1, next := nn, ended := s.ended || fn }, ⟨8, 0, lo, fn, 0, [], (s.data.drop lo).take n⟩, true, 0) : Sn × Fr × Bool × Int) = x := ⟨_, rfl⟩
        have HR := Lib.hid hR
        rw [hR]
        clear hR
        have dr3 : decide (credit < 0) = false := decide_eq_false a3
        obtain ⟨bc, hbc⟩ : ∃ x, (decide (0 < nl) && decide (0 < room)) = x := ⟨_, rfl⟩
        have HBC := Lib.hid hbc
        clear hbc hrm
        go_enter Try.func21, Try.ntmps21
        go_upto_region 7 with (first
          | (go_at_call 13; refine (HF.out _ B0.out).mono ?_; rintro e w1 ⟨rfl, b1⟩; have B1 := Lib.hid (B0.out.trans (b1.mono B0.out.size)); have F1 := Lib.hid ((b1.block _ (lt_of_block F0.out)).trans F0.out); have Z1 := Lib.hid ((b1.block _ (lt_of_block Z0.out)).trans Z0.out); have T1 := Lib.hid ((b1.block _ (lt_of_block T0.out)).trans T0.out); clear b1; obtain ⟨q0, q1, q2, q3, q4, q5, q6, q7⟩ := bkS F1.out)
          | (go_at_call 37; refine (upTo_any _ _ _).mono ?_; rintro e w9 ⟨rfl, rfl⟩))
        go_cut [39] from 32 to 39 (fun u wx => u = .bool bc ∧ wx = w1)
        case first =>
          by_cases h0 : nl = 0
          · have hb : bc = false := by rw [← HBC.out]; simp [h0]
            subst hb
            have e0 : decide ((0 : Int) < (nl : Int)) = false := by simp; omega
            have e1 : decide (0 < nl) = false := by simp; omega
            clear h0
            go_wp2_with fail
            go_meet
            exact ⟨rfl, rfl⟩
          · have e0 : decide ((0 : Int) < (nl : Int)) = true := by simp; omega
            have e1 : decide (0 < nl) = true := by simp; omega
            have h0' : 0 < nl := by omega
            by_cases h2 : 0 < room
            · have hb : bc = true := by rw [← HBC.out, e1, decide_eq_true h2]; rfl
              subst hb
              have e2 : decide (0 < room) = true := decide_eq_true h2
              clear h0 e0 e1
              go_wp2_with fail
              go_meet
              exact ⟨rfl, rfl⟩
            · have hb : bc = false := by rw [← HBC.out, e1, decide_eq_false h2]; rfl
              subst hb
              have e2 : decide (0 < room) = false := decide_eq_false h2
              clear h0 h2 e0 e1
              go_wp2_with fail
              go_meet
              exact ⟨rfl, rfl⟩
        case rest =>
        obtain ⟨rfl, hwcq⟩ := hcut
        subst wc
        go_upto_if 39 with fail
        go_cut [11, 12] from 40 to 66 (fun u v wx => u = .int .i64 (lo : Int) ∧ v = .int .i64 (n : Int) ∧ wx = w1)
        case first =>
          cases bc with
          | true =>
            have hb := HBC.out
            simp only [Bool.and_eq_true, decide_eq_true_eq] at hb
            obtain ⟨hb1, hb2⟩ := hb
            obtain ⟨b, off, hA, hbb, hc⟩ := HLR.out (by rw [HNL.out]; exact hb1)
            obtain ⟨c0, c1⟩ := hc 0 (by rw [HNL.out]; exact hb1)
            subst hA
            cases hq : ps with
            | nil => have := HNL.out; rw [hq] at this; simp at this; omega
            | cons p rs =>
              obtain ⟨plo, phi⟩ := p
              have h1 := hLO.out
              have h2 := hPN.out
              rw [hq] at h1 h2 c0 c1
              simp only [hb2, if_true] at h1 h2
              simp only [List.getD_cons_zero, Nat.zero_mul, Nat.add_zero] at c0 c1
              have d0 := (B1.out.cell hbb).trans c0
              have d1 := (B1.out.cell hbb).trans c1
              have hkp := HKL.out
              rw [hq] at hkp
              have hp1 : okR (plo, phi) := hkp.1
              obtain ⟨o1, o2, o3⟩ := hp1
              simp only at o1 o2 o3
              have x1 : IntKind.i64.wrap (phi - plo) = phi - plo := by rw [IntKind.wrap_i64]; omega
              have x2 : IntKind.i64.wrap (phi - plo + 1) = phi - plo + 1 := by rw [IntKind.wrap_i64]; omega
              have hmin : (if phi - plo + 1 < room then phi - plo + 1 else room) = (n : Int) := by split <;> omega
              have hb3 : (0 : Int) < (nl : Int) := by omega
              have h1' := Lib.hid h1.symm
              clear h1 h2 hc c0 c1 hkp hq
              go_wp2_with fail
              go_meet
              exact ⟨by rw [h1'.out], rfl, rfl⟩
          | false =>
            have hb := HBC.out
            simp only [Bool.and_eq_false_iff, decide_eq_false_iff_not] at hb
            have h1 : (lo : Int) = nx := by
              have := hLO.out
              cases hq : ps with
              | nil => rw [hq] at this; exact this
              | cons p rs =>
                have hl := HNL.out
                rw [hq] at this hl
                simp only [List.length_cons] at hl
                simp only at this
                rwa [if_neg (by omega)] at this
            have h2 : (n : Int) = min (min room credit) (min (nd - nx) (mx - nx)) := by
              have := hPN.out
              cases hq : ps with
              | nil => rw [hq] at this; exact this
              | cons p rs =>
                have hl := HNL.out
                rw [hq] at this hl
                simp only [List.length_cons] at hl
                simp only at this
                rw [if_neg (by omega)] at this
                omega
            have x1 : IntKind.i64.wrap ((nd : Int) - nx) = (nd : Int) - nx := by rw [IntKind.wrap_i64]; omega
            have x2 : IntKind.i64.wrap (mx - nx) = mx - nx := by rw [IntKind.wrap_i64]; omega
            have wm := fun w ts t => run_min4 (P := Try.prog) w ts t .i64 .i64 .i64 .i64 room credit ((nd : Int) - nx) (mx - nx) (n : Int) (by omega)
            have h1' := Lib.hid h1.symm
            clear h1 h2 hb
            go_wp2_with fail
            go_meet
            exact ⟨by rw [h1'.out], rfl, rfl⟩
        case rest =>
        obtain ⟨rfl, rfl, hwcq⟩ := hcut
        subst wc
        obtain ⟨tt, htt⟩ : ∃ x : Nat, lo + n = x := ⟨_, rfl⟩
        have HTT := Lib.hid htt
        have x3 : IntKind.i64.wrap ((lo : Int) + (n : Int)) = (tt : Int) := by rw [IntKind.wrap_i64]; omega
        have hs3 : (lo : Int) + (n : Int) = (tt : Int) := by omega
        have hFN2 := Lib.hid hFN.out
        rw [hs3] at hFN2
        clear hs3 htt hFN
        have hFN := hFN2
        go_upto_region 11 with fail
        go_cut [13] from 67 to 87 (fun u wx => u = .bool fn ∧ wx = w1)
        case first =>
          by_cases ht : (tt : Int) = (nd : Int)
          · have e1 : ((tt : Int) == (nd : Int)) = true := by simp only [beq_iff_eq]; exact ht
            have e2 : decide ((tt : Int) = (nd : Int)) = true := decide_eq_true ht
            have HFE := Lib.hid (hFN.out.trans (congrArg _ e2))
            clear ht e2
            cases fi <;> cases en <;> cases ov <;> (go_wp2_with fail; go_meet; exact ⟨congrArg Value.bool HFE.out.symm, rfl⟩)
          · have e1 : ((tt : Int) == (nd : Int)) = false := by simp only [beq_eq_false_iff_ne, ne_eq]; exact ht
            have e2 : decide ((tt : Int) = (nd : Int)) = false := decide_eq_false ht
            have HFE := Lib.hid (hFN.out.trans (congrArg _ e2))
            clear ht e2
            cases fi <;> cases en <;> cases ov <;> (go_wp2_with fail; go_meet; exact ⟨congrArg Value.bool HFE.out.symm, rfl⟩)
        case rest =>
        obtain ⟨rfl, hwcq⟩ := hcut
        subst wc
        have hw1 := lt_of_block T1.out
        by_cases c0 : (n : Int) = 0 ∧ fn = false
        · obtain ⟨hn0, rfl⟩ := c0
          have hR := HR.out
          rw [if_pos ⟨hn0, rfl⟩] at hR
          clear HR
          have e1 : ((n : Int) == 0) = true := by simp; omega
          have e2 : (n == 0) = true := by simp; omega
          have HHR := Lib.hid hR
          clear hR hn0
          obtain ⟨RZ, gz⟩ := bkS_put Z1.out (.slice Ad nd cd) (.bool fi) (.int .i64 nx) (.int .i64 mx) (.slice Al nl cl) (.slice Aa na ca) (.bool en) (.bool ov)
          have hZ0 := lt_of_block Z1.out
          have hT0 := lt_of_block T1.out
          obtain ⟨x0, x1, x2, x3, x4, x5, x6, x7⟩ := bkS Z1.out
          have cf := fun i => bk_frz Z1.out i
          obtain ⟨U1, hU1⟩ : ∃ x, ((((((((w1.setCell ⟨w.heap.size + 1, 0, none⟩ (.slice Ad nd cd)).setCell ⟨w.heap.size + 1, 1, none⟩ (.bool fi)).setCell ⟨w.heap.size + 1, 2, none⟩ (.int .i64 nx)).setCell ⟨w.heap.size + 1, 3, none⟩ (.int .i64 mx)).setCell ⟨w.heap.size + 1, 4, none⟩ (.slice Al nl cl)).setCell ⟨w.heap.size + 1, 5, none⟩ (.slice Aa na ca)).setCell ⟨w.heap.size + 1, 6, none⟩ (.bool en)).setCell ⟨w.heap.size + 1, 7, none⟩ (.bool ov)) = x := ⟨_, rfl⟩
          rw [hU1] at RZ gz
          have TU := (gz.block _ hT0 (by simp)).trans T1.out
          obtain ⟨RT, gt⟩ := bkF_put TU (.int .i64 0) (.int .i64 0) (.int .i64 0) (.bool false) (.int .i64 0) (.slice none 0 0) (.slice none 0 0)
          obtain ⟨v0, v1, v2, v3, v4, v5, v6⟩ := bkF TU
          have vf := fun i => bk_frz TU i
          obtain ⟨U2, hU2⟩ : ∃ x, (((((((U1.setCell ⟨w.heap.size + 2, 0, none⟩ (.int .i64 0)).setCell ⟨w.heap.size + 2, 1, none⟩ (.int .i64 0)).setCell ⟨w.heap.size + 2, 2, none⟩ (.int .i64 0)).setCell ⟨w.heap.size + 2, 3, none⟩ (.bool false)).setCell ⟨w.heap.size + 2, 4, none⟩ (.int .i64 0)).setCell ⟨w.heap.size + 2, 5, none⟩ (.slice none 0 0)).setCell ⟨w.heap.size + 2, 6, none⟩ (.slice none 0 0)) = x := ⟨_, rfl⟩
          rw [hU2] at RT gt
          have RZ2 := (gt.block _ (lt_of_block RZ) (by simp)).trans RZ
          obtain ⟨r0, r1, r2, r3, r4, r5, r6, r7⟩ := bkS RZ2
          obtain ⟨t0, t1, t2, t3, t4, t5, t6⟩ := bkF RT
          go_wp2_with fail
          refine bodyPost_ret (by simp [results, Try.results21, go_sem, r0, r1, r2, r3, r4, r5, r6, r7, t0, t1, t2, t3, t4, t5, t6]; try rfl) rfl ?_
          have BB := gr_from (gr_from B1.out B1.out.size (Nat.le_succ _) gz) (by have := B1.out.size; have := gz.size; omega) (by omega) gt
          have hR := HHR.out
          subst hR
          refine ⟨BB, _, _, rfl, ?_, frv_nil _ _⟩
          rw [← HFI.out, ← HNX.out, ← HMX.out, ← HEN.out, ← HOV.out]
          exact ⟨_, _, _, rfl, (HD.out.below BB).more BB.size, (HL.out.below BB).more BB.size, (HA.out.below BB).more BB.size⟩
        · have hR := HR.out
          rw [if_neg c0] at hR
          have HR2 := Lib.hid hR
          clear HR hR
          go_upto_region 12 with fail
          go_cut [93] from 88 to 93 (fun u wx => u = .bool false ∧ wx = w1)
          case first =>
            by_cases hn0 : n = 0
            · have hf1 : fn = true := by
                cases hq : fn with
                | true => rfl
                | false => exact absurd ⟨by omega, hq⟩ c0
              have e1 : ((n : Int) == 0) = true := by simp; omega
              have e2 : (n == 0) = true := by simp; omega
              subst hf1
              clear c0 hn0
              go_wp2_with fail
              go_meet
              exact ⟨rfl, rfl⟩
            · have e1 : ((n : Int) == 0) = false := by simp; omega
              have e2 : (n == 0) = false := by simp; omega
              clear c0 hn0
              go_wp2_with fail
              go_meet
              exact ⟨rfl, rfl⟩
          case rest =>
          obtain ⟨rfl, hwcq⟩ := hcut
          subst wc
          clear c0
          obtain ⟨bn, hbn⟩ : ∃ x, decide (0 < n) = x := ⟨_, rfl⟩
          have HBN := Lib.hid hbn
          clear hbn
          go_upto_region 14 with fail
          go_cut [97] from 96 to 97 (fun u wx => u = .bool bn ∧ wx = w1)
          case first =>
            by_cases hn0 : 0 < n
            · have e1 : decide ((0 : Int) < (n : Int)) = true := by simp; omega
              have e2 : decide (0 < n) = true := by simp; omega
              have hb := HBN.out
              rw [e2] at hb
              subst hb
              clear hn0
              go_wp2_with fail
              go_meet
              exact ⟨rfl, rfl⟩
            · have e1 : decide ((0 : Int) < (n : Int)) = false := by simp; omega
              have e2 : decide (0 < n) = false := by simp; omega
              have hb := HBN.out
              rw [e2] at hb
              subst hb
              clear hn0
              go_wp2_with fail
              go_meet
              exact ⟨rfl, rfl⟩
          case rest =>
          obtain ⟨rfl, hwcq⟩ := hcut
          subst wc
          go_upto_if 97 with fail
          go_cut [] from 98 to 107 (fun wx => ∃ A c, Hid (wx.heap[w.heap.size]? = some (.cells #[.slice Ad nd cd, .bool fi, .int .i64 nx, .int .i64 mx, .slice A L1.length c, .slice Aa na ca, .bool en, .bool ov] 25 (0, 0))) ∧ Hid (wx.heap[w.heap.size + 1]? = some (.cells #[.slice none 0 0, .bool false, .int .i64 0, .int .i64 0, .slice none 0 0, .slice none 0 0, .bool false, .bool false] 25 (0, 0))) ∧ Hid (wx.heap[w.heap.size + 2]? = some (.cells #[.int .i64 0, .int .i64 0, .int .i64 0, .bool false, .int .i64 0, .slice none 0 0, .slice none 0 0] 37 (0, 0))) ∧ Hid (Below w.heap.size w wx) ∧ Hid (∃ base, w.heap.size + 2 < base ∧ (OwnR wx base 61 (.slice A L1.length c) L1 ∨ (.slice A L1.length c = Value.slice Al nl cl ∧ L1 = ps))))
          case first =>
            cases bn with
            | true =>
              have hn0 : 0 < n := of_decide_eq_true HBN.out
              have hL9 : L1 = cutL ((lo : Int), (lo : Int) + (n : Int) - 1) ps := by rw [hL.out, if_pos (by omega)]
              have hrt : okR ((lo : Int), (lo : Int) + (n : Int) - 1) := ⟨by simp only; omega, by simp only; omega, by simp only; omega⟩
              have htt := HTT.out
              rw [show (lo : Int) + (n : Int) - 1 = (tt : Int) - 1 by omega] at hL9 hrt
              have hwo := without_any Al nl cl ps (lo : Int) ((tt : Int) - 1) w1 (HLR.out.on B1.out) HNL.out HKL.out hrt (by omega)
              rw [← hL9] at hwo
              have HWO := Lib.hid hwo
              have x4 : IntKind.i64.wrap ((tt : Int) - 1) = (tt : Int) - 1 := by rw [IntKind.wrap_i64]; omega
              clear hn0 hL9 hrt hwo htt
              go_wp2_with fail
              refine HWO.out.mono ?_
              rintro e w4 ⟨v4, rfl, o4, b4⟩
              obtain ⟨A4, c4, hv4, _, _, _⟩ := o4.slice
              subst hv4
              have O4 := Lib.hid o4
              have F4 := Lib.hid ((b4.block _ (lt_of_block F1.out)).trans F1.out)
              have Z4 := Lib.hid ((b4.block _ (lt_of_block Z1.out)).trans Z1.out)
              have T4 := Lib.hid ((b4.block _ (lt_of_block T1.out)).trans T1.out)
              have B4 := Lib.hid (B1.out.trans (b4.mono B1.out.size))
              clear b4 o4 q0 q1 q2 q3 q4 q5 q6 q7
              obtain ⟨q0, q1, q2, q3, q4, q5, q6, q7⟩ := bkS F4.out
              have qf := fun i => bk_frz F4.out i
              obtain ⟨Y4, hY4⟩ : ∃ x, w4.setCell ⟨w.heap.size, 4, none⟩ (.slice A4 L1.length c4) = x := ⟨_, rfl⟩
              have g4 := gr_set w4 w.heap.size 4 (.slice A4 L1.length c4)
              have FX := (bkS_set F4.out (.slice A4 L1.length c4)).2.2.2.2.1
              rw [hY4] at g4 FX
              have F5 := Lib.hid FX
              have Z5 := Lib.hid ((g4.block _ (lt_of_block Z4.out) (by simp)).trans Z4.out)
              have T5 := Lib.hid ((g4.block _ (lt_of_block T4.out) (by simp)).trans T4.out)
              have O5 := Lib.hid (own_gr O4.out g4 (by omega))
              have B5 := Lib.hid (gr_from B4.out B4.out.size (Nat.le_refl _) g4)
              clear g4 FX
              go_wp2_with fail
              go_meet
              exact ⟨A4, c4, F5, Z5, T5, B5, Lib.hid ⟨_, hw1, .inl O5.out⟩⟩
            | false =>
              have hn0 : ¬ 0 < n := of_decide_eq_false HBN.out
              have hL9 : L1 = ps := by rw [hL.out, if_neg (by omega)]
              have HL9 := Lib.hid (show Value.slice Al L1.length cl = Value.slice Al nl cl ∧ L1 = ps by rw [hL9, HNL.out]; exact ⟨rfl, rfl⟩)
              have HNN := Lib.hid (show L1.length = nl by rw [hL9]; exact HNL.out)
              clear hn0 hL9
              go_wp2_with fail
              go_meet
              exact ⟨Al, cl, by rw [HNN.out]; exact F1, Z1, T1, B1, Lib.hid ⟨_, hw1, .inr HL9.out⟩⟩
          case rest =>
          obtain ⟨A4, c4, F4, Z4, T4, B4, H4⟩ := hcut
          obtain ⟨X4, hX4⟩ : ∃ x, x = wc := ⟨_, rfl⟩
          subst wc
          clear F1 Z1 T1 q0 q1 q2 q3 q4 q5 q6 q7
          have hmax : (if nx < (tt : Int) then (tt : Int) else nx) = nn := by
            have htt := HTT.out
            rw [hN.out, HNX.out]
            split <;> omega
          obtain ⟨ee, hee⟩ : ∃ x, (en || fn) = x := ⟨_, rfl⟩
          have HEE := Lib.hid hee
          obtain ⟨q0, q1, q2, q3, q4, q5, q6, q7⟩ := bkS F4.out
          have qf := fun i => bk_frz F4.out i
          obtain ⟨Y5, hY5⟩ : ∃ x, X4.setCell ⟨w.heap.size, 2, none⟩ (.int .i64 nn) = x := ⟨_, rfl⟩
          have g5 := gr_set X4 w.heap.size 2 (.int .i64 nn)
          have FX5 := (bkS_set F4.out (.int .i64 nn)).2.2.1
          rw [hY5] at g5 FX5
          have F5 := Lib.hid FX5
          have Z5 := Lib.hid ((g5.block _ (lt_of_block Z4.out) (by simp)).trans Z4.out)
          have T5 := Lib.hid ((g5.block _ (lt_of_block T4.out) (by simp)).trans T4.out)
          have B5 := Lib.hid (gr_from B4.out B4.out.size (Nat.le_refl _) g5)
          have G5 := Lib.hid g5
          obtain ⟨k0, k1, k2, k3, k4, k5, k6, k7⟩ := bkS F5.out
          have kf := fun i => bk_frz F5.out i
          obtain ⟨Y6, hY6⟩ : ∃ x, Y5.setCell ⟨w.heap.size, 6, none⟩ (.bool ee) = x := ⟨_, rfl⟩
          have g6 := gr_set Y5 w.heap.size 6 (.bool ee)
          have FX6 := (bkS_set F5.out (.bool ee)).2.2.2.2.2.2.1
          rw [hY6] at g6 FX6
          have F6 := Lib.hid FX6
          have Z6 := Lib.hid ((g6.block _ (lt_of_block Z5.out) (by simp)).trans Z5.out)
          have T6 := Lib.hid ((g6.block _ (lt_of_block T5.out) (by simp)).trans T5.out)
          have B6 := Lib.hid (gr_from B5.out B5.out.size (Nat.le_refl _) g6)
          have G6 := Lib.hid (gr_trans g5 g6)
          clear g5 g6 FX5 FX6 hee
          go_upto_region 17 with fail
          go_cut [] from 115 to 120 (fun wx => wx = Y6)
          case first =>
            cases en with
            | true =>
              have : ee = true := HEE.out.symm
              subst this
              go_wp2_with fail
              go_meet
              rfl
            | false =>
              have : ee = fn := HEE.out.symm
              subst this
              go_wp2_with fail
              go_meet
              rfl
          case rest =>
          have hwcq := hcut
          subst wc
          clear hY5 hY6 kf k0 k1 k2 k3 k4 k5 k6 k7 qf q0 q1 q2 q3 q4 q5 q6 q7 hmax F5 Z5 T5 B5 F4 Z4 T4 B4 G5
          obtain ⟨k0, k1, k2, k3, k4, k5, k6, k7⟩ := bkS F6.out
          obtain ⟨SA, hSA⟩ : ∃ SA, (if cd = lo then Ad else Option.map (fun x => x.add lo) Ad) = SA := ⟨_, rfl⟩
          have HSA := Lib.hid hSA
          have htt := HTT.out
          have i1 : lo ≤ tt := by omega
          have i2 : tt ≤ cd := by omega
          have HI3 := Lib.hid (show tt ≤ nd by omega)
          clear htt
          obtain ⟨RZ, gz⟩ := bkS_put Z6.out (.slice Ad nd cd) (.bool fi) (.int .i64 nn) (.int .i64 mx) (.slice A4 L1.length c4) (.slice Aa na ca) (.bool ee) (.bool ov)
          have hZ0 := lt_of_block Z6.out
          have hT0 := lt_of_block T6.out
          obtain ⟨x0, x1, x2, x3, x4, x5, x6, x7⟩ := bkS Z6.out
          have cf := fun i => bk_frz Z6.out i
          obtain ⟨U1, hU1⟩ : ∃ x, ((((((((Y6.setCell ⟨w.heap.size + 1, 0, none⟩ (.slice Ad nd cd)).setCell ⟨w.heap.size + 1, 1, none⟩ (.bool fi)).setCell ⟨w.heap.size + 1, 2, none⟩ (.int .i64 nn)).setCell ⟨w.heap.size + 1, 3, none⟩ (.int .i64 mx)).setCell ⟨w.heap.size + 1, 4, none⟩ (.slice A4 L1.length c4)).setCell ⟨w.heap.size + 1, 5, none⟩ (.slice Aa na ca)).setCell ⟨w.heap.size + 1, 6, none⟩ (.bool ee)).setCell ⟨w.heap.size + 1, 7, none⟩ (.bool ov)) = x := ⟨_, rfl⟩
          rw [hU1] at RZ gz
          have TU := (gz.block _ hT0 (by simp)).trans T6.out
          obtain ⟨RT, gt⟩ := bkF_put TU (.int .i64 8) (.int .i64 0) (.int .i64 (lo : Int)) (.bool fn) (.int .i64 0) (.slice none 0 0) (.slice SA (tt - lo) (cd - lo))
          obtain ⟨v0, v1, v2, v3, v4, v5, v6⟩ := bkF TU
          have vf := fun i => bk_frz TU i
          obtain ⟨U2, hU2⟩ : ∃ x, (((((((U1.setCell ⟨w.heap.size + 2, 0, none⟩ (.int .i64 8)).setCell ⟨w.heap.size + 2, 1, none⟩ (.int .i64 0)).setCell ⟨w.heap.size + 2, 2, none⟩ (.int .i64 (lo : Int))).setCell ⟨w.heap.size + 2, 3, none⟩ (.bool fn)).setCell ⟨w.heap.size + 2, 4, none⟩ (.int .i64 0)).setCell ⟨w.heap.size + 2, 5, none⟩ (.slice none 0 0)).setCell ⟨w.heap.size + 2, 6, none⟩ (.slice SA (tt - lo) (cd - lo))) = x := ⟨_, rfl⟩
          rw [hU2] at RT gt
          have RZ2 := (gt.block _ (lt_of_block RZ) (by simp)).trans RZ
          obtain ⟨r0, r1, r2, r3, r4, r5, r6, r7⟩ := bkS RZ2
          obtain ⟨t0, t1, t2, t3, t4, t5, t6⟩ := bkF RT
          have KU := bkS ((gz.block _ (lt_of_block F6.out) (by simp)).trans F6.out)
          obtain ⟨y0, y1, y2, y3, y4, y5, y6, y7⟩ := KU
          go_upto_region 18 with fail
          go_region
          all_goals (go_wp2_with fail)
          all_goals (refine bodyPost_ret (by simp [results, Try.results21, go_sem, r0, r1, r2, r3, r4, r5, r6, r7, t0, t1, t2, t3, t4, t5, t6]; try rfl) rfl ?_)
          all_goals (
            have BB := gr_from (gr_from B6.out B6.out.size (Nat.le_succ _) gz) (by have := B6.out.size; have := gz.size; omega) (by omega) gt
            have hR := HR2.out
            subst hR
            have hE : ee = (s.ended || fn) := by rw [← HEE.out, HEN.out]
            rw [← HFI.out, ← HMX.out, ← HOV.out, hE]
            have hl9 : RSl U2 U2.heap.size (.slice A4 L1.length c4) L1 := by
              obtain ⟨base, hb, h4⟩ := H4.out
              rcases h4 with o | ⟨e1, e2⟩
              · obtain ⟨A9, c9, e9, h1, h2, h3⟩ := OwnR.slice (own_gr (own_gr (own_gr o G6.out (by omega)) gz (by omega)) gt (by omega))
                exact ⟨A9, c9, e9, h1, h2, h3⟩
              · rw [e1, e2, ← HPS.out]; exact (HL.out.below BB).more BB.size
            have hd9 := (HD.out.below BB).more BB.size
            have hpt := txt_partX hd9 HND.out i1 HI3.out HSA.out
            have htt := HTT.out
            have hn9 : tt - lo = n := by omega
            rw [hn9] at hpt ⊢
            have KB : Below U2.heap.size U2 U2.drew := (Below.refl _ _).drew
            refine ⟨BB.drew, _, _, rfl, ⟨_, _, _, rfl, hd9.on9 KB, hl9.on9 KB, ((HA.out.below BB).more BB.size).on9 KB⟩, ?_⟩
            exact ⟨_, _, rfl, RSl.nil _ _, hpt.on9 KB⟩)
    · rw [if_pos (by omega)]
      have u1 : upB2 room 120 = false := upB2_no (by omega)
      clear hv hw hd hl ha hfi hnx hmx hen hov ok hf hnd hnl hna PIS a1
      go_enter Try.func21, Try.ntmps21
      go_upto_region 5 with (first
        | (go_at_call 13; refine (HF.out _ B0.out).mono ?_; rintro e w1 ⟨rfl, b1⟩; have B1 := Lib.hid (B0.out.trans (b1.mono B0.out.size)); have F1 := Lib.hid ((b1.block _ (lt_of_block F0.out)).trans F0.out); have Z1 := Lib.hid ((b1.block _ (lt_of_block Z0.out)).trans Z0.out); have T1 := Lib.hid ((b1.block _ (lt_of_block T0.out)).trans T0.out); clear b1; obtain ⟨q0, q1, q2, q3, q4, q5, q6, q7⟩ := bkS F1.out)
        | (go_at_call 37; refine (upTo_any _ _ _).mono ?_; rintro e w9 ⟨rfl, rfl⟩))
      obtain ⟨RZ, gz⟩ := bkS_put Z1.out (.slice none 0 0) (.bool false) (.int .i64 0) (.int .i64 0) (.slice none 0 0) (.slice none 0 0) (.bool false) (.bool false)
      have hZ0 := lt_of_block Z1.out
      have hT0 := lt_of_block T1.out
      obtain ⟨x0, x1, x2, x3, x4, x5, x6, x7⟩ := bkS Z1.out
      have cf := fun i => bk_frz Z1.out i
      obtain ⟨U1, hU1⟩ : ∃ x, ((((((((w1.setCell ⟨w.heap.size + 1, 0, none⟩ (.slice none 0 0)).setCell ⟨w.heap.size + 1, 1, none⟩ (.bool false)).setCell ⟨w.heap.size + 1, 2, none⟩ (.int .i64 0)).setCell ⟨w.heap.size + 1, 3, none⟩ (.int .i64 0)).setCell ⟨w.heap.size + 1, 4, none⟩ (.slice none 0 0)).setCell ⟨w.heap.size + 1, 5, none⟩ (.slice none 0 0)).setCell ⟨w.heap.size + 1, 6, none⟩ (.bool false)).setCell ⟨w.heap.size + 1, 7, none⟩ (.bool false)) = x := ⟨_, rfl⟩
      rw [hU1] at RZ gz
      have TU := (gz.block _ hT0 (by simp)).trans T1.out
      obtain ⟨RT, gt⟩ := bkF_put TU (.int .i64 0) (.int .i64 0) (.int .i64 0) (.bool false) (.int .i64 0) (.slice none 0 0) (.slice none 0 0)
      obtain ⟨v0, v1, v2, v3, v4, v5, v6⟩ := bkF TU
      have vf := fun i => bk_frz TU i
      obtain ⟨U2, hU2⟩ : ∃ x, (((((((U1.setCell ⟨w.heap.size + 2, 0, none⟩ (.int .i64 0)).setCell ⟨w.heap.size + 2, 1, none⟩ (.int .i64 0)).setCell ⟨w.heap.size + 2, 2, none⟩ (.int .i64 0)).setCell ⟨w.heap.size + 2, 3, none⟩ (.bool false)).setCell ⟨w.heap.size + 2, 4, none⟩ (.int .i64 0)).setCell ⟨w.heap.size + 2, 5, none⟩ (.slice none 0 0)).setCell ⟨w.heap.size + 2, 6, none⟩ (.slice none 0 0)) = x := ⟨_, rfl⟩
      rw [hU2] at RT gt
      have RZ2 := (gt.block _ (lt_of_block RZ) (by simp)).trans RZ
      obtain ⟨r0, r1, r2, r3, r4, r5, r6, r7⟩ := bkS RZ2
      obtain ⟨t0, t1, t2, t3, t4, t5, t6⟩ := bkF RT
      go_wp2_with fail
      refine bodyPost_ret (by simp [results, Try.results21, go_sem, r0, r1, r2, r3, r4, r5, r6, r7, t0, t1, t2, t3, t4, t5, t6]; try rfl) rfl ?_
      have BB := gr_from (gr_from B1.out B1.out.size (Nat.le_succ _) gz) (by have := B1.out.size; have := gz.size; omega) (by omega) gt
      exact ⟨BB, _, _, rfl, SnVal.nil _ _, frv_nil _ _⟩
  · rw [if_pos hf]
    clear hv hw hd hl ha hfi hnx hmx hen hov hnd hnl hna PIS
    obtain ⟨x, hx⟩ : ∃ x, faultSn s = x := ⟨_, rfl⟩
    rw [hx] at HF hf ⊢
    have gx : (x != 0) = true := by simp [hf]
    clear hx hf
    go_enter Try.func21, Try.ntmps21
    go_upto_region 3 with (first
      | (go_at_call 13; refine (HF.out _ B0.out).mono ?_; rintro e w1 ⟨rfl, b1⟩; have B1 := Lib.hid (B0.out.trans (b1.mono B0.out.size)); have F1 := Lib.hid ((b1.block _ (lt_of_block F0.out)).trans F0.out); have Z1 := Lib.hid ((b1.block _ (lt_of_block Z0.out)).trans Z0.out); have T1 := Lib.hid ((b1.block _ (lt_of_block T0.out)).trans T0.out); clear b1; obtain ⟨q0, q1, q2, q3, q4, q5, q6, q7⟩ := bkS F1.out)
      | (go_at_call 37; refine (upTo_any _ _ _).mono ?_; rintro e w9 ⟨rfl, rfl⟩))
    obtain ⟨RZ, gz⟩ := bkS_put Z1.out (.slice none 0 0) (.bool false) (.int .i64 0) (.int .i64 0) (.slice none 0 0) (.slice none 0 0) (.bool false) (.bool false)
    have hZ0 := lt_of_block Z1.out
    have hT0 := lt_of_block T1.out
    obtain ⟨x0, x1, x2, x3, x4, x5, x6, x7⟩ := bkS Z1.out
    have cf := fun i => bk_frz Z1.out i
    obtain ⟨U1, hU1⟩ : ∃ x, ((((((((w1.setCell ⟨w.heap.size + 1, 0, none⟩ (.slice none 0 0)).setCell ⟨w.heap.size + 1, 1, none⟩ (.bool false)).setCell ⟨w.heap.size + 1, 2, none⟩ (.int .i64 0)).setCell ⟨w.heap.size + 1, 3, none⟩ (.int .i64 0)).setCell ⟨w.heap.size + 1, 4, none⟩ (.slice none 0 0)).setCell ⟨w.heap.size + 1, 5, none⟩ (.slice none 0 0)).setCell ⟨w.heap.size + 1, 6, none⟩ (.bool false)).setCell ⟨w.heap.size + 1, 7, none⟩ (.bool false)) = x := ⟨_, rfl⟩
    rw [hU1] at RZ gz
    have TU := (gz.block _ hT0 (by simp)).trans T1.out
    obtain ⟨RT, gt⟩ := bkF_put TU (.int .i64 0) (.int .i64 0) (.int .i64 0) (.bool false) (.int .i64 0) (.slice none 0 0) (.slice none 0 0)
    obtain ⟨v0, v1, v2, v3, v4, v5, v6⟩ := bkF TU
    have vf := fun i => bk_frz TU i
    obtain ⟨U2, hU2⟩ : ∃ x, (((((((U1.setCell ⟨w.heap.size + 2, 0, none⟩ (.int .i64 0)).setCell ⟨w.heap.size + 2, 1, none⟩ (.int .i64 0)).setCell ⟨w.heap.size + 2, 2, none⟩ (.int .i64 0)).setCell ⟨w.heap.size + 2, 3, none⟩ (.bool false)).setCell ⟨w.heap.size + 2, 4, none⟩ (.int .i64 0)).setCell ⟨w.heap.size + 2, 5, none⟩ (.slice none 0 0)).setCell ⟨w.heap.size + 2, 6, none⟩ (.slice none 0 0)) = x := ⟨_, rfl⟩
    rw [hU2] at RT gt
    have RZ2 := (gt.block _ (lt_of_block RZ) (by simp)).trans RZ
    obtain ⟨r0, r1, r2, r3, r4, r5, r6, r7⟩ := bkS RZ2
    obtain ⟨t0, t1, t2, t3, t4, t5, t6⟩ := bkF RT
    go_wp2_with fail
    refine bodyPost_ret (by simp [results, Try.results21, go_sem, r0, r1, r2, r3, r4, r5, r6, r7, t0, t1, t2, t3, t4, t5, t6]; try rfl) rfl ?_
    have BB := gr_from (gr_from B1.out B1.out.size (Nat.le_succ _) gz) (by have := B1.out.size; have := gz.size; omega) (by omega) gt
    exact ⟨BB, _, _, rfl, SnVal.nil _ _, frv_nil _ _⟩
end Go.Proofs.Ytkpkgegonfcgnaa
