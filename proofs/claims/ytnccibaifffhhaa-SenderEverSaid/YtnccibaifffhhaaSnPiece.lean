/- Contract of package sender: Piece. -/
import Derived.Test.YtnccibaifffhhaaSnStep
import Derived.Test.YtnccibaifffhhaaSnGrant
import Derived.Test.YtnccibaifffhhaaTxtPart
namespace Go.Proofs.Ytnccibaifffhhaa
set_option linter.unusedVariables false
open Go.RowKit P

/-- a frame in new memory -/
structure FrF (w : World) (lo : Nat) (v : Value) (f : Fr) : Prop where
  ex : ∃ r d, v = .agg #[.int .i64 f.kind, .int .i64 f.id, .int .i64 f.off, .bool f.fin, .int .i64 f.code, r, d] ∧ RF w lo r f.rs ∧ BF w lo d f.data
theorem FrF.now {w : World} {lo : Nat} {v : Value} {f : Fr} (h : FrF w lo v f) : FrVal w w.heap.size v f := by
  obtain ⟨r, d, e, h1, h2⟩ := h.ex
  exact ⟨r, d, e, h1.now, h2.now⟩
theorem FrF.nil (w : World) (lo : Nat) : FrF w lo (.agg #[.int .i64 0, .int .i64 0, .int .i64 0, .bool false, .int .i64 0, .slice none 0 0, .slice none 0 0]) fr00 := ⟨_, _, rfl, RF.nil _ _, BF.nil _ _⟩
/-- what Piece answers, in new memory -/
structure SnPcF (r : Sn × Fr × Bool × Int) (w : World) (e : Ending) (w' : World) : Prop where
  be : Below w.heap.size w w'
  ex : ∃ u t, e = .returned (.tuple #[u, t, .bool r.2.2.1, .int .i64 r.2.2.2]) ∧ SnF w' w.heap.size u r.1 ∧ FrF w' w.heap.size t r.2.1
theorem SnPcF.toRes {r : Sn × Fr × Bool × Int} {w : World} {e : Ending} {w' : World} (h : SnPcF r w e w') : SnPcRes r w e w' := by
  obtain ⟨u, t, h1, h2, h3⟩ := h.ex
  exact ⟨h.be, u, t, h1, h2.now, h3.now⟩
theorem bf_on {w w' : World} {lo : Nat} {v : Value} {f : Sn} (h : SnF w lo v f) (k : Keeps lo w w') : SnF w' lo v f := h.on k
set_option maxRecDepth 100000 in
set_option maxHeartbeats 2000000 in
theorem snPiece_F (v : Value) (s : Sn) (room credit : Int) (w : World) (hv : SnVal w w.heap.size v s) (hw : SnWf s) : Calls Try.prog 10 #[v, .int .i64 room, .int .i64 credit] w (SnPcF (pieceS s room credit) w) := by
  obtain ⟨d, l, a, rfl, hd, hl, ha⟩ := hv.ex
  have HF := Lib.hid (fun w' (hb : Below w.heap.size w w') => snChk_any _ s w' (hv.on hb) hw)
  have HC := Lib.hid (fun w' (hb : Below w.heap.size w w') => sncopied_any _ s w' (hv.on hb) hw)
  obtain ⟨fi, hfi⟩ : ∃ x, s.fin = x := ⟨_, rfl⟩
  obtain ⟨nx, hnx⟩ : ∃ x, s.next = x := ⟨_, rfl⟩
  obtain ⟨mx, hmx⟩ : ∃ x, s.mx = x := ⟨_, rfl⟩
  obtain ⟨en, hen⟩ : ∃ x, s.ended = x := ⟨_, rfl⟩
  obtain ⟨ov, hov⟩ : ∃ x, s.over = x := ⟨_, rfl⟩
  rw [hfi, hnx, hmx, hen, hov] at HF HC ⊢
  obtain ⟨g0, g1, g2, g3⟩ := threeX w #[d, .bool fi, .int .i64 nx, .int .i64 mx, l, a, .bool en, .bool ov] #[.slice none 0 0, .bool false, .int .i64 0, .int .i64 0, .slice none 0 0, .slice none 0 0, .bool false, .bool false] #[.int .i64 0, .int .i64 0, .int .i64 0, .bool false, .int .i64 0, .slice none 0 0, .slice none 0 0] 27 27 35
  have F0 := Lib.hid g0
  have Z0 := Lib.hid g1
  have T0 := Lib.hid g2
  have B0 := Lib.hid g3
  clear g0 g1 g2 g3
  unfold pieceS
  by_cases hf : faultSn s = 0
  · have ok := (fault_iff s).1 hf
    rw [if_neg (fun e => e hf)]
    rw [hf] at HF
    by_cases a1 : room < 0
    · rw [if_pos (by omega)]
      clear HC hv hw hd hl ha hfi hnx hmx hen hov ok hf
      go_enter Try.func10, Try.ntmps10
      go_upto_region 5 with (first
        | (go_at_call 14; refine (HF.out _ B0.out).mono ?_; rintro e w1 ⟨rfl, b1⟩; have B1 := Lib.hid (B0.out.trans (b1.mono B0.out.size)); have F1 := Lib.hid ((b1.block _ (lt_of_block F0.out)).trans F0.out); have Z1 := Lib.hid ((b1.block _ (lt_of_block Z0.out)).trans Z0.out); have T1 := Lib.hid ((b1.block _ (lt_of_block T0.out)).trans T0.out); clear b1; obtain ⟨q0, q1, q2, q3, q4, q5, q6, q7⟩ := bkS F1.out))
      obtain ⟨RZ, gz⟩ := bkS_put Z1.out (.slice none 0 0) (.bool false) (.int .i64 0) (.int .i64 0) (.slice none 0 0) (.slice none 0 0) (.bool false) (.bool false)
      have hZ0 := lt_of_block Z1.out
      have hT0 := lt_of_block T1.out
      obtain ⟨x0, x1, x2, x3, x4, x5, x6, x7⟩ := bkS Z1.out
      have cf := fun i => bk_frz Z1.out i
      obtain ⟨U1, hU1⟩ : ∃ x, ((((((((w1.setCell ⟨w.heap.size + 1, 0, none⟩ (.slice none 0 0)).setCell ⟨w.heap.size + 1, 1, none⟩ (.bool false)).setCell ⟨w.heap.size + 1, 2, none⟩ (.int .i64 0)).setCell ⟨w.heap.size + 1, 3, none⟩ (.int .i64 0)).setCell ⟨w.heap.size + 1, 4, none⟩ (.slice none 0 0)).setCell ⟨w.heap.size + 1, 5, none⟩ (.slice none 0 0)).setCell ⟨w.heap.size + 1, 6, none⟩ (.bool false)).setCell ⟨w.heap.size + 1, 7, none⟩ (.bool false)) = x := ⟨_, rfl⟩
      rw [hU1] at RZ gz
      have TU := (gz.block _ hT0 (by simp)).trans T1.out
      obtain ⟨RT, gt⟩ := bkF_put TU (.int .i64 0) (.int .i64 0) (.int .i64 0) (.bool false) (.int .i64 0) (.slice none 0 0) (.slice none 0 0)
      obtain ⟨v0, v1, v2, v3, v4, v5, v6⟩ := bkF TU
      have vf := fun i => bk_frz TU i
      obtain ⟨U2, hU2⟩ : ∃ x, (((((((U1.setCell ⟨w.heap.size + 2, 0, none⟩ (.int .i64 0)).setCell ⟨w.heap.size + 2, 1, none⟩ (.int .i64 0)).setCell ⟨w.heap.size + 2, 2, none⟩ (.int .i64 0)).setCell ⟨w.heap.size + 2, 3, none⟩ (.bool false)).setCell ⟨w.heap.size + 2, 4, none⟩ (.int .i64 0)).setCell ⟨w.heap.size + 2, 5, none⟩ (.slice none 0 0)).setCell ⟨w.heap.size + 2, 6, none⟩ (.slice none 0 0)) = x := ⟨_, rfl⟩
      rw [hU2] at RT gt
      have RZ2 := (gt.block _ (lt_of_block RZ) (by simp)).trans RZ
      obtain ⟨r0, r1, r2, r3, r4, r5, r6, r7⟩ := bkS RZ2
      obtain ⟨t0, t1, t2, t3, t4, t5, t6⟩ := bkF RT
      go_wp2_with fail
      refine bodyPost_ret (by simp [results, Try.results10, go_sem, r0, r1, r2, r3, r4, r5, r6, r7, t0, t1, t2, t3, t4, t5, t6]; try rfl) rfl ?_
      have BB := gr_from (gr_from B1.out B1.out.size (Nat.le_succ _) gz) (by have := B1.out.size; have := gz.size; omega) (by omega) gt
      exact ⟨BB, _, _, rfl, SnF.nil _ _, FrF.nil _ _⟩
    · by_cases a2 : 120 < room
      · rw [if_pos (by omega)]
        clear HC hv hw hd hl ha hfi hnx hmx hen hov ok hf
        go_enter Try.func10, Try.ntmps10
        go_upto_region 5 with (first
          | (go_at_call 14; refine (HF.out _ B0.out).mono ?_; rintro e w1 ⟨rfl, b1⟩; have B1 := Lib.hid (B0.out.trans (b1.mono B0.out.size)); have F1 := Lib.hid ((b1.block _ (lt_of_block F0.out)).trans F0.out); have Z1 := Lib.hid ((b1.block _ (lt_of_block Z0.out)).trans Z0.out); have T1 := Lib.hid ((b1.block _ (lt_of_block T0.out)).trans T0.out); clear b1; obtain ⟨q0, q1, q2, q3, q4, q5, q6, q7⟩ := bkS F1.out))
        obtain ⟨RZ, gz⟩ := bkS_put Z1.out (.slice none 0 0) (.bool false) (.int .i64 0) (.int .i64 0) (.slice none 0 0) (.slice none 0 0) (.bool false) (.bool false)
        have hZ0 := lt_of_block Z1.out
        have hT0 := lt_of_block T1.out
        obtain ⟨x0, x1, x2, x3, x4, x5, x6, x7⟩ := bkS Z1.out
        have cf := fun i => bk_frz Z1.out i
        obtain ⟨U1, hU1⟩ : ∃ x, ((((((((w1.setCell ⟨w.heap.size + 1, 0, none⟩ (.slice none 0 0)).setCell ⟨w.heap.size + 1, 1, none⟩ (.bool false)).setCell ⟨w.heap.size + 1, 2, none⟩ (.int .i64 0)).setCell ⟨w.heap.size + 1, 3, none⟩ (.int .i64 0)).setCell ⟨w.heap.size + 1, 4, none⟩ (.slice none 0 0)).setCell ⟨w.heap.size + 1, 5, none⟩ (.slice none 0 0)).setCell ⟨w.heap.size + 1, 6, none⟩ (.bool false)).setCell ⟨w.heap.size + 1, 7, none⟩ (.bool false)) = x := ⟨_, rfl⟩
        rw [hU1] at RZ gz
        have TU := (gz.block _ hT0 (by simp)).trans T1.out
        obtain ⟨RT, gt⟩ := bkF_put TU (.int .i64 0) (.int .i64 0) (.int .i64 0) (.bool false) (.int .i64 0) (.slice none 0 0) (.slice none 0 0)
        obtain ⟨v0, v1, v2, v3, v4, v5, v6⟩ := bkF TU
        have vf := fun i => bk_frz TU i
        obtain ⟨U2, hU2⟩ : ∃ x, (((((((U1.setCell ⟨w.heap.size + 2, 0, none⟩ (.int .i64 0)).setCell ⟨w.heap.size + 2, 1, none⟩ (.int .i64 0)).setCell ⟨w.heap.size + 2, 2, none⟩ (.int .i64 0)).setCell ⟨w.heap.size + 2, 3, none⟩ (.bool false)).setCell ⟨w.heap.size + 2, 4, none⟩ (.int .i64 0)).setCell ⟨w.heap.size + 2, 5, none⟩ (.slice none 0 0)).setCell ⟨w.heap.size + 2, 6, none⟩ (.slice none 0 0)) = x := ⟨_, rfl⟩
        rw [hU2] at RT gt
        have RZ2 := (gt.block _ (lt_of_block RZ) (by simp)).trans RZ
        obtain ⟨r0, r1, r2, r3, r4, r5, r6, r7⟩ := bkS RZ2
        obtain ⟨t0, t1, t2, t3, t4, t5, t6⟩ := bkF RT
        go_wp2_with fail
        refine bodyPost_ret (by simp [results, Try.results10, go_sem, r0, r1, r2, r3, r4, r5, r6, r7, t0, t1, t2, t3, t4, t5, t6]; try rfl) rfl ?_
        have BB := gr_from (gr_from B1.out B1.out.size (Nat.le_succ _) gz) (by have := B1.out.size; have := gz.size; omega) (by omega) gt
        exact ⟨BB, _, _, rfl, SnF.nil _ _, FrF.nil _ _⟩
      · by_cases a3 : credit < 0
        · rw [if_pos (by omega)]
          clear HC hv hw hd hl ha hfi hnx hmx hen hov ok hf
          go_enter Try.func10, Try.ntmps10
          go_upto_region 5 with (first
            | (go_at_call 14; refine (HF.out _ B0.out).mono ?_; rintro e w1 ⟨rfl, b1⟩; have B1 := Lib.hid (B0.out.trans (b1.mono B0.out.size)); have F1 := Lib.hid ((b1.block _ (lt_of_block F0.out)).trans F0.out); have Z1 := Lib.hid ((b1.block _ (lt_of_block Z0.out)).trans Z0.out); have T1 := Lib.hid ((b1.block _ (lt_of_block T0.out)).trans T0.out); clear b1; obtain ⟨q0, q1, q2, q3, q4, q5, q6, q7⟩ := bkS F1.out))
          obtain ⟨RZ, gz⟩ := bkS_put Z1.out (.slice none 0 0) (.bool false) (.int .i64 0) (.int .i64 0) (.slice none 0 0) (.slice none 0 0) (.bool false) (.bool false)
          have hZ0 := lt_of_block Z1.out
          have hT0 := lt_of_block T1.out
          obtain ⟨x0, x1, x2, x3, x4, x5, x6, x7⟩ := bkS Z1.out
          have cf := fun i => bk_frz Z1.out i
          obtain ⟨U1, hU1⟩ : ∃ x, ((((((((w1.setCell ⟨w.heap.size + 1, 0, none⟩ (.slice none 0 0)).setCell ⟨w.heap.size + 1, 1, none⟩ (.bool false)).setCell ⟨w.heap.size + 1, 2, none⟩ (.int .i64 0)).setCell ⟨w.heap.size + 1, 3, none⟩ (.int .i64 0)).setCell ⟨w.heap.size + 1, 4, none⟩ (.slice none 0 0)).setCell ⟨w.heap.size + 1, 5, none⟩ (.slice none 0 0)).setCell ⟨w.heap.size + 1, 6, none⟩ (.bool false)).setCell ⟨w.heap.size + 1, 7, none⟩ (.bool false)) = x := ⟨_, rfl⟩
          rw [hU1] at RZ gz
          have TU := (gz.block _ hT0 (by simp)).trans T1.out
          obtain ⟨RT, gt⟩ := bkF_put TU (.int .i64 0) (.int .i64 0) (.int .i64 0) (.bool false) (.int .i64 0) (.slice none 0 0) (.slice none 0 0)
          obtain ⟨v0, v1, v2, v3, v4, v5, v6⟩ := bkF TU
          have vf := fun i => bk_frz TU i
          obtain ⟨U2, hU2⟩ : ∃ x, (((((((U1.setCell ⟨w.heap.size + 2, 0, none⟩ (.int .i64 0)).setCell ⟨w.heap.size + 2, 1, none⟩ (.int .i64 0)).setCell ⟨w.heap.size + 2, 2, none⟩ (.int .i64 0)).setCell ⟨w.heap.size + 2, 3, none⟩ (.bool false)).setCell ⟨w.heap.size + 2, 4, none⟩ (.int .i64 0)).setCell ⟨w.heap.size + 2, 5, none⟩ (.slice none 0 0)).setCell ⟨w.heap.size + 2, 6, none⟩ (.slice none 0 0)) = x := ⟨_, rfl⟩
          rw [hU2] at RT gt
          have RZ2 := (gt.block _ (lt_of_block RZ) (by simp)).trans RZ
          obtain ⟨r0, r1, r2, r3, r4, r5, r6, r7⟩ := bkS RZ2
          obtain ⟨t0, t1, t2, t3, t4, t5, t6⟩ := bkF RT
          go_wp2_with fail
          refine bodyPost_ret (by simp [results, Try.results10, go_sem, r0, r1, r2, r3, r4, r5, r6, r7, t0, t1, t2, t3, t4, t5, t6]; try rfl) rfl ?_
          have BB := gr_from (gr_from B1.out B1.out.size (Nat.le_succ _) gz) (by have := B1.out.size; have := gz.size; omega) (by omega) gt
          exact ⟨BB, _, _, rfl, SnF.nil _ _, FrF.nil _ _⟩
        · rw [if_neg (by omega)]
          have dr1 : decide (room < 0) = false := decide_eq_false a1
          have dr2 : decide (120 < room) = false := decide_eq_false a2
          have dr3 : decide (credit < 0) = false := decide_eq_false a3
          have hrm : 0 ≤ room ∧ room ≤ 120 ∧ 0 ≤ credit := by omega
          have pis := piece_is ok hrm
          have OK := Lib.hid ok
          have HS := Lib.hid (fun d l a w' (h : SnVal w' w'.heap.size (.agg #[d, .bool s.fin, .int .i64 s.next, .int .i64 s.mx, l, a, .bool s.ended, .bool s.over]) s) => step_any d l a s room credit w' h hw OK.out hrm)
          unfold StepPost at HS
          have hN := Lib.hid (show stNext s room credit = max s.next (pcLo s room + pcN s room credit) from rfl)
          have hL := Lib.hid (show stLost s room credit = if 0 < pcN s room credit then cutL (pcLo s room, pcLo s room + pcN s room credit - 1) s.lost else s.lost from rfl)
          rw [← hN.out, ← hL.out]
          have hT : pcTo s room credit = pcLo s room + pcN s room credit := rfl
          have hFN := Lib.hid (show pcFin s room credit = (fi && !en && !ov && decide (pcTo s room credit = s.data.length)) by unfold pcFin; rw [hfi, hen, hov]; rfl)
          obtain ⟨n, hn⟩ : ∃ x : Nat, pcN s room credit = (x : Int) := ⟨(pcN s room credit).toNat, by omega⟩
          obtain ⟨lo, hlo⟩ : ∃ x : Nat, pcLo s room = (x : Int) := ⟨(pcLo s room).toNat, by omega⟩
          obtain ⟨tt, htt⟩ : ∃ x : Nat, pcTo s room credit = (x : Int) := ⟨(pcTo s room credit).toNat, by omega⟩
          obtain ⟨fn, hfn⟩ : ∃ x, pcFin s room credit = x := ⟨_, rfl⟩
          obtain ⟨nn, hnn⟩ : ∃ x, stNext s room credit = x := ⟨_, rfl⟩
          obtain ⟨L1, hL1⟩ : ∃ x, stLost s room credit = x := ⟨_, rfl⟩
          rw [hn, hlo] at hN hL pis hT
          rw [hnn] at hN
          rw [hL1] at hL
          rw [htt] at hT hFN
          rw [hfn] at hFN
          rw [hlo, htt, hnn, hL1] at HS
          rw [hn, hlo, hfn, hnn, hL1]
          obtain ⟨p1, p2, p3, p4, p5, p6⟩ := pis
          have hk1 := ok.1
          have hk2 := ok.2.1
          rw [hnx] at p4 hk2
          rw [hfi, hnx, hmx, hen, hov] at HS
          have HFI := Lib.hid hfi
          have HNX := Lib.hid hnx
          have HMX := Lib.hid hmx
          have HEN := Lib.hid hen
          have HOV := Lib.hid hov
          obtain ⟨nd, hnd⟩ : ∃ x, s.data.length = x := ⟨_, rfl⟩
          have HND := Lib.hid hnd
          rw [hnd] at p5 hk1 hk2 hFN
          clear hv hw hd hl ha hf ok hn hlo htt hfn hnn hL1 hfi hnx hmx hen hov hnd hrm
          have HT := Lib.hid hT
          clear hT
          rw [Int.toNat_natCast, Int.toNat_natCast]
          obtain ⟨R, hR⟩ : ∃ x, (if (n : Int) = 0 ∧ fn = false then (s, fr00, false, 0) else ({ s with lost := L1, next := nn, ended := s.ended || fn }, ⟨8, 0, lo, fn, 0, [], (s.data.drop lo).take n⟩, true, 0) : Sn × Fr × Bool × Int) = x := ⟨_, rfl⟩
          have HR := Lib.hid hR
          rw [hR]
          clear hR
          go_enter Try.func10, Try.ntmps10
          go_upto_region 6 with (first
            | (go_at_call 14; refine (HF.out _ B0.out).mono ?_; rintro e w1 ⟨rfl, b1⟩; have B1 := Lib.hid (B0.out.trans (b1.mono B0.out.size)); have F1 := Lib.hid ((b1.block _ (lt_of_block F0.out)).trans F0.out); have Z1 := Lib.hid ((b1.block _ (lt_of_block Z0.out)).trans Z0.out); have T1 := Lib.hid ((b1.block _ (lt_of_block T0.out)).trans T0.out); clear b1; obtain ⟨q0, q1, q2, q3, q4, q5, q6, q7⟩ := bkS F1.out))
          go_wp2_with fail
          refine (HC.out _ B1.out).mono ?_
          rintro e w2 ⟨u2, rfl, o2, b2⟩
          obtain ⟨d2, l2, a2, rfl, od, oby, ol, oa, oap⟩ := o2.ex
          obtain ⟨Ad, cd, hd2, hdc, hdm, hdn, hdr⟩ := (own_bsl od oby).ex
          obtain ⟨Al, cl, hl2, hlc, hlm, hlr⟩ := ol.slice
          obtain ⟨Aa, ca, ha2, hac, ham, har⟩ := oa.slice
          subst hd2 hl2 ha2
          have SV2 : SnVal w2 w2.heap.size (.agg #[.slice Ad s.data.length cd, .bool s.fin, .int .i64 s.next, .int .i64 s.mx, .slice Al s.lost.length cl, .slice Aa s.acked.length ca, .bool s.ended, .bool s.over]) s := ⟨_, _, _, rfl, own_bsl od oby, ⟨Al, cl, rfl, hlc, hlm, hlr⟩, ⟨Aa, ca, rfl, hac, ham, har⟩⟩
          rw [HFI.out, HNX.out, HMX.out, HEN.out, HOV.out, HND.out] at SV2 ⊢
          have HS2 := Lib.hid (HS.out _ _ _ _ SV2)
          rw [HND.out] at hdc
          have OD := Lib.hid od
          rw [HND.out] at OD
          have OL := Lib.hid ol
          have OA := Lib.hid oa
          have HBY := Lib.hid oby
          have B2 := Lib.hid (B1.out.trans (b2.mono B1.out.size))
          have F2 := Lib.hid ((b2.block _ (lt_of_block F1.out)).trans F1.out)
          have Z2 := Lib.hid ((b2.block _ (lt_of_block Z1.out)).trans Z1.out)
          have T2 := Lib.hid ((b2.block _ (lt_of_block T1.out)).trans T1.out)
          have hw1 := lt_of_block T1.out
          have hw12 := b2.size
          clear b2 od oby ol oa oap o2 hdn hdr hlr har SV2 q0 q1 q2 q3 q4 q5 q6 q7
          go_wp2_with fail
          refine HS2.out.mono ?_
          rintro e w3 ⟨l3, rfl, h3, b3⟩
          have OD3 := Lib.hid (own_later2 OD.out b3)
          have OA3 := Lib.hid (own_later2 OA.out b3)
          have OL3 : Hid (∃ A c, l3 = .slice A L1.length c ∧ OwnR w3 w1.heap.size 63 (.slice A L1.length c) L1) := by
            rcases h3 with ⟨rfl, e⟩ | ⟨A, c, rfl, o⟩
            · rw [e]; exact Lib.hid ⟨_, _, rfl, own_later2 OL.out b3⟩
            · exact Lib.hid ⟨_, _, rfl, own_lowR o hw12⟩
          obtain ⟨A3, c3, hl3, ol3⟩ := OL3.out
          subst hl3
          clear OL3 h3
          have OL3 := Lib.hid ol3
          have B3 := Lib.hid (B2.out.trans (b3.mono B2.out.size))
          have F3 := Lib.hid ((b3.block _ (lt_of_block F2.out)).trans F2.out)
          have Z3 := Lib.hid ((b3.block _ (lt_of_block Z2.out)).trans Z2.out)
          have T3 := Lib.hid ((b3.block _ (lt_of_block T2.out)).trans T2.out)
          clear b3 ol3 OD OL OA HS HS2 HC HF
          obtain ⟨FX, gx⟩ := bkS_put F3.out (.slice Ad nd cd) (.bool fi) (.int .i64 nn) (.int .i64 mx) (.slice A3 L1.length c3) (.slice Aa s.acked.length ca) (.bool en) (.bool ov)
          obtain ⟨q0, q1, q2, q3, q4, q5, q6, q7⟩ := bkS F3.out
          have qf := fun i => bk_frz F3.out i
          obtain ⟨Y3, hY3⟩ : ∃ x, ((((((((w3.setCell ⟨w.heap.size, 0, none⟩ (.slice Ad nd cd)).setCell ⟨w.heap.size, 1, none⟩ (.bool fi)).setCell ⟨w.heap.size, 2, none⟩ (.int .i64 nn)).setCell ⟨w.heap.size, 3, none⟩ (.int .i64 mx)).setCell ⟨w.heap.size, 4, none⟩ (.slice A3 L1.length c3)).setCell ⟨w.heap.size, 5, none⟩ (.slice Aa s.acked.length ca)).setCell ⟨w.heap.size, 6, none⟩ (.bool en)).setCell ⟨w.heap.size, 7, none⟩ (.bool ov)) = x := ⟨_, rfl⟩
          rw [hY3] at FX gx
          have F4 := Lib.hid FX
          have Z4 := Lib.hid ((gx.block _ (lt_of_block Z3.out) (by simp)).trans Z3.out)
          have T4 := Lib.hid ((gx.block _ (lt_of_block T3.out) (by simp)).trans T3.out)
          have OD4 := Lib.hid (own_gr OD3.out gx (by omega))
          have OL4 := Lib.hid (own_gr OL3.out gx (by omega))
          have OA4 := Lib.hid (own_gr OA3.out gx (by omega))
          have B4 := Lib.hid (gr_from B3.out B3.out.size (Nat.le_refl _) gx)
          clear FX gx
          obtain ⟨k0, k1, k2, k3, k4, k5, k6, k7⟩ := bkS F4.out
          go_upto_region 7 with fail
          clear hY3 qf q0 q1 q2 q3 q4 q5 q6 q7 OD3 OL3 OA3 B3 F3 Z3 T3 B2 F2 Z2 T2
          go_cut [13] from 43 to 61 (fun u wx => u = .bool fn ∧ wx = Y3)
          case first =>
            by_cases ht : (tt : Int) = (nd : Int)
            · have e1 : (tt == (nd : Int)) = true := by simp only [beq_iff_eq, beq_eq_false_iff_ne, ne_eq]; exact ht
              have e2 : decide ((tt : Int) = (nd : Int)) = true := decide_eq_true ht
              have HFE := Lib.hid (hFN.out.trans (congrArg _ e2))
              clear ht e2
              cases fi <;> cases en <;> cases ov <;> (go_wp2_with fail; go_meet; exact ⟨congrArg Value.bool HFE.out.symm, rfl⟩)
            · have e1 : (tt == (nd : Int)) = false := by simp only [beq_iff_eq, beq_eq_false_iff_ne, ne_eq]; exact ht
              have e2 : decide ((tt : Int) = (nd : Int)) = false := decide_eq_false ht
              have HFE := Lib.hid (hFN.out.trans (congrArg _ e2))
              clear ht e2
              cases fi <;> cases en <;> cases ov <;> (go_wp2_with fail; go_meet; exact ⟨congrArg Value.bool HFE.out.symm, rfl⟩)
          case rest =>
          obtain ⟨rfl, hwcq⟩ := hcut
          subst wc
          by_cases c0 : (n : Int) = 0 ∧ fn = false
          · obtain ⟨hn0, rfl⟩ := c0
            have hR := HR.out
            rw [if_pos ⟨hn0, rfl⟩] at hR
            clear HR
            have hT := HT.out
            have e1 : ((lo : Int) == (tt : Int)) = true := by simp; omega
            have e2 : (lo == tt) = true := by simp; omega
            have HN2 := Lib.hid (show nn = nx by rw [hN.out, HNX.out]; omega)
            have HLL := Lib.hid (show L1 = s.lost by rw [hL.out, if_neg (by omega)])
            have HHR := Lib.hid hR
            clear hT hR hn0
            obtain ⟨RZ, gz⟩ := bkS_put Z4.out (.slice Ad nd cd) (.bool fi) (.int .i64 nn) (.int .i64 mx) (.slice A3 L1.length c3) (.slice Aa s.acked.length ca) (.bool en) (.bool ov)
            have hZ0 := lt_of_block Z4.out
            have hT0 := lt_of_block T4.out
            obtain ⟨x0, x1, x2, x3, x4, x5, x6, x7⟩ := bkS Z4.out
            have cf := fun i => bk_frz Z4.out i
            obtain ⟨U1, hU1⟩ : ∃ x, ((((((((Y3.setCell ⟨w.heap.size + 1, 0, none⟩ (.slice Ad nd cd)).setCell ⟨w.heap.size + 1, 1, none⟩ (.bool fi)).setCell ⟨w.heap.size + 1, 2, none⟩ (.int .i64 nn)).setCell ⟨w.heap.size + 1, 3, none⟩ (.int .i64 mx)).setCell ⟨w.heap.size + 1, 4, none⟩ (.slice A3 L1.length c3)).setCell ⟨w.heap.size + 1, 5, none⟩ (.slice Aa s.acked.length ca)).setCell ⟨w.heap.size + 1, 6, none⟩ (.bool en)).setCell ⟨w.heap.size + 1, 7, none⟩ (.bool ov)) = x := ⟨_, rfl⟩
            rw [hU1] at RZ gz
            have TU := (gz.block _ hT0 (by simp)).trans T4.out
            obtain ⟨RT, gt⟩ := bkF_put TU (.int .i64 0) (.int .i64 0) (.int .i64 0) (.bool false) (.int .i64 0) (.slice none 0 0) (.slice none 0 0)
            obtain ⟨v0, v1, v2, v3, v4, v5, v6⟩ := bkF TU
            have vf := fun i => bk_frz TU i
            obtain ⟨U2, hU2⟩ : ∃ x, (((((((U1.setCell ⟨w.heap.size + 2, 0, none⟩ (.int .i64 0)).setCell ⟨w.heap.size + 2, 1, none⟩ (.int .i64 0)).setCell ⟨w.heap.size + 2, 2, none⟩ (.int .i64 0)).setCell ⟨w.heap.size + 2, 3, none⟩ (.bool false)).setCell ⟨w.heap.size + 2, 4, none⟩ (.int .i64 0)).setCell ⟨w.heap.size + 2, 5, none⟩ (.slice none 0 0)).setCell ⟨w.heap.size + 2, 6, none⟩ (.slice none 0 0)) = x := ⟨_, rfl⟩
            rw [hU2] at RT gt
            have RZ2 := (gt.block _ (lt_of_block RZ) (by simp)).trans RZ
            obtain ⟨r0, r1, r2, r3, r4, r5, r6, r7⟩ := bkS RZ2
            obtain ⟨t0, t1, t2, t3, t4, t5, t6⟩ := bkF RT
            go_wp2_with fail
            refine bodyPost_ret (by simp [results, Try.results10, go_sem, r0, r1, r2, r3, r4, r5, r6, r7, t0, t1, t2, t3, t4, t5, t6]; try rfl) rfl ?_
            have BB := gr_from (gr_from B4.out B4.out.size (Nat.le_succ _) gz) (by have := B4.out.size; have := gz.size; omega) (by omega) gt
            have OD5 := own_gr (own_gr OD4.out gz (by omega)) gt (by omega)
            have OL5 := own_gr (own_gr OL4.out gz (by omega)) gt (by omega)
            have OA5 := own_gr (own_gr OA4.out gz (by omega)) gt (by omega)
            have hnn2 := HN2.out
            have hLL := HLL.out
            have hR := HHR.out
            subst hR
            refine ⟨BB, _, _, rfl, ?_, FrF.nil _ _⟩
            subst hnn2 hLL
            rw [← HND.out] at OD5 ⊢
            rw [← HFI.out, ← HNX.out, ← HMX.out, ← HEN.out, ← HOV.out]
            exact snf_own OD5 HBY.out OL5 OA5 (by omega)
          · have hR := HR.out
            rw [if_neg c0] at hR
            have HR2 := Lib.hid hR
            clear HR hR
            go_upto_region 8 with fail
            go_cut [68] from 62 to 68 (fun u wx => u = .bool false ∧ wx = Y3)
            case first =>
              have hT := HT.out
              by_cases hn0 : n = 0
              · have hf1 : fn = true := by
                  cases hq : fn with
                  | true => rfl
                  | false => exact absurd ⟨by omega, hq⟩ c0
                have e1 : ((lo : Int) == (tt : Int)) = true := by simp; omega
                have e2 : (lo == tt) = true := by simp; omega
                subst hf1
                clear hT c0 hn0
                go_wp2_with fail
                go_meet
                exact ⟨rfl, rfl⟩
              · have e1 : ((lo : Int) == (tt : Int)) = false := by simp; omega
                have e2 : (lo == tt) = false := by simp; omega
                clear hT c0 hn0
                go_wp2_with fail
                go_meet
                exact ⟨rfl, rfl⟩
            case rest =>
            obtain ⟨rfl, hwcq⟩ := hcut
            subst wc
            obtain ⟨ee, hee⟩ : ∃ x, (en || fn) = x := ⟨_, rfl⟩
            have HEE := Lib.hid hee
            obtain ⟨Y5, hY5⟩ : ∃ x, Y3.setCell ⟨w.heap.size, 6, none⟩ (.bool ee) = x := ⟨_, rfl⟩
            have HY5 := Lib.hid hY5
            have g5 := gr_set Y3 w.heap.size 6 (.bool ee)
            have FX5 := (bkS_set F4.out (.bool ee)).2.2.2.2.2.2.1
            rw [hY5] at g5 FX5
            have F5 := Lib.hid FX5
            have Z5 := Lib.hid ((g5.block _ (lt_of_block Z4.out) (by simp)).trans Z4.out)
            have T5 := Lib.hid ((g5.block _ (lt_of_block T4.out) (by simp)).trans T4.out)
            have OD5 := Lib.hid (own_gr OD4.out g5 (by omega))
            have OL5 := Lib.hid (own_gr OL4.out g5 (by omega))
            have OA5 := Lib.hid (own_gr OA4.out g5 (by omega))
            have B5 := Lib.hid (gr_from B4.out B4.out.size (Nat.le_refl _) g5)
            have kf := fun i => bk_frz F4.out i
            clear g5 FX5 c0
            go_upto_region 10 with fail
            go_cut [] from 71 to 76 (fun wx => wx = Y5)
            case first =>
              cases en with
              | true =>
                have : ee = true := HEE.out.symm
                subst this
                go_wp2_with fail
                go_meet
                rfl
              | false =>
                have : ee = fn := HEE.out.symm
                subst this
                go_wp2_with fail
                go_meet
                rfl
            case rest =>
            have hwcq := hcut
            subst wc
            clear hY5 HY5 kf k0 k1 k2 k3 k4 k5 k6 k7 OD4 OL4 OA4 B4 F4 Z4 T4 hee
            obtain ⟨k0, k1, k2, k3, k4, k5, k6, k7⟩ := bkS F5.out
            obtain ⟨SA, hSA⟩ : ∃ SA, (if cd = lo then Ad else Option.map (fun x => x.add lo) Ad) = SA := ⟨_, rfl⟩
            have hT := HT.out
            have i1 : lo ≤ tt := by omega
            have i2 : tt ≤ cd := by omega
            have i3 : tt ≤ nd := by omega
            have DS := own_bsl OD5.out HBY.out
            have hpart := txt_partX (SA := SA) DS HND.out i1 i3 hSA
            have hlen2 : tt - lo = n := by omega
            have hbl : ((s.data.drop lo).take (tt - lo)).length ≤ 140737488355328 := by rw [List.length_take]; omega
            have HCL := Lib.hid (bclone_any Y5.heap.size _ _ Y5 (Nat.le_refl _) hpart hbl)
            have HBP := Lib.hid (show Byt ((s.data.drop lo).take (tt - lo)) from (HBY.out.drop lo).take _)
            have hzl : ((s.data.drop lo).take (tt - lo)).length = tt - lo := by rw [List.length_take, List.length_drop, HND.out]; omega
            obtain ⟨zz, hzz⟩ : ∃ x, (s.data.drop lo).take (tt - lo) = x := ⟨_, rfl⟩
            rw [hzz] at HCL HBP hzl
            have HZZ := Lib.hid (show zz = (s.data.drop lo).take n by rw [← hzz, hlen2])
            clear hzz hbl hpart DS hT hlen2
            have HZL := Lib.hid hzl
            clear hzl
            go_wp2_with fail
            refine HCL.out.mono ?_
            rintro e w6 ⟨u6, rfl, o6, b6⟩
            obtain ⟨A6, c6, hv6, _, _, _, _⟩ := (own_bsl o6 HBP.out).ex
            subst hv6
            have X6 := (Below.refl w6.heap.size w6).alloc (Nat.le_refl _) (.cells #[.int .i64 8, .int .i64 0, .int .i64 (lo : Int), .bool fn, .int .i64 0, .slice none 0 0, .slice A6 zz.length c6] 35)
            have XX := Lib.hid (b6.trans (X6.mono b6.size))
            have O6 := Lib.hid (own_later2 o6 X6)
            have OD6 := Lib.hid (own_later2 (own_later2 OD5.out b6) X6)
            have OL6 := Lib.hid (own_later2 (own_later2 OL5.out b6) X6)
            have OA6 := Lib.hid (own_later2 (own_later2 OA5.out b6) X6)
            have V6 := Lib.hid (heap_alloc_new w6 (.cells #[.int .i64 8, .int .i64 0, .int .i64 (lo : Int), .bool fn, .int .i64 0, .slice none 0 0, .slice A6 zz.length c6] 35))
            obtain ⟨Y6, hY6⟩ : ∃ x, w6.alloc (.cells #[.int .i64 8, .int .i64 0, .int .i64 (lo : Int), .bool fn, .int .i64 0, .slice none 0 0, .slice A6 zz.length c6] 35) = x := ⟨_, rfl⟩
            rw [hY6] at XX O6 OD6 OL6 OA6 V6
            have F6 := Lib.hid ((XX.out.block _ (lt_of_block F5.out)).trans F5.out)
            have Z6 := Lib.hid ((XX.out.block _ (lt_of_block Z5.out)).trans Z5.out)
            have T6 := Lib.hid ((XX.out.block _ (lt_of_block T5.out)).trans T5.out)
            have B6 := Lib.hid (B5.out.trans (XX.out.mono B5.out.size))
            have hx56 := B5.out.size
            have b6s := b6.size
            clear o6 b6 X6 k0 k1 k2 k3 k4 k5 k6 k7
            obtain ⟨k0, k1, k2, k3, k4, k5, k6, k7⟩ := bkS F6.out
            obtain ⟨m0, m1, m2, m3, m4, m5, m6⟩ := bkF V6.out
            obtain ⟨RZ, gz⟩ := bkS_put Z6.out (.slice Ad nd cd) (.bool fi) (.int .i64 nn) (.int .i64 mx) (.slice A3 L1.length c3) (.slice Aa s.acked.length ca) (.bool ee) (.bool ov)
            have hZ0 := lt_of_block Z6.out
            have hT0 := lt_of_block T6.out
            obtain ⟨x0, x1, x2, x3, x4, x5, x6, x7⟩ := bkS Z6.out
            have cf := fun i => bk_frz Z6.out i
            obtain ⟨U1, hU1⟩ : ∃ x, ((((((((Y6.setCell ⟨w.heap.size + 1, 0, none⟩ (.slice Ad nd cd)).setCell ⟨w.heap.size + 1, 1, none⟩ (.bool fi)).setCell ⟨w.heap.size + 1, 2, none⟩ (.int .i64 nn)).setCell ⟨w.heap.size + 1, 3, none⟩ (.int .i64 mx)).setCell ⟨w.heap.size + 1, 4, none⟩ (.slice A3 L1.length c3)).setCell ⟨w.heap.size + 1, 5, none⟩ (.slice Aa s.acked.length ca)).setCell ⟨w.heap.size + 1, 6, none⟩ (.bool ee)).setCell ⟨w.heap.size + 1, 7, none⟩ (.bool ov)) = x := ⟨_, rfl⟩
            rw [hU1] at RZ gz
            have TU := (gz.block _ hT0 (by simp)).trans T6.out
            obtain ⟨RT, gt⟩ := bkF_put TU (.int .i64 8) (.int .i64 0) (.int .i64 (lo : Int)) (.bool fn) (.int .i64 0) (.slice none 0 0) (.slice A6 zz.length c6)
            obtain ⟨v0, v1, v2, v3, v4, v5, v6⟩ := bkF TU
            have vf := fun i => bk_frz TU i
            obtain ⟨U2, hU2⟩ : ∃ x, (((((((U1.setCell ⟨w.heap.size + 2, 0, none⟩ (.int .i64 8)).setCell ⟨w.heap.size + 2, 1, none⟩ (.int .i64 0)).setCell ⟨w.heap.size + 2, 2, none⟩ (.int .i64 (lo : Int))).setCell ⟨w.heap.size + 2, 3, none⟩ (.bool fn)).setCell ⟨w.heap.size + 2, 4, none⟩ (.int .i64 0)).setCell ⟨w.heap.size + 2, 5, none⟩ (.slice none 0 0)).setCell ⟨w.heap.size + 2, 6, none⟩ (.slice A6 zz.length c6)) = x := ⟨_, rfl⟩
            rw [hU2] at RT gt
            have RZ2 := (gt.block _ (lt_of_block RZ) (by simp)).trans RZ
            obtain ⟨r0, r1, r2, r3, r4, r5, r6, r7⟩ := bkS RZ2
            obtain ⟨t0, t1, t2, t3, t4, t5, t6⟩ := bkF RT
            have hw6 := lt_of_block Z5.out
            have hw7 := lt_of_block T5.out
            have hb6 := XX.out.size
            have hne6 : ¬ w6.heap.size = w.heap.size + 1 := by
              have := b6s
              have := lt_of_block Z5.out
              omega
            have VU := (gz.block _ (lt_of_block V6.out) (by simpa using hne6)).trans V6.out
            obtain ⟨y0, y1, y2, y3, y4, y5, y6⟩ := bkF VU
            go_upto_region 12 with fail
            go_region
            all_goals (go_wp2_with fail)
            all_goals (refine bodyPost_ret (by simp [results, Try.results10, go_sem, r0, r1, r2, r3, r4, r5, r6, r7, t0, t1, t2, t3, t4, t5, t6]; try rfl) rfl ?_)
            all_goals (
              have BB := gr_from (gr_from B6.out B6.out.size (Nat.le_succ _) gz) (by have := B6.out.size; have := gz.size; omega) (by omega) gt
              have OD7 := own_gr (own_gr OD6.out gz (by omega)) gt (by omega)
              have OL7 := own_gr (own_gr OL6.out gz (by omega)) gt (by omega)
              have OA7 := own_gr (own_gr OA6.out gz (by omega)) gt (by omega)
              have O7 := own_gr (own_gr O6.out gz (by omega)) gt (by omega)
              have hR := HR2.out
              subst hR
              rw [← HND.out] at OD7
              have hE : ee = (s.ended || fn) := by rw [← HEE.out, HEN.out]
              rw [← HND.out, ← HFI.out, ← HMX.out, ← HOV.out, hE]
              have KD := Keeps.below (lo := w.heap.size) ((Below.refl U2.heap.size U2).drew)
              have hsn := (snf_own (s := { s with lost := L1, next := nn, ended := s.ended || fn }) OD7 HBY.out OL7 OA7 (lo := w.heap.size) (by omega)).on KD
              have hbf := (bf_own (lo := w.heap.size) O7 HBP.out (by omega)).on KD
              rw [HZZ.out] at hbf ⊢
              exact ⟨BB.drew, _, _, rfl, hsn, ⟨_, _, rfl, RF.nil _ _, hbf⟩⟩)
  · rw [if_pos hf]
    clear HC hv hw hd hl ha hfi hnx hmx hen hov
    obtain ⟨x, hx⟩ : ∃ x, faultSn s = x := ⟨_, rfl⟩
    rw [hx] at HF hf ⊢
    have gx : (x != 0) = true := by simp [hf]
    clear hx hf
    go_enter Try.func10, Try.ntmps10
    go_upto_region 3 with (first
      | (go_at_call 14; refine (HF.out _ B0.out).mono ?_; rintro e w1 ⟨rfl, b1⟩; have B1 := Lib.hid (B0.out.trans (b1.mono B0.out.size)); have F1 := Lib.hid ((b1.block _ (lt_of_block F0.out)).trans F0.out); have Z1 := Lib.hid ((b1.block _ (lt_of_block Z0.out)).trans Z0.out); have T1 := Lib.hid ((b1.block _ (lt_of_block T0.out)).trans T0.out); clear b1; obtain ⟨q0, q1, q2, q3, q4, q5, q6, q7⟩ := bkS F1.out))
    obtain ⟨RZ, gz⟩ := bkS_put Z1.out (.slice none 0 0) (.bool false) (.int .i64 0) (.int .i64 0) (.slice none 0 0) (.slice none 0 0) (.bool false) (.bool false)
    have hZ0 := lt_of_block Z1.out
    have hT0 := lt_of_block T1.out
    obtain ⟨x0, x1, x2, x3, x4, x5, x6, x7⟩ := bkS Z1.out
    have cf := fun i => bk_frz Z1.out i
    obtain ⟨U1, hU1⟩ : ∃ x, ((((((((w1.setCell ⟨w.heap.size + 1, 0, none⟩ (.slice none 0 0)).setCell ⟨w.heap.size + 1, 1, none⟩ (.bool false)).setCell ⟨w.heap.size + 1, 2, none⟩ (.int .i64 0)).setCell ⟨w.heap.size + 1, 3, none⟩ (.int .i64 0)).setCell ⟨w.heap.size + 1, 4, none⟩ (.slice none 0 0)).setCell ⟨w.heap.size + 1, 5, none⟩ (.slice none 0 0)).setCell ⟨w.heap.size + 1, 6, none⟩ (.bool false)).setCell ⟨w.heap.size + 1, 7, none⟩ (.bool false)) = x := ⟨_, rfl⟩
    rw [hU1] at RZ gz
    have TU := (gz.block _ hT0 (by simp)).trans T1.out
    obtain ⟨RT, gt⟩ := bkF_put TU (.int .i64 0) (.int .i64 0) (.int .i64 0) (.bool false) (.int .i64 0) (.slice none 0 0) (.slice none 0 0)
    obtain ⟨v0, v1, v2, v3, v4, v5, v6⟩ := bkF TU
    have vf := fun i => bk_frz TU i
    obtain ⟨U2, hU2⟩ : ∃ x, (((((((U1.setCell ⟨w.heap.size + 2, 0, none⟩ (.int .i64 0)).setCell ⟨w.heap.size + 2, 1, none⟩ (.int .i64 0)).setCell ⟨w.heap.size + 2, 2, none⟩ (.int .i64 0)).setCell ⟨w.heap.size + 2, 3, none⟩ (.bool false)).setCell ⟨w.heap.size + 2, 4, none⟩ (.int .i64 0)).setCell ⟨w.heap.size + 2, 5, none⟩ (.slice none 0 0)).setCell ⟨w.heap.size + 2, 6, none⟩ (.slice none 0 0)) = x := ⟨_, rfl⟩
    rw [hU2] at RT gt
    have RZ2 := (gt.block _ (lt_of_block RZ) (by simp)).trans RZ
    obtain ⟨r0, r1, r2, r3, r4, r5, r6, r7⟩ := bkS RZ2
    obtain ⟨t0, t1, t2, t3, t4, t5, t6⟩ := bkF RT
    go_wp2_with fail
    refine bodyPost_ret (by simp [results, Try.results10, go_sem, r0, r1, r2, r3, r4, r5, r6, r7, t0, t1, t2, t3, t4, t5, t6]; try rfl) rfl ?_
    have BB := gr_from (gr_from B1.out B1.out.size (Nat.le_succ _) gz) (by have := B1.out.size; have := gz.size; omega) (by omega) gt
    exact ⟨BB, _, _, rfl, SnF.nil _ _, FrF.nil _ _⟩
theorem snPiece_any : SnPc Try.prog 10 := fun v s room credit w hv hw => (snPiece_F v s room credit w hv hw).mono fun _ _ h => h.toRes
end Go.Proofs.Ytnccibaifffhhaa
