/- Contracts of package space: Overdue. -/
import Derived.Test.YtnccibaifffhhaaSpHear
import Derived.Test.YtnccibaifffhhaaSpSplit
namespace Go.Proofs.Ytnccibaifffhhaa
set_option linter.unusedVariables false
open Go.RowKit P

theorem fourX (w : World) (a b c d : Array Value) (T1 T2 T3 T4 : TypeId) : ((((w.alloc (.cells a T1)).alloc (.cells b T2)).alloc (.cells c T3)).alloc (.cells d T4)).heap[w.heap.size]? = some (.cells a T1 (0, 0)) ∧ ((((w.alloc (.cells a T1)).alloc (.cells b T2)).alloc (.cells c T3)).alloc (.cells d T4)).heap[w.heap.size + 1]? = some (.cells b T2 (0, 0)) ∧
    ((((w.alloc (.cells a T1)).alloc (.cells b T2)).alloc (.cells c T3)).alloc (.cells d T4)).heap[w.heap.size + 2]? = some (.cells c T3 (0, 0)) ∧ ((((w.alloc (.cells a T1)).alloc (.cells b T2)).alloc (.cells c T3)).alloc (.cells d T4)).heap[w.heap.size + 3]? = some (.cells d T4 (0, 0)) ∧ Below w.heap.size w ((((w.alloc (.cells a T1)).alloc (.cells b T2)).alloc (.cells c T3)).alloc (.cells d T4)) := by
  obtain ⟨h1, h2, h3⟩ := twoX w a b T1 T2
  obtain ⟨k1, k2, k3⟩ := twoX ((w.alloc (.cells a T1)).alloc (.cells b T2)) c d T3 T4
  have s2 : ((w.alloc (.cells a T1)).alloc (.cells b T2)).heap.size = w.heap.size + 2 := by simp
  rw [s2] at k1 k2
  exact ⟨(k3.block _ (lt_of_block h1)).trans h1, (k3.block _ (lt_of_block h2)).trans h2, k1, k2, h3.trans (k3.mono h3.size)⟩
theorem overC_any (num time size : Int) (Af : Option Addr) (nf cf : Nat) (now age : Int) (k1 k2 : Nat) (w : World) (hk1 : w.heap[k1]? = some (.cells #[.int .i64 now] 3 (0, 0))) (hk2 : w.heap[k2]? = some (.cells #[.int .i64 age] 3 (0, 0))) (c1 : 0 ≤ now ∧ now ≤ 1099511627776) (c2 : 0 ≤ age ∧ age ≤ 1099511627776) :
    Calls Try.prog 61 #[.agg #[.int .i64 num, .int .i64 time, .int .i64 size, .slice Af nf cf], .pointer (some ⟨k1, 0, none⟩), .pointer (some ⟨k2, 0, none⟩)] w fun e w' => e = .returned (.bool (decide (time ≤ now - age))) ∧ Below w.heap.size w w' := by
  have AB := Lib.hid ((Below.refl w.heap.size w).alloc (Nat.le_refl _) (.cells #[.int .i64 num, .int .i64 time, .int .i64 size, .slice Af nf cf] 54))
  have x0 := bk_cell ((AB.out.block _ (lt_of_block hk1)).trans hk1) 0
  have x1 := bk_cell ((AB.out.block _ (lt_of_block hk2)).trans hk2) 0
  simp only [List.getElem?_toArray, List.getElem?_cons_zero] at x0 x1
  have y0 := bk_cell (heap_alloc_new w (.cells #[.int .i64 num, .int .i64 time, .int .i64 size, .slice Af nf cf] 54)) 1
  simp only [List.getElem?_toArray, List.getElem?_cons_zero, List.getElem?_cons_succ] at y0
  have hwr : IntKind.i64.wrap (now - age) = now - age := by rw [IntKind.wrap_i64]; omega
  clear hk1 hk2
  go_enter Try.func61, Try.ntmps61
  go_wp2_with fail
  go_ret
  exact ⟨by rfl, AB.out⟩
theorem SplI.pl1 {w wr : World} {v1 v2 : Value} {c1 c2 : List (Cells 4)} {lo : Nat} {ps : List Pcl} (h : SplI w wr v1 v2 c1 c2) (hl : lo ≤ w.heap.size) (ha : All2 (fun c q => StS w (fun j => j < lo) (fun w => PcC w w.heap.size c q)) c1 ps) : ∃ A c, v1 = .slice A ps.length c ∧ PlU lo wr v1 ps := by
  obtain ⟨A, c, rfl, _, _, _⟩ := h.o1.slice
  refine ⟨A, c, by rw [ha.len], ?_⟩
  refine pl_own h.o1 ha.len (ha.len.symm) (S := fun j => j < lo) (fun i h1 h2 => StS.later (ha.at i h1 h2) h.b) (fun g hg => ?_)
  have := (OwnE.lt h.o1 g (own_blk hg)).1
  omega
theorem SplI.pl2 {w wr : World} {v1 v2 : Value} {c1 c2 : List (Cells 4)} {lo : Nat} {ps : List Pcl} (h : SplI w wr v1 v2 c1 c2) (hl : lo ≤ w.heap.size) (ha : All2 (fun c q => StS w (fun j => j < lo) (fun w => PcC w w.heap.size c q)) c2 ps) : ∃ A c, v2 = .slice A ps.length c ∧ PlU lo wr v2 ps := by
  obtain ⟨A, c, rfl, _, _, _⟩ := h.o2.slice
  refine ⟨A, c, by rw [ha.len], ?_⟩
  refine pl_own h.o2 ha.len (ha.len.symm) (S := fun j => j < lo) (fun i h1 h2 => StS.later (ha.at i h1 h2) h.b) (fun g hg => ?_)
  have := (OwnE.lt h.o2 g (own_blk hg)).1
  omega
set_option maxRecDepth 100000 in
set_option maxHeartbeats 2000000 in
theorem spOver_any (v : Value) (s : Sp) (now age : Int) (w : World) (hv : SpVal w w.heap.size v s) (hw : SpWf s) : Calls Try.prog 41 #[v, .int .i64 now, .int .i64 age] w (SpOverU (overSp s now age) w) := by
  have HCK := Lib.hid (fun w' (hb : Below w.heap.size w w') => spChk_any v s w' ((hv.below hb).more hb.size) hw)
  have HCP := Lib.hid (fun w' (hb : Below w.heap.size w w') => spCopied_any v s w' ((hv.below hb).more hb.size) hw)
  obtain ⟨a, h, kk, rfl, ha, hh, hk⟩ := hv.ex
  obtain ⟨Aa, ca, csa, rfl, _, _, _, _⟩ := ha.ex
  obtain ⟨Ah, ch, rfl, _, _, _⟩ := hh.ex
  obtain ⟨Ak, ck, rfl, _, _, _⟩ := hk.ex
  obtain ⟨g0, g1, g2, g3, g4⟩ := fourX w #[.int .i64 s.next, .slice Aa s.sent.length ca, .int .i64 s.top, .slice Ah s.heard.length ch, .slice Ak s.skip.length ck] #[.int .i64 now] #[.int .i64 age] #[.int .i64 0, .slice none 0 0, .int .i64 0, .slice none 0 0, .slice none 0 0] 48 3 3 48
  have F0 := Lib.hid g0
  have N0 := Lib.hid g1
  have M0 := Lib.hid g2
  have Z0 := Lib.hid g3
  have B0 := Lib.hid g4
  clear g0 g1 g2 g3 g4
  clear hv ha hh hk
  obtain ⟨q0, q1, q2, q3, q4⟩ := sp5 F0.out
  go_enter Try.func41, Try.ntmps41
  go_wp2_with fail
  refine (HCK.out _ B0.out).mono ?_
  rintro e w1 ⟨rfl, b1⟩
  have B1 := Lib.hid (B0.out.trans (b1.mono B0.out.size))
  have F1 := Lib.hid ((b1.block _ (lt_of_block F0.out)).trans F0.out)
  have Z1 := Lib.hid ((b1.block _ (lt_of_block Z0.out)).trans Z0.out)
  have N1 := Lib.hid ((b1.block _ (lt_of_block N0.out)).trans N0.out)
  have M1 := Lib.hid ((b1.block _ (lt_of_block M0.out)).trans M0.out)
  clear b1
  clear q0 q1 q2 q3 q4
  obtain ⟨q0, q1, q2, q3, q4⟩ := sp5 F1.out
  obtain ⟨z0, z1, z2, z3, z4⟩ := sp5 Z1.out
  have zf := fun i => bk_frz Z1.out i
  have n0 := bk_cell N1.out 0
  have m0 := bk_cell M1.out 0
  simp only [List.getElem?_toArray, List.getElem?_cons_zero] at n0 m0
  rcases faultSp_two s with f | f
  · by_cases c1 : 0 ≤ now ∧ now ≤ 1099511627776
    · have d1 : decide (0 ≤ now ∧ now ≤ 1099511627776) = true := by rw [decide_eq_true_iff]; exact c1
      by_cases c2 : 0 ≤ age ∧ age ≤ 1099511627776
      · have d2 : decide (0 ≤ age ∧ age ≤ 1099511627776) = true := by rw [decide_eq_true_iff]; exact c2
        rw [f]
        go_wp2_with fail
        refine (within_any _ _ _).mono ?_
        rintro e w9 ⟨rfl, rfl⟩
        rw [d1]
        go_wp2_with fail
        refine (within_any _ _ _).mono ?_
        rintro e w9 ⟨rfl, rfl⟩
        rw [d2]
        have ok := (faultSp_iff s).1 f
        have HR := Lib.hid (show overSp s now age = ({ s with sent := s.sent.filter fun p => !decide (p.time ≤ now - age) }, s.sent.filter fun p => decide (p.time ≤ now - age), 0) from by unfold overSp; rw [if_neg (by simp [f]), if_neg (by simp only [Decidable.not_not]; exact ⟨c1, c2⟩)])
        have HS24 := Lib.hid ok.2.2.1
        have HTM := Lib.hid (fun p hp => ok.2.2.2.1 p hp)
        go_wp2_with fail
        refine (HCP.out _ B1.out).mono ?_
        rintro e w2 ⟨Au, cu, Hu, cv, Ku, cw, css, rfl, hu, b2⟩
        have U2 := Lib.hid (hu.low (show w.heap.size + 4 ≤ w1.heap.size from lt_of_block Z1.out))
        have B2 := Lib.hid (B1.out.trans (b2.mono B1.out.size))
        have F2 := Lib.hid ((b2.block _ (lt_of_block F1.out)).trans F1.out)
        have Z2 := Lib.hid ((b2.block _ (lt_of_block Z1.out)).trans Z1.out)
        have N2 := Lib.hid ((b2.block _ (lt_of_block N1.out)).trans N1.out)
        have M2 := Lib.hid ((b2.block _ (lt_of_block M1.out)).trans M1.out)
        clear b2 zf hu n0 m0 ok
        clear q0 q1 q2 q3 q4
        clear z0 z1 z2 z3 z4
        obtain ⟨W3, hW3⟩ : ∃ x, (((((w2.setCell ⟨w.heap.size, 0, none⟩ (.int .i64 s.next)).setCell ⟨w.heap.size, 1, none⟩ (.slice Au s.sent.length cu)).setCell ⟨w.heap.size, 2, none⟩ (.int .i64 s.top)).setCell ⟨w.heap.size, 3, none⟩ (.slice Hu s.heard.length cv)).setCell ⟨w.heap.size, 4, none⟩ (.slice Ku s.skip.length cw)) = x := ⟨_, rfl⟩
        obtain ⟨f3, g3⟩ := sp5_put F2.out (.int .i64 s.next) (.slice Au s.sent.length cu) (.int .i64 s.top) (.slice Hu s.heard.length cv) (.slice Ku s.skip.length cw)
        rw [hW3] at f3 g3
        have F3 := Lib.hid f3
        have Z3 := Lib.hid ((g3.block _ (lt_of_block Z2.out) (by simp)).trans Z2.out)
        have B3 := Lib.hid (gr_from B2.out B2.out.size (Nat.le_refl _) g3)
        have U3 := Lib.hid (U2.out.on (KpS.gr g3 (show w.heap.size < w.heap.size + 4 by omega)))
        have N3 := Lib.hid ((g3.block _ (lt_of_block N2.out) (by simp)).trans N2.out)
        have M3 := Lib.hid ((g3.block _ (lt_of_block M2.out) (by simp)).trans M2.out)
        clear f3 g3
        obtain ⟨p0, p1, p2, p3, p4⟩ := sp5 F2.out
        have pf := fun i => bk_frz F2.out i
        obtain ⟨q0, q1, q2, q3, q4⟩ := sp5 F3.out
        have HSP := Lib.hid (show Calls Try.prog 51 #[.slice Au s.sent.length cu, .func (.func 61) #[] #[.pointer (some ⟨w.heap.size + 1, 0, none⟩), .pointer (some ⟨w.heap.size + 2, 0, none⟩)]] W3 fun e w' => ∃ u1 u2, e = .returned (.tuple #[u1, u2]) ∧ SplI W3 w' u1 u2 (sel (fun p => decide (p.time ≤ now - age)) css s.sent) (sel (fun p => !decide (p.time ≤ now - age)) css s.sent) from by
          obtain ⟨A', c', e1, h1, h2, hr⟩ := U3.out.own.slice
          injection e1 with e1 e2 e3
          subst e1
          exact split_over Au s.sent.length cu css s.sent (w.heap.size + 1) (w.heap.size + 2) (fun p => decide (p.time ≤ now - age)) W3 hr (All2.of U3.out.len fun i h1 h2 => StS.now (U3.out.cells i h1 h2)) rfl (by have := HS24.out; omega)
            (fun i hi w' hb Af nf cf => overC_any _ _ _ Af nf cf now age _ _ w' ((hb.block _ (lt_of_block N3.out)).trans N3.out) ((hb.block _ (lt_of_block M3.out)).trans M3.out) c1 c2))
        go_wp2_with fail
        refine (HSP.out).mono ?_
        rintro e w4 ⟨u1, u2, rfl, SI⟩
        have b4 := SI.b
        have LST := Lib.hid (SI.pl1 (lo := w.heap.size + 4) (ps := s.sent.filter fun p => decide (p.time ≤ now - age)) (Nat.le_of_lt_succ (Nat.lt_succ_of_le (lt_of_block Z3.out))) (sel_all (R := fun c q => StS W3 (fun j => j < w.heap.size + 4) (fun w => PcC w w.heap.size c q)) (fun p => decide (p.time ≤ now - age)) (All2.of U3.out.len fun i h1 h2 => StS.anti (U3.out.cells i h1 h2) (fun j hj => .inl hj))))
        have LFT := Lib.hid (SI.pl2 (lo := w.heap.size + 4) (ps := s.sent.filter fun p => !decide (p.time ≤ now - age)) (Nat.le_of_lt_succ (Nat.lt_succ_of_le (lt_of_block Z3.out))) (sel_all (R := fun c q => StS W3 (fun j => j < w.heap.size + 4) (fun w => PcC w w.heap.size c q)) (fun p => !decide (p.time ≤ now - age)) (All2.of U3.out.len fun i h1 h2 => StS.anti (U3.out.cells i h1 h2) (fun j hj => .inl hj))))
        obtain ⟨A4, c4, hu1, hP4⟩ := LST.out
        obtain ⟨A5, c5, hu2, hP5⟩ := LFT.out
        subst hu1
        subst hu2
        have P4 := Lib.hid hP4
        have P5 := Lib.hid hP5
        have U4 := Lib.hid (U3.out.on (KpS.below b4))
        have B4 := Lib.hid (B3.out.trans (b4.mono B3.out.size))
        have F4 := Lib.hid ((b4.block _ (lt_of_block F3.out)).trans F3.out)
        have Z4 := Lib.hid ((b4.block _ (lt_of_block Z3.out)).trans Z3.out)
        clear b4 SI LST LFT hP4 hP5 pf
        clear q0 q1 q2 q3 q4
        clear p0 p1 p2 p3 p4
        obtain ⟨p0, p1, p2, p3, p4⟩ := sp5 F4.out
        have pf := fun i => bk_frz F4.out i
        obtain ⟨W5, hW5⟩ : ∃ x, w4.setCell ⟨w.heap.size, 1, none⟩ (.slice A5 (s.sent.filter fun p => !decide (p.time ≤ now - age)).length c5) = x := ⟨_, rfl⟩
        have f5 := (sp5_set F4.out (.slice A5 (s.sent.filter fun p => !decide (p.time ≤ now - age)).length c5)).2.1
        have g5 := gr_set w4 w.heap.size 1 (.slice A5 (s.sent.filter fun p => !decide (p.time ≤ now - age)).length c5)
        rw [hW5] at f5 g5
        have F5 := Lib.hid f5
        have Z5 := Lib.hid ((g5.block _ (lt_of_block Z4.out) (by simp)).trans Z4.out)
        have B5 := Lib.hid (gr_from B4.out B4.out.size (Nat.le_refl _) g5)
        have U5 := Lib.hid (U4.out.on (KpS.gr g5 (show w.heap.size < w.heap.size + 4 by omega)))
        have P45 := Lib.hid (P4.out.on (KpS.gr g5 (show w.heap.size < w.heap.size + 4 by omega)))
        have P55 := Lib.hid (P5.out.on (KpS.gr g5 (show w.heap.size < w.heap.size + 4 by omega)))
        clear f5 g5
        obtain ⟨q0, q1, q2, q3, q4⟩ := sp5 F5.out
        obtain ⟨z0, z1, z2, z3, z4⟩ := sp5 Z5.out
        have zf := fun i => bk_frz Z5.out i
        go_wp2_with fail
        obtain ⟨RY, gp⟩ := sp5_put Z5.out (.int .i64 s.next) (.slice A5 (s.sent.filter fun p => !decide (p.time ≤ now - age)).length c5) (.int .i64 s.top) (.slice Hu s.heard.length cv) (.slice Ku s.skip.length cw)
        obtain ⟨y0, y1, y2, y3, y4⟩ := sp5 RY
        refine bodyPost_ret (by simp [results, Try.results41, go_sem, y0, y1, y2, y3, y4]; try rfl) rfl ?_
        rw [HR.out]
        refine ⟨gr_from B5.out B5.out.size (by omega) gp, _, _, rfl, SpU.low (lo := w.heap.size + 4) (fun w' k => ?_) (by omega), PlU.low (lo := w.heap.size + 4) (P45.out.on (KpS.gr gp (show w.heap.size + 3 < w.heap.size + 4 by omega))) (by omega)⟩
        have kk := (KpS.gr (S := fun j => j < w.heap.size + 4) gp (show w.heap.size + 3 < w.heap.size + 4 by omega)).trans k
        have k1 := U5.out.parts w' kk
        exact ⟨_, _, _, rfl, P55.out w' kk, k1.2.1, k1.2.2⟩
      · have d2 : decide (0 ≤ age ∧ age ≤ 1099511627776) = false := by rw [decide_eq_false_iff_not]; exact c2
        have HR := Lib.hid (show overSp s now age = (sp0, [], 6) from by unfold overSp; rw [if_neg (by simp [f]), if_pos (fun q => c2 q.2)])
        rw [f]
        go_wp2_with fail
        refine (within_any _ _ _).mono ?_
        rintro e w9 ⟨rfl, rfl⟩
        rw [d1]
        go_wp2_with fail
        refine (within_any _ _ _).mono ?_
        rintro e w9 ⟨rfl, rfl⟩
        rw [d2]
        go_wp2_with fail
        obtain ⟨RY, gp⟩ := sp5_put Z1.out (.int .i64 0) (.slice none 0 0) (.int .i64 0) (.slice none 0 0) (.slice none 0 0)
        obtain ⟨y0, y1, y2, y3, y4⟩ := sp5 RY
        refine bodyPost_ret (by simp [results, Try.results41, go_sem, y0, y1, y2, y3, y4]; try rfl) rfl ?_
        rw [HR.out]
        exact ⟨gr_from B1.out B1.out.size (by omega) gp, _, _, rfl, SpU.nil _ _, PlU.nil _ _⟩
    · have d1 : decide (0 ≤ now ∧ now ≤ 1099511627776) = false := by rw [decide_eq_false_iff_not]; exact c1
      have HR := Lib.hid (show overSp s now age = (sp0, [], 6) from by unfold overSp; rw [if_neg (by simp [f]), if_pos (fun q => c1 q.1)])
      rw [f]
      go_wp2_with fail
      refine (within_any _ _ _).mono ?_
      rintro e w9 ⟨rfl, rfl⟩
      rw [d1]
      go_wp2_with fail
      obtain ⟨RY, gp⟩ := sp5_put Z1.out (.int .i64 0) (.slice none 0 0) (.int .i64 0) (.slice none 0 0) (.slice none 0 0)
      obtain ⟨y0, y1, y2, y3, y4⟩ := sp5 RY
      refine bodyPost_ret (by simp [results, Try.results41, go_sem, y0, y1, y2, y3, y4]; try rfl) rfl ?_
      rw [HR.out]
      exact ⟨gr_from B1.out B1.out.size (by omega) gp, _, _, rfl, SpU.nil _ _, PlU.nil _ _⟩
  · have HR := Lib.hid (show overSp s now age = (sp0, [], 9) from by unfold overSp; rw [f]; rfl)
    rw [f]
    go_wp2_with fail
    obtain ⟨RY, gp⟩ := sp5_put Z1.out (.int .i64 0) (.slice none 0 0) (.int .i64 0) (.slice none 0 0) (.slice none 0 0)
    obtain ⟨y0, y1, y2, y3, y4⟩ := sp5 RY
    refine bodyPost_ret (by simp [results, Try.results41, go_sem, y0, y1, y2, y3, y4]; try rfl) rfl ?_
    rw [HR.out]
    exact ⟨gr_from B1.out B1.out.size (by omega) gp, _, _, rfl, SpU.nil _ _, PlU.nil _ _⟩
end Go.Proofs.Ytnccibaifffhhaa
