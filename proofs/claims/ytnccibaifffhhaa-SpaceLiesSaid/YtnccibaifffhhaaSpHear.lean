/- Contracts of package space: Hear. -/
import Derived.Test.YtnccibaifffhhaaGrpSj
import Derived.Test.YtnccibaifffhhaaRngNoteU
namespace Go.Proofs.Ytnccibaifffhhaa
set_option linter.unusedVariables false
open Go.RowKit P

theorem memB_has (ps : List (Int × Int)) (n : Int) : memB ps n = hasB ps n := by 
  unfold hasB memB
  rw [Bool.eq_iff_iff, List.any_eq_true, decide_eq_true_iff]
  induction ps with
  | nil => simp [mem]
  | cons x l ih =>
    simp only [List.mem_cons, Bool.and_eq_true, decide_eq_true_iff] at ih ⊢
    unfold mem inR
    rw [← ih]
    constructor
    · rintro ⟨y, rfl | hy, h⟩
      · exact .inl h
      · exact .inr ⟨y, hy, h⟩
    · rintro (h | ⟨y, hy, h⟩)
      · exact ⟨x, .inl rfl, h⟩
      · exact ⟨y, .inr hy, h⟩
theorem SpN.parts {lo : Nat} {w : World} {Au Hu Ku : Option Addr} {cu cv cw : Nat} {css : List (Cells 4)} {s : Sp} (q : SpN lo w Au cu Hu cv Ku cw css s) (w' : World) (k : KpS (fun j => j < lo) w w') : PlSl w' w'.heap.size (.slice Au s.sent.length cu) s.sent ∧ RSl w' w'.heap.size (.slice Hu s.heard.length cv) s.heard ∧ ISl w' w'.heap.size (.slice Ku s.skip.length cw) s.skip := by
  obtain ⟨a', h', k', e, g1, g2, g3⟩ := (q.toU w' k).ex
  injection e with e
  have e := congrArg Array.toList e
  simp only [List.cons.injEq, true_and, and_true] at e
  obtain ⟨e1, e2, e3⟩ := e
  rw [e1, e2, e3]
  exact ⟨g1, g2, g3⟩
set_option maxRecDepth 100000 in
set_option maxHeartbeats 2000000 in
theorem spHear_any (v : Value) (s : Sp) (n : Int) (w : World) (hv : SpVal w w.heap.size v s) (hw : SpWf s) : Calls Try.prog 25 #[v, .int .i64 n] w (SpHearU (hearSp s n) w) := by
  have HCK := Lib.hid (fun w' (hb : Below w.heap.size w w') => spChk_any v s w' ((hv.below hb).more hb.size) hw)
  have HCP := Lib.hid (fun w' (hb : Below w.heap.size w w') => spCopied_any v s w' ((hv.below hb).more hb.size) hw)
  obtain ⟨a, h, kk, rfl, ha, hh, hk⟩ := hv.ex
  obtain ⟨Aa, ca, csa, rfl, _, _, _, _⟩ := ha.ex
  obtain ⟨Ah, ch, rfl, _, _, _⟩ := hh.ex
  obtain ⟨Ak, ck, rfl, _, _, _⟩ := hk.ex
  obtain ⟨g0, g1, g2⟩ := twoX w #[.int .i64 s.next, .slice Aa s.sent.length ca, .int .i64 s.top, .slice Ah s.heard.length ch, .slice Ak s.skip.length ck] #[.int .i64 0, .slice none 0 0, .int .i64 0, .slice none 0 0, .slice none 0 0] 48 48
  have F0 := Lib.hid g0
  have Z0 := Lib.hid g1
  have B0 := Lib.hid g2
  clear g0 g1 g2
  clear hv ha hh hk
  obtain ⟨q0, q1, q2, q3, q4⟩ := sp5 F0.out
  go_enter Try.func25, Try.ntmps25
  go_wp2_with fail
  refine (HCK.out _ B0.out).mono ?_
  rintro e w1 ⟨rfl, b1⟩
  have B1 := Lib.hid (B0.out.trans (b1.mono B0.out.size))
  have F1 := Lib.hid ((b1.block _ (lt_of_block F0.out)).trans F0.out)
  have Z1 := Lib.hid ((b1.block _ (lt_of_block Z0.out)).trans Z0.out)
  clear b1
  clear q0 q1 q2 q3 q4
  obtain ⟨q0, q1, q2, q3, q4⟩ := sp5 F1.out
  obtain ⟨z0, z1, z2, z3, z4⟩ := sp5 Z1.out
  have zf := fun i => bk_frz Z1.out i
  rcases faultSp_two s with f | f
  · by_cases c : 0 ≤ n ∧ n ≤ 4611686018427387903
    · have d1 : decide (0 ≤ n ∧ n ≤ 4611686018427387903) = true := by simp [c.1, c.2]
      have HR0 := Lib.hid (show s.heard.length ≤ 6 ∧ okL s.heard from ⟨((faultSp_iff s).1 f).2.2.2.2.2.1, ((faultSp_iff s).1 f).2.2.2.2.2.2.1⟩)
      rw [f]
      go_wp2_with fail
      refine (within_any _ _ _).mono ?_
      rintro e w9 ⟨rfl, rfl⟩
      rw [d1]
      go_wp2_with fail
      refine (HCP.out _ B1.out).mono ?_
      rintro e w2 ⟨Au, cu, Hu, cv, Ku, cw, css, rfl, hu, b2⟩
      have U2 := Lib.hid (hu.low (show w.heap.size + 2 ≤ w1.heap.size from lt_of_block Z1.out))
      have B2 := Lib.hid (B1.out.trans (b2.mono B1.out.size))
      have F2 := Lib.hid ((b2.block _ (lt_of_block F1.out)).trans F1.out)
      have Z2 := Lib.hid ((b2.block _ (lt_of_block Z1.out)).trans Z1.out)
      clear b2 zf hu
      clear q0 q1 q2 q3 q4
      clear z0 z1 z2 z3 z4
      obtain ⟨W3, hW3⟩ : ∃ x, (((((w2.setCell ⟨w.heap.size, 0, none⟩ (.int .i64 s.next)).setCell ⟨w.heap.size, 1, none⟩ (.slice Au s.sent.length cu)).setCell ⟨w.heap.size, 2, none⟩ (.int .i64 s.top)).setCell ⟨w.heap.size, 3, none⟩ (.slice Hu s.heard.length cv)).setCell ⟨w.heap.size, 4, none⟩ (.slice Ku s.skip.length cw)) = x := ⟨_, rfl⟩
      obtain ⟨f3, g3⟩ := sp5_put F2.out (.int .i64 s.next) (.slice Au s.sent.length cu) (.int .i64 s.top) (.slice Hu s.heard.length cv) (.slice Ku s.skip.length cw)
      rw [hW3] at f3 g3
      have F3 := Lib.hid f3
      have Z3 := Lib.hid ((g3.block _ (lt_of_block Z2.out) (by simp)).trans Z2.out)
      have B3 := Lib.hid (gr_from B2.out B2.out.size (Nat.le_refl _) g3)
      have U3 := Lib.hid (U2.out.on (KpS.gr g3 (show w.heap.size < w.heap.size + 2 by omega)))
      clear f3 g3
      obtain ⟨p0, p1, p2, p3, p4⟩ := sp5 F2.out
      have pf := fun i => bk_frz F2.out i
      obtain ⟨q0, q1, q2, q3, q4⟩ := sp5 F3.out
      have HNT := Lib.hid (fun A cx w' (hb : Below w.heap.size w w') (hr : RSl w' w'.heap.size (.slice A s.heard.length cx) s.heard) => show Calls Try.prog 55 #[.slice A s.heard.length cx, .int .i64 n] w' (NoteU s.heard n w') from by
        obtain ⟨A', c', e, h1, h2, h3⟩ := hr.ex
        injection e with e1 e2 e3
        subst e1 e3
        exact noteU_any A s.heard.length cx s.heard n w' h3 rfl HR0.out.2 ⟨c.1, Int.le_refl _, c.2⟩ (by have := HR0.out.1; omega) h1 h2)
      obtain ⟨nh, hnh⟩ : ∃ x, s.heard.length = x := ⟨_, rfl⟩
      by_cases hlow : lowSp s n
      · have HR := Lib.hid (show hearSp s n = (s, false, 0) from by unfold hearSp; rw [if_neg (by simp [f]), if_neg (fun q => q c), if_pos hlow])
        obtain ⟨h6, hlo⟩ := hlow
        obtain ⟨Ag, cg, eg, _, _, hrr⟩ := (StS.now U3.out.h).ex
        injection eg with e1 e2 e3
        subst e1 e3
        obtain ⟨bg, og, hHu, hbg, hcg⟩ := hrr (by omega)
        subst hHu
        have hc0 := (hcg 0 (by omega)).1
        obtain ⟨lo, hlo'⟩ : ∃ x, (s.heard.getD 0 (0, 0)).1 = x := ⟨_, rfl⟩
        simp only [Nat.zero_mul, Nat.add_zero] at hc0
        rw [hlo'] at hc0 hlo
        have d6 : ((s.heard.length : Int) == 6) = true := by simp [h6]
        have d7 : decide (n < lo) = true := by simp [hlo]
        have hidx : (0 : Int) < (s.heard.length : Int) := by omega
        clear hcg hrr hnh h6 hlo' hlo
        obtain ⟨z0, z1, z2, z3, z4⟩ := sp5 Z3.out
        have zf := fun i => bk_frz Z3.out i
        go_wp2_with fail
        obtain ⟨RY, gp⟩ := sp5_put Z3.out (.int .i64 s.next) (.slice Au s.sent.length cu) (.int .i64 s.top) (.slice (some ⟨bg, og, none⟩) s.heard.length cv) (.slice Ku s.skip.length cw)
        obtain ⟨y0, y1, y2, y3, y4⟩ := sp5 RY
        refine bodyPost_ret (by simp [results, Try.results25, go_sem, y0, y1, y2, y3, y4]; try rfl) rfl ?_
        rw [HR.out]
        exact ⟨gr_from B3.out B3.out.size (Nat.le_succ _) gp, _, rfl, SpU.low (lo := w.heap.size + 2) (U3.out.on (KpS.gr gp (show w.heap.size + 1 < w.heap.size + 2 by omega))).toU (by omega)⟩
      · have HR := Lib.hid (show hearSp s n = ({ s with heard := noteL s.heard n }, !hasB s.heard n, 0) from by unfold hearSp; rw [if_neg (by simp [f]), if_neg (fun q => q c), if_neg hlow, memB_has]; rfl)
        clear hnh
        by_cases h6 : s.heard.length = 6
        · have hlo : ¬ n < (s.heard.getD 0 (0, 0)).1 := fun q => hlow ⟨h6, q⟩
          obtain ⟨Ag, cg, eg, _, _, hrr⟩ := (StS.now U3.out.h).ex
          injection eg with e1 e2 e3
          subst e1 e3
          obtain ⟨bg, og, hHu, hbg, hcg⟩ := hrr (by omega)
          subst hHu
          have hc0 := (hcg 0 (by omega)).1
          obtain ⟨lo, hlo'⟩ : ∃ x, (s.heard.getD 0 (0, 0)).1 = x := ⟨_, rfl⟩
          simp only [Nat.zero_mul, Nat.add_zero] at hc0
          rw [hlo'] at hc0 hlo
          have d6 : ((s.heard.length : Int) == 6) = true := by simp [h6]
          have d7 : decide (n < lo) = false := by simp; omega
          have hidx : (0 : Int) < (s.heard.length : Int) := by omega
          clear hcg hrr hlow h6 hlo' hlo
          go_wp2_with fail
          refine (HNT.out _ _ _ B3.out (StS.now U3.out.h)).mono ?_
          rintro e w4 ⟨b4, Ag, cg, rfl, hg1, hg2, hg3⟩
          have HG1 := Lib.hid hg1
          have HG2 := Lib.hid hg2
          have RG := Lib.hid (show RU (w.heap.size + 2) w4 (.slice Ag (noteL s.heard n).length cg) (noteL s.heard n) from fun w' k => ⟨Ag, cg, rfl, HG1.out, HG2.out, hg3 w' (k.mono fun j (hj : j < w.heap.size + 2) => show j < W3.heap.size from Nat.lt_of_lt_of_le hj (lt_of_block Z3.out))⟩)
          have U4 := Lib.hid (U3.out.on (KpS.below b4))
          have B4 := Lib.hid (B3.out.trans (b4.mono B3.out.size))
          have F4 := Lib.hid ((b4.block _ (lt_of_block F3.out)).trans F3.out)
          have Z4 := Lib.hid ((b4.block _ (lt_of_block Z3.out)).trans Z3.out)
          clear b4 hg1 hg2 hg3 pf
          clear q0 q1 q2 q3 q4
          clear p0 p1 p2 p3 p4
          obtain ⟨p0, p1, p2, p3, p4⟩ := sp5 F4.out
          have pf := fun i => bk_frz F4.out i
          obtain ⟨W5, hW5⟩ : ∃ x, w4.setCell ⟨w.heap.size, 3, none⟩ (.slice Ag (noteL s.heard n).length cg) = x := ⟨_, rfl⟩
          have f5 := (sp5_set F4.out (.slice Ag (noteL s.heard n).length cg)).2.2.2.1
          have g5 := gr_set w4 w.heap.size 3 (.slice Ag (noteL s.heard n).length cg)
          rw [hW5] at f5 g5
          have F5 := Lib.hid f5
          have Z5 := Lib.hid ((g5.block _ (lt_of_block Z4.out) (by simp)).trans Z4.out)
          have B5 := Lib.hid (gr_from B4.out B4.out.size (Nat.le_refl _) g5)
          have U5 := Lib.hid (U4.out.on (KpS.gr g5 (show w.heap.size < w.heap.size + 2 by omega)))
          have RG5 := Lib.hid (RG.out.on (KpS.gr g5 (show w.heap.size < w.heap.size + 2 by omega)))
          clear f5 g5
          obtain ⟨q0, q1, q2, q3, q4⟩ := sp5 F5.out
          obtain ⟨z0, z1, z2, z3, z4⟩ := sp5 Z5.out
          have zf := fun i => bk_frz Z5.out i
          go_wp2_with fail
          obtain ⟨RY, gp⟩ := sp5_put Z5.out (.int .i64 s.next) (.slice Au s.sent.length cu) (.int .i64 s.top) (.slice Ag (noteL s.heard n).length cg) (.slice Ku s.skip.length cw)
          obtain ⟨y0, y1, y2, y3, y4⟩ := sp5 RY
          refine bodyPost_ret (by simp [results, Try.results25, go_sem, y0, y1, y2, y3, y4]; try rfl) rfl ?_
          rw [HR.out]
          refine ⟨gr_from B5.out B5.out.size (Nat.le_succ _) gp, _, rfl, SpU.low (lo := w.heap.size + 2) (fun w' k => ?_) (by omega)⟩
          have kk := (KpS.gr (S := fun j => j < w.heap.size + 2) gp (show w.heap.size + 1 < w.heap.size + 2 by omega)).trans k
          have k1 := U5.out.parts w' kk
          exact ⟨_, _, _, rfl, k1.1, RG5.out w' kk, k1.2.2⟩
        · have d6 : ((s.heard.length : Int) == 6) = false := by simp; omega
          clear hlow h6
          go_wp2_with fail
          refine (HNT.out _ _ _ B3.out (StS.now U3.out.h)).mono ?_
          rintro e w4 ⟨b4, Ag, cg, rfl, hg1, hg2, hg3⟩
          have HG1 := Lib.hid hg1
          have HG2 := Lib.hid hg2
          have RG := Lib.hid (show RU (w.heap.size + 2) w4 (.slice Ag (noteL s.heard n).length cg) (noteL s.heard n) from fun w' k => ⟨Ag, cg, rfl, HG1.out, HG2.out, hg3 w' (k.mono fun j (hj : j < w.heap.size + 2) => show j < W3.heap.size from Nat.lt_of_lt_of_le hj (lt_of_block Z3.out))⟩)
          have U4 := Lib.hid (U3.out.on (KpS.below b4))
          have B4 := Lib.hid (B3.out.trans (b4.mono B3.out.size))
          have F4 := Lib.hid ((b4.block _ (lt_of_block F3.out)).trans F3.out)
          have Z4 := Lib.hid ((b4.block _ (lt_of_block Z3.out)).trans Z3.out)
          clear b4 hg1 hg2 hg3 pf
          clear q0 q1 q2 q3 q4
          clear p0 p1 p2 p3 p4
          obtain ⟨p0, p1, p2, p3, p4⟩ := sp5 F4.out
          have pf := fun i => bk_frz F4.out i
          obtain ⟨W5, hW5⟩ : ∃ x, w4.setCell ⟨w.heap.size, 3, none⟩ (.slice Ag (noteL s.heard n).length cg) = x := ⟨_, rfl⟩
          have f5 := (sp5_set F4.out (.slice Ag (noteL s.heard n).length cg)).2.2.2.1
          have g5 := gr_set w4 w.heap.size 3 (.slice Ag (noteL s.heard n).length cg)
          rw [hW5] at f5 g5
          have F5 := Lib.hid f5
          have Z5 := Lib.hid ((g5.block _ (lt_of_block Z4.out) (by simp)).trans Z4.out)
          have B5 := Lib.hid (gr_from B4.out B4.out.size (Nat.le_refl _) g5)
          have U5 := Lib.hid (U4.out.on (KpS.gr g5 (show w.heap.size < w.heap.size + 2 by omega)))
          have RG5 := Lib.hid (RG.out.on (KpS.gr g5 (show w.heap.size < w.heap.size + 2 by omega)))
          clear f5 g5
          obtain ⟨q0, q1, q2, q3, q4⟩ := sp5 F5.out
          obtain ⟨z0, z1, z2, z3, z4⟩ := sp5 Z5.out
          have zf := fun i => bk_frz Z5.out i
          go_wp2_with fail
          obtain ⟨RY, gp⟩ := sp5_put Z5.out (.int .i64 s.next) (.slice Au s.sent.length cu) (.int .i64 s.top) (.slice Ag (noteL s.heard n).length cg) (.slice Ku s.skip.length cw)
          obtain ⟨y0, y1, y2, y3, y4⟩ := sp5 RY
          refine bodyPost_ret (by simp [results, Try.results25, go_sem, y0, y1, y2, y3, y4]; try rfl) rfl ?_
          rw [HR.out]
          refine ⟨gr_from B5.out B5.out.size (Nat.le_succ _) gp, _, rfl, SpU.low (lo := w.heap.size + 2) (fun w' k => ?_) (by omega)⟩
          have kk := (KpS.gr (S := fun j => j < w.heap.size + 2) gp (show w.heap.size + 1 < w.heap.size + 2 by omega)).trans k
          have k1 := U5.out.parts w' kk
          exact ⟨_, _, _, rfl, k1.1, RG5.out w' kk, k1.2.2⟩
    · have HR := Lib.hid (show hearSp s n = (sp0, false, 6) from by unfold hearSp; rw [if_neg (by simp [f]), if_pos c])
      have d1 : decide (0 ≤ n ∧ n ≤ 4611686018427387903) = false := by rw [decide_eq_false_iff_not]; exact c
      rw [f]
      go_wp2_with fail
      refine (within_any _ _ _).mono ?_
      rintro e w9 ⟨rfl, rfl⟩
      rw [d1]
      go_wp2_with fail
      obtain ⟨RY, gp⟩ := sp5_put Z1.out (.int .i64 0) (.slice none 0 0) (.int .i64 0) (.slice none 0 0) (.slice none 0 0)
      obtain ⟨y0, y1, y2, y3, y4⟩ := sp5 RY
      refine bodyPost_ret (by simp [results, Try.results25, go_sem, y0, y1, y2, y3, y4]; try rfl) rfl ?_
      rw [HR.out]
      exact ⟨gr_from B1.out B1.out.size (Nat.le_succ _) gp, _, rfl, SpU.nil _ _⟩
  · have HR := Lib.hid (show hearSp s n = (sp0, false, 9) from by unfold hearSp; rw [f]; rfl)
    rw [f]
    go_wp2_with fail
    obtain ⟨RY, gp⟩ := sp5_put Z1.out (.int .i64 0) (.slice none 0 0) (.int .i64 0) (.slice none 0 0) (.slice none 0 0)
    obtain ⟨y0, y1, y2, y3, y4⟩ := sp5 RY
    refine bodyPost_ret (by simp [results, Try.results25, go_sem, y0, y1, y2, y3, y4]; try rfl) rfl ?_
    rw [HR.out]
    exact ⟨gr_from B1.out B1.out.size (Nat.le_succ _) gp, _, rfl, SpU.nil _ _⟩
end Go.Proofs.Ytnccibaifffhhaa
