/- The document's answers on spaces: SpaceHeard. -/
import Derived.Test.YtgfbonfoimiknaaRefSpQuiet
import Derived.Test.YtgfbonfoimiknaaRefNoteU
import Derived.Test.YtgfbonfoimiknaaSpHear
namespace Go.Proofs.Ytgfbonfoimiknaa
set_option linter.unusedVariables false
open Go.RowKit P

set_option maxRecDepth 100000 in
set_option maxHeartbeats 2000000 in
theorem refSpHear_any (v : Value) (s : Sp) (n : Int) (w : World) (hv : SpVal w w.heap.size v s) (hw : SpWf s) : Calls Try.prog 40 #[v, .int .i64 n] w (SpHearR (hearSp s n) w) := by
  have HCK := Lib.hid (fun w' (hb : Below w.heap.size w w') => refSpFault_any v s w' ((hv.below hb).more hb.size) hw)
  obtain ⟨a, h, kk, rfl, ha, hh, hk⟩ := hv.ex
  have HA := Lib.hid ha
  have HH := Lib.hid hh
  have HK := Lib.hid hk
  obtain ⟨Aa, ca, csa, rfl, _, _, _, _⟩ := ha.ex
  obtain ⟨Ah, ch, rfl, _, _, hhr⟩ := hh.ex
  obtain ⟨Ak, ck, rfl, _, _, _⟩ := hk.ex
  have HHR := Lib.hid hhr
  obtain ⟨g0, g1, g2⟩ := twoX w #[.int .i64 s.next, .slice Aa s.sent.length ca, .int .i64 s.top, .slice Ah s.heard.length ch, .slice Ak s.skip.length ck] #[.int .i64 0, .slice none 0 0, .int .i64 0, .slice none 0 0, .slice none 0 0] 48 48
  have F0 := Lib.hid g0
  have Z0 := Lib.hid g1
  have B0 := Lib.hid g2
  clear g0 g1 g2
  clear hv ha hh hk hhr
  obtain ⟨q0, q1, q2, q3, q4⟩ := sp5 F0.out
  go_enter Try.func40, Try.ntmps40
  go_wp2_with fail
  refine (HCK.out _ B0.out).mono ?_
  rintro e w1 ⟨rfl, b1⟩
  have B1 := Lib.hid (B0.out.trans (b1.mono B0.out.size))
  have F1 := Lib.hid ((b1.block _ (lt_of_block F0.out)).trans F0.out)
  have Z1 := Lib.hid ((b1.block _ (lt_of_block Z0.out)).trans Z0.out)
  clear b1
  clear q0 q1 q2 q3 q4
  obtain ⟨q0, q1, q2, q3, q4⟩ := sp5 F1.out
  obtain ⟨z0, z1, z2, z3, z4⟩ := sp5 Z1.out
  have zf := fun i => bk_frz Z1.out i
  rcases faultSp_two s with f | f
  · by_cases c : 0 ≤ n ∧ n ≤ 4611686018427387903
    · have d1 : upB2 n 4611686018427387903 = true := upB2_yes c.1 c.2
      have HR0 := Lib.hid (show s.heard.length ≤ 6 ∧ okL s.heard from ⟨((faultSp_iff s).1 f).2.2.2.2.2.1, ((faultSp_iff s).1 f).2.2.2.2.2.2.1⟩)
      have HNT := Lib.hid (fun w' (hb : Below w.heap.size w w') => rnotedU_any Ah s.heard.length ch s.heard n w' ((HHR.out.below hb).more hb.size) rfl HR0.out.2 ⟨c.1, Int.le_refl _, c.2⟩ (by have := HR0.out.1; omega))
      rw [f]
      go_wp2_with fail
      refine (upTo_any _ _ _).mono ?_
      rintro e w9 ⟨rfl, rfl⟩
      rw [d1]
      by_cases hlow : lowSp s n
      · have HR := Lib.hid (show hearSp s n = (s, false, 0) from by unfold hearSp; rw [if_neg (by simp [f]), if_neg (fun q => q c), if_pos hlow])
        obtain ⟨h6, hlo⟩ := hlow
        obtain ⟨bg, og, hHu, hbg, hcg⟩ := HHR.out (by omega)
        subst hHu
        have hc0 := ((B1.out.cell hbg).trans (hcg 0 (by omega)).1)
        obtain ⟨lo, hlo'⟩ : ∃ x, (s.heard.getD 0 (0, 0)).1 = x := ⟨_, rfl⟩
        simp only [Nat.zero_mul, Nat.add_zero] at hc0
        rw [hlo'] at hc0 hlo
        have d6 : ((s.heard.length : Int) == 6) = true := by simp [h6]
        have d7 : decide (n < lo) = true := by simp; omega
        have hidx : (0 : Int) < (s.heard.length : Int) := by omega
        clear hcg h6 hlo' hlo
        go_wp2_with fail
        obtain ⟨RY, gp⟩ := sp5_put Z1.out (.int .i64 s.next) (.slice Aa s.sent.length ca) (.int .i64 s.top) (.slice (some ⟨bg, og, none⟩) s.heard.length ch) (.slice Ak s.skip.length ck)
        obtain ⟨y0, y1, y2, y3, y4⟩ := sp5 RY
        refine bodyPost_ret (by simp [results, Try.results40, go_sem, y0, y1, y2, y3, y4]; try rfl) rfl ?_
        rw [HR.out]
        have BE := gr_from B1.out B1.out.size (Nat.le_succ _) gp
        exact ⟨BE, _, rfl, _, _, _, rfl, HA.out.on BE, (HH.out.below BE).more BE.size, HK.out.on BE⟩
      · have HR := Lib.hid (show hearSp s n = ({ s with heard := noteL s.heard n }, !hasB s.heard n, 0) from by unfold hearSp; rw [if_neg (by simp [f]), if_neg (fun q => q c), if_neg hlow, memB_has]; rfl)
        by_cases h6 : s.heard.length = 6
        · have hlo : ¬ n < (s.heard.getD 0 (0, 0)).1 := fun q => hlow ⟨h6, q⟩
          obtain ⟨bg, og, hHu, hbg, hcg⟩ := HHR.out (by omega)
          subst hHu
          have hc0 := ((B1.out.cell hbg).trans (hcg 0 (by omega)).1)
          obtain ⟨lo, hlo'⟩ : ∃ x, (s.heard.getD 0 (0, 0)).1 = x := ⟨_, rfl⟩
          simp only [Nat.zero_mul, Nat.add_zero] at hc0
          rw [hlo'] at hc0 hlo
          have d6 : ((s.heard.length : Int) == 6) = true := by simp [h6]
          have d7 : decide (n < lo) = false := by simp; omega
          have hidx : (0 : Int) < (s.heard.length : Int) := by omega
          clear hlow hcg h6 hlo' hlo
          go_wp2_with fail
          refine (HNT.out _ B1.out).mono ?_
          rintro e w4 ⟨b4, Ag, cg, rfl, hg1, hg2, hg3⟩
          have HG1 := Lib.hid hg1
          have HG2 := Lib.hid hg2
          have RG := Lib.hid (show RU (w.heap.size + 2) w4 (.slice Ag (noteL s.heard n).length cg) (noteL s.heard n) from fun w' k => ⟨Ag, cg, rfl, HG1.out, HG2.out, hg3 w' (k.mono fun j (hj : j < w.heap.size + 2) => show j < w1.heap.size from Nat.lt_of_lt_of_le hj (lt_of_block Z1.out))⟩)
          have B4 := Lib.hid (B1.out.trans (b4.mono B1.out.size))
          have F4 := Lib.hid ((b4.block _ (lt_of_block F1.out)).trans F1.out)
          have Z4 := Lib.hid ((b4.block _ (lt_of_block Z1.out)).trans Z1.out)
          clear b4 hg1 hg2 hg3 zf
          clear q0 q1 q2 q3 q4
          clear z0 z1 z2 z3 z4
          obtain ⟨p0, p1, p2, p3, p4⟩ := sp5 F4.out
          have pf := fun i => bk_frz F4.out i
          obtain ⟨W5, hW5⟩ : ∃ x, w4.setCell ⟨w.heap.size, 3, none⟩ (.slice Ag (noteL s.heard n).length cg) = x := ⟨_, rfl⟩
          have f5 := (sp5_set F4.out (.slice Ag (noteL s.heard n).length cg)).2.2.2.1
          have g5 := gr_set w4 w.heap.size 3 (.slice Ag (noteL s.heard n).length cg)
          rw [hW5] at f5 g5
          have F5 := Lib.hid f5
          have Z5 := Lib.hid ((g5.block _ (lt_of_block Z4.out) (by simp)).trans Z4.out)
          have B5 := Lib.hid (gr_from B4.out B4.out.size (Nat.le_refl _) g5)
          have RG5 := Lib.hid (RG.out.on (KpS.gr g5 (show w.heap.size < w.heap.size + 2 by omega)))
          clear f5 g5
          obtain ⟨q0, q1, q2, q3, q4⟩ := sp5 F5.out
          obtain ⟨z0, z1, z2, z3, z4⟩ := sp5 Z5.out
          have zf := fun i => bk_frz Z5.out i
          go_wp2_with fail
          obtain ⟨RY, gp⟩ := sp5_put Z5.out (.int .i64 s.next) (.slice Aa s.sent.length ca) (.int .i64 s.top) (.slice Ag (noteL s.heard n).length cg) (.slice Ak s.skip.length ck)
          obtain ⟨y0, y1, y2, y3, y4⟩ := sp5 RY
          refine bodyPost_ret (by simp [results, Try.results40, go_sem, y0, y1, y2, y3, y4]; try rfl) rfl ?_
          rw [HR.out]
          have BE := gr_from B5.out B5.out.size (Nat.le_succ _) gp
          have kk := KpS.gr (S := fun j => j < w.heap.size + 2) gp (show w.heap.size + 1 < w.heap.size + 2 by omega)
          exact ⟨BE, _, rfl, _, _, _, rfl, HA.out.on BE, RG5.out _ kk, HK.out.on BE⟩
        · have d6 : ((s.heard.length : Int) == 6) = false := by simp; omega
          clear hlow h6
          go_wp2_with fail
          refine (HNT.out _ B1.out).mono ?_
          rintro e w4 ⟨b4, Ag, cg, rfl, hg1, hg2, hg3⟩
          have HG1 := Lib.hid hg1
          have HG2 := Lib.hid hg2
          have RG := Lib.hid (show RU (w.heap.size + 2) w4 (.slice Ag (noteL s.heard n).length cg) (noteL s.heard n) from fun w' k => ⟨Ag, cg, rfl, HG1.out, HG2.out, hg3 w' (k.mono fun j (hj : j < w.heap.size + 2) => show j < w1.heap.size from Nat.lt_of_lt_of_le hj (lt_of_block Z1.out))⟩)
          have B4 := Lib.hid (B1.out.trans (b4.mono B1.out.size))
          have F4 := Lib.hid ((b4.block _ (lt_of_block F1.out)).trans F1.out)
          have Z4 := Lib.hid ((b4.block _ (lt_of_block Z1.out)).trans Z1.out)
          clear b4 hg1 hg2 hg3 zf
          clear q0 q1 q2 q3 q4
          clear z0 z1 z2 z3 z4
          obtain ⟨p0, p1, p2, p3, p4⟩ := sp5 F4.out
          have pf := fun i => bk_frz F4.out i
          obtain ⟨W5, hW5⟩ : ∃ x, w4.setCell ⟨w.heap.size, 3, none⟩ (.slice Ag (noteL s.heard n).length cg) = x := ⟨_, rfl⟩
          have f5 := (sp5_set F4.out (.slice Ag (noteL s.heard n).length cg)).2.2.2.1
          have g5 := gr_set w4 w.heap.size 3 (.slice Ag (noteL s.heard n).length cg)
          rw [hW5] at f5 g5
          have F5 := Lib.hid f5
          have Z5 := Lib.hid ((g5.block _ (lt_of_block Z4.out) (by simp)).trans Z4.out)
          have B5 := Lib.hid (gr_from B4.out B4.out.size (Nat.le_refl _) g5)
          have RG5 := Lib.hid (RG.out.on (KpS.gr g5 (show w.heap.size < w.heap.size + 2 by omega)))
          clear f5 g5
          obtain ⟨q0, q1, q2, q3, q4⟩ := sp5 F5.out
          obtain ⟨z0, z1, z2, z3, z4⟩ := sp5 Z5.out
          have zf := fun i => bk_frz Z5.out i
          go_wp2_with fail
          obtain ⟨RY, gp⟩ := sp5_put Z5.out (.int .i64 s.next) (.slice Aa s.sent.length ca) (.int .i64 s.top) (.slice Ag (noteL s.heard n).length cg) (.slice Ak s.skip.length ck)
          obtain ⟨y0, y1, y2, y3, y4⟩ := sp5 RY
          refine bodyPost_ret (by simp [results, Try.results40, go_sem, y0, y1, y2, y3, y4]; try rfl) rfl ?_
          rw [HR.out]
          have BE := gr_from B5.out B5.out.size (Nat.le_succ _) gp
          have kk := KpS.gr (S := fun j => j < w.heap.size + 2) gp (show w.heap.size + 1 < w.heap.size + 2 by omega)
          exact ⟨BE, _, rfl, _, _, _, rfl, HA.out.on BE, RG5.out _ kk, HK.out.on BE⟩
    · have HR := Lib.hid (show hearSp s n = (sp0, false, 6) from by unfold hearSp; rw [if_neg (by simp [f]), if_pos c])
      have d1 : upB2 n 4611686018427387903 = false := upB2_no (by omega)
      rw [f]
      go_wp2_with fail
      refine (upTo_any _ _ _).mono ?_
      rintro e w9 ⟨rfl, rfl⟩
      rw [d1]
      go_wp2_with fail
      obtain ⟨RY, gp⟩ := sp5_put Z1.out (.int .i64 0) (.slice none 0 0) (.int .i64 0) (.slice none 0 0) (.slice none 0 0)
      obtain ⟨y0, y1, y2, y3, y4⟩ := sp5 RY
      refine bodyPost_ret (by simp [results, Try.results40, go_sem, y0, y1, y2, y3, y4]; try rfl) rfl ?_
      rw [HR.out]
      exact ⟨gr_from B1.out B1.out.size (Nat.le_succ _) gp, _, rfl, SpVal.nil _ _⟩
  · have HR := Lib.hid (show hearSp s n = (sp0, false, 9) from by unfold hearSp; rw [f]; rfl)
    rw [f]
    go_wp2_with fail
    obtain ⟨RY, gp⟩ := sp5_put Z1.out (.int .i64 0) (.slice none 0 0) (.int .i64 0) (.slice none 0 0) (.slice none 0 0)
    obtain ⟨y0, y1, y2, y3, y4⟩ := sp5 RY
    refine bodyPost_ret (by simp [results, Try.results40, go_sem, y0, y1, y2, y3, y4]; try rfl) rfl ?_
    rw [HR.out]
    exact ⟨gr_from B1.out B1.out.size (Nat.le_succ _) gp, _, rfl, SpVal.nil _ _⟩
end Go.Proofs.Ytgfbonfoimiknaa
