/- The document's answers on spaces: SpaceQuiet. -/
import Derived.Test.YtgfbonfoimiknaaRefSpFault
import Derived.Test.YtgfbonfoimiknaaGrpSj
namespace Go.Proofs.Ytgfbonfoimiknaa
set_option linter.unusedVariables false
open Go.RowKit P

/-- an answer of the document's functions: a space that may share memory with what was given -/
structure SpSendR (r : Sp × Int × Int) (w : World) (e : Ending) (w' : World) : Prop where
  be : Below w.heap.size w w'
  ex : ∃ u, e = .returned (.tuple #[u, .int .i64 r.2.1, .int .i64 r.2.2]) ∧ SpVal w' w'.heap.size u r.1
structure SpHearR (r : Sp × Bool × Int) (w : World) (e : Ending) (w' : World) : Prop where
  be : Below w.heap.size w w'
  ex : ∃ u, e = .returned (.tuple #[u, .bool r.2.1, .int .i64 r.2.2]) ∧ SpVal w' w'.heap.size u r.1
structure SpLeapR (r : Sp × Int) (w : World) (e : Ending) (w' : World) : Prop where
  be : Below w.heap.size w w'
  ex : ∃ u, e = .returned (.tuple #[u, .int .i64 r.2]) ∧ SpVal w' w'.heap.size u r.1
structure SpOverR (r : Sp × List Pcl × Int) (w : World) (e : Ending) (w' : World) : Prop where
  be : Below w.heap.size w w'
  ex : ∃ u l, e = .returned (.tuple #[u, l, .int .i64 r.2.2]) ∧ SpVal w' w'.heap.size u r.1 ∧ PlSl w' w'.heap.size l r.2.1
structure SpAckR (r : Sp × List Pcl × List Pcl × Int) (w : World) (e : Ending) (w' : World) : Prop where
  be : Below w.heap.size w w'
  ex : ∃ u l m, e = .returned (.tuple #[u, l, m, .int .i64 r.2.2.2]) ∧ SpVal w' w'.heap.size u r.1 ∧ PlSl w' w'.heap.size l r.2.1 ∧ PlSl w' w'.heap.size m r.2.2.1
set_option maxRecDepth 100000 in
set_option maxHeartbeats 1000000 in
theorem refSpQuiet_any (v : Value) (s : Sp) (w : World) (hv : SpVal w w.heap.size v s) (hw : SpWf s) : Calls Try.prog 38 #[v] w (SpSendR (quietSp s) w) := by
  have HCK := Lib.hid (fun w' (hb : Below w.heap.size w w') => refSpFault_any v s w' ((hv.below hb).more hb.size) hw)
  obtain ⟨a, h, kk, rfl, ha, hh, hk⟩ := hv.ex
  have HA := Lib.hid ha
  have HH := Lib.hid hh
  have HK := Lib.hid hk
  obtain ⟨Aa, ca, csa, rfl, _, _, _, _⟩ := ha.ex
  obtain ⟨Ah, ch, rfl, _, _, _⟩ := hh.ex
  obtain ⟨Ak, ck, rfl, _, _, _⟩ := hk.ex
  obtain ⟨g0, g1, g2⟩ := twoX w #[.int .i64 s.next, .slice Aa s.sent.length ca, .int .i64 s.top, .slice Ah s.heard.length ch, .slice Ak s.skip.length ck] #[.int .i64 0, .slice none 0 0, .int .i64 0, .slice none 0 0, .slice none 0 0] 48 48
  have F0 := Lib.hid g0
  have Z0 := Lib.hid g1
  have B0 := Lib.hid g2
  clear g0 g1 g2
  clear hv ha hh hk
  obtain ⟨q0, q1, q2, q3, q4⟩ := sp5 F0.out
  go_enter Try.func38, Try.ntmps38
  go_wp2_with fail
  refine (HCK.out _ B0.out).mono ?_
  rintro e w1 ⟨rfl, b1⟩
  have B1 := Lib.hid (B0.out.trans (b1.mono B0.out.size))
  have F1 := Lib.hid ((b1.block _ (lt_of_block F0.out)).trans F0.out)
  have Z1 := Lib.hid ((b1.block _ (lt_of_block Z0.out)).trans Z0.out)
  clear b1
  clear q0 q1 q2 q3 q4
  obtain ⟨q0, q1, q2, q3, q4⟩ := sp5 F1.out
  obtain ⟨z0, z1, z2, z3, z4⟩ := sp5 Z1.out
  have zf := fun i => bk_frz Z1.out i
  rcases faultSp_two s with f | f
  · by_cases c : s.next = 4611686018427387903
    · have HR := Lib.hid (show quietSp s = (sp0, 0, 8) from by unfold quietSp; rw [if_neg (by simp [f]), if_pos c])
      have d1 : decide (4611686018427387903 ≤ s.next) = true := by simp [c]
      rw [f]
      go_wp2_with fail
      obtain ⟨RY, gp⟩ := sp5_put Z1.out (.int .i64 0) (.slice none 0 0) (.int .i64 0) (.slice none 0 0) (.slice none 0 0)
      obtain ⟨y0, y1, y2, y3, y4⟩ := sp5 RY
      refine bodyPost_ret (by simp [results, Try.results38, go_sem, y0, y1, y2, y3, y4]; try rfl) rfl ?_
      rw [HR.out]
      exact ⟨gr_from B1.out B1.out.size (Nat.le_succ _) gp, _, rfl, SpVal.nil _ _⟩
    · have HR := Lib.hid (show quietSp s = ({ s with next := s.next + 1 }, s.next, 0) from by unfold quietSp; rw [if_neg (by simp [f]), if_neg c])
      have ok := ((faultSp_iff s).1 f).1
      have d1 : decide (4611686018427387903 ≤ s.next) = false := by simp; omega
      rw [f]
      obtain ⟨W2, hW2⟩ : ∃ x, w1.setCell ⟨w.heap.size, 0, none⟩ (.int .i64 (s.next + 1)) = x := ⟨_, rfl⟩
      have f2 := (sp5_set F1.out (.int .i64 (s.next + 1))).1
      have g2 := gr_set w1 w.heap.size 0 (.int .i64 (s.next + 1))
      rw [hW2] at f2 g2
      have F2 := Lib.hid f2
      have Z2 := Lib.hid ((g2.block _ (lt_of_block Z1.out) (by simp)).trans Z1.out)
      have B2 := Lib.hid (gr_from B1.out B1.out.size (Nat.le_refl _) g2)
      clear f2 g2
      clear z0 z1 z2 z3 z4
      clear zf
      obtain ⟨r0, r1, r2, r3, r4⟩ := sp5 F2.out
      obtain ⟨z0, z1, z2, z3, z4⟩ := sp5 Z2.out
      have zf := fun i => bk_frz Z2.out i
      have qf := fun i => bk_frz F1.out i
      go_wp2_with fail
      obtain ⟨RY, gp⟩ := sp5_put Z2.out (.int .i64 (s.next + 1)) (.slice Aa s.sent.length ca) (.int .i64 s.top) (.slice Ah s.heard.length ch) (.slice Ak s.skip.length ck)
      obtain ⟨y0, y1, y2, y3, y4⟩ := sp5 RY
      refine bodyPost_ret (by simp [results, Try.results38, go_sem, y0, y1, y2, y3, y4]; try rfl) rfl ?_
      rw [HR.out]
      have BE := gr_from B2.out B2.out.size (Nat.le_succ _) gp
      exact ⟨BE, _, rfl, _, _, _, rfl, HA.out.on BE, (HH.out.below BE).more BE.size, HK.out.on BE⟩
  · have HR := Lib.hid (show quietSp s = (sp0, 0, 9) from by unfold quietSp; rw [f]; rfl)
    rw [f]
    go_wp2_with fail
    obtain ⟨RY, gp⟩ := sp5_put Z1.out (.int .i64 0) (.slice none 0 0) (.int .i64 0) (.slice none 0 0) (.slice none 0 0)
    obtain ⟨y0, y1, y2, y3, y4⟩ := sp5 RY
    refine bodyPost_ret (by simp [results, Try.results38, go_sem, y0, y1, y2, y3, y4]; try rfl) rfl ?_
    rw [HR.out]
    exact ⟨gr_from B1.out B1.out.size (Nat.le_succ _) gp, _, rfl, SpVal.nil _ _⟩
end Go.Proofs.Ytgfbonfoimiknaa
