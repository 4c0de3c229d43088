/- Several texts in one. -/
import Derived.Test.YtnccibaifffhhaaSpChk
import Derived.Test.YtnccibaifffhhaaSpCopied
/- A space in new memory, by its three rows; what a walk over a space's variable wants. -/
namespace Go.Proofs.Ytnccibaifffhhaa
set_option linter.unusedVariables false
open Go.RowKit P

def RU (lo : Nat) (w : World) (v : Value) (ps : List (Int × Int)) : Prop := StS w (fun j => j < lo) (fun w => RSl w w.heap.size v ps)
def IU (lo : Nat) (w : World) (v : Value) (zs : List Int) : Prop := StS w (fun j => j < lo) (fun w => ISl w w.heap.size v zs)
theorem PlU.on {lo : Nat} {w w' : World} {v : Value} {ps : List Pcl} (h : PlU lo w v ps) (k : KpS (fun j => j < lo) w w') : PlU lo w' v ps := StS.on h k
theorem RU.on {lo : Nat} {w w' : World} {v : Value} {ps : List (Int × Int)} (h : RU lo w v ps) (k : KpS (fun j => j < lo) w w') : RU lo w' v ps := StS.on h k
theorem IU.on {lo : Nat} {w w' : World} {v : Value} {ps : List Int} (h : IU lo w v ps) (k : KpS (fun j => j < lo) w w') : IU lo w' v ps := StS.on h k
theorem PlU.low {lo lo' : Nat} {w : World} {v : Value} {ps : List Pcl} (h : PlU lo w v ps) (hl : lo' ≤ lo) : PlU lo' w v ps := StS.anti h fun j (hj : j < lo') => Nat.lt_of_lt_of_le hj hl
theorem RU.low {lo lo' : Nat} {w : World} {v : Value} {ps : List (Int × Int)} (h : RU lo w v ps) (hl : lo' ≤ lo) : RU lo' w v ps := StS.anti h fun j (hj : j < lo') => Nat.lt_of_lt_of_le hj hl
theorem IU.low {lo lo' : Nat} {w : World} {v : Value} {ps : List Int} (h : IU lo w v ps) (hl : lo' ≤ lo) : IU lo' w v ps := StS.anti h fun j (hj : j < lo') => Nat.lt_of_lt_of_le hj hl
theorem SpU.low {lo lo' : Nat} {w : World} {v : Value} {s : Sp} (h : SpU lo w v s) (hl : lo' ≤ lo) : SpU lo' w v s := StS.anti h fun j (hj : j < lo') => Nat.lt_of_lt_of_le hj hl
theorem SpU.now {lo : Nat} {w : World} {v : Value} {s : Sp} (h : SpU lo w v s) : SpVal w w.heap.size v s := StS.now h
/-- the three rows of a space in new memory -/
structure Sp3 (lo : Nat) (w : World) (a h k : Value) (s : Sp) : Prop where
  a : PlU lo w a s.sent
  h : RU lo w h s.heard
  k : IU lo w k s.skip
theorem Sp3.on {lo : Nat} {w w' : World} {a h k : Value} {s : Sp} (q : Sp3 lo w a h k s) (kk : KpS (fun j => j < lo) w w') : Sp3 lo w' a h k s := ⟨q.a.on kk, q.h.on kk, q.k.on kk⟩
theorem Sp3.low {lo lo' : Nat} {w : World} {a h k : Value} {s : Sp} (q : Sp3 lo w a h k s) (hl : lo' ≤ lo) : Sp3 lo' w a h k s := ⟨q.a.low hl, q.h.low hl, q.k.low hl⟩
theorem Sp3.toU {lo : Nat} {w : World} {a h k : Value} {s : Sp} (q : Sp3 lo w a h k s) : SpU lo w (.agg #[.int .i64 s.next, a, .int .i64 s.top, h, k]) s := fun w' kk => ⟨_, _, _, rfl, q.a w' kk, q.h w' kk, q.k w' kk⟩
theorem SpU.parts {lo : Nat} {w : World} {u : Value} {s : Sp} (h : SpU lo w u s) : ∃ (Aa Ah Ak : Option Addr) (ca ch ck : Nat), u = .agg #[.int .i64 s.next, .slice Aa s.sent.length ca, .int .i64 s.top, .slice Ah s.heard.length ch, .slice Ak s.skip.length ck] ∧ Sp3 lo w (.slice Aa s.sent.length ca) (.slice Ah s.heard.length ch) (.slice Ak s.skip.length ck) s := by
  obtain ⟨a, hh, k, rfl, h1, h2, h3⟩ := (StS.now h).ex
  obtain ⟨Aa, ca, _, rfl, _⟩ := h1.ex
  obtain ⟨Ah, ch, rfl, _⟩ := h2.ex
  obtain ⟨Ak, ck, rfl, _⟩ := h3.ex
  have key : ∀ w', KpS (fun j => j < lo) w w' → PlSl w' w'.heap.size (.slice Aa s.sent.length ca) s.sent ∧ RSl w' w'.heap.size (.slice Ah s.heard.length ch) s.heard ∧ ISl w' w'.heap.size (.slice Ak s.skip.length ck) s.skip := fun w' kk => by
    obtain ⟨a', h', k', e, g1, g2, g3⟩ := (h w' kk).ex
    injection e with e
    have e := congrArg Array.toList e
    simp only [List.cons.injEq, true_and, and_true] at e
    obtain ⟨e1, e2, e3⟩ := e
    rw [e1, e2, e3]
    exact ⟨g1, g2, g3⟩
  exact ⟨Aa, Ah, Ak, ca, ch, ck, rfl, fun w' kk => (key w' kk).1, fun w' kk => (key w' kk).2.1, fun w' kk => (key w' kk).2.2⟩
theorem PlU.nil (lo : Nat) (w : World) : PlU lo w (.slice none 0 0) [] := fun _ _ => PlSl.nil _ _
theorem RU.nil (lo : Nat) (w : World) : RU lo w (.slice none 0 0) [] := fun _ _ => RSl.nil _ _
theorem IU.nil (lo : Nat) (w : World) : IU lo w (.slice none 0 0) [] := fun _ _ => ISl.nil _ _
theorem SpU.nil (lo : Nat) (w : World) : SpU lo w (.agg #[.int .i64 0, .slice none 0 0, .int .i64 0, .slice none 0 0, .slice none 0 0]) sp0 := fun _ _ => SpVal.nil _ _
theorem faultSp_two (s : Sp) : faultSp s = 0 ∨ faultSp s = 9 := by unfold faultSp; split <;> simp
end Go.Proofs.Ytnccibaifffhhaa
/- Contracts of package space: Quiet. -/
namespace Go.Proofs.Ytnccibaifffhhaa
set_option linter.unusedVariables false
open Go.RowKit P

set_option maxRecDepth 100000 in
set_option maxHeartbeats 1000000 in
theorem spQuiet_any (v : Value) (s : Sp) (w : World) (hv : SpVal w w.heap.size v s) (hw : SpWf s) : Calls Try.prog 24 #[v] w (SpQuietN (quietSp s) w) := by
  have HCK := Lib.hid (fun w' (hb : Below w.heap.size w w') => spChk_any v s w' ((hv.below hb).more hb.size) hw)
  have HCP := Lib.hid (fun w' (hb : Below w.heap.size w w') => spCopied_any v s w' ((hv.below hb).more hb.size) hw)
  obtain ⟨a, h, kk, rfl, ha, hh, hk⟩ := hv.ex
  obtain ⟨Aa, ca, csa, rfl, _, _, _, _⟩ := ha.ex
  obtain ⟨Ah, ch, rfl, _, _, _⟩ := hh.ex
  obtain ⟨Ak, ck, rfl, _, _, _⟩ := hk.ex
  obtain ⟨g0, g1, g2⟩ := twoX w #[.int .i64 s.next, .slice Aa s.sent.length ca, .int .i64 s.top, .slice Ah s.heard.length ch, .slice Ak s.skip.length ck] #[.int .i64 0, .slice none 0 0, .int .i64 0, .slice none 0 0, .slice none 0 0] 48 48
  have F0 := Lib.hid g0
  have Z0 := Lib.hid g1
  have B0 := Lib.hid g2
  clear g0 g1 g2
  clear hv ha hh hk
  obtain ⟨q0, q1, q2, q3, q4⟩ := sp5 F0.out
  go_enter Try.func24, Try.ntmps24
  go_wp2_with fail
  refine (HCK.out _ B0.out).mono ?_
  rintro e w1 ⟨rfl, b1⟩
  have B1 := Lib.hid (B0.out.trans (b1.mono B0.out.size))
  have F1 := Lib.hid ((b1.block _ (lt_of_block F0.out)).trans F0.out)
  have Z1 := Lib.hid ((b1.block _ (lt_of_block Z0.out)).trans Z0.out)
  clear b1
  clear q0 q1 q2 q3 q4
  obtain ⟨q0, q1, q2, q3, q4⟩ := sp5 F1.out
  obtain ⟨z0, z1, z2, z3, z4⟩ := sp5 Z1.out
  have zf := fun i => bk_frz Z1.out i
  rcases faultSp_two s with f | f
  · by_cases c : s.next = 4611686018427387903
    · have HR := Lib.hid (show quietSp s = (sp0, 0, 8) from by unfold quietSp; rw [if_neg (by simp [f]), if_pos c])
      have d1 : (s.next == 4611686018427387903) = true := by simp [c]
      rw [f]
      go_wp2_with fail
      obtain ⟨RY, gp⟩ := sp5_put Z1.out (.int .i64 0) (.slice none 0 0) (.int .i64 0) (.slice none 0 0) (.slice none 0 0)
      obtain ⟨y0, y1, y2, y3, y4⟩ := sp5 RY
      refine bodyPost_ret (by simp [results, Try.results24, go_sem, y0, y1, y2, y3, y4]; try rfl) rfl ?_
      rw [HR.out]
      exact ⟨gr_from B1.out B1.out.size (Nat.le_succ _) gp, _, _, _, _, _, _, _, rfl, SpN.nil _ _⟩
    · have HR := Lib.hid (show quietSp s = ({ s with next := s.next + 1 }, s.next, 0) from by unfold quietSp; rw [if_neg (by simp [f]), if_neg c])
      have d1 : (s.next == 4611686018427387903) = false := by simp [c]
      have hnx := ((faultSp_iff s).1 f).1
      rw [f]
      go_wp2_with fail
      refine (HCP.out _ B1.out).mono ?_
      rintro e w2 ⟨Au, cu, Hu, cv, Ku, cw, css, rfl, hu, b2⟩
      have U2 := Lib.hid (hu.low (show w.heap.size + 2 ≤ w1.heap.size from lt_of_block Z1.out))
      have B2 := Lib.hid (B1.out.trans (b2.mono B1.out.size))
      have F2 := Lib.hid ((b2.block _ (lt_of_block F1.out)).trans F1.out)
      have Z2 := Lib.hid ((b2.block _ (lt_of_block Z1.out)).trans Z1.out)
      clear b2 zf hu
      clear q0 q1 q2 q3 q4
      clear z0 z1 z2 z3 z4
      obtain ⟨W3, hW3⟩ : ∃ x, (((((w2.setCell ⟨w.heap.size, 0, none⟩ (.int .i64 s.next)).setCell ⟨w.heap.size, 1, none⟩ (.slice Au s.sent.length cu)).setCell ⟨w.heap.size, 2, none⟩ (.int .i64 s.top)).setCell ⟨w.heap.size, 3, none⟩ (.slice Hu s.heard.length cv)).setCell ⟨w.heap.size, 4, none⟩ (.slice Ku s.skip.length cw)) = x := ⟨_, rfl⟩
      obtain ⟨f3, g3⟩ := sp5_put F2.out (.int .i64 s.next) (.slice Au s.sent.length cu) (.int .i64 s.top) (.slice Hu s.heard.length cv) (.slice Ku s.skip.length cw)
      rw [hW3] at f3 g3
      have F3 := Lib.hid f3
      have Z3 := Lib.hid ((g3.block _ (lt_of_block Z2.out) (by simp)).trans Z2.out)
      have B3 := Lib.hid (gr_from B2.out B2.out.size (Nat.le_refl _) g3)
      have U3 := Lib.hid (U2.out.on (KpS.gr g3 (show w.heap.size < w.heap.size + 2 by omega)))
      clear f3 g3
      obtain ⟨p0, p1, p2, p3, p4⟩ := sp5 F2.out
      have pf := fun i => bk_frz F2.out i
      obtain ⟨q0, q1, q2, q3, q4⟩ := sp5 F3.out
      have qf := fun i => bk_frz F3.out i
      obtain ⟨W4, hW4⟩ : ∃ x, W3.setCell ⟨w.heap.size, 0, none⟩ (.int .i64 (s.next + 1)) = x := ⟨_, rfl⟩
      have f4 := (sp5_set F3.out (.int .i64 (s.next + 1))).1
      have g4 := gr_set W3 w.heap.size 0 (.int .i64 (s.next + 1))
      rw [hW4] at f4 g4
      have F4 := Lib.hid f4
      have Z4 := Lib.hid ((g4.block _ (lt_of_block Z3.out) (by simp)).trans Z3.out)
      have B4 := Lib.hid (gr_from B3.out B3.out.size (Nat.le_refl _) g4)
      have U4 := Lib.hid (U3.out.on (KpS.gr g4 (show w.heap.size < w.heap.size + 2 by omega)))
      clear f4 g4
      obtain ⟨r0, r1, r2, r3, r4⟩ := sp5 F4.out
      obtain ⟨z0, z1, z2, z3, z4⟩ := sp5 Z4.out
      have zf := fun i => bk_frz Z4.out i
      go_wp2_with fail
      obtain ⟨RY, gp⟩ := sp5_put Z4.out (.int .i64 (s.next + 1)) (.slice Au s.sent.length cu) (.int .i64 s.top) (.slice Hu s.heard.length cv) (.slice Ku s.skip.length cw)
      obtain ⟨y0, y1, y2, y3, y4⟩ := sp5 RY
      refine bodyPost_ret (by simp [results, Try.results24, go_sem, y0, y1, y2, y3, y4]; try rfl) rfl ?_
      rw [HR.out]
      exact ⟨gr_from B4.out B4.out.size (Nat.le_succ _) gp, _, _, _, _, _, _, _, rfl, SpN.low (lo := w.heap.size + 2) ((U4.out.on (KpS.gr gp (show w.heap.size + 1 < w.heap.size + 2 by omega))).same rfl rfl rfl) (by omega)⟩
  · have HR := Lib.hid (show quietSp s = (sp0, 0, 9) from by unfold quietSp; rw [f]; rfl)
    rw [f]
    go_wp2_with fail
    obtain ⟨RY, gp⟩ := sp5_put Z1.out (.int .i64 0) (.slice none 0 0) (.int .i64 0) (.slice none 0 0) (.slice none 0 0)
    obtain ⟨y0, y1, y2, y3, y4⟩ := sp5 RY
    refine bodyPost_ret (by simp [results, Try.results24, go_sem, y0, y1, y2, y3, y4]; try rfl) rfl ?_
    rw [HR.out]
    exact ⟨gr_from B1.out B1.out.size (Nat.le_succ _) gp, _, _, _, _, _, _, _, rfl, SpN.nil _ _⟩
end Go.Proofs.Ytnccibaifffhhaa
/- Contracts of package space: Leap. -/
namespace Go.Proofs.Ytnccibaifffhhaa
set_option linter.unusedVariables false
open Go.RowKit P

/-- what Quiet answers, and Leap by it -/
theorem quiet_two (s : Sp) : (∃ f, f ≠ 0 ∧ quietSp s = (sp0, 0, f) ∧ leapSp s = (sp0, f)) ∨ (okSp s ∧ quietSp s = ({ s with next := s.next + 1 }, s.next, 0) ∧ s.next ≠ 4611686018427387903 ∧ leapSp s = ({ s with next := s.next + 1, skip := (s.skip ++ [s.next]).drop (s.skip.length + 1 - 6) }, 0)) := by
  by_cases f : faultSp s = 0
  · by_cases c : s.next = 4611686018427387903
    · exact .inl ⟨8, by decide, by unfold quietSp; rw [if_neg (by simp [f]), if_pos c], by unfold leapSp; rw [if_neg (by simp [f]), if_pos c]⟩
    · exact .inr ⟨(faultSp_iff s).1 f, by unfold quietSp; rw [if_neg (by simp [f]), if_neg c], c, by unfold leapSp; rw [if_neg (by simp [f]), if_neg c]⟩
  · exact .inl ⟨faultSp s, f, by unfold quietSp; rw [if_pos f], by unfold leapSp; rw [if_pos f]⟩
set_option maxRecDepth 100000 in
set_option maxHeartbeats 1000000 in
theorem spLeap_any (v : Value) (s : Sp) (w : World) (hv : SpVal w w.heap.size v s) (hw : SpWf s) : Calls Try.prog 23 #[v] w (SpLeapU (leapSp s) w) := by
  have HQ := Lib.hid (fun w' (hb : Below w.heap.size w w') => spQuiet_any v s w' ((hv.below hb).more hb.size) hw)
  obtain ⟨a, h, kk, rfl, ha, hh, hk⟩ := hv.ex
  obtain ⟨Aa, ca, csa, rfl, _, _, _, _⟩ := ha.ex
  obtain ⟨Ah, ch, rfl, _, _, _⟩ := hh.ex
  obtain ⟨Ak, ck, rfl, _, _, _⟩ := hk.ex
  obtain ⟨g0, g1, g2⟩ := twoX w #[.int .i64 s.next, .slice Aa s.sent.length ca, .int .i64 s.top, .slice Ah s.heard.length ch, .slice Ak s.skip.length ck] #[.int .i64 0, .slice none 0 0, .int .i64 0, .slice none 0 0, .slice none 0 0] 48 48
  have F0 := Lib.hid g0
  have Z0 := Lib.hid g1
  have B0 := Lib.hid g2
  clear g0 g1 g2
  clear hv ha hh hk
  obtain ⟨q0, q1, q2, q3, q4⟩ := sp5 F0.out
  obtain ⟨i0, hi0, hz0, hz1, hz2⟩ := info_partsE infoI
  have HI := Lib.hid hi0
  have HZ := Lib.hid hz0
  have HZ1 := Lib.hid hz1
  have HZ2 := Lib.hid hz2
  clear hi0 hz0 hz1 hz2
  go_enter Try.func23, Try.ntmps23
  rcases quiet_two s with ⟨f, hf, hq, hl⟩ | ⟨ok, hq, hn, hl⟩
  · have HQC := Lib.hid (fun w' (hb : Below w.heap.size w w') => (HQ.out w' hb).mono (R' := fun e w'' => Below w'.heap.size w' w'' ∧ ∃ Au cu Hu cv Ku cw, e = .returned (.tuple #[.agg #[.int .i64 0, .slice Au 0 cu, .int .i64 0, .slice Hu 0 cv, .slice Ku 0 cw], .int .i64 0, .int .i64 f])) (by
      rw [hq]
      rintro e w'' ⟨b, Au, cu, Hu, cv, Ku, cw, css, rfl, hu⟩
      exact ⟨b, Au, cu, Hu, cv, Ku, cw, rfl⟩))
    have d1 : (f != 0) = true := by simp [hf]
    clear HQ
    go_wp2_with fail
    refine (HQC.out _ B0.out).mono ?_
    rintro e w1 ⟨b1, Au, cu, Hu, cv, Ku, cw, rfl⟩
    have B1 := Lib.hid (B0.out.trans (b1.mono B0.out.size))
    have F1 := Lib.hid ((b1.block _ (lt_of_block F0.out)).trans F0.out)
    have Z1 := Lib.hid ((b1.block _ (lt_of_block Z0.out)).trans Z0.out)
    clear b1
    clear q0 q1 q2 q3 q4
    obtain ⟨q0, q1, q2, q3, q4⟩ := sp5 F1.out
    have qf := fun i => bk_frz F1.out i
    obtain ⟨W2, hW2⟩ : ∃ x, (((((w1.setCell ⟨w.heap.size, 0, none⟩ (.int .i64 0)).setCell ⟨w.heap.size, 1, none⟩ (.slice Au 0 cu)).setCell ⟨w.heap.size, 2, none⟩ (.int .i64 0)).setCell ⟨w.heap.size, 3, none⟩ (.slice Hu 0 cv)).setCell ⟨w.heap.size, 4, none⟩ (.slice Ku 0 cw)) = x := ⟨_, rfl⟩
    obtain ⟨f2, g2⟩ := sp5_put F1.out (.int .i64 0) (.slice Au 0 cu) (.int .i64 0) (.slice Hu 0 cv) (.slice Ku 0 cw)
    rw [hW2] at f2 g2
    have F2 := Lib.hid f2
    have Z2 := Lib.hid ((g2.block _ (lt_of_block Z1.out) (by simp)).trans Z1.out)
    have B2 := Lib.hid (gr_from B1.out B1.out.size (Nat.le_refl _) g2)
    clear f2 g2
    obtain ⟨z0, z1, z2, z3, z4⟩ := sp5 Z2.out
    have zf := fun i => bk_frz Z2.out i
    go_wp2_with fail
    obtain ⟨RY, gp⟩ := sp5_put Z2.out (.int .i64 0) (.slice none 0 0) (.int .i64 0) (.slice none 0 0) (.slice none 0 0)
    obtain ⟨y0, y1, y2, y3, y4⟩ := sp5 RY
    refine bodyPost_ret (by simp [results, Try.results23, go_sem, y0, y1, y2, y3, y4]; try rfl) rfl ?_
    rw [hl]
    exact ⟨gr_from B2.out B2.out.size (Nat.le_succ _) gp, _, rfl, SpU.nil _ _⟩
  · have HQC := Lib.hid (fun w' (hb : Below w.heap.size w w') => (HQ.out w' hb).mono (R' := fun e w'' => Below w'.heap.size w' w'' ∧ ∃ Au cu Hu cv Ku cw css, e = .returned (.tuple #[.agg #[.int .i64 (s.next + 1), .slice Au s.sent.length cu, .int .i64 s.top, .slice Hu s.heard.length cv, .slice Ku s.skip.length cw], .int .i64 s.next, .int .i64 0]) ∧ SpN w'.heap.size w'' Au cu Hu cv Ku cw css s) (by
      rw [hq]
      rintro e w'' ⟨b, Au, cu, Hu, cv, Ku, cw, css, rfl, hu⟩
      exact ⟨b, Au, cu, Hu, cv, Ku, cw, css, rfl, hu.same rfl rfl rfl⟩))
    have hk6 : s.skip.length ≤ 6 := ok.2.2.2.2.2.2.2.1
    clear HQ hq
    go_wp2_with fail
    refine (HQC.out _ B0.out).mono ?_
    rintro e w1 ⟨b1, Au, cu, Hu, cv, Ku, cw, css, rfl, hu⟩
    have U1 := Lib.hid (hu.low (show w.heap.size + 2 ≤ _ from lt_of_block Z0.out))
    have B1 := Lib.hid (B0.out.trans (b1.mono B0.out.size))
    have F1 := Lib.hid ((b1.block _ (lt_of_block F0.out)).trans F0.out)
    have Z1 := Lib.hid ((b1.block _ (lt_of_block Z0.out)).trans Z0.out)
    clear b1 hu
    clear q0 q1 q2 q3 q4
    obtain ⟨q0, q1, q2, q3, q4⟩ := sp5 F1.out
    have qf := fun i => bk_frz F1.out i
    obtain ⟨W2, hW2⟩ : ∃ x, (((((w1.setCell ⟨w.heap.size, 0, none⟩ (.int .i64 (s.next + 1))).setCell ⟨w.heap.size, 1, none⟩ (.slice Au s.sent.length cu)).setCell ⟨w.heap.size, 2, none⟩ (.int .i64 s.top)).setCell ⟨w.heap.size, 3, none⟩ (.slice Hu s.heard.length cv)).setCell ⟨w.heap.size, 4, none⟩ (.slice Ku s.skip.length cw)) = x := ⟨_, rfl⟩
    obtain ⟨f2, g2⟩ := sp5_put F1.out (.int .i64 (s.next + 1)) (.slice Au s.sent.length cu) (.int .i64 s.top) (.slice Hu s.heard.length cv) (.slice Ku s.skip.length cw)
    rw [hW2] at f2 g2
    have F2 := Lib.hid f2
    have Z2 := Lib.hid ((g2.block _ (lt_of_block Z1.out) (by simp)).trans Z1.out)
    have B2 := Lib.hid (gr_from B1.out B1.out.size (Nat.le_refl _) g2)
    have U2 := Lib.hid (U1.out.on (KpS.gr g2 (show w.heap.size < w.heap.size + 2 by omega)))
    clear f2 g2
    obtain ⟨r0, r1, r2, r3, r4⟩ := sp5 F2.out
    have rf := fun i => bk_frz F2.out i
    go_upto_region 4 with fail
    clear hW2 qf
    clear q0 q1 q2 q3 q4
    have AB := Lib.hid ((Below.refl W2.heap.size W2).alloc (Nat.le_refl _) (.cells #[.int .i64 s.next] 3))
    have NB := Lib.hid (RowE.one (E := intE) W2 s.next #[.int .i64 s.next] 3 W2.heap.size rfl rfl)
    have KO := Lib.hid (OwnE.later U2.out.kown AB.out)
    have hz2 := lt_of_block Z2.out
    obtain ⟨nk, hnk⟩ : ∃ x, s.skip.length = x := ⟨_, rfl⟩
    have HNK := Lib.hid hnk
    rw [hnk] at KO r4 hk6 ⊢
    clear hnk
    go_upto_region 5 with (at_builtin; (refine wpList_appE _ rfl (.tmp 18) (.tmp 20) _ rfl (w.heap.size + 2) 3 i0 _ 8 Try.underlying46 HI.out HZ.out HZ1.out HZ2.out rfl (by decide) (.slice Ku nk cw) s.skip rfl KO.out _ (some ⟨W2.heap.size, 0, none⟩) 1 1 [s.next] rfl NB.out rfl (by rw [HNK.out]; omega) (Nat.le_trans hz2 AB.out.size) ?_; intro v9 w9 own9 gr9; have O9 := Lib.hid own9; have G9 := Lib.hid gr9; clear own9 gr9))
    obtain ⟨n9, hn9⟩ : ∃ x, (s.skip ++ [s.next]).length = x := ⟨_, rfl⟩
    have HN9 := Lib.hid (show n9 = nk + 1 from by rw [← hn9, List.length_append, HNK.out]; rfl)
    obtain ⟨g, c9, hv9⟩ : ∃ g c9, v9 = .slice (some ⟨g, 0, none⟩) n9 c9 := by
      rcases O9.out.2 with ⟨e0, h0⟩ | ⟨g, cap, cur, ev, _⟩
      · rw [hn9] at h0; have := HN9.out; omega
      · exact ⟨g, cap, by rw [ev, hn9]⟩
    subst hv9
    obtain ⟨A9, c9', e9, h91, h92, _⟩ := O9.out.slice
    rw [hn9] at e9 h91
    injection e9 with e91 e92 e93
    subst c9'
    have S9 := Lib.hid (KpS.grO (S := fun j => j < w.heap.size + 2 ∨ Ku = some ⟨j, 0, none⟩) G9.out (fun y hy => .inr (own_at KO.out hy)))
    have F9 := Lib.hid ((G9.out.block _ (Nat.lt_of_lt_of_le (lt_of_block F2.out) AB.out.size) (fun e => by have := (OwnE.lt KO.out _ e.symm).1; omega)).trans ((AB.out.block _ (lt_of_block F2.out)).trans F2.out))
    have Z9 := Lib.hid ((G9.out.block _ (Nat.lt_of_lt_of_le (lt_of_block Z2.out) AB.out.size) (fun e => by have := (OwnE.lt KO.out _ e.symm).1; omega)).trans ((AB.out.block _ (lt_of_block Z2.out)).trans Z2.out))
    have B9 := Lib.hid ((B2.out.trans (AB.out.mono B2.out.size)).grown G9.out (Nat.le_trans B2.out.size AB.out.size) (fun q hq => by have := (OwnE.lt KO.out _ hq).1; omega))
    have SS : ∀ j, (j < w.heap.size + 2 ∨ Ku = some ⟨j, 0, none⟩) → SpS (w.heap.size + 2) Au Ku j := fun j hj => by
      rcases hj with hj | hj
      · exact .inl hj
      · exact .inr (.inr hj)
    have PA := Lib.hid ((StS.later (pl_own (S := fun j => j < w.heap.size + 2 ∨ Ku = some ⟨j, 0, none⟩) U2.out.own U2.out.len rfl (fun i h1 h2 => StS.anti (U2.out.cells i h1 h2) SS) (fun g hg => by
      intro q
      rcases q with q | q
      · have := (OwnE.lt U2.out.own g (own_blk hg)).1
        omega
      · exact U2.out.ne g hg q)) AB.out).on S9.out)
    have PH := Lib.hid ((StS.later (StS.anti U2.out.h SS) AB.out).on S9.out)
    have hs9 := S9.out.size
    have LL := Lib.hid hl
    clear e91 e92 SS hl
    have hc96 : n9 ≤ c9 := h91
    rcases Nat.lt_trichotomy nk 5 with h5 | h5 | h5
    · have hlo : nk < 5 := h5
      have hmx : (n9 : Int) - 6 < 0 := by have := HN9.out; omega
      have HD9 := Lib.hid (show 0 < n9 from by have := HN9.out; omega)
      clear HN9
      obtain ⟨q0, q1, q2, q3, q4⟩ := sp5 F9.out
      have qf := fun i => bk_frz F9.out i
      obtain ⟨W10, hW10⟩ : ∃ x, w9.setCell ⟨w.heap.size, 4, none⟩ (.slice (some ⟨g, 0, none⟩) (n9) (c9)) = x := ⟨_, rfl⟩
      have f10 := (sp5_set F9.out (.slice (some ⟨g, 0, none⟩) (n9) (c9))).2.2.2.2
      have g10 := gr_set w9 w.heap.size 4 (.slice (some ⟨g, 0, none⟩) (n9) (c9))
      rw [hW10] at f10 g10
      have F10 := Lib.hid f10
      have Z10 := Lib.hid ((g10.block _ (lt_of_block Z9.out) (by simp)).trans Z9.out)
      have B10 := Lib.hid (gr_from B9.out B9.out.size (Nat.le_refl _) g10)
      clear f10
      have PA10 := Lib.hid (StS.on PA.out (KpS.gr g10 (Or.inl (show w.heap.size < w.heap.size + 2 by omega))))
      have PH10 := Lib.hid (StS.on PH.out (KpS.gr g10 (Or.inl (show w.heap.size < w.heap.size + 2 by omega))))
      have PK10 := Lib.hid (StS.on (ints_cut (d := 0) O9.out hn9 HD9.out) (KpS.gr g10 (show w.heap.size < w.heap.size + 2 by omega)))
      obtain ⟨p0, p1, p2, p3, p4⟩ := sp5 F10.out
      obtain ⟨z0, z1, z2, z3, z4⟩ := sp5 Z10.out
      have zf := fun i => bk_frz Z10.out i
      clear g10
      go_wp2_with fail
      obtain ⟨RY, gp⟩ := sp5_put Z10.out (.int .i64 (s.next + 1)) (.slice Au s.sent.length cu) (.int .i64 s.top) (.slice Hu s.heard.length cv) (.slice (some ⟨g, 0, none⟩) (n9) (c9))
      obtain ⟨y0, y1, y2, y3, y4⟩ := sp5 RY
      refine bodyPost_ret (by simp [results, Try.results23, go_sem, y0, y1, y2, y3, y4]; try rfl) rfl ?_
      rw [LL.out]
      refine ⟨gr_from B10.out B10.out.size (Nat.le_succ _) gp, _, rfl, ?_⟩
      refine SpU.low (lo := w.heap.size + 2) (fun w' k => ?_) (by omega)
      have kk := (KpS.gr (S := fun j => j < w.heap.size + 2) gp (show w.heap.size + 1 < w.heap.size + 2 by omega)).trans k
      exact ⟨_, _, _, rfl, StS.anti PA10.out (fun j hj => .inl hj) w' kk, StS.anti PH10.out (fun j hj => .inl hj) w' kk, by have := PK10.out w' kk; rw [HNK.out, show nk + 1 - 6 = 0 from by omega]; exact this⟩
    · subst h5
      obtain rfl : n9 = 6 := HN9.out
      have HD9 := Lib.hid (show 0 < 6 from by have := HN9.out; omega)
      clear HN9
      obtain ⟨q0, q1, q2, q3, q4⟩ := sp5 F9.out
      have qf := fun i => bk_frz F9.out i
      obtain ⟨W10, hW10⟩ : ∃ x, w9.setCell ⟨w.heap.size, 4, none⟩ (.slice (some ⟨g, 0, none⟩) (6) (c9)) = x := ⟨_, rfl⟩
      have f10 := (sp5_set F9.out (.slice (some ⟨g, 0, none⟩) (6) (c9))).2.2.2.2
      have g10 := gr_set w9 w.heap.size 4 (.slice (some ⟨g, 0, none⟩) (6) (c9))
      rw [hW10] at f10 g10
      have F10 := Lib.hid f10
      have Z10 := Lib.hid ((g10.block _ (lt_of_block Z9.out) (by simp)).trans Z9.out)
      have B10 := Lib.hid (gr_from B9.out B9.out.size (Nat.le_refl _) g10)
      clear f10
      have PA10 := Lib.hid (StS.on PA.out (KpS.gr g10 (Or.inl (show w.heap.size < w.heap.size + 2 by omega))))
      have PH10 := Lib.hid (StS.on PH.out (KpS.gr g10 (Or.inl (show w.heap.size < w.heap.size + 2 by omega))))
      have PK10 := Lib.hid (StS.on (ints_cut (d := 0) O9.out hn9 HD9.out) (KpS.gr g10 (show w.heap.size < w.heap.size + 2 by omega)))
      obtain ⟨p0, p1, p2, p3, p4⟩ := sp5 F10.out
      obtain ⟨z0, z1, z2, z3, z4⟩ := sp5 Z10.out
      have zf := fun i => bk_frz Z10.out i
      clear g10
      go_wp2_with fail
      obtain ⟨RY, gp⟩ := sp5_put Z10.out (.int .i64 (s.next + 1)) (.slice Au s.sent.length cu) (.int .i64 s.top) (.slice Hu s.heard.length cv) (.slice (some ⟨g, 0, none⟩) (6) (c9))
      obtain ⟨y0, y1, y2, y3, y4⟩ := sp5 RY
      refine bodyPost_ret (by simp [results, Try.results23, go_sem, y0, y1, y2, y3, y4]; try rfl) rfl ?_
      rw [LL.out]
      refine ⟨gr_from B10.out B10.out.size (Nat.le_succ _) gp, _, rfl, ?_⟩
      refine SpU.low (lo := w.heap.size + 2) (fun w' k => ?_) (by omega)
      have kk := (KpS.gr (S := fun j => j < w.heap.size + 2) gp (show w.heap.size + 1 < w.heap.size + 2 by omega)).trans k
      exact ⟨_, _, _, rfl, StS.anti PA10.out (fun j hj => .inl hj) w' kk, StS.anti PH10.out (fun j hj => .inl hj) w' kk, by have := PK10.out w' kk; rw [HNK.out]; exact this⟩
    · obtain rfl : nk = 6 := by omega
      obtain rfl : n9 = 7 := HN9.out
      clear h5
      have HD9 := Lib.hid (show 1 < 7 from by have := HN9.out; omega)
      clear HN9
      obtain ⟨q0, q1, q2, q3, q4⟩ := sp5 F9.out
      have qf := fun i => bk_frz F9.out i
      obtain ⟨W10, hW10⟩ : ∃ x, w9.setCell ⟨w.heap.size, 4, none⟩ (.slice (some ⟨g, 1, none⟩) (6) (c9 - 1)) = x := ⟨_, rfl⟩
      have f10 := (sp5_set F9.out (.slice (some ⟨g, 1, none⟩) (6) (c9 - 1))).2.2.2.2
      have g10 := gr_set w9 w.heap.size 4 (.slice (some ⟨g, 1, none⟩) (6) (c9 - 1))
      rw [hW10] at f10 g10
      have F10 := Lib.hid f10
      have Z10 := Lib.hid ((g10.block _ (lt_of_block Z9.out) (by simp)).trans Z9.out)
      have B10 := Lib.hid (gr_from B9.out B9.out.size (Nat.le_refl _) g10)
      clear f10
      have PA10 := Lib.hid (StS.on PA.out (KpS.gr g10 (Or.inl (show w.heap.size < w.heap.size + 2 by omega))))
      have PH10 := Lib.hid (StS.on PH.out (KpS.gr g10 (Or.inl (show w.heap.size < w.heap.size + 2 by omega))))
      have PK10 := Lib.hid (StS.on (ints_cut (d := 1) O9.out hn9 HD9.out) (KpS.gr g10 (show w.heap.size < w.heap.size + 2 by omega)))
      obtain ⟨p0, p1, p2, p3, p4⟩ := sp5 F10.out
      obtain ⟨z0, z1, z2, z3, z4⟩ := sp5 Z10.out
      have zf := fun i => bk_frz Z10.out i
      clear g10
      go_wp2_with fail
      obtain ⟨RY, gp⟩ := sp5_put Z10.out (.int .i64 (s.next + 1)) (.slice Au s.sent.length cu) (.int .i64 s.top) (.slice Hu s.heard.length cv) (.slice (some ⟨g, 1, none⟩) (6) (c9 - 1))
      obtain ⟨y0, y1, y2, y3, y4⟩ := sp5 RY
      refine bodyPost_ret (by simp [results, Try.results23, go_sem, y0, y1, y2, y3, y4]; try rfl) rfl ?_
      rw [LL.out]
      refine ⟨gr_from B10.out B10.out.size (Nat.le_succ _) gp, _, rfl, ?_⟩
      refine SpU.low (lo := w.heap.size + 2) (fun w' k => ?_) (by omega)
      have kk := (KpS.gr (S := fun j => j < w.heap.size + 2) gp (show w.heap.size + 1 < w.heap.size + 2 by omega)).trans k
      exact ⟨_, _, _, rfl, StS.anti PA10.out (fun j hj => .inl hj) w' kk, StS.anti PH10.out (fun j hj => .inl hj) w' kk, by have := PK10.out w' kk; rw [HNK.out]; exact this⟩
end Go.Proofs.Ytnccibaifffhhaa
