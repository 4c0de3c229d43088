/- The document's answers on gathers: GatherTaken. -/
import Derived.Test.YtippenbfoaohoaaRefGaWid
import Derived.RegionTactic
namespace Go.Proofs.Ytippenbfoaohoaa
set_option linter.unusedVariables false
open Go.RowKit P

/-- what Take says, by P8.4 -/
def takG (g : Ga) : Ga × List Int × Bool × Int :=
  if faultG g ≠ 0 then (ga0, [], false, faultG g)
  else match g.held with
  | [] => (g, [], g.final == g.done, 0)
  | p :: ps => if p.1 = g.done then (⟨g.done + p.2.length, ps, g.final, g.window⟩, p.2, g.final == g.done + p.2.length, 0) else (g, [], g.final == g.done, 0)
def TakRes (r : Ga × List Int × Bool × Int) (w : World) (e : Ending) (w' : World) : Prop := Below w.heap.size w w' ∧ ∃ u d, e = .returned (.tuple #[u, d, .bool r.2.2.1, .int .i64 r.2.2.2]) ∧ GaVal w' w'.heap.size u r.1 ∧ BSl w' w'.heap.size d r.2.1
theorem prow_tail {w : World} {B b o : Nat} {p : Pc} {ps : List Pc} (h : PRow w B (some ⟨b, o, none⟩) (p :: ps)) : PRow w B (some ⟨b, o + 2, none⟩) ps := fun hn => by
  obtain ⟨b', o', e, hB, hc⟩ := h (by simp)
  cases e
  refine ⟨b, o + 2, rfl, hB, fun j hj => ?_⟩
  obtain ⟨h1, d, h2, h3⟩ := hc (j + 1) (by simp; omega)
  simp only [List.getD_cons_succ] at h1 h2 h3
  rw [show o + (j + 1) * 2 = o + 2 + j * 2 by omega] at h1 h2
  exact ⟨h1, d, h2, h3⟩
theorem takG_bad {g : Ga} (h : faultG g ≠ 0) : takG g = (ga0, [], false, faultG g) := if_pos h
theorem takG_nil {g : Ga} (h : faultG g = 0) (hn : g.held = []) : takG g = (g, [], g.final == g.done, 0) := by
  unfold takG; rw [if_neg (fun e => e h), hn]
theorem takG_yes {g : Ga} {p : Pc} {ps : List Pc} (h : faultG g = 0) (hn : g.held = p :: ps) (hp : p.1 = g.done) : takG g = (⟨g.done + p.2.length, ps, g.final, g.window⟩, p.2, g.final == g.done + p.2.length, 0) := by
  unfold takG; rw [if_neg (fun e => e h), hn]; simp only; rw [if_pos hp]
theorem takG_no {g : Ga} {p : Pc} {ps : List Pc} (h : faultG g = 0) (hn : g.held = p :: ps) (hp : p.1 ≠ g.done) : takG g = (g, [], g.final == g.done, 0) := by
  unfold takG; rw [if_neg (fun e => e h), hn]; simp only; rw [if_neg hp]
section
variable {done final window : Int} {s : Value} {w : World} {A : Option Addr} {n c : Nat}
set_option maxRecDepth 100000 in
set_option maxHeartbeats 2000000 in
/-- nothing is taken -/
theorem refGaT_none (hF : ∀ w', Below w.heap.size w w' → Calls Try.prog 13 #[.agg #[.int .i64 done, .slice A n c, .int .i64 final, .int .i64 window]] w' fun e w'' => e = .returned (.int .i64 0) ∧ Below w'.heap.size w' w'')
    (hn : n = 0 ∨ 0 < n ∧ n ≤ c ∧ c ≤ maxLen ∧ ∃ b o x, A = some ⟨b, o, none⟩ ∧ b < w.heap.size ∧ w.cell? ⟨b, o, none⟩ = some (.int .i64 x) ∧ x ≠ done) :
    Calls Try.prog 18 #[.agg #[.int .i64 done, .slice A n c, .int .i64 final, .int .i64 window]] w fun e w' => e = .returned (.tuple #[.agg #[.int .i64 done, .slice A n c, .int .i64 final, .int .i64 window], .slice none 0 0, .bool (final == done), .int .i64 0]) ∧ Below w.heap.size w w' := by
  obtain ⟨g0, g1, g2⟩ := twoG w #[.int .i64 done, .slice A n c, .int .i64 final, .int .i64 window] #[.int .i64 0, .slice none 0 0, .int .i64 0, .int .i64 0] 24 24
  have G0 := Lib.hid g0
  have G1 := Lib.hid g1
  have B0 := Lib.hid g2
  have HF := Lib.hid hF
  clear hF g0 g1 g2
  rcases hn with rfl | ⟨hn, hnc, hcm, b, o, x, rfl, hb, hx, hne⟩
  · go_enter Try.func18, Try.ntmps18
    go_wp2_with (go_at_call 13; refine (HF.out _ B0.out).mono ?_; rintro e w1 ⟨rfl, b1⟩; have B1 := Lib.hid (B0.out.trans (b1.mono B0.out.size)); have F1 := Lib.hid ((b1.block _ (lt_of_block G0.out)).trans G0.out); have Z1 := Lib.hid ((b1.block _ (lt_of_block G1.out)).trans G1.out); clear b1; obtain ⟨q0, q1, q2, q3⟩ := bkG F1.out)
    go_quiet (fail)
    obtain ⟨W, hW⟩ : ∃ W, w1.drewN nq = W := ⟨_, rfl⟩
    rw [hW]
    have FW := Lib.hid (show W.heap[w.heap.size]? = some (.cells #[.int .i64 done, .slice A 0 c, .int .i64 final, .int .i64 window] 24 (0, 0)) from hW ▸ F1.out)
    have ZW := Lib.hid (show W.heap[w.heap.size + 1]? = some (.cells #[.int .i64 0, .slice none 0 0, .int .i64 0, .int .i64 0] 24 (0, 0)) from hW ▸ Z1.out)
    have BW := Lib.hid (show Below w.heap.size w W from hW ▸ Go.below_drewN B1.out _)
    clear hW q0 q1 q2 q3
    obtain ⟨q0, q1, q2, q3⟩ := bkG FW.out
    obtain ⟨z0, z1, z2, z3⟩ := bkG ZW.out
    have zf := fun i => bk_frz ZW.out i
    have kg : ∀ v0 v1 v2 v3 i, ((((W.setCell ⟨w.heap.size + 1, 0, none⟩ v0).setCell ⟨w.heap.size + 1, 1, none⟩ v1).setCell ⟨w.heap.size + 1, 2, none⟩ v2).setCell ⟨w.heap.size + 1, 3, none⟩ v3).cell? ⟨w.heap.size, i, none⟩ = W.cell? ⟨w.heap.size, i, none⟩ := fun v0 v1 v2 v3 i => by
      obtain ⟨_, _, _, _, gp⟩ := bkG_put ZW.out v0 v1 v2 v3
      have e := gp.block w.heap.size (lt_of_block FW.out) (by simp)
      simp only [World.cell?, e]
    go_wp2
    go_region
    all_goals
      obtain ⟨r0, r1, r2, r3, gp⟩ := bkG_put ZW.out (.int .i64 done) (.slice A 0 c) (.int .i64 final) (.int .i64 window)
      go_wp2
      refine bodyPost_ret (by simp [results, Try.results18, go_sem, r0, r1, r2, r3]; try rfl) rfl ?_
      exact ⟨rfl, gr_from BW.out BW.out.size (Nat.le_succ _) (gr_drew gp)⟩
  · have hne' : (x == done) = false := by simp [hne]
    unfold maxLen at hcm
    have hn' : decide ((0 : Int) < (n : Int)) = true := by simp; omega
    go_enter Try.func18, Try.ntmps18
    go_wp2_with (go_at_call 13; refine (HF.out _ B0.out).mono ?_; rintro e w1 ⟨rfl, b1⟩; have B1 := Lib.hid (B0.out.trans (b1.mono B0.out.size)); have F1 := Lib.hid ((b1.block _ (lt_of_block G0.out)).trans G0.out); have Z1 := Lib.hid ((b1.block _ (lt_of_block G1.out)).trans G1.out); clear b1; obtain ⟨q0, q1, q2, q3⟩ := bkG F1.out; have y0 := (B1.out.cell (p := ⟨b, o, none⟩) hb).trans hx)
    go_quiet (fail)
    obtain ⟨W, hW⟩ : ∃ W, w1.drewN nq = W := ⟨_, rfl⟩
    rw [hW]
    have FW := Lib.hid (show W.heap[w.heap.size]? = some (.cells #[.int .i64 done, .slice (some ⟨b, o, none⟩) n c, .int .i64 final, .int .i64 window] 24 (0, 0)) from hW ▸ F1.out)
    have ZW := Lib.hid (show W.heap[w.heap.size + 1]? = some (.cells #[.int .i64 0, .slice none 0 0, .int .i64 0, .int .i64 0] 24 (0, 0)) from hW ▸ Z1.out)
    have BW := Lib.hid (show Below w.heap.size w W from hW ▸ Go.below_drewN B1.out _)
    clear hW q0 q1 q2 q3 y0
    obtain ⟨q0, q1, q2, q3⟩ := bkG FW.out
    obtain ⟨z0, z1, z2, z3⟩ := bkG ZW.out
    have zf := fun i => bk_frz ZW.out i
    have kg : ∀ v0 v1 v2 v3 i, ((((W.setCell ⟨w.heap.size + 1, 0, none⟩ v0).setCell ⟨w.heap.size + 1, 1, none⟩ v1).setCell ⟨w.heap.size + 1, 2, none⟩ v2).setCell ⟨w.heap.size + 1, 3, none⟩ v3).cell? ⟨w.heap.size, i, none⟩ = W.cell? ⟨w.heap.size, i, none⟩ := fun v0 v1 v2 v3 i => by
      obtain ⟨_, _, _, _, gp⟩ := bkG_put ZW.out v0 v1 v2 v3
      have e := gp.block w.heap.size (lt_of_block FW.out) (by simp)
      simp only [World.cell?, e]
    go_wp2
    go_region
    all_goals
      obtain ⟨r0, r1, r2, r3, gp⟩ := bkG_put ZW.out (.int .i64 done) (.slice (some ⟨b, o, none⟩) n c) (.int .i64 final) (.int .i64 window)
      go_wp2
      refine bodyPost_ret (by simp [results, Try.results18, go_sem, r0, r1, r2, r3]; try rfl) rfl ?_
      exact ⟨rfl, gr_from BW.out BW.out.size (Nat.le_succ _) (gr_drew gp)⟩
set_option maxRecDepth 100000 in
set_option maxHeartbeats 2000000 in
/-- the first piece is taken -/
theorem refGaT_yes1 (b o q r m cd : Nat) (Ad : Option Addr) (hr : ¬ r = 0) (hF : ∀ w', Below w.heap.size w w' → Calls Try.prog 13 #[.agg #[.int .i64 done, .slice (some ⟨b, o, none⟩) (q + 1) (r + 1), .int .i64 final, .int .i64 window]] w' fun e w'' => e = .returned (.int .i64 0) ∧ Below w'.heap.size w' w'')
    (hqr : q ≤ r) (hcm : r + 1 ≤ maxLen) (hb : b < w.heap.size) (hx : w.cell? ⟨b, o, none⟩ = some (.int .i64 done)) (hy : w.cell? ⟨b, o + 1, none⟩ = some (.slice Ad m cd)) (d0 : 0 ≤ done) (d1 : done + (m : Int) ≤ 4611686018427387903) :
    Calls Try.prog 18 #[.agg #[.int .i64 done, .slice (some ⟨b, o, none⟩) (q + 1) (r + 1), .int .i64 final, .int .i64 window]] w fun e w' => e = .returned (.tuple #[.agg #[.int .i64 (done + m), .slice (some ⟨b, o + 2, none⟩) q r, .int .i64 final, .int .i64 window], .slice Ad m cd, .bool (final == done + (m : Int)), .int .i64 0]) ∧ Below w.heap.size w w' := by
  obtain ⟨g0, g1, g2⟩ := twoG w #[.int .i64 done, .slice (some ⟨b, o, none⟩) (q + 1) (r + 1), .int .i64 final, .int .i64 window] #[.int .i64 0, .slice none 0 0, .int .i64 0, .int .i64 0] 24 24
  have G0 := Lib.hid g0
  have G1 := Lib.hid g1
  have B0 := Lib.hid g2
  have HF := Lib.hid hF
  clear hF g0 g1 g2
  unfold maxLen at hcm
  have hn' : decide ((0 : Int) < ((q : Int) + 1)) = true := by simp <;> omega
  have hwa : IntKind.i64.wrap (done + (m : Int)) = done + (m : Int) := by rw [IntKind.wrap_i64]; omega
  go_enter Try.func18, Try.ntmps18
  go_wp2_with (go_at_call 13; refine (HF.out _ B0.out).mono ?_; rintro e w1 ⟨rfl, b1⟩; have B1 := Lib.hid (B0.out.trans (b1.mono B0.out.size)); have F1 := Lib.hid ((b1.block _ (lt_of_block G0.out)).trans G0.out); have Z1 := Lib.hid ((b1.block _ (lt_of_block G1.out)).trans G1.out); clear b1; obtain ⟨q0, q1, q2, q3⟩ := bkG F1.out; have y0 := (B1.out.cell (p := ⟨b, o, none⟩) hb).trans hx)
  go_quiet (fail)
  obtain ⟨W, hW⟩ : ∃ W, w1.drewN nq = W := ⟨_, rfl⟩
  rw [hW]
  have FW := Lib.hid (show W.heap[w.heap.size]? = some (.cells #[.int .i64 done, .slice (some ⟨b, o, none⟩) (q + 1) (r + 1), .int .i64 final, .int .i64 window] 24 (0, 0)) from hW ▸ F1.out)
  have ZW := Lib.hid (show W.heap[w.heap.size + 1]? = some (.cells #[.int .i64 0, .slice none 0 0, .int .i64 0, .int .i64 0] 24 (0, 0)) from hW ▸ Z1.out)
  have BW := Lib.hid (show Below w.heap.size w W from hW ▸ Go.below_drewN B1.out _)
  clear hW q0 q1 q2 q3 y0
  obtain ⟨q0, q1, q2, q3⟩ := bkG FW.out
  have qf := fun i => bk_frz FW.out i
  have y1 := (BW.out.cell (p := ⟨b, o + 1, none⟩) hb).trans hy
  have s1 := gr_set W w.heap.size 0 (.int .i64 (done + m))
  have FX := Lib.hid (show (W.setCell ⟨w.heap.size, 0, none⟩ (.int .i64 (done + m))).heap[w.heap.size]? = some (.cells #[.int .i64 (done + m), .slice (some ⟨b, o, none⟩) (q + 1) (r + 1), .int .i64 final, .int .i64 window] 24 (0, 0)) from by simpa using bk_set FW.out 0 (.int .i64 (done + m)))
  have s2 := gr_set (W.setCell ⟨w.heap.size, 0, none⟩ (.int .i64 (done + m))) w.heap.size 1 (.slice (some ⟨b, o + 2, none⟩) q r)
  have FY := Lib.hid (show ((W.setCell ⟨w.heap.size, 0, none⟩ (.int .i64 (done + m))).setCell ⟨w.heap.size, 1, none⟩ (.slice (some ⟨b, o + 2, none⟩) q r)).heap[w.heap.size]? = some (.cells #[.int .i64 (done + m), .slice (some ⟨b, o + 2, none⟩) q r, .int .i64 final, .int .i64 window] 24 (0, 0)) from by simpa using bk_set FX.out 1 (.slice (some ⟨b, o + 2, none⟩) q r))
  have ZY := Lib.hid (((gr_trans s1 s2).block _ (lt_of_block ZW.out) (by simp)).trans ZW.out)
  have BY := Lib.hid (gr_from BW.out BW.out.size (Nat.le_refl _) (gr_trans s1 s2))
  clear s1 s2
  obtain ⟨p0, p1, p2, p3⟩ := bkG FX.out
  have pf := fun i => bk_frz FX.out i
  obtain ⟨u0, u1, u2, u3⟩ := bkG FY.out
  obtain ⟨z0, z1, z2, z3⟩ := bkG ZY.out
  have zf := fun i => bk_frz ZY.out i
  go_wp2
  obtain ⟨Y, hY⟩ : ∃ Y, (W.setCell ⟨w.heap.size, 0, none⟩ (.int .i64 (done + m))).setCell ⟨w.heap.size, 1, none⟩ (.slice (some ⟨b, o + 2, none⟩) q r) = Y := ⟨_, rfl⟩
  rw [hY] at FY ZY BY u0 u1 u2 u3 z0 z1 z2 z3 zf
  rw [hY]
  have kg : ∀ v0 v1 v2 v3 i, ((((Y.setCell ⟨w.heap.size + 1, 0, none⟩ v0).setCell ⟨w.heap.size + 1, 1, none⟩ v1).setCell ⟨w.heap.size + 1, 2, none⟩ v2).setCell ⟨w.heap.size + 1, 3, none⟩ v3).cell? ⟨w.heap.size, i, none⟩ = Y.cell? ⟨w.heap.size, i, none⟩ := fun v0 v1 v2 v3 i => by
    obtain ⟨_, _, _, _, gp⟩ := bkG_put ZY.out v0 v1 v2 v3
    have e := gp.block w.heap.size (lt_of_block FY.out) (by simp)
    simp only [World.cell?, e]
  clear q0 q1 q2 q3 qf p0 p1 p2 p3 pf y1 hY FX
  go_region
  all_goals
    obtain ⟨r0, r1, r2, r3, gp⟩ := bkG_put ZY.out (.int .i64 (done + m)) (.slice (some ⟨b, o + 2, none⟩) q r) (.int .i64 final) (.int .i64 window)
    go_wp2
    refine bodyPost_ret (by simp [results, Try.results18, go_sem, r0, r1, r2, r3]; try rfl) rfl ?_
    exact ⟨rfl, gr_from BY.out BY.out.size (Nat.le_succ _) (gr_drew gp)⟩
set_option maxRecDepth 100000 in
set_option maxHeartbeats 2000000 in
/-- the first piece is taken, the only one there is room for -/
theorem refGaT_yes0 (b o q r m cd : Nat) (Ad : Option Addr) (hr : r = 0) (hF : ∀ w', Below w.heap.size w w' → Calls Try.prog 13 #[.agg #[.int .i64 done, .slice (some ⟨b, o, none⟩) 1 1, .int .i64 final, .int .i64 window]] w' fun e w'' => e = .returned (.int .i64 0) ∧ Below w'.heap.size w' w'')
    (hqr : q ≤ r) (hcm : r + 1 ≤ maxLen) (hb : b < w.heap.size) (hx : w.cell? ⟨b, o, none⟩ = some (.int .i64 done)) (hy : w.cell? ⟨b, o + 1, none⟩ = some (.slice Ad m cd)) (d0 : 0 ≤ done) (d1 : done + (m : Int) ≤ 4611686018427387903) :
    Calls Try.prog 18 #[.agg #[.int .i64 done, .slice (some ⟨b, o, none⟩) 1 1, .int .i64 final, .int .i64 window]] w fun e w' => e = .returned (.tuple #[.agg #[.int .i64 (done + m), .slice (some ⟨b, o, none⟩) 0 0, .int .i64 final, .int .i64 window], .slice Ad m cd, .bool (final == done + (m : Int)), .int .i64 0]) ∧ Below w.heap.size w w' := by
  obtain ⟨g0, g1, g2⟩ := twoG w #[.int .i64 done, .slice (some ⟨b, o, none⟩) 1 1, .int .i64 final, .int .i64 window] #[.int .i64 0, .slice none 0 0, .int .i64 0, .int .i64 0] 24 24
  have G0 := Lib.hid g0
  have G1 := Lib.hid g1
  have B0 := Lib.hid g2
  have HF := Lib.hid hF
  clear hF g0 g1 g2
  unfold maxLen at hcm
  have hwa : IntKind.i64.wrap (done + (m : Int)) = done + (m : Int) := by rw [IntKind.wrap_i64]; omega
  go_enter Try.func18, Try.ntmps18
  go_wp2_with (go_at_call 13; refine (HF.out _ B0.out).mono ?_; rintro e w1 ⟨rfl, b1⟩; have B1 := Lib.hid (B0.out.trans (b1.mono B0.out.size)); have F1 := Lib.hid ((b1.block _ (lt_of_block G0.out)).trans G0.out); have Z1 := Lib.hid ((b1.block _ (lt_of_block G1.out)).trans G1.out); clear b1; obtain ⟨q0, q1, q2, q3⟩ := bkG F1.out; have y0 := (B1.out.cell (p := ⟨b, o, none⟩) hb).trans hx)
  go_quiet (fail)
  obtain ⟨W, hW⟩ : ∃ W, w1.drewN nq = W := ⟨_, rfl⟩
  rw [hW]
  have FW := Lib.hid (show W.heap[w.heap.size]? = some (.cells #[.int .i64 done, .slice (some ⟨b, o, none⟩) 1 1, .int .i64 final, .int .i64 window] 24 (0, 0)) from hW ▸ F1.out)
  have ZW := Lib.hid (show W.heap[w.heap.size + 1]? = some (.cells #[.int .i64 0, .slice none 0 0, .int .i64 0, .int .i64 0] 24 (0, 0)) from hW ▸ Z1.out)
  have BW := Lib.hid (show Below w.heap.size w W from hW ▸ Go.below_drewN B1.out _)
  clear hW q0 q1 q2 q3 y0
  obtain ⟨q0, q1, q2, q3⟩ := bkG FW.out
  have qf := fun i => bk_frz FW.out i
  have y1 := (BW.out.cell (p := ⟨b, o + 1, none⟩) hb).trans hy
  have s1 := gr_set W w.heap.size 0 (.int .i64 (done + m))
  have FX := Lib.hid (show (W.setCell ⟨w.heap.size, 0, none⟩ (.int .i64 (done + m))).heap[w.heap.size]? = some (.cells #[.int .i64 (done + m), .slice (some ⟨b, o, none⟩) 1 1, .int .i64 final, .int .i64 window] 24 (0, 0)) from by simpa using bk_set FW.out 0 (.int .i64 (done + m)))
  have s2 := gr_set (W.setCell ⟨w.heap.size, 0, none⟩ (.int .i64 (done + m))) w.heap.size 1 (.slice (some ⟨b, o, none⟩) 0 0)
  have FY := Lib.hid (show ((W.setCell ⟨w.heap.size, 0, none⟩ (.int .i64 (done + m))).setCell ⟨w.heap.size, 1, none⟩ (.slice (some ⟨b, o, none⟩) 0 0)).heap[w.heap.size]? = some (.cells #[.int .i64 (done + m), .slice (some ⟨b, o, none⟩) 0 0, .int .i64 final, .int .i64 window] 24 (0, 0)) from by simpa using bk_set FX.out 1 (.slice (some ⟨b, o, none⟩) 0 0))
  have ZY := Lib.hid (((gr_trans s1 s2).block _ (lt_of_block ZW.out) (by simp)).trans ZW.out)
  have BY := Lib.hid (gr_from BW.out BW.out.size (Nat.le_refl _) (gr_trans s1 s2))
  clear s1 s2
  obtain ⟨p0, p1, p2, p3⟩ := bkG FX.out
  have pf := fun i => bk_frz FX.out i
  obtain ⟨u0, u1, u2, u3⟩ := bkG FY.out
  obtain ⟨z0, z1, z2, z3⟩ := bkG ZY.out
  have zf := fun i => bk_frz ZY.out i
  go_wp2
  obtain ⟨Y, hY⟩ : ∃ Y, (W.setCell ⟨w.heap.size, 0, none⟩ (.int .i64 (done + m))).setCell ⟨w.heap.size, 1, none⟩ (.slice (some ⟨b, o, none⟩) 0 0) = Y := ⟨_, rfl⟩
  rw [hY] at FY ZY BY u0 u1 u2 u3 z0 z1 z2 z3 zf
  rw [hY]
  have kg : ∀ v0 v1 v2 v3 i, ((((Y.setCell ⟨w.heap.size + 1, 0, none⟩ v0).setCell ⟨w.heap.size + 1, 1, none⟩ v1).setCell ⟨w.heap.size + 1, 2, none⟩ v2).setCell ⟨w.heap.size + 1, 3, none⟩ v3).cell? ⟨w.heap.size, i, none⟩ = Y.cell? ⟨w.heap.size, i, none⟩ := fun v0 v1 v2 v3 i => by
    obtain ⟨_, _, _, _, gp⟩ := bkG_put ZY.out v0 v1 v2 v3
    have e := gp.block w.heap.size (lt_of_block FY.out) (by simp)
    simp only [World.cell?, e]
  clear q0 q1 q2 q3 qf p0 p1 p2 p3 pf y1 hY FX
  go_region
  all_goals
    obtain ⟨r0, r1, r2, r3, gp⟩ := bkG_put ZY.out (.int .i64 (done + m)) (.slice (some ⟨b, o, none⟩) 0 0) (.int .i64 final) (.int .i64 window)
    go_wp2
    refine bodyPost_ret (by simp [results, Try.results18, go_sem, r0, r1, r2, r3]; try rfl) rfl ?_
    exact ⟨rfl, gr_from BY.out BY.out.size (Nat.le_succ _) (gr_drew gp)⟩
set_option maxHeartbeats 1000000 in
theorem refGaT_bad {x : Int} (hx : x ≠ 0) (hF : ∀ w', Below w.heap.size w w' → Calls Try.prog 13 #[.agg #[.int .i64 done, .slice A n c, .int .i64 final, .int .i64 window]] w' fun e w'' => e = .returned (.int .i64 x) ∧ Below w'.heap.size w' w'') :
    Calls Try.prog 18 #[.agg #[.int .i64 done, .slice A n c, .int .i64 final, .int .i64 window]] w fun e w' => e = .returned (.tuple #[.agg #[.int .i64 0, .slice none 0 0, .int .i64 0, .int .i64 0], .slice none 0 0, .bool false, .int .i64 x]) ∧ Below w.heap.size w w' := by
  obtain ⟨g0, g1, g2⟩ := twoG w #[.int .i64 done, .slice A n c, .int .i64 final, .int .i64 window] #[.int .i64 0, .slice none 0 0, .int .i64 0, .int .i64 0] 24 24
  have G0 := Lib.hid g0
  have G1 := Lib.hid g1
  have B0 := Lib.hid g2
  have HF := Lib.hid hF
  have gx : (x != 0) = true := by simp [hx]
  clear hF g0 g1 g2 hx
  go_enter Try.func18, Try.ntmps18
  go_wp2_with (go_at_call 13; refine (HF.out _ B0.out).mono ?_; rintro e w1 ⟨rfl, b1⟩; have B1 := Lib.hid (B0.out.trans (b1.mono B0.out.size)); have F1 := Lib.hid ((b1.block _ (lt_of_block G0.out)).trans G0.out); have Z1 := Lib.hid ((b1.block _ (lt_of_block G1.out)).trans G1.out); clear b1; obtain ⟨q0, q1, q2, q3⟩ := bkG F1.out; obtain ⟨z0, z1, z2, z3⟩ := bkG Z1.out; have zf := fun i => bk_frz Z1.out i)
  obtain ⟨r0, r1, r2, r3, gp⟩ := bkG_put Z1.out (.int .i64 0) (.slice none 0 0) (.int .i64 0) (.int .i64 0)
  refine bodyPost_ret (by simp [results, Try.results18, go_sem, r0, r1, r2, r3]; try rfl) rfl ?_
  exact ⟨rfl, gr_from B1.out B1.out.size (Nat.le_succ _) gp⟩
end
theorem refGaT_any (v : Value) (g : Ga) (w : World) (hv : GaVal w w.heap.size v g) (hw : GaWf g) (hlen : ∀ p ∈ g.held, p.2.length ≤ 140737488355328) :
    Calls Try.prog 18 #[v] w (TakRes (takG g) w) := by
  obtain ⟨s, rfl, hs⟩ := id hv.ex
  obtain ⟨A, c, rfl, hc, hm, hr⟩ := id hs.ex
  have HF := fun w' (hb : Below w.heap.size w w') => refGaF_any _ g w' (hv.on hb) hw hlen
  by_cases hf : faultG g = 0
  · rw [hf] at HF
    have hok : okG g := by unfold faultG at hf; split at hf; assumption; cases hf
    cases hh : g.held with
    | nil =>
      rw [takG_nil hf hh]
      rw [hh] at HF
      refine (refGaT_none HF (.inl rfl)).mono ?_
      rintro e w' ⟨rfl, hb⟩
      exact ⟨hb, _, _, rfl, by have := (hv.below hb).more hb.size; rw [hh] at this; exact this, BSl.nil _ _⟩
    | cons p ps =>
      obtain ⟨b, o, rfl, hb, hcell⟩ := hr (by rw [hh]; simp)
      obtain ⟨h1, d, h2, h3⟩ := hcell 0 (by rw [hh]; simp)
      rw [hh] at h1 h3
      simp only [List.getD_cons_zero, Nat.zero_mul, Nat.add_zero] at h1 h2 h3
      by_cases hp : p.1 = g.done
      · rw [takG_yes hf hh hp]
        obtain ⟨Ad, cd, rfl, _, _, _, _⟩ := id h3.ex
        rw [hp] at h1
        have hlen' : g.held.length = ps.length + 1 := by rw [hh]; rfl
        have hreach := reach_take (d := g.done) hok.2.2.2.2.1 1 (by omega) (by omega)
        rw [hh] at hreach
        simp only [List.take_succ_cons, List.take_zero] at hreach
        have hre : reachP g.done [p] = p.1 + p.2.length := rfl
        rw [hre, hp] at hreach
        have hwin := hok.2.2.1
        have hrw := hok.2.2.2.2.2.1
        rw [hh] at hrw
        rw [hlen'] at HF hc
        rw [show (p :: ps).length = ps.length + 1 from rfl]
        obtain ⟨r, rfl⟩ : ∃ r, c = r + 1 := ⟨c - 1, by omega⟩
        have hrow : PRow w w.heap.size (some ⟨b, o, none⟩) (p :: ps) := hh ▸ hr
        by_cases r0 : r = 0
        · subst r0
          have hps : ps.length = 0 := by omega
          have hpn : ps = [] := List.eq_nil_of_length_eq_zero hps
          subst hpn
          refine (refGaT_yes0 b o 0 0 p.2.length cd Ad rfl HF (Nat.le_refl _) (by omega) hb h1 h2 (by have := hok.1; omega) (by omega)).mono ?_
          rintro e w' ⟨rfl, hbl⟩
          exact ⟨hbl, _, _, rfl, ⟨_, rfl, ⟨_, 0, rfl, Nat.le_refl _, by unfold maxLen; omega, PRow.nil _ _ _⟩⟩, (h3.below hbl).more hbl.size⟩
        · refine (refGaT_yes1 b o ps.length r p.2.length cd Ad r0 HF (by omega) hm hb h1 h2 (by have := hok.1; omega) (by omega)).mono ?_
          rintro e w' ⟨rfl, hbl⟩
          exact ⟨hbl, _, _, rfl, ⟨_, rfl, ⟨_, r, rfl, (show ps.length ≤ r by omega), by unfold maxLen at *; omega, ((prow_tail hrow).below hbl).more hbl.size⟩⟩, (h3.below hbl).more hbl.size⟩
      · rw [takG_no hf hh hp]
        rw [hh] at HF hc
        refine (refGaT_none HF (.inr ⟨by simp, hc, hm, b, o, p.1, rfl, hb, h1, hp⟩)).mono ?_
        rintro e w' ⟨rfl, hbl⟩
        exact ⟨hbl, _, _, rfl, by have := (hv.below hbl).more hbl.size; rw [hh] at this; exact this, BSl.nil _ _⟩
  · rw [takG_bad hf]
    refine (refGaT_bad hf HF).mono ?_
    rintro e w' ⟨rfl, hbl⟩
    exact ⟨hbl, _, _, rfl, ⟨_, rfl, PSl.nil _ _⟩, BSl.nil _ _⟩
end Go.Proofs.Ytippenbfoaohoaa
