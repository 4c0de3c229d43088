/- Contract of package gather: Take. -/
import Derived.Test.YtfbjgbnlgaajaaaGaWiden
namespace Go.Proofs.Ytfbjgbnlgaajaaa
set_option linter.unusedVariables false
open Go.RowKit P

theorem beq_int_comm (a b : Int) : (a == b) = (b == a) := by
  by_cases h : a = b
  · rw [h]
  · rw [beq_eq_false_iff_ne.2 h, beq_eq_false_iff_ne.2 (Ne.symm h)]
section
variable {done final window : Int} {A : Option Addr} {n c : Nat} {w : World}
set_option maxHeartbeats 1000000 in
theorem gaTake_bad {x : Int} (hx : x ≠ 0) (hF : ∀ w', Below w.heap.size w w' → Calls Try.prog 11 #[.agg #[.int .i64 done, .slice A n c, .int .i64 final, .int .i64 window]] w' fun e w'' => e = .returned (.int .i64 x) ∧ Below w'.heap.size w' w'') :
    Calls Try.prog 17 #[.agg #[.int .i64 done, .slice A n c, .int .i64 final, .int .i64 window]] w fun e w' => e = .returned (.tuple #[.agg #[.int .i64 0, .slice none 0 0, .int .i64 0, .int .i64 0], .slice none 0 0, .bool false, .int .i64 x]) ∧ Below w.heap.size w w' := by
  obtain ⟨g0, g1, g2⟩ := twoG w #[.int .i64 done, .slice A n c, .int .i64 final, .int .i64 window] #[.int .i64 0, .slice none 0 0, .int .i64 0, .int .i64 0] 24 24
  have G0 := Lib.hid g0
  have G1 := Lib.hid g1
  have B0 := Lib.hid g2
  have HF := Lib.hid hF
  have gx : (x != 0) = true := by simp [hx]
  clear hF g0 g1 g2 hx
  go_enter Try.func17, Try.ntmps17
  go_wp2_with (go_at_call 11; refine (HF.out _ B0.out).mono ?_; rintro e w1 ⟨rfl, b1⟩; have B1 := Lib.hid (B0.out.trans (b1.mono B0.out.size)); have F1 := Lib.hid ((b1.block _ (lt_of_block G0.out)).trans G0.out); have Z1 := Lib.hid ((b1.block _ (lt_of_block G1.out)).trans G1.out); clear b1; obtain ⟨q0, q1, q2, q3⟩ := bkG F1.out; obtain ⟨z0, z1, z2, z3⟩ := bkG Z1.out; have zf := fun i => bk_frz Z1.out i)
  obtain ⟨r0, r1, r2, r3, gp⟩ := bkG_put Z1.out (.int .i64 0) (.slice none 0 0) (.int .i64 0) (.int .i64 0)
  refine bodyPost_ret (by simp [results, Try.results17, go_sem, r0, r1, r2, r3]; try rfl) rfl ?_
  exact ⟨rfl, gr_from B1.out B1.out.size (Nat.le_succ _) gp⟩
/-- what is asked of copied, over what is left -/
def CopyD (w : World) (v : Value) (ps : List Pc) : Prop := ∀ w', Below w.heap.size w w' → Calls Try.prog 35 #[v] w' fun e w'' => ∃ u cs, e = .returned u ∧ RowP w'' w'.heap.size u cs ∧ cs.map PC.pc = ps ∧ Below w'.heap.size w' w''
set_option maxRecDepth 100000 in
set_option maxRecDepth 100000 in
set_option maxHeartbeats 2000000 in
/-- nothing is taken -/
theorem gaTake_none (ps : List Pc) (hF : ∀ w', Below w.heap.size w w' → Calls Try.prog 11 #[.agg #[.int .i64 done, .slice A n c, .int .i64 final, .int .i64 window]] w' fun e w'' => e = .returned (.int .i64 0) ∧ Below w'.heap.size w' w'')
    (hC : CopyD w (.slice A n c) ps) (hn : n = 0 ∨ (0 < n ∧ ∃ b o x, A = some ⟨b, o, none⟩ ∧ b < w.heap.size ∧ w.cell? ⟨b, o, none⟩ = some (.int .i64 x) ∧ x ≠ done)) :
    Calls Try.prog 17 #[.agg #[.int .i64 done, .slice A n c, .int .i64 final, .int .i64 window]] w (TakResF (⟨done, ps, final, window⟩, [], final == done, 0) w) := by
  obtain ⟨g0, g1, g2⟩ := twoG w #[.int .i64 done, .slice A n c, .int .i64 final, .int .i64 window] #[.int .i64 0, .slice none 0 0, .int .i64 0, .int .i64 0] 24 24
  have G0 := Lib.hid g0
  have G1 := Lib.hid g1
  have B0 := Lib.hid g2
  have HF := Lib.hid hF
  have HC := Lib.hid hC
  clear hF g0 g1 g2 hC
  rcases hn with hn | ⟨hn, b, o, x, rfl, hb, hx, hne⟩
  · subst hn
    go_enter Try.func17, Try.ntmps17
    go_wp2_with (go_at_call 11; refine (HF.out _ B0.out).mono ?_; rintro e w1 ⟨rfl, b1⟩; have B1 := Lib.hid (B0.out.trans (b1.mono B0.out.size)); have F1 := Lib.hid ((b1.block _ (lt_of_block G0.out)).trans G0.out); have Z1 := Lib.hid ((b1.block _ (lt_of_block G1.out)).trans G1.out); clear b1; obtain ⟨q0, q1, q2, q3⟩ := bkG F1.out)
    go_quiet (fail)
    obtain ⟨W, hW⟩ : ∃ W, w1.drewN nq = W := ⟨_, rfl⟩
    rw [hW]
    have FW := Lib.hid (show W.heap[w.heap.size]? = some (.cells #[.int .i64 done, .slice A 0 c, .int .i64 final, .int .i64 window] 24 (0, 0)) from hW ▸ F1.out)
    have ZW := Lib.hid (show W.heap[w.heap.size + 1]? = some (.cells #[.int .i64 0, .slice none 0 0, .int .i64 0, .int .i64 0] 24 (0, 0)) from hW ▸ Z1.out)
    have BW := Lib.hid (show Below w.heap.size w W from hW ▸ Go.below_drewN B1.out _)
    clear hW q0 q1 q2 q3
    obtain ⟨q0, q1, q2, q3⟩ := bkG FW.out
    go_wp2_with fail
    refine (HC.out _ BW.out).mono ?_
    rintro e w2 ⟨u, cs, rfl, r2, ec, b2⟩
    have R2 := Lib.hid r2
    have EC := Lib.hid ec
    have B2 := Lib.hid (BW.out.trans (b2.mono BW.out.size))
    have F2 := Lib.hid ((b2.block _ (lt_of_block FW.out)).trans FW.out)
    have Z2 := Lib.hid ((b2.block _ (lt_of_block ZW.out)).trans ZW.out)
    have hsz1 := BW.out.size
    have hz1 := lt_of_block ZW.out
    obtain ⟨Au, cu, hu, _, _⟩ := r2.slice
    subst hu
    clear r2 ec b2 q0 q1 q2 q3
    obtain ⟨q0, q1, q2, q3⟩ := bkG F2.out
    have qf := fun i => bk_frz F2.out i
    have s1 := gr_set w2 w.heap.size 1 (.slice Au cs.length cu)
    have FX := Lib.hid (show (w2.setCell ⟨w.heap.size, 1, none⟩ (.slice Au cs.length cu)).heap[w.heap.size]? = some (.cells #[.int .i64 done, .slice Au cs.length cu, .int .i64 final, .int .i64 window] 24 (0, 0)) from by simpa using bk_set F2.out 1 (.slice Au cs.length cu))
    have ZX := Lib.hid ((s1.block _ (lt_of_block Z2.out) (by simp)).trans Z2.out)
    have BX := Lib.hid (gr_from B2.out B2.out.size (Nat.le_refl _) s1)
    have RX := Lib.hid (R2.out.keptB s1 (by omega))
    clear s1
    go_wp2_with fail
    obtain ⟨Y, hY⟩ : ∃ Y, w2.setCell ⟨w.heap.size, 1, none⟩ (.slice Au cs.length cu) = Y := ⟨_, rfl⟩
    rw [hY] at FX ZX BX RX 
    try rw [hY]
    clear q0 q1 q2 q3 qf hY
    obtain ⟨p0, p1, p2, p3⟩ := bkG FX.out
    obtain ⟨z0, z1, z2, z3⟩ := bkG ZX.out
    have zf := fun i => bk_frz ZX.out i
    have kg : ∀ v0 v1 v2 v3 i, ((((Y.setCell ⟨w.heap.size + 1, 0, none⟩ v0).setCell ⟨w.heap.size + 1, 1, none⟩ v1).setCell ⟨w.heap.size + 1, 2, none⟩ v2).setCell ⟨w.heap.size + 1, 3, none⟩ v3).cell? ⟨w.heap.size, i, none⟩ = Y.cell? ⟨w.heap.size, i, none⟩ := fun v0 v1 v2 v3 i => by
      obtain ⟨_, _, _, _, gp⟩ := bkG_put ZX.out v0 v1 v2 v3
      have e := gp.block w.heap.size (lt_of_block FX.out) (by simp)
      simp only [World.cell?, e]
    go_region
    all_goals
      obtain ⟨r0, r1, r2, r3, gp⟩ := bkG_put ZX.out (.int .i64 done) (.slice Au cs.length cu) (.int .i64 final) (.int .i64 window)
      go_wp2
      refine bodyPost_ret (by simp [results, Try.results17, go_sem, r0, r1, r2, r3]; try rfl) rfl ?_
      have BB := gr_from BX.out BX.out.size (Nat.le_succ _) (gr_drew gp)
      exact ⟨BB, _, _, by rw [beq_int_comm], ⟨_, rfl, pf_of (RX.out.keptB (gr_drew gp) (by omega)) EC.out hsz1⟩, BF.nil _ _⟩
  · have hne' : (x == done) = false := by simp [hne]
    have hn' : decide ((0 : Int) < (n : Int)) = true := by simp; omega
    go_enter Try.func17, Try.ntmps17
    go_wp2_with (go_at_call 11; refine (HF.out _ B0.out).mono ?_; rintro e w1 ⟨rfl, b1⟩; have B1 := Lib.hid (B0.out.trans (b1.mono B0.out.size)); have F1 := Lib.hid ((b1.block _ (lt_of_block G0.out)).trans G0.out); have Z1 := Lib.hid ((b1.block _ (lt_of_block G1.out)).trans G1.out); clear b1; obtain ⟨q0, q1, q2, q3⟩ := bkG F1.out; have y0 := (B1.out.cell (p := ⟨b, o, none⟩) hb).trans hx)
    go_quiet (fail)
    obtain ⟨W, hW⟩ : ∃ W, w1.drewN nq = W := ⟨_, rfl⟩
    rw [hW]
    have FW := Lib.hid (show W.heap[w.heap.size]? = some (.cells #[.int .i64 done, .slice (some ⟨b, o, none⟩) n c, .int .i64 final, .int .i64 window] 24 (0, 0)) from hW ▸ F1.out)
    have ZW := Lib.hid (show W.heap[w.heap.size + 1]? = some (.cells #[.int .i64 0, .slice none 0 0, .int .i64 0, .int .i64 0] 24 (0, 0)) from hW ▸ Z1.out)
    have BW := Lib.hid (show Below w.heap.size w W from hW ▸ Go.below_drewN B1.out _)
    clear hW q0 q1 q2 q3 y0
    obtain ⟨q0, q1, q2, q3⟩ := bkG FW.out
    go_wp2_with fail
    refine (HC.out _ BW.out).mono ?_
    rintro e w2 ⟨u, cs, rfl, r2, ec, b2⟩
    have R2 := Lib.hid r2
    have EC := Lib.hid ec
    have B2 := Lib.hid (BW.out.trans (b2.mono BW.out.size))
    have F2 := Lib.hid ((b2.block _ (lt_of_block FW.out)).trans FW.out)
    have Z2 := Lib.hid ((b2.block _ (lt_of_block ZW.out)).trans ZW.out)
    have hsz1 := BW.out.size
    have hz1 := lt_of_block ZW.out
    obtain ⟨Au, cu, hu, _, _⟩ := r2.slice
    subst hu
    clear r2 ec b2 q0 q1 q2 q3
    obtain ⟨q0, q1, q2, q3⟩ := bkG F2.out
    have qf := fun i => bk_frz F2.out i
    have s1 := gr_set w2 w.heap.size 1 (.slice Au cs.length cu)
    have FX := Lib.hid (show (w2.setCell ⟨w.heap.size, 1, none⟩ (.slice Au cs.length cu)).heap[w.heap.size]? = some (.cells #[.int .i64 done, .slice Au cs.length cu, .int .i64 final, .int .i64 window] 24 (0, 0)) from by simpa using bk_set F2.out 1 (.slice Au cs.length cu))
    have ZX := Lib.hid ((s1.block _ (lt_of_block Z2.out) (by simp)).trans Z2.out)
    have BX := Lib.hid (gr_from B2.out B2.out.size (Nat.le_refl _) s1)
    have RX := Lib.hid (R2.out.keptB s1 (by omega))
    clear s1
    go_wp2_with fail
    obtain ⟨Y, hY⟩ : ∃ Y, w2.setCell ⟨w.heap.size, 1, none⟩ (.slice Au cs.length cu) = Y := ⟨_, rfl⟩
    rw [hY] at FX ZX BX RX 
    try rw [hY]
    clear q0 q1 q2 q3 qf hY
    obtain ⟨p0, p1, p2, p3⟩ := bkG FX.out
    obtain ⟨z0, z1, z2, z3⟩ := bkG ZX.out
    have zf := fun i => bk_frz ZX.out i
    have kg : ∀ v0 v1 v2 v3 i, ((((Y.setCell ⟨w.heap.size + 1, 0, none⟩ v0).setCell ⟨w.heap.size + 1, 1, none⟩ v1).setCell ⟨w.heap.size + 1, 2, none⟩ v2).setCell ⟨w.heap.size + 1, 3, none⟩ v3).cell? ⟨w.heap.size, i, none⟩ = Y.cell? ⟨w.heap.size, i, none⟩ := fun v0 v1 v2 v3 i => by
      obtain ⟨_, _, _, _, gp⟩ := bkG_put ZX.out v0 v1 v2 v3
      have e := gp.block w.heap.size (lt_of_block FX.out) (by simp)
      simp only [World.cell?, e]
    go_region
    all_goals
      obtain ⟨r0, r1, r2, r3, gp⟩ := bkG_put ZX.out (.int .i64 done) (.slice Au cs.length cu) (.int .i64 final) (.int .i64 window)
      go_wp2
      refine bodyPost_ret (by simp [results, Try.results17, go_sem, r0, r1, r2, r3]; try rfl) rfl ?_
      have BB := gr_from BX.out BX.out.size (Nat.le_succ _) (gr_drew gp)
      exact ⟨BB, _, _, by rw [beq_int_comm], ⟨_, rfl, pf_of (RX.out.keptB (gr_drew gp) (by omega)) EC.out hsz1⟩, BF.nil _ _⟩
set_option maxRecDepth 100000 in
set_option maxHeartbeats 2000000 in
/-- the first piece is taken -/
theorem gaTake_yes1 (b o q r m cd : Nat) (Ad : Option Addr) (ds : List Int) (ps : List Pc) (hr : ¬ r = 0) (hF : ∀ w', Below w.heap.size w w' → Calls Try.prog 11 #[.agg #[.int .i64 done, .slice (some ⟨b, o, none⟩) (q + 1) (r + 1), .int .i64 final, .int .i64 window]] w' fun e w'' => e = .returned (.int .i64 0) ∧ Below w'.heap.size w' w'')
    (hC : CopyD w (.slice (some ⟨b, o + 2, none⟩) q r) ps) (hds : BSl w w.heap.size (.slice Ad m cd) ds) (hml : ds.length = m) (hmm : m ≤ 140737488355328) (hqr : q ≤ r) (hcm : r + 1 ≤ maxLen) (hb : b < w.heap.size) (hx : w.cell? ⟨b, o, none⟩ = some (.int .i64 done)) (hy : w.cell? ⟨b, o + 1, none⟩ = some (.slice Ad m cd)) (d0 : 0 ≤ done) (d1 : done + (m : Int) ≤ 4611686018427387903) :
    Calls Try.prog 17 #[.agg #[.int .i64 done, .slice (some ⟨b, o, none⟩) (q + 1) (r + 1), .int .i64 final, .int .i64 window]] w (TakResF (⟨done + m, ps, final, window⟩, ds, final == done + (m : Int), 0) w) := by
  obtain ⟨g0, g1, g2⟩ := twoG w #[.int .i64 done, .slice (some ⟨b, o, none⟩) (q + 1) (r + 1), .int .i64 final, .int .i64 window] #[.int .i64 0, .slice none 0 0, .int .i64 0, .int .i64 0] 24 24
  have G0 := Lib.hid g0
  have G1 := Lib.hid g1
  have B0 := Lib.hid g2
  have HF := Lib.hid hF
  have HC := Lib.hid hC
  have HCL := Lib.hid (fun w' (hb : Below w.heap.size w w') => bclone_any w.heap.size _ ds w' hb.size (hds.below hb) (by omega))
  have HML := Lib.hid hml
  have HDB := Lib.hid (show Byt ds from by obtain ⟨_, _, _, _, _, _, h⟩ := hds.ex; exact h.1)
  unfold maxLen at hcm
  have hn' : decide ((0 : Int) < ((q + 1 : Nat) : Int)) = true := by simp <;> omega
  clear hF g0 g1 g2 hC hds hml
  · have hn2 : decide ((0 : Int) < ((q : Int) + 1)) = true := by simp <;> omega
    go_enter Try.func17, Try.ntmps17
    go_wp2_with (go_at_call 11; refine (HF.out _ B0.out).mono ?_; rintro e w1 ⟨rfl, b1⟩; have B1 := Lib.hid (B0.out.trans (b1.mono B0.out.size)); have F1 := Lib.hid ((b1.block _ (lt_of_block G0.out)).trans G0.out); have Z1 := Lib.hid ((b1.block _ (lt_of_block G1.out)).trans G1.out); clear b1; obtain ⟨q0, q1, q2, q3⟩ := bkG F1.out; have y0 := (B1.out.cell (p := ⟨b, o, none⟩) hb).trans hx)
    go_quiet (fail)
    obtain ⟨W, hW⟩ : ∃ W, w1.drewN nq = W := ⟨_, rfl⟩
    rw [hW]
    have FW := Lib.hid (show W.heap[w.heap.size]? = some (.cells #[.int .i64 done, .slice (some ⟨b, o, none⟩) (q + 1) (r + 1), .int .i64 final, .int .i64 window] 24 (0, 0)) from hW ▸ F1.out)
    have ZW := Lib.hid (show W.heap[w.heap.size + 1]? = some (.cells #[.int .i64 0, .slice none 0 0, .int .i64 0, .int .i64 0] 24 (0, 0)) from hW ▸ Z1.out)
    have BW := Lib.hid (show Below w.heap.size w W from hW ▸ Go.below_drewN B1.out _)
    clear hW q0 q1 q2 q3 y0
    obtain ⟨q0, q1, q2, q3⟩ := bkG FW.out
    have y0 := (BW.out.cell (p := ⟨b, o, none⟩) hb).trans hx
    have y1 := (BW.out.cell (p := ⟨b, o + 1, none⟩) hb).trans hy
    go_wp2_with fail
    refine (HCL.out _ BW.out).mono ?_
    rintro e w3 ⟨t, rfl, o3, b3⟩
    have hszW0 := BW.out.size
    have T3 := Lib.hid (bf_own (lo := w.heap.size + 2) o3 HDB.out (by have := lt_of_block ZW.out; omega))
    rw [HML.out] at o3
    obtain ⟨At, ct, ht, _, _⟩ := own_slice o3
    subst ht
    have B3 := Lib.hid (BW.out.trans (b3.mono BW.out.size))
    have F3 := Lib.hid ((b3.block _ (lt_of_block FW.out)).trans FW.out)
    have Z3 := Lib.hid ((b3.block _ (lt_of_block ZW.out)).trans ZW.out)
    have L3 := Lib.hid (own_lt o3)
    have hszW := BW.out.size
    have hzW := lt_of_block ZW.out
    clear b3 o3 q0 q1 q2 q3 y0 y1
    obtain ⟨q0, q1, q2, q3⟩ := bkG F3.out
    have y0 := (B3.out.cell (p := ⟨b, o, none⟩) hb).trans hx
    have y1 := (B3.out.cell (p := ⟨b, o + 1, none⟩) hb).trans hy
    go_wp2_with fail
    refine (end_any done Ad m cd _ ⟨by omega, by omega⟩).mono ?_
    rintro e w4 ⟨rfl, b4⟩
    have T4 := Lib.hid (T3.out.on (Keeps.below b4))
    have B4 := Lib.hid (B3.out.trans (b4.mono B3.out.size))
    have F4 := Lib.hid ((b4.block _ (lt_of_block F3.out)).trans F3.out)
    have Z4 := Lib.hid ((b4.block _ (lt_of_block Z3.out)).trans Z3.out)
    clear b4 q0 q1 q2 q3 y0 y1 FW ZW BW
    obtain ⟨q0, q1, q2, q3⟩ := bkG F4.out
    have qf := fun i => bk_frz F4.out i
    have s1 := gr_set w4 w.heap.size 0 (.int .i64 (done + m))
    have FW := Lib.hid (show (w4.setCell ⟨w.heap.size, 0, none⟩ (.int .i64 (done + m))).heap[w.heap.size]? = some (.cells #[.int .i64 (done + m), .slice (some ⟨b, o, none⟩) (q + 1) (r + 1), .int .i64 final, .int .i64 window] 24 (0, 0)) from by simpa using bk_set F4.out 0 (.int .i64 (done + m)))
    have ZW := Lib.hid ((s1.block _ (lt_of_block Z4.out) (by simp)).trans Z4.out)
    have BW := Lib.hid (gr_from B4.out B4.out.size (Nat.le_refl _) s1)
    have T5 := Lib.hid (T4.out.on (Keeps.gr s1 (by omega)))
    clear s1
    obtain ⟨p0, p1, p2, p3⟩ := bkG FW.out
    go_wp2_with fail
    refine (HC.out _ BW.out).mono ?_
    rintro e w2 ⟨u, cs, rfl, r2, ec, b2⟩
    have R2 := Lib.hid r2
    have EC := Lib.hid ec
    have B2 := Lib.hid (BW.out.trans (b2.mono BW.out.size))
    have F2 := Lib.hid ((b2.block _ (lt_of_block FW.out)).trans FW.out)
    have Z2 := Lib.hid ((b2.block _ (lt_of_block ZW.out)).trans ZW.out)
    have T6 := Lib.hid (T5.out.on (Keeps.below b2))
    clear p0 p1 p2 p3
    have hsz1 := BW.out.size
    have hz1 := lt_of_block ZW.out
    obtain ⟨Au, cu, hu, _, _⟩ := r2.slice
    subst hu
    clear r2 ec b2 q0 q1 q2 q3
    obtain ⟨q0, q1, q2, q3⟩ := bkG F2.out
    have qf := fun i => bk_frz F2.out i
    have s1 := gr_set w2 w.heap.size 1 (.slice Au cs.length cu)
    have FX := Lib.hid (show (w2.setCell ⟨w.heap.size, 1, none⟩ (.slice Au cs.length cu)).heap[w.heap.size]? = some (.cells #[.int .i64 (done + m), .slice Au cs.length cu, .int .i64 final, .int .i64 window] 24 (0, 0)) from by simpa using bk_set F2.out 1 (.slice Au cs.length cu))
    have ZX := Lib.hid ((s1.block _ (lt_of_block Z2.out) (by simp)).trans Z2.out)
    have BX := Lib.hid (gr_from B2.out B2.out.size (Nat.le_refl _) s1)
    have RX := Lib.hid (R2.out.keptB s1 (by omega))
    have T7 := Lib.hid (T6.out.on (Keeps.gr s1 (by omega)))
    clear s1
    go_wp2_with fail
    obtain ⟨Y, hY⟩ : ∃ Y, w2.setCell ⟨w.heap.size, 1, none⟩ (.slice Au cs.length cu) = Y := ⟨_, rfl⟩
    rw [hY] at FX ZX BX RX T7
    try rw [hY]
    clear q0 q1 q2 q3 qf hY
    obtain ⟨p0, p1, p2, p3⟩ := bkG FX.out
    obtain ⟨z0, z1, z2, z3⟩ := bkG ZX.out
    have zf := fun i => bk_frz ZX.out i
    have kg : ∀ v0 v1 v2 v3 i, ((((Y.setCell ⟨w.heap.size + 1, 0, none⟩ v0).setCell ⟨w.heap.size + 1, 1, none⟩ v1).setCell ⟨w.heap.size + 1, 2, none⟩ v2).setCell ⟨w.heap.size + 1, 3, none⟩ v3).cell? ⟨w.heap.size, i, none⟩ = Y.cell? ⟨w.heap.size, i, none⟩ := fun v0 v1 v2 v3 i => by
      obtain ⟨_, _, _, _, gp⟩ := bkG_put ZX.out v0 v1 v2 v3
      have e := gp.block w.heap.size (lt_of_block FX.out) (by simp)
      simp only [World.cell?, e]
    go_region
    all_goals
      obtain ⟨r0, r1, r2, r3, gp⟩ := bkG_put ZX.out (.int .i64 (done + m)) (.slice Au cs.length cu) (.int .i64 final) (.int .i64 window)
      go_wp2
      refine bodyPost_ret (by simp [results, Try.results17, go_sem, r0, r1, r2, r3]; try rfl) rfl ?_
      have BB := gr_from BX.out BX.out.size (Nat.le_succ _) (gr_drew gp)
      exact ⟨BB, _, _, by rw [beq_int_comm], ⟨_, rfl, pf_of (RX.out.keptB (gr_drew gp) (by omega)) EC.out hsz1⟩, (T7.out.on (Keeps.gr (gr_drew gp) (by omega))).more (by omega)⟩
set_option maxRecDepth 100000 in
set_option maxHeartbeats 2000000 in
/-- the first piece is taken -/
theorem gaTake_yes0 (b o q r m cd : Nat) (Ad : Option Addr) (ds : List Int) (ps : List Pc) (hr : r = 0) (hF : ∀ w', Below w.heap.size w w' → Calls Try.prog 11 #[.agg #[.int .i64 done, .slice (some ⟨b, o, none⟩) (1) (1), .int .i64 final, .int .i64 window]] w' fun e w'' => e = .returned (.int .i64 0) ∧ Below w'.heap.size w' w'')
    (hC : CopyD w (.slice (some ⟨b, o, none⟩) 0 0) ps) (hds : BSl w w.heap.size (.slice Ad m cd) ds) (hml : ds.length = m) (hmm : m ≤ 140737488355328) (hqr : q ≤ r) (hcm : r + 1 ≤ maxLen) (hb : b < w.heap.size) (hx : w.cell? ⟨b, o, none⟩ = some (.int .i64 done)) (hy : w.cell? ⟨b, o + 1, none⟩ = some (.slice Ad m cd)) (d0 : 0 ≤ done) (d1 : done + (m : Int) ≤ 4611686018427387903) :
    Calls Try.prog 17 #[.agg #[.int .i64 done, .slice (some ⟨b, o, none⟩) (1) (1), .int .i64 final, .int .i64 window]] w (TakResF (⟨done + m, ps, final, window⟩, ds, final == done + (m : Int), 0) w) := by
  obtain ⟨g0, g1, g2⟩ := twoG w #[.int .i64 done, .slice (some ⟨b, o, none⟩) (1) (1), .int .i64 final, .int .i64 window] #[.int .i64 0, .slice none 0 0, .int .i64 0, .int .i64 0] 24 24
  have G0 := Lib.hid g0
  have G1 := Lib.hid g1
  have B0 := Lib.hid g2
  have HF := Lib.hid hF
  have HC := Lib.hid hC
  have HCL := Lib.hid (fun w' (hb : Below w.heap.size w w') => bclone_any w.heap.size _ ds w' hb.size (hds.below hb) (by omega))
  have HML := Lib.hid hml
  have HDB := Lib.hid (show Byt ds from by obtain ⟨_, _, _, _, _, _, h⟩ := hds.ex; exact h.1)
  unfold maxLen at hcm
  have hn' : decide ((0 : Int) < ((1 : Nat) : Int)) = true := by simp <;> omega
  clear hF g0 g1 g2 hC hds hml
  · have hn2 : decide ((0 : Int) < ((q : Int) + 1)) = true := by simp <;> omega
    go_enter Try.func17, Try.ntmps17
    go_wp2_with (go_at_call 11; refine (HF.out _ B0.out).mono ?_; rintro e w1 ⟨rfl, b1⟩; have B1 := Lib.hid (B0.out.trans (b1.mono B0.out.size)); have F1 := Lib.hid ((b1.block _ (lt_of_block G0.out)).trans G0.out); have Z1 := Lib.hid ((b1.block _ (lt_of_block G1.out)).trans G1.out); clear b1; obtain ⟨q0, q1, q2, q3⟩ := bkG F1.out; have y0 := (B1.out.cell (p := ⟨b, o, none⟩) hb).trans hx)
    go_quiet (fail)
    obtain ⟨W, hW⟩ : ∃ W, w1.drewN nq = W := ⟨_, rfl⟩
    rw [hW]
    have FW := Lib.hid (show W.heap[w.heap.size]? = some (.cells #[.int .i64 done, .slice (some ⟨b, o, none⟩) (1) (1), .int .i64 final, .int .i64 window] 24 (0, 0)) from hW ▸ F1.out)
    have ZW := Lib.hid (show W.heap[w.heap.size + 1]? = some (.cells #[.int .i64 0, .slice none 0 0, .int .i64 0, .int .i64 0] 24 (0, 0)) from hW ▸ Z1.out)
    have BW := Lib.hid (show Below w.heap.size w W from hW ▸ Go.below_drewN B1.out _)
    clear hW q0 q1 q2 q3 y0
    obtain ⟨q0, q1, q2, q3⟩ := bkG FW.out
    have y0 := (BW.out.cell (p := ⟨b, o, none⟩) hb).trans hx
    have y1 := (BW.out.cell (p := ⟨b, o + 1, none⟩) hb).trans hy
    go_wp2_with fail
    refine (HCL.out _ BW.out).mono ?_
    rintro e w3 ⟨t, rfl, o3, b3⟩
    have hszW0 := BW.out.size
    have T3 := Lib.hid (bf_own (lo := w.heap.size + 2) o3 HDB.out (by have := lt_of_block ZW.out; omega))
    rw [HML.out] at o3
    obtain ⟨At, ct, ht, _, _⟩ := own_slice o3
    subst ht
    have B3 := Lib.hid (BW.out.trans (b3.mono BW.out.size))
    have F3 := Lib.hid ((b3.block _ (lt_of_block FW.out)).trans FW.out)
    have Z3 := Lib.hid ((b3.block _ (lt_of_block ZW.out)).trans ZW.out)
    have L3 := Lib.hid (own_lt o3)
    have hszW := BW.out.size
    have hzW := lt_of_block ZW.out
    clear b3 o3 q0 q1 q2 q3 y0 y1
    obtain ⟨q0, q1, q2, q3⟩ := bkG F3.out
    have y0 := (B3.out.cell (p := ⟨b, o, none⟩) hb).trans hx
    have y1 := (B3.out.cell (p := ⟨b, o + 1, none⟩) hb).trans hy
    go_wp2_with fail
    refine (end_any done Ad m cd _ ⟨by omega, by omega⟩).mono ?_
    rintro e w4 ⟨rfl, b4⟩
    have T4 := Lib.hid (T3.out.on (Keeps.below b4))
    have B4 := Lib.hid (B3.out.trans (b4.mono B3.out.size))
    have F4 := Lib.hid ((b4.block _ (lt_of_block F3.out)).trans F3.out)
    have Z4 := Lib.hid ((b4.block _ (lt_of_block Z3.out)).trans Z3.out)
    clear b4 q0 q1 q2 q3 y0 y1 FW ZW BW
    obtain ⟨q0, q1, q2, q3⟩ := bkG F4.out
    have qf := fun i => bk_frz F4.out i
    have s1 := gr_set w4 w.heap.size 0 (.int .i64 (done + m))
    have FW := Lib.hid (show (w4.setCell ⟨w.heap.size, 0, none⟩ (.int .i64 (done + m))).heap[w.heap.size]? = some (.cells #[.int .i64 (done + m), .slice (some ⟨b, o, none⟩) (1) (1), .int .i64 final, .int .i64 window] 24 (0, 0)) from by simpa using bk_set F4.out 0 (.int .i64 (done + m)))
    have ZW := Lib.hid ((s1.block _ (lt_of_block Z4.out) (by simp)).trans Z4.out)
    have BW := Lib.hid (gr_from B4.out B4.out.size (Nat.le_refl _) s1)
    have T5 := Lib.hid (T4.out.on (Keeps.gr s1 (by omega)))
    clear s1
    obtain ⟨p0, p1, p2, p3⟩ := bkG FW.out
    go_wp2_with fail
    refine (HC.out _ BW.out).mono ?_
    rintro e w2 ⟨u, cs, rfl, r2, ec, b2⟩
    have R2 := Lib.hid r2
    have EC := Lib.hid ec
    have B2 := Lib.hid (BW.out.trans (b2.mono BW.out.size))
    have F2 := Lib.hid ((b2.block _ (lt_of_block FW.out)).trans FW.out)
    have Z2 := Lib.hid ((b2.block _ (lt_of_block ZW.out)).trans ZW.out)
    have T6 := Lib.hid (T5.out.on (Keeps.below b2))
    clear p0 p1 p2 p3
    have hsz1 := BW.out.size
    have hz1 := lt_of_block ZW.out
    obtain ⟨Au, cu, hu, _, _⟩ := r2.slice
    subst hu
    clear r2 ec b2 q0 q1 q2 q3
    obtain ⟨q0, q1, q2, q3⟩ := bkG F2.out
    have qf := fun i => bk_frz F2.out i
    have s1 := gr_set w2 w.heap.size 1 (.slice Au cs.length cu)
    have FX := Lib.hid (show (w2.setCell ⟨w.heap.size, 1, none⟩ (.slice Au cs.length cu)).heap[w.heap.size]? = some (.cells #[.int .i64 (done + m), .slice Au cs.length cu, .int .i64 final, .int .i64 window] 24 (0, 0)) from by simpa using bk_set F2.out 1 (.slice Au cs.length cu))
    have ZX := Lib.hid ((s1.block _ (lt_of_block Z2.out) (by simp)).trans Z2.out)
    have BX := Lib.hid (gr_from B2.out B2.out.size (Nat.le_refl _) s1)
    have RX := Lib.hid (R2.out.keptB s1 (by omega))
    have T7 := Lib.hid (T6.out.on (Keeps.gr s1 (by omega)))
    clear s1
    go_wp2_with fail
    obtain ⟨Y, hY⟩ : ∃ Y, w2.setCell ⟨w.heap.size, 1, none⟩ (.slice Au cs.length cu) = Y := ⟨_, rfl⟩
    rw [hY] at FX ZX BX RX T7
    try rw [hY]
    clear q0 q1 q2 q3 qf hY
    obtain ⟨p0, p1, p2, p3⟩ := bkG FX.out
    obtain ⟨z0, z1, z2, z3⟩ := bkG ZX.out
    have zf := fun i => bk_frz ZX.out i
    have kg : ∀ v0 v1 v2 v3 i, ((((Y.setCell ⟨w.heap.size + 1, 0, none⟩ v0).setCell ⟨w.heap.size + 1, 1, none⟩ v1).setCell ⟨w.heap.size + 1, 2, none⟩ v2).setCell ⟨w.heap.size + 1, 3, none⟩ v3).cell? ⟨w.heap.size, i, none⟩ = Y.cell? ⟨w.heap.size, i, none⟩ := fun v0 v1 v2 v3 i => by
      obtain ⟨_, _, _, _, gp⟩ := bkG_put ZX.out v0 v1 v2 v3
      have e := gp.block w.heap.size (lt_of_block FX.out) (by simp)
      simp only [World.cell?, e]
    go_region
    all_goals
      obtain ⟨r0, r1, r2, r3, gp⟩ := bkG_put ZX.out (.int .i64 (done + m)) (.slice Au cs.length cu) (.int .i64 final) (.int .i64 window)
      go_wp2
      refine bodyPost_ret (by simp [results, Try.results17, go_sem, r0, r1, r2, r3]; try rfl) rfl ?_
      have BB := gr_from BX.out BX.out.size (Nat.le_succ _) (gr_drew gp)
      exact ⟨BB, _, _, by rw [beq_int_comm], ⟨_, rfl, pf_of (RX.out.keptB (gr_drew gp) (by omega)) EC.out hsz1⟩, (T7.out.on (Keeps.gr (gr_drew gp) (by omega))).more (by omega)⟩
end
theorem gaTake_F (v : Value) (g : Ga) (w : World) (hv : GaVal w w.heap.size v g) (hw : GaWf g) (hlen : ∀ p ∈ g.held, p.2.length ≤ 140737488355328) : Calls Try.prog 17 #[v] w (TakResF (takG g) w) := by
  obtain ⟨s, rfl, hs⟩ := id hv.ex
  obtain ⟨A, c, rfl, hc, hm, hr⟩ := id hs.ex
  have HF := fun w' (hb : Below w.heap.size w w') => gaChk_any _ g w' (hv.on hb) hw hlen
  by_cases hf : faultG g = 0
  · rw [hf] at HF
    have hok : okG g := okG_of hf
    have hl4 := ok_len hf
    cases hh : g.held with
    | nil =>
      rw [takG_nil hf hh]
      rw [hh] at HF
      have HC : CopyD w (.slice A 0 c) [] := fun w' hb => copied_any _ [] w' (by have := (hs.below hb).more hb.size; rw [hh] at this; exact this) (by simp) (fun p hp => by cases hp)
      have := gaTake_none [] HF HC (.inl rfl)
      have e : g = ⟨g.done, [], g.final, g.window⟩ := by cases g; simp only at hh; rw [hh]
      rw [show (g, ([] : List Int), g.final == g.done, (0 : Int)) = (⟨g.done, [], g.final, g.window⟩, [], g.final == g.done, 0) from by rw [← e]]
      exact this
    | cons p ps =>
      obtain ⟨b, o, rfl, hb, hcell⟩ := hr (by rw [hh]; simp)
      obtain ⟨h1, d, h2, h3⟩ := hcell 0 (by rw [hh]; simp)
      rw [hh] at h1 h3
      simp only [List.getD_cons_zero, Nat.zero_mul, Nat.add_zero] at h1 h2 h3
      have hlen2 : ∀ q ∈ ps, q.2.length ≤ 140737488355328 := fun q hq => hlen q (by rw [hh]; simp [hq])
      have hps : ps.length ≤ 1000 := by rw [hh] at hl4; simp only [List.length_cons] at hl4; omega
      have hrow : PRow w w.heap.size (some ⟨b, o, none⟩) (p :: ps) := hh ▸ hr
      by_cases hp : p.1 = g.done
      · rw [takG_yes hf hh hp]
        obtain ⟨Ad, cd, rfl, _, _, _, _⟩ := id h3.ex
        rw [hp] at h1
        have hlen' : g.held.length = ps.length + 1 := by rw [hh]; rfl
        have hreach := reach_take (d := g.done) hok.2.2.2.2.1 1 (by omega) (by omega)
        rw [hh] at hreach
        simp only [List.take_succ_cons, List.take_zero] at hreach
        have hre : reachP g.done [p] = p.1 + p.2.length := rfl
        rw [hre, hp] at hreach
        have hwin := hok.2.2.1
        have hrw := hok.2.2.2.2.2.1
        rw [hh] at hrw
        rw [hlen'] at HF hc
        rw [show (p :: ps).length = ps.length + 1 from rfl]
        obtain ⟨r, rfl⟩ : ∃ r, c = r + 1 := ⟨c - 1, by omega⟩
        have hpl := hlen p (by rw [hh]; simp)
        by_cases r0 : r = 0
        · subst r0
          have hps0 : ps.length = 0 := by omega
          have hpn : ps = [] := List.eq_nil_of_length_eq_zero hps0
          subst hpn
          exact gaTake_yes0 b o 0 0 p.2.length cd Ad p.2 [] rfl HF (fun w' hbl => copied_any _ [] w' ⟨_, 0, rfl, Nat.le_refl _, by unfold maxLen; omega, PRow.nil _ _ _⟩ (by simp) (fun q hq => by cases hq)) h3 rfl hpl (Nat.le_refl _) (by unfold maxLen; omega) hb h1 h2 (by have := hok.1; omega) (by omega)
        · exact gaTake_yes1 b o ps.length r p.2.length cd Ad p.2 ps r0 HF (fun w' hbl => copied_any _ ps w' ⟨_, r, rfl, by omega, by unfold maxLen at *; omega, ((prow_tail hrow).below hbl).more hbl.size⟩ hps hlen2) h3 rfl hpl (by omega) hm hb h1 h2 (by have := hok.1; omega) (by omega)
      · rw [takG_no hf hh hp]
        rw [hh] at HF hc
        have HC : CopyD w (.slice (some ⟨b, o, none⟩) (p :: ps).length c) (p :: ps) := fun w' hbl => copied_any _ (p :: ps) w' (by have := (hs.below hbl).more hbl.size; rw [hh] at this; exact this) (by simp only [List.length_cons]; rw [hh] at hl4; simp only [List.length_cons] at hl4; omega) (fun q hq => hlen q (by rw [hh]; exact hq))
        have := gaTake_none (p :: ps) HF HC (.inr ⟨by simp, b, o, p.1, rfl, hb, h1, hp⟩)
        have e : g = ⟨g.done, p :: ps, g.final, g.window⟩ := by cases g; simp only at hh; rw [hh]
        rw [show (g, ([] : List Int), g.final == g.done, (0 : Int)) = (⟨g.done, p :: ps, g.final, g.window⟩, [], g.final == g.done, 0) from by rw [← e]]
        exact this
  · rw [takG_bad hf]
    refine (gaTake_bad hf HF).mono ?_
    rintro e w' ⟨rfl, hbl⟩
    exact ⟨hbl, _, _, rfl, ⟨_, rfl, PF.nil _ _⟩, BF.nil _ _⟩
theorem gaTake_any : GaTak Try.prog 17 := fun v g w hv hw hlen => (gaTake_F v g w hv hw hlen).mono fun _ _ h => h.toRes
end Go.Proofs.Ytfbjgbnlgaajaaa
