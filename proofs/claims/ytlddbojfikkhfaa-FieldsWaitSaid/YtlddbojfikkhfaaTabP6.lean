/- The project's tables: Resize, Get. -/
import Derived.Test.YtlddbojfikkhfaaGrpI
import Derived.Test.YtlddbojfikkhfaaTabN
namespace Go.Proofs.Ytlddbojfikkhfaa
set_option linter.unusedVariables false
open Go.RowKit P

set_option maxRecDepth 100000 in
set_option maxHeartbeats 4000000 in
theorem tresN_any (v : Value) (t : Tb) (n : Int) (W : World) (hv : TbVal W W.heap.size v t) (hw : TbWf t) : Calls Try.prog 75 #[v, .int .i64 n] W (TbResN (resT t n) W) := by
  have HFT := Lib.hid (fun w (hb : Below W.heap.size W w) => tchk_any v t w (hv.on hb) hw)
  have HRM := Lib.hid (fun w => isRoom_any n w)
  have hG : resT t n = if faultTb t ≠ 0 then (tb0, faultTb t) else if ¬ (0 ≤ n ∧ n ≤ 160) then (tb0, 6) else (⟨n, t.put, young n t.rows⟩, 0) := rfl
  have hok := fun h : faultTb t = 0 => (faultTb_iff t).1 h
  obtain ⟨sv, rfl, hs⟩ := hv.ex
  obtain ⟨A, c, rfl, hlc, hcm, hr⟩ := hs.ex
  have HR := Lib.hid hr
  have pb := hw.put
  have HRW := Lib.hid hw.rows
  obtain ⟨g0, g1, g2⟩ := two_bk W #[.int .i64 t.room, .int .i64 t.put, .slice A t.rows.length c] #[.int .i64 0, .int .i64 0, .slice none 0 0] 24 24
  have F0 := Lib.hid g0
  have Z0 := Lib.hid g1
  have B0 := Lib.hid g2
  clear g0 g1 g2
  rw [hG]
  unfold TbResN
  obtain ⟨x, hx⟩ : ∃ x, faultTb t = x := ⟨_, rfl⟩
  rw [hx] at HFT hok ⊢
  obtain ⟨room, put, rows⟩ := t
  simp only at *
  obtain ⟨N, hN⟩ : ∃ N, rows.length = N := ⟨_, rfl⟩
  have HN := Lib.hid hN
  rw [hN] at HFT F0 Z0 B0 hlc ⊢
  have hcm' : c ≤ maxLen := hcm
  unfold maxLen at hcm
  clear hv hs hr hw hx hG
  by_cases h0 : x = 0
  · subst h0
    obtain ⟨k1, k2, k3, k4, k5⟩ := hok rfl
    simp only at k1 k2 k3 k4
    rw [hN] at k3
    have hw32 := wtL_len rows
    rw [hN] at hw32
    rw [if_neg (fun k => k rfl)]
    clear hok k5 hN
    by_cases h1 : 0 ≤ n ∧ n ≤ 160
    · rw [if_neg (fun k => k h1)]
      rw [decide_eq_true h1] at HRM
      obtain ⟨Y, hY⟩ : ∃ Y, young n rows = Y := ⟨_, rfl⟩
      rw [hY]
      have HLL := Lib.hid (fun w' (hr : RowE FdE w' w'.heap.size A rows) => hY ▸ last_any A N c rows n w' hr HN.out hlc hcm' (by omega) HRW.out (by omega) h1)
      clear hY
      go_enter Try.func75, Try.ntmps75
      go_upto_region 6 with (first
        | (go_at_call 32; refine (HFT.out _ B0.out).mono ?_; rintro e w1 ⟨rfl, b1⟩; have B1 := Lib.hid (B0.out.trans (b1.mono B0.out.size)); have F1 := Lib.hid ((b1.block _ (lt_of_block F0.out)).trans F0.out); have Z1 := Lib.hid ((b1.block _ (lt_of_block Z0.out)).trans Z0.out); clear b1; obtain ⟨q0, q1, q2⟩ := bk3T F1.out; obtain ⟨z0, z1, z2⟩ := bk3T Z1.out; have zf := fun i => bk_frz Z1.out i)
        | (go_at_call 54; refine (HRM.out _).mono ?_; rintro e w' ⟨rfl, rfl⟩))
      go_wp2_with fail
      refine (HLL.out _ (HR.out.on B1.out)).mono ?_
      clear q0 q1 q2 z0 z1 z2 zf
      rintro e w2 ⟨b2, v2, rfl, o2⟩
      obtain ⟨A2, c2, rfl, s1, s2, s3⟩ := OwnE.slice o2
      have B2 := Lib.hid (B1.out.trans (b2.mono B1.out.size))
      have F2 := Lib.hid ((b2.block _ (lt_of_block F1.out)).trans F1.out)
      have Z2 := Lib.hid ((b2.block _ (lt_of_block Z1.out)).trans Z1.out)
      have O2 := Lib.hid o2
      have hz1 := lt_of_block Z1.out
      clear b2 o2 s3
      obtain ⟨q0, q1, q2⟩ := bk3T F2.out
      have qf := fun i => bk_frz F2.out i
      go_upto_region 8 with fail
      have hk5 : ((w2.setCell ⟨W.heap.size, 2, none⟩ (.slice A2 Y.length c2)).setCell ⟨W.heap.size, 0, none⟩ (.int .i64 n)).heap[W.heap.size]? = some (.cells #[.int .i64 n, .int .i64 put, .slice A2 Y.length c2] 24 (0, 0)) := by
        have h0 : (w2.setCell ⟨W.heap.size, 2, none⟩ (.slice A2 Y.length c2)).heap[W.heap.size]? = some (.cells #[.int .i64 room, .int .i64 put, .slice A2 Y.length c2] 24 (0, 0)) := by simpa using bk_set F2.out 2 (.slice A2 Y.length c2)
        simpa using bk_set h0 0 (.int .i64 n)
      have g5 := gr_trans (gr_set w2 W.heap.size 2 (.slice A2 Y.length c2)) (gr_set _ W.heap.size 0 (.int .i64 n))
      obtain ⟨w3, hw3⟩ : ∃ x, (w2.setCell ⟨W.heap.size, 2, none⟩ (.slice A2 Y.length c2)).setCell ⟨W.heap.size, 0, none⟩ (.int .i64 n) = x := ⟨_, rfl⟩
      rw [hw3] at hk5 g5 ⊢
      have Z3 := Lib.hid ((g5.block _ (lt_of_block Z2.out) (by simp)).trans Z2.out)
      have B3 := Lib.hid (gr_from B2.out B2.out.size (Nat.le_refl _) g5)
      have O3 := Lib.hid (OwnE.kept O2.out g5 (fun e => by have := (OwnE.lt O2.out _ e).1; omega))
      clear hw3 g5 q0 q1 q2 qf
      obtain ⟨p0, p1, p2⟩ := bk3T hk5
      obtain ⟨z0, z1, z2⟩ := bk3T Z3.out
      have zf := fun i => bk_frz Z3.out i
      go_wp2_with fail
      obtain ⟨k1, gp⟩ := bk3_blk Z3.out (.int .i64 n) (.int .i64 put) (.slice A2 Y.length c2)
      obtain ⟨r0, r1, r2⟩ := bk3T k1
      have O6 := OwnE.kept O3.out gp (fun e => by have := (OwnE.lt O3.out _ e).1; omega)
      refine bodyPost_ret (by simp [results, Try.results75, go_sem, r0, r1, r2]; try rfl) rfl ?_
      exact ⟨gr_from B3.out B3.out.size (by omega) gp, A2, c2, rfl, s1, s2, (rowN_own O6).low (by omega)⟩
    · rw [if_pos h1]
      rw [decide_eq_false h1] at HRM
      clear h1
      go_enter Try.func75, Try.ntmps75
      go_wp2_with (first
        | (go_at_call 32; refine (HFT.out _ B0.out).mono ?_; rintro e w1 ⟨rfl, b1⟩; have B1 := Lib.hid (B0.out.trans (b1.mono B0.out.size)); have F1 := Lib.hid ((b1.block _ (lt_of_block F0.out)).trans F0.out); have Z1 := Lib.hid ((b1.block _ (lt_of_block Z0.out)).trans Z0.out); clear b1; obtain ⟨q0, q1, q2⟩ := bk3T F1.out; obtain ⟨z0, z1, z2⟩ := bk3T Z1.out; have zf := fun i => bk_frz Z1.out i)
        | (go_at_call 54; refine (HRM.out _).mono ?_; rintro e w' ⟨rfl, rfl⟩))
      obtain ⟨k1, gp⟩ := bk3_blk Z1.out (.int .i64 0) (.int .i64 0) (.slice none 0 0)
      obtain ⟨r0, r1, r2⟩ := bk3T k1
      refine bodyPost_ret (by simp [results, Try.results75, go_sem, r0, r1, r2]; try rfl) rfl ?_
      exact ⟨gr_from B1.out B1.out.size (by omega) gp, none, 0, rfl, Nat.le_refl _, by unfold maxLen; omega, RowN.nil _ _ _⟩
  · rw [if_pos h0]
    have g : (x != 0) = true := by simp [h0]
    clear h0 hok hN
    go_enter Try.func75, Try.ntmps75
    go_wp2_with (go_at_call 32; refine (HFT.out _ B0.out).mono ?_; rintro e w1 ⟨rfl, b1⟩; have B1 := Lib.hid (B0.out.trans (b1.mono B0.out.size)); have F1 := Lib.hid ((b1.block _ (lt_of_block F0.out)).trans F0.out); have Z1 := Lib.hid ((b1.block _ (lt_of_block Z0.out)).trans Z0.out); clear b1; obtain ⟨q0, q1, q2⟩ := bk3T F1.out; obtain ⟨z0, z1, z2⟩ := bk3T Z1.out; have zf := fun i => bk_frz Z1.out i)
    obtain ⟨k1, gp⟩ := bk3_blk Z1.out (.int .i64 0) (.int .i64 0) (.slice none 0 0)
    obtain ⟨r0, r1, r2⟩ := bk3T k1
    refine bodyPost_ret (by simp [results, Try.results75, go_sem, r0, r1, r2]; try rfl) rfl ?_
    exact ⟨gr_from B1.out B1.out.size (by omega) gp, none, 0, rfl, Nat.le_refl _, by unfold maxLen; omega, RowN.nil _ _ _⟩
theorem tres_any : TbSiz Try.prog 75 := fun v t n w hv hw => (tresN_any v t n w hv hw).mono fun e w' ⟨b, A, c, he, h1, h2, h3⟩ => ⟨b, _, he, _, rfl, A, c, rfl, h1, h2, h3.row⟩
end Go.Proofs.Ytlddbojfikkhfaa
