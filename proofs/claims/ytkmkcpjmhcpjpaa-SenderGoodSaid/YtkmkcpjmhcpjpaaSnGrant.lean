/- Contracts of package sender: Grant. -/
import Derived.Test.YtkmkcpjmhcpjpaaSnCopy
import Derived.Test.YtkmkcpjmhcpjpaaGrpB
namespace Go.Proofs.Ytkmkcpjmhcpjpaa
set_option linter.unusedVariables false
open Go.RowKit P

/-- the answer of a sender and an error, out of own rows -/
theorem snf_own {w : World} {base lo : Nat} {d l a : Value} {s : Sn} (h1 : w.ownsRow base 5 1 d s.data.length (s.data.map (.int .u8))) (hb : Byt s.data) (h2 : OwnR w base 85 l s.lost) (h3 : OwnR w base 85 a s.acked) (hl : lo ≤ base) :
    SnF w lo (.agg #[d, .bool s.fin, .int .i64 s.next, .int .i64 s.mx, l, a, .bool s.ended, .bool s.over]) s := ⟨_, _, _, rfl, bf_own h1 hb hl, rf_own h2 hl, rf_own h3 hl⟩

set_option maxRecDepth 100000 in
set_option maxHeartbeats 1000000 in
theorem snGrant_F (v : Value) (s : Sn) (n : Int) (w : World) (hv : SnVal w w.heap.size v s) (hw : SnWf s) : Calls Try.prog 26 #[v, .int .i64 n] w (SnResF (grS s n) w) := by
  obtain ⟨d, l, a, rfl, hd, hl, ha⟩ := hv.ex
  obtain ⟨g0, g1, g2⟩ := twoX w #[d, .bool s.fin, .int .i64 s.next, .int .i64 s.mx, l, a, .bool s.ended, .bool s.over] #[.slice none 0 0, .bool false, .int .i64 0, .int .i64 0, .slice none 0 0, .slice none 0 0, .bool false, .bool false] 27 27
  have F0 := Lib.hid g0
  have Z0 := Lib.hid g1
  have B0 := Lib.hid g2
  have HF := Lib.hid (fun w' (hb : Below w.heap.size w w') => snChk_any _ s w' (hv.on hb) hw)
  have HC := Lib.hid (fun w' (hb : Below w.heap.size w w') => sncopied_any _ s w' (hv.on hb) hw)
  unfold grS
  by_cases hf : faultSn s = 0
  · clear hv hw hd hl ha g0 g1 g2
    rw [if_neg (fun e => e hf)]
    rw [hf] at HF
    clear hf
    by_cases a1 : n < 0
    · rw [if_pos (by omega)]
      clear HC
      go_enter Try.func26, Try.ntmps26
      go_wp2_with (first
        | (go_at_call 22; refine (HF.out _ B0.out).mono ?_; rintro e w1 ⟨rfl, b1⟩; have B1 := Lib.hid (B0.out.trans (b1.mono B0.out.size)); have F1 := Lib.hid ((b1.block _ (lt_of_block F0.out)).trans F0.out); have Z1 := Lib.hid ((b1.block _ (lt_of_block Z0.out)).trans Z0.out); clear b1; obtain ⟨q0, q1, q2, q3, q4, q5, q6, q7⟩ := bkS F1.out; obtain ⟨z0, z1, z2, z3, z4, z5, z6, z7⟩ := bkS Z1.out; have zf := fun i => bk_frz Z1.out i))
      obtain ⟨RY, gp⟩ := bkS_put Z1.out (.slice none 0 0) (.bool false) (.int .i64 0) (.int .i64 0) (.slice none 0 0) (.slice none 0 0) (.bool false) (.bool false)
      obtain ⟨r0, r1, r2, r3, r4, r5, r6, r7⟩ := bkS RY
      refine bodyPost_ret (by simp [results, Try.results26, go_sem, r0, r1, r2, r3, r4, r5, r6, r7]; try rfl) rfl ?_
      exact ⟨gr_from B1.out B1.out.size (Nat.le_succ _) gp, _, rfl, SnF.nil _ _⟩
    · by_cases a2 : 4611686018427387903 < n
      · rw [if_pos (by omega)]
        clear HC
        go_enter Try.func26, Try.ntmps26
        go_wp2_with (first
          | (go_at_call 22; refine (HF.out _ B0.out).mono ?_; rintro e w1 ⟨rfl, b1⟩; have B1 := Lib.hid (B0.out.trans (b1.mono B0.out.size)); have F1 := Lib.hid ((b1.block _ (lt_of_block F0.out)).trans F0.out); have Z1 := Lib.hid ((b1.block _ (lt_of_block Z0.out)).trans Z0.out); clear b1; obtain ⟨q0, q1, q2, q3, q4, q5, q6, q7⟩ := bkS F1.out; obtain ⟨z0, z1, z2, z3, z4, z5, z6, z7⟩ := bkS Z1.out; have zf := fun i => bk_frz Z1.out i))
        obtain ⟨RY, gp⟩ := bkS_put Z1.out (.slice none 0 0) (.bool false) (.int .i64 0) (.int .i64 0) (.slice none 0 0) (.slice none 0 0) (.bool false) (.bool false)
        obtain ⟨r0, r1, r2, r3, r4, r5, r6, r7⟩ := bkS RY
        refine bodyPost_ret (by simp [results, Try.results26, go_sem, r0, r1, r2, r3, r4, r5, r6, r7]; try rfl) rfl ?_
        exact ⟨gr_from B1.out B1.out.size (Nat.le_succ _) gp, _, rfl, SnF.nil _ _⟩
      · rw [if_neg (by omega)]
        obtain ⟨m, hm⟩ : ∃ m, max n s.mx = m := ⟨_, rfl⟩
        have hmax : (if s.mx < n then n else s.mx) = m := by rw [← hm]; split <;> omega
        rw [hm]
        clear hm
        go_enter Try.func26, Try.ntmps26
        go_wp2_with (first
          | (go_at_call 22; refine (HF.out _ B0.out).mono ?_; rintro e w1 ⟨rfl, b1⟩; have B1 := Lib.hid (B0.out.trans (b1.mono B0.out.size)); have F1 := Lib.hid ((b1.block _ (lt_of_block F0.out)).trans F0.out); have Z1 := Lib.hid ((b1.block _ (lt_of_block Z0.out)).trans Z0.out); clear b1; obtain ⟨q0, q1, q2, q3, q4, q5, q6, q7⟩ := bkS F1.out; obtain ⟨z0, z1, z2, z3, z4, z5, z6, z7⟩ := bkS Z1.out; have zf := fun i => bk_frz Z1.out i))
        refine (HC.out _ B1.out).mono ?_
        rintro e w2 ⟨u2, rfl, o2, b2⟩
        obtain ⟨d2, l2, a2, rfl, od, oby, ol, oa, oap⟩ := o2.ex
        obtain ⟨Ad, cd, hd2, _, _, _, _⟩ := (own_bsl od oby).ex
        obtain ⟨Al, cl, hl2, _, _, _⟩ := ol.slice
        obtain ⟨Aa, ca, ha2, _, _, _⟩ := oa.slice
        have OD := Lib.hid od
        have OL := Lib.hid ol
        have OA := Lib.hid oa
        have OAP := Lib.hid oap
        have HBY := Lib.hid oby
        have B2 := Lib.hid (B1.out.trans (b2.mono B1.out.size))
        have F2 := Lib.hid ((b2.block _ (lt_of_block F1.out)).trans F1.out)
        have Z2 := Lib.hid ((b2.block _ (lt_of_block Z1.out)).trans Z1.out)
        have hw1 := lt_of_block Z1.out
        have hsz12 := b2.size
        subst hd2 hl2 ha2
        clear b2 od oby ol oa oap o2 q0 q1 q2 q3 q4 q5 q6 q7 z0 z1 z2 z3 z4 z5 z6 z7 zf
        obtain ⟨q0, q1, q2, q3, q4, q5, q6, q7⟩ := bkS F2.out
        have qf := fun i => bk_frz F2.out i
        obtain ⟨FX, gx⟩ := bkS_put F2.out (.slice Ad s.data.length cd) (.bool s.fin) (.int .i64 s.next) (.int .i64 s.mx) (.slice Al s.lost.length cl) (.slice Aa s.acked.length ca) (.bool s.ended) (.bool s.over)
        obtain ⟨Y2, hY2⟩ : ∃ x, ((((((((w2.setCell ⟨w.heap.size, 0, none⟩ (.slice Ad s.data.length cd)).setCell ⟨w.heap.size, 1, none⟩ (.bool s.fin)).setCell ⟨w.heap.size, 2, none⟩ (.int .i64 s.next)).setCell ⟨w.heap.size, 3, none⟩ (.int .i64 s.mx)).setCell ⟨w.heap.size, 4, none⟩ (.slice Al s.lost.length cl)).setCell ⟨w.heap.size, 5, none⟩ (.slice Aa s.acked.length ca)).setCell ⟨w.heap.size, 6, none⟩ (.bool s.ended)).setCell ⟨w.heap.size, 7, none⟩ (.bool s.over)) = x := ⟨_, rfl⟩
        rw [hY2] at FX gx
        have FY2 := Lib.hid FX
        have ZY2 := Lib.hid ((gx.block _ (lt_of_block Z2.out) (by simp)).trans Z2.out)
        have ODY := Lib.hid (own_gr OD.out gx (by omega))
        have OLY := Lib.hid (own_gr OL.out gx (by omega))
        have OAY := Lib.hid (own_gr OA.out gx (by omega))
        have BY2 := Lib.hid (gr_from B2.out B2.out.size (Nat.le_refl _) gx)
        have hsz2Y := gx.size
        clear FX gx
        obtain ⟨p0, p1, p2, p3, p4, p5, p6, p7⟩ := bkS FY2.out
        have pf := fun i => bk_frz FY2.out i
        obtain ⟨Y3, hY3⟩ : ∃ x, Y2.setCell ⟨w.heap.size, 3, none⟩ (.int .i64 m) = x := ⟨_, rfl⟩
        have g3 := gr_set Y2 w.heap.size 3 (.int .i64 m)
        have FY3 := Lib.hid ((bkS_set FY2.out (.int .i64 m)).2.2.2.1)
        rw [hY3] at g3 FY3
        have ZY3 := Lib.hid ((g3.block _ (lt_of_block ZY2.out) (by simp)).trans ZY2.out)
        have OD3 := Lib.hid (own_gr ODY.out g3 (by omega))
        have OL3 := Lib.hid (own_gr OLY.out g3 (by omega))
        have OA3 := Lib.hid (own_gr OAY.out g3 (by omega))
        have BY3 := Lib.hid (gr_from BY2.out BY2.out.size (Nat.le_refl _) g3)
        clear g3
        obtain ⟨s0, s1, s2, s3, s4, s5, s6, s7⟩ := bkS FY3.out
        obtain ⟨z0, z1, z2, z3, z4, z5, z6, z7⟩ := bkS ZY3.out
        have zf := fun i => bk_frz ZY3.out i
        go_wp2_with fail
        obtain ⟨RY, gp⟩ := bkS_put ZY3.out (.slice Ad s.data.length cd) (.bool s.fin) (.int .i64 s.next) (.int .i64 m) (.slice Al s.lost.length cl) (.slice Aa s.acked.length ca) (.bool s.ended) (.bool s.over)
        obtain ⟨r0, r1, r2, r3, r4, r5, r6, r7⟩ := bkS RY
        refine bodyPost_ret (by simp [results, Try.results26, go_sem, r0, r1, r2, r3, r4, r5, r6, r7]; try rfl) rfl ?_
        exact ⟨gr_from BY3.out BY3.out.size (Nat.le_succ _) gp, _, rfl, snf_own (s := { s with mx := m }) (own_gr OD3.out gp (by omega)) HBY.out (own_gr OL3.out gp (by omega)) (own_gr OA3.out gp (by omega)) (by omega)⟩
  · rw [if_pos hf]
    clear hv hw hd hl ha HC g0 g1 g2
    obtain ⟨x, hx⟩ : ∃ x, faultSn s = x := ⟨_, rfl⟩
    rw [hx] at HF hf ⊢
    have gx : (x != 0) = true := by simp [hf]
    clear hx hf
    go_enter Try.func26, Try.ntmps26
    go_wp2_with (first
      | (go_at_call 22; refine (HF.out _ B0.out).mono ?_; rintro e w1 ⟨rfl, b1⟩; have B1 := Lib.hid (B0.out.trans (b1.mono B0.out.size)); have F1 := Lib.hid ((b1.block _ (lt_of_block F0.out)).trans F0.out); have Z1 := Lib.hid ((b1.block _ (lt_of_block Z0.out)).trans Z0.out); clear b1; obtain ⟨q0, q1, q2, q3, q4, q5, q6, q7⟩ := bkS F1.out; obtain ⟨z0, z1, z2, z3, z4, z5, z6, z7⟩ := bkS Z1.out; have zf := fun i => bk_frz Z1.out i))
    obtain ⟨RY, gp⟩ := bkS_put Z1.out (.slice none 0 0) (.bool false) (.int .i64 0) (.int .i64 0) (.slice none 0 0) (.slice none 0 0) (.bool false) (.bool false)
    obtain ⟨r0, r1, r2, r3, r4, r5, r6, r7⟩ := bkS RY
    refine bodyPost_ret (by simp [results, Try.results26, go_sem, r0, r1, r2, r3, r4, r5, r6, r7]; try rfl) rfl ?_
    exact ⟨gr_from B1.out B1.out.size (Nat.le_succ _) gp, _, rfl, SnF.nil _ _⟩
theorem snGrant_any : SnGr Try.prog 26 := fun v s n w hv hw => (snGrant_F v s n w hv hw).mono fun _ _ h => h.toRes

end Go.Proofs.Ytkmkcpjmhcpjpaa
