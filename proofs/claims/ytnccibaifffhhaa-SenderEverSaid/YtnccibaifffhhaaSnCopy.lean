/- Contract of package sender's copied: a sender whose rows are new. -/
import Derived.Test.YtnccibaifffhhaaSnF
import Derived.Test.YtnccibaifffhhaaGrpSc
namespace Go.Proofs.Ytnccibaifffhhaa
set_option linter.unusedVariables false
open Go.RowKit P

/-- a sender whose three rows are its own, each for itself -/
structure SnOwn (w : World) (base : Nat) (v : Value) (s : Sn) : Prop where
  ex : ∃ d l a, v = .agg #[d, .bool s.fin, .int .i64 s.next, .int .i64 s.mx, l, a, .bool s.ended, .bool s.over] ∧ w.ownsRow base 5 1 d s.data.length (s.data.map (.int .u8)) ∧ Byt s.data ∧
    OwnR w base 63 l s.lost ∧ OwnR w base 63 a s.acked ∧ ∀ k, d.ownBlock = some k → l.ownBlock ≠ some k ∧ a.ownBlock ≠ some k
set_option maxRecDepth 100000 in
set_option maxHeartbeats 1000000 in
theorem sncopied_any (v : Value) (s : Sn) (w : World) (hv : SnVal w w.heap.size v s) (hw : SnWf s) :
    Calls Try.prog 28 #[v] w fun e w' => ∃ u, e = .returned u ∧ SnOwn w' w.heap.size u s ∧ Below w.heap.size w w' := by
  obtain ⟨d, l, a, rfl, hd, hl, ha⟩ := hv.ex
  obtain ⟨g0, g1, g2⟩ := twoX w #[d, .bool s.fin, .int .i64 s.next, .int .i64 s.mx, l, a, .bool s.ended, .bool s.over] #[.slice none 0 0, .bool false, .int .i64 0, .int .i64 0, .slice none 0 0, .slice none 0 0, .bool false, .bool false] 27 27
  have F0 := Lib.hid g0
  have Z0 := Lib.hid g1
  have B0 := Lib.hid g2
  have HD := Lib.hid (fun w' (hb : Below w.heap.size w w') => bclone_any w.heap.size d s.data w' hb.size (hd.below hb) (by have := hw.dl; omega))
  have HL := Lib.hid (fun w' (hb : Below w.heap.size w w') => rclone_any w.heap.size l s.lost w' hb.size (hl.below hb) hw.ll)
  have HA := Lib.hid (fun w' (hb : Below w.heap.size w w') => rclone_any w.heap.size a s.acked w' hb.size (ha.below hb) hw.al)
  have HBY := Lib.hid (show Byt s.data from by obtain ⟨_, _, _, _, _, _, h⟩ := hd.ex; exact h.1)
  clear hv hd hl ha hw g0 g1 g2
  go_enter Try.func28, Try.ntmps28
  obtain ⟨q0, q1, q2, q3, q4, q5, q6, q7⟩ := bkS F0.out
  go_wp2_with fail
  refine (HD.out _ B0.out).mono ?_
  rintro e w1 ⟨u1, rfl, o1, b1⟩
  have hs0 : (((w.alloc (.cells #[d, .bool s.fin, .int .i64 s.next, .int .i64 s.mx, l, a, .bool s.ended, .bool s.over] 27)).alloc (.cells #[.slice none 0 0, .bool false, .int .i64 0, .int .i64 0, .slice none 0 0, .slice none 0 0, .bool false, .bool false] 27)).heap.size) = w.heap.size + 2 := by simp
  rw [hs0] at o1
  obtain ⟨A1, c1, rfl, _, _, _, _⟩ := (own_bsl o1 HBY.out).ex
  have O1 := Lib.hid o1
  have B1 := Lib.hid (B0.out.trans (b1.mono B0.out.size))
  have F1 := Lib.hid ((b1.block _ (lt_of_block F0.out)).trans F0.out)
  have Z1 := Lib.hid ((b1.block _ (lt_of_block Z0.out)).trans Z0.out)
  have hw1 := lt_of_block Z1.out
  clear b1 o1 q0 q1 q2 q3 q4 q5 q6 q7 hs0
  obtain ⟨Y1, hY1⟩ : ∃ x, w1.setCell ⟨w.heap.size, 0, none⟩ (.slice A1 s.data.length c1) = x := ⟨_, rfl⟩
  have g1 := gr_set w1 w.heap.size 0 (.slice A1 s.data.length c1)
  have FY1 := Lib.hid ((bkS_set F1.out (.slice A1 s.data.length c1)).1)
  have qf := fun i => bk_frz F1.out i
  obtain ⟨p0, p1, p2, p3, p4, p5, p6, p7⟩ := bkS F1.out
  rw [hY1] at g1 FY1
  have ZY1 := Lib.hid ((g1.block _ (lt_of_block Z1.out) (by simp)).trans Z1.out)
  have OY1 := Lib.hid (own_gr O1.out g1 (by omega))
  have BY1 := Lib.hid (gr_from B1.out B1.out.size (Nat.le_refl _) g1)
  have hsY1 := g1.size
  have L1 := Lib.hid (fun k (hk : (Value.slice A1 s.data.length c1).ownBlock = some k) => (O1.out.lt k hk).2)
  obtain ⟨q0, q1, q2, q3, q4, q5, q6, q7⟩ := bkS FY1.out
  clear g1
  go_wp2_with fail
  clear hY1 qf p0 p1 p2 p3 p4 p5 p6 p7
  refine (HL.out _ BY1.out).mono ?_
  rintro e w2 ⟨u2, rfl, o2, b2⟩
  obtain ⟨A2, c2, rfl, _, _, _⟩ := o2.slice
  have O2 := Lib.hid o2
  have B2 := Lib.hid (BY1.out.trans (b2.mono BY1.out.size))
  have F2 := Lib.hid ((b2.block _ (lt_of_block FY1.out)).trans FY1.out)
  have Z2 := Lib.hid ((b2.block _ (lt_of_block ZY1.out)).trans ZY1.out)
  have P1 := Lib.hid (own_later2 OY1.out b2)
  have hsz2 := b2.size
  clear b2 o2 q0 q1 q2 q3 q4 q5 q6 q7
  obtain ⟨Y2, hY2⟩ : ∃ x, w2.setCell ⟨w.heap.size, 4, none⟩ (.slice A2 s.lost.length c2) = x := ⟨_, rfl⟩
  have g2 := gr_set w2 w.heap.size 4 (.slice A2 s.lost.length c2)
  have FY2 := Lib.hid ((bkS_set F2.out (.slice A2 s.lost.length c2)).2.2.2.2.1)
  have qf := fun i => bk_frz F2.out i
  obtain ⟨p0, p1, p2, p3, p4, p5, p6, p7⟩ := bkS F2.out
  rw [hY2] at g2 FY2
  have ZY2 := Lib.hid ((g2.block _ (lt_of_block Z2.out) (by simp)).trans Z2.out)
  have OY2 := Lib.hid (own_gr O2.out g2 (by omega))
  have PY1 := Lib.hid (own_gr P1.out g2 (by omega))
  have BY2 := Lib.hid (gr_from B2.out B2.out.size (Nat.le_refl _) g2)
  have hsY2 := g2.size
  have L2 := Lib.hid (fun k (hk : (Value.slice A2 s.lost.length c2).ownBlock = some k) => (O2.out.lt k hk).1)
  have hw2 : Y1.heap.size ≤ w2.heap.size := hsz2
  obtain ⟨q0, q1, q2, q3, q4, q5, q6, q7⟩ := bkS FY2.out
  clear g2
  go_wp2_with fail
  clear hY2 qf p0 p1 p2 p3 p4 p5 p6 p7
  refine (HA.out _ BY2.out).mono ?_
  rintro e w3 ⟨u3, rfl, o3, b3⟩
  obtain ⟨A3, c3, rfl, _, _, _⟩ := o3.slice
  have O3 := Lib.hid o3
  have B3 := Lib.hid (BY2.out.trans (b3.mono BY2.out.size))
  have F3 := Lib.hid ((b3.block _ (lt_of_block FY2.out)).trans FY2.out)
  have Z3 := Lib.hid ((b3.block _ (lt_of_block ZY2.out)).trans ZY2.out)
  have Q1 := Lib.hid (own_later2 PY1.out b3)
  have hsz3 := b3.size
  have Q2 := Lib.hid (own_later2 OY2.out b3)
  clear b3 o3 q0 q1 q2 q3 q4 q5 q6 q7
  obtain ⟨Y3, hY3⟩ : ∃ x, w3.setCell ⟨w.heap.size, 5, none⟩ (.slice A3 s.acked.length c3) = x := ⟨_, rfl⟩
  have g3 := gr_set w3 w.heap.size 5 (.slice A3 s.acked.length c3)
  have FY3 := Lib.hid ((bkS_set F3.out (.slice A3 s.acked.length c3)).2.2.2.2.2.1)
  have qf := fun i => bk_frz F3.out i
  obtain ⟨p0, p1, p2, p3, p4, p5, p6, p7⟩ := bkS F3.out
  rw [hY3] at g3 FY3
  have ZY3 := Lib.hid ((g3.block _ (lt_of_block Z3.out) (by simp)).trans Z3.out)
  have OY3 := Lib.hid (own_gr O3.out g3 (by omega))
  have QY1 := Lib.hid (own_gr Q1.out g3 (by omega))
  have QY2 := Lib.hid (own_gr Q2.out g3 (by omega))
  have BY3 := Lib.hid (gr_from B3.out B3.out.size (Nat.le_refl _) g3)
  have L3 := Lib.hid (fun k (hk : (Value.slice A3 s.acked.length c3).ownBlock = some k) => (O3.out.lt k hk).1)
  obtain ⟨q0, q1, q2, q3, q4, q5, q6, q7⟩ := bkS FY3.out
  obtain ⟨z0, z1, z2, z3, z4, z5, z6, z7⟩ := bkS ZY3.out
  clear g3
  have zf := fun i => bk_frz ZY3.out i
  go_wp2_with fail
  obtain ⟨RY, gp⟩ := bkS_put ZY3.out (.slice A1 s.data.length c1) (.bool s.fin) (.int .i64 s.next) (.int .i64 s.mx) (.slice A2 s.lost.length c2) (.slice A3 s.acked.length c3) (.bool s.ended) (.bool s.over)
  obtain ⟨r0, r1, r2, r3, r4, r5, r6, r7⟩ := bkS RY
  refine bodyPost_ret (by simp [results, Try.results28, go_sem, r0, r1, r2, r3, r4, r5, r6, r7]; try rfl) rfl ?_
  refine ⟨_, rfl, ⟨_, _, _, rfl, own_base (own_gr QY1.out gp (by omega)) (by omega), HBY.out, own_base (own_gr QY2.out gp (by omega)) (by omega), own_base (own_gr OY3.out gp (by omega)) (by omega), fun k hk => ⟨fun e => ?_, fun e => ?_⟩⟩, gr_from BY3.out BY3.out.size (Nat.le_succ _) gp⟩
  · have := L1.out k hk
    have := L2.out k e
    omega
  · have := L1.out k hk
    have := L3.out k e
    omega
end Go.Proofs.Ytnccibaifffhhaa
