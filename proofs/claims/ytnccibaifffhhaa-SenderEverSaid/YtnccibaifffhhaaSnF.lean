/- Senders in new memory; contracts of slices.Clone over ranges and of package sender: span, heardAll, Over, copied. -/
import Derived.Test.YtnccibaifffhhaaGrpSc
import Derived.Test.YtnccibaifffhhaaGrpZd
import Derived.Test.YtnccibaifffhhaaGrpZj
import Derived.Test.YtnccibaifffhhaaRngSome
namespace Go.Proofs.Ytnccibaifffhhaa.P
set_option linter.unusedVariables false
theorem allA_one {s : Sn} (ok : okSn s) (h : 0 < s.data.length) : allA s = decide (s.acked = [(0, (s.data.length : Int) - 1)]) := by
  have hi := allA_iff ok
  obtain ⟨k1, k2, k3, k4, k5, k6, k7, k8, k9, k10⟩ := ok
  have hr : okR (0, (s.data.length : Int) - 1) := ⟨Int.le_refl _, by simp only; omega, by simp only; omega⟩
  rw [Bool.eq_iff_iff, hi, decide_eq_true_iff]
  constructor
  · intro ha
    refine ok_ext (b := -2) k5 (show okFrom (-2) [(0, (s.data.length : Int) - 1)] from ⟨hr, by simp only; omega, trivial⟩) fun n => ⟨fun hn => .inl ⟨mem_zero k5 hn, ?_⟩, fun hn => ?_⟩
    · have := (below_mem k5).1 k9 n hn
      simp only; omega
    · rcases hn with hn | hn
      · have h1 := hn.1; have h2 := hn.2; simp only at h1 h2
        exact ha n h1 (by omega)
      · exact hn.elim
  · intro e n h0 h1
    rw [e]
    exact .inl ⟨h0, by simp only; omega⟩
end Go.Proofs.Ytnccibaifffhhaa.P
namespace Go.Proofs.Ytnccibaifffhhaa
set_option linter.unusedVariables false
open Go.RowKit P

/-- ranges in new memory -/
def RF (w : World) (lo : Nat) (v : Value) (ps : List (Int × Int)) : Prop := ∀ w'', Keeps lo w w'' → RSl w'' w''.heap.size v ps
theorem RF.nil (w : World) (lo : Nat) : RF w lo (.slice none 0 0) [] := fun w'' _ => RSl.nil _ _
theorem RF.on {w w' : World} {lo : Nat} {v : Value} {ps : List (Int × Int)} (h : RF w lo v ps) (k : Keeps lo w w') : RF w' lo v ps := fun w'' k2 => h w'' (k.trans k2)
theorem RF.now {w : World} {lo : Nat} {v : Value} {ps : List (Int × Int)} (h : RF w lo v ps) : RSl w w.heap.size v ps := h w (Keeps.refl _ _)
theorem RF.more {w : World} {lo lo' : Nat} {v : Value} {ps : List (Int × Int)} (h : RF w lo v ps) (hl : lo' ≤ lo) : RF w lo' v ps := fun w'' k => h w'' ⟨k.size, fun i h1 h2 => k.block i (Nat.le_trans hl h1) h2⟩
theorem rf_own {w : World} {base lo : Nat} {e : TypeId} {v : Value} {ps : List (Int × Int)} (h : OwnR w base e v ps) (hl : lo ≤ base) : RF w lo v ps := fun w'' k => by
  obtain ⟨A, c, rfl, h1, h2, h3⟩ := h.slice
  refine ⟨A, c, rfl, h1, h2, fun hn => ?_⟩
  obtain ⟨b, off, e2, hb2, hc⟩ := h3 hn
  subst e2
  have hbb := (h.lt b rfl).1
  have kb := k.block b (by omega) hb2
  exact ⟨b, off, rfl, Nat.lt_of_lt_of_le hb2 k.size, fun j hj => ⟨(cell_of_blk kb).trans (hc j hj).1, (cell_of_blk kb).trans (hc j hj).2⟩⟩
/-- an own row of ranges, when elsewhere something is written -/
theorem OwnR.keptR {w w' : World} {base : Nat} {e : TypeId} {v : Value} {ps : List (Int × Int)} {r : Option Nat} (h : OwnR w base e v ps) (g : w.grownBy w' r) (hr : ∀ y, r = some y → y < base) : OwnR w' base e v ps :=
  World.ownsRow.kept h g (by
    cases hq : v.ownBlock with
    | none => exact .inl rfl
    | some k => exact .inr fun e2 => by have := hr k e2.symm; have := (h.lt k hq).1; omega)
/-- a sender in new memory -/
structure SnF (w : World) (lo : Nat) (v : Value) (s : Sn) : Prop where
  ex : ∃ d l a, v = .agg #[d, .bool s.fin, .int .i64 s.next, .int .i64 s.mx, l, a, .bool s.ended, .bool s.over] ∧ BF w lo d s.data ∧ RF w lo l s.lost ∧ RF w lo a s.acked
theorem SnF.now {w : World} {lo : Nat} {v : Value} {s : Sn} (h : SnF w lo v s) : SnVal w w.heap.size v s := by
  obtain ⟨d, l, a, e, h1, h2, h3⟩ := h.ex
  exact ⟨d, l, a, e, h1.now, h2.now, h3.now⟩
theorem SnF.on {w w' : World} {lo : Nat} {v : Value} {s : Sn} (h : SnF w lo v s) (k : Keeps lo w w') : SnF w' lo v s := by
  obtain ⟨d, l, a, e, h1, h2, h3⟩ := h.ex
  exact ⟨d, l, a, e, h1.on k, h2.on k, h3.on k⟩
theorem SnF.more {w : World} {lo lo' : Nat} {v : Value} {s : Sn} (h : SnF w lo v s) (hl : lo' ≤ lo) : SnF w lo' v s := by
  obtain ⟨d, l, a, e, h1, h2, h3⟩ := h.ex
  exact ⟨d, l, a, e, h1.more hl, h2.more hl, h3.more hl⟩
theorem SnF.nil (w : World) (lo : Nat) : SnF w lo (.agg #[.slice none 0 0, .bool false, .int .i64 0, .int .i64 0, .slice none 0 0, .slice none 0 0, .bool false, .bool false]) sn0 :=
  ⟨_, _, _, rfl, BF.nil _ _, RF.nil _ _, RF.nil _ _⟩
/-- an answer of a sender and an error, in new memory -/
structure SnResF (r : Sn × Int) (w : World) (e : Ending) (w' : World) : Prop where
  be : Below w.heap.size w w'
  ex : ∃ u, e = .returned (.tuple #[u, .int .i64 r.2]) ∧ SnF w' w.heap.size u r.1
theorem SnResF.toRes {r : Sn × Int} {w : World} {e : Ending} {w' : World} (h : SnResF r w e w') : SnRes r w e w' := by
  obtain ⟨u, h1, h2⟩ := h.ex
  exact ⟨h.be, u, h1, h2.now⟩
theorem own_mtR (w : World) (base : Nat) (t : TypeId) (hb : base ≤ w.heap.size) : OwnR (w.alloc (.cells #[] t)) base t (.slice (some ⟨w.heap.size, 0, none⟩) 0 0) [] :=
  ⟨rfl, .inr ⟨w.heap.size, 0, #[], rfl, hb, heap_alloc_new w (.cells #[] t), Nat.le_refl _, by unfold maxLen; omega, rfl, rfl⟩⟩
theorem rclone_any (B : Nat) (v : Value) (zs : List (Int × Int)) (w : World) (hB : B ≤ w.heap.size) (h : RSl w B v zs) (hm : zs.length ≤ 1048576) :
    Calls Try.prog 56 #[v] w fun e w' => ∃ u, e = .returned u ∧ OwnR w' w.heap.size 63 u zs ∧ Below w.heap.size w w' := by
  obtain ⟨A, c, rfl, h1, h2, h3⟩ := h.ex
  rcases A with _ | a
  · have e0 : zs = [] := by
      rcases Nat.eq_zero_or_pos zs.length with e | e
      · exact List.eq_nil_of_length_eq_zero e
      · obtain ⟨b, off, e, _⟩ := h3 e; cases e
    subst e0
    have hnil := fun w => Lib.run_eql_slice_nil (P := Try.prog) w 25 63 none 0 c 0 0 Try.underlying25
    go_enter Try.func56, Try.ntmps56
    go_wp2
    go_ret
    exact ⟨_, rfl, OwnR.nil _ _ _, Below.refl _ _⟩
  · obtain ⟨i0, hi0, hz0, hz1, hz2⟩ := info_parts infoR
    have HI := Lib.hid hi0
    have HZ := Lib.hid hz0
    have HZ1 := Lib.hid hz1
    have HZ2 := Lib.hid hz2
    have H3 := Lib.hid (h3.more hB)
    clear hi0 hz0 hz1 hz2 h3
    have hnil := fun w => Lib.run_eql_slice_nil (P := Try.prog) w 25 63 (some a) zs.length c 0 0 Try.underlying25
    go_enter Try.func56, Try.ntmps56
    go_wp2_with (first
      | (at_builtin
         refine wpList_appR _ rfl (.tmp 5) (.tmp 6) _ rfl w.heap.size 63 i0 _ Try.underlying25 HI.out HZ.out HZ1.out HZ2.out rfl (.slice (some ⟨w.heap.size, 0, none⟩) 0 0) [] rfl (own_mtR w w.heap.size 63 (Nat.le_refl _)) w.heap.size (some a) zs.length c zs rfl (H3.out.below ((Below.refl w.heap.size w).alloc (Nat.le_refl _) (.cells #[] 63))) rfl (by rw [List.length_nil]; omega) (by simp <;> omega) ?_
         intro v1 u1 own1 g1
         have O1 := Lib.hid own1
         have B1 := Lib.hid (((Below.refl w.heap.size w).alloc (Nat.le_refl _) (.cells #[] 63)).grown g1 (by simp <;> omega) (fun k hk => ((own_mtR w w.heap.size 63 (Nat.le_refl _)).lt k hk).1))
         clear own1 g1))
    go_ret
    exact ⟨_, rfl, by simpa using O1.out, B1.out⟩
theorem span_any (a b : Int) (w : World) (hb : -9223372036854775808 ≤ b - 1 ∧ b - 1 ≤ 9223372036854775807) :
    Calls Try.prog 33 #[.int .i64 a, .int .i64 b] w fun e w' => e = .returned (.agg #[.int .i64 a, .int .i64 (b - 1)]) ∧ Below w.heap.size w w' := by
  have hwm : IntKind.i64.wrap (b - 1) = b - 1 := by rw [IntKind.wrap_i64]; omega
  go_enter Try.func33, Try.ntmps33
  go_wp2
  refine bodyPost_ret (by simp [results, Try.results33, go_sem]; try rfl) rfl ?_
  exact ⟨rfl, (Below.refl _ _).alloc (Nat.le_refl _) _⟩
set_option maxRecDepth 100000 in
set_option maxHeartbeats 1000000 in
theorem heardAll_any (v : Value) (s : Sn) (w : World) (hv : SnVal w w.heap.size v s) (ok : okSn s) :
    Calls Try.prog 39 #[v] w fun e w' => e = .returned (.bool (allA s)) ∧ Below w.heap.size w w' := by
  have hone := allA_one ok
  have hnil := fun h : s.data = [] => show allA s = true by unfold allA; exact decide_eq_true (.inl h)
  obtain ⟨d, l, a, rfl, hd, hl, ha⟩ := hv.ex
  obtain ⟨Ad, cd, rfl, hdc, hdm, hdn, hdr⟩ := hd.ex
  obtain ⟨Aa, ca, rfl, hac, ham, har⟩ := ha.ex
  have B0 := Lib.hid ((Below.refl w.heap.size w).alloc (Nat.le_refl _) (.cells #[.slice Ad s.data.length cd, .bool s.fin, .int .i64 s.next, .int .i64 s.mx, l, .slice Aa s.acked.length ca, .bool s.ended, .bool s.over] 27))
  have F0 := Lib.hid (heap_alloc_new w (.cells #[.slice Ad s.data.length cd, .bool s.fin, .int .i64 s.next, .int .i64 s.mx, l, .slice Aa s.acked.length ca, .bool s.ended, .bool s.over] 27))
  have hdl := ok.1
  obtain ⟨nd, hnd⟩ : ∃ n, s.data.length = n := ⟨_, rfl⟩
  obtain ⟨na, hna⟩ : ∃ n, s.acked.length = n := ⟨_, rfl⟩
  have HR := Lib.hid har
  have HN := Lib.hid hna
  have HS := Lib.hid (fun w' => span_any 0 (nd : Int) w' (by omega))
  rw [hnd] at hone B0 F0 hdl ⊢
  rw [hna] at B0 F0 ⊢
  have HO := Lib.hid hone
  have HE := Lib.hid (fun h : nd = 0 => hnil (List.eq_nil_of_length_eq_zero (hnd.trans h)))
  clear hv hd hl ha hdr har hdn hdc hdm hac ham ok hone hnil hnd hna
  by_cases h0 : nd = 0
  · have H1 := Lib.hid (HE.out h0)
    subst h0
    go_enter Try.func39, Try.ntmps39
    go_wp2
    go_ret
    exact ⟨by rw [H1.out]; rfl, B0.out⟩
  · have e0 : ((nd : Int) == 0) = false := by simp; omega
    obtain ⟨q0, q1, q2, q3, q4, q5, q6, q7⟩ := bkS F0.out
    by_cases h1 : na = 1
    · obtain ⟨p, hp⟩ : ∃ p, s.acked = [p] := by
        have := HN.out
        match hq : s.acked, this with
        | [p], _ => exact ⟨p, rfl⟩
        | [], h => simp at h; omega
        | _ :: _ :: _, h => simp at h; omega
      obtain ⟨lo, hi⟩ := p
      obtain ⟨b, off, hA, hbb, hc⟩ := HR.out (by rw [HN.out]; omega)
      subst hA
      have c0 := hc 0 (by rw [HN.out]; omega)
      rw [hp] at c0
      simp only [List.getD_cons_zero, Nat.zero_mul, Nat.add_zero] at c0
      obtain ⟨c0, c1⟩ := c0
      have z0 := Ext.cell q0
      have z5 := Ext.cell q5
      have y0 := Ext.cell ((B0.out.cell hbb).trans c0)
      have y1 := Ext.cell ((B0.out.cell hbb).trans c1)
      have H1 := Lib.hid (HO.out (by omega))
      rw [hp] at H1
      subst h1
      clear hc c0 c1 hp
      by_cases g0 : lo = 0
      · by_cases g1 : hi = (nd : Int) - 1
        · subst g0 g1
          have H2 := Lib.hid (H1.out.trans (decide_eq_true rfl))
          go_enter Try.func39, Try.ntmps39
          go_wp2
          refine wp_region_ext (by kernel_rfl) (by kernel_rfl) ?_
          repeat (go_big_quiet_step (first | ((go_at_call 33; exact Ext.call (HS.out _)))))
          refine wpQuiet_nil ?_
          intro w2 hb2
          have B2 := Lib.hid (B0.out.trans (hb2.mono B0.out.size))
          clear hb2
          go_wp2
          go_ret
          exact ⟨by rw [H2.out]; rfl, B2.out⟩
        · have g2 : (hi == (nd : Int) - 1) = false := by simp [g1]
          subst g0
          have H2 := Lib.hid (H1.out.trans (decide_eq_false (fun e => g1 (by simpa using e))))
          go_enter Try.func39, Try.ntmps39
          go_wp2
          refine wp_region_ext (by kernel_rfl) (by kernel_rfl) ?_
          repeat (go_big_quiet_step (first | ((go_at_call 33; exact Ext.call (HS.out _)))))
          refine wpQuiet_nil ?_
          intro w2 hb2
          have B2 := Lib.hid (B0.out.trans (hb2.mono B0.out.size))
          clear hb2
          go_wp2
          go_ret
          exact ⟨by rw [H2.out]; first | rfl | simp [g1] | simp [g2], B2.out⟩
      · have g2 : (lo == 0) = false := by simp [g0]
        have H2 := Lib.hid (H1.out.trans (decide_eq_false (fun e => g0 (by simp at e; exact e.1))))
        go_enter Try.func39, Try.ntmps39
        go_wp2
        refine wp_region_ext (by kernel_rfl) (by kernel_rfl) ?_
        repeat (go_big_quiet_step (first | ((go_at_call 33; exact Ext.call (HS.out _)))))
        refine wpQuiet_nil ?_
        intro w2 hb2
        have B2 := Lib.hid (B0.out.trans (hb2.mono B0.out.size))
        clear hb2
        go_wp2
        go_ret
        exact ⟨by rw [H2.out]; first | rfl | simp [g0] | simp [g2], B2.out⟩
    · have e1 : ((na : Int) == 1) = false := by simp; omega
      have H1 := Lib.hid ((HO.out (by omega)).trans (decide_eq_false (fun e => h1 (by rw [← HN.out, e]; rfl))))
      have z5 := Ext.cell q5
      go_enter Try.func39, Try.ntmps39
      go_wp2
      refine wp_region_ext (by kernel_rfl) (by kernel_rfl) ?_
      repeat (go_big_quiet_step (fail))
      refine wpQuiet_nil ?_
      intro w2 hb2
      have B2 := Lib.hid (B0.out.trans (hb2.mono B0.out.size))
      clear hb2
      go_wp2
      go_ret
      exact ⟨by rw [H1.out]; rfl, B2.out⟩
set_option maxRecDepth 100000 in
set_option maxHeartbeats 1000000 in
theorem snOv_any : SnOv Try.prog 15 := by
  intro v s w hv hw
  have HC := Lib.hid (fun w' (hb : Below w.heap.size w w') => snChk_any v s w' (hv.on hb) hw)
  have HA := Lib.hid (fun w' (hb : Below w.heap.size w w') (ok : okSn s) => heardAll_any v s w' (hv.on hb) ok)
  unfold overS
  obtain ⟨d, l, a, rfl, hd, hl, ha⟩ := hv.ex
  have B0 := Lib.hid ((Below.refl w.heap.size w).alloc (Nat.le_refl _) (.cells #[d, .bool s.fin, .int .i64 s.next, .int .i64 s.mx, l, a, .bool s.ended, .bool s.over] 27))
  have F0 := Lib.hid (heap_alloc_new w (.cells #[d, .bool s.fin, .int .i64 s.next, .int .i64 s.mx, l, a, .bool s.ended, .bool s.over] 27))
  clear hv hd hl ha hw
  by_cases hf : faultSn s = 0
  · have HB := Lib.hid (fun w' hb => HA.out w' hb ((fault_iff s).1 hf))
    rw [if_neg (fun e => e hf)]
    rw [hf] at HC
    obtain ⟨ov, hov⟩ : ∃ n, s.over = n := ⟨_, rfl⟩
    rw [hov] at HC HB B0 F0 ⊢
    clear hf HA hov
    cases ov with
    | true =>
      go_enter Try.func15, Try.ntmps15
      go_wp2_with (first
        | (go_at_call 14; refine (HC.out _ B0.out).mono ?_; rintro e w1 ⟨rfl, b1⟩; have B1 := Lib.hid (B0.out.trans (b1.mono B0.out.size)); have F1 := Lib.hid ((b1.block _ (lt_of_block F0.out)).trans F0.out); clear b1; obtain ⟨q0, q1, q2, q3, q4, q5, q6, q7⟩ := bkS F1.out)
        | (go_at_call 39; refine (HB.out _ B1.out).mono ?_; rintro e w2 ⟨rfl, b2⟩; have B2 := Lib.hid (B1.out.trans (b2.mono B1.out.size)); clear b2))
      go_ret2
      exact ⟨by first | rfl | simp, B2.out⟩
    | false =>
      go_enter Try.func15, Try.ntmps15
      go_wp2_with (first
        | (go_at_call 14; refine (HC.out _ B0.out).mono ?_; rintro e w1 ⟨rfl, b1⟩; have B1 := Lib.hid (B0.out.trans (b1.mono B0.out.size)); have F1 := Lib.hid ((b1.block _ (lt_of_block F0.out)).trans F0.out); clear b1; obtain ⟨q0, q1, q2, q3, q4, q5, q6, q7⟩ := bkS F1.out))
      go_ret2
      exact ⟨by first | rfl | simp, B1.out⟩
  · rw [if_pos hf]
    obtain ⟨x, hx⟩ : ∃ x, faultSn s = x := ⟨_, rfl⟩
    rw [hx] at HC hf ⊢
    have gx : (x != 0) = true := by simp [hf]
    clear hf hx HA
    go_enter Try.func15, Try.ntmps15
    go_wp2_with (first
      | (go_at_call 14; refine (HC.out _ B0.out).mono ?_; rintro e w1 ⟨rfl, b1⟩; have B1 := Lib.hid (B0.out.trans (b1.mono B0.out.size)); have F1 := Lib.hid ((b1.block _ (lt_of_block F0.out)).trans F0.out); clear b1; obtain ⟨q0, q1, q2, q3, q4, q5, q6, q7⟩ := bkS F1.out))
    go_ret2
    exact ⟨rfl, B1.out⟩
end Go.Proofs.Ytnccibaifffhhaa
