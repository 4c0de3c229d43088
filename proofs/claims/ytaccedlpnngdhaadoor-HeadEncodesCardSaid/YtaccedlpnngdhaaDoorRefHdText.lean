/- The document's answer on a head's bytes: headText. -/
import Derived.Test.YtaccedlpnngdhaaDoorVarText
import Derived.Test.YtaccedlpnngdhaaDoorHdVal
import Derived.Test.YtaccedlpnngdhaaDoorMem
import Derived.Test.YtaccedlpnngdhaaDoorExt
namespace Go.Proofs.YtaccedlpnngdhaaDoor
set_option linter.unusedVariables false
open Go.RowKit P

theorem zeroI (w : World) : (zeroValue 3).run Tryd.prog w = .ok (.int .i64 0) w := by kernel_rfl
/-- the map of first bytes: what a look-up finds in it -/
theorem firsts {P : Program} {T K E : TypeId} (hT : P.underlying T = some (.map K E)) (hK : P.underlying K = some (.int .i64)) (hE : P.underlying E = some (.int .i64)) (zero : ∀ w, (zeroValue E).run P w = .ok (.int .i64 0) w) (w : World) (a b : Int) (ha : (Lit.int .i64 a).wf = true) (hb : (Lit.int .i64 b).wf = true) :
    ∃ w1 w2 w3, (Instr.mapUpdate T (.map (some w.heap.size)) (.int .i64 2) (.int .i64 a)).run P (w.alloc (.map #[] 0)) = .ok () w1 ∧
      (Instr.mapUpdate T (.map (some w.heap.size)) (.int .i64 0) (.int .i64 b)).run P w1 = .ok () w2 ∧
      (Instr.mapUpdate T (.map (some w.heap.size)) (.int .i64 1) (.int .i64 240)).run P w2 = .ok () w3 ∧
      (Instr.lookup T (.map (some w.heap.size)) (.int .i64 2) false).run P w3 = .ok (.int .i64 a) w3 ∧
      (Instr.lookup T (.map (some w.heap.size)) (.int .i64 0) false).run P w3 = .ok (.int .i64 b) w3 ∧
      (Instr.lookup T (.map (some w.heap.size)) (.int .i64 1) false).run P w3 = .ok (.int .i64 240) w3 ∧ Below w.heap.size w w1 ∧ Below w.heap.size w w2 ∧ Below w.heap.size w w3 := by
  have KK := Maps.int_keyed (P := P) hK
  have h0 := World.ownsMap_made w P K (plainElem (H := Unit) P E)
  have key : ∀ a : Int, (Lit.int .i64 a).wf = true → keyOf P K (.int .i64 a) = some (.int .i64 a) := fun a h => Maps.keyOf_int_mk hK h
  obtain ⟨w1, r1, o1, g1⟩ := h0.update KK hT (by decide) (key 2 (by decide)) (plainElem_int hE (a := a) ha)
  obtain ⟨w2, r2, o2, g2⟩ := o1.update KK hT (by decide) (key 0 (by decide)) (plainElem_int hE (a := b) hb)
  obtain ⟨w3, r3, o3, g3⟩ := o2.update KK hT (by decide) (key 1 (by decide)) (plainElem_int hE (a := 240) (by decide))
  have look : ∀ (x c : Int), (Lit.int .i64 x).wf = true → ((((DataW.map [] : DataW Unit).put (.int .i64 2) (.lit (.int .i64 a))).put (.int .i64 0) (.lit (.int .i64 b))).put (.int .i64 1) (.lit (.int .i64 240))).atKey (.int .i64 x) (.lit (.int .i64 0)) = .lit (.int .i64 c) →
      (Instr.lookup T (.map (some w.heap.size)) (.int .i64 x) false).run P w3 = .ok (.int .i64 c) w3 := by
    intro x c hx hc
    obtain ⟨c', hr, hat, _⟩ := o3.lookup_int KK hT hE (zero w3) (key x hx)
    rw [hc] at hat
    have : c' = c := by simpa using hat.symm
    rw [hr, this]
  have b0 : Below w.heap.size w (w.alloc (.map #[] 0)) := (Below.refl _ _).alloc (Nat.le_refl _) _
  have row : ∀ k, some w.heap.size = some k → w.heap.size ≤ k := fun k h => by cases h; exact Nat.le_refl _
  have b1 := b0.grown g1 b0.size row
  have b2 := b1.grown g2 b1.size row
  have b3 := b2.grown g3 b2.size row
  exact ⟨w1, w2, w3, r1, r2, r3, look 2 a (by decide) rfl, look 0 b (by decide) rfl, look 1 240 (by decide) rfl, b1, b2, b3⟩

/-- a byte as a string of one -/
theorem bt1 (v : Int) (h0 : 0 ≤ v) (h1 : v ≤ 255) : ∃ S, Hid (strOfNums [v] = S) ∧ S.size = 1 ∧ Hid (∀ w, Calls Tryd.prog 27 #[.int .u64 v, .int .i64 1] w fun e w' => e = .returned (.string S) ∧ Below w.heap.size w w') := by
  refine ⟨_, Lib.hid rfl, by rw [strOfNums_size]; rfl, Lib.hid fun w => ?_⟩
  have h := big_any v 1 h0 (by omega) (by omega) w
  rwa [show lowB 1 v = [v] by show [v % 256] = [v]; rw [show v % 256 = v by omega]] at h
theorem vt1 (n : Int) (h0 : 0 ≤ n) (h1 : n ≤ 4611686018427387903) : ∃ S, Hid (strOfNums (enc n) = S) ∧ S.size ≤ 8 ∧ Hid (∀ w, Calls Tryd.prog 28 #[.int .i64 n] w fun e w' => e = .returned (.string S) ∧ Below w.heap.size w w') :=
  ⟨_, Lib.hid rfl, by rw [strOfNums_size]; have := enc_len n; have := sz_bd n; omega, Lib.hid (fun w => varText_in n h0 h1 w)⟩
theorem btk (v : Int) (k : Nat) (h0 : 0 ≤ v) (h1 : v ≤ 4294967296) (hk : k ≤ 4) : ∃ S, Hid (strOfNums (lowB k v) = S) ∧ S.size ≤ 4 ∧ Hid (∀ w, Calls Tryd.prog 27 #[.int .u64 v, .int .i64 (k : Int)] w fun e w' => e = .returned (.string S) ∧ Below w.heap.size w w') :=
  ⟨_, Lib.hid rfl, by rw [strOfNums_size, lowB_len]; omega, Lib.hid (fun w => big_any v k h0 (by omega) (by omega) w)⟩
set_option maxHeartbeats 1000000 in
theorem refHdText_short {to fr num : Int} {k n c : Nat} {A : Option Addr} {S1 S2 S5 : ByteArray} {w : World} (HV1 : Hid (∀ w, Calls Tryd.prog 27 #[.int .u64 (63 + (k : Int)), .int .i64 1] w fun e w' => e = .returned (.string S1) ∧ Below w.heap.size w w')) (z1 : S1.size = 1) (HV2 : Hid (∀ w, Calls Tryd.prog 27 #[.int .u64 to, .int .i64 1] w fun e w' => e = .returned (.string S2) ∧ Below w.heap.size w w')) (z2 : S2.size = 1) (HV5 : Hid (∀ w, Calls Tryd.prog 27 #[.int .u64 num, .int .i64 (k : Int)] w fun e w' => e = .returned (.string S5) ∧ Below w.heap.size w w')) (z5 : S5.size ≤ 4) (t0 : 0 ≤ to) (t1 : to ≤ 255) (n0 : 0 ≤ num) (n1 : num ≤ 4294967296) (hk : k ≤ 4) :
    Calls Tryd.prog 20 #[.agg #[.int .i64 2, .int .i64 to, .int .i64 fr, .slice A n c, .int .i64 num, .int .i64 k]] w fun e w' => e = .returned (.string (S1 ++ S2 ++ S5)) ∧ Below w.heap.size w w' := by
  have hmm := @run_makeMap Tryd.prog
  obtain ⟨W1, hW1⟩ : ∃ W1, W1 = w.alloc (.cells #[.int .i64 2, .int .i64 to, .int .i64 fr, .slice A n c, .int .i64 num, .int .i64 k] 24) := ⟨_, rfl⟩
  have BW := Lib.hid (show Below w.heap.size w W1 by rw [hW1]; exact (Below.refl _ _).alloc (Nat.le_refl _) _)
  have F0 := Lib.hid (show W1.heap[w.heap.size]? = some (.cells #[.int .i64 2, .int .i64 to, .int .i64 fr, .slice A n c, .int .i64 num, .int .i64 k] 24 (0, 0)) by rw [hW1]; exact heap_alloc_new w _)
  obtain ⟨x1, x2, x3, p1, p2, p3, l2, l0, l1, g1, g2, g3⟩ := firsts (P := Tryd.prog) Tryd.underlying53 Tryd.underlying3 Tryd.underlying3 zeroI W1 (63 + (k : Int)) (191 + (k : Int)) (by rw [wf_i64]; omega) (by rw [wf_i64]; omega)
  have F1 := Lib.hid ((g1.block _ (lt_of_block F0.out)).trans F0.out)
  have F3 := Lib.hid ((g3.block _ (lt_of_block F0.out)).trans F0.out)
  have B3 := Lib.hid (BW.out.trans (g3.mono BW.out.size))
  obtain ⟨d0, d1, d2, d3, d4, d5, df⟩ := bk6 F1.out
  obtain ⟨e0, e1, e2, e3, e4, e5, ef⟩ := bk6 F3.out
  have hs : W1.heap.size = w.heap.size + 1 := by rw [hW1]; simp
  rw [hs] at p1 p2 p3 l0 l1 l2
  rw [hW1] at p1
  clear hs
  clear g1 g2 g3
  go_enter Tryd.func20, Tryd.ntmps20
  go_wp2
  clear d0 d1 d2 d3 d4 d5 df p1 p2 p3 l0 l1 l2
  have q1 := Ext.cell (W := x3) e1
  refine wp_region_ext (by kernel_rfl) (by kernel_rfl) ?_
  go_big_quiet_step ((go_at_call 27; exact Ext.call (HV1.out _)))
  go_big_quiet_step ((go_at_call 27; exact Ext.call (HV1.out _)))
  go_big_quiet_step ((go_at_call 27; exact Ext.call (HV1.out _)))
  repeat (go_big_quiet_step ((go_at_call 27; exact Ext.call (HV2.out _))))
  refine wpQuiet_nil ?_
  intro w4 hb4
  clear q1
  have B4 := Lib.hid (B3.out.trans (hb4.mono B3.out.size))
  have F4 := Lib.hid ((hb4.block _ (lt_of_block F3.out)).trans F3.out)
  clear hb4 e0 e1 e2 e3 e4 e5 ef
  obtain ⟨e0, e1, e2, e3, e4, e5, ef⟩ := bk6 F4.out
  go_wp2_with (go_at_call 27; refine (HV5.out _).mono ?_; rintro e w5 ⟨rfl, hb5⟩)
  go_ret
  exact ⟨rfl, B4.out.trans (hb5.mono B4.out.size)⟩
set_option maxHeartbeats 1000000 in
theorem refHdText_init {to fr num : Int} {k n c : Nat} {A : Option Addr} {S1 S2 S3 S4 ST S5 : ByteArray} {w : World} (HV1 : Hid (∀ w, Calls Tryd.prog 27 #[.int .u64 (191 + (k : Int)), .int .i64 1] w fun e w' => e = .returned (.string S1) ∧ Below w.heap.size w w')) (z1 : S1.size = 1) (HV2 : Hid (∀ w, Calls Tryd.prog 27 #[.int .u64 to, .int .i64 1] w fun e w' => e = .returned (.string S2) ∧ Below w.heap.size w w')) (z2 : S2.size = 1) (HV5 : Hid (∀ w, Calls Tryd.prog 27 #[.int .u64 num, .int .i64 (k : Int)] w fun e w' => e = .returned (.string S5) ∧ Below w.heap.size w w')) (z5 : S5.size ≤ 4) (t0 : 0 ≤ to) (t1 : to ≤ 255) (n0 : 0 ≤ num) (n1 : num ≤ 4294967296) (hk : k ≤ 4) (HV3 : Hid (∀ w, Calls Tryd.prog 27 #[.int .u64 fr, .int .i64 1] w fun e w' => e = .returned (.string S3) ∧ Below w.heap.size w w')) (z3 : S3.size = 1) (HV4 : Hid (∀ w, Calls Tryd.prog 28 #[.int .i64 n] w fun e w' => e = .returned (.string S4) ∧ Below w.heap.size w w')) (z4 : S4.size ≤ 8) (f0 : 0 ≤ fr) (f1 : fr ≤ 255) (tok : List Int) (hn : tok.length = n) (hn1 : n ≤ 120) (hc : n ≤ c) (hr : BRow w w.heap.size A tok) (HST : Hid (strOfNums tok = ST)) (zt : ST.size = n) :
    Calls Tryd.prog 20 #[.agg #[.int .i64 0, .int .i64 to, .int .i64 fr, .slice A n c, .int .i64 num, .int .i64 k]] w fun e w' => e = .returned (.string (S1 ++ S2 ++ (S3 ++ S4 ++ ST) ++ S5)) ∧ Below w.heap.size w w' := by
  have hmm := @run_makeMap Tryd.prog
  obtain ⟨W1, hW1⟩ : ∃ W1, W1 = w.alloc (.cells #[.int .i64 0, .int .i64 to, .int .i64 fr, .slice A n c, .int .i64 num, .int .i64 k] 24) := ⟨_, rfl⟩
  have BW := Lib.hid (show Below w.heap.size w W1 by rw [hW1]; exact (Below.refl _ _).alloc (Nat.le_refl _) _)
  have F0 := Lib.hid (show W1.heap[w.heap.size]? = some (.cells #[.int .i64 0, .int .i64 to, .int .i64 fr, .slice A n c, .int .i64 num, .int .i64 k] 24 (0, 0)) by rw [hW1]; exact heap_alloc_new w _)
  obtain ⟨x1, x2, x3, p1, p2, p3, l2, l0, l1, g1, g2, g3⟩ := firsts (P := Tryd.prog) Tryd.underlying53 Tryd.underlying3 Tryd.underlying3 zeroI W1 (63 + (k : Int)) (191 + (k : Int)) (by rw [wf_i64]; omega) (by rw [wf_i64]; omega)
  have F1 := Lib.hid ((g1.block _ (lt_of_block F0.out)).trans F0.out)
  have F3 := Lib.hid ((g3.block _ (lt_of_block F0.out)).trans F0.out)
  have B3 := Lib.hid (BW.out.trans (g3.mono BW.out.size))
  obtain ⟨d0, d1, d2, d3, d4, d5, df⟩ := bk6 F1.out
  obtain ⟨e0, e1, e2, e3, e4, e5, ef⟩ := bk6 F3.out
  have hs : W1.heap.size = w.heap.size + 1 := by rw [hW1]; simp
  rw [hs] at p1 p2 p3 l0 l1 l2
  rw [hW1] at p1
  clear hs
  clear g1 g2 g3
  go_enter Tryd.func20, Tryd.ntmps20
  go_wp2
  clear d0 d1 d2 d3 d4 d5 df p1 p2 p3 l0 l1 l2
  have q1 := Ext.cell (W := x3) e1
  refine wp_region_ext (by kernel_rfl) (by kernel_rfl) ?_
  go_big_quiet_step ((go_at_call 27; exact Ext.call (HV1.out _)))
  go_big_quiet_step ((go_at_call 27; exact Ext.call (HV1.out _)))
  go_big_quiet_step ((go_at_call 27; exact Ext.call (HV1.out _)))
  repeat (go_big_quiet_step ((go_at_call 27; exact Ext.call (HV2.out _))))
  refine wpQuiet_nil ?_
  intro w4 hb4
  clear q1
  have B4 := Lib.hid (B3.out.trans (hb4.mono B3.out.size))
  have F4 := Lib.hid ((hb4.block _ (lt_of_block F3.out)).trans F3.out)
  clear hb4 e0 e1 e2 e3 e4 e5 ef
  obtain ⟨e0, e1, e2, e3, e4, e5, ef⟩ := bk6 F4.out
  go_wp2
  have q2 := Ext.cell (W := w4) e2
  have q3 := Ext.cell (W := w4) e3
  have hst : ∀ x : Ext w4, (convert 22 9 (.slice A n c)).run Tryd.prog x.w = .ok (.string ST) x.w := fun x => by
    rw [← HST.out]
    exact run_str (hr.below (B4.out.trans (x.h.mono B4.out.size))) hn 22 9 5 c Tryd.underlying22 Tryd.underlying5 Tryd.underlying9
  refine wp_region_ext (by kernel_rfl) (by kernel_rfl) ?_
  go_big_quiet_step ((go_at_call 27; exact Ext.call (HV3.out _)))
  go_big_quiet_step ((go_at_call 27; exact Ext.call (HV3.out _)))
  go_big_quiet_step ((go_at_call 27; exact Ext.call (HV3.out _)))
  go_big_quiet_step ((go_at_call 27; exact Ext.call (HV3.out _)))
  go_big_quiet_step ((go_at_call 27; exact Ext.call (HV3.out _)))
  repeat (go_big_quiet_step ((go_at_call 28; exact Ext.call (HV4.out _))))
  refine wpQuiet_nil ?_
  intro w6 hb6
  clear q2 q3 hst
  have B6 := Lib.hid (B4.out.trans (hb6.mono B4.out.size))
  have F6 := Lib.hid ((hb6.block _ (lt_of_block F4.out)).trans F4.out)
  clear hb6 e0 e1 e2 e3 e4 e5 ef
  obtain ⟨e0, e1, e2, e3, e4, e5, ef⟩ := bk6 F6.out
  go_wp2_with (go_at_call 27; refine (HV5.out _).mono ?_; rintro e w5 ⟨rfl, hb5⟩)
  go_ret
  exact ⟨rfl, B6.out.trans (hb5.mono B6.out.size)⟩
set_option maxHeartbeats 1000000 in
theorem refHdText_retry {to fr num : Int} {k n c : Nat} {A : Option Addr} {S1 S2 S3 S4 ST S5 : ByteArray} {w : World} (HV1 : Hid (∀ w, Calls Tryd.prog 27 #[.int .u64 (240), .int .i64 1] w fun e w' => e = .returned (.string S1) ∧ Below w.heap.size w w')) (z1 : S1.size = 1) (HV2 : Hid (∀ w, Calls Tryd.prog 27 #[.int .u64 to, .int .i64 1] w fun e w' => e = .returned (.string S2) ∧ Below w.heap.size w w')) (z2 : S2.size = 1) (HV5 : Hid (∀ w, Calls Tryd.prog 27 #[.int .u64 num, .int .i64 0] w fun e w' => e = .returned (.string S5) ∧ Below w.heap.size w w')) (z5 : S5.size ≤ 4) (t0 : 0 ≤ to) (t1 : to ≤ 255) (n0 : 0 ≤ num) (n1 : num ≤ 4294967296) (hk : k ≤ 4) (HV3 : Hid (∀ w, Calls Tryd.prog 27 #[.int .u64 fr, .int .i64 1] w fun e w' => e = .returned (.string S3) ∧ Below w.heap.size w w')) (z3 : S3.size = 1) (HV4 : Hid (∀ w, Calls Tryd.prog 28 #[.int .i64 n] w fun e w' => e = .returned (.string S4) ∧ Below w.heap.size w w')) (z4 : S4.size ≤ 8) (f0 : 0 ≤ fr) (f1 : fr ≤ 255) (tok : List Int) (hn : tok.length = n) (hn1 : n ≤ 120) (hc : n ≤ c) (hr : BRow w w.heap.size A tok) (HST : Hid (strOfNums tok = ST)) (zt : ST.size = n) :
    Calls Tryd.prog 20 #[.agg #[.int .i64 1, .int .i64 to, .int .i64 fr, .slice A n c, .int .i64 num, .int .i64 0]] w fun e w' => e = .returned (.string (S1 ++ S2 ++ (S3 ++ S4 ++ ST) ++ S5)) ∧ Below w.heap.size w w' := by
  have hmm := @run_makeMap Tryd.prog
  obtain ⟨W1, hW1⟩ : ∃ W1, W1 = w.alloc (.cells #[.int .i64 1, .int .i64 to, .int .i64 fr, .slice A n c, .int .i64 num, .int .i64 0] 24) := ⟨_, rfl⟩
  have BW := Lib.hid (show Below w.heap.size w W1 by rw [hW1]; exact (Below.refl _ _).alloc (Nat.le_refl _) _)
  have F0 := Lib.hid (show W1.heap[w.heap.size]? = some (.cells #[.int .i64 1, .int .i64 to, .int .i64 fr, .slice A n c, .int .i64 num, .int .i64 0] 24 (0, 0)) by rw [hW1]; exact heap_alloc_new w _)
  obtain ⟨x1, x2, x3, p1, p2, p3, l2, l0, l1, g1, g2, g3⟩ := firsts (P := Tryd.prog) Tryd.underlying53 Tryd.underlying3 Tryd.underlying3 zeroI W1 (63) (191) (by rw [wf_i64]; omega) (by rw [wf_i64]; omega)
  have F1 := Lib.hid ((g1.block _ (lt_of_block F0.out)).trans F0.out)
  have F3 := Lib.hid ((g3.block _ (lt_of_block F0.out)).trans F0.out)
  have B3 := Lib.hid (BW.out.trans (g3.mono BW.out.size))
  obtain ⟨d0, d1, d2, d3, d4, d5, df⟩ := bk6 F1.out
  obtain ⟨e0, e1, e2, e3, e4, e5, ef⟩ := bk6 F3.out
  have hs : W1.heap.size = w.heap.size + 1 := by rw [hW1]; simp
  rw [hs] at p1 p2 p3 l0 l1 l2
  rw [hW1] at p1
  clear hs
  clear g1 g2 g3
  go_enter Tryd.func20, Tryd.ntmps20
  go_wp2
  clear d0 d1 d2 d3 d4 d5 df p1 p2 p3 l0 l1 l2
  have q1 := Ext.cell (W := x3) e1
  refine wp_region_ext (by kernel_rfl) (by kernel_rfl) ?_
  go_big_quiet_step ((go_at_call 27; exact Ext.call (HV1.out _)))
  go_big_quiet_step ((go_at_call 27; exact Ext.call (HV1.out _)))
  go_big_quiet_step ((go_at_call 27; exact Ext.call (HV1.out _)))
  repeat (go_big_quiet_step ((go_at_call 27; exact Ext.call (HV2.out _))))
  refine wpQuiet_nil ?_
  intro w4 hb4
  clear q1
  have B4 := Lib.hid (B3.out.trans (hb4.mono B3.out.size))
  have F4 := Lib.hid ((hb4.block _ (lt_of_block F3.out)).trans F3.out)
  clear hb4 e0 e1 e2 e3 e4 e5 ef
  obtain ⟨e0, e1, e2, e3, e4, e5, ef⟩ := bk6 F4.out
  go_wp2
  have q2 := Ext.cell (W := w4) e2
  have q3 := Ext.cell (W := w4) e3
  have hst : ∀ x : Ext w4, (convert 22 9 (.slice A n c)).run Tryd.prog x.w = .ok (.string ST) x.w := fun x => by
    rw [← HST.out]
    exact run_str (hr.below (B4.out.trans (x.h.mono B4.out.size))) hn 22 9 5 c Tryd.underlying22 Tryd.underlying5 Tryd.underlying9
  refine wp_region_ext (by kernel_rfl) (by kernel_rfl) ?_
  go_big_quiet_step ((go_at_call 27; exact Ext.call (HV3.out _)))
  go_big_quiet_step ((go_at_call 27; exact Ext.call (HV3.out _)))
  go_big_quiet_step ((go_at_call 27; exact Ext.call (HV3.out _)))
  go_big_quiet_step ((go_at_call 27; exact Ext.call (HV3.out _)))
  go_big_quiet_step ((go_at_call 27; exact Ext.call (HV3.out _)))
  repeat (go_big_quiet_step ((go_at_call 28; exact Ext.call (HV4.out _))))
  refine wpQuiet_nil ?_
  intro w6 hb6
  clear q2 q3 hst
  have B6 := Lib.hid (B4.out.trans (hb6.mono B4.out.size))
  have F6 := Lib.hid ((hb6.block _ (lt_of_block F4.out)).trans F4.out)
  clear hb6 e0 e1 e2 e3 e4 e5 ef
  obtain ⟨e0, e1, e2, e3, e4, e5, ef⟩ := bk6 F6.out
  go_wp2_with (go_at_call 27; refine (HV5.out _).mono ?_; rintro e w5 ⟨rfl, hb5⟩)
  go_ret
  exact ⟨rfl, B6.out.trans (hb5.mono B6.out.size)⟩

theorem head_size {n : Nat} {S : ByteArray} {zs : List Int} (h : strOfNums zs = S) (hn : zs.length = n) : S.size = n := by subst h; rw [strOfNums_size]; exact hn
theorem refHdText_any (v : Value) (h : Hd) (w : World) (hv : HdVal w w.heap.size v h) (H : faultH h = 0) :
    Calls Tryd.prog 20 #[v] w fun e w' => e = .returned (.string (strOfNums (hdT h))) ∧ Below w.heap.size w w' := by
  obtain ⟨d, rfl, hd⟩ := hv.ex
  obtain ⟨A, c, rfl, hc, hcm, -, hr⟩ := hd.ex
  have H := okH_of H
  obtain ⟨kd, to, fr, tok, num, size⟩ := h
  have h1 := H.kind0; have h2 := H.kind1; have h3 := H.tok; have h4 := H.to0; have h5 := H.to1; have h6 := H.frm0; have h7 := H.frm1
  have hsz := H.size
  have hre := H.retry
  have hsh := H.short
  simp only at h1 h2 h3 h4 h5 h6 h7 hsz hre hsh hc hr ⊢
  have hw := winOf_le size
  obtain ⟨S2, e2, z2, V2⟩ := bt1 to h4 h5
  obtain ⟨S3, e3, z3, V3⟩ := bt1 fr h6 h7
  obtain ⟨S4, e4, z4, V4⟩ := vt1 tok.length (by omega) (by omega)
  rcases (show kd = 2 ∨ kd = 0 ∨ kd = 1 by omega) with rfl | rfl | rfl
  · have hs := hsz (by decide)
    obtain ⟨k, rfl⟩ : ∃ k : Nat, size = k := ⟨size.toNat, by omega⟩
    obtain ⟨S1, e1, z1, V1⟩ := bt1 (63 + (k : Int)) (by omega) (by omega)
    obtain ⟨S5, e5, z5, V5⟩ := btk num k (by omega) (by omega) (by omega)
    refine (refHdText_short V1 z1 V2 z2 V5 z5 h4 h5 (by omega) (by omega) (by omega)).mono ?_
    rintro e w' ⟨rfl, hb⟩
    refine ⟨?_, hb⟩
    rw [← e1.out, ← e2.out, ← e5.out, str_cat, str_cat]
    rfl
  · have hs := hsz (by decide)
    obtain ⟨k, rfl⟩ : ∃ k : Nat, size = k := ⟨size.toNat, by omega⟩
    obtain ⟨S1, e1, z1, V1⟩ := bt1 (191 + (k : Int)) (by omega) (by omega)
    obtain ⟨S5, e5, z5, V5⟩ := btk num k (by omega) (by omega) (by omega)
    refine (refHdText_init V1 z1 V2 z2 V5 z5 h4 h5 (by omega) (by omega) (by omega) V3 z3 V4 z4 h6 h7 tok rfl (by omega) hc hr (Lib.hid rfl) (strOfNums_size tok)).mono ?_
    rintro e w' ⟨rfl, hb⟩
    refine ⟨?_, hb⟩
    rw [← e1.out, ← e2.out, ← e3.out, ← e4.out, ← e5.out]
    simp only [str_cat]
    simp [hdT, markH]
  · have hs := hre rfl
    obtain ⟨rfl, rfl⟩ := hs
    obtain ⟨S1, e1, z1, V1⟩ := bt1 240 (by omega) (by omega)
    obtain ⟨S5, e5, z5, V5⟩ := btk 0 0 (by omega) (by omega) (by omega)
    refine (refHdText_retry (k := 0) V1 z1 V2 z2 V5 z5 h4 h5 (by omega) (by omega) (by omega) V3 z3 V4 z4 h6 h7 tok rfl (by omega) hc hr (Lib.hid rfl) (strOfNums_size tok)).mono ?_
    rintro e w' ⟨rfl, hb⟩
    refine ⟨?_, hb⟩
    rw [← e1.out, ← e2.out, ← e3.out, ← e4.out, ← e5.out]
    simp only [str_cat]
    simp [hdT, markH]
end Go.Proofs.YtaccedlpnngdhaaDoor
