/- The walk of GatherEnd. -/
import Derived.Test.YtfbjgbnlgaajaaaGatherGapsW
import Derived.Laws.MakeOwn
import Derived.Laws.OwnMore
namespace Go.Proofs.Ytfbjgbnlgaajaaa
set_option linter.unusedVariables false
open Go.RowKit P

theorem zeros_at (w : World) (n : Nat) (hn : n ≤ 1000) : BSl (w.alloc (.cells (madeCells #[.int .u8 0] n) 5)) (w.alloc (.cells (madeCells #[.int .u8 0] n) 5)).heap.size (.slice (some ⟨w.heap.size, 0, none⟩) n n) (List.replicate n 0) := by
  have hb := heap_alloc_new w (.cells (madeCells #[.int .u8 0] n) 5)
  have hg : ∀ j, (List.replicate n (0 : Int)).getD j 0 = 0 := fun j => by
    rw [List.getD_eq_getElem?_getD, List.getElem?_replicate]
    split <;> rfl
  refine ⟨_, _, by rw [List.length_replicate], by rw [List.length_replicate]; exact Nat.le_refl _, by unfold maxLen; omega, (fun e => by cases e), fun j => by rw [hg]; exact ⟨by decide, by decide⟩, fun _ => ⟨w.heap.size, 0, rfl, by simp, fun j hj => ?_⟩⟩
  rw [List.length_replicate] at hj
  rw [hg, Nat.zero_add, bk_cell hb, ← Array.getElem?_toList, toList_madeCells_one, List.getElem?_replicate, if_pos hj]
theorem make_eq (m : Nat) (z : Int) (hz : z = (m : Int)) (hm : m ≤ 1000) (w : World) : (Instr.makeSlice 31 (.int .i64 z) (.int .i64 z)).run Try.prog w = .ok (.slice (some ⟨w.heap.size, 0, none⟩) m m) (w.alloc (.cells (madeCells #[.int .u8 0] m) 5)) := by
  obtain ⟨i0, hi0, hz0, hz1, hz2⟩ := info_parts infoB1
  have h := run_make (P := Try.prog) w 31 5 i0 (.int .u8 0) Try.underlying31 hi0 hz0 .i64 .i64 (m : Int) (m : Int) (by omega) (Int.le_refl _) (by rw [hz2]; omega) (by omega)
  rw [hz1, Nat.mul_one, Int.toNat_natCast] at h
  rw [hz]
  exact h
theorem ok_none (f W : Int) (h : 0 ≤ W ∧ W ≤ 1000) (hf : f = -1 ∨ 0 ≤ f ∧ f ≤ 1000) : Small ⟨0, [], f, W⟩ :=
  ⟨⟨by simp, by simp only; omega, by simp only; omega, by simp, trivial, h.1, fun k => by simp only [reachP] at k ⊢; omega⟩, h.2, by simp only; omega⟩
theorem putP_none (W f off : Int) : putP ⟨0, [], f, W⟩ off [] = [] := by unfold putP insP; simp
theorem end1 (en : Nat) (h : en < 100) : putG ⟨0, [], -1, 100⟩ (en : Int) [] true = (⟨0, [], (en : Int), 100⟩, 0) := by
  rw [putG_ref, putP_none]
  have c1 : refG ⟨0, [], -1, 100⟩ (en : Int) ([] : List Int).length true = 0 := by
    unfold refG
    rw [if_neg (fun k => k (ok_none (-1) 100 (by omega) (.inl rfl)).fault)]
    simp only [List.length_nil, reachP]
    rw [if_neg (by push_cast; omega), if_neg (fun k => k.1 rfl), if_neg (fun k => by have := k.2; push_cast at this; omega), if_neg (by push_cast; omega)]
  rw [if_neg (fun k => k c1)]
  simp
theorem end2 (en : Nat) (pm : Int) (h : en < 100) (h1 : 0 ≤ pm ∧ pm ≤ en) : putG ⟨0, [], (en : Int), 100⟩ pm (List.replicate (en + 1) 0) false = (gz, 12) := by
  rw [putG_ref, List.length_replicate]
  have c1 : refG ⟨0, [], (en : Int), 100⟩ pm ((en + 1 : Nat) : Int) false = 12 := by
    unfold refG
    rw [if_neg (fun k => k (ok_none en 100 (by omega) (.inr (by omega))).fault), if_neg (by push_cast; omega), if_pos ⟨by simp only; omega, .inl (by simp only; push_cast; omega)⟩]
  rw [c1, if_pos (by decide)]
theorem end3 (en : Nat) (po : Int) (h : en < 100) (h1 : 0 ≤ po ∧ po < 100) : (putG ⟨0, [], (en : Int), 100⟩ po [] true).2 = (if po ≠ en then 12 else 0) := by
  rw [putG_ref, putP_none]
  have c1 : refG ⟨0, [], (en : Int), 100⟩ po ([] : List Int).length true = if po ≠ en then 12 else 0 := by
    unfold refG
    rw [if_neg (fun k => k (ok_none en 100 (by omega) (.inr (by omega))).fault)]
    simp only [List.length_nil, reachP]
    rw [if_neg (by push_cast; omega)]
    by_cases q : po = en
    · subst q
      rw [if_neg (fun k => by have := k.2; simp at this), if_neg (fun k => by have := k.2; push_cast at this; omega), if_neg (by push_cast; omega)]
      simp
    · rw [if_pos ⟨by omega, .inr ⟨by simp, by push_cast; omega⟩⟩, if_pos q]
  rw [c1]
  by_cases q : po = en
  · simp [q]
  · simp [q]
theorem end4 (mp : Int) (h : 0 ≤ mp ∧ mp < 50) : putG ⟨0, [], -1, 50⟩ (1 + mp) (List.replicate 50 0) false = (gz, 11) := by
  rw [putG_ref, List.length_replicate]
  have c1 : refG ⟨0, [], -1, 50⟩ (1 + mp) ((50 : Nat) : Int) false = 11 := by
    unfold refG
    rw [if_neg (fun k => k (ok_none (-1) 50 (by omega) (.inl rfl)).fault), if_neg (by omega), if_neg (fun k => k.1 rfl), if_neg (fun k => by cases k.1), if_pos (by simp only; omega)]
  rw [c1, if_pos (by decide)]
theorem end5 : putG ⟨0, [], -1, 50⟩ (-1) [] false = (gz, 6) := by
  rw [putG_ref]
  have c1 : refG ⟨0, [], -1, 50⟩ (-1) ([] : List Int).length false = 6 := by
    unfold refG
    rw [if_neg (fun k => k (ok_none (-1) 50 (by omega) (.inl rfl)).fault), if_pos (.inl (by decide))]
  rw [c1, if_pos (by decide)]
structure End4 (w0 : World) (en : Nat) (a1 pm : Int) (A : Option Addr) (n c : Nat) (V0 V1 V2 V3 V4 V5 V6 V11 V14 : Value) (b0 b1 b2 b3 b4 b5 b6 b7 b8 b9 b10 b11 b12 b13 b14 : Bool) (x0 x1 x2 x3 x4 x5 x6 x7 x8 x9 x10 x11 x12 x13 x14 : Value) (w : World) : Prop where
  be : Below w0.heap.size w0 w
  d3 : b3 = true → b2 = true
  d4 : b4 = true → b1 = true ∧ b3 = true
  d6 : b6 = true → b5 = true
  d7 : b7 = true → b6 = true
  d8 : b8 = true → b0 = true ∧ b4 = true ∧ b7 = true
  d9 : b9 = true → b8 = true
  d10 : b10 = true → b9 = true
  d11 : b11 = true → b9 = true
  d13 : b13 = true → b0 = true ∧ b1 = true ∧ b2 = true ∧ b3 = true ∧ b4 = true ∧ b5 = true ∧ b6 = true ∧ b7 = true ∧ b8 = true ∧ b9 = true ∧ b10 = true ∧ b12 = true
  d14 : b14 = true → b0 = true ∧ b1 = true ∧ b2 = true ∧ b3 = true ∧ b4 = true ∧ b5 = true ∧ b6 = true ∧ b7 = true ∧ b8 = true ∧ b9 = true ∧ b10 = true ∧ b11 = true ∧ b12 = true ∧ b13 = true
  t5 : b8 = true → ∃ u, x8 = .tuple #[u, .int .i64 12]
  t6 : b9 = true → ∃ u, x9 = .tuple #[u, .int .i64 12]
  h0 : b0 = true → x0 = V0
  h1 : b1 = true → x1 = V1
  h2 : b2 = true → x2 = V2
  h3 : b3 = true → x3 = V3
  h4 : b4 = true → x4 = V4
  h5 : b5 = true → x5 = V5
  h6 : b6 = true → x6 = V6
  h7 : b7 = true → b13 = false → BSl w w.heap.size x7 (List.replicate (en + 1) 0)
  h8 : b8 = true → b13 = false → ∃ u, x8 = .tuple #[u, .int .i64 12] ∧ GaFS w (SX w0 b12 x12) u gz
  h9 : b9 = true → b13 = false → ∃ u, x9 = .tuple #[u, .int .i64 12] ∧ GaFS w (SX w0 b12 x12) u gz
  h10 : b10 = true → b13 = false → GaFS w (SX w0 b12 x12) x10 gz
  h11 : b11 = true → x11 = V11
  h12 : b12 = true → b13 = false → ∃ k, x12 = .pointer (some ⟨k, 0, none⟩) ∧ w0.heap.size ≤ k ∧ w.heap[k]? = some (.cells #[.int .i64 0, .slice none 0 0, .int .i64 0, .int .i64 0] 24 (0, 0))
  h13 : b13 = true → ∃ k A n c, x12 = .pointer (some ⟨k, 0, none⟩) ∧ NewV w0 k gz A n c w
  h14 : b14 = true → x14 = V14
structure End8 (w0 : World) (a1 mp : Int) (A2 : Option Addr) (n2 c2 : Nat) (V0 V1 V2 V3 V8 V11 : Value) (fb0 fb1 fb2 fb3 fb4 fb5 fb6 fb7 fb8 fb9 fb10 fb11 : Bool) (fx0 fx1 fx2 fx3 fx4 fx5 fx6 fx7 fx8 fx9 fx10 fx11 : Value) (w : World) : Prop where
  be : Below w0.heap.size w0 w
  d2 : fb2 = true → fb1 = true
  d3 : fb3 = true → fb2 = true
  d5 : fb5 = true → fb0 = true ∧ fb2 = true ∧ fb3 = true ∧ fb4 = true
  d6 : fb6 = true → fb5 = true
  d7 : fb7 = true → fb6 = true
  d8 : fb8 = true → fb6 = true
  d10 : fb10 = true → fb0 = true ∧ fb1 = true ∧ fb2 = true ∧ fb3 = true ∧ fb4 = true ∧ fb5 = true ∧ fb6 = true ∧ fb7 = true ∧ fb9 = true
  d11 : fb11 = true → fb0 = true ∧ fb1 = true ∧ fb2 = true ∧ fb3 = true ∧ fb4 = true ∧ fb5 = true ∧ fb6 = true ∧ fb7 = true ∧ fb8 = true ∧ fb9 = true ∧ fb10 = true
  t5 : fb5 = true → ∃ u, fx5 = .tuple #[u, .int .i64 11]
  t6 : fb6 = true → ∃ u, fx6 = .tuple #[u, .int .i64 11]
  h0 : fb0 = true → fx0 = V0
  h1 : fb1 = true → fx1 = V1
  h2 : fb2 = true → fx2 = V2
  h3 : fb3 = true → fx3 = V3
  h4 : fb4 = true → fb10 = false → BSl w w.heap.size fx4 (List.replicate 50 0)
  h5 : fb5 = true → fb10 = false → ∃ u, fx5 = .tuple #[u, .int .i64 11] ∧ GaFS w (SX w0 fb9 fx9) u gz
  h6 : fb6 = true → fb10 = false → ∃ u, fx6 = .tuple #[u, .int .i64 11] ∧ GaFS w (SX w0 fb9 fx9) u gz
  h7 : fb7 = true → fb10 = false → GaFS w (SX w0 fb9 fx9) fx7 gz
  h8 : fb8 = true → fx8 = V8
  h9 : fb9 = true → fb10 = false → ∃ k, fx9 = .pointer (some ⟨k, 0, none⟩) ∧ w0.heap.size ≤ k ∧ w.heap[k]? = some (.cells #[.int .i64 0, .slice none 0 0, .int .i64 0, .int .i64 0] 24 (0, 0))
  h10 : fb10 = true → ∃ k A n c, fx9 = .pointer (some ⟨k, 0, none⟩) ∧ NewV w0 k gz A n c w
  h11 : fb11 = true → fx11 = V11
set_option maxRecDepth 100000 in
set_option maxHeartbeats 4000000 in
theorem gatherEnd_walk (a0 a1 a2 : Int) (w0 : World) :
    Calls Try.prog 9 #[.int .i64 a0, .int .i64 a1, .int .i64 a2] w0 fun e w' => e = .returned (.bool true) ∧ Below w0.heap.size w0 w' := by
  have H100 := Lib.hid (fun w => gaBegin_F 100 w (by omega))
  rw [show begG 100 = (⟨0, [], -1, 100⟩, 0) by kernel_rfl] at H100
  have H50 := Lib.hid (fun w => gaBegin_F 50 w (by omega))
  rw [show begG 50 = (⟨0, [], -1, 50⟩, 0) by kernel_rfl] at H50
  have e0 : 0 ≤ a0 % 100 := Int.emod_nonneg _ (by decide)
  have e1 : a0 % 100 < 100 := Int.emod_lt_of_pos _ (by decide)
  obtain ⟨en, hen⟩ : ∃ en : Nat, a0 % 100 = (en : Int) := ⟨(a0 % 100).toNat, by omega⟩
  have hen2 : en < 100 := by omega
  have hpe := fun w => picked_any a0 100 (by omega) (by omega) w
  rw [hen] at hpe
  have HPE := Lib.hid hpe
  have p0 : 0 ≤ a1 % ((en : Int) + 1) := Int.emod_nonneg _ (by omega)
  have p1 : a1 % ((en : Int) + 1) < (en : Int) + 1 := Int.emod_lt_of_pos _ (by omega)
  obtain ⟨pm, hpm⟩ : ∃ pm, a1 % ((en : Int) + 1) = pm := ⟨_, rfl⟩
  have hpp := fun w => picked_any a1 ((en : Int) + 1) (by omega) (by omega) w
  rw [hpm] at hpp p0 p1
  have HPM := Lib.hid hpp
  have o0 : 0 ≤ a2 % 100 := Int.emod_nonneg _ (by decide)
  have o1 : a2 % 100 < 100 := Int.emod_lt_of_pos _ (by decide)
  obtain ⟨po, hpo⟩ : ∃ po, a2 % 100 = po := ⟨_, rfl⟩
  have hpq := fun w => picked_any a2 100 (by omega) (by omega) w
  rw [hpo] at hpq o0 o1
  have HPO := Lib.hid hpq
  have n0 : 0 ≤ a1 % 50 := Int.emod_nonneg _ (by decide)
  have n1 : a1 % 50 < 50 := Int.emod_lt_of_pos _ (by decide)
  obtain ⟨mp, hmp⟩ : ∃ mp, a1 % 50 = mp := ⟨_, rfl⟩
  have hpn := fun w => picked_any a1 50 (by omega) (by omega) w
  rw [hmp] at hpn n0 n1
  have HPN := Lib.hid hpn
  have S0 := ok_none (-1) 100 (by omega) (.inl rfl)
  have S1 := ok_none (en : Int) 100 (by omega) (.inr (by omega))
  have S2 := ok_none (-1) 50 (by omega) (.inl rfl)
  have hq1 := fun v v2 w hv hd => gaPut_F v v2 ⟨0, [], -1, 100⟩ (en : Int) [] true w hv S0.wf S0.len hd (by simp [sumP]) (by omega)
  rw [end1 en hen2] at hq1
  have HP1 := Lib.hid hq1
  have hq2 := fun v v2 w hv hd => gaPut_F v v2 ⟨0, [], (en : Int), 100⟩ pm (List.replicate (en + 1) 0) false w hv S1.wf S1.len hd (by simp [sumP]; omega) (by omega)
  rw [end2 en pm hen2 (by omega)] at hq2
  have HP2 := Lib.hid hq2
  have hq3 := fun v v2 w hv hd => gaPut_F v v2 ⟨0, [], (en : Int), 100⟩ po [] true w hv S1.wf S1.len hd (by simp [sumP]) (by omega)
  have hx3 := end3 en po hen2 (by omega)
  obtain ⟨⟨r3, x3e⟩, hr3⟩ : ∃ q, putG ⟨0, [], (en : Int), 100⟩ po [] true = q := ⟨_, rfl⟩
  rw [hr3] at hq3 hx3
  have HP3 := Lib.hid hq3
  have HX3 := Lib.hid (show (x3e = 12 ∧ po ≠ en) ∨ (x3e = 0 ∧ po = en) from by
    simp only at hx3
    by_cases q : po = en
    · rw [if_neg (fun k => k q)] at hx3; exact .inr ⟨hx3, q⟩
    · rw [if_pos q] at hx3; exact .inl ⟨hx3, q⟩)
  have hq4 := fun v v2 w hv hd => gaPut_F v v2 ⟨0, [], -1, 50⟩ (1 + mp) (List.replicate 50 0) false w hv S2.wf S2.len hd (by simp [sumP]) (by omega)
  rw [end4 mp (by omega)] at hq4
  have HP4 := Lib.hid hq4
  have hq5 := fun v v2 w hv hd => gaPut_F v v2 ⟨0, [], -1, 50⟩ (-1) [] false w hv S2.wf S2.len hd (by simp [sumP]) (by omega)
  rw [end5] at hq5
  have HP5 := Lib.hid hq5
  have HMK1 := Lib.hid (fun w => make_eq (en + 1) ((en : Int) + 1) (by omega) (by omega) w)
  have HMK2 := Lib.hid (fun w => make_eq 50 50 (by omega) (by omega) w)
  clear hq1 hq2 hq3 hq4 hq5 S0 S1 S2 hpn hpq hpp hpe hen hpm hpo hmp hr3 hx3 e0 e1
  go_enter Try.func9, Try.ntmps9
  go_wp2_with fail
  refine (HPE.out _).mono ?_
  rintro e w' ⟨rfl, rfl⟩
  go_wp2_with fail
  refine (H100.out _).mono ?_
  rintro e w1 ⟨b1, u1, rfl, hu1⟩
  obtain ⟨A0, n0', c0, rfl, p2⟩ := hu1.slice
  have B1 := Lib.hid (b1.alloc b1.size (.cells #[.int .i64 0, .slice A0 n0' c0, .int .i64 (-1), .int .i64 100] 24))
  have V1 := Lib.hid (GW.new (g := ⟨0, [], -1, 100⟩) p2.toS)
  have hVw : w0.heap.size ≤ w1.heap.size := b1.size
  clear b1 hu1 p2
  obtain ⟨V, hV⟩ : ∃ V, w1.heap.size = V := ⟨_, rfl⟩
  obtain ⟨W1, hW1⟩ : ∃ W, w1.alloc (.cells #[.int .i64 0, .slice A0 n0' c0, .int .i64 (-1), .int .i64 100] 24) = W := ⟨_, rfl⟩
  rw [hV] at V1 hVw
  rw [hW1] at B1 V1
  obtain ⟨v0, v1, v2, v3⟩ := bkG V1.out.blk
  go_wp2_with fail
  try rw [hW1]
  clear hW1 hV
  refine (HP1.out _ _ _ V1.out.val (BSl.nil _ _)).mono ?_
  rintro e w2 ⟨b2, u2, rfl, hu2⟩
  obtain ⟨A, n, c, rfl, p2⟩ := hu2.slice
  have B2 := Lib.hid (B1.out.trans (b2.mono B1.out.size))
  have V2 := Lib.hid (V1.out.below b2)
  obtain ⟨gp1, gp2⟩ := GW.put (b := V) (g := ⟨0, [], (en : Int), 100⟩) V2.out.blk p2.toS (by have := lt_of_block V1.out.blk; exact this)
  have VX := Lib.hid gp1
  have BX := Lib.hid (gr_from B2.out B2.out.size hVw gp2)
  clear b2 hu2 p2 gp1 gp2 v0 v1 v2 v3 V1
  obtain ⟨v0, v1, v2, v3⟩ := bkG V2.out.blk
  have vf := fun i => bk_frz V2.out.blk i
  simp only at VX BX
  obtain ⟨X, hX⟩ : ∃ W, (((w2.setCell ⟨V, 0, none⟩ (.int .i64 0)).setCell ⟨V, 1, none⟩ (.slice A n c)).setCell ⟨V, 2, none⟩ (.int .i64 (en : Int))).setCell ⟨V, 3, none⟩ (.int .i64 100) = W := ⟨_, rfl⟩
  rw [hX] at VX BX
  go_wp2_with fail
  try rw [hX]
  clear hX v0 v1 v2 v3 vf V2 B2
  have hVX := lt_of_block VX.out.blk
  refine wp_region_inv (fun listed a w => ∃ (b0 b1 b2 b3 b4 b5 b6 b7 b8 b9 b10 b11 b12 b13 b14 : Bool) (x0 x1 x2 x3 x4 x5 x6 x7 x8 x9 x10 x11 x12 x13 x14 : Value), listed = #[b0, b1, b2, b3, b4, b5, b6, b7, b8, b9, b10, b11, b12, b13, b14] ∧ a = { tmps := #[Value.int IntKind.i64 a0, Value.int IntKind.i64 a1, Value.int IntKind.i64 a2, undef, undef, undef, Value.bool false, Value.int IntKind.i64 ↑en, Value.pointer (some { block := V, off := 0 }), Value.int IntKind.i64 0, Value.int IntKind.i64 0, x12, x14, undef, undef, undef, undef, undef, undef, undef, undef, undef, Value.int IntKind.i64 a0, Value.int IntKind.i64 ↑en, Value.tuple #[Value.agg #[Value.int IntKind.i64 0, Value.slice A0 n0' c0, Value.int IntKind.i64 (-1), Value.int IntKind.i64 100], Value.int IntKind.i64 0], Value.tuple #[Value.agg #[Value.int IntKind.i64 0, Value.slice A0 n0' c0, Value.int IntKind.i64 (-1), Value.int IntKind.i64 100], Value.int IntKind.i64 0], Value.agg #[Value.int IntKind.i64 0, Value.slice A0 n0' c0, Value.int IntKind.i64 (-1), Value.int IntKind.i64 100], Value.int IntKind.i64 0, Value.tuple #[Value.agg #[Value.int IntKind.i64 0, Value.slice A n c, Value.int IntKind.i64 ↑en, Value.int IntKind.i64 100], Value.int IntKind.i64 0], Value.agg #[Value.int IntKind.i64 0, Value.slice A0 n0' c0, Value.int IntKind.i64 (-1), Value.int IntKind.i64 100], Value.int IntKind.i64 ↑en, Value.tuple #[Value.agg #[Value.int IntKind.i64 0, Value.slice A n c, Value.int IntKind.i64 ↑en, Value.int IntKind.i64 100], Value.int IntKind.i64 0], Value.agg #[Value.int IntKind.i64 0, Value.slice A n c, Value.int IntKind.i64 ↑en, Value.int IntKind.i64 100], Value.int IntKind.i64 0, x9, x0, x1, x2, x3, x4, x5, x6, x7, x8, x10, x11, undef, undef, undef, undef, undef, undef, undef, undef, undef, undef, undef, undef, undef, undef, undef, undef, undef, undef, undef, undef, undef, undef, undef, undef, undef, undef, undef, undef, undef, undef, undef, undef, undef, undef, undef, undef, undef, undef, undef, undef, undef, undef, undef, undef, undef, undef, undef, undef, undef, undef, undef, undef, undef, undef, undef, undef, undef, undef, undef], defers := [] } ∧ End4 X en a1 pm A n c (.agg #[.int .i64 0, .slice A n c, .int .i64 (en : Int), .int .i64 100]) (.int .i64 a1) (.int .i64 (en : Int)) (.int .i64 ((en : Int) + 1)) (.int .i64 pm) (.int .i64 (en : Int)) (.int .i64 ((en : Int) + 1)) (.int .i64 12) (.int .i64 12) b0 b1 b2 b3 b4 b5 b6 b7 b8 b9 b10 b11 b12 b13 b14 x0 x1 x2 x3 x4 x5 x6 x7 x8 x9 x10 x11 x12 x13 x14 w) (by kernel_rfl) ?h0 ?hfin ?hI
  case h0 => exact ⟨_, _, _, _, _, _, _, _, _, _, _, _, _, _, _, _, _, _, _, _, _, _, _, _, _, _, _, _, undef, _, rfl, rfl, ⟨(Below.refl _ _).drew, (fun h => by cases h), (fun h => by cases h), (fun h => by cases h), (fun h => by cases h), (fun h => by cases h), (fun h => by cases h), (fun h => by cases h), (fun h => by cases h), (fun h => by cases h), (fun h => by cases h), (fun h => by cases h), (fun h => by cases h), (fun h => by cases h), (fun h => by cases h), (fun h => by cases h), (fun h => by cases h), (fun h => by cases h), (fun h => by cases h), (fun h => by cases h), (fun h => by cases h), (fun h => by cases h), (fun h => by cases h), (fun h => by cases h), (fun h => by cases h), (fun h => by cases h), (fun h => by cases h), (fun h => by cases h)⟩⟩
  case hI =>
    rintro listed a w ⟨b0, b1, b2, b3, b4, b5, b6, b7, b8, b9, b10, b11, b12, b13, b14, x0, x1, x2, x3, x4, x5, x6, x7, x8, x9, x10, x11, x12, x13, x14, rfl, rfl, H⟩ i hi
    obtain ⟨hun, oj, hoj, hall⟩ := mem_ready.1 hi
    clear hi
    rcases i with _ | _ | _ | _ | _ | _ | _ | _ | _ | _ | _ | _ | _ | _ | _ | i
    · have ho := hoj
      simp only [List.getElem?_toArray, List.getElem?_cons_succ, List.getElem?_cons_zero, Option.some.injEq] at hoj
      subst hoj
      obtain rfl : b0 = false := hun
      clear hall
      obtain rfl : b8 = false := Bool.eq_false_iff.2 fun h => Bool.false_ne_true (H.d8 h).1
      obtain rfl : b9 = false := Bool.eq_false_iff.2 fun h => Bool.false_ne_true (H.d9 h)
      obtain rfl : b10 = false := Bool.eq_false_iff.2 fun h => Bool.false_ne_true (H.d10 h)
      obtain rfl : b11 = false := Bool.eq_false_iff.2 fun h => Bool.false_ne_true (H.d11 h)
      obtain rfl : b13 = false := Bool.eq_false_iff.2 fun h => Bool.false_ne_true (H.d13 h).1
      obtain rfl : b14 = false := Bool.eq_false_iff.2 fun h => Bool.false_ne_true (H.d14 h).1
      have hbe := H.be
      have hx_t5 := H.t5
      have hx_t6 := H.t6
      obtain ⟨q0, q1, q2, q3⟩ := bkG ((hbe.block _ hVX).trans VX.out.blk)
      refine wpOp_step ho (fun K' hK => ?_)
      have HK := Lib.hid hK
      clear hK ho
      go_simp
      exact HK.out _ _ ⟨_, _, _, _, _, _, _, _, _, _, _, _, _, _, _, _, _, _, _, _, _, _, _, _, _, _, _, _, x13, _, rfl, rfl, ⟨hbe, H.d3, H.d4, H.d6, H.d7, (fun h => by cases h), H.d9, H.d10, H.d11, (fun h => by cases h), (fun h => by cases h), H.t5, H.t6, (fun _ => rfl), H.h1, H.h2, H.h3, H.h4, H.h5, H.h6, H.h7, (fun h => by cases h), (fun h => by cases h), (fun h => by cases h), H.h11, H.h12, (fun h => by cases h), H.h14⟩⟩
    · have ho := hoj
      simp only [List.getElem?_toArray, List.getElem?_cons_succ, List.getElem?_cons_zero, Option.some.injEq] at hoj
      subst hoj
      obtain rfl : b1 = false := hun
      clear hall
      obtain rfl : b4 = false := Bool.eq_false_iff.2 fun h => Bool.false_ne_true (H.d4 h).1
      obtain rfl : b8 = false := Bool.eq_false_iff.2 fun h => Bool.false_ne_true (H.d8 h).2.1
      obtain rfl : b9 = false := Bool.eq_false_iff.2 fun h => Bool.false_ne_true (H.d9 h)
      obtain rfl : b10 = false := Bool.eq_false_iff.2 fun h => Bool.false_ne_true (H.d10 h)
      obtain rfl : b11 = false := Bool.eq_false_iff.2 fun h => Bool.false_ne_true (H.d11 h)
      obtain rfl : b13 = false := Bool.eq_false_iff.2 fun h => Bool.false_ne_true (H.d13 h).2.1
      obtain rfl : b14 = false := Bool.eq_false_iff.2 fun h => Bool.false_ne_true (H.d14 h).2.1
      have hbe := H.be
      have hx_t5 := H.t5
      have hx_t6 := H.t6
      refine wpOp_step ho (fun K' hK => ?_)
      have HK := Lib.hid hK
      clear hK ho
      go_simp
      exact HK.out _ _ ⟨_, _, _, _, _, _, _, _, _, _, _, _, _, _, _, _, _, _, _, _, _, _, _, _, _, _, _, _, x13, _, rfl, rfl, ⟨hbe, H.d3, (fun h => by cases h), H.d6, H.d7, H.d8, H.d9, H.d10, H.d11, (fun h => by cases h), (fun h => by cases h), H.t5, H.t6, H.h0, (fun _ => rfl), H.h2, H.h3, H.h4, H.h5, H.h6, H.h7, (fun h => by cases h), (fun h => by cases h), (fun h => by cases h), H.h11, H.h12, (fun h => by cases h), H.h14⟩⟩
    · have ho := hoj
      simp only [List.getElem?_toArray, List.getElem?_cons_succ, List.getElem?_cons_zero, Option.some.injEq] at hoj
      subst hoj
      obtain rfl : b2 = false := hun
      clear hall
      obtain rfl : b3 = false := Bool.eq_false_iff.2 fun h => Bool.false_ne_true (H.d3 h)
      obtain rfl : b4 = false := Bool.eq_false_iff.2 fun h => Bool.false_ne_true (H.d4 h).2
      obtain rfl : b8 = false := Bool.eq_false_iff.2 fun h => Bool.false_ne_true (H.d8 h).2.1
      obtain rfl : b9 = false := Bool.eq_false_iff.2 fun h => Bool.false_ne_true (H.d9 h)
      obtain rfl : b10 = false := Bool.eq_false_iff.2 fun h => Bool.false_ne_true (H.d10 h)
      obtain rfl : b11 = false := Bool.eq_false_iff.2 fun h => Bool.false_ne_true (H.d11 h)
      obtain rfl : b13 = false := Bool.eq_false_iff.2 fun h => Bool.false_ne_true (H.d13 h).2.2.1
      obtain rfl : b14 = false := Bool.eq_false_iff.2 fun h => Bool.false_ne_true (H.d14 h).2.2.1
      have hbe := H.be
      have hx_t5 := H.t5
      have hx_t6 := H.t6
      refine wpOp_step ho (fun K' hK => ?_)
      have HK := Lib.hid hK
      clear hK ho
      go_simp
      exact HK.out _ _ ⟨_, _, _, _, _, _, _, _, _, _, _, _, _, _, _, _, _, _, _, _, _, _, _, _, _, _, _, _, x13, _, rfl, rfl, ⟨hbe, (fun h => by cases h), H.d4, H.d6, H.d7, H.d8, H.d9, H.d10, H.d11, (fun h => by cases h), (fun h => by cases h), H.t5, H.t6, H.h0, H.h1, (fun _ => rfl), H.h3, H.h4, H.h5, H.h6, H.h7, (fun h => by cases h), (fun h => by cases h), (fun h => by cases h), H.h11, H.h12, (fun h => by cases h), H.h14⟩⟩
    · have ho := hoj
      simp only [List.getElem?_toArray, List.getElem?_cons_succ, List.getElem?_cons_zero, Option.some.injEq] at hoj
      subst hoj
      obtain rfl : b3 = false := hun
      obtain rfl : b2 = true := hall ⟨2, .data⟩ (by simp) (by kernel_rfl)
      clear hall
      obtain rfl : b4 = false := Bool.eq_false_iff.2 fun h => Bool.false_ne_true (H.d4 h).2
      obtain rfl : b8 = false := Bool.eq_false_iff.2 fun h => Bool.false_ne_true (H.d8 h).2.1
      obtain rfl : b9 = false := Bool.eq_false_iff.2 fun h => Bool.false_ne_true (H.d9 h)
      obtain rfl : b10 = false := Bool.eq_false_iff.2 fun h => Bool.false_ne_true (H.d10 h)
      obtain rfl : b11 = false := Bool.eq_false_iff.2 fun h => Bool.false_ne_true (H.d11 h)
      obtain rfl : b13 = false := Bool.eq_false_iff.2 fun h => Bool.false_ne_true (H.d13 h).2.2.2.1
      obtain rfl : b14 = false := Bool.eq_false_iff.2 fun h => Bool.false_ne_true (H.d14 h).2.2.2.1
      have hbe := H.be
      have hx_t5 := H.t5
      have hx_t6 := H.t6
      obtain rfl := H.h2 rfl
      have hwm : IntKind.i64.wrap ((en : Int) + 1) = (en : Int) + 1 := by rw [IntKind.wrap_i64]; omega
      refine wpOp_step ho (fun K' hK => ?_)
      have HK := Lib.hid hK
      clear hK ho
      go_simp
      exact HK.out _ _ ⟨_, _, _, _, _, _, _, _, _, _, _, _, _, _, _, _, _, _, _, _, _, _, _, _, _, _, _, _, x13, _, rfl, rfl, ⟨hbe, (fun _ => rfl), (fun h => by cases h), H.d6, H.d7, H.d8, H.d9, H.d10, H.d11, (fun h => by cases h), (fun h => by cases h), H.t5, H.t6, H.h0, H.h1, H.h2, (fun _ => rfl), H.h4, H.h5, H.h6, H.h7, (fun h => by cases h), (fun h => by cases h), (fun h => by cases h), H.h11, H.h12, (fun h => by cases h), H.h14⟩⟩
    · have ho := hoj
      simp only [List.getElem?_toArray, List.getElem?_cons_succ, List.getElem?_cons_zero, Option.some.injEq] at hoj
      subst hoj
      obtain rfl : b4 = false := hun
      obtain rfl : b1 = true := hall ⟨1, .data⟩ (by simp) (by kernel_rfl)
      obtain rfl : b3 = true := hall ⟨3, .data⟩ (by simp) (by kernel_rfl)
      obtain rfl : b2 = true := (H.d3 rfl)
      clear hall
      obtain rfl : b8 = false := Bool.eq_false_iff.2 fun h => Bool.false_ne_true (H.d8 h).2.1
      obtain rfl : b9 = false := Bool.eq_false_iff.2 fun h => Bool.false_ne_true (H.d9 h)
      obtain rfl : b10 = false := Bool.eq_false_iff.2 fun h => Bool.false_ne_true (H.d10 h)
      obtain rfl : b11 = false := Bool.eq_false_iff.2 fun h => Bool.false_ne_true (H.d11 h)
      obtain rfl : b13 = false := Bool.eq_false_iff.2 fun h => Bool.false_ne_true (H.d13 h).2.2.2.2.1
      obtain rfl : b14 = false := Bool.eq_false_iff.2 fun h => Bool.false_ne_true (H.d14 h).2.2.2.2.1
      have hbe := H.be
      have hx_t5 := H.t5
      have hx_t6 := H.t6
      obtain rfl := H.h1 rfl
      obtain rfl := H.h2 rfl
      obtain rfl := H.h3 rfl
      refine wpOp_step ho (fun K' hK => ?_)
      have HK := Lib.hid hK
      clear hK ho
      go_wp2_with (go_at_call 24; refine (HPM.out _).mono ?_; rintro e w' ⟨rfl, rfl⟩)
      exact HK.out _ _ ⟨_, _, _, _, _, _, _, _, _, _, _, _, _, _, _, _, _, _, _, _, _, _, _, _, _, _, _, _, x13, _, rfl, rfl, ⟨hbe, H.d3, (fun _ => ⟨rfl, rfl⟩), H.d6, H.d7, (fun h => by cases h), H.d9, H.d10, H.d11, (fun h => by cases h), (fun h => by cases h), H.t5, H.t6, H.h0, H.h1, H.h2, H.h3, (fun _ => rfl), H.h5, H.h6, H.h7, (fun h => by cases h), (fun h => by cases h), (fun h => by cases h), H.h11, H.h12, (fun h => by cases h), H.h14⟩⟩
    · have ho := hoj
      simp only [List.getElem?_toArray, List.getElem?_cons_succ, List.getElem?_cons_zero, Option.some.injEq] at hoj
      subst hoj
      obtain rfl : b5 = false := hun
      clear hall
      obtain rfl : b6 = false := Bool.eq_false_iff.2 fun h => Bool.false_ne_true (H.d6 h)
      obtain rfl : b7 = false := Bool.eq_false_iff.2 fun h => Bool.false_ne_true (H.d7 h)
      obtain rfl : b8 = false := Bool.eq_false_iff.2 fun h => Bool.false_ne_true (H.d8 h).2.2
      obtain rfl : b9 = false := Bool.eq_false_iff.2 fun h => Bool.false_ne_true (H.d9 h)
      obtain rfl : b10 = false := Bool.eq_false_iff.2 fun h => Bool.false_ne_true (H.d10 h)
      obtain rfl : b11 = false := Bool.eq_false_iff.2 fun h => Bool.false_ne_true (H.d11 h)
      obtain rfl : b13 = false := Bool.eq_false_iff.2 fun h => Bool.false_ne_true (H.d13 h).2.2.2.2.2.1
      obtain rfl : b14 = false := Bool.eq_false_iff.2 fun h => Bool.false_ne_true (H.d14 h).2.2.2.2.2.1
      have hbe := H.be
      have hx_t5 := H.t5
      have hx_t6 := H.t6
      refine wpOp_step ho (fun K' hK => ?_)
      have HK := Lib.hid hK
      clear hK ho
      go_simp
      exact HK.out _ _ ⟨_, _, _, _, _, _, _, _, _, _, _, _, _, _, _, _, _, _, _, _, _, _, _, _, _, _, _, _, x13, _, rfl, rfl, ⟨hbe, H.d3, H.d4, (fun h => by cases h), H.d7, H.d8, H.d9, H.d10, H.d11, (fun h => by cases h), (fun h => by cases h), H.t5, H.t6, H.h0, H.h1, H.h2, H.h3, H.h4, (fun _ => rfl), H.h6, (fun h => by cases h), (fun h => by cases h), (fun h => by cases h), (fun h => by cases h), H.h11, H.h12, (fun h => by cases h), H.h14⟩⟩
    · have ho := hoj
      simp only [List.getElem?_toArray, List.getElem?_cons_succ, List.getElem?_cons_zero, Option.some.injEq] at hoj
      subst hoj
      obtain rfl : b6 = false := hun
      obtain rfl : b5 = true := hall ⟨5, .data⟩ (by simp) (by kernel_rfl)
      clear hall
      obtain rfl : b7 = false := Bool.eq_false_iff.2 fun h => Bool.false_ne_true (H.d7 h)
      obtain rfl : b8 = false := Bool.eq_false_iff.2 fun h => Bool.false_ne_true (H.d8 h).2.2
      obtain rfl : b9 = false := Bool.eq_false_iff.2 fun h => Bool.false_ne_true (H.d9 h)
      obtain rfl : b10 = false := Bool.eq_false_iff.2 fun h => Bool.false_ne_true (H.d10 h)
      obtain rfl : b11 = false := Bool.eq_false_iff.2 fun h => Bool.false_ne_true (H.d11 h)
      obtain rfl : b13 = false := Bool.eq_false_iff.2 fun h => Bool.false_ne_true (H.d13 h).2.2.2.2.2.2.1
      obtain rfl : b14 = false := Bool.eq_false_iff.2 fun h => Bool.false_ne_true (H.d14 h).2.2.2.2.2.2.1
      have hbe := H.be
      have hx_t5 := H.t5
      have hx_t6 := H.t6
      obtain rfl := H.h5 rfl
      have hwm : IntKind.i64.wrap ((en : Int) + 1) = (en : Int) + 1 := by rw [IntKind.wrap_i64]; omega
      refine wpOp_step ho (fun K' hK => ?_)
      have HK := Lib.hid hK
      clear hK ho
      go_simp
      exact HK.out _ _ ⟨_, _, _, _, _, _, _, _, _, _, _, _, _, _, _, _, _, _, _, _, _, _, _, _, _, _, _, _, x13, _, rfl, rfl, ⟨hbe, H.d3, H.d4, (fun _ => rfl), (fun h => by cases h), H.d8, H.d9, H.d10, H.d11, (fun h => by cases h), (fun h => by cases h), H.t5, H.t6, H.h0, H.h1, H.h2, H.h3, H.h4, H.h5, (fun _ => rfl), (fun h => by cases h), (fun h => by cases h), (fun h => by cases h), (fun h => by cases h), H.h11, H.h12, (fun h => by cases h), H.h14⟩⟩
    · have ho := hoj
      simp only [List.getElem?_toArray, List.getElem?_cons_succ, List.getElem?_cons_zero, Option.some.injEq] at hoj
      subst hoj
      obtain rfl : b7 = false := hun
      obtain rfl : b6 = true := hall ⟨6, .data⟩ (by simp) (by kernel_rfl)
      obtain rfl : b5 = true := (H.d6 rfl)
      clear hall
      obtain rfl : b8 = false := Bool.eq_false_iff.2 fun h => Bool.false_ne_true (H.d8 h).2.2
      obtain rfl : b9 = false := Bool.eq_false_iff.2 fun h => Bool.false_ne_true (H.d9 h)
      obtain rfl : b10 = false := Bool.eq_false_iff.2 fun h => Bool.false_ne_true (H.d10 h)
      obtain rfl : b11 = false := Bool.eq_false_iff.2 fun h => Bool.false_ne_true (H.d11 h)
      obtain rfl : b13 = false := Bool.eq_false_iff.2 fun h => Bool.false_ne_true (H.d13 h).2.2.2.2.2.2.2.1
      obtain rfl : b14 = false := Bool.eq_false_iff.2 fun h => Bool.false_ne_true (H.d14 h).2.2.2.2.2.2.2.1
      have hbe := H.be
      have hx_t5 := H.t5
      have hx_t6 := H.t6
      obtain rfl := H.h5 rfl
      obtain rfl := H.h6 rfl
      have BA := Lib.hid ((Below.refl w.heap.size w).alloc (Nat.le_refl _) (.cells (madeCells #[.int .u8 0] (en + 1)) 5))
      have NA := Lib.hid (zeros_at w (en + 1) (by omega))
      have hmk := HMK1.out w
      refine wpOp_step ho (fun K' hK => ?_)
      have HK := Lib.hid hK
      clear hK ho
      go_simp
      exact HK.out _ _ ⟨_, _, _, _, _, _, _, _, _, _, _, _, _, _, _, _, _, _, _, _, _, _, _, _, _, _, _, _, x13, _, rfl, rfl, ⟨hbe.trans (BA.out.mono hbe.size), H.d3, H.d4, H.d6, (fun _ => rfl), (fun h => by cases h), H.d9, H.d10, H.d11, (fun h => by cases h), (fun h => by cases h), hx_t5, hx_t6, H.h0, H.h1, H.h2, H.h3, H.h4, H.h5, H.h6, (fun _ _ => NA.out), (fun h => by cases h), (fun h => by cases h), (fun h => by cases h), H.h11, (fun e f => let ⟨k, e1, e2, e3⟩ := (H.h12 e f); ⟨k, e1, e2, (BA.out.block _ (lt_of_block e3)).trans e3⟩), (fun h => by cases h), H.h14⟩⟩
    · have ho := hoj
      simp only [List.getElem?_toArray, List.getElem?_cons_succ, List.getElem?_cons_zero, Option.some.injEq] at hoj
      subst hoj
      obtain rfl : b8 = false := hun
      obtain rfl : b0 = true := hall ⟨0, .data⟩ (by simp) (by kernel_rfl)
      obtain rfl : b4 = true := hall ⟨4, .data⟩ (by simp) (by kernel_rfl)
      obtain rfl : b7 = true := hall ⟨7, .data⟩ (by simp) (by kernel_rfl)
      obtain rfl : b1 = true := (H.d4 rfl).1
      obtain rfl : b3 = true := (H.d4 rfl).2
      obtain rfl : b6 = true := (H.d7 rfl)
      obtain rfl : b2 = true := (H.d3 rfl)
      obtain rfl : b5 = true := (H.d6 rfl)
      clear hall
      obtain rfl : b9 = false := Bool.eq_false_iff.2 fun h => Bool.false_ne_true (H.d9 h)
      obtain rfl : b10 = false := Bool.eq_false_iff.2 fun h => Bool.false_ne_true (H.d10 h)
      obtain rfl : b11 = false := Bool.eq_false_iff.2 fun h => Bool.false_ne_true (H.d11 h)
      obtain rfl : b13 = false := Bool.eq_false_iff.2 fun h => Bool.false_ne_true (H.d13 h).2.2.2.2.2.2.2.2.1
      obtain rfl : b14 = false := Bool.eq_false_iff.2 fun h => Bool.false_ne_true (H.d14 h).2.2.2.2.2.2.2.2.1
      have hbe := H.be
      have hx_t5 := H.t5
      have hx_t6 := H.t6
      obtain rfl := H.h0 rfl
      obtain rfl := H.h1 rfl
      obtain rfl := H.h2 rfl
      obtain rfl := H.h3 rfl
      obtain rfl := H.h4 rfl
      obtain rfl := H.h5 rfl
      obtain rfl := H.h6 rfl
      have P7 := H.h7 rfl rfl
      have P7' := Lib.hid P7
      clear P7
      refine wpOp_step ho (fun K' hK => ?_)
      have HK := Lib.hid hK
      clear hK ho
      go_wp2_with fail
      refine (HP2.out _ _ w ((VX.out.below hbe).val) P7'.out).mono ?_
      rintro e w1 ⟨bb1, u1, rfl, hu1⟩
      have BC := Lib.hid bb1
      have UC := Lib.hid (hu1.toX (w0 := X) hbe.size (fun hb => let ⟨k, e1, _, e3⟩ := H.h12 hb rfl; ⟨k, e1, lt_of_block e3⟩))
      clear bb1 hu1
      go_wp2_with fail
      exact HK.out _ _ ⟨_, _, _, _, _, _, _, _, _, _, _, _, _, _, _, _, _, _, _, _, _, _, _, _, _, _, _, _, x13, _, rfl, rfl, ⟨hbe.trans (BC.out.mono hbe.size), H.d3, H.d4, H.d6, H.d7, (fun _ => ⟨rfl, rfl, rfl⟩), (fun h => by cases h), H.d10, H.d11, (fun h => by cases h), (fun h => by cases h), fun _ => ⟨_, rfl⟩, hx_t6, H.h0, H.h1, H.h2, H.h3, H.h4, H.h5, H.h6, (fun e f => ((H.h7 e f).below BC.out).more BC.out.size), (fun _ _ => ⟨_, rfl, UC.out⟩), (fun h => by cases h), (fun h => by cases h), H.h11, (fun e f => let ⟨k, e1, e2, e3⟩ := (H.h12 e f); ⟨k, e1, e2, (BC.out.block _ (lt_of_block e3)).trans e3⟩), (fun h => by cases h), H.h14⟩⟩
    · have ho := hoj
      simp only [List.getElem?_toArray, List.getElem?_cons_succ, List.getElem?_cons_zero, Option.some.injEq] at hoj
      subst hoj
      obtain rfl : b9 = false := hun
      obtain rfl : b8 = true := hall ⟨8, .data⟩ (by simp) (by kernel_rfl)
      obtain rfl : b0 = true := (H.d8 rfl).1
      obtain rfl : b4 = true := (H.d8 rfl).2.1
      obtain rfl : b7 = true := (H.d8 rfl).2.2
      obtain rfl : b1 = true := (H.d4 rfl).1
      obtain rfl : b3 = true := (H.d4 rfl).2
      obtain rfl : b6 = true := (H.d7 rfl)
      obtain rfl : b2 = true := (H.d3 rfl)
      obtain rfl : b5 = true := (H.d6 rfl)
      clear hall
      obtain rfl : b10 = false := Bool.eq_false_iff.2 fun h => Bool.false_ne_true (H.d10 h)
      obtain rfl : b11 = false := Bool.eq_false_iff.2 fun h => Bool.false_ne_true (H.d11 h)
      obtain rfl : b13 = false := Bool.eq_false_iff.2 fun h => Bool.false_ne_true (H.d13 h).2.2.2.2.2.2.2.2.2.1
      obtain rfl : b14 = false := Bool.eq_false_iff.2 fun h => Bool.false_ne_true (H.d14 h).2.2.2.2.2.2.2.2.2.1
      have hbe := H.be
      have hx_t5 := H.t5
      have hx_t6 := H.t6
      obtain rfl := H.h0 rfl
      obtain rfl := H.h1 rfl
      obtain rfl := H.h2 rfl
      obtain rfl := H.h3 rfl
      obtain rfl := H.h4 rfl
      obtain rfl := H.h5 rfl
      obtain rfl := H.h6 rfl
      have P7 := H.h7 rfl rfl
      have P8 := H.h8 rfl rfl
      have PT := Lib.hid P8
      have TT := Lib.hid (H.t5 rfl)
      clear P8
      refine wpOp_step ho (fun K' hK => ?_)
      have HK := Lib.hid hK
      clear hK ho
      go_simp
      exact HK.out _ _ ⟨_, _, _, _, _, _, _, _, _, _, _, _, _, _, _, _, _, _, _, _, _, _, _, _, _, _, _, _, x13, _, rfl, rfl, ⟨hbe, H.d3, H.d4, H.d6, H.d7, H.d8, (fun _ => rfl), (fun h => by cases h), (fun h => by cases h), (fun h => by cases h), (fun h => by cases h), H.t5, fun _ => TT.out, H.h0, H.h1, H.h2, H.h3, H.h4, H.h5, H.h6, H.h7, H.h8, (fun _ _ => PT.out), (fun h => by cases h), H.h11, H.h12, (fun h => by cases h), H.h14⟩⟩
    · have ho := hoj
      simp only [List.getElem?_toArray, List.getElem?_cons_succ, List.getElem?_cons_zero, Option.some.injEq] at hoj
      subst hoj
      obtain rfl : b10 = false := hun
      obtain rfl : b9 = true := hall ⟨9, .data⟩ (by simp) (by kernel_rfl)
      obtain rfl : b8 = true := (H.d9 rfl)
      obtain rfl : b0 = true := (H.d8 rfl).1
      obtain rfl : b4 = true := (H.d8 rfl).2.1
      obtain rfl : b7 = true := (H.d8 rfl).2.2
      obtain rfl : b1 = true := (H.d4 rfl).1
      obtain rfl : b3 = true := (H.d4 rfl).2
      obtain rfl : b6 = true := (H.d7 rfl)
      obtain rfl : b2 = true := (H.d3 rfl)
      obtain rfl : b5 = true := (H.d6 rfl)
      clear hall
      obtain rfl : b13 = false := Bool.eq_false_iff.2 fun h => Bool.false_ne_true (H.d13 h).2.2.2.2.2.2.2.2.2.2.1
      obtain rfl : b14 = false := Bool.eq_false_iff.2 fun h => Bool.false_ne_true (H.d14 h).2.2.2.2.2.2.2.2.2.2.1
      have hbe := H.be
      have hx_t5 := H.t5
      have hx_t6 := H.t6
      obtain rfl := H.h0 rfl
      obtain rfl := H.h1 rfl
      obtain rfl := H.h2 rfl
      obtain rfl := H.h3 rfl
      obtain rfl := H.h4 rfl
      obtain rfl := H.h5 rfl
      obtain rfl := H.h6 rfl
      have P7 := H.h7 rfl rfl
      have P8 := H.h8 rfl rfl
      have P9 := H.h9 rfl rfl
      obtain ⟨u, rfl, hu⟩ := P9
      have HU := Lib.hid hu
      clear hu
      refine wpOp_step ho (fun K' hK => ?_)
      have HK := Lib.hid hK
      clear hK ho
      go_simp
      exact HK.out _ _ ⟨_, _, _, _, _, _, _, _, _, _, _, _, _, _, _, _, _, _, _, _, _, _, _, _, _, _, _, _, x13, _, rfl, rfl, ⟨hbe, H.d3, H.d4, H.d6, H.d7, H.d8, H.d9, (fun _ => rfl), H.d11, (fun h => by cases h), (fun h => by cases h), H.t5, H.t6, H.h0, H.h1, H.h2, H.h3, H.h4, H.h5, H.h6, H.h7, H.h8, H.h9, (fun _ _ => HU.out), H.h11, H.h12, (fun h => by cases h), H.h14⟩⟩
    · have ho := hoj
      simp only [List.getElem?_toArray, List.getElem?_cons_succ, List.getElem?_cons_zero, Option.some.injEq] at hoj
      subst hoj
      obtain rfl : b11 = false := hun
      obtain rfl : b9 = true := hall ⟨9, .data⟩ (by simp) (by kernel_rfl)
      obtain rfl : b8 = true := (H.d9 rfl)
      obtain rfl : b0 = true := (H.d8 rfl).1
      obtain rfl : b4 = true := (H.d8 rfl).2.1
      obtain rfl : b7 = true := (H.d8 rfl).2.2
      obtain rfl : b1 = true := (H.d4 rfl).1
      obtain rfl : b3 = true := (H.d4 rfl).2
      obtain rfl : b6 = true := (H.d7 rfl)
      obtain rfl : b2 = true := (H.d3 rfl)
      obtain rfl : b5 = true := (H.d6 rfl)
      clear hall
      obtain rfl : b14 = false := Bool.eq_false_iff.2 fun h => Bool.false_ne_true (H.d14 h).2.2.2.2.2.2.2.2.2.2.2.1
      have hbe := H.be
      have hx_t5 := H.t5
      have hx_t6 := H.t6
      obtain rfl := H.h0 rfl
      obtain rfl := H.h1 rfl
      obtain rfl := H.h2 rfl
      obtain rfl := H.h3 rfl
      obtain rfl := H.h4 rfl
      obtain rfl := H.h5 rfl
      obtain rfl := H.h6 rfl
      obtain ⟨u, rfl⟩ := H.t6 rfl
      refine wpOp_step ho (fun K' hK => ?_)
      have HK := Lib.hid hK
      clear hK ho
      go_simp
      exact HK.out _ _ ⟨_, _, _, _, _, _, _, _, _, _, _, _, _, _, _, _, _, _, _, _, _, _, _, _, _, _, _, _, x13, _, rfl, rfl, ⟨hbe, H.d3, H.d4, H.d6, H.d7, H.d8, H.d9, H.d10, (fun _ => rfl), H.d13, (fun h => by cases h), H.t5, H.t6, H.h0, H.h1, H.h2, H.h3, H.h4, H.h5, H.h6, H.h7, H.h8, H.h9, H.h10, (fun _ => rfl), H.h12, H.h13, H.h14⟩⟩
    · have ho := hoj
      simp only [List.getElem?_toArray, List.getElem?_cons_succ, List.getElem?_cons_zero, Option.some.injEq] at hoj
      subst hoj
      obtain rfl : b12 = false := hun
      clear hall
      obtain rfl : b13 = false := Bool.eq_false_iff.2 fun h => Bool.false_ne_true (H.d13 h).2.2.2.2.2.2.2.2.2.2.2
      obtain rfl : b14 = false := Bool.eq_false_iff.2 fun h => Bool.false_ne_true (H.d14 h).2.2.2.2.2.2.2.2.2.2.2.2.1
      have hbe := H.be
      have hx_t5 := H.t5
      have hx_t6 := H.t6
      have BA := Lib.hid ((Below.refl w.heap.size w).alloc (Nat.le_refl _) (.cells #[.int .i64 0, .slice none 0 0, .int .i64 0, .int .i64 0] 24))
      have NA := Lib.hid (heap_alloc_new w (.cells #[.int .i64 0, .slice none 0 0, .int .i64 0, .int .i64 0] 24))
      have hsz := hbe.size
      refine wpOp_step ho (fun K' hK => ?_)
      have HK := Lib.hid hK
      clear hK ho
      go_simp
      exact HK.out _ _ ⟨_, _, _, _, _, _, _, _, _, _, _, _, _, _, _, _, _, _, _, _, _, _, _, _, _, _, _, _, x13, _, rfl, rfl, ⟨hbe.trans (BA.out.mono hbe.size), H.d3, H.d4, H.d6, H.d7, H.d8, H.d9, H.d10, H.d11, (fun h => by cases h), (fun h => by cases h), hx_t5, hx_t6, H.h0, H.h1, H.h2, H.h3, H.h4, H.h5, H.h6, (fun e f => ((H.h7 e f).below BA.out).more BA.out.size), (fun e f => let ⟨u, e1, e2⟩ := (H.h8 e f); ⟨u, e1, e2.made BA.out⟩), (fun e f => let ⟨u, e1, e2⟩ := (H.h9 e f); ⟨u, e1, e2.made BA.out⟩), (fun e f => (H.h10 e f).made BA.out), H.h11, (fun _ _ => ⟨_, rfl, hsz, NA.out⟩), (fun h => by cases h), H.h14⟩⟩
    · have ho := hoj
      simp only [List.getElem?_toArray, List.getElem?_cons_succ, List.getElem?_cons_zero, Option.some.injEq] at hoj
      subst hoj
      obtain rfl : b13 = false := hun
      obtain rfl : b0 = true := hall ⟨0, .phase⟩ (by simp) (by kernel_rfl)
      obtain rfl : b1 = true := hall ⟨1, .phase⟩ (by simp) (by kernel_rfl)
      obtain rfl : b2 = true := hall ⟨2, .phase⟩ (by simp) (by kernel_rfl)
      obtain rfl : b3 = true := hall ⟨3, .phase⟩ (by simp) (by kernel_rfl)
      obtain rfl : b4 = true := hall ⟨4, .phase⟩ (by simp) (by kernel_rfl)
      obtain rfl : b5 = true := hall ⟨5, .phase⟩ (by simp) (by kernel_rfl)
      obtain rfl : b6 = true := hall ⟨6, .phase⟩ (by simp) (by kernel_rfl)
      obtain rfl : b7 = true := hall ⟨7, .phase⟩ (by simp) (by kernel_rfl)
      obtain rfl : b8 = true := hall ⟨8, .chain⟩ (by simp) (by kernel_rfl)
      obtain rfl : b9 = true := hall ⟨9, .phase⟩ (by simp) (by kernel_rfl)
      obtain rfl : b10 = true := hall ⟨10, .data⟩ (by simp) (by kernel_rfl)
      obtain rfl : b12 = true := hall ⟨12, .data⟩ (by simp) (by kernel_rfl)
      clear hall
      obtain rfl : b14 = false := Bool.eq_false_iff.2 fun h => Bool.false_ne_true (H.d14 h).2.2.2.2.2.2.2.2.2.2.2.2.2
      have hbe := H.be
      have hx_t5 := H.t5
      have hx_t6 := H.t6
      obtain rfl := H.h0 rfl
      obtain rfl := H.h1 rfl
      obtain rfl := H.h2 rfl
      obtain rfl := H.h3 rfl
      obtain rfl := H.h4 rfl
      obtain rfl := H.h5 rfl
      obtain rfl := H.h6 rfl
      have P7 := H.h7 rfl rfl
      have P8 := H.h8 rfl rfl
      have P9 := H.h9 rfl rfl
      have P10 := H.h10 rfl rfl
      have P12 := H.h12 rfl rfl
      obtain ⟨k, rfl, hk0, hk⟩ := P12
      obtain ⟨A1, n1, c1, rfl, hpf⟩ := P10.ex
      have NV := Lib.hid (NewV.mk' hk hk0 hpf)
      have BV := Lib.hid (newV_below hk hk0 hbe (.int .i64 gz.done) (.slice A1 n1 c1) (.int .i64 gz.final) (.int .i64 gz.window))
      obtain ⟨q0, q1, q2, q3⟩ := bkG hk
      have qf := fun i => bk_frz hk i
      clear hk hpf
      refine wpOp_step ho (fun K' hK => ?_)
      have HK := Lib.hid hK
      clear hK ho
      go_simp
      exact HK.out _ _ ⟨_, _, _, _, _, _, _, _, _, _, _, _, _, _, _, _, _, _, _, _, _, _, _, _, _, _, _, _, x13, _, rfl, rfl, ⟨BV.out, H.d3, H.d4, H.d6, H.d7, H.d8, H.d9, H.d10, H.d11, (fun _ => ⟨rfl, rfl, rfl, rfl, rfl, rfl, rfl, rfl, rfl, rfl, rfl, rfl⟩), (fun h => by cases h), H.t5, H.t6, H.h0, H.h1, H.h2, H.h3, H.h4, H.h5, H.h6, (fun _ h => by cases h), (fun _ h => by cases h), (fun _ h => by cases h), (fun _ h => by cases h), H.h11, (fun _ h => by cases h), (fun _ => ⟨_, _, _, _, rfl, NV.out⟩), H.h14⟩⟩
    · have ho := hoj
      simp only [List.getElem?_toArray, List.getElem?_cons_succ, List.getElem?_cons_zero, Option.some.injEq] at hoj
      subst hoj
      obtain rfl : b14 = false := hun
      obtain rfl : b0 = true := hall ⟨0, .phase⟩ (by simp) (by kernel_rfl)
      obtain rfl : b1 = true := hall ⟨1, .phase⟩ (by simp) (by kernel_rfl)
      obtain rfl : b2 = true := hall ⟨2, .phase⟩ (by simp) (by kernel_rfl)
      obtain rfl : b3 = true := hall ⟨3, .phase⟩ (by simp) (by kernel_rfl)
      obtain rfl : b4 = true := hall ⟨4, .phase⟩ (by simp) (by kernel_rfl)
      obtain rfl : b5 = true := hall ⟨5, .phase⟩ (by simp) (by kernel_rfl)
      obtain rfl : b6 = true := hall ⟨6, .phase⟩ (by simp) (by kernel_rfl)
      obtain rfl : b7 = true := hall ⟨7, .phase⟩ (by simp) (by kernel_rfl)
      obtain rfl : b8 = true := hall ⟨8, .phase⟩ (by simp) (by kernel_rfl)
      obtain rfl : b9 = true := hall ⟨9, .phase⟩ (by simp) (by kernel_rfl)
      obtain rfl : b10 = true := hall ⟨10, .phase⟩ (by simp) (by kernel_rfl)
      obtain rfl : b11 = true := hall ⟨11, .data⟩ (by simp) (by kernel_rfl)
      obtain rfl : b12 = true := hall ⟨12, .phase⟩ (by simp) (by kernel_rfl)
      obtain rfl : b13 = true := hall ⟨13, .chain⟩ (by simp) (by kernel_rfl)
      clear hall
      have hbe := H.be
      have hx_t5 := H.t5
      have hx_t6 := H.t6
      obtain rfl := H.h0 rfl
      obtain rfl := H.h1 rfl
      obtain rfl := H.h2 rfl
      obtain rfl := H.h3 rfl
      obtain rfl := H.h4 rfl
      obtain rfl := H.h5 rfl
      obtain rfl := H.h6 rfl
      obtain rfl := H.h11 rfl
      have P13 := H.h13 rfl
      refine wpOp_step ho (fun K' hK => ?_)
      have HK := Lib.hid hK
      clear hK ho
      go_simp
      exact HK.out _ _ ⟨_, _, _, _, _, _, _, _, _, _, _, _, _, _, _, _, _, _, _, _, _, _, _, _, _, _, _, _, x13, _, rfl, rfl, ⟨hbe, H.d3, H.d4, H.d6, H.d7, H.d8, H.d9, H.d10, H.d11, H.d13, (fun _ => ⟨rfl, rfl, rfl, rfl, rfl, rfl, rfl, rfl, rfl, rfl, rfl, rfl, rfl, rfl⟩), H.t5, H.t6, H.h0, H.h1, H.h2, H.h3, H.h4, H.h5, H.h6, (fun _ h => by cases h), (fun _ h => by cases h), (fun _ h => by cases h), (fun _ h => by cases h), H.h11, (fun _ h => by cases h), H.h13, (fun _ => rfl)⟩⟩
    · have ho := hoj
      simp at ho
  case hfin =>
    rintro listed a w ⟨b0, b1, b2, b3, b4, b5, b6, b7, b8, b9, b10, b11, b12, b13, b14, x0, x1, x2, x3, x4, x5, x6, x7, x8, x9, x10, x11, x12, x13, x14, rfl, rfl, H⟩ hr
    have hb : b14 = true := by
      clear H
      revert b0 b1 b2 b3 b4 b5 b6 b7 b8 b9 b10 b11 b12 b13 b14
      decide +kernel
    subst hb
    clear hr
    obtain rfl : b0 = true := (H.d14 rfl).1
    obtain rfl : b1 = true := (H.d14 rfl).2.1
    obtain rfl : b2 = true := (H.d14 rfl).2.2.1
    obtain rfl : b3 = true := (H.d14 rfl).2.2.2.1
    obtain rfl : b4 = true := (H.d14 rfl).2.2.2.2.1
    obtain rfl : b5 = true := (H.d14 rfl).2.2.2.2.2.1
    obtain rfl : b6 = true := (H.d14 rfl).2.2.2.2.2.2.1
    obtain rfl : b7 = true := (H.d14 rfl).2.2.2.2.2.2.2.1
    obtain rfl : b8 = true := (H.d14 rfl).2.2.2.2.2.2.2.2.1
    obtain rfl : b9 = true := (H.d14 rfl).2.2.2.2.2.2.2.2.2.1
    obtain rfl : b10 = true := (H.d14 rfl).2.2.2.2.2.2.2.2.2.2.1
    obtain rfl : b11 = true := (H.d14 rfl).2.2.2.2.2.2.2.2.2.2.2.1
    obtain rfl : b12 = true := (H.d14 rfl).2.2.2.2.2.2.2.2.2.2.2.2.1
    obtain rfl : b13 = true := (H.d14 rfl).2.2.2.2.2.2.2.2.2.2.2.2.2
    have he := H.h14 rfl
    obtain ⟨k1, A1, n1, c1, rfl, hnv⟩ := H.h13 rfl
    have hb := H.be
    subst he
    have NV := Lib.hid hnv
    have BW := Lib.hid (BX.out.trans (hb.mono BX.out.size))
    have VW := Lib.hid (VX.out.below hb)
    clear hnv H
    go_wp2_with fail
    refine (HPO.out _).mono ?_
    rintro e w' ⟨rfl, rfl⟩
    obtain ⟨v0, v1, v2, v3⟩ := bkG VW.out.blk
    go_wp2_with fail
    refine (HP3.out _ _ _ VW.out.val (BSl.nil _ _)).mono ?_
    rintro e w3 ⟨bb3, u3, rfl, hu3⟩
    obtain ⟨A3, n3, c3, rfl, p3⟩ := hu3.slice
    have B3 := Lib.hid ((BW.out.trans (bb3.mono BW.out.size)).alloc (BW.out.trans (bb3.mono BW.out.size)).size (.cells #[.int .i64 r3.done, .slice A3 n3 c3, .int .i64 r3.final, .int .i64 r3.window] 24))
    clear bb3 hu3 p3 v0 v1 v2 v3
    go_wp2_with fail
    refine (H50.out _).mono ?_
    rintro e w4 ⟨bb4, u4, rfl, hu4⟩
    obtain ⟨A2, n2, c2, rfl, p4⟩ := hu4.slice
    have B4 := Lib.hid (B3.out.trans (bb4.mono B3.out.size))
    have BX2 := Lib.hid (B4.out.alloc B4.out.size (.cells #[.int .i64 0, .slice A2 n2 c2, .int .i64 (-1), .int .i64 50] 24))
    have UX := Lib.hid (GW.new (g := ⟨0, [], -1, 50⟩) p4.toS)
    have hUw : w0.heap.size ≤ w4.heap.size := B4.out.size
    clear bb4 hu4 p4
    obtain ⟨U, hU⟩ : ∃ U, w4.heap.size = U := ⟨_, rfl⟩
    rw [hU] at UX hUw
    obtain ⟨X2, hX2⟩ : ∃ W, w4.alloc (.cells #[.int .i64 0, .slice A2 n2 c2, .int .i64 (-1), .int .i64 50] 24) = W := ⟨_, rfl⟩
    rw [hX2] at UX BX2
    clear VX BX NV VW BW
    go_wp2_with fail
    try rw [hX2]
    clear hX2 hU
    have hVX2 := lt_of_block UX.out.blk
    refine wp_region_inv (fun listed a w => ∃ (fb0 fb1 fb2 fb3 fb4 fb5 fb6 fb7 fb8 fb9 fb10 fb11 : Bool) (fx0 fx1 fx2 fx3 fx4 fx5 fx6 fx7 fx8 fx9 fx10 fx11 : Value), listed = #[fb0, fb1, fb2, fb3, fb4, fb5, fb6, fb7, fb8, fb9, fb10, fb11] ∧ a = { tmps := #[Value.int IntKind.i64 a0, Value.int IntKind.i64 a1, Value.int IntKind.i64 a2, undef, undef, undef, Value.bool false, Value.int IntKind.i64 ↑en, Value.pointer (some { block := V, off := 0 }), Value.int IntKind.i64 0, Value.int IntKind.i64 0, Value.pointer (some { block := k1, off := 0 }), Value.int IntKind.i64 12, Value.int IntKind.i64 po, Value.pointer (some { block := w3.heap.size, off := 0 }), Value.int IntKind.i64 x3e, Value.pointer (some { block := U, off := 0 }), Value.int IntKind.i64 0, fx9, fx11, undef, undef, Value.int IntKind.i64 a0, Value.int IntKind.i64 ↑en, Value.tuple #[Value.agg #[Value.int IntKind.i64 0, Value.slice A0 n0' c0, Value.int IntKind.i64 (-1), Value.int IntKind.i64 100], Value.int IntKind.i64 0], Value.tuple #[Value.agg #[Value.int IntKind.i64 0, Value.slice A0 n0' c0, Value.int IntKind.i64 (-1), Value.int IntKind.i64 100], Value.int IntKind.i64 0], Value.agg #[Value.int IntKind.i64 0, Value.slice A0 n0' c0, Value.int IntKind.i64 (-1), Value.int IntKind.i64 100], Value.int IntKind.i64 0, Value.tuple #[Value.agg #[Value.int IntKind.i64 0, Value.slice A n c, Value.int IntKind.i64 ↑en, Value.int IntKind.i64 100], Value.int IntKind.i64 0], Value.agg #[Value.int IntKind.i64 0, Value.slice A0 n0' c0, Value.int IntKind.i64 (-1), Value.int IntKind.i64 100], Value.int IntKind.i64 ↑en, Value.tuple #[Value.agg #[Value.int IntKind.i64 0, Value.slice A n c, Value.int IntKind.i64 ↑en, Value.int IntKind.i64 100], Value.int IntKind.i64 0], Value.agg #[Value.int IntKind.i64 0, Value.slice A n c, Value.int IntKind.i64 ↑en, Value.int IntKind.i64 100], Value.int IntKind.i64 0, x9, x0, x1, x2, x3, x4, x5, x6, x7, x8, x10, x11, Value.int IntKind.i64 a2, Value.int IntKind.i64 po, Value.tuple #[Value.agg #[Value.int IntKind.i64 r3.done, Value.slice A3 n3 c3, Value.int IntKind.i64 r3.final, Value.int IntKind.i64 r3.window], Value.int IntKind.i64 x3e], Value.agg #[Value.int IntKind.i64 0, Value.slice A n c, Value.int IntKind.i64 ↑en, Value.int IntKind.i64 100], Value.int IntKind.i64 po, Value.tuple #[Value.agg #[Value.int IntKind.i64 r3.done, Value.slice A3 n3 c3, Value.int IntKind.i64 r3.final, Value.int IntKind.i64 r3.window], Value.int IntKind.i64 x3e], Value.agg #[Value.int IntKind.i64 r3.done, Value.slice A3 n3 c3, Value.int IntKind.i64 r3.final, Value.int IntKind.i64 r3.window], Value.int IntKind.i64 x3e, Value.tuple #[Value.agg #[Value.int IntKind.i64 0, Value.slice A2 n2 c2, Value.int IntKind.i64 (-1), Value.int IntKind.i64 50], Value.int IntKind.i64 0], Value.tuple #[Value.agg #[Value.int IntKind.i64 0, Value.slice A2 n2 c2, Value.int IntKind.i64 (-1), Value.int IntKind.i64 50], Value.int IntKind.i64 0], Value.agg #[Value.int IntKind.i64 0, Value.slice A2 n2 c2, Value.int IntKind.i64 (-1), Value.int IntKind.i64 50], Value.int IntKind.i64 0, fx6, fx0, fx1, fx2, fx3, fx4, fx5, fx7, fx8, undef, undef, undef, undef, undef, undef, undef, undef, undef, undef, undef, undef, undef, undef, undef, undef, undef, undef, undef, undef, undef, undef, undef, undef, undef, undef, undef, undef, undef, undef, undef, undef, undef, undef, undef, undef, undef, undef], defers := [] } ∧ End8 X2 a1 mp A2 n2 c2 (.agg #[.int .i64 0, .slice A2 n2 c2, .int .i64 (-1), .int .i64 50]) (.int .i64 a1) (.int .i64 mp) (.int .i64 (1 + mp)) (.int .i64 11) (.int .i64 11) fb0 fb1 fb2 fb3 fb4 fb5 fb6 fb7 fb8 fb9 fb10 fb11 fx0 fx1 fx2 fx3 fx4 fx5 fx6 fx7 fx8 fx9 fx10 fx11 w) (by kernel_rfl) ?h0 ?hfin ?hI
    case h0 => exact ⟨_, _, _, _, _, _, _, _, _, _, _, _, _, _, _, _, _, _, _, _, _, _, undef, _, rfl, rfl, ⟨(Below.refl _ _).drew, (fun h => by cases h), (fun h => by cases h), (fun h => by cases h), (fun h => by cases h), (fun h => by cases h), (fun h => by cases h), (fun h => by cases h), (fun h => by cases h), (fun h => by cases h), (fun h => by cases h), (fun h => by cases h), (fun h => by cases h), (fun h => by cases h), (fun h => by cases h), (fun h => by cases h), (fun h => by cases h), (fun h => by cases h), (fun h => by cases h), (fun h => by cases h), (fun h => by cases h), (fun h => by cases h), (fun h => by cases h)⟩⟩
    case hI =>
      rintro listed a w ⟨fb0, fb1, fb2, fb3, fb4, fb5, fb6, fb7, fb8, fb9, fb10, fb11, fx0, fx1, fx2, fx3, fx4, fx5, fx6, fx7, fx8, fx9, fx10, fx11, rfl, rfl, H⟩ i hi
      obtain ⟨hun, oj, hoj, hall⟩ := mem_ready.1 hi
      clear hi
      rcases i with _ | _ | _ | _ | _ | _ | _ | _ | _ | _ | _ | _ | i
      · have ho := hoj
        simp only [List.getElem?_toArray, List.getElem?_cons_succ, List.getElem?_cons_zero, Option.some.injEq] at hoj
        subst hoj
        obtain rfl : fb0 = false := hun
        clear hall
        obtain rfl : fb5 = false := Bool.eq_false_iff.2 fun h => Bool.false_ne_true (H.d5 h).1
        obtain rfl : fb6 = false := Bool.eq_false_iff.2 fun h => Bool.false_ne_true (H.d6 h)
        obtain rfl : fb7 = false := Bool.eq_false_iff.2 fun h => Bool.false_ne_true (H.d7 h)
        obtain rfl : fb8 = false := Bool.eq_false_iff.2 fun h => Bool.false_ne_true (H.d8 h)
        obtain rfl : fb10 = false := Bool.eq_false_iff.2 fun h => Bool.false_ne_true (H.d10 h).1
        obtain rfl : fb11 = false := Bool.eq_false_iff.2 fun h => Bool.false_ne_true (H.d11 h).1
        have hbe := H.be
        have hx_t5 := H.t5
        have hx_t6 := H.t6
        obtain ⟨q0, q1, q2, q3⟩ := bkG ((hbe.block _ hVX2).trans UX.out.blk)
        refine wpOp_step ho (fun K' hK => ?_)
        have HK := Lib.hid hK
        clear hK ho
        go_simp
        exact HK.out _ _ ⟨_, _, _, _, _, _, _, _, _, _, _, _, _, _, _, _, _, _, _, _, _, _, fx10, _, rfl, rfl, ⟨hbe, H.d2, H.d3, (fun h => by cases h), H.d6, H.d7, H.d8, (fun h => by cases h), (fun h => by cases h), H.t5, H.t6, (fun _ => rfl), H.h1, H.h2, H.h3, H.h4, (fun h => by cases h), (fun h => by cases h), (fun h => by cases h), H.h8, H.h9, (fun h => by cases h), H.h11⟩⟩
      · have ho := hoj
        simp only [List.getElem?_toArray, List.getElem?_cons_succ, List.getElem?_cons_zero, Option.some.injEq] at hoj
        subst hoj
        obtain rfl : fb1 = false := hun
        clear hall
        obtain rfl : fb2 = false := Bool.eq_false_iff.2 fun h => Bool.false_ne_true (H.d2 h)
        obtain rfl : fb3 = false := Bool.eq_false_iff.2 fun h => Bool.false_ne_true (H.d3 h)
        obtain rfl : fb5 = false := Bool.eq_false_iff.2 fun h => Bool.false_ne_true (H.d5 h).2.1
        obtain rfl : fb6 = false := Bool.eq_false_iff.2 fun h => Bool.false_ne_true (H.d6 h)
        obtain rfl : fb7 = false := Bool.eq_false_iff.2 fun h => Bool.false_ne_true (H.d7 h)
        obtain rfl : fb8 = false := Bool.eq_false_iff.2 fun h => Bool.false_ne_true (H.d8 h)
        obtain rfl : fb10 = false := Bool.eq_false_iff.2 fun h => Bool.false_ne_true (H.d10 h).2.1
        obtain rfl : fb11 = false := Bool.eq_false_iff.2 fun h => Bool.false_ne_true (H.d11 h).2.1
        have hbe := H.be
        have hx_t5 := H.t5
        have hx_t6 := H.t6
        refine wpOp_step ho (fun K' hK => ?_)
        have HK := Lib.hid hK
        clear hK ho
        go_simp
        exact HK.out _ _ ⟨_, _, _, _, _, _, _, _, _, _, _, _, _, _, _, _, _, _, _, _, _, _, fx10, _, rfl, rfl, ⟨hbe, (fun h => by cases h), H.d3, H.d5, H.d6, H.d7, H.d8, (fun h => by cases h), (fun h => by cases h), H.t5, H.t6, H.h0, (fun _ => rfl), H.h2, H.h3, H.h4, (fun h => by cases h), (fun h => by cases h), (fun h => by cases h), H.h8, H.h9, (fun h => by cases h), H.h11⟩⟩
      · have ho := hoj
        simp only [List.getElem?_toArray, List.getElem?_cons_succ, List.getElem?_cons_zero, Option.some.injEq] at hoj
        subst hoj
        obtain rfl : fb2 = false := hun
        obtain rfl : fb1 = true := hall ⟨1, .data⟩ (by simp) (by kernel_rfl)
        clear hall
        obtain rfl : fb3 = false := Bool.eq_false_iff.2 fun h => Bool.false_ne_true (H.d3 h)
        obtain rfl : fb5 = false := Bool.eq_false_iff.2 fun h => Bool.false_ne_true (H.d5 h).2.1
        obtain rfl : fb6 = false := Bool.eq_false_iff.2 fun h => Bool.false_ne_true (H.d6 h)
        obtain rfl : fb7 = false := Bool.eq_false_iff.2 fun h => Bool.false_ne_true (H.d7 h)
        obtain rfl : fb8 = false := Bool.eq_false_iff.2 fun h => Bool.false_ne_true (H.d8 h)
        obtain rfl : fb10 = false := Bool.eq_false_iff.2 fun h => Bool.false_ne_true (H.d10 h).2.2.1
        obtain rfl : fb11 = false := Bool.eq_false_iff.2 fun h => Bool.false_ne_true (H.d11 h).2.2.1
        have hbe := H.be
        have hx_t5 := H.t5
        have hx_t6 := H.t6
        obtain rfl := H.h1 rfl
        refine wpOp_step ho (fun K' hK => ?_)
        have HK := Lib.hid hK
        clear hK ho
        go_wp2_with (go_at_call 24; refine (HPN.out _).mono ?_; rintro e w' ⟨rfl, rfl⟩)
        exact HK.out _ _ ⟨_, _, _, _, _, _, _, _, _, _, _, _, _, _, _, _, _, _, _, _, _, _, fx10, _, rfl, rfl, ⟨hbe, (fun _ => rfl), (fun h => by cases h), (fun h => by cases h), H.d6, H.d7, H.d8, (fun h => by cases h), (fun h => by cases h), H.t5, H.t6, H.h0, H.h1, (fun _ => rfl), H.h3, H.h4, (fun h => by cases h), (fun h => by cases h), (fun h => by cases h), H.h8, H.h9, (fun h => by cases h), H.h11⟩⟩
      · have ho := hoj
        simp only [List.getElem?_toArray, List.getElem?_cons_succ, List.getElem?_cons_zero, Option.some.injEq] at hoj
        subst hoj
        obtain rfl : fb3 = false := hun
        obtain rfl : fb2 = true := hall ⟨2, .data⟩ (by simp) (by kernel_rfl)
        obtain rfl : fb1 = true := (H.d2 rfl)
        clear hall
        obtain rfl : fb5 = false := Bool.eq_false_iff.2 fun h => Bool.false_ne_true (H.d5 h).2.2.1
        obtain rfl : fb6 = false := Bool.eq_false_iff.2 fun h => Bool.false_ne_true (H.d6 h)
        obtain rfl : fb7 = false := Bool.eq_false_iff.2 fun h => Bool.false_ne_true (H.d7 h)
        obtain rfl : fb8 = false := Bool.eq_false_iff.2 fun h => Bool.false_ne_true (H.d8 h)
        obtain rfl : fb10 = false := Bool.eq_false_iff.2 fun h => Bool.false_ne_true (H.d10 h).2.2.2.1
        obtain rfl : fb11 = false := Bool.eq_false_iff.2 fun h => Bool.false_ne_true (H.d11 h).2.2.2.1
        have hbe := H.be
        have hx_t5 := H.t5
        have hx_t6 := H.t6
        obtain rfl := H.h1 rfl
        obtain rfl := H.h2 rfl
        have hwm : IntKind.i64.wrap (1 + mp) = 1 + mp := by rw [IntKind.wrap_i64]; omega
        refine wpOp_step ho (fun K' hK => ?_)
        have HK := Lib.hid hK
        clear hK ho
        go_simp
        exact HK.out _ _ ⟨_, _, _, _, _, _, _, _, _, _, _, _, _, _, _, _, _, _, _, _, _, _, fx10, _, rfl, rfl, ⟨hbe, H.d2, (fun _ => rfl), (fun h => by cases h), H.d6, H.d7, H.d8, (fun h => by cases h), (fun h => by cases h), H.t5, H.t6, H.h0, H.h1, H.h2, (fun _ => rfl), H.h4, (fun h => by cases h), (fun h => by cases h), (fun h => by cases h), H.h8, H.h9, (fun h => by cases h), H.h11⟩⟩
      · have ho := hoj
        simp only [List.getElem?_toArray, List.getElem?_cons_succ, List.getElem?_cons_zero, Option.some.injEq] at hoj
        subst hoj
        obtain rfl : fb4 = false := hun
        clear hall
        obtain rfl : fb5 = false := Bool.eq_false_iff.2 fun h => Bool.false_ne_true (H.d5 h).2.2.2
        obtain rfl : fb6 = false := Bool.eq_false_iff.2 fun h => Bool.false_ne_true (H.d6 h)
        obtain rfl : fb7 = false := Bool.eq_false_iff.2 fun h => Bool.false_ne_true (H.d7 h)
        obtain rfl : fb8 = false := Bool.eq_false_iff.2 fun h => Bool.false_ne_true (H.d8 h)
        obtain rfl : fb10 = false := Bool.eq_false_iff.2 fun h => Bool.false_ne_true (H.d10 h).2.2.2.2.1
        obtain rfl : fb11 = false := Bool.eq_false_iff.2 fun h => Bool.false_ne_true (H.d11 h).2.2.2.2.1
        have hbe := H.be
        have hx_t5 := H.t5
        have hx_t6 := H.t6
        have BA := Lib.hid ((Below.refl w.heap.size w).alloc (Nat.le_refl _) (.cells (madeCells #[.int .u8 0] 50) 5))
        have NA := Lib.hid (zeros_at w 50 (by omega))
        have hmk := HMK2.out w
        refine wpOp_step ho (fun K' hK => ?_)
        have HK := Lib.hid hK
        clear hK ho
        go_simp
        exact HK.out _ _ ⟨_, _, _, _, _, _, _, _, _, _, _, _, _, _, _, _, _, _, _, _, _, _, fx10, _, rfl, rfl, ⟨hbe.trans (BA.out.mono hbe.size), H.d2, H.d3, (fun h => by cases h), H.d6, H.d7, H.d8, (fun h => by cases h), (fun h => by cases h), hx_t5, hx_t6, H.h0, H.h1, H.h2, H.h3, (fun _ _ => NA.out), (fun h => by cases h), (fun h => by cases h), (fun h => by cases h), H.h8, (fun e f => let ⟨k, e1, e2, e3⟩ := (H.h9 e f); ⟨k, e1, e2, (BA.out.block _ (lt_of_block e3)).trans e3⟩), (fun h => by cases h), H.h11⟩⟩
      · have ho := hoj
        simp only [List.getElem?_toArray, List.getElem?_cons_succ, List.getElem?_cons_zero, Option.some.injEq] at hoj
        subst hoj
        obtain rfl : fb5 = false := hun
        obtain rfl : fb0 = true := hall ⟨0, .data⟩ (by simp) (by kernel_rfl)
        obtain rfl : fb2 = true := hall ⟨2, .chain⟩ (by simp) (by kernel_rfl)
        obtain rfl : fb3 = true := hall ⟨3, .data⟩ (by simp) (by kernel_rfl)
        obtain rfl : fb4 = true := hall ⟨4, .data⟩ (by simp) (by kernel_rfl)
        obtain rfl : fb1 = true := (H.d2 rfl)
        clear hall
        obtain rfl : fb6 = false := Bool.eq_false_iff.2 fun h => Bool.false_ne_true (H.d6 h)
        obtain rfl : fb7 = false := Bool.eq_false_iff.2 fun h => Bool.false_ne_true (H.d7 h)
        obtain rfl : fb8 = false := Bool.eq_false_iff.2 fun h => Bool.false_ne_true (H.d8 h)
        obtain rfl : fb10 = false := Bool.eq_false_iff.2 fun h => Bool.false_ne_true (H.d10 h).2.2.2.2.2.1
        obtain rfl : fb11 = false := Bool.eq_false_iff.2 fun h => Bool.false_ne_true (H.d11 h).2.2.2.2.2.1
        have hbe := H.be
        have hx_t5 := H.t5
        have hx_t6 := H.t6
        obtain rfl := H.h0 rfl
        obtain rfl := H.h1 rfl
        obtain rfl := H.h2 rfl
        obtain rfl := H.h3 rfl
        have P4 := H.h4 rfl rfl
        have P4' := Lib.hid P4
        clear P4
        refine wpOp_step ho (fun K' hK => ?_)
        have HK := Lib.hid hK
        clear hK ho
        go_wp2_with fail
        refine (HP4.out _ _ w ((UX.out.below hbe).val) P4'.out).mono ?_
        rintro e w1 ⟨bb1, u1, rfl, hu1⟩
        have BC := Lib.hid bb1
        have UC := Lib.hid (hu1.toX (w0 := X2) hbe.size (fun hb => let ⟨k, e1, _, e3⟩ := H.h9 hb rfl; ⟨k, e1, lt_of_block e3⟩))
        clear bb1 hu1
        go_wp2_with fail
        exact HK.out _ _ ⟨_, _, _, _, _, _, _, _, _, _, _, _, _, _, _, _, _, _, _, _, _, _, fx10, _, rfl, rfl, ⟨hbe.trans (BC.out.mono hbe.size), H.d2, H.d3, (fun _ => ⟨rfl, rfl, rfl, rfl⟩), (fun h => by cases h), H.d7, H.d8, (fun h => by cases h), (fun h => by cases h), fun _ => ⟨_, rfl⟩, hx_t6, H.h0, H.h1, H.h2, H.h3, (fun e f => ((H.h4 e f).below BC.out).more BC.out.size), (fun _ _ => ⟨_, rfl, UC.out⟩), (fun h => by cases h), (fun h => by cases h), H.h8, (fun e f => let ⟨k, e1, e2, e3⟩ := (H.h9 e f); ⟨k, e1, e2, (BC.out.block _ (lt_of_block e3)).trans e3⟩), (fun h => by cases h), H.h11⟩⟩
      · have ho := hoj
        simp only [List.getElem?_toArray, List.getElem?_cons_succ, List.getElem?_cons_zero, Option.some.injEq] at hoj
        subst hoj
        obtain rfl : fb6 = false := hun
        obtain rfl : fb5 = true := hall ⟨5, .data⟩ (by simp) (by kernel_rfl)
        obtain rfl : fb0 = true := (H.d5 rfl).1
        obtain rfl : fb2 = true := (H.d5 rfl).2.1
        obtain rfl : fb3 = true := (H.d5 rfl).2.2.1
        obtain rfl : fb4 = true := (H.d5 rfl).2.2.2
        obtain rfl : fb1 = true := (H.d2 rfl)
        clear hall
        obtain rfl : fb7 = false := Bool.eq_false_iff.2 fun h => Bool.false_ne_true (H.d7 h)
        obtain rfl : fb8 = false := Bool.eq_false_iff.2 fun h => Bool.false_ne_true (H.d8 h)
        obtain rfl : fb10 = false := Bool.eq_false_iff.2 fun h => Bool.false_ne_true (H.d10 h).2.2.2.2.2.2.1
        obtain rfl : fb11 = false := Bool.eq_false_iff.2 fun h => Bool.false_ne_true (H.d11 h).2.2.2.2.2.2.1
        have hbe := H.be
        have hx_t5 := H.t5
        have hx_t6 := H.t6
        obtain rfl := H.h0 rfl
        obtain rfl := H.h1 rfl
        obtain rfl := H.h2 rfl
        obtain rfl := H.h3 rfl
        have P4 := H.h4 rfl rfl
        have P5 := H.h5 rfl rfl
        have PT := Lib.hid P5
        have TT := Lib.hid (H.t5 rfl)
        clear P5
        refine wpOp_step ho (fun K' hK => ?_)
        have HK := Lib.hid hK
        clear hK ho
        go_simp
        exact HK.out _ _ ⟨_, _, _, _, _, _, _, _, _, _, _, _, _, _, _, _, _, _, _, _, _, _, fx10, _, rfl, rfl, ⟨hbe, H.d2, H.d3, H.d5, (fun _ => rfl), (fun h => by cases h), (fun h => by cases h), (fun h => by cases h), (fun h => by cases h), H.t5, fun _ => TT.out, H.h0, H.h1, H.h2, H.h3, H.h4, H.h5, (fun _ _ => PT.out), (fun h => by cases h), H.h8, H.h9, (fun h => by cases h), H.h11⟩⟩
      · have ho := hoj
        simp only [List.getElem?_toArray, List.getElem?_cons_succ, List.getElem?_cons_zero, Option.some.injEq] at hoj
        subst hoj
        obtain rfl : fb7 = false := hun
        obtain rfl : fb6 = true := hall ⟨6, .data⟩ (by simp) (by kernel_rfl)
        obtain rfl : fb5 = true := (H.d6 rfl)
        obtain rfl : fb0 = true := (H.d5 rfl).1
        obtain rfl : fb2 = true := (H.d5 rfl).2.1
        obtain rfl : fb3 = true := (H.d5 rfl).2.2.1
        obtain rfl : fb4 = true := (H.d5 rfl).2.2.2
        obtain rfl : fb1 = true := (H.d2 rfl)
        clear hall
        obtain rfl : fb10 = false := Bool.eq_false_iff.2 fun h => Bool.false_ne_true (H.d10 h).2.2.2.2.2.2.2.1
        obtain rfl : fb11 = false := Bool.eq_false_iff.2 fun h => Bool.false_ne_true (H.d11 h).2.2.2.2.2.2.2.1
        have hbe := H.be
        have hx_t5 := H.t5
        have hx_t6 := H.t6
        obtain rfl := H.h0 rfl
        obtain rfl := H.h1 rfl
        obtain rfl := H.h2 rfl
        obtain rfl := H.h3 rfl
        have P4 := H.h4 rfl rfl
        have P5 := H.h5 rfl rfl
        have P6 := H.h6 rfl rfl
        obtain ⟨u, rfl, hu⟩ := P6
        have HU := Lib.hid hu
        clear hu
        refine wpOp_step ho (fun K' hK => ?_)
        have HK := Lib.hid hK
        clear hK ho
        go_simp
        exact HK.out _ _ ⟨_, _, _, _, _, _, _, _, _, _, _, _, _, _, _, _, _, _, _, _, _, _, fx10, _, rfl, rfl, ⟨hbe, H.d2, H.d3, H.d5, H.d6, (fun _ => rfl), H.d8, (fun h => by cases h), (fun h => by cases h), H.t5, H.t6, H.h0, H.h1, H.h2, H.h3, H.h4, H.h5, H.h6, (fun _ _ => HU.out), H.h8, H.h9, (fun h => by cases h), H.h11⟩⟩
      · have ho := hoj
        simp only [List.getElem?_toArray, List.getElem?_cons_succ, List.getElem?_cons_zero, Option.some.injEq] at hoj
        subst hoj
        obtain rfl : fb8 = false := hun
        obtain rfl : fb6 = true := hall ⟨6, .data⟩ (by simp) (by kernel_rfl)
        obtain rfl : fb5 = true := (H.d6 rfl)
        obtain rfl : fb0 = true := (H.d5 rfl).1
        obtain rfl : fb2 = true := (H.d5 rfl).2.1
        obtain rfl : fb3 = true := (H.d5 rfl).2.2.1
        obtain rfl : fb4 = true := (H.d5 rfl).2.2.2
        obtain rfl : fb1 = true := (H.d2 rfl)
        clear hall
        obtain rfl : fb11 = false := Bool.eq_false_iff.2 fun h => Bool.false_ne_true (H.d11 h).2.2.2.2.2.2.2.2.1
        have hbe := H.be
        have hx_t5 := H.t5
        have hx_t6 := H.t6
        obtain rfl := H.h0 rfl
        obtain rfl := H.h1 rfl
        obtain rfl := H.h2 rfl
        obtain rfl := H.h3 rfl
        obtain ⟨u, rfl⟩ := H.t6 rfl
        refine wpOp_step ho (fun K' hK => ?_)
        have HK := Lib.hid hK
        clear hK ho
        go_simp
        exact HK.out _ _ ⟨_, _, _, _, _, _, _, _, _, _, _, _, _, _, _, _, _, _, _, _, _, _, fx10, _, rfl, rfl, ⟨hbe, H.d2, H.d3, H.d5, H.d6, H.d7, (fun _ => rfl), H.d10, (fun h => by cases h), H.t5, H.t6, H.h0, H.h1, H.h2, H.h3, H.h4, H.h5, H.h6, H.h7, (fun _ => rfl), H.h9, H.h10, H.h11⟩⟩
      · have ho := hoj
        simp only [List.getElem?_toArray, List.getElem?_cons_succ, List.getElem?_cons_zero, Option.some.injEq] at hoj
        subst hoj
        obtain rfl : fb9 = false := hun
        clear hall
        obtain rfl : fb10 = false := Bool.eq_false_iff.2 fun h => Bool.false_ne_true (H.d10 h).2.2.2.2.2.2.2.2
        obtain rfl : fb11 = false := Bool.eq_false_iff.2 fun h => Bool.false_ne_true (H.d11 h).2.2.2.2.2.2.2.2.2.1
        have hbe := H.be
        have hx_t5 := H.t5
        have hx_t6 := H.t6
        have BA := Lib.hid ((Below.refl w.heap.size w).alloc (Nat.le_refl _) (.cells #[.int .i64 0, .slice none 0 0, .int .i64 0, .int .i64 0] 24))
        have NA := Lib.hid (heap_alloc_new w (.cells #[.int .i64 0, .slice none 0 0, .int .i64 0, .int .i64 0] 24))
        have hsz := hbe.size
        refine wpOp_step ho (fun K' hK => ?_)
        have HK := Lib.hid hK
        clear hK ho
        go_simp
        exact HK.out _ _ ⟨_, _, _, _, _, _, _, _, _, _, _, _, _, _, _, _, _, _, _, _, _, _, fx10, _, rfl, rfl, ⟨hbe.trans (BA.out.mono hbe.size), H.d2, H.d3, H.d5, H.d6, H.d7, H.d8, (fun h => by cases h), (fun h => by cases h), hx_t5, hx_t6, H.h0, H.h1, H.h2, H.h3, (fun e f => ((H.h4 e f).below BA.out).more BA.out.size), (fun e f => let ⟨u, e1, e2⟩ := (H.h5 e f); ⟨u, e1, e2.made BA.out⟩), (fun e f => let ⟨u, e1, e2⟩ := (H.h6 e f); ⟨u, e1, e2.made BA.out⟩), (fun e f => (H.h7 e f).made BA.out), H.h8, (fun _ _ => ⟨_, rfl, hsz, NA.out⟩), (fun h => by cases h), H.h11⟩⟩
      · have ho := hoj
        simp only [List.getElem?_toArray, List.getElem?_cons_succ, List.getElem?_cons_zero, Option.some.injEq] at hoj
        subst hoj
        obtain rfl : fb10 = false := hun
        obtain rfl : fb0 = true := hall ⟨0, .phase⟩ (by simp) (by kernel_rfl)
        obtain rfl : fb1 = true := hall ⟨1, .phase⟩ (by simp) (by kernel_rfl)
        obtain rfl : fb2 = true := hall ⟨2, .phase⟩ (by simp) (by kernel_rfl)
        obtain rfl : fb3 = true := hall ⟨3, .phase⟩ (by simp) (by kernel_rfl)
        obtain rfl : fb4 = true := hall ⟨4, .phase⟩ (by simp) (by kernel_rfl)
        obtain rfl : fb5 = true := hall ⟨5, .chain⟩ (by simp) (by kernel_rfl)
        obtain rfl : fb6 = true := hall ⟨6, .phase⟩ (by simp) (by kernel_rfl)
        obtain rfl : fb7 = true := hall ⟨7, .data⟩ (by simp) (by kernel_rfl)
        obtain rfl : fb9 = true := hall ⟨9, .data⟩ (by simp) (by kernel_rfl)
        clear hall
        obtain rfl : fb11 = false := Bool.eq_false_iff.2 fun h => Bool.false_ne_true (H.d11 h).2.2.2.2.2.2.2.2.2.2
        have hbe := H.be
        have hx_t5 := H.t5
        have hx_t6 := H.t6
        obtain rfl := H.h0 rfl
        obtain rfl := H.h1 rfl
        obtain rfl := H.h2 rfl
        obtain rfl := H.h3 rfl
        have P4 := H.h4 rfl rfl
        have P5 := H.h5 rfl rfl
        have P6 := H.h6 rfl rfl
        have P7 := H.h7 rfl rfl
        have P9 := H.h9 rfl rfl
        obtain ⟨k, rfl, hk0, hk⟩ := P9
        obtain ⟨A1, n1, c1, rfl, hpf⟩ := P7.ex
        have NV := Lib.hid (NewV.mk' hk hk0 hpf)
        have BV := Lib.hid (newV_below hk hk0 hbe (.int .i64 gz.done) (.slice A1 n1 c1) (.int .i64 gz.final) (.int .i64 gz.window))
        obtain ⟨q0, q1, q2, q3⟩ := bkG hk
        have qf := fun i => bk_frz hk i
        clear hk hpf
        refine wpOp_step ho (fun K' hK => ?_)
        have HK := Lib.hid hK
        clear hK ho
        go_simp
        exact HK.out _ _ ⟨_, _, _, _, _, _, _, _, _, _, _, _, _, _, _, _, _, _, _, _, _, _, fx10, _, rfl, rfl, ⟨BV.out, H.d2, H.d3, H.d5, H.d6, H.d7, H.d8, (fun _ => ⟨rfl, rfl, rfl, rfl, rfl, rfl, rfl, rfl, rfl⟩), (fun h => by cases h), H.t5, H.t6, H.h0, H.h1, H.h2, H.h3, (fun _ h => by cases h), (fun _ h => by cases h), (fun _ h => by cases h), (fun _ h => by cases h), H.h8, (fun _ h => by cases h), (fun _ => ⟨_, _, _, _, rfl, NV.out⟩), H.h11⟩⟩
      · have ho := hoj
        simp only [List.getElem?_toArray, List.getElem?_cons_succ, List.getElem?_cons_zero, Option.some.injEq] at hoj
        subst hoj
        obtain rfl : fb11 = false := hun
        obtain rfl : fb0 = true := hall ⟨0, .phase⟩ (by simp) (by kernel_rfl)
        obtain rfl : fb1 = true := hall ⟨1, .phase⟩ (by simp) (by kernel_rfl)
        obtain rfl : fb2 = true := hall ⟨2, .phase⟩ (by simp) (by kernel_rfl)
        obtain rfl : fb3 = true := hall ⟨3, .phase⟩ (by simp) (by kernel_rfl)
        obtain rfl : fb4 = true := hall ⟨4, .phase⟩ (by simp) (by kernel_rfl)
        obtain rfl : fb5 = true := hall ⟨5, .phase⟩ (by simp) (by kernel_rfl)
        obtain rfl : fb6 = true := hall ⟨6, .phase⟩ (by simp) (by kernel_rfl)
        obtain rfl : fb7 = true := hall ⟨7, .phase⟩ (by simp) (by kernel_rfl)
        obtain rfl : fb8 = true := hall ⟨8, .data⟩ (by simp) (by kernel_rfl)
        obtain rfl : fb9 = true := hall ⟨9, .phase⟩ (by simp) (by kernel_rfl)
        obtain rfl : fb10 = true := hall ⟨10, .chain⟩ (by simp) (by kernel_rfl)
        clear hall
        have hbe := H.be
        have hx_t5 := H.t5
        have hx_t6 := H.t6
        obtain rfl := H.h0 rfl
        obtain rfl := H.h1 rfl
        obtain rfl := H.h2 rfl
        obtain rfl := H.h3 rfl
        obtain rfl := H.h8 rfl
        have P10 := H.h10 rfl
        refine wpOp_step ho (fun K' hK => ?_)
        have HK := Lib.hid hK
        clear hK ho
        go_simp
        exact HK.out _ _ ⟨_, _, _, _, _, _, _, _, _, _, _, _, _, _, _, _, _, _, _, _, _, _, fx10, _, rfl, rfl, ⟨hbe, H.d2, H.d3, H.d5, H.d6, H.d7, H.d8, H.d10, (fun _ => ⟨rfl, rfl, rfl, rfl, rfl, rfl, rfl, rfl, rfl, rfl, rfl⟩), H.t5, H.t6, H.h0, H.h1, H.h2, H.h3, (fun _ h => by cases h), (fun _ h => by cases h), (fun _ h => by cases h), (fun _ h => by cases h), H.h8, (fun _ h => by cases h), H.h10, (fun _ => rfl)⟩⟩
      · have ho := hoj
        simp at ho
    case hfin =>
      rintro listed a w ⟨fb0, fb1, fb2, fb3, fb4, fb5, fb6, fb7, fb8, fb9, fb10, fb11, fx0, fx1, fx2, fx3, fx4, fx5, fx6, fx7, fx8, fx9, fx10, fx11, rfl, rfl, H⟩ hr
      have hb : fb11 = true := by
        clear H
        revert fb0 fb1 fb2 fb3 fb4 fb5 fb6 fb7 fb8 fb9 fb10 fb11
        decide +kernel
      subst hb
      clear hr
      obtain rfl : fb0 = true := (H.d11 rfl).1
      obtain rfl : fb1 = true := (H.d11 rfl).2.1
      obtain rfl : fb2 = true := (H.d11 rfl).2.2.1
      obtain rfl : fb3 = true := (H.d11 rfl).2.2.2.1
      obtain rfl : fb4 = true := (H.d11 rfl).2.2.2.2.1
      obtain rfl : fb5 = true := (H.d11 rfl).2.2.2.2.2.1
      obtain rfl : fb6 = true := (H.d11 rfl).2.2.2.2.2.2.1
      obtain rfl : fb7 = true := (H.d11 rfl).2.2.2.2.2.2.2.1
      obtain rfl : fb8 = true := (H.d11 rfl).2.2.2.2.2.2.2.2.1
      obtain rfl : fb9 = true := (H.d11 rfl).2.2.2.2.2.2.2.2.2.1
      obtain rfl : fb10 = true := (H.d11 rfl).2.2.2.2.2.2.2.2.2.2
      have he := H.h11 rfl
      obtain ⟨k1, A1, n1, c1, rfl, hnv⟩ := H.h10 rfl
      have hb := H.be
      subst he
      have NV := Lib.hid hnv
      have BW := Lib.hid (BX2.out.trans (hb.mono BX2.out.size))
      have UW := Lib.hid (UX.out.below hb)
      clear hnv H
      obtain ⟨v0, v1, v2, v3⟩ := bkG UW.out.blk
      go_wp2_with fail
      refine (HP5.out _ _ _ UW.out.val (BSl.nil _ _)).mono ?_
      rintro e w5 ⟨bb5, u5, rfl, hu5⟩
      obtain ⟨A5, n5, c5, rfl, p5⟩ := hu5.slice
      have B5 := Lib.hid ((BW.out.trans (bb5.mono BW.out.size)).alloc (BW.out.trans (bb5.mono BW.out.size)).size (.cells #[.int .i64 0, .slice A5 n5 c5, .int .i64 0, .int .i64 0] 24))
      clear bb5 hu5 p5 v0 v1 v2 v3
      rcases HX3.out with ⟨k1, k2⟩ | ⟨k1, k2⟩
      · subst k1
        have k3 : (po != (en : Int)) = true := by simp [k2]
        clear k2 HX3
        go_wp2_with (go_at_call 25; refine (gatherTells_any _).mono ?_; rintro e w6 ⟨rfl, fb6⟩; have B6 := Lib.hid (B5.out.trans (fb6.mono B5.out.size)); clear fb6)
        go_ret
        exact ⟨rfl, B6.out⟩
      · subst k1
        have k3 : (po != (en : Int)) = false := by simp [k2]
        clear k2 HX3
        go_wp2_with (go_at_call 25; refine (gatherTells_any _).mono ?_; rintro e w6 ⟨rfl, fb6⟩; have B6 := Lib.hid (B5.out.trans (fb6.mono B5.out.size)); clear fb6)
        go_ret
        exact ⟨rfl, B6.out⟩
end Go.Proofs.Ytfbjgbnlgaajaaa
