/- The walks of TableResizes, TableGets, TableInserts, over what is asked of the project. -/
import Derived.Test.YtajjelcjgcgfdaaRefTab7
import Derived.Test.YtajjelcjgcgfdaaTabSame
import Derived.Laws.StructEq
namespace Go.Proofs.Ytajjelcjgcgfdaa
set_option linter.unusedVariables false
open Go.RowKit P

def TbSzf (P : Program) (f : FuncId) : Prop := ∀ (x : Fld) (w : World), FdWf x → Calls P f #[fdV x] w fun e w' => e = .returned (.int .i64 (szF x : Int)) ∧ Below w.heap.size w w'
theorem tb_slices {w : World} {B : Nat} {v : Value} {t : Tb} (h : TbVal w B v t) : ∃ A c, v = .agg #[.int .i64 t.room, .int .i64 t.put, .slice A t.rows.length c] := by
  obtain ⟨s, rfl, h1⟩ := h.ex
  obtain ⟨A, c, rfl, _⟩ := h1.ex
  exact ⟨A, c, rfl⟩
theorem resT_len {t : Tb} {n : Int} (hw : TbWf t) : (resT t n).1.rows.length ≤ 8796093022208 := by
  unfold resT
  split
  · simp [tb0]
  · split
    · simp [tb0]
    · obtain ⟨k, h1, h2⟩ := young_suffix n t.rows
      simp only [h2, List.length_drop]
      have := hw.len
      omega
theorem insT_len {t : Tb} {f : Fld} (hw : TbWf t) : (insT t f).1.rows.length ≤ 8796093022208 := by
  unfold insT
  by_cases c : faultTb t ≠ 0
  · rw [if_pos c]; simp [tb0]
  · rw [if_neg c]
    have := ((faultTb_iff t).1 (Decidable.byContradiction c))
    have h4 := wtL_len t.rows
    have h5 := this.2.2.2.1
    have h6 := this.1.2
    split
    · simp [tb0]
    · split
      · simp [tb0]
      · split
        · simp [tb0]
        · obtain ⟨k, h1, h2⟩ := young_suffix t.room (t.rows ++ [f])
          simp only [h2, List.length_drop, List.length_append, List.length_singleton]
          omega
set_option maxHeartbeats 1000000 in
theorem tableResizes_core (hS : TbSiz Try.prog 16) (v : Value) (t : Tb) (n : Int) (W : World) (hv : TbVal W W.heap.size v t) (hw : TbWf t) :
    Calls Try.prog 4 #[v, .int .i64 n] W fun e w' => e = .returned (.bool true) ∧ Below W.heap.size W w' := by
  have H1 := Lib.hid (fun w (hb : Below W.heap.size W w) => hS v t n w (hv.on hb) hw)
  have H2 := Lib.hid (fun w (hb : Below W.heap.size W w) => refTabR_any v t n w (hv.on hb) hw)
  have HL := Lib.hid (resT_len (n := n) hw)
  obtain ⟨⟨r, x⟩, hr⟩ : ∃ r, resT t n = r := ⟨_, rfl⟩
  rw [hr] at H1 H2 HL
  unfold TbRes at H1 H2
  obtain ⟨A, c, rfl⟩ := tb_slices hv
  have B0 := Lib.hid ((Below.refl W.heap.size W).alloc (Nat.le_refl _) (.cells #[.int .i64 t.room, .int .i64 t.put, .slice A t.rows.length c] 24))
  have F0 := Lib.hid (heap_alloc_new W (.cells #[.int .i64 t.room, .int .i64 t.put, .slice A t.rows.length c] 24))
  clear hr hv hw
  go_enter Try.func4, Try.ntmps4
  go_wp2_with fail
  refine (H1.out _ B0.out).mono ?_
  rintro e w1 ⟨b1, v1, rfl, hv1⟩
  obtain ⟨A1, c1, rfl⟩ := tb_slices hv1
  simp only at hv1 ⊢
  have X1 := Lib.hid ((Below.refl w1.heap.size w1).alloc (Nat.le_refl _) (.cells #[.int .i64 r.room, .int .i64 r.put, .slice A1 r.rows.length c1] 24))
  have N1 := Lib.hid (heap_alloc_new w1 (.cells #[.int .i64 r.room, .int .i64 r.put, .slice A1 r.rows.length c1] 24))
  have b2 := b1.trans (X1.out.mono b1.size)
  have B2 := Lib.hid (B0.out.trans (b2.mono B0.out.size))
  have F2 := Lib.hid ((b2.block _ (lt_of_block F0.out)).trans F0.out)
  have V2 := Lib.hid (hv1.on X1.out)
  obtain ⟨q0, q1, q2⟩ := bk3T F2.out
  clear b1 b2 hv1
  go_wp2_with fail
  refine (H2.out _ B2.out).mono ?_
  clear q0 q1 q2
  rintro e w3 ⟨b3, v3, rfl, hv3⟩
  obtain ⟨A3, c3, rfl⟩ := tb_slices hv3
  simp only at hv3 ⊢
  have X3 := Lib.hid ((Below.refl w3.heap.size w3).alloc (Nat.le_refl _) (.cells #[.int .i64 r.room, .int .i64 r.put, .slice A3 r.rows.length c3] 24))
  have b4 := b3.trans (X3.out.mono b3.size)
  have B4 := Lib.hid (B2.out.trans (b4.mono B2.out.size))
  have N4 := Lib.hid ((b4.block _ (lt_of_block N1.out)).trans N1.out)
  have V4 := Lib.hid (V2.out.on b4)
  have U4 := Lib.hid (hv3.on X3.out)
  obtain ⟨q0, q1, q2⟩ := bk3T N4.out
  clear b3 b4 hv3
  go_wp2_with fail
  refine (lsameTb_eq _ _ r _ V4.out U4.out HL.out).mono ?_
  rintro e w5 ⟨rfl, b5⟩
  have B5 := Lib.hid (B4.out.trans (b5.mono B4.out.size))
  clear b5 q0 q1 q2
  go_wp2_with fail
  go_ret
  exact ⟨by first | rfl | simp, B5.out⟩
set_option maxHeartbeats 1000000 in
theorem tableInserts_core (hC : TbChk Try.prog 10) (hI : TbIns Try.prog 11) (hZ : TbSzf Try.prog 15) (v : Value) (t : Tb) (f : Fld) (W : World) (hv : TbVal W W.heap.size v t) (hw : TbWf t) (hf : FdWf f) :
    Calls Try.prog 3 #[v, fdV f] W fun e w' => e = .returned (.bool true) ∧ Below W.heap.size W w' := by
  have H1 := Lib.hid (fun w (hb : Below W.heap.size W w) => hC v t w (hv.on hb) hw)
  have H3 := Lib.hid (fun w (hb : Below W.heap.size W w) => refTabF_any v t w (hv.on hb) hw)
  have H2 := Lib.hid (fun w (hb : Below W.heap.size W w) => hI v t f w (hv.on hb) hw hf)
  have H4 := Lib.hid (fun w (hb : Below W.heap.size W w) => refTabI_any v t f w (hv.on hb) hw hf)
  have HSZ := Lib.hid (fun w => hZ f w hf)
  have HL := Lib.hid (insT_len (f := f) hw)
  have m1 := hf.2.2.1
  have m2 := hf.2.2.2
  obtain ⟨⟨r, x⟩, hr⟩ : ∃ r, insT t f = r := ⟨_, rfl⟩
  obtain ⟨d, hd⟩ : ∃ d, faultTb t = d := ⟨_, rfl⟩
  rw [hr] at H2 H4 HL
  rw [hd] at H1 H3
  unfold TbRes at H2 H4
  obtain ⟨A, c, rfl⟩ := tb_slices hv
  unfold fdV at H2 H4 HSZ ⊢
  have z1 : (strOfNums f.name).size = f.name.length := strOfNums_size _
  have z2 : (strOfNums f.val).size = f.val.length := strOfNums_size _
  obtain ⟨S1, hS1⟩ : ∃ S, strOfNums f.name = S := ⟨_, rfl⟩
  obtain ⟨S2, hS2⟩ : ∃ S, strOfNums f.val = S := ⟨_, rfl⟩
  rw [hS1] at z1
  rw [hS2] at z2
  rw [hS1, hS2] at H2 H4 HSZ ⊢
  obtain ⟨p, hp⟩ : ∃ p, f.name.length = p := ⟨_, rfl⟩
  obtain ⟨q, hq⟩ : ∃ p, f.val.length = p := ⟨_, rfl⟩
  have hz : (szF f : Int) = (p : Int) + (q : Int) + 32 := by unfold szF; rw [hp, hq]; omega
  rw [hz] at HSZ
  rw [hp] at z1 m1
  rw [hq] at z2 m2
  obtain ⟨g0, g1, g2⟩ := two_bk W #[.int .i64 t.room, .int .i64 t.put, .slice A t.rows.length c] #[.string S1, .string S2] 24 26
  have F0 := Lib.hid g0
  have G0 := Lib.hid g1
  have B0 := Lib.hid g2
  clear hr hd hv hw hf hS1 hS2 hp hq hz g0 g1 g2
  go_enter Try.func3, Try.ntmps3
  go_wp2_with fail
  refine (H1.out _ B0.out).mono ?_
  rintro e w1 ⟨rfl, b1⟩
  have B1 := Lib.hid (B0.out.trans (b1.mono B0.out.size))
  have F1 := Lib.hid ((b1.block _ (lt_of_block F0.out)).trans F0.out)
  have G1 := Lib.hid ((b1.block _ (lt_of_block G0.out)).trans G0.out)
  obtain ⟨q0, q1, q2⟩ := bk3T F1.out
  obtain ⟨y0, y1⟩ := bk2F G1.out
  clear b1
  go_wp2_with fail
  refine (H2.out _ B1.out).mono ?_
  clear q0 q1 q2 y0 y1
  rintro e w2 ⟨b2, v2, rfl, hv2⟩
  obtain ⟨A2, c2, rfl⟩ := tb_slices hv2
  simp only at hv2 ⊢
  have X2 := Lib.hid ((Below.refl w2.heap.size w2).alloc (Nat.le_refl _) (.cells #[.int .i64 r.room, .int .i64 r.put, .slice A2 r.rows.length c2] 24))
  have N2 := Lib.hid (heap_alloc_new w2 (.cells #[.int .i64 r.room, .int .i64 r.put, .slice A2 r.rows.length c2] 24))
  have b3 := b2.trans (X2.out.mono b2.size)
  have B3 := Lib.hid (B1.out.trans (b3.mono B1.out.size))
  have F3 := Lib.hid ((b3.block _ (lt_of_block F1.out)).trans F1.out)
  have G3 := Lib.hid ((b3.block _ (lt_of_block G1.out)).trans G1.out)
  have V3 := Lib.hid (hv2.on X2.out)
  obtain ⟨q0, q1, q2⟩ := bk3T F3.out
  clear b2 b3 hv2
  go_wp2_with fail
  refine (H3.out _ B3.out).mono ?_
  clear q0 q1 q2
  rintro e w4 ⟨rfl, b4⟩
  have B4 := Lib.hid (B3.out.trans (b4.mono B3.out.size))
  have F4 := Lib.hid ((b4.block _ (lt_of_block F3.out)).trans F3.out)
  have G4 := Lib.hid ((b4.block _ (lt_of_block G3.out)).trans G3.out)
  have N4 := Lib.hid ((b4.block _ (lt_of_block N2.out)).trans N2.out)
  have V4 := Lib.hid (V3.out.on b4)
  obtain ⟨q0, q1, q2⟩ := bk3T F4.out
  obtain ⟨y0, y1⟩ := bk2F G4.out
  clear b4
  go_wp2_with fail
  refine (H4.out _ B4.out).mono ?_
  clear q0 q1 q2 y0 y1
  rintro e w5 ⟨b5, v5, rfl, hv5⟩
  obtain ⟨A5, c5, rfl⟩ := tb_slices hv5
  simp only at hv5 ⊢
  have X5 := Lib.hid ((Below.refl w5.heap.size w5).alloc (Nat.le_refl _) (.cells #[.int .i64 r.room, .int .i64 r.put, .slice A5 r.rows.length c5] 24))
  have M5 := Lib.hid (heap_alloc_new w5 (.cells #[.int .i64 r.room, .int .i64 r.put, .slice A5 r.rows.length c5] 24))
  have b6 := b5.trans (X5.out.mono b5.size)
  have B6 := Lib.hid (B4.out.trans (b6.mono B4.out.size))
  have G6 := Lib.hid ((b6.block _ (lt_of_block G4.out)).trans G4.out)
  have N6 := Lib.hid ((b6.block _ (lt_of_block N4.out)).trans N4.out)
  have V6 := Lib.hid (V4.out.on b6)
  have U6 := Lib.hid (hv5.on X5.out)
  clear b5 b6 hv5 F4 F3 F1 F0
  go_upto_region 5 with fail
  obtain ⟨w6, hw6⟩ : ∃ w, w5.alloc (.cells #[.int .i64 r.room, .int .i64 r.put, .slice A5 r.rows.length c5] 24) = w := ⟨_, rfl⟩
  rw [hw6] at B6 G6 N6 M5 V6 U6 ⊢
  clear hw6 X5
  obtain ⟨a0, a1, a2⟩ := bk3T N6.out
  obtain ⟨m0, m1', m2'⟩ := bk3T M5.out
  obtain ⟨y0, y1⟩ := bk2F G6.out
  have z10 := Ext.cell a0
  have z11 := Ext.cell a1
  have z12 := Ext.cell a2
  have z20 := Ext.cell m0
  have z21 := Ext.cell m1'
  have z22 := Ext.cell m2'
  have z30 := Ext.cell y0
  have z31 := Ext.cell y1
  refine wp_region_ext (by kernel_rfl) (by kernel_rfl) ?_
  repeat (go_big_quiet_step (first | (go_at_call 14; exact Ext.call (lsameTb_eq _ _ r _ (V6.out.on (Ext.h _)) (U6.out.on (Ext.h _)) HL.out)) | (go_at_call 15; exact Ext.call (HSZ.out _))))
  refine wpQuiet_nil ?_
  intro w7 hb7
  have B7 := Lib.hid (B6.out.trans (hb7.mono B6.out.size))
  clear hb7
  go_wp2_with fail
  go_ret
  exact ⟨by first | rfl | simp, B7.out⟩
set_option maxHeartbeats 1000000 in
theorem tableGets_core (hG : TbGet Try.prog 18) (hN : TbFin Try.prog 19) (v : Value) (t : Tb) (n : Int) (f : Fld) (W : World) (hv : TbVal W W.heap.size v t) (hw : TbWf t) (hn : -9223372036854775808 ≤ n ∧ n ≤ 9223372036854775807) (hf : FdWf f) :
    Calls Try.prog 5 #[v, .int .i64 n, fdV f] W fun e w' => e = .returned (.bool true) ∧ Below W.heap.size W w' := by
  have H1 := Lib.hid (fun w (hb : Below W.heap.size W w) => hG v t n w (hv.on hb) hw hn)
  have H3 := Lib.hid (fun w (hb : Below W.heap.size W w) => refTabG_any v t n w (hv.on hb) hw hn)
  have H2 := Lib.hid (fun w (hb : Below W.heap.size W w) => hN v t f w (hv.on hb) hw hf)
  have H4 := Lib.hid (fun w (hb : Below W.heap.size W w) => refTabN_any v t f w (hv.on hb) hw hf)
  obtain ⟨⟨r, x⟩, hr⟩ : ∃ r, getT t n = r := ⟨_, rfl⟩
  obtain ⟨⟨o1, o2, o3⟩, ho⟩ : ∃ r, finT t f = r := ⟨_, rfl⟩
  rw [hr] at H1 H3
  rw [ho] at H2 H4
  obtain ⟨A, c, rfl⟩ := tb_slices hv
  unfold fdV at H1 H2 H3 H4 ⊢
  simp only at H1 H2 H3 H4
  obtain ⟨S1, hS1⟩ : ∃ S, strOfNums f.name = S := ⟨_, rfl⟩
  obtain ⟨S2, hS2⟩ : ∃ S, strOfNums f.val = S := ⟨_, rfl⟩
  obtain ⟨R1, hR1⟩ : ∃ S, strOfNums r.name = S := ⟨_, rfl⟩
  obtain ⟨R2, hR2⟩ : ∃ S, strOfNums r.val = S := ⟨_, rfl⟩
  rw [hS1, hS2] at H2 H4 ⊢
  rw [hR1, hR2] at H1 H3
  obtain ⟨g0, g1, g2⟩ := two_bk W #[.int .i64 t.room, .int .i64 t.put, .slice A t.rows.length c] #[.string S1, .string S2] 24 26
  have F0 := Lib.hid g0
  have G0 := Lib.hid g1
  have B0 := Lib.hid g2
  clear hr ho hv hw hf hS1 hS2 hR1 hR2 g0 g1 g2
  go_enter Try.func5, Try.ntmps5
  go_wp2_with fail
  refine (H1.out _ B0.out).mono ?_
  rintro e w1 ⟨b1, rfl⟩
  have X1 := Lib.hid ((Below.refl w1.heap.size w1).alloc (Nat.le_refl _) (.cells #[.string R1, .string R2] 26))
  have N1 := Lib.hid (heap_alloc_new w1 (.cells #[.string R1, .string R2] 26))
  have b2 := b1.trans (X1.out.mono b1.size)
  have B1 := Lib.hid (B0.out.trans (b2.mono B0.out.size))
  have F1 := Lib.hid ((b2.block _ (lt_of_block F0.out)).trans F0.out)
  have G1 := Lib.hid ((b2.block _ (lt_of_block G0.out)).trans G0.out)
  obtain ⟨q0, q1, q2⟩ := bk3T F1.out
  obtain ⟨y0, y1⟩ := bk2F G1.out
  clear b1 b2
  go_wp2_with fail
  refine (H2.out _ B1.out).mono ?_
  clear q0 q1 q2 y0 y1
  rintro e w2 ⟨b2, rfl⟩
  have B2 := Lib.hid (B1.out.trans (b2.mono B1.out.size))
  have F2 := Lib.hid ((b2.block _ (lt_of_block F1.out)).trans F1.out)
  have G2 := Lib.hid ((b2.block _ (lt_of_block G1.out)).trans G1.out)
  have N2 := Lib.hid ((b2.block _ (lt_of_block N1.out)).trans N1.out)
  obtain ⟨q0, q1, q2⟩ := bk3T F2.out
  clear b2
  go_wp2_with fail
  refine (H3.out _ B2.out).mono ?_
  clear q0 q1 q2
  rintro e w3 ⟨b3, rfl⟩
  have X3 := Lib.hid ((Below.refl w3.heap.size w3).alloc (Nat.le_refl _) (.cells #[.string R1, .string R2] 26))
  have M3 := Lib.hid (heap_alloc_new w3 (.cells #[.string R1, .string R2] 26))
  have b4 := b3.trans (X3.out.mono b3.size)
  have B3 := Lib.hid (B2.out.trans (b4.mono B2.out.size))
  have F3 := Lib.hid ((b4.block _ (lt_of_block F2.out)).trans F2.out)
  have G3 := Lib.hid ((b4.block _ (lt_of_block G2.out)).trans G2.out)
  have N3 := Lib.hid ((b4.block _ (lt_of_block N2.out)).trans N2.out)
  obtain ⟨q0, q1, q2⟩ := bk3T F3.out
  obtain ⟨y0, y1⟩ := bk2F G3.out
  clear b3 b4
  go_wp2_with fail
  refine (H4.out _ B3.out).mono ?_
  clear q0 q1 q2 y0 y1
  rintro e w5 ⟨b5, rfl⟩
  have B5 := Lib.hid (B3.out.trans (b5.mono B3.out.size))
  obtain ⟨a0, a1⟩ := bk2F ((b5.block _ (lt_of_block N3.out)).trans N3.out)
  obtain ⟨m0, m1⟩ := bk2F ((b5.block _ (lt_of_block M3.out)).trans M3.out)
  clear b5
  go_wp2_with fail
  go_ret
  exact ⟨by first | rfl | simp, B5.out⟩
end Go.Proofs.Ytajjelcjgcgfdaa
