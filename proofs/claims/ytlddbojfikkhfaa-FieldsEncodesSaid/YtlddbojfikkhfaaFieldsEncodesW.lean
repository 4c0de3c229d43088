/- The walk of FieldsEncodes. -/
import Derived.Test.YtlddbojfikkhfaaGrpL
import Derived.Test.YtlddbojfikkhfaaRefFd8
import Derived.Test.YtlddbojfikkhfaaFdLawC
import Derived.Test.YtlddbojfikkhfaaGrpD
namespace Go.Proofs.Ytlddbojfikkhfaa
set_option linter.unusedVariables false
open Go.RowKit P

theorem encFl_wf {t : Tb} {l : List Fld} {ahead : Bool} (hw : TbWf t) (hl : ∀ x ∈ l, FdWf x) : TbWf (encFl t l ahead).1 := by
  unfold encFl
  by_cases h0 : faultTb t ≠ 0
  · rw [if_pos h0]; exact tbWf0
  · rw [if_neg h0]
    by_cases h1 : faultFl l ≠ 0
    · rw [if_pos h1]; exact tbWf0
    · rw [if_neg h1]
      exact (encAll_ok hw ((faultTb_iff t).1 (Decidable.byContradiction h0)).2.1.1 l hl).wf
set_option maxHeartbeats 2000000 in
theorem fieldsEncodes_walk (v : Value) (t : Tb) (A : Option Addr) (n c : Nat) (l : List Fld) (ahead : Bool) (W : World) (hv : TbVal W W.heap.size v t) (hw : TbWf t) (h : RowE FdE W W.heap.size A l) (hn : l.length = n) (hnc : n ≤ c) (hwf : ∀ x ∈ l, FdWf x) (hm : n ≤ 8796093022208) :
    Calls Try.prog 3 #[v, .slice A n c, .bool ahead] W fun e w' => e = .returned (.bool true) ∧ Below W.heap.size W w' := by
  have HL1 := Lib.hid (fun w (hb : Below W.heap.size W w) => fdchk_any A n c l w (h.on hb) hn hwf hm)
  have HL2 := Lib.hid (fun w (hb : Below W.heap.size W w) => refFlF_any A n c l w (h.on hb) hn hwf hm)
  have HE1 := Lib.hid (fun w (hb : Below W.heap.size W w) => fdenc_any v t A n c l ahead w (hv.on hb) hw (h.on hb) hn hwf hm)
  have HE2 := Lib.hid (fun w (hb : Below W.heap.size W w) => refFlB_any v t A n c l ahead w (hv.on hb) hw (h.on hb) hn hnc hwf hm)
  have HKN := Lib.hid (fun w => known_any w)
  have HKR := Lib.hid (fun w => refKn_any w)
  have HLEN := Lib.hid (encFl_wf (ahead := ahead) hw hwf).len
  obtain ⟨⟨T, TL, SC, x⟩, hr⟩ : ∃ r, encFl t l ahead = r := ⟨_, rfl⟩
  rw [hr] at HE1 HE2 HLEN
  dsimp only at HE1 HE2 HLEN
  obtain ⟨y, hy⟩ : ∃ y, faultFl l = y := ⟨_, rfl⟩
  rw [hy] at HL1 HL2
  obtain ⟨S1, hS1⟩ : ∃ S, strOfNums TL = S := ⟨_, rfl⟩
  obtain ⟨S2, hS2⟩ : ∃ S, strOfNums SC = S := ⟨_, rfl⟩
  rw [hS1, hS2] at HE2
  have HS1 := Lib.hid hS1
  have HS2 := Lib.hid hS2
  obtain ⟨At, ct, rfl⟩ := tb_slicesR hv
  have F0 := Lib.hid (heap_alloc_new W (.cells #[.int .i64 t.room, .int .i64 t.put, .slice At t.rows.length ct] 24))
  have B0 := Lib.hid ((Below.refl W.heap.size W).alloc (Nat.le_refl _) (.cells #[.int .i64 t.room, .int .i64 t.put, .slice At t.rows.length ct] 24))
  clear hv hw h hn hnc hwf hm hr hy hS1 hS2
  go_enter Try.func3, Try.ntmps3
  go_wp2_with fail
  refine (HL1.out _ B0.out).mono ?_
  rintro e w1 ⟨rfl, b1⟩
  have B1 := Lib.hid (B0.out.trans (b1.mono B0.out.size))
  have F1 := Lib.hid ((b1.block _ (lt_of_block F0.out)).trans F0.out)
  obtain ⟨q0, q1, q2⟩ := bk3T F1.out
  clear b1
  go_wp2_with fail
  refine (HE1.out _ B1.out).mono ?_
  clear q0 q1 q2
  rintro e w2 ⟨b2, v2, d1, d2, rfl, hv2, hd1, hd2⟩
  obtain ⟨A1, n1, c1, r1, p1, rfl, hv2⟩ := tb_partsR hv2
  obtain ⟨Ad, cd, rfl, _, _, _, rd⟩ := hd1.ex
  obtain ⟨Ae, ce, rfl, _, _, _, re⟩ := hd2.ex
  have X2 := Lib.hid ((Below.refl w2.heap.size w2).alloc (Nat.le_refl _) (.cells #[.int .i64 r1, .int .i64 p1, .slice A1 n1 c1] 24))
  have N2 := Lib.hid (heap_alloc_new w2 (.cells #[.int .i64 r1, .int .i64 p1, .slice A1 n1 c1] 24))
  have bb := b2.trans (X2.out.mono b2.size)
  have B2 := Lib.hid (B1.out.trans (bb.mono B1.out.size))
  have F2 := Lib.hid ((bb.block _ (lt_of_block F1.out)).trans F1.out)
  have V2 := Lib.hid (hv2.on X2.out)
  have RD := Lib.hid (rd.on X2.out)
  have RE := Lib.hid (re.on X2.out)
  clear b2 bb hv2 hd1 hd2 rd re
  go_wp2_with fail
  refine (HL2.out _ B2.out).mono ?_
  rintro e w3 ⟨rfl, b3⟩
  have B3 := Lib.hid (B2.out.trans (b3.mono B2.out.size))
  have F3 := Lib.hid ((b3.block _ (lt_of_block F2.out)).trans F2.out)
  have N3 := Lib.hid ((b3.block _ (lt_of_block N2.out)).trans N2.out)
  have V3 := Lib.hid (V2.out.on b3)
  have RD3 := Lib.hid (RD.out.on b3)
  have RE3 := Lib.hid (RE.out.on b3)
  obtain ⟨q0, q1, q2⟩ := bk3T F3.out
  clear b3
  go_wp2_with fail
  refine (HE2.out _ B3.out).mono ?_
  clear q0 q1 q2
  rintro e w4 ⟨b4, v4, rfl, hv4⟩
  obtain ⟨A3, n3, c3, r3, p3, rfl, hv4⟩ := tb_partsR hv4
  have X4 := Lib.hid ((Below.refl w4.heap.size w4).alloc (Nat.le_refl _) (.cells #[.int .i64 r3, .int .i64 p3, .slice A3 n3 c3] 24))
  have bb := b4.trans (X4.out.mono b4.size)
  have B4 := Lib.hid (B3.out.trans (bb.mono B3.out.size))
  have N4 := Lib.hid ((bb.block _ (lt_of_block N3.out)).trans N3.out)
  have V4 := Lib.hid (V3.out.on bb)
  have U4 := Lib.hid (hv4.on X4.out)
  have RD4 := Lib.hid (RD3.out.on bb)
  have RE4 := Lib.hid (RE3.out.on bb)
  obtain ⟨q0, q1, q2⟩ := bk3T N4.out
  clear b4 bb hv4
  go_wp2_with fail
  refine (lsameTb_eq _ _ T _ V4.out U4.out HLEN.out).mono ?_
  clear q0 q1 q2
  rintro e w5 ⟨rfl, b5⟩
  have B5 := Lib.hid (B4.out.trans (b5.mono B4.out.size))
  have hc1 := run_str (P := Try.prog) (w := w5) (RD4.out.on b5) rfl 27 9 5 cd Try.underlying27 Try.underlying5 Try.underlying9
  have hc2 := run_str (P := Try.prog) (w := w5) (RE4.out.on b5) rfl 27 9 5 ce Try.underlying27 Try.underlying5 Try.underlying9
  rw [HS1.out] at hc1
  rw [HS2.out] at hc2
  clear b5
  go_wp2_with fail
  refine (HKN.out _).mono ?_
  clear hc1 hc2
  rintro e w6 ⟨b6, A6, rfl, h6⟩
  obtain ⟨_, _, e6, _, _, R6⟩ := h6.slice
  cases e6
  have R6 := Lib.hid R6
  have B6 := Lib.hid (B5.out.trans (b6.mono B5.out.size))
  clear b6 h6
  go_wp2_with fail
  refine (HKR.out _).mono ?_
  rintro e w7 ⟨b7, v7, rfl, h7⟩
  obtain ⟨A7, c7, rfl, _, _, R7⟩ := h7.slice
  have R7 := Lib.hid R7
  have R8 := Lib.hid (R6.out.on b7)
  have B7 := Lib.hid (B6.out.trans (b7.mono B6.out.size))
  clear b7 h7
  go_wp2_with fail
  refine (lsameFd_eq _ _ 11 _ _ knL _ R8.out R7.out rfl (by decide)).mono ?_
  rintro e w8 ⟨rfl, b8⟩
  have B8 := Lib.hid (B7.out.trans (b8.mono B7.out.size))
  clear b8
  go_wp2_with fail
  go_ret
  exact ⟨by first | rfl | simp, B8.out⟩
end Go.Proofs.Ytlddbojfikkhfaa
