/- The walk of RequestWrites. -/
import Derived.Test.YtfoagelemjdglaaDoorRqRef2
import Derived.Test.YtfoagelemjdglaaDoorRefFd8
import Derived.Test.YtfoagelemjdglaaDoorGrpD
namespace Go.Proofs.YtfoagelemjdglaaDoor
set_option linter.unusedVariables false
open Go.RowKit P
theorem refRqB_any : RqWrS Tryd.prog 10 := refRqB_core (fun v t A n c l ahead W hv hw h hn hnc hwf hm => refFlB_any v t A n c l ahead W hv hw h hn hnc hwf hm)
theorem wrRq_wf {t : Tb} {l : List Fld} {body : List Int} {ahead : Bool} (hw : TbWf t) (hl : ∀ x ∈ l, FdWf x) : TbWf (wrRq t l body ahead).1 := by
  unfold wrRq
  split
  · exact tbWf0
  · split
    · exact tbWf0
    · split
      · exact tbWf0
      · unfold encFl
        by_cases h0 : faultTb t ≠ 0
        · rw [if_pos h0]; exact tbWf0
        · rw [if_neg h0]
          by_cases h1 : faultFl l ≠ 0
          · rw [if_pos h1]; exact tbWf0
          · rw [if_neg h1]
            exact (encAll_ok hw ((faultTb_iff t).1 (Decidable.byContradiction h0)).2.1.1 l hl).wf
set_option maxHeartbeats 4000000 in
theorem requestWrites_walk (v : Value) (t : Tb) (A : Option Addr) (n c : Nat) (l : List Fld) (Ab : Option Addr) (nb cb : Nat) (body : List Int) (ahead : Bool) (W : World) (ht : Tab W) (hv : TbVal W W.heap.size v t) (hw : TbWf t) (h : RowE FdE W W.heap.size A l) (hn : l.length = n) (hnc : n ≤ c) (hc : c ≤ maxLen) (hwf : ∀ x ∈ l, FdWf x) (hm : n ≤ 8796093022208) (hb : BSl W W.heap.size (.slice Ab nb cb) body) :
    Calls Tryd.prog 3 #[v, .agg #[.slice A n c, .slice Ab nb cb], .bool ahead] W fun e w' => e = .returned (.bool true) ∧ Below W.heap.size W w' := by
  have HL1 := Lib.hid (fun w (b : Below W.heap.size W w) => rqchk_any A n c l w (h.on b) hn hnc hc hwf hm)
  have HL2 := Lib.hid (fun w (b : Below W.heap.size W w) => refRqF_any A n c l w (h.on b) hn hnc hc hwf hm)
  have HE1 := Lib.hid (fun w (b : Below W.heap.size W w) => rqwr_any v t A n c l Ab nb cb body ahead w (ht.below b) (hv.on b) hw (h.on b) hn hnc hc hwf hm (bsl_onF hb b))
  have HE2 := Lib.hid (fun w (b : Below W.heap.size W w) => refRqB_any v t A n c l Ab nb cb body ahead w (hv.on b) hw (h.on b) hn hnc hc hwf hm (bsl_onF hb b))
  have HLEN := Lib.hid (wrRq_wf (body := body) (ahead := ahead) hw hwf).len
  obtain ⟨⟨T, TL, SC, x⟩, hr⟩ : ∃ r, wrRq t l body ahead = r := ⟨_, rfl⟩
  rw [hr] at HE1 HE2 HLEN
  dsimp only at HE1 HE2 HLEN
  obtain ⟨y, hy⟩ : ∃ y, faultRq l = y := ⟨_, rfl⟩
  rw [hy] at HL1 HL2
  obtain ⟨S1, hS1⟩ : ∃ S, strOfNums TL = S := ⟨_, rfl⟩
  obtain ⟨S2, hS2⟩ : ∃ S, strOfNums SC = S := ⟨_, rfl⟩
  rw [hS1, hS2] at HE2
  have HS1 := Lib.hid hS1
  have HS2 := Lib.hid hS2
  obtain ⟨At, ct, rfl⟩ := tb_slicesR hv
  obtain ⟨g1, g2, g3⟩ := two_bk W #[.int .i64 t.room, .int .i64 t.put, .slice At t.rows.length ct] #[.slice A n c, .slice Ab nb cb] 24 27
  have F0 := Lib.hid g1
  have G0 := Lib.hid g2
  have B0 := Lib.hid g3
  clear hv hw h hn hnc hc hwf hm hb hr hy hS1 hS2 g1 g2 g3 ht
  go_enter Tryd.func3, Tryd.ntmps3
  obtain ⟨u0, u1⟩ := bk2F G0.out
  go_wp2_with fail
  refine (HL1.out _ B0.out).mono ?_
  clear u0 u1
  rintro e w1 ⟨rfl, b1⟩
  have B1 := Lib.hid (B0.out.trans (b1.mono B0.out.size))
  have F1 := Lib.hid ((b1.block _ (lt_of_block F0.out)).trans F0.out)
  have G1 := Lib.hid ((b1.block _ (lt_of_block G0.out)).trans G0.out)
  obtain ⟨q0, q1, q2⟩ := bk3T F1.out
  obtain ⟨u0, u1⟩ := bk2F G1.out
  clear b1
  go_wp2_with fail
  refine (HE1.out _ B1.out).mono ?_
  clear q0 q1 q2 u0 u1
  rintro e w2 ⟨b2, v2, d1, d2, rfl, hv2, hd1, hd2⟩
  obtain ⟨A1, n1, c1, r1, p1, rfl, hv2⟩ := tb_partsR hv2
  obtain ⟨Ad, cd, rfl, _, _, _, rd⟩ := hd1.ex
  obtain ⟨Ae, ce, rfl, _, _, _, re⟩ := hd2.ex
  have X2 := Lib.hid ((Below.refl w2.heap.size w2).alloc (Nat.le_refl _) (.cells #[.int .i64 r1, .int .i64 p1, .slice A1 n1 c1] 24))
  have N2 := Lib.hid (heap_alloc_new w2 (.cells #[.int .i64 r1, .int .i64 p1, .slice A1 n1 c1] 24))
  have bb := b2.trans (X2.out.mono b2.size)
  have B2 := Lib.hid (B1.out.trans (bb.mono B1.out.size))
  have F2 := Lib.hid ((bb.block _ (lt_of_block F1.out)).trans F1.out)
  have G2 := Lib.hid ((bb.block _ (lt_of_block G1.out)).trans G1.out)
  have V2 := Lib.hid (hv2.on X2.out)
  have RD := Lib.hid (rd.on X2.out)
  have RE := Lib.hid (re.on X2.out)
  obtain ⟨u0, u1⟩ := bk2F G2.out
  clear b2 bb hv2 hd1 hd2 rd re
  go_wp2_with fail
  refine (HL2.out _ B2.out).mono ?_
  clear u0 u1
  rintro e w3 ⟨rfl, b3⟩
  have B3 := Lib.hid (B2.out.trans (b3.mono B2.out.size))
  have F3 := Lib.hid ((b3.block _ (lt_of_block F2.out)).trans F2.out)
  have G3 := Lib.hid ((b3.block _ (lt_of_block G2.out)).trans G2.out)
  have N3 := Lib.hid ((b3.block _ (lt_of_block N2.out)).trans N2.out)
  have V3 := Lib.hid (V2.out.on b3)
  have RD3 := Lib.hid (RD.out.on b3)
  have RE3 := Lib.hid (RE.out.on b3)
  obtain ⟨q0, q1, q2⟩ := bk3T F3.out
  obtain ⟨u0, u1⟩ := bk2F G3.out
  clear b3
  go_wp2_with fail
  refine (HE2.out _ B3.out).mono ?_
  clear q0 q1 q2 u0 u1
  rintro e w4 ⟨b4, v4, rfl, hv4⟩
  obtain ⟨A3, n3, c3, r3, p3, rfl, hv4⟩ := tb_partsR hv4
  have X4 := Lib.hid ((Below.refl w4.heap.size w4).alloc (Nat.le_refl _) (.cells #[.int .i64 r3, .int .i64 p3, .slice A3 n3 c3] 24))
  have bb := b4.trans (X4.out.mono b4.size)
  have B4 := Lib.hid (B3.out.trans (bb.mono B3.out.size))
  have N4 := Lib.hid ((bb.block _ (lt_of_block N3.out)).trans N3.out)
  have V4 := Lib.hid (V3.out.on bb)
  have U4 := Lib.hid (hv4.on X4.out)
  have RD4 := Lib.hid (RD3.out.on bb)
  have RE4 := Lib.hid (RE3.out.on bb)
  obtain ⟨q0, q1, q2⟩ := bk3T N4.out
  clear b4 bb hv4
  go_wp2_with fail
  refine (lsameTb_eq _ _ T _ V4.out U4.out HLEN.out).mono ?_
  clear q0 q1 q2
  rintro e w5 ⟨rfl, b5⟩
  have B5 := Lib.hid (B4.out.trans (b5.mono B4.out.size))
  have hc1 := run_str (P := Tryd.prog) (w := w5) (RD4.out.on b5) rfl 25 9 5 cd Tryd.underlying25 Tryd.underlying5 Tryd.underlying9
  have hc2 := run_str (P := Tryd.prog) (w := w5) (RE4.out.on b5) rfl 25 9 5 ce Tryd.underlying25 Tryd.underlying5 Tryd.underlying9
  rw [HS1.out] at hc1
  rw [HS2.out] at hc2
  clear b5
  go_wp2_with fail
  go_ret
  exact ⟨by first | rfl | simp, B5.out⟩
end Go.Proofs.YtfoagelemjdglaaDoor
