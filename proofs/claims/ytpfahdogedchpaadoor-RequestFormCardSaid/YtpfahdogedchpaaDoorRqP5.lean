/- The project's request.Write. -/
import Derived.Test.YtpfahdogedchpaaDoorGrpT
import Derived.Test.YtpfahdogedchpaaDoorGrpW
import Derived.Test.YtpfahdogedchpaaDoorRqLen
namespace Go.Proofs.YtpfahdogedchpaaDoor.P
set_option linter.unusedVariables false
open Go.RowKit
theorem bslNil (w : World) (B : Nat) : BSl w B (.slice none 0 0) [] := ⟨none, 0, rfl, Nat.le_refl _, by unfold maxLen; omega, fun _ => rfl, BRow.nil _ _ _⟩
theorem BSl.grB {w w' : World} {B : Nat} {v : Value} {zs : List Int} {k : Nat} {a0 a1 : Int} {p : Option Addr} {n c : Nat} {T : TypeId} (h : BSl w B v zs) (hk : w.heap[k]? = some (.cells #[.int .i64 a0, .int .i64 a1, .slice p n c] T (0, 0))) (g : w.grownBy w' (some k)) : BSl w' B v zs := by
  obtain ⟨A, cp, e, h1, h2, h3, h4⟩ := h.ex
  refine ⟨A, cp, e, h1, h2, h3, h4.1, fun hn => ?_⟩
  obtain ⟨b, off, e', hb, hc⟩ := h4.2 hn
  refine ⟨b, off, e', hb, fun j hj => g.cell (hc j hj) ?_⟩
  intro q
  cases q
  have := hc 0 hn
  rw [bk_cell hk] at this
  generalize off + 0 = o at this
  rcases o with _ | _ | _ | o
  · cases this
  · cases this
  · cases this
  · cases this
/-- three boxes of a call -/
structure Bx3 (W : World) (o1 o2 o3 : Obj) (w : World) : Prop where
  x : w.heap[W.heap.size]? = some o1
  y : w.heap[W.heap.size + 1]? = some o2
  z : w.heap[W.heap.size + 1 + 1]? = some o3
  b : Below W.heap.size W w
theorem Bx3.new (W : World) (cs1 cs2 cs3 : Array Value) (T1 T2 T3 : TypeId) : Bx3 W (.cells cs1 T1 (0, 0)) (.cells cs2 T2 (0, 0)) (.cells cs3 T3 (0, 0)) (((W.alloc (.cells cs1 T1)).alloc (.cells cs2 T2)).alloc (.cells cs3 T3)) := by
  obtain ⟨h1, h2, h3⟩ := two_bk W cs1 cs2 T1 T2
  have hs : ((W.alloc (.cells cs1 T1)).alloc (.cells cs2 T2)).heap.size = W.heap.size + 2 := by simp
  have h4 := heap_alloc_new ((W.alloc (.cells cs1 T1)).alloc (.cells cs2 T2)) (.cells cs3 T3)
  rw [hs] at h4
  have b := (Below.refl ((W.alloc (.cells cs1 T1)).alloc (.cells cs2 T2)).heap.size ((W.alloc (.cells cs1 T1)).alloc (.cells cs2 T2))).alloc (Nat.le_refl _) (.cells cs3 T3)
  exact ⟨(b.block _ (lt_of_block h1)).trans h1, (b.block _ (lt_of_block h2)).trans h2, h4, h3.trans (b.mono h3.size)⟩
theorem Bx3.later {W : World} {o1 o2 o3 : Obj} {w w' : World} (h : Bx3 W o1 o2 o3 w) (b : Below w.heap.size w w') : Bx3 W o1 o2 o3 w' :=
  ⟨(b.block _ (lt_of_block h.x)).trans h.x, (b.block _ (lt_of_block h.y)).trans h.y, (b.block _ (lt_of_block h.z)).trans h.z, h.b.trans (b.mono h.b.size)⟩
theorem Bx3.setX {W : World} {o1 o2 o3 o : Obj} {w w' : World} (h : Bx3 W o1 o2 o3 w) (k : w'.heap[W.heap.size]? = some o) (g : w.grownBy w' (some W.heap.size)) : Bx3 W o o2 o3 w' :=
  ⟨k, (g.block _ (lt_of_block h.y) (by simp)).trans h.y, (g.block _ (lt_of_block h.z) (by simp; omega)).trans h.z, h.b.grown g h.b.size (fun k e => by cases e; omega)⟩
theorem Bx3.setZ {W : World} {o1 o2 o3 o : Obj} {w w' : World} (h : Bx3 W o1 o2 o3 w) (k : w'.heap[W.heap.size + 1 + 1]? = some o) (g : w.grownBy w' (some (W.heap.size + 1 + 1))) : Bx3 W o1 o2 o w' :=
  ⟨(g.block _ (lt_of_block h.x) (by simp; omega)).trans h.x, (g.block _ (lt_of_block h.y) (by simp)).trans h.y, k, h.b.grown g h.b.size (fun k e => by cases e; omega)⟩
/-- what Write says, by P16.2 -/
def wrRq (t : Tb) (l : List Fld) (body : List Int) (ahead : Bool) : Tb × List Int × List Int × Int :=
  if faultRq l ≠ 0 then (tb0, [], [], faultRq l) else if 200 < body.length then (tb0, [], [], 1)
  else if (encFl t l ahead).2.2.2 ≠ 0 then (tb0, [], [], (encFl t l ahead).2.2.2)
  else ((encFl t l ahead).1, (encFl t l ahead).2.1, reqT (encFl t l ahead).2.2.1 body, 0)
def RqWr (P : Program) (f : FuncId) (ok : World → Prop) : Prop := ∀ (v : Value) (t : Tb) (A : Option Addr) (n c : Nat) (l : List Fld) (Ab : Option Addr) (nb cb : Nat) (body : List Int) (ahead : Bool) (W : World), ok W → TbVal W W.heap.size v t → TbWf t → RowE FdE W W.heap.size A l → l.length = n → n ≤ c → c ≤ maxLen → (∀ x ∈ l, FdWf x) → n ≤ 8796093022208 → BSl W W.heap.size (.slice Ab nb cb) body →
  Calls P f #[v, .agg #[.slice A n c, .slice Ab nb cb], .bool ahead] W fun e w' => Below W.heap.size W w' ∧ ∃ v' d1 d2, e = .returned (.tuple #[v', d1, d2, .int .i64 (wrRq t l body ahead).2.2.2]) ∧ TbVal w' w'.heap.size v' (wrRq t l body ahead).1 ∧ BSl w' w'.heap.size d1 (wrRq t l body ahead).2.1 ∧ BSl w' w'.heap.size d2 (wrRq t l body ahead).2.2.1
theorem encFl_secs {t : Tb} {l : List Fld} {ahead : Bool} (hl : ∀ f ∈ l, FdWf f) : (encFl t l ahead).2.2.1.length ≤ 3000 := by
  unfold encFl
  split
  · simp
  · rename_i h0
    split
    · simp
    · rename_i h1
      exact rq_sec_len (Decidable.not_not.1 h0) (Decidable.not_not.1 h1) hl
end Go.Proofs.YtpfahdogedchpaaDoor.P
namespace Go.Proofs.YtpfahdogedchpaaDoor
set_option linter.unusedVariables false
open Go.RowKit P

set_option maxRecDepth 100000 in
set_option maxHeartbeats 8000000 in
theorem rqwr_any : RqWr Tryd.prog 8 Tab := fun v t A n c l Ab nb cb body ahead W ht hv hw h hn hnc hc hwf hm hb => by
  have HT := Lib.hid ht
  have HCK := Lib.hid (fun w (b : Below W.heap.size W w) => rqchk_any A n c l w (h.on b) hn hnc hc hwf hm)
  have HEN := Lib.hid (fun w v (hv : TbVal w w.heap.size v t) (b : Below W.heap.size W w) => fdenc_any v t A n c l ahead w hv hw (h.on b) hn hwf hm)
  have HSL := Lib.hid (encFl_secs (t := t) (ahead := ahead) hwf)
  have HBB := Lib.hid hb
  have hnb : body.length = nb := by obtain ⟨_, _, e, _⟩ := hb.ex; cases e; rfl
  have HNB := Lib.hid hnb
  have HV := Lib.hid hv
  obtain ⟨At, nt, ct, room, put, rfl, hv'⟩ := tb_partsR hv
  have I0 := Lib.hid (Bx3.new W #[.int .i64 room, .int .i64 put, .slice At nt ct] #[.slice A n c, .slice Ab nb cb] #[.int .i64 0, .int .i64 0, .slice none 0 0] 24 27 24)
  obtain ⟨V0, hV0⟩ : ∃ V, ((W.alloc (.cells #[.int .i64 room, .int .i64 put, .slice At nt ct] 24)).alloc (.cells #[.slice A n c, .slice Ab nb cb] 27)).alloc (.cells #[.int .i64 0, .int .i64 0, .slice none 0 0] 24) = V := ⟨_, rfl⟩
  rw [hV0] at I0
  have hR : wrRq t l body ahead = if faultRq l ≠ 0 then (tb0, [], [], faultRq l) else if 200 < body.length then (tb0, [], [], 1) else if (encFl t l ahead).2.2.2 ≠ 0 then (tb0, [], [], (encFl t l ahead).2.2.2) else ((encFl t l ahead).1, (encFl t l ahead).2.1, reqT (encFl t l ahead).2.2.1 body, 0) := rfl
  rw [hR, hnb]
  obtain ⟨x, hx⟩ : ∃ x, faultRq l = x := ⟨_, rfl⟩
  rw [hx] at HCK ⊢
  obtain ⟨⟨T2, TL, SEC, y⟩, hy⟩ : ∃ r, encFl t l ahead = r := ⟨_, rfl⟩
  rw [hy] at HEN HSL ⊢
  dsimp only at HEN HSL
  clear ht hv h hn hnc hc hwf hm hb hx hy hR hnb hw hv'
  by_cases hx0 : x = 0
  · subst hx0
    rw [if_neg (fun k => k rfl)]
    by_cases h2 : 200 < nb
    · rw [if_pos h2]
      have h2' : (200 : Int) < (nb : Int) := by omega
      go_enter Tryd.func8, Tryd.ntmps8
      obtain ⟨q0, q1⟩ := bk2F I0.out.y
      go_wp2_with fail
      refine (HCK.out _ I0.out.b).mono ?_
      rintro e w1 ⟨rfl, b1⟩
      have I1 := Lib.hid (I0.out.later b1)
      clear b1 q0 q1
      obtain ⟨y0, y1⟩ := bk2F I1.out.y
      obtain ⟨z0, z1, z2⟩ := bk3T I1.out.z
      have zf := fun i => bk_frz I1.out.z i
      go_wp2_with fail
      obtain ⟨k1, gp⟩ := bk3_blk I1.out.z (.int .i64 0) (.int .i64 0) (.slice none 0 0)
      obtain ⟨r0, r1, r2⟩ := bk3T k1
      refine bodyPost_ret (by simp [results, Tryd.results8, go_sem, r0, r1, r2]; try rfl) rfl ?_
      exact ⟨(I1.out.setZ k1 gp).b, _, _, _, rfl, TbVal.zero _ _, bslNil _ _, bslNil _ _⟩
    · rw [if_neg h2]
      have h2' : ¬ (200 : Int) < (nb : Int) := by omega
      by_cases hy0 : y = 0
      · subst hy0
        rw [if_neg (fun k => k rfl)]
        go_enter Tryd.func8, Tryd.ntmps8
        obtain ⟨q0, q1⟩ := bk2F I0.out.y
        go_wp2_with fail
        refine (HCK.out _ I0.out.b).mono ?_
        rintro e w1 ⟨rfl, b1⟩
        have I1 := Lib.hid (I0.out.later b1)
        clear b1 q0 q1
        obtain ⟨y0, y1⟩ := bk2F I1.out.y
        obtain ⟨x0, x1, x2⟩ := bk3T I1.out.x
        go_wp2_with fail
        refine (HEN.out _ _ (HV.out.on I1.out.b) I1.out.b).mono ?_
        clear x0 x1 x2 y0 y1
        rintro e w2 ⟨b2, v2, d1, d2, rfl, hv2, hd1, hd2⟩
        obtain ⟨A2, n2, c2, ur, up, rfl, hv3⟩ := tb_partsR hv2
        obtain ⟨Ad, cd, rfl, _, _, _, _⟩ := id hd1
        obtain ⟨Ae, ce, rfl, _, _, _, _⟩ := id hd2
        have I2 := Lib.hid (I1.out.later b2)
        obtain ⟨k2, g2⟩ := bk3_blk I2.out.x (.int .i64 ur) (.int .i64 up) (.slice A2 n2 c2)
        have I3 := I2.out.setX k2 g2
        have V3 := (hv3.gr I2.out.x g2).more g2.size
        have D3 := (hd1.grB I2.out.x g2).more g2.size
        have E3 := (hd2.grB I2.out.x g2).more g2.size
        obtain ⟨x0, x1, x2⟩ := bk3T I2.out.x
        have xf := fun i => bk_frz I2.out.x i
        clear b2 hv2 hv3 hd1 hd2 k2 g2
        go_upto_region 7 with fail
        obtain ⟨w3, hw3⟩ : ∃ w9, ((w2.setCell ⟨W.heap.size, 0, none⟩ (.int .i64 ur)).setCell ⟨W.heap.size, 1, none⟩ (.int .i64 up)).setCell ⟨W.heap.size, 2, none⟩ (.slice A2 n2 c2) = w9 := ⟨_, rfl⟩
        rw [hw3] at I3 V3 D3 E3 ⊢
        have J3 := Lib.hid I3
        have T3 := Lib.hid V3
        have F3 := Lib.hid D3
        have G3 := Lib.hid E3
        clear hw3 I3 V3 D3 E3 x0 x1 x2 xf
        go_wp2_with fail
        refine (frame_any 1 (by decide) (by decide) Ae SEC.length ce SEC w3 (HT.out.below J3.out.b) G3.out rfl (by have := HSL.out; omega)).mono ?_
        rintro e w4 ⟨b4, d4, rfl, r4⟩
        obtain ⟨L4, hL4⟩ : ∃ L, enc 1 ++ enc (SEC.length : Int) ++ SEC = L := ⟨_, rfl⟩
        have HLL := Lib.hid hL4
        rw [hL4] at r4
        have HYL := Lib.hid (show Byt L4 from hL4 ▸ ((enc_byt 1 (by decide) (by decide)).append (enc_byt (SEC.length : Int) (by omega) (by have := HSL.out; omega))).append (by obtain ⟨_, _, _, _, _, _, q⟩ := G3.out.ex; exact q.1))
        have HLN := Lib.hid (show 0 < L4.length ∧ L4.length ≤ 4000 by rw [← hL4]; simp only [List.length_append]; have := enc_len2 (n := (SEC.length : Int)) (by have := HSL.out; omega); have e1 : (enc 1).length = 1 := rfl; have := HSL.out; omega)
        have J4 := Lib.hid (J3.out.later b4)
        have T4 := Lib.hid (T3.out.on b4)
        have F4 := Lib.hid ((F3.out.below b4).more b4.size)
        have R4 := Lib.hid r4
        have BB4 := Lib.hid b4
        clear b4 r4 hL4
        obtain ⟨g4, cap4, cur4, fz4, e4, _⟩ := id R4.out
        obtain ⟨dn4, hdn4⟩ : ∃ n, L4.length = n := ⟨_, rfl⟩
        rw [hdn4] at e4
        subst e4
        clear hdn4
        obtain ⟨y0, y1⟩ := bk2F J4.out.y
        by_cases hb0 : nb = 0
        · subst hb0
          have HB0 := Lib.hid (show body = [] from List.eq_nil_of_length_eq_zero HNB.out)
          obtain ⟨z0, z1, z2⟩ := bk3T J4.out.z
          have zf := fun i => bk_frz J4.out.z i
          obtain ⟨x0, x1, x2⟩ := bk3T J4.out.x
          go_wp2_with fail
          obtain ⟨k1, gp⟩ := bk3_blk J4.out.z (.int .i64 ur) (.int .i64 up) (.slice A2 n2 c2)
          obtain ⟨r0, r1, r2⟩ := bk3T k1
          refine bodyPost_ret (by simp [results, Tryd.results8, go_sem, r0, r1, r2]; try rfl) rfl ?_
          exact ⟨(J4.out.setZ k1 gp).b, _, _, _, rfl, (T4.out.gr J4.out.z gp).more gp.size, (F4.out.grB J4.out.z gp).more gp.size, by rw [HB0.out, show reqT SEC [] = L4 by rw [← HLL.out]; unfold reqT bodT; simp]; exact ((wrow_bsl R4.out HYL.out).grB J4.out.z gp).more gp.size⟩
        · have hb1 : (0 : Int) < (nb : Int) := by omega
          go_wp2_with fail
          refine (frame_any 0 (by decide) (by decide) Ab nb cb body w4 (HT.out.below J4.out.b) (bsl_onF HBB.out J4.out.b) HNB.out (by omega)).mono ?_
          rintro e w5 ⟨b5, d5, rfl, r5⟩
          have HY5 := Lib.hid (show Byt (enc 0 ++ enc (nb : Int) ++ body) from ((enc_byt 0 (by decide) (by decide)).append (enc_byt (nb : Int) (by omega) (by omega))).append (by obtain ⟨_, _, _, _, _, _, q⟩ := HBB.out.ex; exact q.1))
          have S5 := Lib.hid (wrow_bsl r5 HY5.out)
          have HM5 := Lib.hid (show (enc 0 ++ enc (nb : Int) ++ body).length ≤ 1000 by simp only [List.length_append]; have := enc_len2 (n := (nb : Int)) (by omega); have e1 : (enc 0).length = 1 := rfl; have := HNB.out; omega)
          obtain ⟨M5, hM5⟩ : ∃ L, enc 0 ++ enc (nb : Int) ++ body = L := ⟨_, rfl⟩
          have HM := Lib.hid hM5
          rw [hM5] at S5 HM5 HY5
          have J5 := Lib.hid (J4.out.later b5)
          have T5 := Lib.hid (T4.out.on b5)
          have F5 := Lib.hid ((F4.out.below b5).more b5.size)
          have R5 := Lib.hid (wrow_below R4.out b5)
          have C5 := Lib.hid (R4.out)
          obtain ⟨A5, cp5, e5, _, _, _, _⟩ := id S5.out.ex
          subst e5
          have BB5 := Lib.hid (BB4.out.trans (b5.mono BB4.out.size))
          clear b5 r5 hM5 y0 y1
          go_wp2_with (at_builtin
                       refine wpList_appT rfl (.tmp 47) (.tmp 50) 25 rfl w3.heap.size (.slice (some ⟨g4, 0, none⟩) dn4 cap4) (.slice A5 M5.length cp5) L4 M5 rfl rfl (src_bsl S5.out) (.inr R5.out) (by have := HLN.out; omega) (by have := HLN.out; have := HM5.out; omega) BB5.out.size ?_
                       intro d6 w6 h6 g6 _
                       have R6 := Lib.hid h6
                       have GG6 := Lib.hid g6
                       have B6 := Lib.hid (BB5.out.grown GG6.out BB5.out.size (fun k e => by cases e; exact (trow_lt (.inr R4.out) g4 rfl).1))
                       have J6 := Lib.hid (J3.out.later B6.out)
                       have T6 := Lib.hid (T3.out.on B6.out)
                       have F6 := Lib.hid ((F3.out.below B6.out).more B6.out.size)
                       obtain ⟨z0, z1, z2⟩ := bk3T J6.out.z
                       have zf := fun i => bk_frz J6.out.z i
                       obtain ⟨x0, x1, x2⟩ := bk3T J6.out.x
                       clear h6 g6)
          obtain ⟨k1, gp⟩ := bk3_blk J6.out.z (.int .i64 ur) (.int .i64 up) (.slice A2 n2 c2)
          obtain ⟨r0, r1, r2⟩ := bk3T k1
          refine bodyPost_ret (by simp [results, Tryd.results8, go_sem, r0, r1, r2]; try rfl) rfl ?_
          refine ⟨(J6.out.setZ k1 gp).b, _, _, _, rfl, (T6.out.gr J6.out.z gp).more gp.size, (F6.out.grB J6.out.z gp).more gp.size, ?_⟩
          have hne : body ≠ [] := fun e => by have := HNB.out; rw [e] at this; simp at this; omega
          rw [show reqT SEC body = L4 ++ M5 by rw [← HLL.out, ← HM.out, ← HNB.out]; unfold reqT bodT; rw [if_neg hne]; simp]
          exact ((wrow_bsl R6.out (HYL.out.append HY5.out)).grB J6.out.z gp).more gp.size
      · rw [if_pos hy0]
        have gy : (y != 0) = true := by simp [hy0]
        go_enter Tryd.func8, Tryd.ntmps8
        obtain ⟨q0, q1⟩ := bk2F I0.out.y
        go_wp2_with fail
        refine (HCK.out _ I0.out.b).mono ?_
        rintro e w1 ⟨rfl, b1⟩
        have I1 := Lib.hid (I0.out.later b1)
        clear b1 q0 q1
        obtain ⟨y0, y1⟩ := bk2F I1.out.y
        obtain ⟨x0, x1, x2⟩ := bk3T I1.out.x
        go_wp2_with fail
        refine (HEN.out _ _ (HV.out.on I1.out.b) I1.out.b).mono ?_
        clear x0 x1 x2 y0 y1
        rintro e w2 ⟨b2, v2, d1, d2, rfl, hv2, hd1, hd2⟩
        obtain ⟨A2, n2, c2, ur, up, rfl, hv3⟩ := tb_partsR hv2
        obtain ⟨Ad, cd, rfl, _, _, _, _⟩ := id hd1
        obtain ⟨Ae, ce, rfl, _, _, _, _⟩ := id hd2
        have I2 := Lib.hid (I1.out.later b2)
        obtain ⟨k2, g2⟩ := bk3_blk I2.out.x (.int .i64 ur) (.int .i64 up) (.slice A2 n2 c2)
        have I3 := I2.out.setX k2 g2
        have V3 := (hv3.gr I2.out.x g2).more g2.size
        have D3 := (hd1.grB I2.out.x g2).more g2.size
        have E3 := (hd2.grB I2.out.x g2).more g2.size
        obtain ⟨x0, x1, x2⟩ := bk3T I2.out.x
        have xf := fun i => bk_frz I2.out.x i
        clear b2 hv2 hv3 hd1 hd2 k2 g2
        go_upto_region 7 with fail
        obtain ⟨w3, hw3⟩ : ∃ w9, ((w2.setCell ⟨W.heap.size, 0, none⟩ (.int .i64 ur)).setCell ⟨W.heap.size, 1, none⟩ (.int .i64 up)).setCell ⟨W.heap.size, 2, none⟩ (.slice A2 n2 c2) = w9 := ⟨_, rfl⟩
        rw [hw3] at I3 V3 D3 E3 ⊢
        have J3 := Lib.hid I3
        have T3 := Lib.hid V3
        have F3 := Lib.hid D3
        have G3 := Lib.hid E3
        clear hw3 I3 V3 D3 E3 x0 x1 x2 xf
        obtain ⟨z0, z1, z2⟩ := bk3T J3.out.z
        have zf := fun i => bk_frz J3.out.z i
        go_wp2_with fail
        obtain ⟨k1, gp⟩ := bk3_blk J3.out.z (.int .i64 0) (.int .i64 0) (.slice none 0 0)
        obtain ⟨r0, r1, r2⟩ := bk3T k1
        refine bodyPost_ret (by simp [results, Tryd.results8, go_sem, r0, r1, r2]; try rfl) rfl ?_
        exact ⟨(J3.out.setZ k1 gp).b, _, _, _, rfl, TbVal.zero _ _, bslNil _ _, bslNil _ _⟩
  · rw [if_pos hx0]
    have g : (x != 0) = true := by simp [hx0]
    go_enter Tryd.func8, Tryd.ntmps8
    obtain ⟨q0, q1⟩ := bk2F I0.out.y
    go_wp2_with fail
    refine (HCK.out _ I0.out.b).mono ?_
    rintro e w1 ⟨rfl, b1⟩
    have I1 := Lib.hid (I0.out.later b1)
    clear b1 q0 q1
    obtain ⟨z0, z1, z2⟩ := bk3T I1.out.z
    have zf := fun i => bk_frz I1.out.z i
    go_wp2_with fail
    obtain ⟨k1, gp⟩ := bk3_blk I1.out.z (.int .i64 0) (.int .i64 0) (.slice none 0 0)
    obtain ⟨r0, r1, r2⟩ := bk3T k1
    refine bodyPost_ret (by simp [results, Tryd.results8, go_sem, r0, r1, r2]; try rfl) rfl ?_
    exact ⟨(I1.out.setZ k1 gp).b, _, _, _, rfl, TbVal.zero _ _, bslNil _ _, bslNil _ _⟩
end Go.Proofs.YtpfahdogedchpaaDoor
