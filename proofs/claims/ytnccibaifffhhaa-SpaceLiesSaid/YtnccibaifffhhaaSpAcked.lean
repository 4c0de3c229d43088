/- Contracts of package space: Acked. -/
import Derived.Test.YtnccibaifffhhaaSpRefuse
import Derived.Test.YtnccibaifffhhaaSpOver
namespace Go.Proofs.Ytnccibaifffhhaa
set_option linter.unusedVariables false
open Go.RowKit P

theorem threeX (w : World) (a b c : Array Value) (T1 T2 T3 : TypeId) : (((w.alloc (.cells a T1)).alloc (.cells b T2)).alloc (.cells c T3)).heap[w.heap.size]? = some (.cells a T1 (0, 0)) ∧ (((w.alloc (.cells a T1)).alloc (.cells b T2)).alloc (.cells c T3)).heap[w.heap.size + 1]? = some (.cells b T2 (0, 0)) ∧
    (((w.alloc (.cells a T1)).alloc (.cells b T2)).alloc (.cells c T3)).heap[w.heap.size + 2]? = some (.cells c T3 (0, 0)) ∧ Below w.heap.size w (((w.alloc (.cells a T1)).alloc (.cells b T2)).alloc (.cells c T3)) := by
  obtain ⟨h1, h2, h3⟩ := twoX w a b T1 T2
  have s2 : ((w.alloc (.cells a T1)).alloc (.cells b T2)).heap.size = w.heap.size + 2 := by simp
  have k1 := heap_alloc_new ((w.alloc (.cells a T1)).alloc (.cells b T2)) (.cells c T3)
  have k3 := (Below.refl ((w.alloc (.cells a T1)).alloc (.cells b T2)).heap.size ((w.alloc (.cells a T1)).alloc (.cells b T2))).alloc (Nat.le_refl _) (.cells c T3)
  rw [s2] at k1
  exact ⟨(k3.block _ (lt_of_block h1)).trans h1, (k3.block _ (lt_of_block h2)).trans h2, k1, h3.trans (k3.mono h3.size)⟩
theorem ackC1_any (num time size : Int) (Af : Option Addr) (nf cf : Nat) (Al : Option Addr) (nl cl : Nat) (l : List (Int × Int)) (kb : Nat) (w : World) (hk : w.heap[kb]? = some (.cells #[.slice Al nl cl] 25 (0, 0))) (h : RRow w w.heap.size Al l) (hn : l.length = nl) (hm : nl ≤ 17592186044416) :
    Calls Try.prog 52 #[.agg #[.int .i64 num, .int .i64 time, .int .i64 size, .slice Af nf cf], .pointer (some ⟨kb, 0, none⟩)] w fun e w' => e = .returned (.bool (memB l num)) ∧ Below w.heap.size w w' := by
  have AB := Lib.hid ((Below.refl w.heap.size w).alloc (Nat.le_refl _) (.cells #[.int .i64 num, .int .i64 time, .int .i64 size, .slice Af nf cf] 54))
  have H := Lib.hid (tells_any Al nl cl l num (w.alloc (.cells #[.int .i64 num, .int .i64 time, .int .i64 size, .slice Af nf cf] 54)) (h.on AB.out) hn hm)
  have x0 := bk_cell ((AB.out.block _ (lt_of_block hk)).trans hk) 0
  simp only [List.getElem?_toArray, List.getElem?_cons_zero] at x0
  have y0 := bk_cell (heap_alloc_new w (.cells #[.int .i64 num, .int .i64 time, .int .i64 size, .slice Af nf cf] 54)) 0
  simp only [List.getElem?_toArray, List.getElem?_cons_zero, List.getElem?_cons_succ] at y0
  obtain ⟨rz, hrz⟩ : ∃ rz, memB l num = rz := ⟨_, rfl⟩
  rw [hrz] at H ⊢
  clear h hn hrz hk
  go_enter Try.func52, Try.ntmps52
  go_wp2_with fail
  refine (H.out).mono ?_
  rintro e w4 ⟨rfl, b4⟩
  have B4 := Lib.hid (AB.out.trans (b4.mono AB.out.size))
  clear b4 x0 y0
  go_wp2_with fail
  go_ret
  exact ⟨by rfl, B4.out⟩
theorem ackC2_any (num time size : Int) (Af : Option Addr) (nf cf : Nat) (v0 v1 : Value) (top : Int) (v3 v4 : Value) (kb : Nat) (w : World) (hk : w.heap[kb]? = some (.cells #[v0, v1, .int .i64 top, v3, v4] 48 (0, 0))) (ht : -1 ≤ top ∧ top ≤ 9223372036854775807) :
    Calls Try.prog 54 #[.agg #[.int .i64 num, .int .i64 time, .int .i64 size, .slice Af nf cf], .pointer (some ⟨kb, 0, none⟩)] w fun e w' => e = .returned (.bool (decide (num ≤ top - 3))) ∧ Below w.heap.size w w' := by
  have AB := Lib.hid ((Below.refl w.heap.size w).alloc (Nat.le_refl _) (.cells #[.int .i64 num, .int .i64 time, .int .i64 size, .slice Af nf cf] 54))
  have x0 := bk_cell ((AB.out.block _ (lt_of_block hk)).trans hk) 2
  have y0 := bk_cell (heap_alloc_new w (.cells #[.int .i64 num, .int .i64 time, .int .i64 size, .slice Af nf cf] 54)) 0
  simp only [List.getElem?_toArray, List.getElem?_cons_zero, List.getElem?_cons_succ] at x0 y0
  have hwr : IntKind.i64.wrap (top - 3) = top - 3 := by rw [IntKind.wrap_i64]; omega
  clear hk
  go_enter Try.func54, Try.ntmps54
  go_wp2_with fail
  go_ret
  exact ⟨by rfl, AB.out⟩
theorem rng_top {e : Int} : ∀ {l : List (Int × Int)} {t : Int}, rngF e l = 0 → t < e → topOf t l < e
  | [], _, _, h => h
  | r :: l, t, h, ht => by
    unfold rngF at h
    by_cases c : r.1 < 0 ∨ r.2 < r.1
    · rw [if_pos c] at h; cases h
    · rw [if_neg c] at h
      by_cases d : e ≤ r.2
      · rw [if_pos d] at h; cases h
      · rw [if_neg d] at h
        exact rng_top (t := max t r.2) h (by omega)
/-- between the rounds of Acked's first loop -/
structure AckI (w wr : World) (Au : Option Addr) (cu : Nat) (Hu : Option Addr) (cv : Nat) (Ku : Option Addr) (cw : Nat) (css : List (Cells 4)) (s : Sp) (vl : Value) (t : Int) : Prop where
  box : wr.heap[w.heap.size]? = some (.cells #[.int .i64 s.next, .slice Au s.sent.length cu, .int .i64 t, .slice Hu s.heard.length cv, .slice Ku s.skip.length cw] 48 (0, 0))
  lb : wr.heap[w.heap.size + 1]? = some (.cells #[vl] 25 (0, 0))
  res : wr.heap[w.heap.size + 2]? = some (.cells #[.int .i64 0, .slice none 0 0, .int .i64 0, .slice none 0 0, .slice none 0 0] 48 (0, 0))
  u : SpN (w.heap.size + 3) wr Au cu Hu cv Ku cw css s
  be : Below w.heap.size w wr
theorem AckI.on {w wr w' : World} {Au Hu Ku : Option Addr} {cu cv cw : Nat} {css : List (Cells 4)} {s : Sp} {vl : Value} {t : Int} (h : AckI w wr Au cu Hu cv Ku cw css s vl t) (b : Below wr.heap.size wr w') : AckI w w' Au cu Hu cv Ku cw css s vl t :=
  ⟨(b.block _ (lt_of_block h.box)).trans h.box, (b.block _ (lt_of_block h.lb)).trans h.lb, (b.block _ (lt_of_block h.res)).trans h.res, h.u.on (KpS.below b), h.be.trans (b.mono h.be.size)⟩
theorem AckI.top {w wr : World} {Au Hu Ku : Option Addr} {cu cv cw : Nat} {css : List (Cells 4)} {s : Sp} {vl : Value} {t : Int} (h : AckI w wr Au cu Hu cv Ku cw css s vl t) (t' : Int) : AckI w (wr.setCell ⟨w.heap.size, 2, none⟩ (.int .i64 t')) Au cu Hu cv Ku cw css s vl t' :=
  have g := gr_set wr w.heap.size 2 (.int .i64 t')
  ⟨(sp5_set h.box (.int .i64 t')).2.2.1, (g.block _ (lt_of_block h.lb) (by simp)).trans h.lb, (g.block _ (lt_of_block h.res) (by simp)).trans h.res, h.u.on (KpS.gr g (show w.heap.size < w.heap.size + 3 by omega)), gr_from h.be h.be.size (Nat.le_refl _) g⟩
set_option maxRecDepth 100000 in
set_option maxHeartbeats 2000000 in
theorem spAck_any (v vl : Value) (s : Sp) (l : List (Int × Int)) (w : World) (hv : SpVal w w.heap.size v s) (hw : SpWf s) (hl : RSl w w.heap.size vl l) (hlm : l.length * 16 ≤ 140737488355328) : Calls Try.prog 22 #[v, vl] w (SpAckU (ackSp s l) w) := by
  have HCK := Lib.hid (fun w' (hb : Below w.heap.size w w') => spRefuse_any v vl s l w' ((hv.below hb).more hb.size) hw ((hl.below hb).more hb.size) hlm)
  have HCP := Lib.hid (fun w' (hb : Below w.heap.size w w') => spCopied_any v s w' ((hv.below hb).more hb.size) hw)
  obtain ⟨Al, cl, rfl, _, _, hlr⟩ := hl.ex
  obtain ⟨a, h, kk, rfl, ha, hh, hk⟩ := hv.ex
  obtain ⟨Aa, ca, csa, rfl, _, _, _, _⟩ := ha.ex
  obtain ⟨Ah, ch, rfl, _, _, _⟩ := hh.ex
  obtain ⟨Ak, ck, rfl, _, _, _⟩ := hk.ex
  obtain ⟨g0, g1, g2, g3⟩ := threeX w #[.int .i64 s.next, .slice Aa s.sent.length ca, .int .i64 s.top, .slice Ah s.heard.length ch, .slice Ak s.skip.length ck] #[.slice Al l.length cl] #[.int .i64 0, .slice none 0 0, .int .i64 0, .slice none 0 0, .slice none 0 0] 48 25 48
  have F0 := Lib.hid g0
  have N0 := Lib.hid g1
  have Z0 := Lib.hid g2
  have B0 := Lib.hid g3
  have HLR := Lib.hid hlr
  clear g0 g1 g2 g3 hv ha hh hk hl hlr
  obtain ⟨nl, hnl⟩ : ∃ x, l.length = x := ⟨_, rfl⟩
  have HNL := Lib.hid hnl
  rw [hnl] at Z0 B0 hlm F0 N0 HCK ⊢
  clear hnl
  obtain ⟨q0, q1, q2, q3, q4⟩ := sp5 F0.out
  have n0 := bk_cell N0.out 0
  simp only [List.getElem?_toArray, List.getElem?_cons_zero] at n0
  go_enter Try.func22, Try.ntmps22
  go_wp2_with fail
  refine (HCK.out _ B0.out).mono ?_
  rintro e w1 ⟨rfl, b1⟩
  have B1 := Lib.hid (B0.out.trans (b1.mono B0.out.size))
  have F1 := Lib.hid ((b1.block _ (lt_of_block F0.out)).trans F0.out)
  have Z1 := Lib.hid ((b1.block _ (lt_of_block Z0.out)).trans Z0.out)
  have N1 := Lib.hid ((b1.block _ (lt_of_block N0.out)).trans N0.out)
  clear b1 n0
  clear q0 q1 q2 q3 q4
  obtain ⟨q0, q1, q2, q3, q4⟩ := sp5 F1.out
  obtain ⟨z0, z1, z2, z3, z4⟩ := sp5 Z1.out
  have zf := fun i => bk_frz Z1.out i
  have n0 := bk_cell N1.out 0
  simp only [List.getElem?_toArray, List.getElem?_cons_zero] at n0
  by_cases ha0 : ackF s l = 0
  · have ok := (faultSp_iff s).1 (by have := ha0; unfold ackF at this; by_cases q : faultSp s = 0; exact q; rw [if_pos q] at this; exact absurd this q)
    have HR := Lib.hid (show ackSp s l = ({ s with top := topOf s.top l, sent := (s.sent.filter fun p => !memB l p.num).filter fun p => !decide (p.num ≤ topOf s.top l - 3) }, s.sent.filter fun p => memB l p.num, (s.sent.filter fun p => !memB l p.num).filter fun p => decide (p.num ≤ topOf s.top l - 3), 0) from by unfold ackSp; rw [if_neg (by simp [ha0])])
    have HS24 := Lib.hid ok.2.2.1
    have htp1 := ok.2.1.1
    have HTG := Lib.hid (fun k => topOf_ge s.top (l.take k))
    have HTL := Lib.hid (show topOf s.top l ≤ 4611686018427387903 from by
      have h1 : rngF s.next l = 0 := by
        have := ha0
        unfold ackF at this
        rw [if_neg (by rw [(faultSp_iff s).2 ok]; simp)] at this
        by_cases q : rngF s.next l = 0
        · exact q
        · rw [if_pos q] at this; exact absurd this q
      have := rng_top h1 ok.2.1.2
      have := ok.1.2
      omega)
    rw [ha0]
    go_wp2_with fail
    refine (HCP.out _ B1.out).mono ?_
    rintro e w2 ⟨Au, cu, Hu, cv, Ku, cw, css, rfl, hu, b2⟩
    have U2 := Lib.hid (hu.low (show w.heap.size + 3 ≤ w1.heap.size from lt_of_block Z1.out))
    have B2 := Lib.hid (B1.out.trans (b2.mono B1.out.size))
    have F2 := Lib.hid ((b2.block _ (lt_of_block F1.out)).trans F1.out)
    have Z2 := Lib.hid ((b2.block _ (lt_of_block Z1.out)).trans Z1.out)
    have N2 := Lib.hid ((b2.block _ (lt_of_block N1.out)).trans N1.out)
    clear b2 zf hu n0 ok
    clear q0 q1 q2 q3 q4
    clear z0 z1 z2 z3 z4
    obtain ⟨W3, hW3⟩ : ∃ x, (((((w2.setCell ⟨w.heap.size, 0, none⟩ (.int .i64 s.next)).setCell ⟨w.heap.size, 1, none⟩ (.slice Au s.sent.length cu)).setCell ⟨w.heap.size, 2, none⟩ (.int .i64 s.top)).setCell ⟨w.heap.size, 3, none⟩ (.slice Hu s.heard.length cv)).setCell ⟨w.heap.size, 4, none⟩ (.slice Ku s.skip.length cw)) = x := ⟨_, rfl⟩
    obtain ⟨f3, g3⟩ := sp5_put F2.out (.int .i64 s.next) (.slice Au s.sent.length cu) (.int .i64 s.top) (.slice Hu s.heard.length cv) (.slice Ku s.skip.length cw)
    rw [hW3] at f3 g3
    have F3 := Lib.hid f3
    have Z3 := Lib.hid ((g3.block _ (lt_of_block Z2.out) (by simp)).trans Z2.out)
    have B3 := Lib.hid (gr_from B2.out B2.out.size (Nat.le_refl _) g3)
    have U3 := Lib.hid (U2.out.on (KpS.gr g3 (show w.heap.size < w.heap.size + 3 by omega)))
    have N3 := Lib.hid ((g3.block _ (lt_of_block N2.out) (by simp)).trans N2.out)
    clear f3 g3
    obtain ⟨p0, p1, p2, p3, p4⟩ := sp5 F2.out
    have pf := fun i => bk_frz F2.out i
    have n3 := bk_cell N3.out 0
    simp only [List.getElem?_toArray, List.getElem?_cons_zero] at n3
    have K0 := Lib.hid (show AckI w W3 Au cu Hu cv Ku cw css s (.slice Al nl cl) (topOf s.top (l.take 0)) from ⟨F3.out, N3.out, Z3.out, U3.out, B3.out⟩)
    go_wp2_with fail
    clear p0 p1 p2 p3 p4 pf n3 F3 N3 Z3 U3 B3 hW3 F2 N2 Z2 U2 B2
    go_loopg [25] nl (fun gq iv wr => ∃ k : Nat, iv = .int .i64 k ∧ k + gq = nl ∧ Hid (AckI w wr Au cu Hu cv Ku cw css s (.slice Al nl cl) (topOf s.top (l.take k))))
    case atStart => exact ⟨0, rfl, by omega, K0⟩
    case round =>
      obtain ⟨k, rfl, hkg, KI⟩ := hrel
      obtain ⟨X, hX⟩ : ∃ X, X = wr := ⟨_, rfl⟩
      subst hX
      clear K0
      by_cases hlt : k < nl
      · have hkl' : k < l.length := by rw [HNL.out]; exact hlt
        obtain ⟨b, off, rfl, hbb, hc⟩ := HLR.out (by omega)
        obtain ⟨c0, c1⟩ := hc k hkl'
        obtain ⟨⟨lo, hi⟩, hp⟩ : ∃ p, l.getD k (0, 0) = p := ⟨_, rfl⟩
        have HT := Lib.hid (show topOf s.top (l.take (k + 1)) = max (topOf s.top (l.take k)) hi from by
          unfold topOf
          rw [List.take_succ_eq_append_getElem hkl', List.foldl_append]
          have : l[k] = (lo, hi) := by rw [← hp, List.getD_eq_getElem?_getD, List.getElem?_eq_getElem hkl']; rfl
          rw [this]
          rfl)
        rw [hp] at c0 c1
        simp only at c0 c1
        have x0 := (KI.out.be.cell (p := ⟨b, off + k * 2, none⟩) hbb).trans c0
        have x1 := (KI.out.be.cell (p := ⟨b, off + k * 2 + 1, none⟩) hbb).trans c1
        obtain ⟨tk, htk⟩ : ∃ x, topOf s.top (l.take k) = x := ⟨_, rfl⟩
        rw [htk] at KI HT
        have hki : (k : Int) < (nl : Int) := by omega
        have AB := Lib.hid ((Below.refl X.heap.size X).alloc (Nat.le_refl _) (.cells #[.int .i64 lo, .int .i64 hi] 63))
        have PB := Lib.hid (heap_alloc_new X (.cells #[.int .i64 lo, .int .i64 hi] 63))
        have KA := Lib.hid (KI.out.on AB.out)
        clear hc hp c0 c1 htk
        go_upto_region 8 with fail
        clear x0 x1
        obtain ⟨Y, hY⟩ : ∃ x, X.alloc (.cells #[.int .i64 lo, .int .i64 hi] 63) = x := ⟨_, rfl⟩
        rw [hY] at AB PB KA
        try rw [hY]
        clear hY
        have y0 := bk_cell PB.out 0
        have y1 := bk_cell PB.out 1
        simp only [List.getElem?_toArray, List.getElem?_cons_zero, List.getElem?_cons_succ] at y0 y1
        obtain ⟨q0, q1, q2, q3, q4⟩ := sp5 KA.out.box
        have qf := fun i => bk_frz KA.out.box i
        by_cases hm : tk < hi
        · have e5 : max tk hi = hi := by omega
          have KN := Lib.hid (KA.out.top hi)
          have HT2 := Lib.hid (show topOf s.top (l.take (k + 1)) = hi from by rw [HT.out]; exact e5)
          have d5 : decide (tk < hi) = true := by simp [hm]
          obtain ⟨Y2, hY2⟩ : ∃ x, Y.setCell ⟨w.heap.size, 2, none⟩ (.int .i64 hi) = x := ⟨_, rfl⟩
          rw [hY2] at KN
          clear HT
          go_wp2_with fail
          go_roundg (gk - 1)
          case measure => omega
          case rel => exact ⟨k + 1, by first | rfl | go_num, by omega, by rw [HT2.out]; exact KN⟩
        · have e5 : max tk hi = tk := by omega
          have KN := Lib.hid (KA.out.top tk)
          have HT2 := Lib.hid (show topOf s.top (l.take (k + 1)) = tk from by rw [HT.out]; exact e5)
          have d5 : decide (tk < hi) = false := by simp; omega
          obtain ⟨Y2, hY2⟩ : ∃ x, Y.setCell ⟨w.heap.size, 2, none⟩ (.int .i64 tk) = x := ⟨_, rfl⟩
          rw [hY2] at KN
          clear HT
          go_wp2_with fail
          go_roundg (gk - 1)
          case measure => omega
          case rel => exact ⟨k + 1, by first | rfl | go_num, by omega, by rw [HT2.out]; exact KN⟩
      · have hkn : k = nl := by omega
        subst k
        have KE := KI.out
        rw [List.take_of_length_le (by rw [HNL.out]; exact Nat.le_refl _)] at KE
        have htg := HTG.out nl
        rw [List.take_of_length_le (by rw [HNL.out]; exact Nat.le_refl _)] at htg
        have F3 := Lib.hid KE.box
        have N3 := Lib.hid KE.lb
        have Z3 := Lib.hid KE.res
        have U3 := Lib.hid KE.u
        have B3 := Lib.hid KE.be
        have htl := HTL.out
        obtain ⟨top, htop⟩ : ∃ x, topOf s.top l = x := ⟨_, rfl⟩
        rw [htop] at F3 HR htg htl
        clear KE KI HTG htop
        obtain ⟨q0, q1, q2, q3, q4⟩ := sp5 F3.out
        have HSP := Lib.hid (show Calls Try.prog 51 #[.slice Au s.sent.length cu, .func (.func 52) #[] #[.pointer (some ⟨w.heap.size + 1, 0, none⟩)]] X fun e w' => ∃ u1 u2, e = .returned (.tuple #[u1, u2]) ∧ SplI X w' u1 u2 (sel (fun p => memB l p.num) css s.sent) (sel (fun p => !memB l p.num) css s.sent) from by
          obtain ⟨A', c', e1, h1, h2, hr⟩ := U3.out.own.slice
          injection e1 with e1 e2 e3
          subst e1
          exact split_ack1 Au s.sent.length cu css s.sent (w.heap.size + 1) (fun p => memB l p.num) X hr (All2.of U3.out.len fun i h1 h2 => StS.now (U3.out.cells i h1 h2)) rfl (by have := HS24.out; omega)
            (fun i hi w' hb Af nf cf => ackC1_any _ _ _ Af nf cf Al nl cl l _ w' ((hb.block _ (lt_of_block N3.out)).trans N3.out) ((HLR.out.below (B3.out.trans (hb.mono B3.out.size))).more (Nat.le_trans B3.out.size hb.size)) HNL.out (by omega)))
        go_wp2_with fail
        refine (HSP.out).mono ?_
        rintro e w4 ⟨u1, u2, rfl, SI⟩
        have b4 := SI.b
        have AH := sel_all (R := fun c q => StS X (fun j => j < w.heap.size + 3) (fun w => PcC w w.heap.size c q)) (fun p => memB l p.num) (All2.of U3.out.len fun i h1 h2 => StS.anti (U3.out.cells i h1 h2) (fun j hj => .inl hj))
        have AL := sel_all (R := fun c q => StS X (fun j => j < w.heap.size + 3) (fun w => PcC w w.heap.size c q)) (fun p => !memB l p.num) (All2.of U3.out.len fun i h1 h2 => StS.anti (U3.out.cells i h1 h2) (fun j hj => .inl hj))
        have AL4 := Lib.hid (AL.imp fun _ _ q => StS.later q b4)
        obtain ⟨A4, c4, hu1, hP4⟩ := SI.pl1 (Nat.le_of_lt_succ (Nat.lt_succ_of_le (lt_of_block Z3.out))) AH
        have P4 := Lib.hid hP4
        obtain ⟨n4, hn4⟩ : ∃ x, (s.sent.filter fun p => memB l p.num).length = x := ⟨_, rfl⟩
        rw [hn4] at hu1
        subst hu1
        obtain ⟨A5, c5, hu2, _, _, hr5⟩ := SI.o2.slice
        have hl5 := AL.len
        have h245 : (s.sent.filter fun p => !memB l p.num).length ≤ 24 := Nat.le_trans (List.length_filter_le _ _) HS24.out
        obtain ⟨n5, hn5⟩ : ∃ x, (s.sent.filter fun p => !memB l p.num).length = x := ⟨_, rfl⟩
        rw [hl5, hn5] at hu2
        subst hu2
        obtain ⟨L5, hL5⟩ : ∃ x, sel (fun p => !memB l p.num) css s.sent = x := ⟨_, rfl⟩
        rw [hL5] at AL4 hr5
        obtain ⟨P5, hP5⟩ : ∃ x, (s.sent.filter fun p => !memB l p.num) = x := ⟨_, rfl⟩
        rw [hP5] at AL4 hn5 HR h245
        rw [hn5] at h245
        have F4 := Lib.hid ((b4.block _ (lt_of_block F3.out)).trans F3.out)
        have N4 := Lib.hid ((b4.block _ (lt_of_block N3.out)).trans N3.out)
        have Z4 := Lib.hid ((b4.block _ (lt_of_block Z3.out)).trans Z3.out)
        have U4 := Lib.hid (U3.out.on (KpS.below b4))
        have B4 := Lib.hid (B3.out.trans (b4.mono B3.out.size))
        have HSQ := Lib.hid (split_ack2 A5 n5 c5 L5 P5 w.heap.size (fun p => decide (p.num ≤ top - 3)) w4 hr5 (AL4.out.imp fun _ _ q => StS.now q) hn5 (by omega)
          (fun i hi w' hb Af nf cf => ackC2_any _ _ _ Af nf cf _ _ top _ _ _ w' ((hb.block _ (lt_of_block F4.out)).trans F4.out) (by omega)))
        clear q0 q1 q2 q3 q4 SI b4 AH AL hP4 hr5 hl5 h245 hn5 hL5 hP5 hn4 HSP
        go_wp2_with fail
        refine (HSQ.out).mono ?_
        rintro e w5 ⟨v1, v2, rfl, SJ⟩
        have b5 := SJ.b
        have AO := sel_all (fun p => decide (p.num ≤ top - 3)) AL4.out
        have AQ := sel_all (fun p => !decide (p.num ≤ top - 3)) AL4.out
        obtain ⟨A6, c6, hv1, hP6⟩ := SJ.pl1 (Nat.le_of_lt_succ (Nat.lt_succ_of_le (lt_of_block Z4.out))) AO
        obtain ⟨A7, c7, hv2, hP7⟩ := SJ.pl2 (Nat.le_of_lt_succ (Nat.lt_succ_of_le (lt_of_block Z4.out))) AQ
        have P6 := Lib.hid hP6
        have P7 := Lib.hid hP7
        obtain ⟨n6, hn6⟩ : ∃ x, (P5.filter fun p => decide (p.num ≤ top - 3)).length = x := ⟨_, rfl⟩
        obtain ⟨n7, hn7⟩ : ∃ x, (P5.filter fun p => !decide (p.num ≤ top - 3)).length = x := ⟨_, rfl⟩
        rw [hn6] at hv1
        rw [hn7] at hv2
        subst hv1
        subst hv2
        have F5 := Lib.hid ((b5.block _ (lt_of_block F4.out)).trans F4.out)
        have Z5 := Lib.hid ((b5.block _ (lt_of_block Z4.out)).trans Z4.out)
        have U5 := Lib.hid (U4.out.on (KpS.below b5))
        have P45 := Lib.hid (PlU.on P4.out (KpS.below b5))
        have B5 := Lib.hid (B4.out.trans (b5.mono B4.out.size))
        clear SJ b5 AO AQ hP6 hP7 hn6 hn7
        obtain ⟨q0, q1, q2, q3, q4⟩ := sp5 F5.out
        have pf := fun i => bk_frz F5.out i
        obtain ⟨W6, hW6⟩ : ∃ x, w5.setCell ⟨w.heap.size, 1, none⟩ (.slice A7 n7 c7) = x := ⟨_, rfl⟩
        have f6 := (sp5_set F5.out (.slice A7 n7 c7)).2.1
        have g6 := gr_set w5 w.heap.size 1 (.slice A7 n7 c7)
        rw [hW6] at f6 g6
        have F6 := Lib.hid f6
        have Z6 := Lib.hid ((g6.block _ (lt_of_block Z5.out) (by simp)).trans Z5.out)
        have B6 := Lib.hid (gr_from B5.out B5.out.size (Nat.le_refl _) g6)
        have U6 := Lib.hid (U5.out.on (KpS.gr g6 (show w.heap.size < w.heap.size + 3 by omega)))
        have P46 := Lib.hid (P45.out.on (KpS.gr g6 (show w.heap.size < w.heap.size + 3 by omega)))
        have P66 := Lib.hid (P6.out.on (KpS.gr g6 (show w.heap.size < w.heap.size + 3 by omega)))
        have P76 := Lib.hid (P7.out.on (KpS.gr g6 (show w.heap.size < w.heap.size + 3 by omega)))
        clear f6 g6
        obtain ⟨r0, r1, r2, r3, r4⟩ := sp5 F6.out
        obtain ⟨z0, z1, z2, z3, z4⟩ := sp5 Z6.out
        have zf := fun i => bk_frz Z6.out i
        go_wp2_with fail
        obtain ⟨RY, gp⟩ := sp5_put Z6.out (.int .i64 s.next) (.slice A7 n7 c7) (.int .i64 top) (.slice Hu s.heard.length cv) (.slice Ku s.skip.length cw)
        obtain ⟨y0, y1, y2, y3, y4⟩ := sp5 RY
        refine bodyPost_ret (by simp [results, Try.results22, go_sem, y0, y1, y2, y3, y4]; try rfl) rfl ?_
        rw [HR.out]
        refine ⟨gr_from B6.out B6.out.size (by omega) gp, _, _, _, rfl, SpU.low (lo := w.heap.size + 3) (fun w' k => ?_) (by omega), PlU.low (lo := w.heap.size + 3) (P46.out.on (KpS.gr gp (show w.heap.size + 2 < w.heap.size + 3 by omega))) (by omega), PlU.low (lo := w.heap.size + 3) (P66.out.on (KpS.gr gp (show w.heap.size + 2 < w.heap.size + 3 by omega))) (by omega)⟩
        have kk := (KpS.gr (S := fun j => j < w.heap.size + 3) gp (show w.heap.size + 2 < w.heap.size + 3 by omega)).trans k
        have k1 := U6.out.parts w' kk
        exact ⟨_, _, _, rfl, P76.out w' kk, k1.2.1, k1.2.2⟩
  · have HR := Lib.hid (show ackSp s l = (sp0, [], [], ackF s l) from by unfold ackSp; rw [if_pos ha0])
    obtain ⟨fa, hfa⟩ : ∃ x, ackF s l = x := ⟨_, rfl⟩
    rw [hfa] at HR ha0 ⊢
    have d1 : (fa != 0) = true := by simp [ha0]
    clear hfa ha0
    go_wp2_with fail
    obtain ⟨RY, gp⟩ := sp5_put Z1.out (.int .i64 0) (.slice none 0 0) (.int .i64 0) (.slice none 0 0) (.slice none 0 0)
    obtain ⟨y0, y1, y2, y3, y4⟩ := sp5 RY
    refine bodyPost_ret (by simp [results, Try.results22, go_sem, y0, y1, y2, y3, y4]; try rfl) rfl ?_
    rw [HR.out]
    exact ⟨gr_from B1.out B1.out.size (by omega) gp, _, _, _, rfl, SpU.nil _ _, PlU.nil _ _, PlU.nil _ _⟩
end Go.Proofs.Ytnccibaifffhhaa
