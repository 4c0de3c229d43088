/- Contracts of package space: Send. -/
import Derived.Test.YtnccibaifffhhaaSpHear
import Derived.Test.YtnccibaifffhhaaSpSplit
namespace Go.Proofs.Ytnccibaifffhhaa
set_option linter.unusedVariables false
open Go.RowKit P

def SpX (lo : Nat) (Au : Option Addr) : Nat → Prop := fun j => j < lo ∨ Au = some ⟨j, 0, none⟩
def FsX (w : World) (S : Nat → Prop) (v : Value) (n : Nat) (fs : List Fr) : Prop := ∃ A c, v = .slice A n c ∧ StS w S (fun w => FsSl w w.heap.size v fs)
theorem FsX.later {w w' : World} {S : Nat → Prop} {n : Nat} {v : Value} {fs : List Fr} (h : FsX w S v n fs) (b : Below w.heap.size w w') : FsX w' S v n fs := by
  obtain ⟨A, c, e, h⟩ := h
  exact ⟨A, c, e, StS.later h b⟩
theorem FsX.made {w0 w w' : World} {x v : Value} {n : Nat} {fs : List Fr} (h : FsX w (SXv w0 false x) v n fs) (hb : Below w.heap.size w w') : FsX w' (SXv w0 true (.pointer (some ⟨w.heap.size, 0, none⟩))) v n fs := by
  obtain ⟨A, c, e, h⟩ := h
  exact ⟨A, c, e, StS.made h hb⟩
theorem FsX.of {w0 w w1 : World} {b : Bool} {x v : Value} {n : Nat} {fs : List Fr} (h : FsN w1 w.heap.size v n fs) (h0 : w0.heap.size ≤ w.heap.size) (hx : b = true → ∃ k, x = .pointer (some ⟨k, 0, none⟩) ∧ k < w.heap.size) : FsX w1 (SXv w0 b x) v n fs := by
  obtain ⟨A, c, e, h⟩ := h
  exact ⟨A, c, e, StS.toX h h0 hx⟩
theorem pc4_put {w : World} {b : Nat} {a0 a1 a2 a3 : Value} {T : TypeId} (h : w.heap[b]? = some (.cells #[a0, a1, a2, a3] T (0, 0))) (v0 v1 v2 v3 : Value) :
    ((((w.setCell ⟨b, 0, none⟩ v0).setCell ⟨b, 1, none⟩ v1).setCell ⟨b, 2, none⟩ v2).setCell ⟨b, 3, none⟩ v3).heap[b]? = some (.cells #[v0, v1, v2, v3] T (0, 0)) ∧
    w.grownBy ((((w.setCell ⟨b, 0, none⟩ v0).setCell ⟨b, 1, none⟩ v1).setCell ⟨b, 2, none⟩ v2).setCell ⟨b, 3, none⟩ v3) (some b) :=
  let k := setAll_full h [v0, v1, v2, v3] rfl
  ⟨k.1, k.2.2⟩
/-- a space with one packet more -/
abbrev pN (s : Sp) (now size : Int) (l : List Fr) : Pcl := ⟨s.next, now, size, l⟩
def addP (s : Sp) (p : Pcl) : Sp := { s with next := s.next + 1, sent := s.sent ++ [p] }
/-- behind the append -/
structure SdF (w w9 : World) (A9 : Option Addr) (c9 : Nat) (Hu : Option Addr) (cv : Nat) (Ku : Option Addr) (cw kp : Nat) (bx pv : Array Value) (p : Pcl) (s : Sp) : Prop where
  box : w9.heap[w.heap.size]? = some (.cells bx 48 (0, 0))
  res : w9.heap[w.heap.size + 1]? = some (.cells #[.int .i64 0, .slice none 0 0, .int .i64 0, .slice none 0 0, .slice none 0 0] 48 (0, 0))
  pv : w9.heap[kp]? = some (.cells pv 54 (0, 0))
  be : Below w.heap.size w w9
  u : Sp3 (w.heap.size + 2) w9 (.slice A9 (s.sent ++ [p]).length c9) (.slice Hu s.heard.length cv) (.slice Ku s.skip.length cw) (addP s p)
structure SpSd9 (w0 : World) (K : Nat) (nx now size : Int) (Al : Option Addr) (nl cl : Nat) (l : List Fr) (V0 V1 V2 V3 V4 : Value) (sb0 sb1 sb2 sb3 sb4 sb5 sb6 sb7 sb8 : Bool) (sx0 sx1 sx2 sx3 sx4 sx5 sx6 sx7 sx8 : Value) (w : World) : Prop where
  be : Below w0.heap.size w0 w
  d1 : sb1 = true → sb0 = true
  d5 : sb5 = true → sb4 = true
  d6 : sb6 = true → sb1 = true ∧ sb2 = true ∧ sb3 = true ∧ sb5 = true
  d8 : sb8 = true → sb0 = true ∧ sb1 = true ∧ sb2 = true ∧ sb3 = true ∧ sb4 = true ∧ sb5 = true ∧ sb6 = true ∧ sb7 = true
  h0 : sb0 = true → sx0 = V0
  h1 : sb1 = true → sx1 = V1
  h2 : sb2 = true → sx2 = V2
  h3 : sb3 = true → sx3 = V3
  h4 : sb4 = true → sx4 = V4
  h5 : sb5 = true → sb8 = false → FsX w (SXv w0 sb7 sx7) sx5 nl l
  h6 : sb6 = true → sb8 = false → ∃ u, sx6 = .agg #[.int .i64 nx, .int .i64 now, .int .i64 size, u] ∧ FsX w (SXv w0 sb7 sx7) u nl l
  h7 : sb7 = true → sb8 = false → ∃ k, sx7 = .pointer (some ⟨k, 0, none⟩) ∧ w0.heap.size ≤ k ∧ w.heap[k]? = some (.cells #[.int .i64 0, .int .i64 0, .int .i64 0, .slice none 0 0] 54 (0, 0))
  h8 : sb8 = true → ∃ k Ap cp, sx7 = .pointer (some ⟨k, 0, none⟩) ∧ w0.heap.size ≤ k ∧ w.heap[k]? = some (.cells #[.int .i64 nx, .int .i64 now, .int .i64 size, .slice Ap nl cp] 54 (0, 0)) ∧ StS w (fun j => j < w0.heap.size) (fun wv => FsSl wv wv.heap.size (.slice Ap nl cp) l) ∧ Below w0.heap.size w0 w
structure SpSd12 (w0 : World) (K kp n9 : Nat) (s : Sp) (A9 Hu Ku : Option Addr) (c9 cv cw : Nat) (now size : Int) (l : List Fr) (Ap : Option Addr) (cp : Nat) (V0 V1 V2 V4 V5 : Value) (tb0 tb1 tb2 tb3 tb4 tb5 : Bool) (tx0 tx1 tx2 tx3 tx4 tx5 : Value) (w : World) : Prop where
  be : tb3 = false → Below w0.heap.size w0 w
  d2 : tb2 = true → tb1 = true
  d3 : tb3 = true → tb0 = true
  d4 : tb4 = true → tb0 = true ∧ tb1 = true ∧ tb2 = true ∧ tb3 = true
  d5 : tb5 = true → tb0 = true ∧ tb1 = true ∧ tb2 = true ∧ tb3 = true ∧ tb4 = true
  py : w.heap[kp]? = some (.cells #[.int .i64 s.next, .int .i64 now, .int .i64 size, .slice Ap l.length cp] 54 (0, 0))
  h0 : tb0 = true → tx0 = V0
  h1 : tb1 = true → tx1 = V1
  h2 : tb2 = true → tx2 = V2
  h3 : tb3 = true → KpS (fun j => j < K + 2) w0 w ∧ w.heap[K + 1]? = some (.cells #[.int .i64 (s.next + 1), .slice A9 n9 c9, .int .i64 s.top, .slice Hu s.heard.length cv, .slice Ku s.skip.length cw] 48 (0, 0)) ∧ (∃ wb, Below w0.heap.size w0 wb ∧ wb.grownBy w (some (K + 1)))
  h4 : tb4 = true → tx4 = V4
  h5 : tb5 = true → tx5 = V5
set_option maxRecDepth 100000 in
set_option maxHeartbeats 4000000 in
theorem spSend_any (v vl : Value) (s : Sp) (now size : Int) (l : List Fr) (w : World) (hv : SpVal w w.heap.size v s) (hw : SpWf s) (hl : FsSl w w.heap.size vl l) (hlw : FrsWf l) : Calls Try.prog 21 #[v, .int .i64 now, .int .i64 size, vl] w (SpSendU (sendSp s now size l) w) := by
  have HCK := Lib.hid (fun w' (hb : Below w.heap.size w w') => spChk_any v s w' ((hv.below hb).more hb.size) hw)
  have HCP := Lib.hid (fun w' (hb : Below w.heap.size w w') => spCopied_any v s w' ((hv.below hb).more hb.size) hw)
  obtain ⟨a, h, kk, rfl, ha, hh, hk⟩ := hv.ex
  obtain ⟨Aa, ca, csa, rfl, _, _, _, _⟩ := ha.ex
  obtain ⟨Ah, ch, rfl, _, _, _⟩ := hh.ex
  obtain ⟨Ak, ck, rfl, _, _, _⟩ := hk.ex
  obtain ⟨g0, g1, g2⟩ := twoX w #[.int .i64 s.next, .slice Aa s.sent.length ca, .int .i64 s.top, .slice Ah s.heard.length ch, .slice Ak s.skip.length ck] #[.int .i64 0, .slice none 0 0, .int .i64 0, .slice none 0 0, .slice none 0 0] 48 48
  have F0 := Lib.hid g0
  have Z0 := Lib.hid g1
  have B0 := Lib.hid g2
  clear g0 g1 g2
  clear hv ha hh hk
  obtain ⟨Al, cl, _, rfl, _, _, _, _⟩ := hl.ex
  obtain ⟨i0, hi0, hz0, hz1, hz2⟩ := info_partsE infoP4
  have HI := Lib.hid hi0
  have HZ := Lib.hid hz0
  have HZ1 := Lib.hid hz1
  have HZ2 := Lib.hid hz2
  clear hi0 hz0 hz1 hz2
  obtain ⟨q0, q1, q2, q3, q4⟩ := sp5 F0.out
  go_enter Try.func21, Try.ntmps21
  go_wp2_with fail
  refine (HCK.out _ B0.out).mono ?_
  rintro e w1 ⟨rfl, b1⟩
  have B1 := Lib.hid (B0.out.trans (b1.mono B0.out.size))
  have F1 := Lib.hid ((b1.block _ (lt_of_block F0.out)).trans F0.out)
  have Z1 := Lib.hid ((b1.block _ (lt_of_block Z0.out)).trans Z0.out)
  clear b1
  clear q0 q1 q2 q3 q4
  obtain ⟨q0, q1, q2, q3, q4⟩ := sp5 F1.out
  obtain ⟨z0, z1, z2, z3, z4⟩ := sp5 Z1.out
  have zf := fun i => bk_frz Z1.out i
  rcases faultSp_two s with f | f
  · by_cases c1 : 0 ≤ now ∧ now ≤ 1099511627776
    · have d1 : decide (0 ≤ now ∧ now ≤ 1099511627776) = true := by rw [decide_eq_true_iff]; exact c1
      by_cases c2 : 0 ≤ size ∧ size ≤ 400
      · have d2 : decide (0 ≤ size ∧ size ≤ 400) = true := by rw [decide_eq_true_iff]; exact c2
        rw [f]
        go_wp2_with fail
        refine (within_any _ _ _).mono ?_
        rintro e w9 ⟨rfl, rfl⟩
        rw [d1]
        go_wp2_with fail
        refine (within_any _ _ _).mono ?_
        rintro e w9 ⟨rfl, rfl⟩
        rw [d2]
        by_cases c3 : s.sent.length = 24
        · have d3 : ((s.sent.length : Int) == 24) = true := by simp; omega
          have HR := Lib.hid (show sendSp s now size l = (sp0, 0, 8) from by unfold sendSp; rw [if_neg (by simp [f]), if_neg (by simp only [Decidable.not_not]; exact ⟨c1, c2⟩), if_pos (by omega)])
          clear c3
          go_wp2_with fail
          obtain ⟨RY, gp⟩ := sp5_put Z1.out (.int .i64 0) (.slice none 0 0) (.int .i64 0) (.slice none 0 0) (.slice none 0 0)
          obtain ⟨y0, y1, y2, y3, y4⟩ := sp5 RY
          refine bodyPost_ret (by simp [results, Try.results21, go_sem, y0, y1, y2, y3, y4]; try rfl) rfl ?_
          rw [HR.out]
          exact ⟨gr_from B1.out B1.out.size (Nat.le_succ _) gp, _, rfl, SpU.nil _ _⟩
        · have d3 : ((s.sent.length : Int) == 24) = false := by simp; omega
          by_cases c4 : s.next = 4611686018427387903
          · have d4 : (s.next == 4611686018427387903) = true := by simp [c4]
            have HR := Lib.hid (show sendSp s now size l = (sp0, 0, 8) from by unfold sendSp; rw [if_neg (by simp [f]), if_neg (by simp only [Decidable.not_not]; exact ⟨c1, c2⟩), if_pos (by omega)])
            clear c4
            go_wp2_with fail
            obtain ⟨RY, gp⟩ := sp5_put Z1.out (.int .i64 0) (.slice none 0 0) (.int .i64 0) (.slice none 0 0) (.slice none 0 0)
            obtain ⟨y0, y1, y2, y3, y4⟩ := sp5 RY
            refine bodyPost_ret (by simp [results, Try.results21, go_sem, y0, y1, y2, y3, y4]; try rfl) rfl ?_
            rw [HR.out]
            exact ⟨gr_from B1.out B1.out.size (Nat.le_succ _) gp, _, rfl, SpU.nil _ _⟩
          · have d4 : (s.next == 4611686018427387903) = false := by simp [c4]
            have ok := (faultSp_iff s).1 f
            have HR := Lib.hid (show sendSp s now size l = ({ s with next := s.next + 1, sent := s.sent ++ [pN s now size l] }, s.next, 0) from by unfold sendSp; rw [if_neg (by simp [f]), if_neg (by simp only [Decidable.not_not]; exact ⟨c1, c2⟩), if_neg (by omega)])
            have HS24 := Lib.hid (show s.sent.length ≤ 24 from ok.2.2.1)
            have hnb := ok.1
            go_wp2_with fail
            refine (HCP.out _ B1.out).mono ?_
            rintro e w2 ⟨Au, cu, Hu, cv, Ku, cw, css, rfl, hu, b2⟩
            have U2 := Lib.hid (hu.low (show w.heap.size + 2 ≤ w1.heap.size from lt_of_block Z1.out))
            have B2 := Lib.hid (B1.out.trans (b2.mono B1.out.size))
            have F2 := Lib.hid ((b2.block _ (lt_of_block F1.out)).trans F1.out)
            have Z2 := Lib.hid ((b2.block _ (lt_of_block Z1.out)).trans Z1.out)
            clear b2 zf hu ok d1 d2 d3 d4
            clear q0 q1 q2 q3 q4
            clear z0 z1 z2 z3 z4
            obtain ⟨W3, hW3⟩ : ∃ x, (((((w2.setCell ⟨w.heap.size, 0, none⟩ (.int .i64 s.next)).setCell ⟨w.heap.size, 1, none⟩ (.slice Au s.sent.length cu)).setCell ⟨w.heap.size, 2, none⟩ (.int .i64 s.top)).setCell ⟨w.heap.size, 3, none⟩ (.slice Hu s.heard.length cv)).setCell ⟨w.heap.size, 4, none⟩ (.slice Ku s.skip.length cw)) = x := ⟨_, rfl⟩
            obtain ⟨f3, g3⟩ := sp5_put F2.out (.int .i64 s.next) (.slice Au s.sent.length cu) (.int .i64 s.top) (.slice Hu s.heard.length cv) (.slice Ku s.skip.length cw)
            rw [hW3] at f3 g3
            have F3 := Lib.hid f3
            have Z3 := Lib.hid ((g3.block _ (lt_of_block Z2.out) (by simp)).trans Z2.out)
            have B3 := Lib.hid (gr_from B2.out B2.out.size (Nat.le_refl _) g3)
            have U3 := Lib.hid (U2.out.on (KpS.gr g3 (show w.heap.size < w.heap.size + 2 by omega)))
            clear f3 g3
            obtain ⟨p0, p1, p2, p3, p4⟩ := sp5 F2.out
            have pf := fun i => bk_frz F2.out i
            have HCF := Lib.hid (fun w' (hb : Below W3.heap.size W3 w') => (cpFrames_any (.slice Al l.length cl) l w' ((hl.below (B3.out.trans (hb.mono B3.out.size))).more (Nat.le_trans B3.out.size hb.size)) hlw).mono (R' := fun e w'' => ∃ u, e = .returned u ∧ FsN w'' w'.heap.size u l.length l ∧ Below w'.heap.size w' w'') (by rintro e w'' ⟨u, rfl, h1, h2⟩; exact ⟨u, rfl, FsN.of h1, h2⟩))
            go_upto_region 9 with fail
            clear p0 p1 p2 p3 p4 pf hl
            obtain ⟨K, hK⟩ : ∃ x, w.heap.size = x := ⟨_, rfl⟩
            have HKK := Lib.hid hK
            obtain ⟨nx, hnx⟩ : ∃ x, s.next = x := ⟨_, rfl⟩
            have HNXE := Lib.hid hnx
            obtain ⟨nl, hnl⟩ : ∃ x, l.length = x := ⟨_, rfl⟩
            have HNL := Lib.hid hnl
            rw [hnl] at HCF ⊢
            rw [hK, hnx] at F3 ⊢
            clear hK hnx hnl
            refine wp_region_inv (fun lis_ act_ wld_ => ∃ (sb0 sb1 sb2 sb3 sb4 sb5 sb6 sb7 sb8 : Bool) (sx0 sx1 sx2 sx3 sx4 sx5 sx6 sx7 sx8 : Value), lis_ = #[sb0, sb1, sb2, sb3, sb4, sb5, sb6, sb7, sb8] ∧ act_ = { tmps := #[Value.agg #[Value.int IntKind.i64 nx, Value.slice Aa s.sent.length ca, Value.int IntKind.i64 s.top, Value.slice Ah s.heard.length ch, Value.slice Ak s.skip.length ck], Value.int IntKind.i64 now, Value.int IntKind.i64 size, Value.slice Al nl cl, Value.pointer (some { block := K, off := 0 }), undef, undef, undef, Value.pointer (some { block := K + 1, off := 0 }), Value.int IntKind.i64 0, Value.int IntKind.i64 0, Value.int IntKind.i64 0, sx7, Value.agg #[Value.int IntKind.i64 nx, Value.slice Aa s.sent.length ca, Value.int IntKind.i64 s.top, Value.slice Ah s.heard.length ch, Value.slice Ak s.skip.length ck], Value.int IntKind.i64 0, Value.int IntKind.i64 0, Value.bool false, undef, undef, Value.bool false, Value.int IntKind.i64 now, Value.bool true, Value.bool false, Value.bool false, Value.int IntKind.i64 size, Value.bool true, Value.bool false, Value.bool false, undef, Value.bool false, Value.pointer (some { block := K, off := 1 }), Value.slice Aa s.sent.length ca, Value.int IntKind.i64 ↑s.sent.length, Value.bool false, Value.bool false, Value.pointer (some { block := K, off := 0 }), Value.int IntKind.i64 nx, Value.bool false, Value.bool false, undef, Value.agg #[Value.int IntKind.i64 nx, Value.slice Aa s.sent.length ca, Value.int IntKind.i64 s.top, Value.slice Ah s.heard.length ch, Value.slice Ak s.skip.length ck], Value.agg #[Value.int IntKind.i64 nx, Value.slice Au s.sent.length cu, Value.int IntKind.i64 s.top, Value.slice Hu s.heard.length cv, Value.slice Ku s.skip.length cw], sx0, sx1, sx2, sx3, sx4, sx5, sx6, undef, undef, undef, undef, undef, undef, undef, undef, undef, undef, undef, undef, undef], defers := [] } ∧ SpSd9 W3 K nx now size Al nl cl l (.pointer (some ⟨K, 0, none⟩)) (.int .i64 nx) (.int .i64 now) (.int .i64 size) (.slice Al nl cl) sb0 sb1 sb2 sb3 sb4 sb5 sb6 sb7 sb8 sx0 sx1 sx2 sx3 sx4 sx5 sx6 sx7 sx8 wld_) (by kernel_rfl) ?h0 ?hfin ?hI
            case h0 => exact ⟨_, _, _, _, _, _, _, _, _, _, _, _, _, _, _, _, _, undef, rfl, rfl, ⟨(Below.refl _ _).drew, (fun h => by cases h), (fun h => by cases h), (fun h => by cases h), (fun h => by cases h), (fun h => by cases h), (fun h => by cases h), (fun h => by cases h), (fun h => by cases h), (fun h => by cases h), (fun h => by cases h), (fun h => by cases h), (fun h => by cases h), (fun h => by cases h)⟩⟩
            case hI =>
              rintro listed a w ⟨sb0, sb1, sb2, sb3, sb4, sb5, sb6, sb7, sb8, sx0, sx1, sx2, sx3, sx4, sx5, sx6, sx7, sx8, rfl, rfl, H⟩ i hi
              obtain ⟨hun, oj, hoj, hall⟩ := mem_ready.1 hi
              clear hi
              rcases i with _ | _ | _ | _ | _ | _ | _ | _ | _ | i
              · have ho := hoj
                simp only [List.getElem?_toArray, List.getElem?_cons_zero, Option.some.injEq] at hoj
                subst hoj
                obtain rfl : sb0 = false := hun
                clear hall
                obtain rfl : sb1 = false := Bool.eq_false_iff.2 fun h => Bool.false_ne_true (H.d1 h)
                obtain rfl : sb6 = false := Bool.eq_false_iff.2 fun h => Bool.false_ne_true (H.d6 h).1
                obtain rfl : sb8 = false := Bool.eq_false_iff.2 fun h => Bool.false_ne_true (H.d8 h).1
                have hbe := H.be
                refine wpOp_step ho (fun K' hK => ?_)
                have HK := Lib.hid hK
                clear hK ho
                go_simp
                exact HK.out _ _ ⟨_, _, _, _, _, _, _, _, _, _, _, _, _, _, _, _, _, sx8, rfl, rfl, ⟨hbe, (fun h => by cases h), H.d5, H.d6, (fun h => by cases h), (fun _ => rfl), H.h1, H.h2, H.h3, H.h4, H.h5, (fun h => by cases h), H.h7, (fun h => by cases h)⟩⟩
              · have ho := hoj
                simp only [List.getElem?_toArray, List.getElem?_cons_succ, List.getElem?_cons_zero, Option.some.injEq] at hoj
                subst hoj
                obtain rfl : sb1 = false := hun
                obtain rfl : sb0 = true := hall ⟨0, .data⟩ (by simp) (by kernel_rfl)
                clear hall
                obtain rfl : sb6 = false := Bool.eq_false_iff.2 fun h => Bool.false_ne_true (H.d6 h).1
                obtain rfl : sb8 = false := Bool.eq_false_iff.2 fun h => Bool.false_ne_true (H.d8 h).2.1
                have hbe := H.be
                obtain rfl := H.h0 rfl
                obtain ⟨q0, q1, q2, q3, q4⟩ := sp5 ((hbe.block _ (lt_of_block F3.out)).trans F3.out)
                refine wpOp_step ho (fun K' hK => ?_)
                have HK := Lib.hid hK
                clear hK ho
                go_simp
                exact HK.out _ _ ⟨_, _, _, _, _, _, _, _, _, _, _, _, _, _, _, _, _, sx8, rfl, rfl, ⟨hbe, (fun _ => rfl), H.d5, (fun h => by cases h), (fun h => by cases h), H.h0, (fun _ => rfl), H.h2, H.h3, H.h4, H.h5, (fun h => by cases h), H.h7, (fun h => by cases h)⟩⟩
              · have ho := hoj
                simp only [List.getElem?_toArray, List.getElem?_cons_succ, List.getElem?_cons_zero, Option.some.injEq] at hoj
                subst hoj
                obtain rfl : sb2 = false := hun
                clear hall
                obtain rfl : sb6 = false := Bool.eq_false_iff.2 fun h => Bool.false_ne_true (H.d6 h).2.1
                obtain rfl : sb8 = false := Bool.eq_false_iff.2 fun h => Bool.false_ne_true (H.d8 h).2.2.1
                have hbe := H.be
                refine wpOp_step ho (fun K' hK => ?_)
                have HK := Lib.hid hK
                clear hK ho
                go_simp
                exact HK.out _ _ ⟨_, _, _, _, _, _, _, _, _, _, _, _, _, _, _, _, _, sx8, rfl, rfl, ⟨hbe, H.d1, H.d5, (fun h => by cases h), (fun h => by cases h), H.h0, H.h1, (fun _ => rfl), H.h3, H.h4, H.h5, (fun h => by cases h), H.h7, (fun h => by cases h)⟩⟩
              · have ho := hoj
                simp only [List.getElem?_toArray, List.getElem?_cons_succ, List.getElem?_cons_zero, Option.some.injEq] at hoj
                subst hoj
                obtain rfl : sb3 = false := hun
                clear hall
                obtain rfl : sb6 = false := Bool.eq_false_iff.2 fun h => Bool.false_ne_true (H.d6 h).2.2.1
                obtain rfl : sb8 = false := Bool.eq_false_iff.2 fun h => Bool.false_ne_true (H.d8 h).2.2.2.1
                have hbe := H.be
                refine wpOp_step ho (fun K' hK => ?_)
                have HK := Lib.hid hK
                clear hK ho
                go_simp
                exact HK.out _ _ ⟨_, _, _, _, _, _, _, _, _, _, _, _, _, _, _, _, _, sx8, rfl, rfl, ⟨hbe, H.d1, H.d5, (fun h => by cases h), (fun h => by cases h), H.h0, H.h1, H.h2, (fun _ => rfl), H.h4, H.h5, (fun h => by cases h), H.h7, (fun h => by cases h)⟩⟩
              · have ho := hoj
                simp only [List.getElem?_toArray, List.getElem?_cons_succ, List.getElem?_cons_zero, Option.some.injEq] at hoj
                subst hoj
                obtain rfl : sb4 = false := hun
                clear hall
                obtain rfl : sb5 = false := Bool.eq_false_iff.2 fun h => Bool.false_ne_true (H.d5 h)
                obtain rfl : sb6 = false := Bool.eq_false_iff.2 fun h => Bool.false_ne_true (H.d6 h).2.2.2
                obtain rfl : sb8 = false := Bool.eq_false_iff.2 fun h => Bool.false_ne_true (H.d8 h).2.2.2.2.1
                have hbe := H.be
                refine wpOp_step ho (fun K' hK => ?_)
                have HK := Lib.hid hK
                clear hK ho
                go_simp
                exact HK.out _ _ ⟨_, _, _, _, _, _, _, _, _, _, _, _, _, _, _, _, _, sx8, rfl, rfl, ⟨hbe, H.d1, (fun h => by cases h), H.d6, (fun h => by cases h), H.h0, H.h1, H.h2, H.h3, (fun _ => rfl), (fun h => by cases h), (fun h => by cases h), H.h7, (fun h => by cases h)⟩⟩
              · have ho := hoj
                simp only [List.getElem?_toArray, List.getElem?_cons_succ, List.getElem?_cons_zero, Option.some.injEq] at hoj
                subst hoj
                obtain rfl : sb5 = false := hun
                obtain rfl : sb4 = true := hall ⟨4, .data⟩ (by simp) (by kernel_rfl)
                clear hall
                obtain rfl : sb6 = false := Bool.eq_false_iff.2 fun h => Bool.false_ne_true (H.d6 h).2.2.2
                obtain rfl : sb8 = false := Bool.eq_false_iff.2 fun h => Bool.false_ne_true (H.d8 h).2.2.2.2.2.1
                have hbe := H.be
                obtain rfl := H.h4 rfl
                refine wpOp_step ho (fun K' hK => ?_)
                have HK := Lib.hid hK
                clear hK ho
                go_wp2_with fail
                refine (HCF.out _ hbe).mono ?_
                rintro e w1 ⟨u1, rfl, o1, sb1⟩
                have BC := Lib.hid sb1
                have OC := Lib.hid (FsX.of o1 (w0 := W3) hbe.size (fun hb => let ⟨k, e1, _, e3⟩ := H.h7 hb rfl; ⟨k, e1, lt_of_block e3⟩))
                clear o1 sb1
                go_wp2_with fail
                exact HK.out _ _ ⟨_, _, _, _, _, _, _, _, _, _, _, _, _, _, _, _, _, sx8, rfl, rfl, ⟨hbe.trans (BC.out.mono hbe.size), H.d1, (fun _ => rfl), (fun h => by cases h), (fun h => by cases h), H.h0, H.h1, H.h2, H.h3, H.h4, (fun _ _ => OC.out), (fun h => by cases h), (fun e f => let ⟨k, e1, e2, e3⟩ := (H.h7 e f); ⟨k, e1, e2, (BC.out.block _ (lt_of_block e3)).trans e3⟩), (fun h => by cases h)⟩⟩
              · have ho := hoj
                simp only [List.getElem?_toArray, List.getElem?_cons_succ, List.getElem?_cons_zero, Option.some.injEq] at hoj
                subst hoj
                obtain rfl : sb6 = false := hun
                obtain rfl : sb1 = true := hall ⟨1, .data⟩ (by simp) (by kernel_rfl)
                obtain rfl : sb2 = true := hall ⟨2, .data⟩ (by simp) (by kernel_rfl)
                obtain rfl : sb3 = true := hall ⟨3, .data⟩ (by simp) (by kernel_rfl)
                obtain rfl : sb5 = true := hall ⟨5, .data⟩ (by simp) (by kernel_rfl)
                obtain rfl : sb0 = true := (H.d1 rfl)
                obtain rfl : sb4 = true := (H.d5 rfl)
                clear hall
                obtain rfl : sb8 = false := Bool.eq_false_iff.2 fun h => Bool.false_ne_true (H.d8 h).2.2.2.2.2.2.1
                have hbe := H.be
                obtain rfl := H.h0 rfl
                obtain rfl := H.h1 rfl
                obtain rfl := H.h2 rfl
                obtain rfl := H.h3 rfl
                obtain rfl := H.h4 rfl
                have P5 := H.h5 rfl rfl
                have P5' := Lib.hid P5
                obtain ⟨A5, c5, rfl, _⟩ := P5
                refine wpOp_step ho (fun K' hK => ?_)
                have HK := Lib.hid hK
                clear hK ho
                go_simp
                exact HK.out _ _ ⟨_, _, _, _, _, _, _, _, _, _, _, _, _, _, _, _, _, sx8, rfl, rfl, ⟨hbe, H.d1, H.d5, (fun _ => ⟨rfl, rfl, rfl, rfl⟩), (fun h => by cases h), H.h0, H.h1, H.h2, H.h3, H.h4, H.h5, (fun _ _ => ⟨_, rfl, P5'.out⟩), H.h7, (fun h => by cases h)⟩⟩
              · have ho := hoj
                simp only [List.getElem?_toArray, List.getElem?_cons_succ, List.getElem?_cons_zero, Option.some.injEq] at hoj
                subst hoj
                obtain rfl : sb7 = false := hun
                clear hall
                obtain rfl : sb8 = false := Bool.eq_false_iff.2 fun h => Bool.false_ne_true (H.d8 h).2.2.2.2.2.2.2
                have hbe := H.be
                have BA := Lib.hid ((Below.refl w.heap.size w).alloc (Nat.le_refl _) (.cells #[.int .i64 0, .int .i64 0, .int .i64 0, .slice none 0 0] 54))
                have NA := Lib.hid (heap_alloc_new w (.cells #[.int .i64 0, .int .i64 0, .int .i64 0, .slice none 0 0] 54))
                have hsz := hbe.size
                refine wpOp_step ho (fun K' hK => ?_)
                have HK := Lib.hid hK
                clear hK ho
                go_simp
                exact HK.out _ _ ⟨_, _, _, _, _, _, _, _, _, _, _, _, _, _, _, _, _, sx8, rfl, rfl, ⟨hbe.trans (BA.out.mono hbe.size), H.d1, H.d5, H.d6, (fun h => by cases h), H.h0, H.h1, H.h2, H.h3, H.h4, (fun e f => FsX.made ((H.h5 e f)) BA.out), (fun e f => let ⟨u, e1, e2⟩ := (H.h6 e f); ⟨u, e1, FsX.made e2 BA.out⟩), (fun _ _ => ⟨_, rfl, hsz, NA.out⟩), (fun h => by cases h)⟩⟩
              · have ho := hoj
                simp only [List.getElem?_toArray, List.getElem?_cons_succ, List.getElem?_cons_zero, Option.some.injEq] at hoj
                subst hoj
                obtain rfl : sb8 = false := hun
                obtain rfl : sb0 = true := hall ⟨0, .phase⟩ (by simp) (by kernel_rfl)
                obtain rfl : sb1 = true := hall ⟨1, .phase⟩ (by simp) (by kernel_rfl)
                obtain rfl : sb2 = true := hall ⟨2, .phase⟩ (by simp) (by kernel_rfl)
                obtain rfl : sb3 = true := hall ⟨3, .phase⟩ (by simp) (by kernel_rfl)
                obtain rfl : sb4 = true := hall ⟨4, .phase⟩ (by simp) (by kernel_rfl)
                obtain rfl : sb5 = true := hall ⟨5, .chain⟩ (by simp) (by kernel_rfl)
                obtain rfl : sb6 = true := hall ⟨6, .data⟩ (by simp) (by kernel_rfl)
                obtain rfl : sb7 = true := hall ⟨7, .data⟩ (by simp) (by kernel_rfl)
                clear hall
                have hbe := H.be
                obtain rfl := H.h0 rfl
                obtain rfl := H.h1 rfl
                obtain rfl := H.h2 rfl
                obtain rfl := H.h3 rfl
                obtain rfl := H.h4 rfl
                have P5 := H.h5 rfl rfl
                have P6 := H.h6 rfl rfl
                have P7 := H.h7 rfl rfl
                obtain ⟨k, rfl, hk0, hk⟩ := P7
                obtain ⟨u6, rfl, A6, c6, rfl, hu6⟩ := P6
                obtain ⟨k1, gp⟩ := pc4_put hk (.int .i64 nx) (.int .i64 now) (.int .i64 size) (.slice A6 nl c6)
                have KK := Lib.hid k1
                have NV := Lib.hid ((StS.on hu6 (KpS.gr gp (.inr ⟨rfl, rfl⟩))).anti (S' := fun j => j < W3.heap.size) fun j hj => .inl hj)
                have BV := Lib.hid (gr_from hbe hbe.size hk0 gp)
                have hK0 := Lib.hid hk0
                obtain ⟨q0, q1, q2, q3⟩ := pc4D hk
                have qf := fun i => bk_frz hk i
                clear hk k1 gp hu6 hk0
                refine wpOp_step ho (fun K' hK => ?_)
                have HK := Lib.hid hK
                clear hK ho
                go_simp
                exact HK.out _ _ ⟨_, _, _, _, _, _, _, _, _, _, _, _, _, _, _, _, _, sx8, rfl, rfl, ⟨BV.out, H.d1, H.d5, H.d6, (fun _ => ⟨rfl, rfl, rfl, rfl, rfl, rfl, rfl, rfl⟩), H.h0, H.h1, H.h2, H.h3, H.h4, (fun _ h => by cases h), (fun _ h => by cases h), (fun _ h => by cases h), (fun _ => ⟨_, _, _, rfl, hK0.out, KK.out, NV.out, BV.out⟩)⟩⟩
              · have ho := hoj
                simp at ho
            case hfin =>
              rintro listed a w ⟨sb0, sb1, sb2, sb3, sb4, sb5, sb6, sb7, sb8, sx0, sx1, sx2, sx3, sx4, sx5, sx6, sx7, sx8, rfl, rfl, H⟩ hr
              have hb : sb8 = true := by
                clear H
                revert sb0 sb1 sb2 sb3 sb4 sb5 sb6 sb7 sb8
                decide +kernel
              subst hb
              clear hr
              obtain rfl : sb0 = true := (H.d8 rfl).1
              obtain rfl : sb1 = true := (H.d8 rfl).2.1
              obtain rfl : sb2 = true := (H.d8 rfl).2.2.1
              obtain rfl : sb3 = true := (H.d8 rfl).2.2.2.1
              obtain rfl : sb4 = true := (H.d8 rfl).2.2.2.2.1
              obtain rfl : sb5 = true := (H.d8 rfl).2.2.2.2.2.1
              obtain rfl : sb6 = true := (H.d8 rfl).2.2.2.2.2.2.1
              obtain rfl : sb7 = true := (H.d8 rfl).2.2.2.2.2.2.2
              obtain ⟨kp, Ap, cp, e7, hn0, hn1, hn2, hnb⟩ := H.h8 rfl
              have PB5 := Lib.hid hn1
              have PS5 := Lib.hid hn2
              have PK5 := Lib.hid hn0
              have BW5 := Lib.hid hnb
              clear H hn0 hn1 hn2 hnb
              obtain ⟨w5, hw5⟩ : ∃ Y, Y = w := ⟨_, rfl⟩
              subst w
              subst e7
              obtain rfl := HKK.out
              obtain rfl := HNXE.out
              obtain rfl := HNL.out
              have F5 := Lib.hid ((BW5.out.block _ (lt_of_block F3.out)).trans F3.out)
              have Z5 := Lib.hid ((BW5.out.block _ (lt_of_block Z3.out)).trans Z3.out)
              have U5 := Lib.hid (U3.out.on (KpS.below BW5.out))
              have B5 := Lib.hid (B3.out.trans (BW5.out.mono B3.out.size))
              obtain ⟨q0, q1, q2, q3, q4⟩ := sp5 F5.out
              obtain ⟨y0, y1, y2, y3⟩ := pc4D PB5.out
              obtain ⟨pc, hpc⟩ : ∃ pc : Cells 4, pc = ⟨[.int .i64 s.next, .int .i64 now, .int .i64 size, .slice Ap l.length cp], rfl, by simp [Value.oneCell']⟩ := ⟨_, rfl⟩
              have HPC := Lib.hid hpc
              have NB := Lib.hid (RowE.one (E := pc4) w5 pc #[.int .i64 s.next, .int .i64 now, .int .i64 size, .slice Ap l.length cp] 54 w5.heap.size rfl (by rw [HPC.out]; rfl))
              have BN := Lib.hid ((Below.refl w5.heap.size w5).alloc (Nat.le_refl _) (.cells #[.int .i64 s.next, .int .i64 now, .int .i64 size, .slice Ap l.length cp] 54))
              have hz5 := lt_of_block Z5.out
              have hz3 := lt_of_block Z3.out
              clear hpc
              have OU5 := Lib.hid (OwnE.later U5.out.own BN.out)
              have HLS := Lib.hid (show css.length ≤ 24 from by rw [U5.out.len]; exact HS24.out)
              have HSL := Lib.hid (show (s.sent ++ [pN s now size l] : List Pcl).length = (css ++ [pc]).length from by rw [List.length_append, List.length_append, U5.out.len]; rfl)
              have F6 := Lib.hid ((BN.out.block _ (lt_of_block F5.out)).trans F5.out)
              have Z6 := Lib.hid ((BN.out.block _ (lt_of_block Z5.out)).trans Z5.out)
              have Y6 := Lib.hid ((BN.out.block _ (lt_of_block PB5.out)).trans PB5.out)
              have hkp3 : W3.heap.size ≤ kp := PK5.out
              have HAU := Lib.hid (fun j (hj : (Value.slice Au s.sent.length cu).ownBlock = some j) => OwnE.lt U3.out.own j hj)
              have FACTS := Lib.hid (fun (v9 : Value) (w9 : World) (own9 : OwnE pc4 w9 (w.heap.size + 2) 54 v9 (css ++ [pc])) (g9 : (w5.alloc (.cells #[.int .i64 s.next, .int .i64 now, .int .i64 size, .slice Ap l.length cp] 54)).grownBy w9 (Value.slice Au s.sent.length cu).ownBlock) =>
                show ∃ A9 c9, v9 = .slice A9 (s.sent ++ [pN s now size l]).length c9 ∧ SdF w w9 A9 c9 Hu cv Ku cw kp #[.int .i64 s.next, .slice Au s.sent.length cu, .int .i64 s.top, .slice Hu s.heard.length cv, .slice Ku s.skip.length cw] #[.int .i64 s.next, .int .i64 now, .int .i64 size, .slice Ap l.length cp] (pN s now size l) s from by
                obtain ⟨A9, c9, rfl, _, _, _⟩ := own9.slice
                refine ⟨A9, c9, by rw [HSL.out], ?_⟩
                have sn : KpS (SpS (w.heap.size + 2) Au Ku) w5 w9 := (KpS.below BN.out).trans (KpS.grO g9 (fun y hy => .inr (.inl (own_at U3.out.own hy))))
                have sp : KpS (fun j => j < W3.heap.size) w5 w9 := (KpS.below BN.out).trans (KpS.grO g9 (fun y hy => (HAU.out y hy).2))
                refine ⟨?_, ?_, ?_, ?_, ⟨?_, ?_, ?_⟩⟩
                · exact (g9.block _ (lt_of_block F6.out) (fun e => by have := (HAU.out _ e.symm).1; omega)).trans F6.out
                · exact (g9.block _ (lt_of_block Z6.out) (fun e => by have := (HAU.out _ e.symm).1; omega)).trans Z6.out
                · exact (g9.block _ (lt_of_block Y6.out) (fun e => by have := (HAU.out _ e.symm).2; omega)).trans Y6.out
                · exact (B5.out.trans (BN.out.mono B5.out.size)).grown g9 (Nat.le_trans B5.out.size BN.out.size) (fun q hq => by have := (HAU.out _ hq).1; omega)
                · show PlU (w.heap.size + 2) w9 (.slice A9 (s.sent ++ [pN s now size l]).length c9) (s.sent ++ [pN s now size l])
                  rw [HSL.out]
                  refine pl_own own9 HSL.out.symm HSL.out (S := fun j => j < w.heap.size + 2) (fun i h1 h2 => ?_) (fun g hg => by have := (OwnE.lt own9 g (own_blk hg)).1; omega)
                  by_cases hi : i < css.length
                  · have hi2 : i < s.sent.length := by rw [← U5.out.len]; exact hi
                    rw [List.getElem_append_left hi, List.getElem_append_left hi2]
                    exact StS.anti ((U5.out.cells i hi hi2).on sn) (fun j hj => .inl hj)
                  · have hie : i = css.length := by rw [List.length_append] at h1; simp at h1; omega
                    have hie2 : i = s.sent.length := by rw [← U5.out.len]; exact hie
                    rw [List.getElem_append_right (by omega), List.getElem_append_right (by omega)]
                    simp only [hie, U5.out.len, Nat.sub_self, List.getElem_cons_zero]
                    intro w' k
                    refine ⟨.slice Ap l.length cp, by rw [HPC.out], StS.anti (PS5.out.on sp) (fun j (hj : j < w.heap.size + 2) => show j < W3.heap.size by omega) w' k⟩
                · exact StS.anti (U5.out.h.on sn) (fun j hj => .inl hj)
                · refine StS.anti ((ints_own (S := SpX (w.heap.size + 2) Au) U5.out.kown (fun g hg => ?_)).on ((KpS.below BN.out).trans (KpS.grO g9 (fun y hy => .inr (own_at U3.out.own hy))))) (fun j hj => .inl hj)
                  rintro (q | q)
                  · have := (OwnE.lt U5.out.kown g (own_blk hg)).1
                    omega
                  · exact U5.out.ne g q hg)
              go_upto_region 12 with (first
                | (at_builtin
                   refine wpList_appE3 _ rfl (.tmp 50) (.tmp 52) _ rfl (w.heap.size + 2) 54 i0 _ 48 Try.underlying45 HI.out HZ.out HZ1.out HZ2.out rfl (by decide) (.slice Au s.sent.length cu) css rfl OU5.out _ (some ⟨w5.heap.size, 0, none⟩) 1 1 [pc] rfl NB.out rfl (by have := HLS.out; omega) (Nat.le_trans hz5 BN.out.size) ?_
                   intro v9 w9 own9 gr9 nb9
                   obtain ⟨A9, c9, rfl, hf9⟩ := FACTS.out v9 w9 own9 gr9
                   have F9 := Lib.hid hf9.box
                   have Z9 := Lib.hid hf9.res
                   have Y9 := Lib.hid hf9.pv
                   have B9 := Lib.hid hf9.be
                   have su9 := hf9.u
                   obtain ⟨n9, hn9⟩ : ∃ x, (s.sent ++ [pN s now size l]).length = x := ⟨_, rfl⟩
                   rw [hn9] at su9 ⊢
                   have SU9 := Lib.hid su9
                   clear su9 hn9 own9 gr9 nb9 hf9 q0 q1 q2 q3 q4 y0 y1 y2 y3
                   obtain ⟨q0, q1, q2, q3, q4⟩ := sp5 F9.out
                   have qf := fun i => bk_frz F9.out i
                   obtain ⟨W10, hW10⟩ : ∃ x, w9.setCell ⟨w.heap.size, 1, none⟩ (.slice A9 n9 c9) = x := ⟨_, rfl⟩
                   have f10 := (sp5_set F9.out (.slice A9 n9 c9)).2.1
                   have g10 := gr_set w9 w.heap.size 1 (.slice A9 n9 c9)
                   rw [hW10] at f10 g10
                   have F10 := Lib.hid f10
                   have Z10 := Lib.hid ((g10.block _ (lt_of_block Z9.out) (by simp)).trans Z9.out)
                   have B10 := Lib.hid (gr_from B9.out B9.out.size (Nat.le_refl _) g10)
                   have Y10 := Lib.hid ((g10.block _ (lt_of_block Y9.out) (by intro e; cases e; omega)).trans Y9.out)
                   have SU10 := Lib.hid (SU9.out.on (KpS.gr g10 (show w.heap.size < w.heap.size + 2 by omega)))
                   clear f10 g10
                   obtain ⟨p0, p1, p2, p3, p4⟩ := sp5 F10.out
                   have pf := fun i => bk_frz F10.out i
                   obtain ⟨W11, hW11⟩ : ∃ x, W10.setCell ⟨w.heap.size, 0, none⟩ (.int .i64 (s.next + 1)) = x := ⟨_, rfl⟩
                   have f11 := (sp5_set F10.out (.int .i64 (s.next + 1))).1
                   have g11 := gr_set W10 w.heap.size 0 (.int .i64 (s.next + 1))
                   rw [hW11] at f11 g11
                   have F11 := Lib.hid f11
                   have Z11 := Lib.hid ((g11.block _ (lt_of_block Z10.out) (by simp)).trans Z10.out)
                   have B11 := Lib.hid (gr_from B10.out B10.out.size (Nat.le_refl _) g11)
                   have Y11 := Lib.hid ((g11.block _ (lt_of_block Y10.out) (by intro e; cases e; omega)).trans Y10.out)
                   have SU11 := Lib.hid (SU10.out.on (KpS.gr g11 (show w.heap.size < w.heap.size + 2 by omega)))
                   clear f11 g11))
              clear q0 q1 q2 q3 q4 p0 p1 p2 p3 p4 qf pf FACTS
              obtain ⟨K, hK⟩ : ∃ x, w.heap.size = x := ⟨_, rfl⟩
              have HKK := Lib.hid hK
              have HKPP := Lib.hid (show K + 1 < kp from by rw [← hK]; omega)
              rw [hK] at F11 Z11 ⊢
              clear hK
              refine wp_region_inv (fun lis_ act_ wld_ => ∃ (tb0 tb1 tb2 tb3 tb4 tb5 : Bool) (tx0 tx1 tx2 tx3 tx4 tx5 : Value), lis_ = #[tb0, tb1, tb2, tb3, tb4, tb5] ∧ act_ = { tmps := #[Value.agg #[Value.int IntKind.i64 s.next, Value.slice Aa s.sent.length ca, Value.int IntKind.i64 s.top, Value.slice Ah s.heard.length ch, Value.slice Ak s.skip.length ck], Value.int IntKind.i64 now, Value.int IntKind.i64 size, Value.slice Al l.length cl, Value.pointer (some { block := K, off := 0 }), undef, undef, undef, Value.pointer (some { block := K + 1, off := 0 }), tx4, tx5, Value.int IntKind.i64 0, Value.pointer (some { block := kp, off := 0 }), Value.agg #[Value.int IntKind.i64 s.next, Value.slice Aa s.sent.length ca, Value.int IntKind.i64 s.top, Value.slice Ah s.heard.length ch, Value.slice Ak s.skip.length ck], Value.int IntKind.i64 0, Value.int IntKind.i64 0, Value.bool false, undef, undef, Value.bool false, Value.int IntKind.i64 now, Value.bool true, Value.bool false, Value.bool false, Value.int IntKind.i64 size, Value.bool true, Value.bool false, Value.bool false, undef, Value.bool false, Value.pointer (some { block := K, off := 1 }), Value.slice Aa s.sent.length ca, Value.int IntKind.i64 ↑s.sent.length, Value.bool false, Value.bool false, Value.pointer (some { block := K, off := 0 }), Value.int IntKind.i64 s.next, Value.bool false, Value.bool false, undef, Value.agg #[Value.int IntKind.i64 s.next, Value.slice Aa s.sent.length ca, Value.int IntKind.i64 s.top, Value.slice Ah s.heard.length ch, Value.slice Ak s.skip.length ck], Value.agg #[Value.int IntKind.i64 s.next, Value.slice Au s.sent.length cu, Value.int IntKind.i64 s.top, Value.slice Hu s.heard.length cv, Value.slice Ku s.skip.length cw], sx0, sx1, sx2, sx3, sx4, sx5, sx6, Value.pointer (some { block := K, off := 1 }), Value.slice Au s.sent.length cu, Value.agg #[Value.int IntKind.i64 s.next, Value.int IntKind.i64 now, Value.int IntKind.i64 size, Value.slice Ap l.length cp], Value.slice (some { block := w5.heap.size, off := 0 }) 1 1, Value.slice A9 n9 c9, Value.pointer (some { block := K, off := 1 }), Value.pointer (some { block := K, off := 0 }), Value.int IntKind.i64 s.next, Value.int IntKind.i64 (s.next + 1), Value.pointer (some { block := K, off := 0 }), tx0, tx1, tx2], defers := [] } ∧ SpSd12 W11 K kp n9 s A9 Hu Ku c9 cv cw now size l Ap cp (.agg #[.int .i64 (s.next + 1), .slice A9 n9 c9, .int .i64 s.top, .slice Hu s.heard.length cv, .slice Ku s.skip.length cw]) (.pointer (some ⟨kp, 0, none⟩)) (.int .i64 s.next) (.int .i64 s.next) (.int .i64 0) tb0 tb1 tb2 tb3 tb4 tb5 tx0 tx1 tx2 tx3 tx4 tx5 wld_) (by kernel_rfl) ?h0 ?hfin ?hI
              case h0 => exact ⟨_, _, _, _, _, _, _, _, _, undef, _, _, rfl, rfl, ⟨(fun _ => (Below.refl _ _).drew), (fun h => by cases h), (fun h => by cases h), (fun h => by cases h), (fun h => by cases h), Y11.out, (fun h => by cases h), (fun h => by cases h), (fun h => by cases h), (fun h => by cases h), (fun h => by cases h), (fun h => by cases h)⟩⟩
              case hI =>
                rintro listed a w ⟨tb0, tb1, tb2, tb3, tb4, tb5, tx0, tx1, tx2, tx3, tx4, tx5, rfl, rfl, H⟩ i hi
                obtain ⟨hun, oj, hoj, hall⟩ := mem_ready.1 hi
                clear hi
                rcases i with _ | _ | _ | _ | _ | _ | i
                · have ho := hoj
                  simp only [List.getElem?_toArray, List.getElem?_cons_zero, Option.some.injEq] at hoj
                  subst hoj
                  obtain rfl : tb0 = false := hun
                  clear hall
                  obtain rfl : tb3 = false := Bool.eq_false_iff.2 fun h => Bool.false_ne_true (H.d3 h)
                  obtain rfl : tb4 = false := Bool.eq_false_iff.2 fun h => Bool.false_ne_true (H.d4 h).1
                  obtain rfl : tb5 = false := Bool.eq_false_iff.2 fun h => Bool.false_ne_true (H.d5 h).1
                  have hbe := H.be rfl
                  have hx_py := H.py
                  obtain ⟨q0, q1, q2, q3, q4⟩ := sp5 ((hbe.block _ (lt_of_block F11.out)).trans F11.out)
                  refine wpOp_step ho (fun K' hK => ?_)
                  have HK := Lib.hid hK
                  clear hK ho
                  go_simp
                  exact HK.out _ _ ⟨_, _, _, _, _, _, _, _, _, tx3, _, _, rfl, rfl, ⟨(fun _ => hbe), H.d2, (fun h => by cases h), (fun h => by cases h), (fun h => by cases h), H.py, (fun _ => rfl), H.h1, H.h2, (fun h => by cases h), H.h4, H.h5⟩⟩
                · have ho := hoj
                  simp only [List.getElem?_toArray, List.getElem?_cons_succ, List.getElem?_cons_zero, Option.some.injEq] at hoj
                  subst hoj
                  obtain rfl : tb1 = false := hun
                  clear hall
                  obtain rfl : tb2 = false := Bool.eq_false_iff.2 fun h => Bool.false_ne_true (H.d2 h)
                  obtain rfl : tb4 = false := Bool.eq_false_iff.2 fun h => Bool.false_ne_true (H.d4 h).2.1
                  obtain rfl : tb5 = false := Bool.eq_false_iff.2 fun h => Bool.false_ne_true (H.d5 h).2.1
                  have hx_py := H.py
                  refine wpOp_step ho (fun K' hK => ?_)
                  have HK := Lib.hid hK
                  clear hK ho
                  go_simp
                  exact HK.out _ _ ⟨_, _, _, _, _, _, _, _, _, tx3, _, _, rfl, rfl, ⟨H.be, (fun h => by cases h), H.d3, (fun h => by cases h), (fun h => by cases h), H.py, H.h0, (fun _ => rfl), H.h2, H.h3, H.h4, H.h5⟩⟩
                · have ho := hoj
                  simp only [List.getElem?_toArray, List.getElem?_cons_succ, List.getElem?_cons_zero, Option.some.injEq] at hoj
                  subst hoj
                  obtain rfl : tb2 = false := hun
                  obtain rfl : tb1 = true := hall ⟨1, .data⟩ (by simp) (by kernel_rfl)
                  clear hall
                  obtain rfl : tb4 = false := Bool.eq_false_iff.2 fun h => Bool.false_ne_true (H.d4 h).2.2.1
                  obtain rfl : tb5 = false := Bool.eq_false_iff.2 fun h => Bool.false_ne_true (H.d5 h).2.2.1
                  have hx_py := H.py
                  obtain rfl := H.h1 rfl
                  obtain ⟨q0, q1, q2, q3⟩ := pc4D hx_py
                  refine wpOp_step ho (fun K' hK => ?_)
                  have HK := Lib.hid hK
                  clear hK ho
                  go_simp
                  exact HK.out _ _ ⟨_, _, _, _, _, _, _, _, _, tx3, _, _, rfl, rfl, ⟨H.be, (fun _ => rfl), H.d3, (fun h => by cases h), (fun h => by cases h), H.py, H.h0, H.h1, (fun _ => rfl), H.h3, H.h4, H.h5⟩⟩
                · have ho := hoj
                  simp only [List.getElem?_toArray, List.getElem?_cons_succ, List.getElem?_cons_zero, Option.some.injEq] at hoj
                  subst hoj
                  obtain rfl : tb3 = false := hun
                  obtain rfl : tb0 = true := hall ⟨0, .data⟩ (by simp) (by kernel_rfl)
                  clear hall
                  obtain rfl : tb4 = false := Bool.eq_false_iff.2 fun h => Bool.false_ne_true (H.d4 h).2.2.2
                  obtain rfl : tb5 = false := Bool.eq_false_iff.2 fun h => Bool.false_ne_true (H.d5 h).2.2.2.1
                  have hbe := H.be rfl
                  have hx_py := H.py
                  obtain rfl := H.h0 rfl
                  have ZB := Lib.hid ((hbe.block _ (lt_of_block Z11.out)).trans Z11.out)
                  obtain ⟨k1, gp⟩ := sp5_put ZB.out (.int .i64 (s.next + 1)) (.slice A9 n9 c9) (.int .i64 s.top) (.slice Hu s.heard.length cv) (.slice Ku s.skip.length cw)
                  have KK := Lib.hid k1
                  have KP := Lib.hid ((KpS.below hbe).trans (KpS.gr (S := fun j => j < K + 2) gp (show K + 1 < K + 2 by omega)))
                  have GG := Lib.hid gp
                  have HBE := Lib.hid hbe
                  obtain ⟨q0, q1, q2, q3, q4⟩ := sp5 ZB.out
                  have qf := fun i => bk_frz ZB.out i
                  have PY := Lib.hid ((gp.block _ (lt_of_block hx_py) (by intro e; cases e; have := HKPP.out; omega)).trans hx_py)
                  clear k1 gp
                  refine wpOp_step ho (fun K' hK => ?_)
                  have HK := Lib.hid hK
                  clear hK ho
                  go_simp
                  exact HK.out _ _ ⟨_, _, _, _, _, _, _, _, _, tx3, _, _, rfl, rfl, ⟨(fun h => by cases h), H.d2, (fun _ => rfl), (fun h => by cases h), (fun h => by cases h), PY.out, H.h0, H.h1, H.h2, (fun _ => ⟨KP.out, KK.out, _, HBE.out, GG.out⟩), H.h4, H.h5⟩⟩
                · have ho := hoj
                  simp only [List.getElem?_toArray, List.getElem?_cons_succ, List.getElem?_cons_zero, Option.some.injEq] at hoj
                  subst hoj
                  obtain rfl : tb4 = false := hun
                  obtain rfl : tb0 = true := hall ⟨0, .phase⟩ (by simp) (by kernel_rfl)
                  obtain rfl : tb1 = true := hall ⟨1, .phase⟩ (by simp) (by kernel_rfl)
                  obtain rfl : tb2 = true := hall ⟨2, .data⟩ (by simp) (by kernel_rfl)
                  obtain rfl : tb3 = true := hall ⟨3, .chain⟩ (by simp) (by kernel_rfl)
                  clear hall
                  obtain rfl : tb5 = false := Bool.eq_false_iff.2 fun h => Bool.false_ne_true (H.d5 h).2.2.2.2
                  have hx_py := H.py
                  obtain rfl := H.h0 rfl
                  obtain rfl := H.h1 rfl
                  obtain rfl := H.h2 rfl
                  have P3 := H.h3 rfl
                  refine wpOp_step ho (fun K' hK => ?_)
                  have HK := Lib.hid hK
                  clear hK ho
                  go_simp
                  exact HK.out _ _ ⟨_, _, _, _, _, _, _, _, _, tx3, _, _, rfl, rfl, ⟨(fun h => by cases h), H.d2, H.d3, (fun _ => ⟨rfl, rfl, rfl, rfl⟩), (fun h => by cases h), H.py, H.h0, H.h1, H.h2, H.h3, (fun _ => rfl), H.h5⟩⟩
                · have ho := hoj
                  simp only [List.getElem?_toArray, List.getElem?_cons_succ, List.getElem?_cons_zero, Option.some.injEq] at hoj
                  subst hoj
                  obtain rfl : tb5 = false := hun
                  obtain rfl : tb0 = true := hall ⟨0, .phase⟩ (by simp) (by kernel_rfl)
                  obtain rfl : tb1 = true := hall ⟨1, .phase⟩ (by simp) (by kernel_rfl)
                  obtain rfl : tb2 = true := hall ⟨2, .phase⟩ (by simp) (by kernel_rfl)
                  obtain rfl : tb3 = true := hall ⟨3, .phase⟩ (by simp) (by kernel_rfl)
                  obtain rfl : tb4 = true := hall ⟨4, .chain⟩ (by simp) (by kernel_rfl)
                  clear hall
                  have hx_py := H.py
                  obtain rfl := H.h0 rfl
                  obtain rfl := H.h1 rfl
                  obtain rfl := H.h2 rfl
                  have P3 := H.h3 rfl
                  obtain rfl := H.h4 rfl
                  refine wpOp_step ho (fun K' hK => ?_)
                  have HK := Lib.hid hK
                  clear hK ho
                  go_simp
                  exact HK.out _ _ ⟨_, _, _, _, _, _, _, _, _, tx3, _, _, rfl, rfl, ⟨(fun h => by cases h), H.d2, H.d3, H.d4, (fun _ => ⟨rfl, rfl, rfl, rfl, rfl⟩), H.py, H.h0, H.h1, H.h2, H.h3, H.h4, (fun _ => rfl)⟩⟩
                · have ho := hoj
                  simp at ho
              case hfin =>
                rintro listed a w ⟨tb0, tb1, tb2, tb3, tb4, tb5, tx0, tx1, tx2, tx3, tx4, tx5, rfl, rfl, H⟩ hr
                have hb : tb5 = true := by
                  clear H
                  revert tb0 tb1 tb2 tb3 tb4 tb5
                  decide +kernel
                subst hb
                clear hr
                obtain rfl : tb0 = true := (H.d5 rfl).1
                obtain rfl : tb1 = true := (H.d5 rfl).2.1
                obtain rfl : tb2 = true := (H.d5 rfl).2.2.1
                obtain rfl : tb3 = true := (H.d5 rfl).2.2.2.1
                obtain rfl : tb4 = true := (H.d5 rfl).2.2.2.2
                obtain ⟨kp9, hr9, wb, hb9, hg9⟩ := H.h3 rfl
                obtain ⟨wf, hwf⟩ : ∃ y, y = w := ⟨_, rfl⟩
                have e9 := H.h4 rfl
                have e10 := H.h5 rfl
                clear H
                subst w
                subst e9 e10
                obtain rfl := HKK.out
                go_wp2_with fail
                obtain ⟨y0, y1, y2, y3, y4⟩ := sp5 hr9
                refine bodyPost_ret (by simp [results, Try.results21, go_sem, y0, y1, y2, y3, y4]; try rfl) rfl ?_
                rw [HR.out]
                exact ⟨gr_from (B11.out.trans (hb9.mono B11.out.size)) (Nat.le_trans B11.out.size hb9.size) (Nat.le_succ _) hg9, _, rfl, SpU.low (lo := w.heap.size + 2) (SU11.out.on kp9).toU (by omega)⟩
      · have d2 : decide (0 ≤ size ∧ size ≤ 400) = false := by rw [decide_eq_false_iff_not]; exact c2
        have HR := Lib.hid (show sendSp s now size l = (sp0, 0, 6) from by unfold sendSp; rw [if_neg (by simp [f]), if_pos (fun q => c2 q.2)])
        rw [f]
        go_wp2_with fail
        refine (within_any _ _ _).mono ?_
        rintro e w9 ⟨rfl, rfl⟩
        rw [d1]
        go_wp2_with fail
        refine (within_any _ _ _).mono ?_
        rintro e w9 ⟨rfl, rfl⟩
        rw [d2]
        go_wp2_with fail
        obtain ⟨RY, gp⟩ := sp5_put Z1.out (.int .i64 0) (.slice none 0 0) (.int .i64 0) (.slice none 0 0) (.slice none 0 0)
        obtain ⟨y0, y1, y2, y3, y4⟩ := sp5 RY
        refine bodyPost_ret (by simp [results, Try.results21, go_sem, y0, y1, y2, y3, y4]; try rfl) rfl ?_
        rw [HR.out]
        exact ⟨gr_from B1.out B1.out.size (Nat.le_succ _) gp, _, rfl, SpU.nil _ _⟩
    · have d1 : decide (0 ≤ now ∧ now ≤ 1099511627776) = false := by rw [decide_eq_false_iff_not]; exact c1
      have HR := Lib.hid (show sendSp s now size l = (sp0, 0, 6) from by unfold sendSp; rw [if_neg (by simp [f]), if_pos (fun q => c1 q.1)])
      rw [f]
      go_wp2_with fail
      refine (within_any _ _ _).mono ?_
      rintro e w9 ⟨rfl, rfl⟩
      rw [d1]
      go_wp2_with fail
      obtain ⟨RY, gp⟩ := sp5_put Z1.out (.int .i64 0) (.slice none 0 0) (.int .i64 0) (.slice none 0 0) (.slice none 0 0)
      obtain ⟨y0, y1, y2, y3, y4⟩ := sp5 RY
      refine bodyPost_ret (by simp [results, Try.results21, go_sem, y0, y1, y2, y3, y4]; try rfl) rfl ?_
      rw [HR.out]
      exact ⟨gr_from B1.out B1.out.size (Nat.le_succ _) gp, _, rfl, SpU.nil _ _⟩
  · have HR := Lib.hid (show sendSp s now size l = (sp0, 0, 9) from by unfold sendSp; rw [f]; rfl)
    rw [f]
    go_wp2_with fail
    obtain ⟨RY, gp⟩ := sp5_put Z1.out (.int .i64 0) (.slice none 0 0) (.int .i64 0) (.slice none 0 0) (.slice none 0 0)
    obtain ⟨y0, y1, y2, y3, y4⟩ := sp5 RY
    refine bodyPost_ret (by simp [results, Try.results21, go_sem, y0, y1, y2, y3, y4]; try rfl) rfl ?_
    rw [HR.out]
    exact ⟨gr_from B1.out B1.out.size (Nat.le_succ _) gp, _, rfl, SpU.nil _ _⟩
end Go.Proofs.Ytnccibaifffhhaa
