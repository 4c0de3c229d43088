/- The document's answers on spaces: SpaceLeapt. -/
import Derived.Test.YtgfbonfoimiknaaRefSpQuiet
import Derived.Test.YtgfbonfoimiknaaGrpSj
namespace Go.Proofs.Ytgfbonfoimiknaa
set_option linter.unusedVariables false
open Go.RowKit P

theorem mt_own {w : World} {lo k : Nat} (h : w.heap[k]? = some (.cells #[] 3 (0, 0))) (hl : lo ≤ k) : OwnE intE w lo 3 (.slice (some ⟨k, 0, none⟩) 0 0) [] :=
  ⟨by simp [Lay.cat], .inr ⟨k, 0, #[], rfl, hl, h, Nat.le_refl _, by unfold maxLen; omega, by simp, by simp [Lay.cat]⟩⟩
/-- an empty row that was just made -/
def MtS (w : World) (lo : Nat) (v : Value) : Prop := ∃ k, v = .slice (some ⟨k, 0, none⟩) 0 0 ∧ w.heap[k]? = some (.cells #[] 3 (0, 0)) ∧ lo ≤ k
theorem MtS.later {w w' : World} {lo : Nat} {v : Value} (h : MtS w lo v) (b : Below w.heap.size w w') : MtS w' lo v := by
  obtain ⟨k, e, h1, h2⟩ := h
  exact ⟨k, e, (b.block _ (lt_of_block h1)).trans h1, h2⟩
theorem MtS.new (w : World) (lo : Nat) (h : lo ≤ w.heap.size) : MtS (w.alloc (.cells #[] 3)) lo (.slice (some ⟨w.heap.size, 0, none⟩) 0 0) := ⟨_, rfl, heap_alloc_new w _, h⟩
/-- a row of one number that was just made -/
def OnS (w : World) (lo : Nat) (v : Value) (n : Int) : Prop := ∃ k, v = .slice (some ⟨k, 0, none⟩) 1 1 ∧ w.heap[k]? = some (.cells #[.int .i64 n] 3 (0, 0)) ∧ lo ≤ k
theorem OnS.later {w w' : World} {lo : Nat} {v : Value} {n : Int} (h : OnS w lo v n) (b : Below w.heap.size w w') : OnS w' lo v n := by
  obtain ⟨k, e, h1, h2⟩ := h
  exact ⟨k, e, (b.block _ (lt_of_block h1)).trans h1, h2⟩
theorem OnS.new (w : World) (lo : Nat) (n : Int) (h : lo ≤ w.heap.size) : OnS (w.alloc (.cells #[.int .i64 n] 3)) lo (.slice (some ⟨w.heap.size, 0, none⟩) 1 1) n := ⟨_, rfl, heap_alloc_new w _, h⟩
theorem OnS.turn {w w' : World} {lo k3 : Nat} {v : Value} {n : Int} (h : OnS w lo v n) (h0 : w.heap[k3]? = some (.cells #[] 3 (0, 0))) (g : w.grownBy w' (Value.slice (some ⟨k3, 0, none⟩) 0 0).ownBlock) : OnS w' lo v n := by
  obtain ⟨k, e, h1, h2⟩ := h
  refine ⟨k, e, (g.block _ (lt_of_block h1) (fun q => ?_)).trans h1, h2⟩
  cases q
  rw [h0] at h1
  injection h1 with h1
  injection h1 with h1
  cases h1
theorem on_row {w : World} {k : Nat} {n : Int} (h : w.heap[k]? = some (.cells #[.int .i64 n] 3 (0, 0))) : RowE intE w w.heap.size (some ⟨k, 0, none⟩) [n] := fun _ => ⟨k, 0, rfl, lt_of_block h, fun j u hu => by
  have := bk_cell h j
  rcases j with _ | j
  · have e : u = .int .i64 n := by simpa [intE, Lay.cat] using hu.symm
    rw [e]
    simpa using this
  · simp [intE, Lay.cat] at hu⟩
structure RLp6 (w0 : World) (K : Nat) (nx : Int) (Ak : Option Addr) (nk ck : Nat) (zs : List Int) (V1 V2 V4 V5 : Value) (cb0 cb1 cb2 cb3 cb4 cb5 cb6 cb7 cb8 : Bool) (cx0 cx1 cx2 cx3 cx4 cx5 cx6 cx7 cx8 : Value) (w : World) : Prop where
  be : Below w0.heap.size w0 w
  d2 : cb2 = true → cb1 = true
  d3 : cb3 = true → cb0 = true ∧ cb2 = true
  d5 : cb5 = true → cb4 = true
  d6 : cb6 = true → cb5 = true
  d7 : cb7 = true → cb3 = true ∧ cb6 = true
  d8 : cb8 = true → cb0 = true ∧ cb1 = true ∧ cb2 = true ∧ cb3 = true ∧ cb4 = true ∧ cb5 = true ∧ cb6 = true ∧ cb7 = true
  h0 : cb0 = true → cb3 = false → MtS w w0.heap.size cx0
  h1 : cb1 = true → cx1 = V1
  h2 : cb2 = true → cx2 = V2
  h3 : cb3 = true → cb7 = false → OwnE intE w w0.heap.size 3 cx3 zs
  h4 : cb4 = true → cx4 = V4
  h5 : cb5 = true → cx5 = V5
  h6 : cb6 = true → cb7 = false → OnS w w0.heap.size cx6 nx
  h7 : cb7 = true → OwnE intE w w0.heap.size 3 cx7 (zs ++ [nx])
  h8 : cb8 = true → OwnE intE w w0.heap.size 3 cx8 (zs ++ [nx])
set_option maxRecDepth 100000 in
set_option maxHeartbeats 4000000 in
theorem refSpLeap_any (v : Value) (s : Sp) (w : World) (hv : SpVal w w.heap.size v s) (hw : SpWf s) : Calls Try.prog 37 #[v] w (SpLeapR (leapSp s) w) := by
  have HCK := Lib.hid (fun w' (hb : Below w.heap.size w w') => refSpFault_any v s w' ((hv.below hb).more hb.size) hw)
  obtain ⟨a, h, kk, rfl, ha, hh, hk⟩ := hv.ex
  have HA := Lib.hid ha
  have HH := Lib.hid hh
  obtain ⟨Aa, ca, csa, rfl, _, _, _, _⟩ := ha.ex
  obtain ⟨Ah, ch, rfl, _, _, _⟩ := hh.ex
  obtain ⟨Ak, ck, rfl, _, _, hk3⟩ := hk.ex
  have HKR := Lib.hid hk3
  obtain ⟨g0, g1, g2⟩ := twoX w #[.int .i64 s.next, .slice Aa s.sent.length ca, .int .i64 s.top, .slice Ah s.heard.length ch, .slice Ak s.skip.length ck] #[.int .i64 0, .slice none 0 0, .int .i64 0, .slice none 0 0, .slice none 0 0] 48 48
  have F0 := Lib.hid g0
  have Z0 := Lib.hid g1
  have B0 := Lib.hid g2
  clear g0 g1 g2
  clear hv ha hh hk hk3
  obtain ⟨i0, hi0, hz0, hz1, hz2⟩ := info_partsE infoI
  have HI := Lib.hid hi0
  have HZ := Lib.hid hz0
  have HZ1 := Lib.hid hz1
  have HZ2 := Lib.hid hz2
  clear hi0 hz0 hz1 hz2
  obtain ⟨q0, q1, q2, q3, q4⟩ := sp5 F0.out
  go_enter Try.func37, Try.ntmps37
  go_wp2_with fail
  refine (HCK.out _ B0.out).mono ?_
  rintro e w1 ⟨rfl, b1⟩
  have B1 := Lib.hid (B0.out.trans (b1.mono B0.out.size))
  have F1 := Lib.hid ((b1.block _ (lt_of_block F0.out)).trans F0.out)
  have Z1 := Lib.hid ((b1.block _ (lt_of_block Z0.out)).trans Z0.out)
  clear b1
  clear q0 q1 q2 q3 q4
  obtain ⟨q0, q1, q2, q3, q4⟩ := sp5 F1.out
  obtain ⟨z0, z1, z2, z3, z4⟩ := sp5 Z1.out
  have zf := fun i => bk_frz Z1.out i
  rcases faultSp_two s with f | f
  · by_cases c : s.next = 4611686018427387903
    · have HR := Lib.hid (show leapSp s = (sp0, 8) from by unfold leapSp; rw [if_neg (by simp [f]), if_pos c])
      have d1 : decide (4611686018427387903 ≤ s.next) = true := by simp [c]
      rw [f]
      go_wp2_with fail
      obtain ⟨RY, gp⟩ := sp5_put Z1.out (.int .i64 0) (.slice none 0 0) (.int .i64 0) (.slice none 0 0) (.slice none 0 0)
      obtain ⟨y0, y1, y2, y3, y4⟩ := sp5 RY
      refine bodyPost_ret (by simp [results, Try.results37, go_sem, y0, y1, y2, y3, y4]; try rfl) rfl ?_
      rw [HR.out]
      exact ⟨gr_from B1.out B1.out.size (Nat.le_succ _) gp, _, rfl, SpVal.nil _ _⟩
    · have hl : leapSp s = ({ s with next := s.next + 1, skip := (s.skip ++ [s.next]).drop (s.skip.length + 1 - 6) }, 0) := by unfold leapSp; rw [if_neg (by simp [f]), if_neg c]
      have ok := (faultSp_iff s).1 f
      have hnb := ok.1
      have d1 : decide (4611686018427387903 ≤ s.next) = false := by simp; omega
      have hk6 : s.skip.length ≤ 6 := ok.2.2.2.2.2.2.2.1
      have HW2 := Lib.hid (show w.heap.size + 2 ≤ w1.heap.size from lt_of_block Z1.out)
      rw [f]
      clear z0 z1 z2 z3 z4 zf ok
      go_upto_region 6 with fail
      clear q0 q1 q2 q3 q4
      obtain ⟨nk, hnk⟩ : ∃ x, s.skip.length = x := ⟨_, rfl⟩
      have HNK := Lib.hid hnk
      rw [hnk] at F1 hk6 ⊢
      obtain ⟨K, hK⟩ : ∃ x, w.heap.size = x := ⟨_, rfl⟩
      have HKK := Lib.hid hK
      obtain ⟨nx, hnx⟩ : ∃ x, s.next = x := ⟨_, rfl⟩
      have HNXE := Lib.hid hnx
      rw [hK, hnx] at F1 ⊢
      clear hK hnx hnk
      refine wp_region_inv (fun lis_ act_ wld_ => ∃ (cb0 cb1 cb2 cb3 cb4 cb5 cb6 cb7 cb8 : Bool) (cx0 cx1 cx2 cx3 cx4 cx5 cx6 cx7 cx8 : Value), lis_ = #[cb0, cb1, cb2, cb3, cb4, cb5, cb6, cb7, cb8] ∧ act_ = { tmps := #[Value.agg #[Value.int IntKind.i64 nx, Value.slice Aa s.sent.length ca, Value.int IntKind.i64 s.top, Value.slice Ah s.heard.length ch, Value.slice Ak nk ck], Value.pointer (some { block := K, off := 0 }), Value.pointer (some { block := K + 1, off := 0 }), Value.int IntKind.i64 0, Value.int IntKind.i64 0, cx8, Value.agg #[Value.int IntKind.i64 nx, Value.slice Aa s.sent.length ca, Value.int IntKind.i64 s.top, Value.slice Ah s.heard.length ch, Value.slice Ak nk ck], Value.int IntKind.i64 0, Value.int IntKind.i64 0, Value.bool false, undef, undef, Value.pointer (some { block := K, off := 0 }), Value.int IntKind.i64 nx, Value.bool false, undef, cx0, cx1, cx2, cx3, cx4, cx5, cx6, cx7, undef, undef, undef, undef, undef, undef, undef, undef, undef, undef, undef, undef], defers := [] } ∧ RLp6 w1 K nx Ak nk ck s.skip (.pointer (some ⟨K, 4, none⟩)) (.slice Ak nk ck) (.pointer (some ⟨K, 0, none⟩)) (.int .i64 nx) cb0 cb1 cb2 cb3 cb4 cb5 cb6 cb7 cb8 cx0 cx1 cx2 cx3 cx4 cx5 cx6 cx7 cx8 wld_) (by kernel_rfl) ?h0 ?hfin ?hI
      case h0 => exact ⟨_, _, _, _, _, _, _, _, _, _, _, _, _, _, _, _, _, _, rfl, rfl, ⟨(Below.refl _ _).drew, (fun h => by cases h), (fun h => by cases h), (fun h => by cases h), (fun h => by cases h), (fun h => by cases h), (fun h => by cases h), (fun h => by cases h), (fun h => by cases h), (fun h => by cases h), (fun h => by cases h), (fun h => by cases h), (fun h => by cases h), (fun h => by cases h), (fun h => by cases h), (fun h => by cases h)⟩⟩
      case hI =>
        rintro listed a w ⟨cb0, cb1, cb2, cb3, cb4, cb5, cb6, cb7, cb8, cx0, cx1, cx2, cx3, cx4, cx5, cx6, cx7, cx8, rfl, rfl, H⟩ i hi
        obtain ⟨hun, oj, hoj, hall⟩ := mem_ready.1 hi
        clear hi
        rcases i with _ | _ | _ | _ | _ | _ | _ | _ | _ | i
        · have ho := hoj
          simp only [List.getElem?_toArray, List.getElem?_cons_zero, Option.some.injEq] at hoj
          subst hoj
          obtain rfl : cb0 = false := hun
          clear hall
          obtain rfl : cb3 = false := Bool.eq_false_iff.2 fun h => Bool.false_ne_true (H.d3 h).1
          obtain rfl : cb7 = false := Bool.eq_false_iff.2 fun h => Bool.false_ne_true (H.d7 h).1
          obtain rfl : cb8 = false := Bool.eq_false_iff.2 fun h => Bool.false_ne_true (H.d8 h).1
          have hbe := H.be
          have BA := Lib.hid ((Below.refl w.heap.size w).alloc (Nat.le_refl _) (.cells #[] 3))
          have NA := Lib.hid (MtS.new w w1.heap.size hbe.size)
          refine wpOp_step ho (fun K' hK => ?_)
          have HK := Lib.hid hK
          clear hK ho
          go_simp
          exact HK.out _ _ ⟨_, _, _, _, _, _, _, _, _, _, _, _, _, _, _, _, _, _, rfl, rfl, ⟨hbe.trans (BA.out.mono hbe.size), H.d2, (fun h => by cases h), H.d5, H.d6, H.d7, (fun h => by cases h), (fun _ _ => NA.out), H.h1, H.h2, (fun h => by cases h), H.h4, H.h5, (fun e f => OnS.later (H.h6 e f) BA.out), (fun h => by cases h), (fun h => by cases h)⟩⟩
        · have ho := hoj
          simp only [List.getElem?_toArray, List.getElem?_cons_succ, List.getElem?_cons_zero, Option.some.injEq] at hoj
          subst hoj
          obtain rfl : cb1 = false := hun
          clear hall
          obtain rfl : cb2 = false := Bool.eq_false_iff.2 fun h => Bool.false_ne_true (H.d2 h)
          obtain rfl : cb3 = false := Bool.eq_false_iff.2 fun h => Bool.false_ne_true (H.d3 h).2
          obtain rfl : cb7 = false := Bool.eq_false_iff.2 fun h => Bool.false_ne_true (H.d7 h).1
          obtain rfl : cb8 = false := Bool.eq_false_iff.2 fun h => Bool.false_ne_true (H.d8 h).2.1
          have hbe := H.be
          refine wpOp_step ho (fun K' hK => ?_)
          have HK := Lib.hid hK
          clear hK ho
          go_simp
          exact HK.out _ _ ⟨_, _, _, _, _, _, _, _, _, _, _, _, _, _, _, _, _, _, rfl, rfl, ⟨hbe, (fun h => by cases h), H.d3, H.d5, H.d6, H.d7, (fun h => by cases h), H.h0, (fun _ => rfl), H.h2, (fun h => by cases h), H.h4, H.h5, H.h6, (fun h => by cases h), (fun h => by cases h)⟩⟩
        · have ho := hoj
          simp only [List.getElem?_toArray, List.getElem?_cons_succ, List.getElem?_cons_zero, Option.some.injEq] at hoj
          subst hoj
          obtain rfl : cb2 = false := hun
          obtain rfl : cb1 = true := hall ⟨1, .data⟩ (by simp) (by kernel_rfl)
          clear hall
          obtain rfl : cb3 = false := Bool.eq_false_iff.2 fun h => Bool.false_ne_true (H.d3 h).2
          obtain rfl : cb7 = false := Bool.eq_false_iff.2 fun h => Bool.false_ne_true (H.d7 h).1
          obtain rfl : cb8 = false := Bool.eq_false_iff.2 fun h => Bool.false_ne_true (H.d8 h).2.2.1
          have hbe := H.be
          obtain rfl := H.h1 rfl
          obtain ⟨q0, q1, q2, q3, q4⟩ := sp5 ((hbe.block _ (lt_of_block F1.out)).trans F1.out)
          refine wpOp_step ho (fun K' hK => ?_)
          have HK := Lib.hid hK
          clear hK ho
          go_simp
          exact HK.out _ _ ⟨_, _, _, _, _, _, _, _, _, _, _, _, _, _, _, _, _, _, rfl, rfl, ⟨hbe, (fun _ => rfl), (fun h => by cases h), H.d5, H.d6, H.d7, (fun h => by cases h), H.h0, H.h1, (fun _ => rfl), (fun h => by cases h), H.h4, H.h5, H.h6, (fun h => by cases h), (fun h => by cases h)⟩⟩
        · have ho := hoj
          simp only [List.getElem?_toArray, List.getElem?_cons_succ, List.getElem?_cons_zero, Option.some.injEq] at hoj
          subst hoj
          obtain rfl : cb3 = false := hun
          obtain rfl : cb0 = true := hall ⟨0, .data⟩ (by simp) (by kernel_rfl)
          obtain rfl : cb2 = true := hall ⟨2, .data⟩ (by simp) (by kernel_rfl)
          obtain rfl : cb1 = true := (H.d2 rfl)
          clear hall
          obtain rfl : cb7 = false := Bool.eq_false_iff.2 fun h => Bool.false_ne_true (H.d7 h).1
          obtain rfl : cb8 = false := Bool.eq_false_iff.2 fun h => Bool.false_ne_true (H.d8 h).2.2.2.1
          have hbe := H.be
          have P0 := H.h0 rfl rfl
          obtain rfl := H.h1 rfl
          obtain rfl := H.h2 rfl
          obtain ⟨k3, hx3, hk3, hl3⟩ := P0
          have OA := Lib.hid (mt_own hk3 hl3)
          have HK3 := Lib.hid hk3
          have HBE := Lib.hid hbe
          have KR := Lib.hid (HKR.out.on (B1.out.trans (hbe.mono B1.out.size)))
          subst hx3
          clear hk3 hl3
          refine wpOp_step ho (fun K' hK => ?_)
          have HK := Lib.hid hK
          clear hK ho
          refine step_appE w rfl (.tmp 16) (.tmp 18) _ rfl w1.heap.size 3 i0 _ 8 Try.underlying46 HI.out HZ.out HZ1.out HZ2.out rfl (by decide) _ [] rfl OA.out w.heap.size Ak nk ck s.skip rfl KR.out HNK.out (by simp; omega) HBE.out.size ?_
          intro v9 u9 own9 g9
          have O9 := Lib.hid own9
          have G9 := Lib.hid g9
          have B9 := Lib.hid (HBE.out.grown g9 HBE.out.size (fun q hq => (OA.out.lt q hq).1))
          clear own9 g9
          exact HK.out _ _ ⟨_, _, _, _, _, _, _, _, _, _, _, _, _, _, _, _, _, _, rfl, rfl, ⟨B9.out, H.d2, (fun _ => ⟨rfl, rfl⟩), H.d5, H.d6, (fun h => by cases h), (fun h => by cases h), (fun _ h => by cases h), H.h1, H.h2, (fun _ _ => O9.out), H.h4, H.h5, (fun e f => OnS.turn (H.h6 e f) HK3.out G9.out), (fun h => by cases h), (fun h => by cases h)⟩⟩
        · have ho := hoj
          simp only [List.getElem?_toArray, List.getElem?_cons_succ, List.getElem?_cons_zero, Option.some.injEq] at hoj
          subst hoj
          obtain rfl : cb4 = false := hun
          clear hall
          obtain rfl : cb5 = false := Bool.eq_false_iff.2 fun h => Bool.false_ne_true (H.d5 h)
          obtain rfl : cb6 = false := Bool.eq_false_iff.2 fun h => Bool.false_ne_true (H.d6 h)
          obtain rfl : cb7 = false := Bool.eq_false_iff.2 fun h => Bool.false_ne_true (H.d7 h).2
          obtain rfl : cb8 = false := Bool.eq_false_iff.2 fun h => Bool.false_ne_true (H.d8 h).2.2.2.2.1
          have hbe := H.be
          refine wpOp_step ho (fun K' hK => ?_)
          have HK := Lib.hid hK
          clear hK ho
          go_simp
          exact HK.out _ _ ⟨_, _, _, _, _, _, _, _, _, _, _, _, _, _, _, _, _, _, rfl, rfl, ⟨hbe, H.d2, H.d3, (fun h => by cases h), H.d6, H.d7, (fun h => by cases h), H.h0, H.h1, H.h2, H.h3, (fun _ => rfl), H.h5, (fun h => by cases h), (fun h => by cases h), (fun h => by cases h)⟩⟩
        · have ho := hoj
          simp only [List.getElem?_toArray, List.getElem?_cons_succ, List.getElem?_cons_zero, Option.some.injEq] at hoj
          subst hoj
          obtain rfl : cb5 = false := hun
          obtain rfl : cb4 = true := hall ⟨4, .data⟩ (by simp) (by kernel_rfl)
          clear hall
          obtain rfl : cb6 = false := Bool.eq_false_iff.2 fun h => Bool.false_ne_true (H.d6 h)
          obtain rfl : cb7 = false := Bool.eq_false_iff.2 fun h => Bool.false_ne_true (H.d7 h).2
          obtain rfl : cb8 = false := Bool.eq_false_iff.2 fun h => Bool.false_ne_true (H.d8 h).2.2.2.2.2.1
          have hbe := H.be
          obtain rfl := H.h4 rfl
          obtain ⟨q0, q1, q2, q3, q4⟩ := sp5 ((hbe.block _ (lt_of_block F1.out)).trans F1.out)
          refine wpOp_step ho (fun K' hK => ?_)
          have HK := Lib.hid hK
          clear hK ho
          go_simp
          exact HK.out _ _ ⟨_, _, _, _, _, _, _, _, _, _, _, _, _, _, _, _, _, _, rfl, rfl, ⟨hbe, H.d2, H.d3, (fun _ => rfl), (fun h => by cases h), H.d7, (fun h => by cases h), H.h0, H.h1, H.h2, H.h3, H.h4, (fun _ => rfl), (fun h => by cases h), (fun h => by cases h), (fun h => by cases h)⟩⟩
        · have ho := hoj
          simp only [List.getElem?_toArray, List.getElem?_cons_succ, List.getElem?_cons_zero, Option.some.injEq] at hoj
          subst hoj
          obtain rfl : cb6 = false := hun
          obtain rfl : cb5 = true := hall ⟨5, .data⟩ (by simp) (by kernel_rfl)
          obtain rfl : cb4 = true := (H.d5 rfl)
          clear hall
          obtain rfl : cb7 = false := Bool.eq_false_iff.2 fun h => Bool.false_ne_true (H.d7 h).2
          obtain rfl : cb8 = false := Bool.eq_false_iff.2 fun h => Bool.false_ne_true (H.d8 h).2.2.2.2.2.2.1
          have hbe := H.be
          obtain rfl := H.h4 rfl
          obtain rfl := H.h5 rfl
          have BA := Lib.hid ((Below.refl w.heap.size w).alloc (Nat.le_refl _) (.cells #[.int .i64 nx] 3))
          have NA := Lib.hid (OnS.new w w1.heap.size nx hbe.size)
          refine wpOp_step ho (fun K' hK => ?_)
          have HK := Lib.hid hK
          clear hK ho
          go_simp
          exact HK.out _ _ ⟨_, _, _, _, _, _, _, _, _, _, _, _, _, _, _, _, _, _, rfl, rfl, ⟨hbe.trans (BA.out.mono hbe.size), H.d2, H.d3, H.d5, (fun _ => rfl), (fun h => by cases h), (fun h => by cases h), (fun e f => MtS.later (H.h0 e f) BA.out), H.h1, H.h2, (fun e f => OwnE.later (H.h3 e f) BA.out), H.h4, H.h5, (fun _ _ => NA.out), (fun h => by cases h), (fun h => by cases h)⟩⟩
        · have ho := hoj
          simp only [List.getElem?_toArray, List.getElem?_cons_succ, List.getElem?_cons_zero, Option.some.injEq] at hoj
          subst hoj
          obtain rfl : cb7 = false := hun
          obtain rfl : cb3 = true := hall ⟨3, .data⟩ (by simp) (by kernel_rfl)
          obtain rfl : cb6 = true := hall ⟨6, .data⟩ (by simp) (by kernel_rfl)
          obtain rfl : cb0 = true := (H.d3 rfl).1
          obtain rfl : cb2 = true := (H.d3 rfl).2
          obtain rfl : cb5 = true := (H.d6 rfl)
          obtain rfl : cb1 = true := (H.d2 rfl)
          obtain rfl : cb4 = true := (H.d5 rfl)
          clear hall
          obtain rfl : cb8 = false := Bool.eq_false_iff.2 fun h => Bool.false_ne_true (H.d8 h).2.2.2.2.2.2.2
          have hbe := H.be
          obtain rfl := H.h1 rfl
          obtain rfl := H.h2 rfl
          have P3 := H.h3 rfl rfl
          obtain rfl := H.h4 rfl
          obtain rfl := H.h5 rfl
          have P6 := H.h6 rfl rfl
          obtain ⟨k6, hx6, hk6, hl6⟩ := P6
          have R6 := Lib.hid (on_row hk6)
          have OA := Lib.hid P3
          have HBE := Lib.hid hbe
          subst hx6
          clear hk6 hl6
          refine wpOp_step ho (fun K' hK => ?_)
          have HK := Lib.hid hK
          clear hK ho
          refine step_appE w rfl (.tmp 19) (.tmp 22) _ rfl w1.heap.size 3 i0 _ 8 Try.underlying46 HI.out HZ.out HZ1.out HZ2.out rfl (by decide) _ s.skip rfl OA.out w.heap.size (some ⟨k6, 0, none⟩) 1 1 [nx] rfl R6.out rfl (by rw [HNK.out]; omega) HBE.out.size ?_
          intro v9 u9 own9 g9
          have O9 := Lib.hid own9
          have B9 := Lib.hid (HBE.out.grown g9 HBE.out.size (fun q hq => (OA.out.lt q hq).1))
          clear own9 g9
          exact HK.out _ _ ⟨_, _, _, _, _, _, _, _, _, _, _, _, _, _, _, _, _, _, rfl, rfl, ⟨B9.out, H.d2, H.d3, H.d5, H.d6, (fun _ => ⟨rfl, rfl⟩), (fun h => by cases h), (fun _ h => by cases h), H.h1, H.h2, (fun _ h => by cases h), H.h4, H.h5, (fun _ h => by cases h), (fun _ => O9.out), (fun h => by cases h)⟩⟩
        · have ho := hoj
          simp only [List.getElem?_toArray, List.getElem?_cons_succ, List.getElem?_cons_zero, Option.some.injEq] at hoj
          subst hoj
          obtain rfl : cb8 = false := hun
          obtain rfl : cb0 = true := hall ⟨0, .phase⟩ (by simp) (by kernel_rfl)
          obtain rfl : cb1 = true := hall ⟨1, .phase⟩ (by simp) (by kernel_rfl)
          obtain rfl : cb2 = true := hall ⟨2, .phase⟩ (by simp) (by kernel_rfl)
          obtain rfl : cb3 = true := hall ⟨3, .phase⟩ (by simp) (by kernel_rfl)
          obtain rfl : cb4 = true := hall ⟨4, .phase⟩ (by simp) (by kernel_rfl)
          obtain rfl : cb5 = true := hall ⟨5, .phase⟩ (by simp) (by kernel_rfl)
          obtain rfl : cb6 = true := hall ⟨6, .phase⟩ (by simp) (by kernel_rfl)
          obtain rfl : cb7 = true := hall ⟨7, .data⟩ (by simp) (by kernel_rfl)
          clear hall
          have hbe := H.be
          obtain rfl := H.h1 rfl
          obtain rfl := H.h2 rfl
          obtain rfl := H.h4 rfl
          obtain rfl := H.h5 rfl
          have P7 := H.h7 rfl
          have PP := Lib.hid P7
          refine wpOp_step ho (fun K' hK => ?_)
          have HK := Lib.hid hK
          clear hK ho
          go_simp
          exact HK.out _ _ ⟨_, _, _, _, _, _, _, _, _, _, _, _, _, _, _, _, _, _, rfl, rfl, ⟨hbe, H.d2, H.d3, H.d5, H.d6, H.d7, (fun _ => ⟨rfl, rfl, rfl, rfl, rfl, rfl, rfl, rfl⟩), (fun _ h => by cases h), H.h1, H.h2, (fun _ h => by cases h), H.h4, H.h5, (fun _ h => by cases h), H.h7, (fun _ => PP.out)⟩⟩
        · have ho := hoj
          simp at ho
      case hfin =>
        rintro listed a w ⟨cb0, cb1, cb2, cb3, cb4, cb5, cb6, cb7, cb8, cx0, cx1, cx2, cx3, cx4, cx5, cx6, cx7, cx8, rfl, rfl, H⟩ hr
        have hb : cb8 = true := by
          clear H
          revert cb0 cb1 cb2 cb3 cb4 cb5 cb6 cb7 cb8
          decide +kernel
        subst hb
        clear hr
        obtain rfl : cb0 = true := (H.d8 rfl).1
        obtain rfl : cb1 = true := (H.d8 rfl).2.1
        obtain rfl : cb2 = true := (H.d8 rfl).2.2.1
        obtain rfl : cb3 = true := (H.d8 rfl).2.2.2.1
        obtain rfl : cb4 = true := (H.d8 rfl).2.2.2.2.1
        obtain rfl : cb5 = true := (H.d8 rfl).2.2.2.2.2.1
        obtain rfl : cb6 = true := (H.d8 rfl).2.2.2.2.2.2.1
        obtain rfl : cb7 = true := (H.d8 rfl).2.2.2.2.2.2.2
        have O9 := Lib.hid (H.h8 rfl)
        have cb9 := H.be
        have B9 := Lib.hid (B1.out.trans (cb9.mono B1.out.size))
        have F9 := Lib.hid ((cb9.block _ (lt_of_block F1.out)).trans F1.out)
        have Z9 := Lib.hid ((cb9.block _ (lt_of_block Z1.out)).trans Z1.out)
        clear H cb9
        obtain rfl := HKK.out
        obtain rfl := HNXE.out
        obtain ⟨w9, hw9⟩ : ∃ y, y = w := ⟨_, rfl⟩
        subst w
        obtain ⟨n9, hn9⟩ : ∃ x, (s.skip ++ [s.next]).length = x := ⟨_, rfl⟩
        have HN9 := Lib.hid (show n9 = nk + 1 from by rw [← hn9, List.length_append, HNK.out]; rfl)
        obtain ⟨g, c9, hv9⟩ : ∃ g c9, cx8 = .slice (some ⟨g, 0, none⟩) n9 c9 := by
          rcases O9.out.2 with ⟨e0, h0⟩ | ⟨g, cap, cur, ev, _⟩
          · rw [hn9] at h0; have := HN9.out; omega
          · exact ⟨g, cap, by rw [ev, hn9]⟩
        subst hv9
        obtain ⟨A9, c9', e9, h91, h92, _⟩ := O9.out.slice
        rw [hn9] at e9 h91
        injection e9 with e91 e92 e93
        subst c9'
        have O9 := Lib.hid (OwnE.low O9.out HW2.out)
        have LL := Lib.hid hl
        clear e91 hl
        have hc96 : n9 ≤ c9 := h91
        rcases Nat.lt_trichotomy nk 5 with h5 | h5 | h5
        · have hlo : nk < 5 := h5
          have hmx : (n9 : Int) - 6 < 0 := by have := HN9.out; omega
          have HD9 := Lib.hid (show 0 < n9 from by have := HN9.out; omega)
          clear HN9
          obtain ⟨q0, q1, q2, q3, q4⟩ := sp5 F9.out
          have qf := fun i => bk_frz F9.out i
          obtain ⟨W10, hW10⟩ : ∃ x, w9.setCell ⟨w.heap.size, 4, none⟩ (.slice (some ⟨g, 0, none⟩) (n9) (c9)) = x := ⟨_, rfl⟩
          have f10 := (sp5_set F9.out (.slice (some ⟨g, 0, none⟩) (n9) (c9))).2.2.2.2
          have g10 := gr_set w9 w.heap.size 4 (.slice (some ⟨g, 0, none⟩) (n9) (c9))
          rw [hW10] at f10 g10
          have F10 := Lib.hid f10
          have Z10 := Lib.hid ((g10.block _ (lt_of_block Z9.out) (by simp)).trans Z9.out)
          have B10 := Lib.hid (gr_from B9.out B9.out.size (Nat.le_refl _) g10)
          clear f10
          have PK10 := Lib.hid (StS.on (ints_cut (d := 0) O9.out hn9 HD9.out) (KpS.gr g10 (show w.heap.size < w.heap.size + 2 by omega)))
          obtain ⟨p0, p1, p2, p3, p4⟩ := sp5 F10.out
          clear g10
          have pf := fun i => bk_frz F10.out i
          obtain ⟨W11, hW11⟩ : ∃ x, W10.setCell ⟨w.heap.size, 0, none⟩ (.int .i64 (s.next + 1)) = x := ⟨_, rfl⟩
          have f11 := (sp5_set F10.out (.int .i64 (s.next + 1))).1
          have g11 := gr_set W10 w.heap.size 0 (.int .i64 (s.next + 1))
          rw [hW11] at f11 g11
          have F11 := Lib.hid f11
          have Z11 := Lib.hid ((g11.block _ (lt_of_block Z10.out) (by simp)).trans Z10.out)
          have B11 := Lib.hid (gr_from B10.out B10.out.size (Nat.le_refl _) g11)
          clear f11
          have PK11 := Lib.hid (StS.on PK10.out (KpS.gr g11 (show w.heap.size < w.heap.size + 2 by omega)))
          clear g11
          obtain ⟨r0, r1, r2, r3, r4⟩ := sp5 F11.out
          obtain ⟨z0, z1, z2, z3, z4⟩ := sp5 Z11.out
          have zf := fun i => bk_frz Z11.out i
          go_wp2_with fail
          obtain ⟨RY, gp⟩ := sp5_put Z11.out (.int .i64 (s.next + 1)) (.slice Aa s.sent.length ca) (.int .i64 s.top) (.slice Ah s.heard.length ch) (.slice (some ⟨g, 0, none⟩) (n9) (c9))
          obtain ⟨y0, y1, y2, y3, y4⟩ := sp5 RY
          refine bodyPost_ret (by simp [results, Try.results37, go_sem, y0, y1, y2, y3, y4]; try rfl) rfl ?_
          rw [LL.out]
          have BE := gr_from B11.out B11.out.size (Nat.le_succ _) gp
          refine ⟨BE, _, rfl, _, _, _, rfl, HA.out.on BE, (HH.out.below BE).more BE.size, ?_⟩
          have := PK11.out _ (KpS.gr (S := fun j => j < w.heap.size + 2) gp (show w.heap.size + 1 < w.heap.size + 2 by omega))
          rw [HNK.out, show nk + 1 - 6 = 0 from by omega]
          exact this
        · subst h5
          obtain rfl : n9 = 6 := HN9.out
          have HD9 := Lib.hid (show 0 < 6 from by have := HN9.out; omega)
          clear HN9
          obtain ⟨q0, q1, q2, q3, q4⟩ := sp5 F9.out
          have qf := fun i => bk_frz F9.out i
          obtain ⟨W10, hW10⟩ : ∃ x, w9.setCell ⟨w.heap.size, 4, none⟩ (.slice (some ⟨g, 0, none⟩) (6) (c9)) = x := ⟨_, rfl⟩
          have f10 := (sp5_set F9.out (.slice (some ⟨g, 0, none⟩) (6) (c9))).2.2.2.2
          have g10 := gr_set w9 w.heap.size 4 (.slice (some ⟨g, 0, none⟩) (6) (c9))
          rw [hW10] at f10 g10
          have F10 := Lib.hid f10
          have Z10 := Lib.hid ((g10.block _ (lt_of_block Z9.out) (by simp)).trans Z9.out)
          have B10 := Lib.hid (gr_from B9.out B9.out.size (Nat.le_refl _) g10)
          clear f10
          have PK10 := Lib.hid (StS.on (ints_cut (d := 0) O9.out hn9 HD9.out) (KpS.gr g10 (show w.heap.size < w.heap.size + 2 by omega)))
          obtain ⟨p0, p1, p2, p3, p4⟩ := sp5 F10.out
          clear g10
          have pf := fun i => bk_frz F10.out i
          obtain ⟨W11, hW11⟩ : ∃ x, W10.setCell ⟨w.heap.size, 0, none⟩ (.int .i64 (s.next + 1)) = x := ⟨_, rfl⟩
          have f11 := (sp5_set F10.out (.int .i64 (s.next + 1))).1
          have g11 := gr_set W10 w.heap.size 0 (.int .i64 (s.next + 1))
          rw [hW11] at f11 g11
          have F11 := Lib.hid f11
          have Z11 := Lib.hid ((g11.block _ (lt_of_block Z10.out) (by simp)).trans Z10.out)
          have B11 := Lib.hid (gr_from B10.out B10.out.size (Nat.le_refl _) g11)
          clear f11
          have PK11 := Lib.hid (StS.on PK10.out (KpS.gr g11 (show w.heap.size < w.heap.size + 2 by omega)))
          clear g11
          obtain ⟨r0, r1, r2, r3, r4⟩ := sp5 F11.out
          obtain ⟨z0, z1, z2, z3, z4⟩ := sp5 Z11.out
          have zf := fun i => bk_frz Z11.out i
          go_wp2_with fail
          obtain ⟨RY, gp⟩ := sp5_put Z11.out (.int .i64 (s.next + 1)) (.slice Aa s.sent.length ca) (.int .i64 s.top) (.slice Ah s.heard.length ch) (.slice (some ⟨g, 0, none⟩) (6) (c9))
          obtain ⟨y0, y1, y2, y3, y4⟩ := sp5 RY
          refine bodyPost_ret (by simp [results, Try.results37, go_sem, y0, y1, y2, y3, y4]; try rfl) rfl ?_
          rw [LL.out]
          have BE := gr_from B11.out B11.out.size (Nat.le_succ _) gp
          refine ⟨BE, _, rfl, _, _, _, rfl, HA.out.on BE, (HH.out.below BE).more BE.size, ?_⟩
          have := PK11.out _ (KpS.gr (S := fun j => j < w.heap.size + 2) gp (show w.heap.size + 1 < w.heap.size + 2 by omega))
          rw [HNK.out]
          exact this
        · obtain rfl : nk = 6 := by omega
          obtain rfl : n9 = 7 := HN9.out
          clear h5
          have HD9 := Lib.hid (show 1 < 7 from by have := HN9.out; omega)
          clear HN9
          obtain ⟨q0, q1, q2, q3, q4⟩ := sp5 F9.out
          have qf := fun i => bk_frz F9.out i
          obtain ⟨W10, hW10⟩ : ∃ x, w9.setCell ⟨w.heap.size, 4, none⟩ (.slice (some ⟨g, 1, none⟩) (6) (c9 - 1)) = x := ⟨_, rfl⟩
          have f10 := (sp5_set F9.out (.slice (some ⟨g, 1, none⟩) (6) (c9 - 1))).2.2.2.2
          have g10 := gr_set w9 w.heap.size 4 (.slice (some ⟨g, 1, none⟩) (6) (c9 - 1))
          rw [hW10] at f10 g10
          have F10 := Lib.hid f10
          have Z10 := Lib.hid ((g10.block _ (lt_of_block Z9.out) (by simp)).trans Z9.out)
          have B10 := Lib.hid (gr_from B9.out B9.out.size (Nat.le_refl _) g10)
          clear f10
          have PK10 := Lib.hid (StS.on (ints_cut (d := 1) O9.out hn9 HD9.out) (KpS.gr g10 (show w.heap.size < w.heap.size + 2 by omega)))
          obtain ⟨p0, p1, p2, p3, p4⟩ := sp5 F10.out
          clear g10
          have pf := fun i => bk_frz F10.out i
          obtain ⟨W11, hW11⟩ : ∃ x, W10.setCell ⟨w.heap.size, 0, none⟩ (.int .i64 (s.next + 1)) = x := ⟨_, rfl⟩
          have f11 := (sp5_set F10.out (.int .i64 (s.next + 1))).1
          have g11 := gr_set W10 w.heap.size 0 (.int .i64 (s.next + 1))
          rw [hW11] at f11 g11
          have F11 := Lib.hid f11
          have Z11 := Lib.hid ((g11.block _ (lt_of_block Z10.out) (by simp)).trans Z10.out)
          have B11 := Lib.hid (gr_from B10.out B10.out.size (Nat.le_refl _) g11)
          clear f11
          have PK11 := Lib.hid (StS.on PK10.out (KpS.gr g11 (show w.heap.size < w.heap.size + 2 by omega)))
          clear g11
          obtain ⟨r0, r1, r2, r3, r4⟩ := sp5 F11.out
          obtain ⟨z0, z1, z2, z3, z4⟩ := sp5 Z11.out
          have zf := fun i => bk_frz Z11.out i
          go_wp2_with fail
          obtain ⟨RY, gp⟩ := sp5_put Z11.out (.int .i64 (s.next + 1)) (.slice Aa s.sent.length ca) (.int .i64 s.top) (.slice Ah s.heard.length ch) (.slice (some ⟨g, 1, none⟩) (6) (c9 - 1))
          obtain ⟨y0, y1, y2, y3, y4⟩ := sp5 RY
          refine bodyPost_ret (by simp [results, Try.results37, go_sem, y0, y1, y2, y3, y4]; try rfl) rfl ?_
          rw [LL.out]
          have BE := gr_from B11.out B11.out.size (Nat.le_succ _) gp
          refine ⟨BE, _, rfl, _, _, _, rfl, HA.out.on BE, (HH.out.below BE).more BE.size, ?_⟩
          have := PK11.out _ (KpS.gr (S := fun j => j < w.heap.size + 2) gp (show w.heap.size + 1 < w.heap.size + 2 by omega))
          rw [HNK.out]
          exact this
  · have HR := Lib.hid (show leapSp s = (sp0, 9) from by unfold leapSp; rw [f]; rfl)
    rw [f]
    go_wp2_with fail
    obtain ⟨RY, gp⟩ := sp5_put Z1.out (.int .i64 0) (.slice none 0 0) (.int .i64 0) (.slice none 0 0) (.slice none 0 0)
    obtain ⟨y0, y1, y2, y3, y4⟩ := sp5 RY
    refine bodyPost_ret (by simp [results, Try.results37, go_sem, y0, y1, y2, y3, y4]; try rfl) rfl ?_
    rw [HR.out]
    exact ⟨gr_from B1.out B1.out.size (Nat.le_succ _) gp, _, rfl, SpVal.nil _ _⟩
end Go.Proofs.Ytgfbonfoimiknaa
