/- The document's answers on ranges: without, RangeCut; and what is refused. -/
import Derived.Test.YtkpkgegonfcgnaaRefCuts
namespace Go.Proofs.Ytkpkgegonfcgnaa
set_option linter.unusedVariables false
open Go.RowKit P

theorem own_baseR {w : World} {base base' : Nat} {e : TypeId} {v : Value} {qs : List (Int × Int)} (h : OwnR w base e v qs) (hb : base' ≤ base) : OwnR w base' e v qs := by
  refine ⟨h.1, ?_⟩
  rcases h.2 with h0 | ⟨g, cap, cur, h1, h2, h3⟩
  · exact .inl h0
  · exact .inr ⟨g, cap, cur, h1, Nat.le_trans hb h2, h3⟩
/-- the second of two new ranges, behind two blocks more -/
theorem two_cells (w : World) (x y z : Obj) (a b c d : Int) (t : TypeId) :
    ((((w.alloc x).alloc (.cells #[.int .i64 a, .int .i64 b, .int .i64 c, .int .i64 d] t)).alloc y).alloc z).cell? ⟨w.heap.size + 1, 2, none⟩ = some (.int .i64 c) ∧
    ((((w.alloc x).alloc (.cells #[.int .i64 a, .int .i64 b, .int .i64 c, .int .i64 d] t)).alloc y).alloc z).cell? ⟨w.heap.size + 1, 3, none⟩ = some (.int .i64 d) := by
  have hs : (w.alloc x).heap.size = w.heap.size + 1 := by simp
  have hh : ((w.alloc x).alloc (.cells #[.int .i64 a, .int .i64 b, .int .i64 c, .int .i64 d] t)).heap[w.heap.size + 1]? = some (.cells #[.int .i64 a, .int .i64 b, .int .i64 c, .int .i64 d] t (0, 0)) := by
    rw [← hs]; exact heap_alloc_new _ _
  have e2 := cell_of_row _ (w.heap.size + 1) 2 _ _ _ hh
  have e3 := cell_of_row _ (w.heap.size + 1) 3 _ _ _ hh
  simp only [List.getElem?_toArray, List.getElem?_cons_succ, List.getElem?_cons_zero] at e2 e3
  refine ⟨?_, ?_⟩
  · rw [World.cell?_alloc_lt _ _ _ (by simp), World.cell?_alloc_lt _ _ _ (by simp)]; exact e2
  · rw [World.cell?_alloc_lt _ _ _ (by simp), World.cell?_alloc_lt _ _ _ (by simp)]; exact e3

set_option maxRecDepth 100000 in
set_option maxHeartbeats 3200000 in
theorem without_any (A : Option Addr) (len cap : Nat) (ps : List (Int × Int)) (lo hi : Int) (w : World) (h : RRow w w.heap.size A ps) (hl : ps.length = len) (hok : okL ps) (hr : okR (lo, hi)) (hm : (len + 2) * 16 ≤ 140737488355328) :
    Calls Try.prog 40 #[.slice A len cap, .agg #[.int .i64 lo, .int .i64 hi]] w (JoinPost (cutL (lo, hi) ps) w) := by
  have HW := Lib.hid ((Below.refl w.heap.size w).alloc (Nat.le_refl _) (.cells #[.int .i64 lo, .int .i64 hi] 61))
  have HR0 := Lib.hid h
  have HL := Lib.hid hl
  have HO := Lib.hid hok
  have HK := Lib.hid hr
  obtain ⟨i0, hi0, hz0, hz1, hz2⟩ := info_parts infoR
  have HI := Lib.hid hi0
  have HZ := Lib.hid hz0
  have HZ1 := Lib.hid hz1
  have HZ2 := Lib.hid hz2
  obtain ⟨r0, r1, r2⟩ := hr
  simp only at r0 r1 r2
  clear h hl hok hi0 hz0 hz1 hz2
  go_enter Try.func40, Try.ntmps40
  go_wp2
  go_loopg [5, 12] len (fun g v i wr => ∃ k : Nat, k + g = len ∧ i = .int .i64 k ∧ Below (w.heap.size + 1) (w.alloc (.cells #[.int .i64 lo, .int .i64 hi] 61)) wr ∧ Hid (OwnR wr (w.heap.size + 1) 61 v (cutL (lo, hi) (ps.take k))))
  case atStart => exact ⟨0, by omega, rfl, Below.refl _ _, OwnR.nil _ _ _⟩
  case round =>
    obtain ⟨k, hk, rfl, hb, O0⟩ := hrel
    have HB := Lib.hid hb
    have HBW := Lib.hid (HW.out.trans (hb.mono (by omega)))
    have hbs : w.heap.size + 1 ≤ wr.heap.size := by have := hb.size; simpa using this
    have e0 := (hb.cell (p := ⟨w.heap.size, 0, none⟩) (by simp)).trans (by simp : _ = some (.int .i64 lo))
    have e1 := (hb.cell (p := ⟨w.heap.size, 1, none⟩) (by simp)).trans (by simp : _ = some (.int .i64 hi))
    clear hb
    by_cases hlt : k < len
    · obtain ⟨b, off, rfl, hbb, hc⟩ := (HR0.out.below HBW.out) (by rw [HL.out]; omega)
      obtain ⟨d0, d1⟩ := hc k (by rw [HL.out]; omega)
      have pk := ok_get HO.out k (by rw [HL.out]; omega)
      have HS := Lib.hid (cutL_snoc (lo, hi) ps k (by rw [HL.out]; omega))
      have l1 := cut_len (r := (lo, hi)) HK.out (okFrom_take HO.out k)
      rw [List.length_take, HL.out] at l1
      obtain ⟨⟨plo, phi⟩, hq⟩ : ∃ p, ps.getD k (0, 0) = p := ⟨_, rfl⟩
      rw [hq] at d0 d1 HS pk
      simp only at d0 d1 HS
      obtain ⟨p0, p1, p2⟩ := pk
      simp only at p0 p1 p2
      have i1 : (k : Int) < (len : Int) := by omega
      clear hc hq
      obtain ⟨C, hC⟩ : ∃ C, cutL (lo, hi) (ps.take k) = C := ⟨_, rfl⟩
      rw [hC] at O0 HS l1
      clear hC
      obtain ⟨m1, hm1⟩ : ∃ m, (if lo - 1 < phi then lo - 1 else phi) = m := ⟨_, rfl⟩
      obtain ⟨m2, hm2⟩ : ∃ m, (if plo < hi + 1 then hi + 1 else plo) = m := ⟨_, rfl⟩
      rw [← min_if, ← max_if, hm1, hm2] at HS
      have e2 := (World.cell?_alloc_lt wr (.cells #[.int .i64 plo, .int .i64 phi] 61) ⟨w.heap.size, 0, none⟩ hbs).trans e0
      have e3 := (World.cell?_alloc_lt wr (.cells #[.int .i64 plo, .int .i64 phi] 61) ⟨w.heap.size, 1, none⟩ hbs).trans e1
      have BX := Lib.hid (HB.out.alloc hbs (.cells #[.int .i64 plo, .int .i64 phi] 61))
      have hl0 := Lib.hid (fun h => Nat.lt_irrefl _ ((O0.out.lt _ h).2) : u5.ownBlock ≠ some wr.heap.size)
      clear e0 e1
      go_wp2_with fail
      have hne1 := Lib.hid (fun h => by have := (O0.out.lt _ h).2; omega : u5.ownBlock ≠ some (wr.heap.size + 1))
      clear hm1 hm2
      have hby : (C.length + 1) * 16 ≤ 140737488355328 := by omega
      have hby2 : (C.length + 2) * 16 ≤ 140737488355328 := by omega
      by_cases s1 : plo ≤ m1
      · have q1 := Lib.hid (show sm plo m1 = [(plo, m1)] from if_pos s1)
        by_cases s2 : m2 ≤ phi
        · have q2 := Lib.hid (show sm m2 phi = [(m2, phi)] from if_pos s2)
          refine wp_loop_rounds 3 ?_
          repeat any_goals (rw [rounds_succ]; go_wp2_with (first
            | (at_builtin
               refine wpList_appR _ rfl (.tmp 45) (.tmp 47) _ rfl (w.heap.size + 1) 61 i0 _ Try.underlying23 HI.out HZ.out HZ1.out HZ2.out rfl v1 (C ++ [(plo, m1)]) rfl ((O1.out.alloc _).alloc _) (w1.heap.size + 1 + 1) (some ⟨w1.heap.size + 1, 0, none⟩) 1 1 [(m2, phi)] rfl (by have := RRow.one (w1.alloc (.cells #[.int .i64 m2, .int .i64 phi] 61)) m2 phi 61; simpa using this) rfl (by rw [List.length_append]; first | omega | (simp; omega)) (by have := HB1.out.size; first | (simp at this; omega) | (simp at this ⊢; omega)) ?_
               intro v2 w2 own2 g2
               have O2 := Lib.hid own2
               have HB2 := Lib.hid (((HB1.out.alloc (by have := HB1.out.size; first | (simp at this; omega) | (simp at this ⊢; omega)) _).alloc (by have := HB1.out.size; first | (simp at this; omega) | (simp at this ⊢; omega)) _).grown g2 (by have := HB1.out.size; first | (simp at this; omega) | (simp at this ⊢; omega)) (fun k hk => (O1.out.lt k hk).1))
               clear own2 g2)
            | (at_builtin
               refine wpList_appR _ rfl (.tmp 45) (.tmp 47) _ rfl (w.heap.size + 1) 61 i0 _ Try.underlying23 HI.out HZ.out HZ1.out HZ2.out rfl u5 C rfl ((((O0.out.alloc _).alloc _).alloc _).alloc _) (wr.heap.size + 1 + 1 + 1 + 1) (some ⟨wr.heap.size + 1 + 1 + 1, 0, none⟩) 1 1 [(plo, m1)] rfl (by have := RRow.one (((wr.alloc (.cells #[.int .i64 plo, .int .i64 phi] 61)).alloc (.cells #[.int .i64 plo, .int .i64 m1, .int .i64 m2, .int .i64 phi] 61)).alloc (.cells #[.int .i64 plo, .int .i64 m1] 61)) plo m1 61; simpa using this) rfl hby (by first | omega | (simp; omega)) ?_
               intro v1 w1 own1 g1
               have O1 := Lib.hid own1
               have t2 := g1.cell (a := ⟨wr.heap.size + 1, 2, none⟩) (v := .int .i64 m2) (two_cells _ _ _ _ _ _ _ _ _).1 (fun h => hne1.out h.symm)
               have t3 := g1.cell (a := ⟨wr.heap.size + 1, 3, none⟩) (v := .int .i64 phi) (two_cells _ _ _ _ _ _ _ _ _).2 (fun h => hne1.out h.symm)
               have HB1 := Lib.hid ((((BX.out.alloc (by first | omega | (simp; omega)) (.cells #[.int .i64 plo, .int .i64 m1, .int .i64 m2, .int .i64 phi] 61)).alloc (by first | omega | (simp; omega)) (.cells #[.int .i64 plo, .int .i64 m1] 61)).alloc (by first | omega | (simp; omega)) (.cells #[.int .i64 plo, .int .i64 m1] 61)).grown g1 (by first | omega | (simp; omega)) (fun k hk => (O0.out.lt k hk).1))
               clear own1 g1)))
          go_roundg (gk - 1)
          case measure => omega
          case rel =>
            have e := O2.out
            rw [← q1.out, ← q2.out, ← HS.out] at e
            exact ⟨k + 1, by omega, by go_num, HB2.out, e⟩
        · have q2 := Lib.hid (show sm m2 phi = [] from if_neg s2)
          have g2' : decide (m2 ≤ phi) = false := decide_eq_false s2
          refine wp_loop_rounds 3 ?_
          repeat any_goals (rw [rounds_succ]; go_wp2_with (first
            | (at_builtin
               refine wpList_appR _ rfl (.tmp 45) (.tmp 47) _ rfl (w.heap.size + 1) 61 i0 _ Try.underlying23 HI.out HZ.out HZ1.out HZ2.out rfl u5 C rfl ((((O0.out.alloc _).alloc _).alloc _).alloc _) (wr.heap.size + 1 + 1 + 1 + 1) (some ⟨wr.heap.size + 1 + 1 + 1, 0, none⟩) 1 1 [(plo, m1)] rfl (by have := RRow.one (((wr.alloc (.cells #[.int .i64 plo, .int .i64 phi] 61)).alloc (.cells #[.int .i64 plo, .int .i64 m1, .int .i64 m2, .int .i64 phi] 61)).alloc (.cells #[.int .i64 plo, .int .i64 m1] 61)) plo m1 61; simpa using this) rfl hby (by first | omega | (simp; omega)) ?_
               intro v1 w1 own1 g1
               have O1 := Lib.hid own1
               have t2 := g1.cell (a := ⟨wr.heap.size + 1, 2, none⟩) (v := .int .i64 m2) (two_cells _ _ _ _ _ _ _ _ _).1 (fun h => hne1.out h.symm)
               have t3 := g1.cell (a := ⟨wr.heap.size + 1, 3, none⟩) (v := .int .i64 phi) (two_cells _ _ _ _ _ _ _ _ _).2 (fun h => hne1.out h.symm)
               have HB1 := Lib.hid ((((BX.out.alloc (by first | omega | (simp; omega)) (.cells #[.int .i64 plo, .int .i64 m1, .int .i64 m2, .int .i64 phi] 61)).alloc (by first | omega | (simp; omega)) (.cells #[.int .i64 plo, .int .i64 m1] 61)).alloc (by first | omega | (simp; omega)) (.cells #[.int .i64 plo, .int .i64 m1] 61)).grown g1 (by first | omega | (simp; omega)) (fun k hk => (O0.out.lt k hk).1))
               clear own1 g1)))
          go_roundg (gk - 1)
          case measure => omega
          case rel =>
            have e := O1.out.alloc (.cells #[.int .i64 m2, .int .i64 phi] 61)
            rw [← q1.out, ← List.append_nil (C ++ sm plo m1), ← q2.out, ← HS.out] at e
            exact ⟨k + 1, by omega, by go_num, HB1.out.alloc (by have := HB1.out.size; first | (simp at this; omega) | (simp at this ⊢; omega)) _, e⟩
      · have q1 := Lib.hid (show sm plo m1 = [] from if_neg s1)
        have g1' : decide (plo ≤ m1) = false := decide_eq_false s1
        by_cases s2 : m2 ≤ phi
        · have q2 := Lib.hid (show sm m2 phi = [(m2, phi)] from if_pos s2)
          refine wp_loop_rounds 3 ?_
          repeat any_goals (rw [rounds_succ]; go_wp2_with (first
            | (at_builtin
               refine wpList_appR _ rfl (.tmp 45) (.tmp 47) _ rfl (w.heap.size + 1) 61 i0 _ Try.underlying23 HI.out HZ.out HZ1.out HZ2.out rfl u5 C rfl (((((O0.out.alloc _).alloc _).alloc _).alloc _).alloc _) (wr.heap.size + 1 + 1 + 1 + 1 + 1) (some ⟨wr.heap.size + 1 + 1 + 1 + 1, 0, none⟩) 1 1 [(m2, phi)] rfl (by have := RRow.one ((((wr.alloc (.cells #[.int .i64 plo, .int .i64 phi] 61)).alloc (.cells #[.int .i64 plo, .int .i64 m1, .int .i64 m2, .int .i64 phi] 61)).alloc (.cells #[.int .i64 plo, .int .i64 m1] 61)).alloc (.cells #[.int .i64 m2, .int .i64 phi] 61)) m2 phi 61; simpa using this) rfl hby (by first | omega | (simp; omega)) ?_
               intro v1 w1 own1 g1
               have O1 := Lib.hid own1
               have HB1 := Lib.hid (((((BX.out.alloc (by first | omega | (simp; omega)) (.cells #[.int .i64 plo, .int .i64 m1, .int .i64 m2, .int .i64 phi] 61)).alloc (by first | omega | (simp; omega)) (.cells #[.int .i64 plo, .int .i64 m1] 61)).alloc (by first | omega | (simp; omega)) (.cells #[.int .i64 m2, .int .i64 phi] 61)).alloc (by first | omega | (simp; omega)) (.cells #[.int .i64 m2, .int .i64 phi] 61)).grown g1 (by first | omega | (simp; omega)) (fun k hk => (O0.out.lt k hk).1))
               clear own1 g1)))
          go_roundg (gk - 1)
          case measure => omega
          case rel =>
            have e := O1.out
            rw [← q2.out, ← List.append_nil C, ← q1.out, ← HS.out] at e
            exact ⟨k + 1, by omega, by go_num, HB1.out, e⟩
        · have q2 := Lib.hid (show sm m2 phi = [] from if_neg s2)
          have g2' : decide (m2 ≤ phi) = false := decide_eq_false s2
          refine wp_loop_rounds 3 ?_
          repeat any_goals (rw [rounds_succ]; go_wp2)
          go_roundg (gk - 1)
          case measure => omega
          case rel =>
            have e := (((O0.out.alloc (.cells #[.int .i64 plo, .int .i64 phi] 61)).alloc (.cells #[.int .i64 plo, .int .i64 m1, .int .i64 m2, .int .i64 phi] 61)).alloc (.cells #[.int .i64 plo, .int .i64 m1] 61)).alloc (.cells #[.int .i64 m2, .int .i64 phi] 61)
            rw [show C = cutL (lo, hi) (ps.take (k + 1)) by rw [HS.out, q1.out, q2.out, List.append_nil, List.append_nil]] at e
            exact ⟨k + 1, by omega, by go_num, ((BX.out.alloc (by first | omega | (simp; omega)) _).alloc (by first | omega | (simp; omega)) _).alloc (by first | omega | (simp; omega)) _, e⟩
    · have e := Lib.hid (show ps.take k = ps from List.take_of_length_le (by rw [HL.out]; omega))
      rw [e.out] at O0
      go_wp2
      go_ret
      exact ⟨_, rfl, own_baseR O0.out (by omega), HBW.out⟩

end Go.Proofs.Ytkpkgegonfcgnaa
