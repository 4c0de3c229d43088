/- The document's answers on ranges: rangeFault, without, RangeCut, RangeHoles. -/
import Derived.Test.YtockfejaijdmjaaRefRng
import Derived.Test.YtockfejaijdmjaaRngCut
namespace Go.Proofs.Ytockfejaijdmjaa
set_option linter.unusedVariables false
open Go.RowKit P

theorem rfault_any (A : Option Addr) (len cap : Nat) (ps : List (Int × Int)) (lo hi : Int) (w : World) (h : RRow w w.heap.size A ps) (hl : ps.length = len) (hm : len ≤ 9223372036854775807) :
    Calls Try.prog 32 #[.slice A len cap, .agg #[.int .i64 lo, .int .i64 hi]] w (RefusePost ps (lo, hi) w) := by
  have HR := Lib.hid (h.on ((Below.refl _ _).alloc (Nat.le_refl _) (.cells #[.int .i64 lo, .int .i64 hi] 29)))
  have HL := Lib.hid hl
  have HW := Lib.hid ((Below.refl w.heap.size w).alloc (Nat.le_refl _) (.cells #[.int .i64 lo, .int .i64 hi] 29))
  clear h hl
  by_cases hok : okL ps
  · have c0 := Lib.hid (show ckV ps = 0 from if_pos hok)
    by_cases hr : okR (lo, hi)
    · have HE := Lib.hid (show rfV ps (lo, hi) = 0 from (if_pos hok).trans (if_pos hr))
      have HK := Lib.hid hr
      clear hok hr
      go_enter Try.func32, Try.ntmps32
      go_wp2_with (first
        | (go_at_call 11; refine (fault_any _ _ _ _ _ HR.out HL.out hm).mono ?_; rintro e w1 ⟨rfl, hb1⟩; have d0 := (hb1.cell (p := ⟨w.heap.size, 0, none⟩) (by simp)).trans (by simp : _ = some (.int .i64 lo)); have d1 := (hb1.cell (p := ⟨w.heap.size, 1, none⟩) (by simp)).trans (by simp : _ = some (.int .i64 hi)); have HB1 := Lib.hid (HW.out.trans (hb1.mono (by simp))); clear hb1; rw [c0.out])
        | (go_at_call 28; refine (isrange_yes _ _ HK.out _).mono ?_; rintro e w2 ⟨rfl, hb2⟩; have HB2 := Lib.hid (HB1.out.trans (hb2.mono HB1.out.size)); clear hb2))
      go_ret
      exact ⟨ret_int HE.out.symm, HB2.out⟩
    · have HE := Lib.hid (show rfV ps (lo, hi) = 6 from (if_pos hok).trans (if_neg hr))
      have HK := Lib.hid hr
      clear hok hr
      go_enter Try.func32, Try.ntmps32
      go_wp2_with (first
        | (go_at_call 11; refine (fault_any _ _ _ _ _ HR.out HL.out hm).mono ?_; rintro e w1 ⟨rfl, hb1⟩; have d0 := (hb1.cell (p := ⟨w.heap.size, 0, none⟩) (by simp)).trans (by simp : _ = some (.int .i64 lo)); have d1 := (hb1.cell (p := ⟨w.heap.size, 1, none⟩) (by simp)).trans (by simp : _ = some (.int .i64 hi)); have HB1 := Lib.hid (HW.out.trans (hb1.mono (by simp))); clear hb1; rw [c0.out])
        | (go_at_call 28; refine (isrange_no _ _ HK.out _).mono ?_; rintro e w2 ⟨rfl, hb2⟩; have HB2 := Lib.hid (HB1.out.trans (hb2.mono HB1.out.size)); clear hb2))
      go_ret
      exact ⟨ret_int HE.out.symm, HB2.out⟩
  · have c0 := Lib.hid (show ckV ps = 3 from if_neg hok)
    have HE := Lib.hid (show rfV ps (lo, hi) = 3 from if_neg hok)
    clear hok
    go_enter Try.func32, Try.ntmps32
    go_wp2_with (first
      | (go_at_call 11; refine (fault_any _ _ _ _ _ HR.out HL.out hm).mono ?_; rintro e w1 ⟨rfl, hb1⟩; have HB1 := Lib.hid (HW.out.trans (hb1.mono (by simp))); clear hb1; rw [c0.out]))
    go_ret
    exact ⟨ret_int HE.out.symm, HB1.out⟩

/-- the document's way through the holes -/
def refF (lo hi : Int) : Int → List (Int × Int) → List (Int × Int)
  | at_, [] => sm at_ hi
  | at_, x :: l => if x.2 < lo ∨ hi < x.1 then refF lo hi at_ l else sm at_ (x.1 - 1) ++ refF lo hi (x.2 + 1) l
theorem refF_ok {lo hi : Int} (hh : hi ≤ 4611686018427387903) : ∀ {l : List (Int × Int)} {a b q : Int}, okFrom a l → 0 ≤ q → b + 2 ≤ q → lo ≤ q → (q = lo ∨ ∀ x ∈ l, q ≤ x.1) →
    okFrom b (refF lo hi q l) ∧ ∀ n, mem (refF lo hi q l) n ↔ (q ≤ n ∧ n ≤ hi) ∧ ¬ mem l n
  | [], a, b, q, _, h0, hb, _, _ => ⟨by have := ok_sm (l := []) h0 hh hb trivial; simpa [refF] using this, fun n => by simp [refF, mem_sm, mem]⟩
  | x :: l, a, b, q, hl, h0, hb, hq, hp => by
    obtain ⟨x1, x2, x3⟩ := hl
    have g1 := x1.1
    have g2 := x1.2.1
    have g3 := x1.2.2
    unfold refF
    split
    · rename_i hc
      have H := refF_ok hh (l := l) (a := x.2) (b := b) (q := q) x3 h0 hb hq (by
        rcases hp with e | e
        · exact .inl e
        · exact .inr fun y hy => e y (List.mem_cons_of_mem _ hy))
      refine ⟨H.1, fun n => ?_⟩
      rw [H.2 n]
      simp only [mem, inR]
      by_cases hm : mem l n
      · simp [hm]
      · simp only [hm, not_false_eq_true, and_true, or_false]
        omega
    · rename_i hc
      have hqx : q ≤ x.2 + 1 := by
        rcases hp with e | e
        · omega
        · have := e x (List.mem_cons_self); omega
      have H := refF_ok (lo := lo) hh (l := l) (a := x.2) (b := max b (if q ≤ x.1 - 1 then x.1 - 1 else b)) (q := x.2 + 1) x3 (by omega) (by split <;> omega) (by omega) (.inr fun y hy => by
        have := (okFrom_all x3 hy).2; omega)
      refine ⟨ok_sm h0 (by omega) hb H.1, fun n => ?_⟩
      rw [mem_app, H.2 n, mem_sm]
      simp only [mem, inR]
      by_cases hm : mem l n
      · have := mem_above x3 hm
        simp only [hm, not_true, and_false, or_false, or_true, iff_false]
        omega
      · simp only [hm, not_false_eq_true, and_true, or_false]
        omega
theorem refF_eq {ps : List (Int × Int)} {lo hi : Int} (h : okL ps) (hr : okR (lo, hi)) : refF lo hi lo ps = holesF hi lo ps := by
  have r0 := hr.1
  have r2 := hr.2.2
  simp only at r0 r2
  have H := refF_ok (lo := lo) r2 (b := -2) (q := lo) h r0 (by omega) (Int.le_refl _) (.inl rfl)
  have L := holesL_ok h hr
  exact ok_ext H.1 L.1 fun n => by rw [H.2 n, L.2 n]; rfl
theorem refF_step (lo hi q : Int) (ps : List (Int × Int)) (k : Nat) (h : k < ps.length) :
    refF lo hi q (ps.drop k) = if (ps.getD k (0, 0)).2 < lo ∨ hi < (ps.getD k (0, 0)).1 then refF lo hi q (ps.drop (k + 1)) else sm q ((ps.getD k (0, 0)).1 - 1) ++ refF lo hi ((ps.getD k (0, 0)).2 + 1) (ps.drop (k + 1)) := by
  rw [dropR_cons ps k h]; rfl

set_option maxHeartbeats 1600000 in
theorem rholes_any (A : Option Addr) (len cap : Nat) (ps : List (Int × Int)) (lo hi : Int) (w : World) (h : RRow w w.heap.size A ps) (hl : ps.length = len) (hok : okL ps) (hr : okR (lo, hi)) (hm : (len + 2) * 16 ≤ 140737488355328) :
    Calls Try.prog 19 #[.slice A len cap, .agg #[.int .i64 lo, .int .i64 hi]] w (GivePost (holesF hi lo ps) w) := by
  rw [← refF_eq hok hr]
  have HW := Lib.hid ((Below.refl w.heap.size w).alloc (Nat.le_refl _) (.cells #[.int .i64 lo, .int .i64 hi] 29))
  have HR := Lib.hid (h.on HW.out)
  have HR0 := Lib.hid h
  have HL := Lib.hid hl
  have HO := Lib.hid hok
  have c0 := Lib.hid (rf_ok hok hr)
  obtain ⟨i0, hi0, hz0, hz1, hz2⟩ := info_parts infoR
  have HI := Lib.hid hi0
  have HZ := Lib.hid hz0
  have HZ1 := Lib.hid hz1
  have HZ2 := Lib.hid hz2
  obtain ⟨r0, r1, r2⟩ := hr
  simp only at r0 r1 r2
  clear h hl hok hi0 hz0 hz1 hz2
  go_enter Try.func19, Try.ntmps19
  go_wp2_with (first
    | (go_at_call 32; refine (rfault_any _ _ _ _ _ _ _ HR.out HL.out (by omega)).mono ?_; rintro e w1 ⟨rfl, hb1⟩; have e0 := (hb1.cell (p := ⟨w.heap.size, 0, none⟩) (by simp)).trans (by simp : _ = some (.int .i64 lo)); have HB1 := Lib.hid (hb1.mono (by simp) : Below (w.heap.size + 1) _ _); clear hb1; rw [c0.out]))
  go_loopg [7, 8, 21] len (fun g v nv i wr => ∃ (k : Nat) (C : List (Int × Int)) (nx : Int), k + g = len ∧ i = .int .i64 k ∧ nv = .int .i64 nx ∧ 0 ≤ nx ∧ nx ≤ 4611686018427387904 ∧ C.length ≤ k ∧ Below (w.heap.size + 1) (w.alloc (.cells #[.int .i64 lo, .int .i64 hi] 29)) wr ∧ Hid (OwnR wr (w.heap.size + 1) 29 v C) ∧ Hid (refF lo hi lo ps = C ++ refF lo hi nx (ps.drop k)))
  case atStart => exact ⟨0, [], lo, by omega, rfl, rfl, r0, by omega, Nat.le_refl _, HB1.out, OwnR.nil _ _ _, rfl⟩
  case round =>
    obtain ⟨k, C, nx, hk, rfl, rfl, n0, n1, hC, hb, O0, HF⟩ := hrel
    have HB := Lib.hid hb
    have HBW := Lib.hid (HW.out.trans (hb.mono (by omega)))
    have hbs : w.heap.size + 1 ≤ wr.heap.size := by have := hb.size; simpa using this
    have e0 := (hb.cell (p := ⟨w.heap.size, 0, none⟩) (by simp)).trans (by simp : _ = some (.int .i64 lo))
    have e1 := (hb.cell (p := ⟨w.heap.size, 1, none⟩) (by simp)).trans (by simp : _ = some (.int .i64 hi))
    clear hb
    by_cases hlt : k < len
    · obtain ⟨b, off, rfl, hbb, hc⟩ := (HR0.out.below HBW.out) (by rw [HL.out]; omega)
      obtain ⟨d0, d1⟩ := hc k (by rw [HL.out]; omega)
      have pk := ok_get HO.out k (by rw [HL.out]; omega)
      have HS := Lib.hid (refF_step lo hi nx ps k (by rw [HL.out]; omega))
      obtain ⟨⟨plo, phi⟩, hq⟩ : ∃ p, ps.getD k (0, 0) = p := ⟨_, rfl⟩
      rw [hq] at d0 d1 HS pk
      simp only at d0 d1 HS
      obtain ⟨p0, p1, p2⟩ := pk
      simp only at p0 p1 p2
      have i1 : (k : Int) < (len : Int) := by omega
      clear hc hq
      have e2 := (World.cell?_alloc_lt wr (.cells #[.int .i64 plo, .int .i64 phi] 29) ⟨w.heap.size, 0, none⟩ hbs).trans e0
      have e3 := (World.cell?_alloc_lt wr (.cells #[.int .i64 plo, .int .i64 phi] 29) ⟨w.heap.size, 1, none⟩ hbs).trans e1
      have BX := Lib.hid (HB.out.alloc hbs (.cells #[.int .i64 plo, .int .i64 phi] 29))
      have hl0 := Lib.hid (fun h => Nat.lt_irrefl _ ((O0.out.lt _ h).2) : u7.ownBlock ≠ some wr.heap.size)
      clear e0 e1
      by_cases hsk : phi < lo ∨ hi < plo
      · have HS1 := Lib.hid (HF.out.trans (congrArg (C ++ ·) (HS.out.trans (if_pos hsk))))
        by_cases s1 : phi < lo
        · clear hsk
          go_wp2
          go_roundg (gk - 1)
          case measure => omega
          case rel => exact ⟨k + 1, C, nx, by omega, by go_num, rfl, n0, n1, by omega, BX.out, O0.out.alloc _, HS1⟩
        · have s2 : hi < plo := by omega
          clear hsk
          go_wp2
          go_roundg (gk - 1)
          case measure => omega
          case rel => exact ⟨k + 1, C, nx, by omega, by go_num, rfl, n0, n1, by omega, BX.out, O0.out.alloc _, HS1⟩
      · have HS1 := Lib.hid (HF.out.trans (congrArg (C ++ ·) (HS.out.trans (if_neg hsk))))
        have s1 : lo ≤ phi := by omega
        have s2 : plo ≤ hi := by omega
        clear hsk
        by_cases hat : nx < plo
        · have hsm := Lib.hid (show sm nx (plo - 1) = [(nx, plo - 1)] from if_pos (by omega))
          go_wp2_with (first
            | (at_builtin
               refine wpList_appR _ rfl (.tmp 41) (.tmp 47) _ rfl (w.heap.size + 1) 29 i0 _ Try.underlying22 HI.out HZ.out HZ1.out HZ2.out rfl u7 C rfl ((O0.out.alloc _).alloc _) (wr.heap.size + 1 + 1) (some ⟨wr.heap.size + 1, 0, none⟩) 1 1 [(nx, plo - 1)] rfl (by have := RRow.one (wr.alloc (.cells #[.int .i64 plo, .int .i64 phi] 29)) nx (plo - 1) 29; simpa using this) rfl (by omega) (by simp; omega) ?_
               intro v1 w1 own1 g1
               have O1 := Lib.hid own1
               have d3 := g1.cell (a := ⟨wr.heap.size, 1, none⟩) (v := .int .i64 phi) (by simp) (fun h => hl0.out h.symm)
               have HB1 := Lib.hid ((BX.out.alloc (by simp; omega) (.cells #[.int .i64 nx, .int .i64 (plo - 1)] 29)).grown g1 (by simp; omega) (fun k hk => (O0.out.lt k hk).1))
               clear own1 g1))
          go_roundg (gk - 1)
          case measure => omega
          case rel => exact ⟨k + 1, C ++ [(nx, plo - 1)], phi + 1, by omega, by go_num, rfl, by omega, by omega, by rw [List.length_append]; exact Nat.succ_le_succ hC, HB1.out, O1.out, Lib.hid (by rw [HS1.out, hsm.out, List.append_assoc])⟩
        · have hsm := Lib.hid (show sm nx (plo - 1) = [] from if_neg (by omega))
          go_wp2
          go_roundg (gk - 1)
          case measure => omega
          case rel => exact ⟨k + 1, C, phi + 1, by omega, by go_num, rfl, by omega, by omega, by omega, BX.out, O0.out.alloc _, Lib.hid (by rw [HS1.out, hsm.out, List.nil_append])⟩
    · have e := Lib.hid (show refF lo hi lo ps = C ++ sm nx hi by rw [HF.out, List.drop_eq_nil_of_le (by rw [HL.out]; omega)]; rfl)
      by_cases hat : nx ≤ hi
      · have hsm := Lib.hid (show sm nx hi = [(nx, hi)] from if_pos hat)
        go_wp2_with (first
          | (at_builtin
             refine wpList_appR _ rfl (.tmp 57) (.tmp 62) _ rfl (w.heap.size + 1) 29 i0 _ Try.underlying22 HI.out HZ.out HZ1.out HZ2.out rfl u7 C rfl (O0.out.alloc _) (wr.heap.size + 1) (some ⟨wr.heap.size, 0, none⟩) 1 1 [(nx, hi)] rfl (RRow.one _ _ _ _) rfl (by omega) (by simp; omega) ?_
             intro v1 w1 own1 g1
             have O1 := Lib.hid own1
             have HB1 := Lib.hid ((HB.out.alloc hbs (.cells #[.int .i64 nx, .int .i64 hi] 29)).grown g1 (by simp; omega) (fun k hk => (O0.out.lt k hk).1))
             clear own1 g1))
        go_ret2
        have o := O1.out
        rw [← hsm.out, ← e.out] at o
        obtain ⟨A2, c2, rfl, l2, m2, rr⟩ := o.slice
        exact ⟨A2, c2, rfl, l2, m2, rr, HW.out.trans (HB1.out.mono (by omega))⟩
      · have hsm := Lib.hid (show sm nx hi = [] from if_neg hat)
        have g : decide (nx ≤ hi) = false := decide_eq_false hat
        go_wp2
        go_ret2
        have o := O0.out
        rw [show C = refF lo hi lo ps by rw [e.out, hsm.out, List.append_nil]] at o
        obtain ⟨A2, c2, rfl, l2, m2, rr⟩ := o.slice
        exact ⟨A2, c2, rfl, l2, m2, rr, HBW.out⟩
end Go.Proofs.Ytockfejaijdmjaa
