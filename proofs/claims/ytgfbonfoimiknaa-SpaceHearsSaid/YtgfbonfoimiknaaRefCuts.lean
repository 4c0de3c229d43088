/- The document's answers on ranges: rangeFault, without, RangeCut, RangeHoles. -/
import Derived.Test.YtgfbonfoimiknaaGrpSf
import Derived.Test.YtgfbonfoimiknaaRngCut
namespace Go.Proofs.Ytgfbonfoimiknaa
set_option linter.unusedVariables false
open Go.RowKit P

theorem rfault_any (A : Option Addr) (len cap : Nat) (ps : List (Int × Int)) (lo hi : Int) (w : World) (h : RRow w w.heap.size A ps) (hl : ps.length = len) (hm : len ≤ 9223372036854775807) :
    Calls Try.prog 125 #[.slice A len cap, .agg #[.int .i64 lo, .int .i64 hi]] w (RefusePost ps (lo, hi) w) := by
  have HR := Lib.hid (h.on ((Below.refl _ _).alloc (Nat.le_refl _) (.cells #[.int .i64 lo, .int .i64 hi] 80)))
  have HL := Lib.hid hl
  have HW := Lib.hid ((Below.refl w.heap.size w).alloc (Nat.le_refl _) (.cells #[.int .i64 lo, .int .i64 hi] 80))
  clear h hl
  by_cases hok : okL ps
  · have c0 := Lib.hid (show ckV ps = 0 from if_pos hok)
    by_cases hr : okR (lo, hi)
    · have HE := Lib.hid (show rfV ps (lo, hi) = 0 from (if_pos hok).trans (if_pos hr))
      have HK := Lib.hid hr
      clear hok hr
      go_enter Try.func125, Try.ntmps125
      go_wp2_with (first
        | (go_at_call 80; refine (fault_any _ _ _ _ _ HR.out HL.out hm).mono ?_; rintro e w1 ⟨rfl, hb1⟩; have d0 := (hb1.cell (p := ⟨w.heap.size, 0, none⟩) (by simp)).trans (by simp : _ = some (.int .i64 lo)); have d1 := (hb1.cell (p := ⟨w.heap.size, 1, none⟩) (by simp)).trans (by simp : _ = some (.int .i64 hi)); have HB1 := Lib.hid (HW.out.trans (hb1.mono (by simp))); clear hb1; rw [c0.out])
        | (go_at_call 120; refine (isrange_yes _ _ HK.out _).mono ?_; rintro e w2 ⟨rfl, hb2⟩; have HB2 := Lib.hid (HB1.out.trans (hb2.mono HB1.out.size)); clear hb2))
      go_ret
      exact ⟨ret_int HE.out.symm, HB2.out⟩
    · have HE := Lib.hid (show rfV ps (lo, hi) = 6 from (if_pos hok).trans (if_neg hr))
      have HK := Lib.hid hr
      clear hok hr
      go_enter Try.func125, Try.ntmps125
      go_wp2_with (first
        | (go_at_call 80; refine (fault_any _ _ _ _ _ HR.out HL.out hm).mono ?_; rintro e w1 ⟨rfl, hb1⟩; have d0 := (hb1.cell (p := ⟨w.heap.size, 0, none⟩) (by simp)).trans (by simp : _ = some (.int .i64 lo)); have d1 := (hb1.cell (p := ⟨w.heap.size, 1, none⟩) (by simp)).trans (by simp : _ = some (.int .i64 hi)); have HB1 := Lib.hid (HW.out.trans (hb1.mono (by simp))); clear hb1; rw [c0.out])
        | (go_at_call 120; refine (isrange_no _ _ HK.out _).mono ?_; rintro e w2 ⟨rfl, hb2⟩; have HB2 := Lib.hid (HB1.out.trans (hb2.mono HB1.out.size)); clear hb2))
      go_ret
      exact ⟨ret_int HE.out.symm, HB2.out⟩
  · have c0 := Lib.hid (show ckV ps = 3 from if_neg hok)
    have HE := Lib.hid (show rfV ps (lo, hi) = 3 from if_neg hok)
    clear hok
    go_enter Try.func125, Try.ntmps125
    go_wp2_with (first
      | (go_at_call 80; refine (fault_any _ _ _ _ _ HR.out HL.out hm).mono ?_; rintro e w1 ⟨rfl, hb1⟩; have HB1 := Lib.hid (HW.out.trans (hb1.mono (by simp))); clear hb1; rw [c0.out]))
    go_ret
    exact ⟨ret_int HE.out.symm, HB1.out⟩

/-- the document's way through the holes -/
def refF (lo hi : Int) : Int → List (Int × Int) → List (Int × Int)
  | at_, [] => sm at_ hi
  | at_, x :: l => if x.2 < lo ∨ hi < x.1 then refF lo hi at_ l else sm at_ (x.1 - 1) ++ refF lo hi (x.2 + 1) l
theorem refF_ok {lo hi : Int} (hh : hi ≤ 4611686018427387903) : ∀ {l : List (Int × Int)} {a b q : Int}, okFrom a l → 0 ≤ q → b + 2 ≤ q → lo ≤ q → (q = lo ∨ ∀ x ∈ l, q ≤ x.1) →
    okFrom b (refF lo hi q l) ∧ ∀ n, mem (refF lo hi q l) n ↔ (q ≤ n ∧ n ≤ hi) ∧ ¬ mem l n
  | [], a, b, q, _, h0, hb, _, _ => ⟨by have := ok_sm (l := []) h0 hh hb trivial; simpa [refF] using this, fun n => by simp [refF, mem_sm, mem]⟩
  | x :: l, a, b, q, hl, h0, hb, hq, hp => by
    obtain ⟨x1, x2, x3⟩ := hl
    have g1 := x1.1
    have g2 := x1.2.1
    have g3 := x1.2.2
    unfold refF
    split
    · rename_i hc
      have H := refF_ok hh (l := l) (a := x.2) (b := b) (q := q) x3 h0 hb hq (by
        rcases hp with e | e
        · exact .inl e
        · exact .inr fun y hy => e y (List.mem_cons_of_mem _ hy))
      refine ⟨H.1, fun n => ?_⟩
      rw [H.2 n]
      simp only [mem, inR]
      by_cases hm : mem l n
      · simp [hm]
      · simp only [hm, not_false_eq_true, and_true, or_false]
        omega
    · rename_i hc
      have hqx : q ≤ x.2 + 1 := by
        rcases hp with e | e
        · omega
        · have := e x (List.mem_cons_self); omega
      have H := refF_ok (lo := lo) hh (l := l) (a := x.2) (b := max b (if q ≤ x.1 - 1 then x.1 - 1 else b)) (q := x.2 + 1) x3 (by omega) (by split <;> omega) (by omega) (.inr fun y hy => by
        have := (okFrom_all x3 hy).2; omega)
      refine ⟨ok_sm h0 (by omega) hb H.1, fun n => ?_⟩
      rw [mem_app, H.2 n, mem_sm]
      simp only [mem, inR]
      by_cases hm : mem l n
      · have := mem_above x3 hm
        simp only [hm, not_true, and_false, or_false, or_true, iff_false]
        omega
      · simp only [hm, not_false_eq_true, and_true, or_false]
        omega
theorem refF_eq {ps : List (Int × Int)} {lo hi : Int} (h : okL ps) (hr : okR (lo, hi)) : refF lo hi lo ps = holesF hi lo ps := by
  have r0 := hr.1
  have r2 := hr.2.2
  simp only at r0 r2
  have H := refF_ok (lo := lo) r2 (b := -2) (q := lo) h r0 (by omega) (Int.le_refl _) (.inl rfl)
  have L := holesL_ok h hr
  exact ok_ext H.1 L.1 fun n => by rw [H.2 n, L.2 n]; rfl
theorem refF_step (lo hi q : Int) (ps : List (Int × Int)) (k : Nat) (h : k < ps.length) :
    refF lo hi q (ps.drop k) = if (ps.getD k (0, 0)).2 < lo ∨ hi < (ps.getD k (0, 0)).1 then refF lo hi q (ps.drop (k + 1)) else sm q ((ps.getD k (0, 0)).1 - 1) ++ refF lo hi ((ps.getD k (0, 0)).2 + 1) (ps.drop (k + 1)) := by
  rw [dropR_cons ps k h]; rfl

end Go.Proofs.Ytgfbonfoimiknaa
