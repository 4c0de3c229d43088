/- The verifier's texts' 'sameRanges', both ways: rows of ranges are the same just if they read the same. -/
import Derived.Test.YtkmkcpjmhcpjpaaRngSame
namespace Go.Proofs.Ytkmkcpjmhcpjpaa
set_option linter.unusedVariables false
open Go.RowKit P

theorem listR_eq {ps qs : List (Int × Int)} (hl : ps.length = qs.length) : (ps = qs) ↔ ∀ j, j < ps.length → ps.getD j (0, 0) = qs.getD j (0, 0) := by
  constructor
  · rintro rfl _ _; rfl
  · intro h
    refine List.ext_getElem hl fun j h1 h2 => ?_
    have := h j h1
    rw [List.getD_eq_getElem?_getD, List.getD_eq_getElem?_getD, List.getElem?_eq_getElem h1, List.getElem?_eq_getElem h2] at this
    exact this

/-- up to k the rows are the same just if b -/
def SamePre (ps qs : List (Int × Int)) (k : Nat) (b : Bool) : Prop := b = true ↔ ∀ j, j < k → ps.getD j (0, 0) = qs.getD j (0, 0)
theorem SamePre.zero (ps qs : List (Int × Int)) : SamePre ps qs 0 true := ⟨fun _ j hj => absurd hj (Nat.not_lt_zero j), fun _ => rfl⟩
theorem SamePre.ok {ps qs : List (Int × Int)} {k : Nat} {x : Int × Int} (h : SamePre ps qs k true) (hp : ps.getD k (0, 0) = x) (hq : qs.getD k (0, 0) = x) : SamePre ps qs (k + 1) true :=
  ⟨fun _ j hj => (Nat.lt_succ_iff_lt_or_eq.1 hj).elim (h.1 rfl j) (fun e => by rw [e, hp, hq]), fun _ => rfl⟩
theorem SamePre.no {ps qs : List (Int × Int)} {k : Nat} {x y : Int × Int} (hp : ps.getD k (0, 0) = x) (hq : qs.getD k (0, 0) = y) (hne : x ≠ y) : SamePre ps qs (k + 1) false :=
  ⟨fun h => (by cases h), fun h => absurd (by rw [← hp, ← hq]; exact h k (Nat.lt_succ_self k)) hne⟩
theorem SamePre.false {ps qs : List (Int × Int)} {k : Nat} (h : SamePre ps qs k false) : decide (ps = qs) = false := decide_eq_false (by
  rintro e
  have := h.2 (fun j hj => by rw [e])
  cases this)
theorem SamePre.true {ps qs : List (Int × Int)} {k : Nat} (h : SamePre ps qs k true) (hl : ps.length = qs.length) (hk : ps.length = k) : decide (ps = qs) = true := decide_eq_true ((listR_eq hl).2 (fun j hj => h.1 rfl j (hk ▸ hj)))

theorem sameN_any (A A' : Option Addr) (len len' cap cap' : Nat) (ps qs : List (Int × Int)) (w : World) (h : RRow w w.heap.size A ps) (h' : RRow w w.heap.size A' qs) (hl : ps.length = len) (hl' : qs.length = len') (hm : len ≤ 9223372036854775807) (hm' : len' ≤ 9223372036854775807) :
    Calls Try.prog 63 #[.slice A len cap, .slice A' len' cap'] w fun e w' => e = .returned (.bool (decide (ps = qs))) ∧ Below w.heap.size w w' := by
  by_cases hn : len = len'
  · subst hn
    have HEQ := Lib.hid (listR_eq (hl.trans hl'.symm))
    have HR := Lib.hid h
    have HR' := Lib.hid h'
    have HL := Lib.hid hl
    have HL' := Lib.hid hl'
    clear h h' hl hl'
    go_enter Try.func63, Try.ntmps63
    go_wp2
    go_loopg [5, 6] len (fun g ov i wr => ∃ (k : Nat) (b : Bool), k + g = len ∧ i = .int .i64 k ∧ ov = .bool b ∧ SamePre ps qs k b ∧ Below w.heap.size w wr)
    case atStart => exact ⟨0, true, by omega, rfl, rfl, SamePre.zero _ _, Below.refl _ _⟩
    case round =>
      obtain ⟨k, b, hk, rfl, rfl, hbk, hb⟩ := hrel
      have HB := Lib.hid hb
      have HBK := Lib.hid hbk
      clear hb hbk
      cases b
      · have hd := Lib.hid HBK.out.false
        go_wp2
        go_ret
        exact ⟨by rw [hd.out]; rfl, HB.out⟩
      · by_cases hlt : k < len
        · obtain ⟨b, off, rfl, hbb, hc⟩ := (HR.out.below HB.out) (by rw [HL.out]; omega)
          obtain ⟨c0, c1⟩ := hc k (by rw [HL.out]; omega)
          obtain ⟨b', off', rfl, hbb', hc'⟩ := (HR'.out.below HB.out) (by rw [HL'.out]; omega)
          obtain ⟨c2, c3⟩ := hc' k (by rw [HL'.out]; omega)
          obtain ⟨⟨lo, hi⟩, hp⟩ : ∃ p, ps.getD k (0, 0) = p := ⟨_, rfl⟩
          obtain ⟨⟨lo', hi'⟩, hp'⟩ : ∃ p, qs.getD k (0, 0) = p := ⟨_, rfl⟩
          rw [hp] at c0 c1
          rw [hp'] at c2 c3
          simp only at c0 c1 c2 c3
          have HP := Lib.hid hp
          have HP' := Lib.hid hp'
          have d0 := Ext.cell c0
          have d1 := Ext.cell c1
          have d2 := Ext.cell c2
          have d3 := Ext.cell c3
          have i0 : (0 : Int) ≤ (k : Int) := by omega
          have i1 : (k : Int) < (len : Int) := by omega
          clear hc hc' hp hp'
          have hcase : (lo = lo' ∧ hi = hi') ∨ (lo == lo') = false ∨ (lo = lo' ∧ (hi == hi') = false) := by
            by_cases e1 : lo = lo'
            · by_cases e2 : hi = hi'
              · exact .inl ⟨e1, e2⟩
              · exact .inr (.inr ⟨e1, by simpa using e2⟩)
            · exact .inr (.inl (by simpa using e1))
          rcases hcase with ⟨rfl, rfl⟩ | e1 | ⟨rfl, e2⟩
          · go_wp2
            refine wp_region_ext (by kernel_rfl) (by kernel_rfl) ?_
            repeat (go_big_quiet_step (fail))
            refine wpQuiet_nil ?_
            intro w1 hb1
            have HB1 := Lib.hid (HB.out.trans (hb1.mono HB.out.size))
            clear hb1 c0 c1 c2 c3 d0 d1 d2 d3
            go_wp2
            go_roundg (gk - 1)
            case measure => omega
            case rel => exact ⟨k + 1, true, by omega, by go_num, rfl, HBK.out.ok HP.out HP'.out, HB1.out⟩
          · go_wp2
            refine wp_region_ext (by kernel_rfl) (by kernel_rfl) ?_
            repeat (go_big_quiet_step (fail))
            refine wpQuiet_nil ?_
            intro w1 hb1
            have HB1 := Lib.hid (HB.out.trans (hb1.mono HB.out.size))
            have E1 := Lib.hid (show lo ≠ lo' by simpa using e1)
            clear hb1 c0 c1 c2 c3 d0 d1 d2 d3
            go_wp2
            go_roundg (gk - 1)
            case measure => omega
            case rel => exact ⟨k + 1, false, by omega, by go_num, (by first | rfl | simp [e1]), SamePre.no HP.out HP'.out (fun e => E1.out (Prod.mk.inj e).1), HB1.out⟩
          · go_wp2
            refine wp_region_ext (by kernel_rfl) (by kernel_rfl) ?_
            repeat (go_big_quiet_step (fail))
            refine wpQuiet_nil ?_
            intro w1 hb1
            have HB1 := Lib.hid (HB.out.trans (hb1.mono HB.out.size))
            have E1 := Lib.hid (show hi ≠ hi' by simpa using e2)
            clear hb1 c0 c1 c2 c3 d0 d1 d2 d3
            go_wp2
            go_roundg (gk - 1)
            case measure => omega
            case rel => exact ⟨k + 1, false, by omega, by go_num, (by first | rfl | simp [e2]), SamePre.no HP.out HP'.out (fun e => E1.out (Prod.mk.inj e).2), HB1.out⟩
        · obtain rfl : k = len := by omega
          have hd := Lib.hid (HBK.out.true (HL.out.trans HL'.out.symm) HL.out)
          go_wp2
          go_ret
          exact ⟨by rw [hd.out]; rfl, HB.out⟩
  · have hd := Lib.hid (show decide (ps = qs) = false from decide_eq_false (by rintro rfl; omega))
    have hne : ((len : Int) == (len' : Int)) = false := by simp; omega
    clear hl hl'
    go_enter Try.func63, Try.ntmps63
    go_wp2
    go_rounds 1
    go_ret
    exact ⟨by rw [hd.out]; rfl, Below.refl _ _⟩
end Go.Proofs.Ytkmkcpjmhcpjpaa
