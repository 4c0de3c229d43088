/- Several texts in one. -/
import Derived.Test.YtnccibaifffhhaaRngChk
import Derived.Test.YtnccibaifffhhaaGrpSb
import Derived.Deep.LoopGhost
/- Contracts of package sender: apart, whole. -/
namespace Go.Proofs.Ytnccibaifffhhaa.P
set_option linter.unusedVariables false
/-- the first range ends ahead of the other set's first one -/
theorem lap_lt {x y : Int × Int} {xs ys : List (Int × Int)} {b : Int} (hy : okFrom b (y :: ys)) (h : x.2 < y.1) : lapL (x :: xs) (y :: ys) = lapL xs (y :: ys) := by
  have h0 : (y :: ys).any (fun z => lapR x z) = false := by
    rw [List.any_eq_false]
    intro z hz
    have := (okFrom_all hy hz)
    unfold lapR
    simp only [decide_eq_true_eq]
    have hz1 : y.1 ≤ z.1 := by
      rcases List.mem_cons.1 hz with rfl | hz
      · exact Int.le_refl _
      · have k := okFrom_all hy.2.2 hz
        have := k.2
        have := hy.1.2.1
        omega
    omega
  unfold lapL
  rw [List.any_cons, h0, Bool.false_or]
theorem lap_gt {x y : Int × Int} {xs ys : List (Int × Int)} {a : Int} (hx : okFrom a (x :: xs)) (h : y.2 < x.1) : lapL (x :: xs) (y :: ys) = lapL (x :: xs) ys := by
  unfold lapL
  have : ∀ z ∈ x :: xs, (y :: ys).any (fun u => lapR z u) = ys.any (fun u => lapR z u) := by
    intro z hz
    have hz1 : x.1 ≤ z.1 := by
      rcases List.mem_cons.1 hz with rfl | hz
      · exact Int.le_refl _
      · have k := okFrom_all hx.2.2 hz
        have := k.2
        have := hx.1.2.1
        omega
    rw [List.any_cons]
    have : lapR z y = false := by unfold lapR; simp only [decide_eq_false_iff_not]; omega
    rw [this, Bool.false_or]
  rw [Bool.eq_iff_iff, List.any_eq_true, List.any_eq_true]
  constructor
  · rintro ⟨z, hz, k⟩; exact ⟨z, hz, by rw [← this z hz]; exact k⟩
  · rintro ⟨z, hz, k⟩; exact ⟨z, hz, by rw [this z hz]; exact k⟩
theorem lap_yes {x y : Int × Int} {xs ys : List (Int × Int)} (hx : okR x) (hy : okR y) (h1 : ¬ x.2 < y.1) (h2 : ¬ y.2 < x.1) : lapL (x :: xs) (y :: ys) = true := by
  have : lapR x y = true := by
    have := hx.2.1
    have := hy.2.1
    unfold lapR; simp only [decide_eq_true_eq]; omega
  unfold lapL
  rw [List.any_cons, List.any_cons, this]
  rfl
theorem lap_nil (xs : List (Int × Int)) : lapL xs [] = false := by
  unfold lapL
  rw [List.any_eq_false]
  intro z _ k
  cases k
end Go.Proofs.Ytnccibaifffhhaa.P
namespace Go.Proofs.Ytnccibaifffhhaa
set_option linter.unusedVariables false
open Go.RowKit P

set_option maxHeartbeats 1000000 in
theorem apart_any (A A2 : Option Addr) (len cap len2 cap2 : Nat) (ps qs : List (Int × Int)) (w : World) (h : RRow w w.heap.size A ps) (hl : ps.length = len) (hc : len ≤ cap ∧ cap ≤ maxLen) (hok : okL ps) (h2 : RRow w w.heap.size A2 qs) (hl2 : qs.length = len2) (hc2 : len2 ≤ cap2 ∧ cap2 ≤ maxLen) (hok2 : okL qs) :
    Calls Try.prog 37 #[.slice A len cap, .slice A2 len2 cap2] w fun e w' => e = .returned (.bool (!lapL ps qs)) ∧ Below w.heap.size w w' := by
  obtain ⟨L, hL⟩ : ∃ L, lapL ps qs = L := ⟨_, rfl⟩
  rw [hL]
  have HR := Lib.hid h
  have HR2 := Lib.hid h2
  have HK := Lib.hid hok
  have HK2 := Lib.hid hok2
  have HL := Lib.hid hL
  subst hl hl2
  clear h h2 hok hok2 hL
  go_enter Try.func37, Try.ntmps37
  go_wp2
  go_loopg [0, 1] (ps.length + qs.length) (fun g u v wr => ∃ (xs ys : List (Int × Int)) (X Y : Option Addr) (n m c d : Nat) (a b : Int), u = .slice X n c ∧ v = .slice Y m d ∧ n + m ≤ g ∧ n ≤ c ∧ c ≤ maxLen ∧ m ≤ d ∧ d ≤ maxLen ∧ Hid (xs.length = n) ∧ Hid (ys.length = m) ∧ Hid (okFrom a xs) ∧ Hid (okFrom b ys) ∧ Hid (lapL xs ys = L) ∧ Hid (RRow wr wr.heap.size X xs) ∧ Hid (RRow wr wr.heap.size Y ys) ∧ Hid (Below w.heap.size w wr))
  case atStart => exact ⟨ps, qs, A, A2, ps.length, qs.length, cap, cap2, -2, -2, rfl, rfl, Nat.le_refl _, hc.1, hc.2, hc2.1, hc2.2, rfl, rfl, HK, HK2, HL, HR, HR2, Below.refl _ _⟩
  case round =>
    obtain ⟨xs, ys, X, Y, n, m, c, d, a, b, rfl, rfl, hg, hnc, hcm, hmd, hdm, EN, EM, KX, KY, LX, RX, RY, BX⟩ := hrel
    unfold maxLen at hcm hdm
    by_cases h0 : n = 0
    · have e : xs = [] := List.eq_nil_of_length_eq_zero (by rw [EN.out]; exact h0)
      have HF := Lib.hid (show L = false by rw [← LX.out, e]; rfl)
      subst h0
      go_wp2
      go_ret
      exact ⟨by rw [HF.out]; rfl, BX.out⟩
    · by_cases h1 : m = 0
      · have e : ys = [] := List.eq_nil_of_length_eq_zero (by rw [EM.out]; exact h1)
        have HF := Lib.hid (show L = false by rw [← LX.out, e]; exact lap_nil _)
        subst h1
        have hn0 : (0 : Int) < (n : Int) := by omega
        have hn1 : decide (0 < n) = true := by simp; omega
        go_wp2
        go_ret
        exact ⟨by rw [HF.out]; rfl, BX.out⟩
      · obtain ⟨x, xs', hx⟩ : ∃ x xs', xs = x :: xs' := by
          cases hq : xs with
          | nil => exfalso; have := EN.out; rw [hq] at this; simp at this; omega
          | cons x l => exact ⟨x, l, rfl⟩
        obtain ⟨y, ys', hy⟩ : ∃ y ys', ys = y :: ys' := by
          cases hq : ys with
          | nil => exfalso; have := EM.out; rw [hq] at this; simp at this; omega
          | cons x l => exact ⟨x, l, rfl⟩
        obtain ⟨x0, x1⟩ := x
        obtain ⟨y0, y1⟩ := y
        obtain ⟨bx, ox, hX, hbx, hcx⟩ := RX.out (by rw [EN.out]; omega)
        obtain ⟨bY, oy, hY, hby, hcy⟩ := RY.out (by rw [EM.out]; omega)
        subst hX hY
        have p0 := hcx 0 (by rw [EN.out]; omega)
        have p1 := hcy 0 (by rw [EM.out]; omega)
        rw [hx] at p0
        rw [hy] at p1
        simp only [List.getD_cons_zero, Nat.zero_mul, Nat.add_zero] at p0 p1
        obtain ⟨c0, c1⟩ := p0
        obtain ⟨c2, c3⟩ := p1
        have NX := Lib.hid (fun k => RX.out.cut 1 c k)
        have NY := Lib.hid (fun k => RY.out.cut 1 d k)
        have d0 := Ext.cell c0
        have d1 := Ext.cell c1
        have d2 := Ext.cell c2
        have d3 := Ext.cell c3
        have kx := KX.out
        have ky := KY.out
        rw [hx] at kx
        rw [hy] at ky
        have HKX := Lib.hid kx
        have HKY := Lib.hid ky
        have EX := Lib.hid hx
        have EY := Lib.hid hy
        have hn0 : (0 : Int) < (n : Int) := by omega
        have hn1 : decide (0 < n) = true := by simp; omega
        have hm0 : (0 : Int) < (m : Int) := by omega
        have hm1 : decide (0 < m) = true := by simp; omega
        have s1 : 1 ≤ n := by omega
        have s2 : 1 ≤ m := by omega
        have s3 : 1 ≤ c := by omega
        have s4 : 1 ≤ d := by omega
        clear hcx hcy kx ky hx hy
        go_wp2
        refine wp_region_ext (by kernel_rfl) (by kernel_rfl) ?_
        repeat (go_big_quiet_step (fail))
        refine wpQuiet_nil ?_
        intro w1 hb1
        have B1 := Lib.hid (BX.out.trans (hb1.mono BX.out.size))
        have BB := Lib.hid hb1
        clear hb1 d0 d1 d2 d3
        by_cases g1 : x1 < y0
        · have HL1 := Lib.hid (show lapL (xs.drop 1) ys = L by rw [← LX.out, EX.out, EY.out]; exact (lap_lt HKY.out g1).symm)
          have hle := NX.out (by rw [EN.out]; exact hnc)
          have RY1 := Lib.hid (RY.out.on BB.out)
          have l1 := Lib.hid (show (xs.drop 1).length = n - 1 by rw [List.length_drop, EN.out])
          have KX1 := Lib.hid (show okFrom x1 (xs.drop 1) by rw [EX.out]; exact HKX.out.2.2)
          clear NX NY c0 c1 c2 c3
          by_cases hq : c = 1
          · rw [if_pos hq] at hle
            have NX1 := Lib.hid (hle.on BB.out)
            clear hle
            go_wp2
            go_roundg (gk - 1)
            case measure => omega
            case rel => exact ⟨xs.drop 1, ys, some ⟨bx, ox, none⟩, some ⟨bY, oy, none⟩, n - 1, m, c - 1, d, x1, b, by first | rfl | simp [hq], rfl, by omega, by omega, by unfold maxLen; omega, hmd, by unfold maxLen; omega, l1, EM, KX1, KY, HL1, NX1, RY1, B1⟩
          · rw [if_neg hq] at hle
            have NX1 := Lib.hid (hle.on BB.out)
            clear hle
            go_wp2
            go_roundg (gk - 1)
            case measure => omega
            case rel => exact ⟨xs.drop 1, ys, some ⟨bx, ox + 2, none⟩, some ⟨bY, oy, none⟩, n - 1, m, c - 1, d, x1, b, by first | rfl | simp [hq], rfl, by omega, by omega, by unfold maxLen; omega, hmd, by unfold maxLen; omega, l1, EM, KX1, KY, HL1, by simpa [add_plain2] using NX1, RY1, B1⟩
        · have e1 : decide (x1 < y0) = false := by simp; omega
          have c0' := (BB.out.cell hbx).trans c0
          have c1' := (BB.out.cell hbx).trans c1
          have c2' := (BB.out.cell hby).trans c2
          have c3' := (BB.out.cell hby).trans c3
          have f0 := Ext.cell c0'
          have f1 := Ext.cell c1'
          have f2 := Ext.cell c2'
          have f3 := Ext.cell c3'
          go_wp2
          refine wp_region_ext (by kernel_rfl) (by kernel_rfl) ?_
          repeat (go_big_quiet_step (fail))
          refine wpQuiet_nil ?_
          intro w2 hb2
          have B2 := Lib.hid (B1.out.trans (hb2.mono B1.out.size))
          have BC := Lib.hid (BB.out.trans (hb2.mono BB.out.size))
          clear hb2 f0 f1 f2 f3
          by_cases g2 : y1 < x0
          · have HL1 := Lib.hid (show lapL xs (ys.drop 1) = L by rw [← LX.out, EX.out, EY.out]; exact (lap_gt HKX.out g2).symm)
            have hle := NY.out (by rw [EM.out]; exact hmd)
            have RX1 := Lib.hid (RX.out.on BC.out)
            have l1 := Lib.hid (show (ys.drop 1).length = m - 1 by rw [List.length_drop, EM.out])
            have KY1 := Lib.hid (show okFrom y1 (ys.drop 1) by rw [EY.out]; exact HKY.out.2.2)
            clear NX NY c0 c1 c2 c3 c0' c1' c2' c3'
            by_cases hq : d = 1
            · rw [if_pos hq] at hle
              have NY1 := Lib.hid (hle.on BC.out)
              clear hle
              go_wp2
              go_roundg (gk - 1)
              case measure => omega
              case rel => exact ⟨xs, ys.drop 1, some ⟨bx, ox, none⟩, some ⟨bY, oy, none⟩, n, m - 1, c, d - 1, a, y1, rfl, by first | rfl | simp [hq], by omega, hnc, by unfold maxLen; omega, by omega, by unfold maxLen; omega, EN, l1, KX, KY1, HL1, RX1, NY1, B2⟩
            · rw [if_neg hq] at hle
              have NY1 := Lib.hid (hle.on BC.out)
              clear hle
              go_wp2
              go_roundg (gk - 1)
              case measure => omega
              case rel => exact ⟨xs, ys.drop 1, some ⟨bx, ox, none⟩, some ⟨bY, oy + 2, none⟩, n, m - 1, c, d - 1, a, y1, rfl, by first | rfl | simp [hq], by omega, hnc, by unfold maxLen; omega, by omega, by unfold maxLen; omega, EN, l1, KX, KY1, HL1, RX1, by simpa [add_plain2] using NY1, B2⟩
          · have e2 : decide (y1 < x0) = false := by simp; omega
            have HF := Lib.hid (show L = true by rw [← LX.out, EX.out, EY.out]; exact lap_yes HKX.out.1 HKY.out.1 (show ¬ x1 < y0 by omega) (show ¬ y1 < x0 by omega))
            clear NX NY c0 c1 c2 c3 c0' c1' c2' c3'
            go_wp2
            go_ret
            exact ⟨by rw [HF.out]; rfl, B2.out⟩
end Go.Proofs.Ytnccibaifffhhaa
/- Contracts of package sender: sets, whole, heardAll's span. -/
namespace Go.Proofs.Ytnccibaifffhhaa.P
set_option linter.unusedVariables false
/-- what the last range says of a set that lies below a number -/
theorem below_last {l : List (Int × Int)} {n : Int} (h : okL l) (hl : 0 < l.length) : belowS l n ↔ (l.getD (l.length - 1) (0, 0)).2 < n := by
  have hm : ∀ {a : Int} {l : List (Int × Int)}, okFrom a l → ∀ x ∈ l, x.2 ≤ (l.getD (l.length - 1) (0, 0)).2 := by
    intro a l
    induction l generalizing a with
    | nil => intro _ x hx; cases hx
    | cons y l ih =>
      intro h x hx
      have e : (y :: l).getD ((y :: l).length - 1) (0, 0) = if l.length = 0 then y else l.getD (l.length - 1) (0, 0) := by
        cases l with
        | nil => rfl
        | cons z l => simp
      rw [e]
      rcases List.mem_cons.1 hx with rfl | hx
      · by_cases h0 : l.length = 0
        · rw [if_pos h0]; exact Int.le_refl _
        · rw [if_neg h0]
          have hz : l.getD (l.length - 1) (0, 0) ∈ l := by rw [List.getD_eq_getElem?_getD, List.getElem?_eq_getElem (by omega)]; exact List.getElem_mem (by omega)
          have k := okFrom_all h.2.2 hz
          have := k.1.2.1
          have := k.2
          omega
      · have h0 : l.length ≠ 0 := by cases l with | nil => cases hx | cons z l => simp
        rw [if_neg h0]
        exact ih h.2.2 x hx
  constructor
  · intro hb
    refine hb _ ?_
    rw [List.getD_eq_getElem?_getD, List.getElem?_eq_getElem (by omega)]
    exact List.getElem_mem (by omega)
  · intro hb x hx
    have := hm h x hx
    omega
/-- what sets asks -/
def setsP (s : Sn) : Prop := (okL s.lost ∧ belowS s.lost s.next) ∧ okL s.acked ∧ belowS s.acked s.next
instance (s : Sn) : Decidable (setsP s) := by unfold setsP belowS; infer_instance
theorem decN {b : Bool} {p : Prop} [Decidable p] (h : ¬ p) : Value.bool false = .bool (decide p) := by rw [decide_eq_false h]
theorem decY {b : Bool} {p : Prop} [Decidable p] (h : p) : Value.bool true = .bool (decide p) := by rw [decide_eq_true h]
end Go.Proofs.Ytnccibaifffhhaa.P
namespace Go.Proofs.Ytnccibaifffhhaa
set_option linter.unusedVariables false
open Go.RowKit P

set_option maxRecDepth 100000 in
set_option maxHeartbeats 1000000 in
theorem sets_any (v : Value) (s : Sn) (w : World) (hv : SnVal w w.heap.size v s) (hw : SnWf s) :
    Calls Try.prog 36 #[v] w fun e w' => e = .returned (.bool (decide (setsP s))) ∧ Below w.heap.size w w' := by
  obtain ⟨d, l, a, rfl, hd, hl, ha⟩ := hv.ex
  obtain ⟨Al, cl, rfl, hlc, hlm, hlr⟩ := hl.ex
  obtain ⟨Aa, ca, rfl, hac, ham, har⟩ := ha.ex
  have B0 := Lib.hid ((Below.refl w.heap.size w).alloc (Nat.le_refl _) (.cells #[d, .bool s.fin, .int .i64 s.next, .int .i64 s.mx, .slice Al s.lost.length cl, .slice Aa s.acked.length ca, .bool s.ended, .bool s.over] 27))
  have F0 := Lib.hid (heap_alloc_new w (.cells #[d, .bool s.fin, .int .i64 s.next, .int .i64 s.mx, .slice Al s.lost.length cl, .slice Aa s.acked.length ca, .bool s.ended, .bool s.over] 27))
  have HRl := Lib.hid hlr
  have HRa := Lib.hid har
  have hll := hw.ll
  have hal := hw.al
  obtain ⟨nl, hnl⟩ : ∃ n, s.lost.length = n := ⟨_, rfl⟩
  obtain ⟨na, hna⟩ : ∃ n, s.acked.length = n := ⟨_, rfl⟩
  obtain ⟨nx, hnx⟩ : ∃ n, s.next = n := ⟨_, rfl⟩
  rw [hnl] at hlc B0 F0 hll ⊢
  rw [hna] at hac B0 F0 hal ⊢
  rw [hnx] at B0 F0 ⊢
  have HNl := Lib.hid hnl
  have HNa := Lib.hid hna
  have HX := Lib.hid hnx
  clear hv hd hl ha hlr har hnl hna hnx hw
  go_enter Try.func36, Try.ntmps36
  go_wp2
  go_loopg [10] 2 (fun g i wr => (g = 2 ∧ i = .int .i64 0 ∧ Hid (Below w.heap.size w wr) ∧ Hid (wr.heap[w.heap.size]? = some (.cells #[d, .bool s.fin, .int .i64 nx, .int .i64 s.mx, .slice Al nl cl, .slice Aa na ca, .bool s.ended, .bool s.over] 27 (0, 0)))) ∨
    (g = 1 ∧ i = .int .i64 1 ∧ Hid (Below w.heap.size w wr) ∧ Hid (wr.heap[w.heap.size]? = some (.cells #[d, .bool s.fin, .int .i64 nx, .int .i64 s.mx, .slice Al nl cl, .slice Aa na ca, .bool s.ended, .bool s.over] 27 (0, 0))) ∧ Hid (okL s.lost ∧ belowS s.lost s.next)) ∨
    (g = 0 ∧ i = .int .i64 2 ∧ Hid (Below w.heap.size w wr) ∧ Hid (setsP s)))
  case atStart => exact .inl ⟨rfl, rfl, B0, F0⟩
  case round =>
    have ix0 : ∀ w, (Instr.index 106 (.agg #[.slice Al nl cl, .slice Aa na ca]) (.int .i64 0)).run Try.prog w = .ok (.slice Al nl cl) w := fun _ => by kernel_rfl
    have ix1 : ∀ w, (Instr.index 106 (.agg #[.slice Al nl cl, .slice Aa na ca]) (.int .i64 1)).run Try.prog w = .ok (.slice Aa na ca) w := fun _ => by kernel_rfl
    rcases hrel with ⟨rfl, rfl, BX, FX⟩ | ⟨rfl, rfl, BX, FX, GL⟩ | ⟨rfl, rfl, BX, GS⟩
    · obtain ⟨q0, q1, q2, q3, q4, q5, q6, q7⟩ := bkS FX.out
      have HC := Lib.hid (check_any Al nl cl s.lost wr ((HRl.out.below BX.out).more BX.out.size) HNl.out (by omega))
      by_cases hok : okL s.lost
      · have hck : ckV s.lost = 0 := if_pos hok
        by_cases h0 : nl = 0
        · have GL1 := Lib.hid (show okL s.lost ∧ belowS s.lost s.next from ⟨hok, fun x hx => absurd hx (by rw [List.eq_nil_of_length_eq_zero (HNl.out.trans h0)]; exact List.not_mem_nil)⟩)
          subst h0
          go_wp2_with (go_at_call 45; refine HC.out.mono ?_; rintro e w1 ⟨rfl, b1⟩; rw [hck]; have B1 := Lib.hid (BX.out.trans (b1.mono BX.out.size)); have F1 := Lib.hid ((b1.block _ (lt_of_block FX.out)).trans FX.out); clear b1 q0 q1 q2 q3 q4 q5 q6 q7; obtain ⟨q0, q1, q2, q3, q4, q5, q6, q7⟩ := bkS F1.out)
          have z2 := Ext.cell q2
          refine wp_region_ext (by kernel_rfl) (by kernel_rfl) ?_
          repeat (go_big_quiet_step (fail))
          refine wpQuiet_nil ?_
          intro w2 hb2
          have B2 := Lib.hid (B1.out.trans (hb2.mono B1.out.size))
          have F2 := Lib.hid ((hb2.block _ (lt_of_block F1.out)).trans F1.out)
          clear hb2 z2
          go_wp2
          go_roundg 1
          case measure => omega
          case rel => exact .inr (.inl ⟨by omega, by first | rfl | go_num, B2, F2, GL1⟩)
        · obtain ⟨b, off, hA, hbb, hc⟩ := HRl.out (by rw [HNl.out]; omega)
          subst hA
          have c1 := (hc (nl - 1) (by rw [HNl.out]; omega)).2
          have HLS := Lib.hid (below_last (n := s.next) hok (by rw [HNl.out]; omega))
          rw [HNl.out] at HLS
          obtain ⟨⟨lo, hi⟩, hp⟩ : ∃ p, s.lost.getD (nl - 1) (0, 0) = p := ⟨_, rfl⟩
          rw [hp] at c1 HLS
          simp only at c1
          clear hc hp
          have hn0 : (0 : Int) < (nl : Int) := by omega
          have hn1 : decide (0 < nl) = true := by simp; omega
          have i0 : (0 : Int) ≤ (nl : Int) - 1 := by omega
          have i1 : (nl : Int) - 1 < (nl : Int) := by omega
          have i2 : ((nl : Int) - 1).toNat = nl - 1 := by omega
          have i3 : IntKind.i64.wrap ((nl : Int) - 1) = (nl : Int) - 1 := by rw [IntKind.wrap_i64]; omega
          go_wp2_with (go_at_call 45; refine HC.out.mono ?_; rintro e w1 ⟨rfl, b1⟩; rw [hck]; have B1 := Lib.hid (BX.out.trans (b1.mono BX.out.size)); have F1 := Lib.hid ((b1.block _ (lt_of_block FX.out)).trans FX.out); clear b1 q0 q1 q2 q3 q4 q5 q6 q7; obtain ⟨q0, q1, q2, q3, q4, q5, q6, q7⟩ := bkS F1.out)
          have z2 := Ext.cell q2
          have z3 := Ext.cell ((B1.out.cell hbb).trans c1)
          refine wp_region_ext (by kernel_rfl) (by kernel_rfl) ?_
          repeat (go_big_quiet_step (fail))
          refine wpQuiet_nil ?_
          intro w2 hb2
          have B2 := Lib.hid (B1.out.trans (hb2.mono B1.out.size))
          have F2 := Lib.hid ((hb2.block _ (lt_of_block F1.out)).trans F1.out)
          clear hb2 z2 z3
          by_cases hg : hi < nx
          · have g1 : decide (nx ≤ hi) = false := by simp; omega
            have GL1 := Lib.hid (show okL s.lost ∧ belowS s.lost s.next from ⟨hok, HLS.out.2 (by rw [HX.out]; exact hg)⟩)
            clear c1
            go_wp2
            go_roundg 1
            case measure => omega
            case rel => exact .inr (.inl ⟨by omega, by first | rfl | go_num, B2, F2, GL1⟩)
          · have g1 : decide (nx ≤ hi) = true := by simp; omega
            have GN := Lib.hid (show ¬ setsP s from fun h => hg (by have := HLS.out.1 h.1.2; rw [HX.out] at this; exact this))
            clear c1
            go_wp2
            go_ret
            exact ⟨congrArg Ending.returned (decN (b := true) GN.out), B2.out⟩
      · have hck : ckV s.lost = 3 := if_neg hok
        have GN := Lib.hid (show ¬ setsP s from fun h => hok h.1.1)
        go_wp2_with (go_at_call 45; refine HC.out.mono ?_; rintro e w1 ⟨rfl, b1⟩; rw [hck]; have B1 := Lib.hid (BX.out.trans (b1.mono BX.out.size)); clear b1)
        go_ret
        exact ⟨congrArg Ending.returned (decN (b := true) GN.out), B1.out⟩
    · obtain ⟨q0, q1, q2, q3, q4, q5, q6, q7⟩ := bkS FX.out
      have HC := Lib.hid (check_any Aa na ca s.acked wr ((HRa.out.below BX.out).more BX.out.size) HNa.out (by omega))
      by_cases hok : okL s.acked
      · have hck : ckV s.acked = 0 := if_pos hok
        by_cases h0 : na = 0
        · have GL1 := Lib.hid (show setsP s from ⟨GL.out, hok, fun x hx => absurd hx (by rw [List.eq_nil_of_length_eq_zero (HNa.out.trans h0)]; exact List.not_mem_nil)⟩)
          subst h0
          go_wp2_with (go_at_call 45; refine HC.out.mono ?_; rintro e w1 ⟨rfl, b1⟩; rw [hck]; have B1 := Lib.hid (BX.out.trans (b1.mono BX.out.size)); have F1 := Lib.hid ((b1.block _ (lt_of_block FX.out)).trans FX.out); clear b1 q0 q1 q2 q3 q4 q5 q6 q7; obtain ⟨q0, q1, q2, q3, q4, q5, q6, q7⟩ := bkS F1.out)
          have z2 := Ext.cell q2
          refine wp_region_ext (by kernel_rfl) (by kernel_rfl) ?_
          repeat (go_big_quiet_step (fail))
          refine wpQuiet_nil ?_
          intro w2 hb2
          have B2 := Lib.hid (B1.out.trans (hb2.mono B1.out.size))
          have F2 := Lib.hid ((hb2.block _ (lt_of_block F1.out)).trans F1.out)
          clear hb2 z2
          go_wp2
          go_roundg 0
          case measure => omega
          case rel => exact .inr (.inr ⟨by omega, by first | rfl | go_num, B2, GL1⟩)
        · obtain ⟨b, off, hA, hbb, hc⟩ := HRa.out (by rw [HNa.out]; omega)
          subst hA
          have c1 := (hc (na - 1) (by rw [HNa.out]; omega)).2
          have HLS := Lib.hid (below_last (n := s.next) hok (by rw [HNa.out]; omega))
          rw [HNa.out] at HLS
          obtain ⟨⟨lo, hi⟩, hp⟩ : ∃ p, s.acked.getD (na - 1) (0, 0) = p := ⟨_, rfl⟩
          rw [hp] at c1 HLS
          simp only at c1
          clear hc hp
          have hn0 : (0 : Int) < (na : Int) := by omega
          have hn1 : decide (0 < na) = true := by simp; omega
          have i0 : (0 : Int) ≤ (na : Int) - 1 := by omega
          have i1 : (na : Int) - 1 < (na : Int) := by omega
          have i2 : ((na : Int) - 1).toNat = na - 1 := by omega
          have i3 : IntKind.i64.wrap ((na : Int) - 1) = (na : Int) - 1 := by rw [IntKind.wrap_i64]; omega
          go_wp2_with (go_at_call 45; refine HC.out.mono ?_; rintro e w1 ⟨rfl, b1⟩; rw [hck]; have B1 := Lib.hid (BX.out.trans (b1.mono BX.out.size)); have F1 := Lib.hid ((b1.block _ (lt_of_block FX.out)).trans FX.out); clear b1 q0 q1 q2 q3 q4 q5 q6 q7; obtain ⟨q0, q1, q2, q3, q4, q5, q6, q7⟩ := bkS F1.out)
          have z2 := Ext.cell q2
          have z3 := Ext.cell ((B1.out.cell hbb).trans c1)
          refine wp_region_ext (by kernel_rfl) (by kernel_rfl) ?_
          repeat (go_big_quiet_step (fail))
          refine wpQuiet_nil ?_
          intro w2 hb2
          have B2 := Lib.hid (B1.out.trans (hb2.mono B1.out.size))
          have F2 := Lib.hid ((hb2.block _ (lt_of_block F1.out)).trans F1.out)
          clear hb2 z2 z3
          by_cases hg : hi < nx
          · have g1 : decide (nx ≤ hi) = false := by simp; omega
            have GL1 := Lib.hid (show setsP s from ⟨GL.out, hok, HLS.out.2 (by rw [HX.out]; exact hg)⟩)
            clear c1
            go_wp2
            go_roundg 0
            case measure => omega
            case rel => exact .inr (.inr ⟨by omega, by first | rfl | go_num, B2, GL1⟩)
          · have g1 : decide (nx ≤ hi) = true := by simp; omega
            have GN := Lib.hid (show ¬ setsP s from fun h => hg (by have := HLS.out.1 h.2.2; rw [HX.out] at this; exact this))
            clear c1
            go_wp2
            go_ret
            exact ⟨congrArg Ending.returned (decN (b := true) GN.out), B2.out⟩
      · have hck : ckV s.acked = 3 := if_neg hok
        have GN := Lib.hid (show ¬ setsP s from fun h => hok h.2.1)
        go_wp2_with (go_at_call 45; refine HC.out.mono ?_; rintro e w1 ⟨rfl, b1⟩; rw [hck]; have B1 := Lib.hid (BX.out.trans (b1.mono BX.out.size)); clear b1)
        go_ret
        exact ⟨congrArg Ending.returned (decN (b := true) GN.out), B1.out⟩
    · go_wp2
      go_ret
      exact ⟨congrArg Ending.returned (decY (b := true) GS.out), BX.out⟩
set_option maxHeartbeats 1000000 in
theorem whole_any (v : Value) (s : Sn) (w : World) (hv : SnVal w w.heap.size v s) :
    Calls Try.prog 38 #[v] w fun e w' => e = .returned (.bool (decide (s.fin = true ∧ s.next = s.data.length))) ∧ Below w.heap.size w w' := by
  obtain ⟨d, l, a, rfl, hd, hl, ha⟩ := hv.ex
  obtain ⟨Ad, cd, rfl, hdc, hdm, hdn, hdr⟩ := hd.ex
  have B0 := Lib.hid ((Below.refl w.heap.size w).alloc (Nat.le_refl _) (.cells #[.slice Ad s.data.length cd, .bool s.fin, .int .i64 s.next, .int .i64 s.mx, l, a, .bool s.ended, .bool s.over] 27))
  obtain ⟨n, hn⟩ : ∃ n, s.data.length = n := ⟨_, rfl⟩
  obtain ⟨fin, hf⟩ : ∃ n, s.fin = n := ⟨_, rfl⟩
  obtain ⟨nx, hx⟩ : ∃ n, s.next = n := ⟨_, rfl⟩
  rw [hn, hf, hx] at B0 ⊢
  clear hv hd hl ha hdr hn hf hx hdc hdm hdn
  cases fin with
  | false =>
    go_enter Try.func38, Try.ntmps38
    go_wp2
    go_ret
    exact ⟨by simp, B0.out⟩
  | true =>
    by_cases h : nx = n
    · subst h
      go_enter Try.func38, Try.ntmps38
      go_wp2
      go_ret
      exact ⟨by simp, B0.out⟩
    · have g : (nx == (n : Int)) = false := by simp [h]
      go_enter Try.func38, Try.ntmps38
      go_wp2
      go_ret
      exact ⟨by simp [h], B0.out⟩
end Go.Proofs.Ytnccibaifffhhaa
/- Contracts of package sender: Check. -/
namespace Go.Proofs.Ytnccibaifffhhaa
set_option linter.unusedVariables false
open Go.RowKit P

/-- what Check asks, in its order -/
theorem faultSn_eq (s : Sn) : faultSn s = if 600 < s.data.length ∨ s.next < 0 ∨ (s.data.length : Int) < s.next then 9 else if s.mx < s.next ∨ 4611686018427387903 < s.mx then 9 else if ¬ setsP s ∨ lapL s.lost s.acked = true then 9 else if s.ended = true ∧ s.over = true then 9 else if (s.ended = true ∨ s.over = true) ∧ ¬(s.fin = true ∧ s.next = s.data.length) then 9 else 0 := by
  unfold faultSn
  by_cases h : okSn s
  · rw [if_pos h]
    obtain ⟨k1, k2, k3, k4, k5, k6, k7, k8, k9, k10⟩ := h
    rw [if_neg (by omega), if_neg (by omega), if_neg (by rw [k10]; simp only [Bool.false_eq_true, or_false]; exact fun e => e ⟨⟨k4, k8⟩, k5, k9⟩), if_neg k6, if_neg (fun e => e.2 (k7 e.1))]
  · rw [if_neg h]
    by_cases c1 : 600 < s.data.length ∨ s.next < 0 ∨ (s.data.length : Int) < s.next
    · rw [if_pos c1]
    rw [if_neg c1]
    by_cases c2 : s.mx < s.next ∨ 4611686018427387903 < s.mx
    · rw [if_pos c2]
    rw [if_neg c2]
    by_cases c3 : ¬ setsP s ∨ lapL s.lost s.acked = true
    · rw [if_pos c3]
    rw [if_neg c3]
    by_cases c4 : s.ended = true ∧ s.over = true
    · rw [if_pos c4]
    rw [if_neg c4]
    by_cases c5 : (s.ended = true ∨ s.over = true) ∧ ¬(s.fin = true ∧ s.next = s.data.length)
    · rw [if_pos c5]
    exfalso
    have hs : setsP s := Decidable.byContradiction fun e => c3 (.inl e)
    have hl : lapL s.lost s.acked = false := by cases e : lapL s.lost s.acked with | false => rfl | true => exact absurd (.inr e) c3
    exact h ⟨by omega, by omega, by omega, hs.1.1, hs.2.1, c4, fun e => Decidable.byContradiction fun k => c5 ⟨e, k⟩, hs.1.2, hs.2.2, hl⟩
set_option maxRecDepth 100000 in
set_option maxHeartbeats 2000000 in
theorem snChk_any : SnChk Try.prog 14 := by
  intro v s w hv hw
  have HSv := Lib.hid (fun w' (hb : Below w.heap.size w w') => sets_any v s w' (hv.on hb) hw)
  have HWv := Lib.hid (fun w' (hb : Below w.heap.size w w') => whole_any v s w' (hv.on hb))
  obtain ⟨d, l, a, rfl, hd, hl, ha⟩ := hv.ex
  obtain ⟨Ad, cd, rfl, hdc, hdm, hdn, hdr⟩ := hd.ex
  obtain ⟨Al, cl, rfl, hlc, hlm, hlr⟩ := hl.ex
  obtain ⟨Aa, ca, rfl, hac, ham, har⟩ := ha.ex
  have hf := faultSn_eq s
  have B0 := Lib.hid ((Below.refl w.heap.size w).alloc (Nat.le_refl _) (.cells #[.slice Ad s.data.length cd, .bool s.fin, .int .i64 s.next, .int .i64 s.mx, .slice Al s.lost.length cl, .slice Aa s.acked.length ca, .bool s.ended, .bool s.over] 27))
  have F0 := Lib.hid (heap_alloc_new w (.cells #[.slice Ad s.data.length cd, .bool s.fin, .int .i64 s.next, .int .i64 s.mx, .slice Al s.lost.length cl, .slice Aa s.acked.length ca, .bool s.ended, .bool s.over] 27))
  have HAP := Lib.hid (fun w' (hb : Below w.heap.size w w') (h : setsP s) => apart_any Al Aa s.lost.length cl s.acked.length ca s.lost s.acked w' (hlr.on hb) rfl ⟨hlc, hlm⟩ h.1.1 (har.on hb) rfl ⟨hac, ham⟩ h.2.1)
  have HP := Lib.hid (show setsP s = setsP s from rfl)
  obtain ⟨nd, hnd⟩ : ∃ n, s.data.length = n := ⟨_, rfl⟩
  obtain ⟨nl, hnl⟩ : ∃ n, s.lost.length = n := ⟨_, rfl⟩
  obtain ⟨na, hna⟩ : ∃ n, s.acked.length = n := ⟨_, rfl⟩
  obtain ⟨nx, hnx⟩ : ∃ n, s.next = n := ⟨_, rfl⟩
  obtain ⟨mx, hmx⟩ : ∃ n, s.mx = n := ⟨_, rfl⟩
  obtain ⟨fin, hfin⟩ : ∃ n, s.fin = n := ⟨_, rfl⟩
  obtain ⟨en, hen⟩ : ∃ n, s.ended = n := ⟨_, rfl⟩
  obtain ⟨ov, hov⟩ : ∃ n, s.over = n := ⟨_, rfl⟩
  obtain ⟨L, hL⟩ : ∃ n, lapL s.lost s.acked = n := ⟨_, rfl⟩
  rw [hnd, hnl, hna, hnx, hmx, hfin, hen, hov] at B0 F0 HSv HWv
  rw [hnl, hna, hL] at HAP
  rw [hnd, hnx, hmx, hfin, hen, hov, hL] at hf
  rw [hnd, hnl, hna, hnx, hmx, hfin, hen, hov]
  obtain ⟨R, hR⟩ : ∃ R, faultSn s = R := ⟨_, rfl⟩
  rw [hR] at hf ⊢
  clear hv hw hd hl ha hdr hlr har hdn hdc hdm hlc hlm hac ham hnd hnl hna hnx hmx hfin hen hov hL hR HP
  by_cases c1 : 600 < nd ∨ nx < 0 ∨ (nd : Int) < nx
  · rw [if_pos c1] at hf
    have HF := Lib.hid hf
    clear hf HSv HWv HAP F0
    by_cases a1 : 600 < nd
    · have d1 : decide (600 < (nd : Int)) = true := by simp; omega
      clear c1
      go_enter Try.func14, Try.ntmps14
      go_wp2
      go_ret
      exact ⟨by rw [HF.out]; rfl, B0.out⟩
    · have d1 : decide (600 < (nd : Int)) = false := by simp; omega
      by_cases a2 : nx < 0
      · have d2 : decide (nx < 0) = true := by simp [a2]
        clear c1
        go_enter Try.func14, Try.ntmps14
        go_wp2
        go_ret
        exact ⟨by rw [HF.out]; rfl, B0.out⟩
      · have d2 : decide (nx < 0) = false := by simp; omega
        have d3 : decide ((nd : Int) < nx) = true := by simp; omega
        clear c1
        go_enter Try.func14, Try.ntmps14
        go_wp2
        go_ret
        exact ⟨by rw [HF.out]; rfl, B0.out⟩
  rw [if_neg c1] at hf
  have d1 : decide (600 < (nd : Int)) = false := by simp; omega
  have d2 : decide (nx < 0) = false := by simp; omega
  have d3 : decide ((nd : Int) < nx) = false := by simp; omega
  by_cases c2 : mx < nx ∨ 4611686018427387903 < mx
  · rw [if_pos c2] at hf
    have HF := Lib.hid hf
    clear hf HSv HWv HAP F0 c1
    by_cases a1 : mx < nx
    · have d4 : decide (mx < nx) = true := by simp [a1]
      clear c2
      go_enter Try.func14, Try.ntmps14
      go_wp2
      go_ret
      exact ⟨by rw [HF.out]; rfl, B0.out⟩
    · have d4 : decide (mx < nx) = false := by simp; omega
      have d5 : decide (4611686018427387903 < mx) = true := by simp; omega
      clear c2
      go_enter Try.func14, Try.ntmps14
      go_wp2
      go_ret
      exact ⟨by rw [HF.out]; rfl, B0.out⟩
  rw [if_neg c2] at hf
  have d4 : decide (mx < nx) = false := by simp; omega
  have d5 : decide (4611686018427387903 < mx) = false := by simp; omega
  clear c1 c2
  by_cases c3 : setsP s
  · have e3 : decide (setsP s) = true := decide_eq_true c3
    rw [e3] at HSv
    have HAQ := Lib.hid (fun w' hb => HAP.out w' hb c3)
    clear HAP
    cases L with
    | true =>
      rw [if_pos (.inr rfl)] at hf
      have HF := Lib.hid hf
      clear hf HWv c3 e3
      go_enter Try.func14, Try.ntmps14
      go_wp2_with (first
        | (go_at_call 36; refine (HSv.out _ B0.out).mono ?_; rintro e w1 ⟨rfl, b1⟩; have B1 := Lib.hid (B0.out.trans (b1.mono B0.out.size)); have F1 := Lib.hid ((b1.block _ (lt_of_block F0.out)).trans F0.out); clear b1; obtain ⟨q0, q1, q2, q3, q4, q5, q6, q7⟩ := bkS F1.out)
        | (go_at_call 37; refine (HAQ.out _ B1.out).mono ?_; rintro e w2 ⟨rfl, b2⟩; have B2 := Lib.hid (B1.out.trans (b2.mono B1.out.size)); clear b2))
      go_ret
      exact ⟨by rw [HF.out]; rfl, B2.out⟩
    | false =>
      rw [if_neg (fun h => h.elim (fun h => h c3) (fun h => by cases h))] at hf
      cases en with
      | true => cases ov with
        | true =>
          rw [if_pos ⟨rfl, rfl⟩] at hf
          have HF := Lib.hid hf
          clear hf HWv c3 e3
          go_enter Try.func14, Try.ntmps14
          go_wp2_with (first
            | (go_at_call 36; refine (HSv.out _ B0.out).mono ?_; rintro e w1 ⟨rfl, b1⟩; have B1 := Lib.hid (B0.out.trans (b1.mono B0.out.size)); have F1 := Lib.hid ((b1.block _ (lt_of_block F0.out)).trans F0.out); clear b1; obtain ⟨q0, q1, q2, q3, q4, q5, q6, q7⟩ := bkS F1.out)
            | (go_at_call 37; refine (HAQ.out _ B1.out).mono ?_; rintro e w2 ⟨rfl, b2⟩; have B2 := Lib.hid (B1.out.trans (b2.mono B1.out.size)); have F2 := Lib.hid ((b2.block _ (lt_of_block F1.out)).trans F1.out); clear b2; obtain ⟨r0, r1, r2, r3, r4, r5, r6, r7⟩ := bkS F2.out))
          go_ret
          exact ⟨by rw [HF.out]; rfl, B2.out⟩
        | false =>
          have HWW := Lib.hid HWv.out
          clear HWv
          by_cases c5 : fin = true ∧ nx = nd
          · rw [if_neg (fun h => by cases h.1 <;> cases h.2), if_neg (fun h => h.2 c5)] at hf
            have HF := Lib.hid hf
            have e5 : decide (fin = true ∧ nx = (nd : Int)) = true := decide_eq_true c5
            rw [e5] at HWW
            clear hf c3 e3 c5 e5
            go_enter Try.func14, Try.ntmps14
            go_wp2_with (first
              | (go_at_call 36; refine (HSv.out _ B0.out).mono ?_; rintro e w1 ⟨rfl, b1⟩; have B1 := Lib.hid (B0.out.trans (b1.mono B0.out.size)); have F1 := Lib.hid ((b1.block _ (lt_of_block F0.out)).trans F0.out); clear b1; obtain ⟨q0, q1, q2, q3, q4, q5, q6, q7⟩ := bkS F1.out)
              | (go_at_call 37; refine (HAQ.out _ B1.out).mono ?_; rintro e w2 ⟨rfl, b2⟩; have B2 := Lib.hid (B1.out.trans (b2.mono B1.out.size)); have F2 := Lib.hid ((b2.block _ (lt_of_block F1.out)).trans F1.out); clear b2; obtain ⟨r0, r1, r2, r3, r4, r5, r6, r7⟩ := bkS F2.out)
              | (go_at_call 38; refine (HWW.out _ B2.out).mono ?_; rintro e w3 ⟨rfl, b3⟩; have B3 := Lib.hid (B2.out.trans (b3.mono B2.out.size)); clear b3))
            go_ret
            exact ⟨by rw [HF.out]; rfl, B3.out⟩
          · rw [if_neg (fun h => by cases h.1 <;> cases h.2), if_pos ⟨by simp, c5⟩] at hf
            have HF := Lib.hid hf
            have e5 : decide (fin = true ∧ nx = (nd : Int)) = false := decide_eq_false c5
            rw [e5] at HWW
            clear hf c3 e3 c5 e5
            go_enter Try.func14, Try.ntmps14
            go_wp2_with (first
              | (go_at_call 36; refine (HSv.out _ B0.out).mono ?_; rintro e w1 ⟨rfl, b1⟩; have B1 := Lib.hid (B0.out.trans (b1.mono B0.out.size)); have F1 := Lib.hid ((b1.block _ (lt_of_block F0.out)).trans F0.out); clear b1; obtain ⟨q0, q1, q2, q3, q4, q5, q6, q7⟩ := bkS F1.out)
              | (go_at_call 37; refine (HAQ.out _ B1.out).mono ?_; rintro e w2 ⟨rfl, b2⟩; have B2 := Lib.hid (B1.out.trans (b2.mono B1.out.size)); have F2 := Lib.hid ((b2.block _ (lt_of_block F1.out)).trans F1.out); clear b2; obtain ⟨r0, r1, r2, r3, r4, r5, r6, r7⟩ := bkS F2.out)
              | (go_at_call 38; refine (HWW.out _ B2.out).mono ?_; rintro e w3 ⟨rfl, b3⟩; have B3 := Lib.hid (B2.out.trans (b3.mono B2.out.size)); clear b3))
            go_ret
            exact ⟨by rw [HF.out]; rfl, B3.out⟩
      | false => cases ov with
        | true =>
          have HWW := Lib.hid HWv.out
          clear HWv
          by_cases c5 : fin = true ∧ nx = nd
          · rw [if_neg (fun h => by cases h.1 <;> cases h.2), if_neg (fun h => h.2 c5)] at hf
            have HF := Lib.hid hf
            have e5 : decide (fin = true ∧ nx = (nd : Int)) = true := decide_eq_true c5
            rw [e5] at HWW
            clear hf c3 e3 c5 e5
            go_enter Try.func14, Try.ntmps14
            go_wp2_with (first
              | (go_at_call 36; refine (HSv.out _ B0.out).mono ?_; rintro e w1 ⟨rfl, b1⟩; have B1 := Lib.hid (B0.out.trans (b1.mono B0.out.size)); have F1 := Lib.hid ((b1.block _ (lt_of_block F0.out)).trans F0.out); clear b1; obtain ⟨q0, q1, q2, q3, q4, q5, q6, q7⟩ := bkS F1.out)
              | (go_at_call 37; refine (HAQ.out _ B1.out).mono ?_; rintro e w2 ⟨rfl, b2⟩; have B2 := Lib.hid (B1.out.trans (b2.mono B1.out.size)); have F2 := Lib.hid ((b2.block _ (lt_of_block F1.out)).trans F1.out); clear b2; obtain ⟨r0, r1, r2, r3, r4, r5, r6, r7⟩ := bkS F2.out)
              | (go_at_call 38; refine (HWW.out _ B2.out).mono ?_; rintro e w3 ⟨rfl, b3⟩; have B3 := Lib.hid (B2.out.trans (b3.mono B2.out.size)); clear b3))
            go_ret
            exact ⟨by rw [HF.out]; rfl, B3.out⟩
          · rw [if_neg (fun h => by cases h.1 <;> cases h.2), if_pos ⟨by simp, c5⟩] at hf
            have HF := Lib.hid hf
            have e5 : decide (fin = true ∧ nx = (nd : Int)) = false := decide_eq_false c5
            rw [e5] at HWW
            clear hf c3 e3 c5 e5
            go_enter Try.func14, Try.ntmps14
            go_wp2_with (first
              | (go_at_call 36; refine (HSv.out _ B0.out).mono ?_; rintro e w1 ⟨rfl, b1⟩; have B1 := Lib.hid (B0.out.trans (b1.mono B0.out.size)); have F1 := Lib.hid ((b1.block _ (lt_of_block F0.out)).trans F0.out); clear b1; obtain ⟨q0, q1, q2, q3, q4, q5, q6, q7⟩ := bkS F1.out)
              | (go_at_call 37; refine (HAQ.out _ B1.out).mono ?_; rintro e w2 ⟨rfl, b2⟩; have B2 := Lib.hid (B1.out.trans (b2.mono B1.out.size)); have F2 := Lib.hid ((b2.block _ (lt_of_block F1.out)).trans F1.out); clear b2; obtain ⟨r0, r1, r2, r3, r4, r5, r6, r7⟩ := bkS F2.out)
              | (go_at_call 38; refine (HWW.out _ B2.out).mono ?_; rintro e w3 ⟨rfl, b3⟩; have B3 := Lib.hid (B2.out.trans (b3.mono B2.out.size)); clear b3))
            go_ret
            exact ⟨by rw [HF.out]; rfl, B3.out⟩
        | false =>
          rw [if_neg (fun h => by cases h.1), if_neg (fun h => h.1.elim (fun h => by cases h) (fun h => by cases h))] at hf
          have HF := Lib.hid hf
          clear hf HWv c3 e3
          go_enter Try.func14, Try.ntmps14
          go_wp2_with (first
            | (go_at_call 36; refine (HSv.out _ B0.out).mono ?_; rintro e w1 ⟨rfl, b1⟩; have B1 := Lib.hid (B0.out.trans (b1.mono B0.out.size)); have F1 := Lib.hid ((b1.block _ (lt_of_block F0.out)).trans F0.out); clear b1; obtain ⟨q0, q1, q2, q3, q4, q5, q6, q7⟩ := bkS F1.out)
            | (go_at_call 37; refine (HAQ.out _ B1.out).mono ?_; rintro e w2 ⟨rfl, b2⟩; have B2 := Lib.hid (B1.out.trans (b2.mono B1.out.size)); have F2 := Lib.hid ((b2.block _ (lt_of_block F1.out)).trans F1.out); clear b2; obtain ⟨r0, r1, r2, r3, r4, r5, r6, r7⟩ := bkS F2.out))
          go_ret
          exact ⟨by rw [HF.out]; rfl, B2.out⟩
  · have e3 : decide (setsP s) = false := decide_eq_false c3
    rw [e3] at HSv
    rw [if_pos (.inl c3)] at hf
    have HF := Lib.hid hf
    clear hf HWv HAP c3 e3
    go_enter Try.func14, Try.ntmps14
    go_wp2_with (go_at_call 36; refine (HSv.out _ B0.out).mono ?_; rintro e w1 ⟨rfl, b1⟩; have B1 := Lib.hid (B0.out.trans (b1.mono B0.out.size)); clear b1)
    go_ret
    exact ⟨by rw [HF.out]; rfl, B1.out⟩
end Go.Proofs.Ytnccibaifffhhaa
/- Two blocks laid one behind the other. Nothing of the program's. -/
namespace Go.Proofs.Ytnccibaifffhhaa
set_option linter.unusedVariables false
open Go.RowKit P

theorem twoX (w : World) (a b : Array Value) (T1 T2 : TypeId) : ((w.alloc (.cells a T1)).alloc (.cells b T2)).heap[w.heap.size]? = some (.cells a T1 (0, 0)) ∧ ((w.alloc (.cells a T1)).alloc (.cells b T2)).heap[w.heap.size + 1]? = some (.cells b T2 (0, 0)) ∧ Below w.heap.size w ((w.alloc (.cells a T1)).alloc (.cells b T2)) := by
  have s1 : (w.alloc (.cells a T1)).heap.size = w.heap.size + 1 := by simp
  have h2 := heap_alloc_new (w.alloc (.cells a T1)) (.cells b T2)
  rw [s1] at h2
  exact ⟨(Below.heap_alloc _ _ _ (by rw [s1]; omega)).trans (heap_alloc_new w _), h2, ((Below.refl _ _).alloc (Nat.le_refl _) _).alloc (by simp) _⟩
theorem own_later2 {w w' : World} {base e size n : Nat} {v : Value} {xs : List Value} (h : w.ownsRow base e size v n xs) (hb : Below w.heap.size w w') : w'.ownsRow base e size v n xs := by
  refine ⟨h.1, ?_⟩
  rcases h.2 with h0 | ⟨g, cap, cur, hv, h2, h3, h4⟩
  · exact .inl h0
  · refine .inr ⟨g, cap, cur, hv, h2, ?_, h4⟩
    rw [hb.block g (lt_of_block h3)]
    exact h3
theorem own_gr {w w' : World} {base e size n b : Nat} {v : Value} {xs : List Value} (h : w.ownsRow base e size v n xs) (g : w.grownBy w' (some b)) (hb : b < base) : w'.ownsRow base e size v n xs :=
  World.ownsRow.kept h g (by
    cases hq : v.ownBlock with
    | none => exact .inl rfl
    | some k => exact .inr fun e2 => by cases e2; have := (h.lt b hq).1; omega)
theorem own_apart {w : World} {base e size n : Nat} {v u : Value} {xs : List Value} {k : Nat} (h : w.ownsRow base e size v n xs) (hv : v.ownBlock = some k) (hu : ∀ j, u.ownBlock = some j → j < base) : u.ownBlock ≠ some k := fun e => by
  have := hu k e
  have := (h.lt k hv).1
  omega
end Go.Proofs.Ytnccibaifffhhaa
