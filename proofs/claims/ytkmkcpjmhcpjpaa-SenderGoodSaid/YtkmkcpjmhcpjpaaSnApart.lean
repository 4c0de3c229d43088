/- Contracts of package sender: apart, whole. -/
import Derived.Test.YtkmkcpjmhcpjpaaRngChk
import Derived.Test.YtkmkcpjmhcpjpaaSnVal
import Derived.Deep.LoopGhost
namespace Go.Proofs.Ytkmkcpjmhcpjpaa.P
set_option linter.unusedVariables false
/-- the first range ends ahead of the other set's first one -/
theorem lap_lt {x y : Int × Int} {xs ys : List (Int × Int)} {b : Int} (hy : okFrom b (y :: ys)) (h : x.2 < y.1) : lapL (x :: xs) (y :: ys) = lapL xs (y :: ys) := by
  have h0 : (y :: ys).any (fun z => lapR x z) = false := by
    rw [List.any_eq_false]
    intro z hz
    have := (okFrom_all hy hz)
    unfold lapR
    simp only [decide_eq_true_eq]
    have hz1 : y.1 ≤ z.1 := by
      rcases List.mem_cons.1 hz with rfl | hz
      · exact Int.le_refl _
      · have k := okFrom_all hy.2.2 hz
        have := k.2
        have := hy.1.2.1
        omega
    omega
  unfold lapL
  rw [List.any_cons, h0, Bool.false_or]
theorem lap_gt {x y : Int × Int} {xs ys : List (Int × Int)} {a : Int} (hx : okFrom a (x :: xs)) (h : y.2 < x.1) : lapL (x :: xs) (y :: ys) = lapL (x :: xs) ys := by
  unfold lapL
  have : ∀ z ∈ x :: xs, (y :: ys).any (fun u => lapR z u) = ys.any (fun u => lapR z u) := by
    intro z hz
    have hz1 : x.1 ≤ z.1 := by
      rcases List.mem_cons.1 hz with rfl | hz
      · exact Int.le_refl _
      · have k := okFrom_all hx.2.2 hz
        have := k.2
        have := hx.1.2.1
        omega
    rw [List.any_cons]
    have : lapR z y = false := by unfold lapR; simp only [decide_eq_false_iff_not]; omega
    rw [this, Bool.false_or]
  rw [Bool.eq_iff_iff, List.any_eq_true, List.any_eq_true]
  constructor
  · rintro ⟨z, hz, k⟩; exact ⟨z, hz, by rw [← this z hz]; exact k⟩
  · rintro ⟨z, hz, k⟩; exact ⟨z, hz, by rw [this z hz]; exact k⟩
theorem lap_yes {x y : Int × Int} {xs ys : List (Int × Int)} (hx : okR x) (hy : okR y) (h1 : ¬ x.2 < y.1) (h2 : ¬ y.2 < x.1) : lapL (x :: xs) (y :: ys) = true := by
  have : lapR x y = true := by
    have := hx.2.1
    have := hy.2.1
    unfold lapR; simp only [decide_eq_true_eq]; omega
  unfold lapL
  rw [List.any_cons, List.any_cons, this]
  rfl
theorem lap_nil (xs : List (Int × Int)) : lapL xs [] = false := by
  unfold lapL
  rw [List.any_eq_false]
  intro z _ k
  cases k
end Go.Proofs.Ytkmkcpjmhcpjpaa.P
namespace Go.Proofs.Ytkmkcpjmhcpjpaa
set_option linter.unusedVariables false
open Go.RowKit P

set_option maxHeartbeats 1000000 in
theorem apart_any (A A2 : Option Addr) (len cap len2 cap2 : Nat) (ps qs : List (Int × Int)) (w : World) (h : RRow w w.heap.size A ps) (hl : ps.length = len) (hc : len ≤ cap ∧ cap ≤ maxLen) (hok : okL ps) (h2 : RRow w w.heap.size A2 qs) (hl2 : qs.length = len2) (hc2 : len2 ≤ cap2 ∧ cap2 ≤ maxLen) (hok2 : okL qs) :
    Calls Try.prog 60 #[.slice A len cap, .slice A2 len2 cap2] w fun e w' => e = .returned (.bool (!lapL ps qs)) ∧ Below w.heap.size w w' := by
  obtain ⟨L, hL⟩ : ∃ L, lapL ps qs = L := ⟨_, rfl⟩
  rw [hL]
  have HR := Lib.hid h
  have HR2 := Lib.hid h2
  have HK := Lib.hid hok
  have HK2 := Lib.hid hok2
  have HL := Lib.hid hL
  subst hl hl2
  clear h h2 hok hok2 hL
  go_enter Try.func60, Try.ntmps60
  go_wp2
  go_loopg [0, 1] (ps.length + qs.length) (fun g u v wr => ∃ (xs ys : List (Int × Int)) (X Y : Option Addr) (n m c d : Nat) (a b : Int), u = .slice X n c ∧ v = .slice Y m d ∧ n + m ≤ g ∧ n ≤ c ∧ c ≤ maxLen ∧ m ≤ d ∧ d ≤ maxLen ∧ Hid (xs.length = n) ∧ Hid (ys.length = m) ∧ Hid (okFrom a xs) ∧ Hid (okFrom b ys) ∧ Hid (lapL xs ys = L) ∧ Hid (RRow wr wr.heap.size X xs) ∧ Hid (RRow wr wr.heap.size Y ys) ∧ Hid (Below w.heap.size w wr))
  case atStart => exact ⟨ps, qs, A, A2, ps.length, qs.length, cap, cap2, -2, -2, rfl, rfl, Nat.le_refl _, hc.1, hc.2, hc2.1, hc2.2, rfl, rfl, HK, HK2, HL, HR, HR2, Below.refl _ _⟩
  case round =>
    obtain ⟨xs, ys, X, Y, n, m, c, d, a, b, rfl, rfl, hg, hnc, hcm, hmd, hdm, EN, EM, KX, KY, LX, RX, RY, BX⟩ := hrel
    unfold maxLen at hcm hdm
    by_cases h0 : n = 0
    · have e : xs = [] := List.eq_nil_of_length_eq_zero (by rw [EN.out]; exact h0)
      have HF := Lib.hid (show L = false by rw [← LX.out, e]; rfl)
      subst h0
      go_wp2
      go_ret
      exact ⟨by rw [HF.out]; rfl, BX.out⟩
    · by_cases h1 : m = 0
      · have e : ys = [] := List.eq_nil_of_length_eq_zero (by rw [EM.out]; exact h1)
        have HF := Lib.hid (show L = false by rw [← LX.out, e]; exact lap_nil _)
        subst h1
        have hn0 : (0 : Int) < (n : Int) := by omega
        have hn1 : decide (0 < n) = true := by simp; omega
        go_wp2
        go_ret
        exact ⟨by rw [HF.out]; rfl, BX.out⟩
      · obtain ⟨x, xs', hx⟩ : ∃ x xs', xs = x :: xs' := by
          cases hq : xs with
          | nil => exfalso; have := EN.out; rw [hq] at this; simp at this; omega
          | cons x l => exact ⟨x, l, rfl⟩
        obtain ⟨y, ys', hy⟩ : ∃ y ys', ys = y :: ys' := by
          cases hq : ys with
          | nil => exfalso; have := EM.out; rw [hq] at this; simp at this; omega
          | cons x l => exact ⟨x, l, rfl⟩
        obtain ⟨x0, x1⟩ := x
        obtain ⟨y0, y1⟩ := y
        obtain ⟨bx, ox, hX, hbx, hcx⟩ := RX.out (by rw [EN.out]; omega)
        obtain ⟨bY, oy, hY, hby, hcy⟩ := RY.out (by rw [EM.out]; omega)
        subst hX hY
        have p0 := hcx 0 (by rw [EN.out]; omega)
        have p1 := hcy 0 (by rw [EM.out]; omega)
        rw [hx] at p0
        rw [hy] at p1
        simp only [List.getD_cons_zero, Nat.zero_mul, Nat.add_zero] at p0 p1
        obtain ⟨c0, c1⟩ := p0
        obtain ⟨c2, c3⟩ := p1
        have NX := Lib.hid (fun k => RX.out.cut 1 c k)
        have NY := Lib.hid (fun k => RY.out.cut 1 d k)
        have d0 := Ext.cell c0
        have d1 := Ext.cell c1
        have d2 := Ext.cell c2
        have d3 := Ext.cell c3
        have kx := KX.out
        have ky := KY.out
        rw [hx] at kx
        rw [hy] at ky
        have HKX := Lib.hid kx
        have HKY := Lib.hid ky
        have EX := Lib.hid hx
        have EY := Lib.hid hy
        have hn0 : (0 : Int) < (n : Int) := by omega
        have hn1 : decide (0 < n) = true := by simp; omega
        have hm0 : (0 : Int) < (m : Int) := by omega
        have hm1 : decide (0 < m) = true := by simp; omega
        have s1 : 1 ≤ n := by omega
        have s2 : 1 ≤ m := by omega
        have s3 : 1 ≤ c := by omega
        have s4 : 1 ≤ d := by omega
        clear hcx hcy kx ky hx hy
        go_wp2
        refine wp_region_ext (by kernel_rfl) (by kernel_rfl) ?_
        repeat (go_big_quiet_step (fail))
        refine wpQuiet_nil ?_
        intro w1 hb1
        have B1 := Lib.hid (BX.out.trans (hb1.mono BX.out.size))
        have BB := Lib.hid hb1
        clear hb1 d0 d1 d2 d3
        by_cases g1 : x1 < y0
        · have HL1 := Lib.hid (show lapL (xs.drop 1) ys = L by rw [← LX.out, EX.out, EY.out]; exact (lap_lt HKY.out g1).symm)
          have hle := NX.out (by rw [EN.out]; exact hnc)
          have RY1 := Lib.hid (RY.out.on BB.out)
          have l1 := Lib.hid (show (xs.drop 1).length = n - 1 by rw [List.length_drop, EN.out])
          have KX1 := Lib.hid (show okFrom x1 (xs.drop 1) by rw [EX.out]; exact HKX.out.2.2)
          clear NX NY c0 c1 c2 c3
          by_cases hq : c = 1
          · rw [if_pos hq] at hle
            have NX1 := Lib.hid (hle.on BB.out)
            clear hle
            go_wp2
            go_roundg (gk - 1)
            case measure => omega
            case rel => exact ⟨xs.drop 1, ys, some ⟨bx, ox, none⟩, some ⟨bY, oy, none⟩, n - 1, m, c - 1, d, x1, b, by first | rfl | simp [hq], rfl, by omega, by omega, by unfold maxLen; omega, hmd, by unfold maxLen; omega, l1, EM, KX1, KY, HL1, NX1, RY1, B1⟩
          · rw [if_neg hq] at hle
            have NX1 := Lib.hid (hle.on BB.out)
            clear hle
            go_wp2
            go_roundg (gk - 1)
            case measure => omega
            case rel => exact ⟨xs.drop 1, ys, some ⟨bx, ox + 2, none⟩, some ⟨bY, oy, none⟩, n - 1, m, c - 1, d, x1, b, by first | rfl | simp [hq], rfl, by omega, by omega, by unfold maxLen; omega, hmd, by unfold maxLen; omega, l1, EM, KX1, KY, HL1, by simpa [add_plain2] using NX1, RY1, B1⟩
        · have e1 : decide (x1 < y0) = false := by simp; omega
          have c0' := (BB.out.cell hbx).trans c0
          have c1' := (BB.out.cell hbx).trans c1
          have c2' := (BB.out.cell hby).trans c2
          have c3' := (BB.out.cell hby).trans c3
          have f0 := Ext.cell c0'
          have f1 := Ext.cell c1'
          have f2 := Ext.cell c2'
          have f3 := Ext.cell c3'
          go_wp2
          refine wp_region_ext (by kernel_rfl) (by kernel_rfl) ?_
          repeat (go_big_quiet_step (fail))
          refine wpQuiet_nil ?_
          intro w2 hb2
          have B2 := Lib.hid (B1.out.trans (hb2.mono B1.out.size))
          have BC := Lib.hid (BB.out.trans (hb2.mono BB.out.size))
          clear hb2 f0 f1 f2 f3
          by_cases g2 : y1 < x0
          · have HL1 := Lib.hid (show lapL xs (ys.drop 1) = L by rw [← LX.out, EX.out, EY.out]; exact (lap_gt HKX.out g2).symm)
            have hle := NY.out (by rw [EM.out]; exact hmd)
            have RX1 := Lib.hid (RX.out.on BC.out)
            have l1 := Lib.hid (show (ys.drop 1).length = m - 1 by rw [List.length_drop, EM.out])
            have KY1 := Lib.hid (show okFrom y1 (ys.drop 1) by rw [EY.out]; exact HKY.out.2.2)
            clear NX NY c0 c1 c2 c3 c0' c1' c2' c3'
            by_cases hq : d = 1
            · rw [if_pos hq] at hle
              have NY1 := Lib.hid (hle.on BC.out)
              clear hle
              go_wp2
              go_roundg (gk - 1)
              case measure => omega
              case rel => exact ⟨xs, ys.drop 1, some ⟨bx, ox, none⟩, some ⟨bY, oy, none⟩, n, m - 1, c, d - 1, a, y1, rfl, by first | rfl | simp [hq], by omega, hnc, by unfold maxLen; omega, by omega, by unfold maxLen; omega, EN, l1, KX, KY1, HL1, RX1, NY1, B2⟩
            · rw [if_neg hq] at hle
              have NY1 := Lib.hid (hle.on BC.out)
              clear hle
              go_wp2
              go_roundg (gk - 1)
              case measure => omega
              case rel => exact ⟨xs, ys.drop 1, some ⟨bx, ox, none⟩, some ⟨bY, oy + 2, none⟩, n, m - 1, c, d - 1, a, y1, rfl, by first | rfl | simp [hq], by omega, hnc, by unfold maxLen; omega, by omega, by unfold maxLen; omega, EN, l1, KX, KY1, HL1, RX1, by simpa [add_plain2] using NY1, B2⟩
          · have e2 : decide (y1 < x0) = false := by simp; omega
            have HF := Lib.hid (show L = true by rw [← LX.out, EX.out, EY.out]; exact lap_yes HKX.out.1 HKY.out.1 (show ¬ x1 < y0 by omega) (show ¬ y1 < x0 by omega))
            clear NX NY c0 c1 c2 c3 c0' c1' c2' c3'
            go_wp2
            go_ret
            exact ⟨by rw [HF.out]; rfl, B2.out⟩
end Go.Proofs.Ytkmkcpjmhcpjpaa
