/- The walk of PaceHalf. -/
import Derived.Test.YtlafjladlkbnoaaPaced
import Derived.ChangeKeysEq
namespace Go.Proofs.Ytlafjladlkbnoaa
set_option linter.unusedVariables false
open Go.RowKit P

theorem two_at1 (w : World) (c1 c2 : Array Value) (T1 T2 : TypeId) : Hid (((w.alloc (.cells c1 T1)).alloc (.cells c2 T2)).drew.heap[w.heap.size]? = some (.cells c1 T1 (0, 0))) :=
  Lib.hid ((Below.heap_alloc _ _ w.heap.size (by simp)).trans (heap_alloc_new w _))
theorem two_at2 (w : World) (c1 c2 : Array Value) (T1 T2 : TypeId) (k : Nat) (hk : w.heap.size + 1 = k) : Hid (((w.alloc (.cells c1 T1)).alloc (.cells c2 T2)).drew.heap[k]? = some (.cells c2 T2 (0, 0))) := by
  have := heap_alloc_new (w.alloc (.cells c1 T1)) (.cells c2 T2)
  rw [show (w.alloc (.cells c1 T1)).heap.size = w.heap.size + 1 by simp, hk] at this
  exact Lib.hid this
theorem two_at0 (w : World) (c1 c2 : Array Value) (T1 T2 : TypeId) : Hid (Below w.heap.size w ((w.alloc (.cells c1 T1)).alloc (.cells c2 T2)).drew) := Lib.hid (((Below.refl w.heap.size w).alloc (Nat.le_refl _) _).alloc (by simp) _).drew
theorem run_pace_win (a b c d : Value) (w : World) : (Instr.field 23 (.agg #[a, b, c, d]) 0).run Try.prog w = .ok a w := by
  unfold Instr.field
  have h := run_part_plain (P := Try.prog) w (e := 3) (by kernel_rfl) (xs := #[a, b, c, d]) (off := 0) (v := a) rfl
  simp [Sem.run_bind, run_underlying Try.underlying23, asAgg]
  exact h
set_option maxRecDepth 100000 in
set_option maxHeartbeats 4000000 in
theorem paceHalf_walk (A : Option Addr) (len cap : Nat) (rs : List RawT) (nq later : Int) (w : World) (h : RawRow w w.heap.size A rs) (hl : rs.length = len) (hlc : len ≤ cap) (hcm : cap ≤ maxLen) :
    Calls Try.prog 7 #[.slice A len cap, .int .i64 nq, .int .i64 later] w fun e w' => e = .returned (.bool true) ∧ Below w.heap.size w w' := by
  have HP := Lib.hid (paced_any A len cap rs w h hl hlc hcm)
  clear h hl hlc hcm
  go_enter Try.func7, Try.ntmps7
  go_wp2_with fail
  refine HP.out.mono ?_
  rintro e w1 ⟨wd, th, fl, si, nw, ps, Ay, cy, rfl, pk, hn, hp, y1, y2, yr, b1⟩
  have PK := Lib.hid pk
  have hsum := sumW_nn pk.sz
  rw [← pk.sum] at hsum
  have hsn := pk.sn
  obtain ⟨k0, k1, k2, k3, k4, k5⟩ := paF_ok pk.ok
  have HC := Lib.hid (fun w => paCheck_any wd th fl si ⟨by omega, by omega⟩ w)
  rw [pk.ok] at HC
  have HB := Lib.hid (fun w => paBegin_any w)
  unfold paV at HC HB
  have X1 := Lib.hid ((Below.refl w1.heap.size w1).alloc (Nat.le_refl _) (.cells #[.int .i64 wd, .int .i64 th, .int .i64 fl, .int .i64 si] 23))
  have B1 := Lib.hid (b1.trans (X1.out.mono b1.size))
  have F1 := Lib.hid (heap_alloc_new w1 (.cells #[.int .i64 wd, .int .i64 th, .int .i64 fl, .int .i64 si] 23))
  have Y1 := Lib.hid (yr.on X1.out)
  obtain ⟨ny, hny⟩ : ∃ n, ps.length = n := ⟨_, rfl⟩
  have HNY := Lib.hid hny
  rw [hny] at hp y1 ⊢
  rw [hny] at hsum
  unfold maxLen at y2
  clear b1 yr pk hny
  obtain ⟨V, hV⟩ : ∃ V, w1.heap.size = V := ⟨_, rfl⟩
  obtain ⟨W1, hW1⟩ : ∃ W, w1.alloc (.cells #[.int .i64 wd, .int .i64 th, .int .i64 fl, .int .i64 si] 23) = W := ⟨_, rfl⟩
  go_upto_region 2 with (fail)
  rw [hV] at F1
  try rw [hV]
  clear X1
  rw [hW1] at B1 F1 Y1
  try rw [hW1]
  clear hW1 hV
  by_cases h2 : ny < 2
  · have g2 : decide ((ny : Int) < 2) = true := by simp; omega
    obtain ⟨q0, q1, q2, q3, qf⟩ := bk4 F1.out
    go_wp2_with fail
    refine (HC.out _).mono ?_
    rintro e3 w3 ⟨rfl, b3⟩
    have B3 := Lib.hid (B1.out.trans (b3.mono B1.out.size))
    clear b3 q0 q1 q2 q3 qf
    go_wp2_with fail
    refine (HB.out _).mono ?_
    rintro e4 w4 ⟨rfl, b4⟩
    have B4 := Lib.hid (B3.out.trans (b4.mono B3.out.size))
    clear b4
    have RW := run_pace_win (.int .i64 400) (.int .i64 0) (.int .i64 0) (.int .i64 (-1)) w4
    go_wp2_with fail
    go_ret
    exact ⟨by first | rfl | simp, B4.out⟩
  · have g2 : decide ((ny : Int) < 2) = false := by simp; omega
    obtain ⟨L, hL⟩ : ∃ L, later % 50 = L := ⟨_, rfl⟩
    have L0 : 0 ≤ L := by omega
    have L1 : L < 50 := by omega
    have HPL := Lib.hid (fun w => hL ▸ picked_any later 50 (by omega) (by omega) w)
    obtain ⟨ii, hii⟩ : ∃ ii : Nat, nq % (ny : Int) = ii := ⟨(nq % (ny : Int)).toNat, by have := Int.emod_nonneg nq (show (ny : Int) ≠ 0 by omega); omega⟩
    have hin : ii < ny := by have := Int.emod_lt_of_pos nq (show (0 : Int) < ny by omega); omega
    have HPI := Lib.hid (fun w => hii ▸ picked_any nq ny (by omega) (by omega) w)
    obtain ⟨yb, yo, hAy, hyb, hcy⟩ := Y1.out (by rw [HNY.out]; omega)
    subst hAy
    have hil : ii < ps.length := by rw [HNY.out]; exact hin
    have h0l : 0 < ps.length := by rw [HNY.out]; omega
    have a0 := RowE.at hcy ii 0 hil (by decide)
    have a1 := RowE.at hcy ii 1 hil (by decide)
    have a2 := RowE.at hcy ii 2 hil (by decide)
    have a3 := RowE.at hcy ii 3 hil (by decide)
    have c0 := RowE.at hcy 0 0 h0l (by decide)
    have c1 := RowE.at hcy 0 1 h0l (by decide)
    have c2 := RowE.at hcy 0 2 h0l (by decide)
    have c3 := RowE.at hcy 0 3 h0l (by decide)
    have hX := PK.out.less ii hil
    have hY := PK.out.less 0 h0l
    have hord : ps[0].1 ≤ ps[ii].1 := by
      by_cases e0 : ii = 0
      · subst e0; exact Int.le_refl _
      · exact List.pairwise_iff_getElem.1 PK.out.up 0 ii h0l hil (by omega)
    obtain ⟨⟨tx, sx⟩, hx⟩ : ∃ p, ps[ii] = p := ⟨_, rfl⟩
    obtain ⟨⟨ty, sy⟩, hy⟩ : ∃ p, ps[0] = p := ⟨_, rfl⟩
    rw [hx] at a0 a1 a2 a3 hX hord
    rw [hy] at c0 c1 c2 c3 hY hord
    simp only [wayE, List.getElem?_cons_zero, List.getElem?_cons_succ] at a0 a1 a2 a3 c0 c1 c2 c3
    simp only at hX hY hord
    obtain ⟨s0, s1, s2, s3, s4, hrest⟩ := hX
    clear hrest
    obtain ⟨r0, r1, r2, r3, r4, hrest⟩ := hY
    clear hrest
    have z0 : W1.cell? ⟨yb, yo + ii * 4, none⟩ = some (.int .i64 0) := a0
    have z1 : W1.cell? ⟨yb, yo + ii * 4 + 1, none⟩ = some (.int .i64 tx) := a1
    have z2 : W1.cell? ⟨yb, yo + ii * 4 + 2, none⟩ = some (.int .i64 sx) := a2
    have z3 : W1.cell? ⟨yb, yo + ii * 4 + 3, none⟩ = some (.slice none 0 0) := a3
    have v0 : W1.cell? ⟨yb, yo, none⟩ = some (.int .i64 0) := by simpa using c0
    have v1 : W1.cell? ⟨yb, yo + 1, none⟩ = some (.int .i64 ty) := by simpa using c1
    have v2 : W1.cell? ⟨yb, yo + 2, none⟩ = some (.int .i64 sy) := by simpa using c2
    have v3 : W1.cell? ⟨yb, yo + 3, none⟩ = some (.slice none 0 0) := by simpa using c3
    have hinI : (ii : Int) < (ny : Int) := by omega
    have hny0 : (0 : Int) < (ny : Int) := by omega
    have hny1 : 0 < ny := by omega
    have hii0 : (0 : Int) ≤ (ii : Int) := by omega
    clear a0 a1 a2 a3 c0 c1 c2 c3 hcy hx hy hii hL hil h0l
    go_wp2_with fail
    refine (HPL.out _).mono ?_
    rintro e w' ⟨rfl, rfl⟩
    go_upto_region 5 with (fail)
    go_cut [11, 12] from 40 to 49 (fun u v wx => ∃ bx by_ : Nat, u = .pointer (some ⟨bx, 0, none⟩) ∧ v = .pointer (some ⟨by_, 0, none⟩) ∧ Hid (wx.heap[bx]? = some (.cells #[.int .i64 0, .int .i64 tx, .int .i64 sx, .slice none 0 0] 41 (0, 0))) ∧ Hid (wx.heap[by_]? = some (.cells #[.int .i64 0, .int .i64 ty, .int .i64 sy, .slice none 0 0] 41 (0, 0))) ∧ Hid (Below W1.heap.size W1 wx))
    case first =>
      have e0 := World.new_ne W1 _ z0
      have e1 := World.new_ne W1 _ z1
      have e2 := World.new_ne W1 _ z2
      have e3 := World.new_ne W1 _ z3
      have f0 := World.new_ne W1 _ v0
      have f1 := World.new_ne W1 _ v1
      have f2 := World.new_ne W1 _ v2
      have f3 := World.new_ne W1 _ v3
      go_region_held3 (fun w' => w'.cell? ⟨yb, yo + ii * 4, none⟩ = some (.int .i64 0) ∧ w'.cell? ⟨yb, yo + ii * 4 + 1, none⟩ = some (.int .i64 tx) ∧ w'.cell? ⟨yb, yo + ii * 4 + 2, none⟩ = some (.int .i64 sx) ∧ w'.cell? ⟨yb, yo + ii * 4 + 3, none⟩ = some (.slice none 0 0) ∧ w'.cell? ⟨yb, yo, none⟩ = some (.int .i64 0) ∧ w'.cell? ⟨yb, yo + 1, none⟩ = some (.int .i64 ty) ∧ w'.cell? ⟨yb, yo + 2, none⟩ = some (.int .i64 sy) ∧ w'.cell? ⟨yb, yo + 3, none⟩ = some (.slice none 0 0)) (go_keep)
        (first
          | ((go_at_call 19; refine (HPI.out _).mono ?_; rintro e w' ⟨rfl, rfl⟩)))
      all_goals
        go_wp2_with fail
        go_meet
        first
          | exact ⟨_, _, rfl, rfl, two_at1 W1 _ _ _ _, two_at2 W1 _ _ _ _ _ rfl, two_at0 W1 _ _ _ _⟩
          | exact ⟨_, _, rfl, rfl, two_at2 W1 _ _ _ _ _ rfl, two_at1 W1 _ _ _ _, two_at0 W1 _ _ _ _⟩
    case rest =>
    obtain ⟨bx, by_, rfl, rfl, FX, FY, BC⟩ := hcut
    have n150 : mtB (100 + L) := ⟨by omega, by omega⟩
    have F3 := Lib.hid ((BC.out.block _ (lt_of_block F1.out)).trans F1.out)
    have B3 := Lib.hid (B1.out.trans (BC.out.mono B1.out.size))
    obtain ⟨M, hM⟩ : ∃ M, min sy (fl - sx) = M := ⟨_, rfl⟩
    have hmA : (if sy < fl - sx then sy else fl - sx) = M := by split <;> omega
    have hmB : (if fl - sx < sy then fl - sx else sy) = M := by split <;> omega
    have hm0 : 0 ≤ M := by omega
    have hm1 : M ≤ fl - sx := by omega
    clear hM
    by_cases ss : si < tx
    · obtain ⟨H, hH⟩ : ∃ H, max (wd / 2) 200 = H := ⟨_, rfl⟩
      have hh0 : 200 ≤ H := by omega
      have hh1 : H ≤ 1099511627776 := by omega
      have hx1 : (if wd / 2 < 200 then 200 else wd / 2) = H := by split <;> omega
      have hx2 : (if 200 < wd / 2 then wd / 2 else 200) = H := by split <;> omega
      have HX := Lib.hid (fun w => paLost_any wd th fl si sx tx (100 + L) ⟨by omega, by omega⟩ w)
      rw [paL_new PK.out.ok ⟨by omega, by omega⟩ ⟨by omega, by omega⟩ n150 (by omega) ss, hH, show max (100 + L) tx = 100 + L by omega] at HX
      have hfq := paF_yes (wd := H) (th := H) (fl := fl - sx) (si := 100 + L) hh0 hh1 ⟨by omega, by omega⟩ ⟨by omega, by omega⟩ (by omega) (by omega)
      have HY := Lib.hid (fun w => paLost_any H H (fl - sx) (100 + L) M ty (100 + L) ⟨by omega, by omega⟩ w)
      rw [paL_old hfq ⟨by omega, by omega⟩ ⟨by omega, by omega⟩ n150 hm1 (by omega)] at HY
      have t1 : decide (si < tx) = true := by simp [ss]
      unfold paR paV at HX HY
      clear hH hfq ss n150
      obtain ⟨q0, q1, q2, q3, qf⟩ := bk4 F3.out
      obtain ⟨x0, x1, x2, x3, xf⟩ := bk4 FX.out
      go_wp2_with fail
      refine (HX.out _).mono ?_
      rintro e4 w4 ⟨rfl, b4⟩
      have X4 := Lib.hid (b4.alloc b4.size (.cells #[.int .i64 H, .int .i64 H, .int .i64 (fl - sx), .int .i64 (100 + L)] 23))
      have G4 := Lib.hid (heap_alloc_new w4 (.cells #[.int .i64 H, .int .i64 H, .int .i64 (fl - sx), .int .i64 (100 + L)] 23))
      have B4 := Lib.hid (B3.out.trans (X4.out.mono B3.out.size))
      have F4 := Lib.hid ((X4.out.block _ (lt_of_block F3.out)).trans F3.out)
      have FX4 := Lib.hid ((X4.out.block _ (lt_of_block FX.out)).trans FX.out)
      have FY4 := Lib.hid ((X4.out.block _ (lt_of_block FY.out)).trans FY.out)
      clear b4 X4 q0 q1 q2 q3 qf x0 x1 x2 x3 xf
      go_upto_region 7 with (fail)
      obtain ⟨Q, hQ⟩ : ∃ Q, w4.heap.size = Q := ⟨_, rfl⟩
      obtain ⟨W4, hW4⟩ : ∃ W, w4.alloc (.cells #[.int .i64 H, .int .i64 H, .int .i64 (fl - sx), .int .i64 (100 + L)] 23) = W := ⟨_, rfl⟩
      rw [hW4] at B4 F4 FX4 FY4 G4
      rw [hQ] at G4
      try rw [hW4]
      try rw [hQ]
      clear hW4 hQ
      obtain ⟨g0, g1, g2, g3, gf⟩ := bk4 G4.out
      obtain ⟨y0, y1', y2', y3, yf⟩ := bk4 FY4.out
      go_wp2_with fail
      refine (HY.out _).mono ?_
      rintro e5 w5 ⟨rfl, b5⟩
      have X5 := Lib.hid (b5.alloc b5.size (.cells #[.int .i64 H, .int .i64 H, .int .i64 (fl - sx - M), .int .i64 (100 + L)] 23))
      have G5 := Lib.hid (heap_alloc_new w5 (.cells #[.int .i64 H, .int .i64 H, .int .i64 (fl - sx - M), .int .i64 (100 + L)] 23))
      have B5 := Lib.hid (B4.out.trans (X5.out.mono B4.out.size))
      have F5 := Lib.hid ((X5.out.block _ (lt_of_block F4.out)).trans F4.out)
      have FX5 := Lib.hid ((X5.out.block _ (lt_of_block FX4.out)).trans FX4.out)
      have Q5 := Lib.hid ((X5.out.block _ (lt_of_block G4.out)).trans G4.out)
      clear b5 X5 g0 g1 g2 g3 gf y0 y1' y2' y3 yf
      go_upto_region 8 with (fail)
      obtain ⟨R, hR⟩ : ∃ Q, w5.heap.size = Q := ⟨_, rfl⟩
      obtain ⟨W5, hW5⟩ : ∃ W, w5.alloc (.cells #[.int .i64 H, .int .i64 H, .int .i64 (fl - sx - M), .int .i64 (100 + L)] 23) = W := ⟨_, rfl⟩
      rw [hW5] at B5 F5 FX5 Q5 G5
      rw [hR] at G5
      try rw [hW5]
      try rw [hR]
      clear hW5 hR
      obtain ⟨q0, q1, q2, q3, qf⟩ := bk4 F5.out
      obtain ⟨x0, x1, x2, x3, xf⟩ := bk4 FX5.out
      obtain ⟨g0, g1, g2, g3, gf⟩ := bk4 Q5.out
      obtain ⟨u0, u1, u2, u3, uf⟩ := bk4 G5.out
      go_wp2_with fail
      go_ret
      exact ⟨by first | rfl | simp, B5.out⟩
    · have HX := Lib.hid (fun w => paLost_any wd th fl si sx tx (100 + L) ⟨by omega, by omega⟩ w)
      rw [paL_old PK.out.ok ⟨by omega, by omega⟩ ⟨by omega, by omega⟩ n150 (by omega) (by omega)] at HX
      have hfq := paF_yes (wd := wd) (th := th) (fl := fl - sx) (si := si) k0 k1 k2 ⟨by omega, by omega⟩ k4 k5
      have HY := Lib.hid (fun w => paLost_any wd th (fl - sx) si M ty (100 + L) ⟨by omega, by omega⟩ w)
      rw [paL_old hfq ⟨by omega, by omega⟩ ⟨by omega, by omega⟩ n150 hm1 (by omega)] at HY
      have t1 : decide (si < tx) = false := by simp; omega
      have t2 : decide (tx ≤ si) = true := by simp; omega
      unfold paR paV at HX HY
      clear hfq n150
      obtain ⟨q0, q1, q2, q3, qf⟩ := bk4 F3.out
      obtain ⟨x0, x1, x2, x3, xf⟩ := bk4 FX.out
      go_wp2_with fail
      refine (HX.out _).mono ?_
      rintro e4 w4 ⟨rfl, b4⟩
      have X4 := Lib.hid (b4.alloc b4.size (.cells #[.int .i64 wd, .int .i64 th, .int .i64 (fl - sx), .int .i64 si] 23))
      have G4 := Lib.hid (heap_alloc_new w4 (.cells #[.int .i64 wd, .int .i64 th, .int .i64 (fl - sx), .int .i64 si] 23))
      have B4 := Lib.hid (B3.out.trans (X4.out.mono B3.out.size))
      have F4 := Lib.hid ((X4.out.block _ (lt_of_block F3.out)).trans F3.out)
      have FX4 := Lib.hid ((X4.out.block _ (lt_of_block FX.out)).trans FX.out)
      have FY4 := Lib.hid ((X4.out.block _ (lt_of_block FY.out)).trans FY.out)
      clear b4 X4 q0 q1 q2 q3 qf x0 x1 x2 x3 xf
      go_upto_region 7 with (fail)
      obtain ⟨Q, hQ⟩ : ∃ Q, w4.heap.size = Q := ⟨_, rfl⟩
      obtain ⟨W4, hW4⟩ : ∃ W, w4.alloc (.cells #[.int .i64 wd, .int .i64 th, .int .i64 (fl - sx), .int .i64 si] 23) = W := ⟨_, rfl⟩
      rw [hW4] at B4 F4 FX4 FY4 G4
      rw [hQ] at G4
      try rw [hW4]
      try rw [hQ]
      clear hW4 hQ
      obtain ⟨g0, g1, g2, g3, gf⟩ := bk4 G4.out
      obtain ⟨y0, y1', y2', y3, yf⟩ := bk4 FY4.out
      go_wp2_with fail
      refine (HY.out _).mono ?_
      rintro e5 w5 ⟨rfl, b5⟩
      have X5 := Lib.hid (b5.alloc b5.size (.cells #[.int .i64 wd, .int .i64 th, .int .i64 (fl - sx - M), .int .i64 si] 23))
      have G5 := Lib.hid (heap_alloc_new w5 (.cells #[.int .i64 wd, .int .i64 th, .int .i64 (fl - sx - M), .int .i64 si] 23))
      have B5 := Lib.hid (B4.out.trans (X5.out.mono B4.out.size))
      have F5 := Lib.hid ((X5.out.block _ (lt_of_block F4.out)).trans F4.out)
      have FX5 := Lib.hid ((X5.out.block _ (lt_of_block FX4.out)).trans FX4.out)
      have Q5 := Lib.hid ((X5.out.block _ (lt_of_block G4.out)).trans G4.out)
      clear b5 X5 g0 g1 g2 g3 gf y0 y1' y2' y3 yf
      go_upto_region 8 with (fail)
      obtain ⟨R, hR⟩ : ∃ Q, w5.heap.size = Q := ⟨_, rfl⟩
      obtain ⟨W5, hW5⟩ : ∃ W, w5.alloc (.cells #[.int .i64 wd, .int .i64 th, .int .i64 (fl - sx - M), .int .i64 si] 23) = W := ⟨_, rfl⟩
      rw [hW5] at B5 F5 FX5 Q5 G5
      rw [hR] at G5
      try rw [hW5]
      try rw [hR]
      clear hW5 hR
      obtain ⟨q0, q1, q2, q3, qf⟩ := bk4 F5.out
      obtain ⟨x0, x1, x2, x3, xf⟩ := bk4 FX5.out
      obtain ⟨g0, g1, g2, g3, gf⟩ := bk4 Q5.out
      obtain ⟨u0, u1, u2, u3, uf⟩ := bk4 G5.out
      go_wp2_with fail
      go_ret
      exact ⟨by first | rfl | simp, B5.out⟩
end Go.Proofs.Ytlafjladlkbnoaa
