/- The walk of PaceSum. -/
import Derived.Test.YtlafjladlkbnoaaPaced
namespace Go.Proofs.Ytlafjladlkbnoaa
set_option linter.unusedVariables false
open Go.RowKit P

set_option maxRecDepth 100000 in
set_option maxHeartbeats 2000000 in
theorem paceSum_walk (A : Option Addr) (len cap : Nat) (rs : List RawT) (w : World) (h : RawRow w w.heap.size A rs) (hl : rs.length = len) (hlc : len ≤ cap) (hcm : cap ≤ maxLen) :
    Calls Try.prog 6 #[.slice A len cap] w fun e w' => e = .returned (.bool true) ∧ Below w.heap.size w w' := by
  have HP := Lib.hid (paced_any A len cap rs w h hl hlc hcm)
  clear h hl hlc hcm
  go_enter Try.func6, Try.ntmps6
  go_wp2_with fail
  refine HP.out.mono ?_
  rintro e w1 ⟨wd, th, fl, si, nw, ps, Ay, cy, rfl, pk, hn, hp, y1, y2, yr, b1⟩
  have PK := Lib.hid pk
  have hsum := sumW_nn pk.sz
  rw [← pk.sum] at hsum
  obtain ⟨k0, k1, k2, k3, k4, k5⟩ := paF_ok pk.ok
  have HH := Lib.hid (fun w => paHeard_any wd th fl si (fl + 1) 0 ⟨by omega, by omega⟩ w)
  rw [paH_no pk.ok ⟨by omega, by omega⟩ ⟨by omega, by omega⟩ (by omega)] at HH
  have HC := Lib.hid (fun w => paCheck_any wd th fl si ⟨by omega, by omega⟩ w)
  rw [pk.ok] at HC
  unfold paR paV at HH
  unfold paV at HC
  have X1 := Lib.hid ((Below.refl w1.heap.size w1).alloc (Nat.le_refl _) (.cells #[.int .i64 wd, .int .i64 th, .int .i64 fl, .int .i64 si] 23))
  have B1 := Lib.hid (b1.trans (X1.out.mono b1.size))
  have F1 := Lib.hid (heap_alloc_new w1 (.cells #[.int .i64 wd, .int .i64 th, .int .i64 fl, .int .i64 si] 23))
  have Y1 := Lib.hid (yr.on X1.out)
  obtain ⟨ny, hny⟩ : ∃ n, ps.length = n := ⟨_, rfl⟩
  have HNY := Lib.hid hny
  have e200 : decide (200 ≤ wd) = true := by simp; omega
  have SM := Lib.hid pk.sum
  have SZ := Lib.hid pk.sz
  rw [hny] at hp y1 ⊢
  rw [hny] at hsum
  unfold maxLen at y2
  clear b1 yr pk hny k2 k3
  go_wp2_with fail
  obtain ⟨V, hV⟩ : ∃ V, w1.heap.size = V := ⟨_, rfl⟩
  rw [hV] at F1
  try rw [hV]
  obtain ⟨W1, hW1⟩ : ∃ W, w1.alloc (.cells #[.int .i64 wd, .int .i64 th, .int .i64 fl, .int .i64 si] 23) = W := ⟨_, rfl⟩
  clear X1
  rw [hW1] at B1 F1 Y1 ⊢
  clear hW1 hV
  go_loopg [6, 19] ny (fun gq sv iv wr => ∃ (k : Nat), iv = .int .i64 k ∧ sv = .int .i64 (sumW (ps.take k)) ∧ k + gq = ny ∧ Hid (Below W1.heap.size W1 wr))
  case atStart => exact ⟨0, rfl, by rw [List.take_zero]; rfl, by omega, Lib.hid (Below.refl _ _)⟩
  case round =>
    obtain ⟨k, rfl, rfl, hkg, BK⟩ := hrel
    obtain ⟨sk, hsk⟩ : ∃ s, sumW (ps.take k) = s := ⟨_, rfl⟩
    have HSK := Lib.hid hsk
    have FK := Lib.hid ((BK.out.block _ (lt_of_block F1.out)).trans F1.out)
    rw [hsk]
    have hb0 := (sumW_nn (ps := ps.take k) (fun x hx => SZ.out x (List.mem_of_mem_take hx)))
    rw [hsk, List.length_take] at hb0
    clear hsk
    by_cases hlt : k < ny
    · obtain ⟨yb, yo, hAy, hyb, hcy⟩ := (Y1.out.on BK.out) (by rw [HNY.out]; omega)
      subst hAy
      have hil : k < ps.length := by rw [HNY.out]; exact hlt
      have a0 := RowE.at hcy k 0 hil (by decide)
      have a1 := RowE.at hcy k 1 hil (by decide)
      have a2 := RowE.at hcy k 2 hil (by decide)
      have a3 := RowE.at hcy k 3 hil (by decide)
      have hz := SZ.out ps[k] (List.getElem_mem hil)
      have hst : sumW (ps.take (k + 1)) = sk + ps[k].2 := by
        rw [List.take_succ_eq_append_getElem hil, sumW_app, HSK.out]; simp [sumW]
      obtain ⟨⟨tx, sx⟩, hx⟩ : ∃ p, ps[k] = p := ⟨_, rfl⟩
      rw [hx] at a0 a1 a2 a3 hz hst
      simp only [wayE, List.getElem?_cons_zero, List.getElem?_cons_succ] at a0 a1 a2 a3
      simp only at hz hst
      have z0 : wr.cell? ⟨yb, yo + k * 4, none⟩ = some (.int .i64 0) := a0
      have z1 : wr.cell? ⟨yb, yo + k * 4 + 1, none⟩ = some (.int .i64 tx) := a1
      have z2 : wr.cell? ⟨yb, yo + k * 4 + 2, none⟩ = some (.int .i64 sx) := a2
      have z3 : wr.cell? ⟨yb, yo + k * 4 + 3, none⟩ = some (.slice none 0 0) := a3
      have HST := Lib.hid hst
      have hkI : (k : Int) < (ny : Int) := by omega
      have BX := Lib.hid (BK.out.alloc BK.out.size (.cells #[.int .i64 0, .int .i64 tx, .int .i64 sx, .slice none 0 0] 41))
      clear a0 a1 a2 a3 hcy hx hst hil
      go_wp2_with fail
      go_roundg (gk - 1)
      case measure => omega
      case rel => exact ⟨k + 1, by first | rfl | go_num, by rw [HST.out], by omega, BX⟩
    · have hkn : k = ny := by omega
      have hs : sk = fl := by rw [← HSK.out, SM.out, hkn, ← HNY.out, List.take_length]
      subst hkn
      subst hs
      obtain ⟨q0, q1, q2, q3, qf⟩ := bk4 FK.out
      go_wp2_with fail
      refine (HH.out _).mono ?_
      rintro e2 w2 ⟨rfl, b2⟩
      have X2 := Lib.hid (b2.alloc b2.size (.cells #[.int .i64 0, .int .i64 0, .int .i64 0, .int .i64 0] 23))
      have F2 := Lib.hid ((X2.out.block _ (lt_of_block FK.out)).trans FK.out)
      have B2 := Lib.hid (B1.out.trans ((BK.out.trans (X2.out.mono BK.out.size)).mono B1.out.size))
      clear b2 q0 q1 q2 q3 qf
      obtain ⟨q0, q1, q2, q3, qf⟩ := bk4 F2.out
      go_wp2_with fail
      refine (HC.out _).mono ?_
      rintro e3 w3 ⟨rfl, b3⟩
      have B3 := Lib.hid (B2.out.trans (b3.mono B2.out.size))
      have F3 := Lib.hid ((b3.block _ (lt_of_block F2.out)).trans F2.out)
      clear b3 q0 q1 q2 q3 qf
      obtain ⟨q0, q1, q2, q3, qf⟩ := bk4 F3.out
      go_wp2_with fail
      go_ret
      exact ⟨by first | rfl | simp, B3.out⟩
end Go.Proofs.Ytlafjladlkbnoaa
