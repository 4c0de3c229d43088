/- The walk of PaceGrows. -/
import Derived.Test.YtlafjladlkbnoaaPaYes
import Derived.Test.YtlafjladlkbnoaaIRow
namespace Go.Proofs.Ytlafjladlkbnoaa
set_option linter.unusedVariables false
open Go.RowKit P

set_option maxRecDepth 100000 in
set_option maxHeartbeats 2000000 in
theorem paceGrows_walk (a0 : Option Addr) (len0 cap0 : Nat) (z0 : List Int) (a1 : Int) (w : World) (h0 : IsRow .i64 w a0 len0 cap0 z0) :
    Calls Try.prog 8 #[.slice a0 len0 cap0, .int .i64 a1] w fun e w' => e = .returned (.bool true) ∧ Below w.heap.size w w' := by
  obtain ⟨hrow, hlc, hcm⟩ := IRowN.of h0
  have HROW := Lib.hid hrow
  have HB := Lib.hid (fun w => paBegin_any w)
  obtain ⟨T, hT⟩ : ∃ T, a1 % 900 = T := ⟨_, rfl⟩
  have t0 : 0 ≤ T := by omega
  have t1 : T < 900 := by omega
  have HPT := Lib.hid (fun w => hT ▸ picked_any a1 900 (by omega) (by omega) w)
  obtain ⟨L, hL⟩ : ∃ L, min len0 20 = L := ⟨_, rfl⟩
  have hmn : (if (20 : Int) < (len0 : Int) then 20 else (len0 : Int)) = (L : Int) := by split <;> omega
  have hLl : L ≤ len0 := by omega
  have hL20 : L ≤ 20 := by omega
  unfold maxLen at hcm
  unfold paV at HB
  clear hrow h0 hL hT
  go_enter Try.func8, Try.ntmps8
  go_wp2_with fail
  refine (HB.out _).mono ?_
  rintro e w1 ⟨rfl, b1⟩
  have B1 := Lib.hid (b1.alloc b1.size (.cells #[.int .i64 400, .int .i64 T, .int .i64 0, .int .i64 (-1)] 23))
  have F1 := Lib.hid (heap_alloc_new w1 (.cells #[.int .i64 400, .int .i64 T, .int .i64 0, .int .i64 (-1)] 23))
  have hVw : w.heap.size ≤ w1.heap.size := b1.size
  clear b1 HB
  go_wp2_with fail
  refine (HPT.out _).mono ?_
  rintro e w' ⟨rfl, rfl⟩
  go_wp2_with fail
  obtain ⟨V, hV⟩ : ∃ V, w1.heap.size = V := ⟨_, rfl⟩
  rw [hV] at hVw F1
  try rw [hV]
  obtain ⟨W1, hW1⟩ : ∃ W, w1.alloc (.cells #[.int .i64 400, .int .i64 T, .int .i64 0, .int .i64 (-1)] 23) = W := ⟨_, rfl⟩
  rw [hW1] at B1 F1 ⊢
  clear hW1 hV
  go_loopg [27] L (fun gq iv wr => ∃ (kk : Nat) (wd : Int), iv = .int .i64 kk ∧ kk + gq = L ∧ 400 ≤ wd ∧ wd ≤ 400 + 200 * kk ∧ Hid (Below w.heap.size w wr) ∧ Hid (wr.heap[V]? = some (.cells #[.int .i64 wd, .int .i64 T, .int .i64 0, .int .i64 (-1)] 23 (0, 0))))
  case atStart => exact ⟨0, 400, rfl, by omega, by omega, by omega, B1, F1⟩
  case round =>
    obtain ⟨kk, wd, rfl, hkg, d0, d1, BX, FX⟩ := hrel
    clear B1 F1
    obtain ⟨X, hX⟩ : ∃ X, X = wr := ⟨_, rfl⟩
    subst hX
    have hf := paF_yes (wd := wd) (th := T) (fl := 0) (si := -1) (by omega) (by omega) ⟨t0, by omega⟩ ⟨by omega, by omega⟩ (by omega) (by omega)
    obtain ⟨q0, q1, q2, q3, qf⟩ := bk4 FX.out
    by_cases hk : kk < L
    · obtain ⟨bR, o, hA, hb0, hc⟩ := HROW.out.cells (by omega)
      subst hA
      have x0 := (BX.out.cell (p := ⟨bR, o + kk, none⟩) hb0).trans (hc kk (by omega))
      obtain ⟨z, hzz⟩ : ∃ z, z0.getD kk 0 = z := ⟨_, rfl⟩
      rw [hzz] at x0
      have hkL : (kk : Int) < (L : Int) := by omega
      obtain ⟨n, hn⟩ : ∃ n, z % 200 = n := ⟨_, rfl⟩
      have m0 : 0 ≤ n := by omega
      have m1 : n < 200 := by omega
      have HPN := Lib.hid (fun w => hn ▸ picked_any z 200 (by omega) (by omega) w)
      have hs := paS_yes (n := n) hf ⟨by omega, by omega⟩ (by omega)
      have hf2 := paF_yes (wd := wd) (th := T) (fl := 0 + n) (si := -1) (by omega) (by omega) ⟨t0, by omega⟩ ⟨by omega, by omega⟩ (by omega) (by omega)
      have hh := paH_new (n := n) (t := kk) hf2 ⟨by omega, by omega⟩ ⟨by omega, by omega⟩ (by omega) (by omega)
      obtain ⟨g0, g1⟩ := paG_in (wd := wd) (th := T) (n := n) (by omega) m0
      obtain ⟨G, hG⟩ : ∃ G, paG wd T n = G := ⟨_, rfl⟩
      rw [hG] at hh g0 g1
      rw [show min (wd + G) 1099511627776 = wd + G by omega, show 0 + n - n = 0 by omega] at hh
      rw [show 0 + n = n by omega] at hs hh
      obtain ⟨W, hW⟩ : ∃ W, wd + G = W := ⟨_, rfl⟩
      rw [hW] at hh
      have w0 : wd ≤ W := by omega
      have w1' : W ≤ wd + n := by omega
      have e1 : decide (W < wd) = false := by simp; omega
      have e2 : decide (wd + n < W) = false := by simp; omega
      have HS := Lib.hid (fun w => paSend_any wd T 0 (-1) n ⟨by decide, by decide⟩ w)
      have HH := Lib.hid (fun w => paHeard_any wd T n (-1) n kk ⟨by decide, by decide⟩ w)
      rw [hs] at HS
      rw [hh] at HH
      unfold paSR at HS
      unfold paR at HH
      unfold paV at HS HH
      clear hc hzz hn hs hh hG hW hf hf2 g0 g1
      go_wp2_with fail
      refine (HPN.out _).mono ?_
      rintro e w' ⟨rfl, rfl⟩
      go_wp2_with fail
      refine (HS.out _).mono ?_
      rintro e2 w2 ⟨rfl, b2⟩
      have X2 := Lib.hid ((Below.refl w2.heap.size w2).alloc (Nat.le_refl _) (.cells #[.int .i64 wd, .int .i64 T, .int .i64 n, .int .i64 (-1)] 23))
      have G2 := Lib.hid (heap_alloc_new w2 (.cells #[.int .i64 wd, .int .i64 T, .int .i64 n, .int .i64 (-1)] 23))
      have D2 := Lib.hid (BX.out.trans (b2.mono BX.out.size))
      have B2 := Lib.hid (D2.out.trans (X2.out.mono D2.out.size))
      have F2 := Lib.hid ((X2.out.block _ (Nat.lt_of_lt_of_le (lt_of_block FX.out) b2.size)).trans ((b2.block _ (lt_of_block FX.out)).trans FX.out))
      clear b2 q0 q1 q2 q3 qf
      obtain ⟨q0, q1, q2, q3, qf⟩ := bk4 F2.out
      go_wp2_with fail
      refine (HH.out _).mono ?_
      rintro e3 w3 ⟨rfl, b3⟩
      have X3 := Lib.hid ((Below.refl w3.heap.size w3).alloc (Nat.le_refl _) (.cells #[.int .i64 W, .int .i64 T, .int .i64 0, .int .i64 (-1)] 23))
      have G3 := Lib.hid (heap_alloc_new w3 (.cells #[.int .i64 W, .int .i64 T, .int .i64 0, .int .i64 (-1)] 23))
      have D3 := Lib.hid (B2.out.trans (b3.mono B2.out.size))
      have B3 := Lib.hid (D3.out.trans (X3.out.mono D3.out.size))
      have F3 := Lib.hid ((X3.out.block _ (Nat.lt_of_lt_of_le (lt_of_block F2.out) b3.size)).trans ((b3.block _ (lt_of_block F2.out)).trans F2.out))
      clear b3 q0 q1 q2 q3 qf
      obtain ⟨q0, q1, q2, q3, qf⟩ := bk4 F3.out
      go_wp2_with fail
      obtain ⟨_, _, _, _, F4, gp⟩ := bk4_put F3.out (.int .i64 W) (.int .i64 T) (.int .i64 0) (.int .i64 (-1))
      have F5 := Lib.hid F4
      have B5 := Lib.hid (gr_from B3.out B3.out.size hVw gp)
      clear F4 gp
      go_roundg (gk - 1)
      case measure => omega
      case rel => exact ⟨kk + 1, W, by first | rfl | go_num, by omega, by omega, by omega, B5, F5⟩
    · have hkN : kk = L := by omega
      have hs := paS_no (n := wd + 1) hf ⟨by omega, by omega⟩ (by omega)
      have HS := Lib.hid (fun w => paSend_any wd T 0 (-1) (wd + 1) ⟨by decide, by decide⟩ w)
      rw [hs] at HS
      unfold paSR paV at HS
      have e1 : decide (400 ≤ wd) = true := by simp; omega
      subst hkN
      clear hs hf
      go_wp2_with fail
      refine (HS.out _).mono ?_
      rintro e2 w2 ⟨rfl, b2⟩
      have X2 := Lib.hid ((Below.refl w2.heap.size w2).alloc (Nat.le_refl _) (.cells #[.int .i64 wd, .int .i64 T, .int .i64 0, .int .i64 (-1)] 23))
      have D2 := Lib.hid (BX.out.trans (b2.mono BX.out.size))
      have B2 := Lib.hid (D2.out.trans (X2.out.mono D2.out.size))
      have F2 := Lib.hid ((X2.out.block _ (Nat.lt_of_lt_of_le (lt_of_block FX.out) b2.size)).trans ((b2.block _ (lt_of_block FX.out)).trans FX.out))
      clear b2 q0 q1 q2 q3 qf
      obtain ⟨q0, q1, q2, q3, qf⟩ := bk4 F2.out
      go_wp2_with fail
      go_ret
      exact ⟨by first | rfl | simp, B2.out⟩
end Go.Proofs.Ytlafjladlkbnoaa
