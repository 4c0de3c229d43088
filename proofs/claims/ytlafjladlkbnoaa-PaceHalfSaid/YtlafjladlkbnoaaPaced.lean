/- The walk of 'paced': a pace to which raw things happened. -/
import Derived.Test.YtlafjladlkbnoaaPaWay
import Derived.Deep.CutRange
namespace Go.Proofs.Ytlafjladlkbnoaa
set_option linter.unusedVariables false
open Go.RowKit P

theorem infoPcl : (Try.prog.info? 41).map (fun i => (i.zero, i.size, i.bytes)) = some (some (.agg #[.int .i64 0, .int .i64 0, .int .i64 0, .slice none 0 0]), 4, 48) := by kernel_rfl
set_option maxRecDepth 100000 in
set_option maxHeartbeats 4000000 in
theorem paced_any (A : Option Addr) (len cap : Nat) (rs : List RawT) (w : World) (h : RawRow w w.heap.size A rs) (hl : rs.length = len) (hlc : len ≤ cap) (hcm : cap ≤ maxLen) :
    Calls Try.prog 18 #[.slice A len cap] w (PacedPost w) := by
  obtain ⟨i0, hi0, hz0, hz1, hz2⟩ := info_partsE infoPcl
  have HI := Lib.hid hi0; have HZ := Lib.hid hz0; have HZ1 := Lib.hid hz1; have HZ2 := Lib.hid hz2
  clear hi0 hz0 hz1 hz2
  have HR := Lib.hid h
  have HLN := Lib.hid hl
  obtain ⟨N, hN⟩ : ∃ N, min len 30 = N := ⟨_, rfl⟩
  have n1 : N ≤ 30 := by omega
  have n2 : N ≤ len := by omega
  have HSM := Lib.hid (fun w => some30 A len cap w hlc hcm)
  rw [hN] at HSM
  have hcm' := hcm
  unfold maxLen at hcm'
  have HB := Lib.hid (fun w => paBegin_any w)
  unfold paV at HB
  have Z0 := Lib.hid (heap_alloc_new w (.cells #[.int .i64 0, .int .i64 0, .int .i64 0, .int .i64 0] 23))
  clear h hl hN hcm
  go_enter Try.func18, Try.ntmps18
  go_wp2_with fail
  refine (HB.out _).mono ?_
  rintro e w1 ⟨rfl, b1⟩
  have B0 := Lib.hid ((Below.refl w.heap.size w).alloc (Nat.le_refl _) (.cells #[.int .i64 0, .int .i64 0, .int .i64 0, .int .i64 0] 23))
  have D1 := Lib.hid (B0.out.trans (b1.mono B0.out.size))
  have B1 := Lib.hid (D1.out.alloc D1.out.size (.cells #[.int .i64 400, .int .i64 0, .int .i64 0, .int .i64 (-1)] 23))
  have Z1 := Lib.hid ((Below.heap_alloc w1 (.cells #[.int .i64 400, .int .i64 0, .int .i64 0, .int .i64 (-1)] 23) _ (Nat.lt_of_lt_of_le (lt_of_block Z0.out) b1.size)).trans ((b1.block _ (lt_of_block Z0.out)).trans Z0.out))
  have F1 := Lib.hid (heap_alloc_new w1 (.cells #[.int .i64 400, .int .i64 0, .int .i64 0, .int .i64 (-1)] 23))
  have hVw : w.heap.size < w1.heap.size := Nat.lt_of_lt_of_le (lt_of_block Z0.out) b1.size
  clear b1 HB
  go_wp2_with fail
  refine (HSM.out _).mono ?_
  rintro e w' ⟨rfl, rfl⟩
  go_wp2_with fail
  obtain ⟨V, hV⟩ : ∃ V, w1.heap.size = V := ⟨_, rfl⟩
  rw [hV] at hVw F1
  try rw [hV]
  obtain ⟨W1, hW1⟩ : ∃ W, w1.alloc (.cells #[.int .i64 400, .int .i64 0, .int .i64 0, .int .i64 (-1)] 23) = W := ⟨_, rfl⟩
  rw [hW1] at B1 F1 Z1 ⊢
  clear hW1 hV
  have O1 := Lib.hid (OwnE.nil (E := wayE) W1 (V + 1) 41)
  have P1 := Lib.hid PI.begin
  go_loopg [24, 6, 7, 8] N (fun gq iv yv nv kv wr => ∃ (kk : Nat) (wd th fl si nw : Int) (ps : List (Int × Int)), iv = .int .i64 kk ∧ nv = .int .i64 nw ∧ kv = .bool true ∧ kk + gq = N ∧ 0 ≤ nw ∧ nw ≤ 2 * kk ∧ 0 ≤ fl ∧ fl ≤ 1099511627776 ∧ wd ≤ 1099511627776 ∧ ps.length ≤ kk ∧ Hid (Below w.heap.size w wr) ∧ Hid (wr.heap[w.heap.size]? = some (.cells #[.int .i64 0, .int .i64 0, .int .i64 0, .int .i64 0] 23 (0, 0))) ∧ Hid (wr.heap[V]? = some (.cells #[.int .i64 wd, .int .i64 th, .int .i64 fl, .int .i64 si] 23 (0, 0))) ∧ Hid (OwnE wayE wr (V + 1) 41 yv ps) ∧ Hid (PI wd th fl si nw ps))
  case atStart => exact ⟨0, 400, 0, 0, -1, 0, [], rfl, rfl, rfl, by omega, by omega, by omega, by omega, by omega, by omega, by simp, B1, Z1, F1, O1, P1⟩
  case round =>
    obtain ⟨kk, wd, th, fl, si, nw, ps, rfl, rfl, rfl, hkg, w0, w2, l0, l1, l2, hpl, BK, ZK, FK, OK, PK⟩ := hrel
    clear B1 F1 Z1 O1 P1 B0 D1 Z0
    obtain ⟨X, hX⟩ : ∃ X, X = wr := ⟨_, rfl⟩
    subst hX
    obtain ⟨Ay, cy, hy, y1, y2, yr⟩ := OK.out.slice
    subst hy
    have YR := Lib.hid yr
    obtain ⟨ny, hny⟩ : ∃ n, ps.length = n := ⟨_, rfl⟩
    have HNY := Lib.hid hny
    rw [hny] at hpl y1 OK ⊢
    unfold maxLen at y2
    clear yr hny
    by_cases hlt : kk < N
    · obtain ⟨b, off, hA, hbb, hc⟩ := HR.out (by rw [HLN.out]; omega)
      subst hA
      obtain ⟨c0, c1, c2, c3⟩ := hc kk (by rw [HLN.out]; omega)
      generalize rs.getD kk raw0 = r at c0 c1 c2 c3
      obtain ⟨kd, ra, rb, rt⟩ := r
      simp only at c0 c1 c2 c3
      have x0 := (BK.out.cell (p := ⟨b, off + kk * 4, none⟩) hbb).trans c0
      have x1 := (BK.out.cell (p := ⟨b, off + kk * 4 + 1, none⟩) hbb).trans c1
      have x2 := (BK.out.cell (p := ⟨b, off + kk * 4 + 2, none⟩) hbb).trans c2
      have x3 := (BK.out.cell (p := ⟨b, off + kk * 4 + 3, none⟩) hbb).trans c3
      clear c0 c1 c2 c3 hc
      have hkN : (kk : Int) < (N : Int) := by omega
      obtain ⟨D, hD⟩ : ∃ D, rb % 3 = D := ⟨_, rfl⟩
      have d0 : 0 ≤ D := by omega
      have d1 : D < 3 := by omega
      have HPB := Lib.hid (fun w => hD ▸ picked_any rb 3 (by omega) (by omega) w)
      obtain ⟨K, hK⟩ : ∃ K, kd % 3 = K := ⟨_, rfl⟩
      have HPK := Lib.hid (fun w => hK ▸ picked_any kd 3 (by omega) (by omega) w)
      have PT := Lib.hid (PK.out.tick D d0)
      obtain ⟨T, hT⟩ : ∃ T, nw + D = T := ⟨_, rfl⟩
      have HT := Lib.hid hT
      rw [hT] at PT
      have t0 : 0 ≤ T := by omega
      have t1 : T ≤ 2 * (kk + 1 : Nat) := by omega
      have hwr : IntKind.i64.wrap (nw + D) = T := by rw [IntKind.wrap_i64]; omega
      have XR := Lib.hid ((Below.refl X.heap.size X).alloc (Nat.le_refl _) (.cells #[.int .i64 kd, .int .i64 ra, .int .i64 rb, .string rt] 54))
      have R2 := Lib.hid (heap_alloc_new X (.cells #[.int .i64 kd, .int .i64 ra, .int .i64 rb, .string rt] 54))
      have F2 := Lib.hid ((XR.out.block _ (lt_of_block FK.out)).trans FK.out)
      have Z2 := Lib.hid ((XR.out.block _ (lt_of_block ZK.out)).trans ZK.out)
      have B2 := Lib.hid (BK.out.trans (XR.out.mono BK.out.size))
      have O2 := Lib.hid (OK.out.later XR.out)
      clear hD hK hT
      have hsi : i64B si := ⟨by obtain ⟨_, _, _, _, _, _⟩ := paF_ok PK.out.ok; omega, by obtain ⟨_, _, _, _, _, _⟩ := paF_ok PK.out.ok; omega⟩
      by_cases hK0 : K = 0
      · have gK : (K == 0) = true := by simp [hK0]
        clear hK0
        obtain ⟨n, hn⟩ : ∃ n, ra % 150 = n := ⟨_, rfl⟩
        have m0 : 0 ≤ n := by omega
        have m1 : n < 150 := by omega
        have HPN := Lib.hid (fun w => hn ▸ picked_any ra 150 (by omega) (by omega) w)
        have HS := Lib.hid (fun w => paSend_any wd th fl si n hsi w)
        have FFF := Lib.hid PK.out.ok
        obtain ⟨q0, q1, q2, q3, qf⟩ := bk4 F2.out
        clear hn
        by_cases q : fl + n ≤ wd
        · rw [paS_yes FFF.out ⟨m0, by omega⟩ q] at HS
          have e1 : decide (fl + n ≤ wd) = true := by simp [q]
          have PS := Lib.hid (PT.out.send n m0 m1 q)
          unfold paSR paV at HS
          go_wp2_with fail
          refine (HPB.out _).mono ?_
          rintro e w' ⟨rfl, rfl⟩
          go_wp2_with fail
          refine (HPK.out _).mono ?_
          rintro e w' ⟨rfl, rfl⟩
          go_wp2_with fail
          refine (HPN.out _).mono ?_
          rintro e w' ⟨rfl, rfl⟩
          go_wp2_with fail
          refine (HS.out _).mono ?_
          rintro e3 w3 ⟨rfl, b3⟩
          have X3 := Lib.hid (b3.alloc b3.size (.cells #[.int .i64 wd, .int .i64 th, .int .i64 (fl + n), .int .i64 si] 23))
          have G3 := Lib.hid (heap_alloc_new w3 (.cells #[.int .i64 wd, .int .i64 th, .int .i64 (fl + n), .int .i64 si] 23))
          have B3 := Lib.hid (B2.out.trans (X3.out.mono B2.out.size))
          have F3 := Lib.hid ((X3.out.block _ (lt_of_block F2.out)).trans F2.out)
          have Z3 := Lib.hid ((X3.out.block _ (lt_of_block Z2.out)).trans Z2.out)
          have O3 := Lib.hid (O2.out.later X3.out)
          have hN3 : V < w3.heap.size := Nat.lt_of_lt_of_le (lt_of_block F2.out) b3.size
          have hX3 : X.heap.size ≤ w3.heap.size := Nat.le_trans XR.out.size b3.size
          clear b3
          clear q0 q1 q2 q3 qf
          obtain ⟨q0, q1, q2, q3, qf⟩ := bk4 F3.out
          go_upto_region 14 with (fail)
          clear q0 q1 q2 q3 qf
          obtain ⟨Y, hY⟩ : ∃ W, w3.heap.size = W := ⟨_, rfl⟩
          obtain ⟨W3, hW3⟩ : ∃ W, w3.alloc (.cells #[.int .i64 wd, .int .i64 th, .int .i64 (fl + n), .int .i64 si] 23) = W := ⟨_, rfl⟩
          rw [hW3] at B3 F3 Z3 O3 G3
          rw [hY] at G3 hN3 hX3
          try rw [hW3]
          try rw [hY]
          clear hW3 hY
          have hsz3 : V + 1 ≤ W3.heap.size := lt_of_block F3.out
          obtain ⟨q0, q1, q2, q3, qf⟩ := bk4 F3.out
          obtain ⟨g0, g1, g2, g3', gf⟩ := bk4 G3.out
          have k0 := World.new_ne W3 _ g0
          have k1 := World.new_ne W3 _ g1
          have k2 := World.new_ne W3 _ g2
          have k3 := World.new_ne W3 _ g3'
          go_region_held3 (fun w' => w'.cell? ⟨Y, 0, none⟩ = some (.int .i64 wd) ∧ w'.cell? ⟨Y, 1, none⟩ = some (.int .i64 th) ∧ w'.cell? ⟨Y, 2, none⟩ = some (.int .i64 (fl + n)) ∧ w'.cell? ⟨Y, 3, none⟩ = some (.int .i64 si)) (go_keep)
            (first
              | ((refine step_appE _ (by rfl) (.tmp 71) (.tmp 75) _ (by rfl) (V + 1) 41 i0 _ 48 Try.underlying36 HI.out HZ.out HZ1.out HZ2.out rfl (by omega) _ ps (by rfl) (O3.out.drew.alloc (.cells #[.int .i64 0, .int .i64 T, .int .i64 n, .slice none 0 0] 41)) _ _ 1 1 [(T, n)] (by rfl) (RowE.one W3.drew (T, n) _ 41 _ rfl rfl) rfl (by rw [HNY.out]; omega) (by simp; omega) ?_
                  intro v1 u1 own1 gr1
                  have OX := Lib.hid own1
                  have FX := Lib.hid ((gr1.block V (by simp; omega) (fun e => by have := (O3.out.lt V e.symm).1; omega)).trans ((Below.heap_alloc W3.drew _ V hsz3).trans F3.out))
                  have ZX := Lib.hid ((gr1.block w.heap.size (by simp; omega) (fun e => by have := (O3.out.lt _ e.symm).1; omega)).trans ((Below.heap_alloc W3.drew _ w.heap.size (by have := hsz3; simp; omega)).trans Z3.out))
                  have GX := (gr1.block Y (by simp; have := lt_of_block G3.out; omega) (fun e => by have := (OK.out.lt Y e.symm).2; omega)).trans ((Below.heap_alloc W3.drew _ Y (lt_of_block G3.out)).trans G3.out)
                  obtain ⟨y0, y1', y2', y3, yf⟩ := bk4 GX
                  obtain ⟨v0, v1', v2', v3, vf⟩ := bk4 FX.out
                  have BX := Lib.hid ((B3.out.drew.alloc (B3.out.drew.size) (.cells #[.int .i64 0, .int .i64 T, .int .i64 n, .slice none 0 0] 41)).grown gr1 (by simp; omega) (fun k hk => by have := (O3.out.lt k hk).1; omega))
                  obtain ⟨_, _, _, _, F4, gp⟩ := bk4_put FX.out (.int .i64 wd) (.int .i64 th) (.int .i64 (fl + n)) (.int .i64 si)
                  obtain ⟨s0, s1, s2, s3, sf⟩ := bk4 ((gp.block Y (lt_of_block GX) (by simp; omega)).trans GX)
                  have FZ := Lib.hid F4
                  have ZZ := Lib.hid ((gp.block _ (lt_of_block ZX.out) (by simp; omega)).trans ZX.out)
                  have BZ := Lib.hid (gr_from BX.out BX.out.size (by omega) gp)
                  have OZ := Lib.hid (OX.out.kept gp (fun e => by have := (OX.out.lt V e).1; omega))
                  clear own1 gr1 GX F4 gp)))
          all_goals
            clear q0 q1 q2 q3 qf g0 g1 g2 g3' gf k0 k1 k2 k3 y0 y1' y2' y3 yf v0 v1' v2' v3 vf s0 s1 s2 s3 sf
            go_wp2_with fail
            go_roundg (gk - 1)
            case measure => omega
            case rel => exact ⟨kk + 1, wd, th, fl + n, si, T, ps ++ [(T, n)], by first | rfl | go_num, rfl, rfl, by omega, t0, t1, by omega, by omega, l2, by simp [HNY.out]; omega, BZ, ZZ, FZ, OZ, PS⟩
        · rw [paS_no FFF.out ⟨m0, by omega⟩ (by omega)] at HS
          have e1 : decide (fl + n ≤ wd) = false := by simp; omega
          unfold paSR paV at HS
          go_wp2_with fail
          refine (HPB.out _).mono ?_
          rintro e w' ⟨rfl, rfl⟩
          go_wp2_with fail
          refine (HPK.out _).mono ?_
          rintro e w' ⟨rfl, rfl⟩
          go_wp2_with fail
          refine (HPN.out _).mono ?_
          rintro e w' ⟨rfl, rfl⟩
          go_wp2_with fail
          refine (HS.out _).mono ?_
          rintro e3 w3 ⟨rfl, b3⟩
          have X3 := Lib.hid (b3.alloc b3.size (.cells #[.int .i64 wd, .int .i64 th, .int .i64 fl, .int .i64 si] 23))
          have G3 := Lib.hid (heap_alloc_new w3 (.cells #[.int .i64 wd, .int .i64 th, .int .i64 fl, .int .i64 si] 23))
          have B3 := Lib.hid (B2.out.trans (X3.out.mono B2.out.size))
          have F3 := Lib.hid ((X3.out.block _ (lt_of_block F2.out)).trans F2.out)
          have Z3 := Lib.hid ((X3.out.block _ (lt_of_block Z2.out)).trans Z2.out)
          have O3 := Lib.hid (O2.out.later X3.out)
          have hN3 : V < w3.heap.size := Nat.lt_of_lt_of_le (lt_of_block F2.out) b3.size
          have hX3 : X.heap.size ≤ w3.heap.size := Nat.le_trans XR.out.size b3.size
          clear b3
          clear q0 q1 q2 q3 qf
          obtain ⟨q0, q1, q2, q3, qf⟩ := bk4 F3.out
          go_wp2_with fail
          go_roundg (gk - 1)
          case measure => omega
          case rel => exact ⟨kk + 1, wd, th, fl, si, T, ps, by first | rfl | go_num, rfl, rfl, by omega, t0, t1, l0, l1, l2, by rw [HNY.out]; omega, B3, Z3, F3, O3, PT⟩
      · have gK : (K == 0) = false := by simp [hK0]
        by_cases hy0 : ny = 0
        · have gy : ((ny : Int) == 0) = true := by simp [hy0]
          clear hK0 hy0
          obtain ⟨n, hn⟩ : ∃ n, ra % 150 = n := ⟨_, rfl⟩
          have m0 : 0 ≤ n := by omega
          have m1 : n < 150 := by omega
          have HPN := Lib.hid (fun w => hn ▸ picked_any ra 150 (by omega) (by omega) w)
          have HS := Lib.hid (fun w => paSend_any wd th fl si n hsi w)
          have FFF := Lib.hid PK.out.ok
          obtain ⟨q0, q1, q2, q3, qf⟩ := bk4 F2.out
          clear hn
          by_cases q : fl + n ≤ wd
          · rw [paS_yes FFF.out ⟨m0, by omega⟩ q] at HS
            have e1 : decide (fl + n ≤ wd) = true := by simp [q]
            have PS := Lib.hid (PT.out.send n m0 m1 q)
            unfold paSR paV at HS
            go_wp2_with fail
            refine (HPB.out _).mono ?_
            rintro e w' ⟨rfl, rfl⟩
            go_wp2_with fail
            refine (HPK.out _).mono ?_
            rintro e w' ⟨rfl, rfl⟩
            go_wp2_with fail
            refine (HPN.out _).mono ?_
            rintro e w' ⟨rfl, rfl⟩
            go_wp2_with fail
            refine (HS.out _).mono ?_
            rintro e3 w3 ⟨rfl, b3⟩
            have X3 := Lib.hid (b3.alloc b3.size (.cells #[.int .i64 wd, .int .i64 th, .int .i64 (fl + n), .int .i64 si] 23))
            have G3 := Lib.hid (heap_alloc_new w3 (.cells #[.int .i64 wd, .int .i64 th, .int .i64 (fl + n), .int .i64 si] 23))
            have B3 := Lib.hid (B2.out.trans (X3.out.mono B2.out.size))
            have F3 := Lib.hid ((X3.out.block _ (lt_of_block F2.out)).trans F2.out)
            have Z3 := Lib.hid ((X3.out.block _ (lt_of_block Z2.out)).trans Z2.out)
            have O3 := Lib.hid (O2.out.later X3.out)
            have hN3 : V < w3.heap.size := Nat.lt_of_lt_of_le (lt_of_block F2.out) b3.size
            have hX3 : X.heap.size ≤ w3.heap.size := Nat.le_trans XR.out.size b3.size
            clear b3
            clear q0 q1 q2 q3 qf
            obtain ⟨q0, q1, q2, q3, qf⟩ := bk4 F3.out
            go_upto_region 14 with (fail)
            clear q0 q1 q2 q3 qf
            obtain ⟨Y, hY⟩ : ∃ W, w3.heap.size = W := ⟨_, rfl⟩
            obtain ⟨W3, hW3⟩ : ∃ W, w3.alloc (.cells #[.int .i64 wd, .int .i64 th, .int .i64 (fl + n), .int .i64 si] 23) = W := ⟨_, rfl⟩
            rw [hW3] at B3 F3 Z3 O3 G3
            rw [hY] at G3 hN3 hX3
            try rw [hW3]
            try rw [hY]
            clear hW3 hY
            have hsz3 : V + 1 ≤ W3.heap.size := lt_of_block F3.out
            obtain ⟨q0, q1, q2, q3, qf⟩ := bk4 F3.out
            obtain ⟨g0, g1, g2, g3', gf⟩ := bk4 G3.out
            have k0 := World.new_ne W3 _ g0
            have k1 := World.new_ne W3 _ g1
            have k2 := World.new_ne W3 _ g2
            have k3 := World.new_ne W3 _ g3'
            go_region_held3 (fun w' => w'.cell? ⟨Y, 0, none⟩ = some (.int .i64 wd) ∧ w'.cell? ⟨Y, 1, none⟩ = some (.int .i64 th) ∧ w'.cell? ⟨Y, 2, none⟩ = some (.int .i64 (fl + n)) ∧ w'.cell? ⟨Y, 3, none⟩ = some (.int .i64 si)) (go_keep)
              (first
                | ((refine step_appE _ (by rfl) (.tmp 71) (.tmp 75) _ (by rfl) (V + 1) 41 i0 _ 48 Try.underlying36 HI.out HZ.out HZ1.out HZ2.out rfl (by omega) _ ps (by rfl) (O3.out.drew.alloc (.cells #[.int .i64 0, .int .i64 T, .int .i64 n, .slice none 0 0] 41)) _ _ 1 1 [(T, n)] (by rfl) (RowE.one W3.drew (T, n) _ 41 _ rfl rfl) rfl (by rw [HNY.out]; omega) (by simp; omega) ?_
                    intro v1 u1 own1 gr1
                    have OX := Lib.hid own1
                    have FX := Lib.hid ((gr1.block V (by simp; omega) (fun e => by have := (O3.out.lt V e.symm).1; omega)).trans ((Below.heap_alloc W3.drew _ V hsz3).trans F3.out))
                    have ZX := Lib.hid ((gr1.block w.heap.size (by simp; omega) (fun e => by have := (O3.out.lt _ e.symm).1; omega)).trans ((Below.heap_alloc W3.drew _ w.heap.size (by have := hsz3; simp; omega)).trans Z3.out))
                    have GX := (gr1.block Y (by simp; have := lt_of_block G3.out; omega) (fun e => by have := (OK.out.lt Y e.symm).2; omega)).trans ((Below.heap_alloc W3.drew _ Y (lt_of_block G3.out)).trans G3.out)
                    obtain ⟨y0, y1', y2', y3, yf⟩ := bk4 GX
                    obtain ⟨v0, v1', v2', v3, vf⟩ := bk4 FX.out
                    have BX := Lib.hid ((B3.out.drew.alloc (B3.out.drew.size) (.cells #[.int .i64 0, .int .i64 T, .int .i64 n, .slice none 0 0] 41)).grown gr1 (by simp; omega) (fun k hk => by have := (O3.out.lt k hk).1; omega))
                    obtain ⟨_, _, _, _, F4, gp⟩ := bk4_put FX.out (.int .i64 wd) (.int .i64 th) (.int .i64 (fl + n)) (.int .i64 si)
                    obtain ⟨s0, s1, s2, s3, sf⟩ := bk4 ((gp.block Y (lt_of_block GX) (by simp; omega)).trans GX)
                    have FZ := Lib.hid F4
                    have ZZ := Lib.hid ((gp.block _ (lt_of_block ZX.out) (by simp; omega)).trans ZX.out)
                    have BZ := Lib.hid (gr_from BX.out BX.out.size (by omega) gp)
                    have OZ := Lib.hid (OX.out.kept gp (fun e => by have := (OX.out.lt V e).1; omega))
                    clear own1 gr1 GX F4 gp)))
            all_goals
              clear q0 q1 q2 q3 qf g0 g1 g2 g3' gf k0 k1 k2 k3 y0 y1' y2' y3 yf v0 v1' v2' v3 vf s0 s1 s2 s3 sf
              go_wp2_with fail
              go_roundg (gk - 1)
              case measure => omega
              case rel => exact ⟨kk + 1, wd, th, fl + n, si, T, ps ++ [(T, n)], by first | rfl | go_num, rfl, rfl, by omega, t0, t1, by omega, by omega, l2, by simp [HNY.out]; omega, BZ, ZZ, FZ, OZ, PS⟩
          · rw [paS_no FFF.out ⟨m0, by omega⟩ (by omega)] at HS
            have e1 : decide (fl + n ≤ wd) = false := by simp; omega
            unfold paSR paV at HS
            go_wp2_with fail
            refine (HPB.out _).mono ?_
            rintro e w' ⟨rfl, rfl⟩
            go_wp2_with fail
            refine (HPK.out _).mono ?_
            rintro e w' ⟨rfl, rfl⟩
            go_wp2_with fail
            refine (HPN.out _).mono ?_
            rintro e w' ⟨rfl, rfl⟩
            go_wp2_with fail
            refine (HS.out _).mono ?_
            rintro e3 w3 ⟨rfl, b3⟩
            have X3 := Lib.hid (b3.alloc b3.size (.cells #[.int .i64 wd, .int .i64 th, .int .i64 fl, .int .i64 si] 23))
            have G3 := Lib.hid (heap_alloc_new w3 (.cells #[.int .i64 wd, .int .i64 th, .int .i64 fl, .int .i64 si] 23))
            have B3 := Lib.hid (B2.out.trans (X3.out.mono B2.out.size))
            have F3 := Lib.hid ((X3.out.block _ (lt_of_block F2.out)).trans F2.out)
            have Z3 := Lib.hid ((X3.out.block _ (lt_of_block Z2.out)).trans Z2.out)
            have O3 := Lib.hid (O2.out.later X3.out)
            have hN3 : V < w3.heap.size := Nat.lt_of_lt_of_le (lt_of_block F2.out) b3.size
            have hX3 : X.heap.size ≤ w3.heap.size := Nat.le_trans XR.out.size b3.size
            clear b3
            clear q0 q1 q2 q3 qf
            obtain ⟨q0, q1, q2, q3, qf⟩ := bk4 F3.out
            go_wp2_with fail
            go_roundg (gk - 1)
            case measure => omega
            case rel => exact ⟨kk + 1, wd, th, fl, si, T, ps, by first | rfl | go_num, rfl, rfl, by omega, t0, t1, l0, l1, l2, by rw [HNY.out]; omega, B3, Z3, F3, O3, PT⟩
        · clear hK0
          have hny0 : 0 < ny := by omega
          have gy : ((ny : Int) == 0) = false := by simp; omega
          obtain ⟨ii, hii⟩ : ∃ ii : Nat, ra % (ny : Int) = ii := ⟨(ra % (ny : Int)).toNat, by have := Int.emod_nonneg ra (show (ny : Int) ≠ 0 by omega); omega⟩
          have hin : ii < ny := by have := Int.emod_lt_of_pos ra (show (0 : Int) < ny by omega); omega
          have HPI := Lib.hid (fun w => hii ▸ picked_any ra ny (by omega) (by omega) w)
          obtain ⟨yb, yo, hAy, hyb, hcy⟩ := YR.out (by rw [HNY.out]; omega)
          subst hAy
          have hil : ii < ps.length := by rw [HNY.out]; exact hin
          have a0 := RowE.at hcy ii 0 hil (by decide)
          have a1 := RowE.at hcy ii 1 hil (by decide)
          have a2 := RowE.at hcy ii 2 hil (by decide)
          have a3 := RowE.at hcy ii 3 hil (by decide)
          have hL := PT.out.less ii hil
          obtain ⟨hw, hhe, hhp⟩ := PT.out.heard (by omega) ii hil
          obtain ⟨lw, lt, ls, hle, hlp⟩ := PT.out.lost (by omega) ii hil
          obtain ⟨⟨tx, sx⟩, hx⟩ : ∃ p, ps[ii] = p := ⟨_, rfl⟩
          rw [hx] at a0 a1 a2 a3 hL hhe hhp hle hlp
          simp only [wayE, List.getElem?_cons_zero, List.getElem?_cons_succ] at a0 a1 a2 a3
          simp only at hL hhe hhp hle hlp
          have z0 := (XR.out.cell (p := ⟨yb, yo + ii * 4, none⟩) hyb).trans a0
          have z1 := (XR.out.cell (p := ⟨yb, yo + ii * 4 + 1, none⟩) hyb).trans a1
          have z2 := (XR.out.cell (p := ⟨yb, yo + ii * 4 + 2, none⟩) hyb).trans a2
          have z3 := (XR.out.cell (p := ⟨yb, yo + ii * 4 + 3, none⟩) hyb).trans a3
          have Y2 := Lib.hid (YR.out.on XR.out)
          have HHP := Lib.hid hhp
          have HLP := Lib.hid hlp
          have HH := Lib.hid (fun w => paHeard_any wd th fl si sx tx hsi w)
          have HL := Lib.hid (fun w => paLost_any wd th fl si sx tx T hsi w)
          rw [hhe] at HH
          rw [hle] at HL
          obtain ⟨s0, s1, s2, hrest⟩ := hL
          clear hrest
          unfold paR paV at HH HL
          have hinI : (ii : Int) < (ny : Int) := by omega
          clear a0 a1 a2 a3 hcy hx hhe hle hhp hlp hii
          go_wp2_with fail
          refine (HPB.out _).mono ?_
          rintro e w' ⟨rfl, rfl⟩
          go_wp2_with fail
          refine (HPK.out _).mono ?_
          rintro e w' ⟨rfl, rfl⟩
          go_wp2_with fail
          refine (HPI.out _).mono ?_
          rintro e w' ⟨rfl, rfl⟩
          go_upto_region 17 with (fail)
          clear z0 z1 z2 z3
          have PQ := Lib.hid (heap_alloc_new (X.alloc (.cells #[.int .i64 kd, .int .i64 ra, .int .i64 rb, .string rt] 54)) (.cells #[.int .i64 0, .int .i64 tx, .int .i64 sx, .slice none 0 0] 41))
          have X3 := Lib.hid (XR.out.alloc XR.out.size (.cells #[.int .i64 0, .int .i64 tx, .int .i64 sx, .slice none 0 0] 41))
          have P3 := Lib.hid (show ((X.alloc (.cells #[.int .i64 kd, .int .i64 ra, .int .i64 rb, .string rt] 54)).alloc (.cells #[.int .i64 0, .int .i64 tx, .int .i64 sx, .slice none 0 0] 41)).heap[X.heap.size + 1]? = some (.cells #[.int .i64 0, .int .i64 tx, .int .i64 sx, .slice none 0 0] 41 (0, 0)) by simpa using PQ.out)
          clear PQ
          obtain ⟨W3, hW3⟩ : ∃ W, (X.alloc (.cells #[.int .i64 kd, .int .i64 ra, .int .i64 rb, .string rt] 54)).alloc (.cells #[.int .i64 0, .int .i64 tx, .int .i64 sx, .slice none 0 0] 41) = W := ⟨_, rfl⟩
          obtain ⟨PB, hPB⟩ : ∃ B, X.heap.size + 1 = B := ⟨_, rfl⟩
          rw [hW3] at X3 P3
          rw [hPB] at P3
          try rw [hW3]
          try rw [hPB]
          have F3 := Lib.hid ((X3.out.block _ (lt_of_block FK.out)).trans FK.out)
          have Z3 := Lib.hid ((X3.out.block _ (lt_of_block ZK.out)).trans ZK.out)
          have B3 := Lib.hid (BK.out.trans (X3.out.mono BK.out.size))
          have Y3 := Lib.hid (YR.out.on X3.out)
          have h3V : V + 1 ≤ W3.heap.size := lt_of_block F3.out
          have h3P : PB < W3.heap.size := lt_of_block P3.out
          have hVP : V < PB := by have := lt_of_block FK.out; omega
          clear hW3 hPB R2 F2 Z2 B2 O2 Y2
          obtain ⟨AY, hAY⟩ : ∃ A, some (⟨yb, yo, none⟩ : Addr) = A := ⟨_, rfl⟩
          rw [hAY]
          rw [hAY] at Y3
          clear hAY
          obtain ⟨SA, hSA⟩ : ∃ SA, (if cy = ii + 1 then AY else Option.map (fun x => x.add ((ii + 1) * 4)) AY) = SA := ⟨_, rfl⟩
          have RC := Lib.hid (Y3.out.cut (ii + 1) cy (by rw [HNY.out]; exact y1))
          rw [show wayE.k = 4 from rfl, hSA] at RC
          have RT := Lib.hid (Y3.out.take ii)
          have hs1 : ii ≤ cy := by omega
          have hs2 : ii + 1 ≤ ny := by omega
          have hs3 : IntKind.i64.wrap ((ii : Int) + 1) = (ii : Int) + 1 := by rw [IntKind.wrap_i64]; omega
          have hs4 : (0 : Int) ≤ (ii : Int) + 1 := by omega
          have hs5 : ((ii : Int) + 1).toNat = ii + 1 := by omega
          have hs6 : (ii : Int) + 1 ≤ (ny : Int) := by omega
          have hs7 : (ny : Int) ≤ (cy : Int) := by omega
          go_region_held3 (fun w' => True) (trivial)
            (first
              | ((refine step_appE _ (by rfl) (.tmp 86) (.tmp 89) _ (by rfl) W3.heap.size 41 i0 _ 48 Try.underlying36 HI.out HZ.out HZ1.out HZ2.out rfl (by omega) _ [] (by rfl) (OwnE.empty W3.drew W3.heap.size 41 _ rfl (Nat.le_refl _)) _ _ ii cy (ps.take ii) (by rfl) (RT.out.below ((Below.refl _ _).drew.alloc (Nat.le_refl _) (.cells #[] 41))) (by rw [List.length_take, HNY.out]; omega) (by simp; omega) (by simp) ?_
                  intro v1 u1 own1 gr1
                  have OX := Lib.hid own1
                  have BX := Lib.hid (((Below.refl W3.heap.size W3).drew.alloc (Nat.le_refl _) (.cells #[] 41)).grown gr1 (by simp) (fun k hk => by cases hk; exact Nat.le_refl _))
                  clear own1 gr1))
              | ((refine step_appE _ (by rfl) (.tmp 90) (.tmp 94) _ (by rfl) W3.heap.size 41 i0 _ 48 Try.underlying36 HI.out HZ.out HZ1.out HZ2.out rfl (by omega) _ ([] ++ ps.take ii) (by rfl) OX.out _ _ (ny - (ii + 1)) (cy - (ii + 1)) (ps.drop (ii + 1)) (by rfl) (RC.out.below BX.out) (by rw [List.length_drop, HNY.out]) (by rw [List.nil_append, List.length_take, HNY.out]; omega) BX.out.size ?_
                  intro v2 u2 own2 gr2
                  have OY := Lib.hid own2
                  have BY := Lib.hid (BX.out.grown gr2 BX.out.size (fun k hk => (OX.out.lt k hk).1))
                  clear own2 gr2)))
          all_goals
            have F4 := Lib.hid ((BY.out.block _ (lt_of_block F3.out)).trans F3.out)
            have Z4 := Lib.hid ((BY.out.block _ (lt_of_block Z3.out)).trans Z3.out)
            have P4 := Lib.hid ((BY.out.block _ (lt_of_block P3.out)).trans P3.out)
            have B4 := Lib.hid (B3.out.trans (BY.out.mono B3.out.size))
            have O4 := Lib.hid (show OwnE wayE u2 (V + 1) 41 v2 (ps.take ii ++ ps.drop (ii + 1)) from OY.out.low h3V)
            have HPL := Lib.hid (show (ps.take ii ++ ps.drop (ii + 1)).length ≤ kk + 1 by rw [List.length_append, List.length_take, List.length_drop, HNY.out]; omega)
            clear hs1 hs2 hs3 hs4 hs5 hs6 hs7 hSA OX BX
            obtain ⟨q0, q1, q2, q3, qf⟩ := bk4 F4.out
            obtain ⟨p0, p1, p2, p3, pf⟩ := bk4 P4.out
            go_wp2_with fail
            refine (HH.out _).mono ?_
            rintro e5 w5 ⟨rfl, b5⟩
            have X5 := Lib.hid (b5.alloc b5.size (.cells #[.int .i64 hw, .int .i64 th, .int .i64 (fl - sx), .int .i64 si] 23))
            have G5 := Lib.hid (heap_alloc_new w5 (.cells #[.int .i64 hw, .int .i64 th, .int .i64 (fl - sx), .int .i64 si] 23))
            have B5 := Lib.hid (B4.out.trans (X5.out.mono B4.out.size))
            have F5 := Lib.hid ((X5.out.block _ (lt_of_block F4.out)).trans F4.out)
            have P5 := Lib.hid ((X5.out.block _ (lt_of_block P4.out)).trans P4.out)
            have Z5 := Lib.hid ((X5.out.block _ (lt_of_block Z4.out)).trans Z4.out)
            have O5 := Lib.hid (O4.out.later X5.out)
            have h45 : u2.heap.size ≤ w5.heap.size := b5.size
            have h4V : V < w5.heap.size := Nat.lt_of_lt_of_le (lt_of_block F4.out) b5.size
            clear b5 q0 q1 q2 q3 qf p0 p1 p2 p3 pf
            go_upto_region 19 with (fail)
            obtain ⟨Y, hY⟩ : ∃ Y, w5.heap.size = Y := ⟨_, rfl⟩
            obtain ⟨W5, hW5⟩ : ∃ W, w5.alloc (.cells #[.int .i64 hw, .int .i64 th, .int .i64 (fl - sx), .int .i64 si] 23) = W := ⟨_, rfl⟩
            clear X5
            rw [hW5] at B5 F5 P5 Z5 O5 G5
            rw [hY] at G5 h45 h4V
            try rw [hW5]
            try rw [hY]
            clear hW5 hY
            obtain ⟨q0, q1, q2, q3, qf⟩ := bk4 F5.out
            obtain ⟨p0, p1, p2, p3, pf⟩ := bk4 P5.out
            obtain ⟨g0, g1, g2, g3, gf⟩ := bk4 G5.out
            by_cases hK1 : K = 1
            · have gK1 : (K == 1) = true := by simp [hK1]
              clear hK1
              go_wp2_with fail
              refine (HL.out _).mono ?_
              rintro e6 w6 ⟨rfl, b6⟩
              have B6 := Lib.hid (B5.out.trans (b6.mono B5.out.size))
              have F6 := Lib.hid ((b6.block _ (lt_of_block F5.out)).trans F5.out)
              have Z6 := Lib.hid ((b6.block _ (lt_of_block Z5.out)).trans Z5.out)
              have G6 := Lib.hid ((b6.block _ (lt_of_block G5.out)).trans G5.out)
              have O6 := Lib.hid (O5.out.later b6)
              clear b6 q0 q1 q2 q3 qf p0 p1 p2 p3 pf g0 g1 g2 g3 gf G5 F5 Z5 P5
              obtain ⟨g0, g1, g2, g3, gf⟩ := bk4 G6.out
              go_upto_region 21 with (fail)
              obtain ⟨_, _, _, _, G7', gp⟩ := bk4_put G6.out (.int .i64 lw) (.int .i64 lt) (.int .i64 (fl - sx)) (.int .i64 ls)
              have G7 := Lib.hid G7'
              have F7 := Lib.hid ((gp.block _ (lt_of_block F6.out) (by simp; omega)).trans F6.out)
              have Z7 := Lib.hid ((gp.block _ (lt_of_block Z6.out) (by simp; omega)).trans Z6.out)
              have B7 := Lib.hid (gr_from B6.out B6.out.size (by omega) gp)
              have O7 := Lib.hid (O6.out.kept gp (fun e => by have := (O4.out.lt Y e).2; omega))
              clear G7' gp g0 g1 g2 g3 gf
              obtain ⟨W7, hW7⟩ : ∃ W, (((w6.setCell ⟨Y, 0, none⟩ (.int .i64 lw)).setCell ⟨Y, 1, none⟩ (.int .i64 lt)).setCell ⟨Y, 2, none⟩ (.int .i64 (fl - sx))).setCell ⟨Y, 3, none⟩ (.int .i64 ls) = W := ⟨_, rfl⟩
              rw [hW7] at G7 F7 Z7 B7 O7 ⊢
              clear hW7 G6 F6 Z6 B6 O6
              obtain ⟨g0, g1, g2, g3, gf⟩ := bk4 G7.out
              obtain ⟨q0, q1, q2, q3, qf⟩ := bk4 F7.out
              obtain ⟨_, _, _, _, F8', gp⟩ := bk4_put F7.out (.int .i64 lw) (.int .i64 lt) (.int .i64 (fl - sx)) (.int .i64 ls)
              have F8 := Lib.hid F8'
              have Z8 := Lib.hid ((gp.block _ (lt_of_block Z7.out) (by simp; omega)).trans Z7.out)
              have B8 := Lib.hid (gr_from B7.out B7.out.size (by omega) gp)
              have O8 := Lib.hid (O7.out.kept gp (fun e => by have := (O7.out.lt V e).1; omega))
              clear F8' gp
              have LW := Lib.hid (paF_ok HLP.out.ok)
              go_wp2_with fail
              go_roundg (gk - 1)
              case measure => omega
              case rel => exact ⟨kk + 1, lw, lt, fl - sx, ls, T, ps.take ii ++ ps.drop (ii + 1), by first | rfl | go_num, rfl, rfl, by omega, t0, t1, by omega, by omega, LW.out.2.1, HPL.out, B8, Z8, F8, O8, HLP⟩
            · have gK1 : (K == 1) = false := by simp [hK1]
              clear hK1
              obtain ⟨_, _, _, _, F8', gp⟩ := bk4_put F5.out (.int .i64 hw) (.int .i64 th) (.int .i64 (fl - sx)) (.int .i64 si)
              have F8 := Lib.hid F8'
              have Z8 := Lib.hid ((gp.block _ (lt_of_block Z5.out) (by simp; omega)).trans Z5.out)
              have B8 := Lib.hid (gr_from B5.out B5.out.size (by omega) gp)
              have O8 := Lib.hid (O5.out.kept gp (fun e => by have := (O5.out.lt V e).1; omega))
              clear F8' gp
              have LW := Lib.hid (paF_ok HHP.out.ok)
              go_wp2_with fail
              go_roundg (gk - 1)
              case measure => omega
              case rel => exact ⟨kk + 1, hw, th, fl - sx, si, T, ps.take ii ++ ps.drop (ii + 1), by first | rfl | go_num, rfl, rfl, by omega, t0, t1, by omega, by omega, LW.out.2.1, HPL.out, B8, Z8, F8, O8, HHP⟩
    · have hkn : kk = N := by omega
      subst hkn
      have c1 : ps.length ≤ 30 := by rw [HNY.out]; omega
      have CC := Lib.hid c1
      clear c1
      obtain ⟨z0, z1, z2, z3, zf⟩ := bk4 ZK.out
      obtain ⟨q0, q1, q2, q3, qf⟩ := bk4 FK.out
      go_wp2_with fail
      obtain ⟨r0, r1, r2, r3, _, gp⟩ := bk4_put ZK.out (.int .i64 wd) (.int .i64 th) (.int .i64 fl) (.int .i64 si)
      have B9 := Lib.hid (gr_from BK.out BK.out.size (Nat.le_refl _) gp)
      have O9 := Lib.hid (OK.out.kept gp (fun e => by have := (OK.out.lt _ e).1; omega))
      refine bodyPost_ret (by simp [results, Try.results18, go_sem, r0, r1, r2, r3]; try rfl) rfl ?_
      obtain ⟨A9, c9, e9, l9, m9, row9⟩ := O9.out.slice
      have e9' := Value.slice.inj e9
      obtain ⟨ea, en, ec⟩ := e9'
      subst ea ec
      exact ⟨wd, th, fl, si, nw, ps, _, _, by rw [HNY.out], PK.out, by omega, CC.out, l9, m9, row9, B9.out⟩
end Go.Proofs.Ytlafjladlkbnoaa
