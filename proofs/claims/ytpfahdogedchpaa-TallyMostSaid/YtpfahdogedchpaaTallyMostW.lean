/- The walk of TallyMost. -/
import Derived.Test.YtpfahdogedchpaaTally2
import Derived.Test.YtpfahdogedchpaaSomeK
import Derived.Test.YtpfahdogedchpaaGrpD
import Derived.Deep.LoopGhost
namespace Go.Proofs.Ytpfahdogedchpaa
set_option linter.unusedVariables false
open Go.RowKit P

theorem taF_yes {kn : Bool} {g s : Int} (h0 : 0 ≤ g) (h1 : g ≤ 13000) (h2 : 0 ≤ s) (h3 : s ≤ 3 * g) : taF kn g s = 0 := if_pos ⟨⟨h0, by omega⟩, ⟨h2, by omega⟩, .inr h3⟩
theorem taE_yes {kn : Bool} {g s n : Int} (h0 : 0 ≤ g) (h1 : g ≤ 13000) (h2 : 0 ≤ s) (h3 : s ≤ 3 * g) (n0 : 0 ≤ n) (n1 : n ≤ 400) : taE kn g s n = 0 := by unfold taE; rw [if_neg (fun k => k (taF_yes h0 h1 h2 h3)), if_pos ⟨n0, n1⟩]
theorem taG_yes {kn : Bool} {g s n : Int} (h0 : 0 ≤ g) (h1 : g ≤ 13000) (h2 : 0 ≤ s) (h3 : s ≤ 3 * g) (n0 : 0 ≤ n) (n1 : n ≤ 400) : taG kn g s n = (kn, g + n, s, 0) := by unfold taG; rw [if_neg (fun k => k (taE_yes h0 h1 h2 h3 n0 n1)), if_neg (by omega)]
theorem taS_yes {kn : Bool} {g s n : Int} (h0 : 0 ≤ g) (h1 : g ≤ 13000) (h2 : 0 ≤ s) (h3 : s ≤ 3 * g) (n0 : 0 ≤ n) (n1 : n ≤ 400) (h : kn = true ∨ s + n ≤ 3 * g) : taS kn g s n = (kn, g, s + n, 0) := by
  unfold taS; rw [if_neg (fun k => k (taE_yes h0 h1 h2 h3 n0 n1)), if_neg (by omega), if_neg (fun k => by rcases h with h | h; · rw [k.1] at h; cases h
                                                                                                          · have := k.2; omega)]
theorem taS_no {g s n : Int} (h0 : 0 ≤ g) (h1 : g ≤ 13000) (h2 : 0 ≤ s) (h3 : s ≤ 3 * g) (n0 : 0 ≤ n) (n1 : n ≤ 400) (h : 3 * g < s + n) : taS false g s n = (false, 0, 0, 15) := by
  unfold taS; rw [if_neg (fun k => k (taE_yes h0 h1 h2 h3 n0 n1)), if_neg (by omega), if_pos ⟨rfl, h⟩]
theorem taG_neg {g s : Int} (h0 : 0 ≤ g) (h1 : g ≤ 13000) (h2 : 0 ≤ s) (h3 : s ≤ 3 * g) : taG false g s (-1) = (false, 0, 0, 6) := by
  have e : taE false g s (-1) = 6 := by unfold taE; rw [if_neg (fun k => k (taF_yes h0 h1 h2 h3)), if_neg (by omega)]
  unfold taG; rw [e]; rfl
theorem taK_yes {g s : Int} (h0 : 0 ≤ g) (h1 : g ≤ 13000) (h2 : 0 ≤ s) (h3 : s ≤ 3 * g) : taK false g s = (true, g, s, 0) := by unfold taK; rw [if_neg (fun k => k (taF_yes h0 h1 h2 h3))]
set_option maxRecDepth 100000 in
set_option maxHeartbeats 4000000 in
theorem tallyMost_walk (A : Option Addr) (len cap : Nat) (rs : List RawT) (w : World) (h : RawRow w w.heap.size A rs) (hl : rs.length = len) (hlc : len ≤ cap) (hcm : cap ≤ maxLen) :
    Calls Try.prog 5 #[.slice A len cap] w fun e w' => e = .returned (.bool true) ∧ Below w.heap.size w w' := by
  have HR := Lib.hid h
  have HLN := Lib.hid hl
  obtain ⟨N, hN⟩ : ∃ N, min len 30 = N := ⟨_, rfl⟩
  have n1 : N ≤ 30 := by omega
  have n2 : N ≤ len := by omega
  have HN := Lib.hid hN
  have HSM := Lib.hid (fun w => smK_any 30 (by decide) A len cap w hlc hcm)
  rw [hN] at HSM
  have hcm' := hcm
  unfold maxLen at hcm'
  have B0 := Lib.hid ((Below.refl w.heap.size w).alloc (Nat.le_refl _) (.cells #[.bool false, .int .i64 0, .int .i64 0] 34))
  have F0 := Lib.hid (heap_alloc_new w (.cells #[.bool false, .int .i64 0, .int .i64 0] 34))
  clear h hl hN hcm
  go_enter Try.func5, Try.ntmps5
  go_wp2_with fail
  refine (HSM.out _).mono ?_
  rintro e w' ⟨rfl, rfl⟩
  go_wp2_with fail
  go_loopg [4, 5, 22] N (fun gq uv tv iv wr => ∃ (k : Nat) (g s : Int), uv = .int .i64 g ∧ tv = .int .i64 s ∧ iv = .int .i64 k ∧ k + gq = N ∧ 0 ≤ g ∧ g ≤ 400 * k ∧ 0 ≤ s ∧ s ≤ 3 * g ∧ Hid (Below w.heap.size w wr) ∧ Hid (wr.heap[w.heap.size]? = some (.cells #[.bool false, .int .i64 g, .int .i64 s] 34 (0, 0))))
  case atStart => exact ⟨0, 0, 0, rfl, rfl, rfl, by omega, by omega, by omega, by omega, by omega, B0, F0⟩
  case round =>
    obtain ⟨k, g, s, rfl, rfl, rfl, hk, g0, g1, s0, s1, BK, FK⟩ := hrel
    by_cases hlt : k < N
    · obtain ⟨b, off, hA, hbb, hc⟩ := HR.out (by rw [HLN.out]; omega)
      subst hA
      obtain ⟨c0, c1, c2, c3⟩ := hc k (by rw [HLN.out]; omega)
      generalize rs.getD k raw0 = r at c0 c1 c2 c3
      obtain ⟨kd, ra, rb, rt⟩ := r
      simp only at c0 c1 c2 c3
      have x0 := (BK.out.cell (p := ⟨b, off + k * 4, none⟩) hbb).trans c0
      have x1 := (BK.out.cell (p := ⟨b, off + k * 4 + 1, none⟩) hbb).trans c1
      have x2 := (BK.out.cell (p := ⟨b, off + k * 4 + 2, none⟩) hbb).trans c2
      have x3 := (BK.out.cell (p := ⟨b, off + k * 4 + 3, none⟩) hbb).trans c3
      clear c0 c1 c2 c3 hc
      have hkN : (k : Int) < (N : Int) := by omega
      obtain ⟨n, hn⟩ : ∃ n, ra % 401 = n := ⟨_, rfl⟩
      have m0 : 0 ≤ n := by omega
      have m1 : n ≤ 400 := by omega
      have gb : g ≤ 13000 := by omega
      have HPN := Lib.hid (fun w => hn ▸ picked_any ra 401 (by omega) (by omega) w)
      have HP3 := Lib.hid (fun w => picked_any kd 3 (by omega) (by omega) w)
      have XR := Lib.hid ((Below.refl wr.heap.size wr).alloc (Nat.le_refl _) (.cells #[.int .i64 kd, .int .i64 ra, .int .i64 rb, .string rt] 43))
      have R1 := Lib.hid (heap_alloc_new wr (.cells #[.int .i64 kd, .int .i64 ra, .int .i64 rb, .string rt] 43))
      have F1 := Lib.hid ((XR.out.block _ (lt_of_block FK.out)).trans FK.out)
      have B1 := Lib.hid (BK.out.trans (XR.out.mono BK.out.size))
      obtain ⟨f0, f1, f2, ff⟩ := bk3A F1.out
      have hwg : IntKind.i64.wrap (g + n) = g + n := by rw [IntKind.wrap_i64]; omega
      have hws : IntKind.i64.wrap (s + n) = s + n := by rw [IntKind.wrap_i64]; omega
      have hw3 : IntKind.i64.wrap (3 * g) = 3 * g := by rw [IntKind.wrap_i64]; omega
      clear hn
      by_cases k3 : kd % 3 = 0
      · have HG := Lib.hid (fun w => taGot_any false g s n w)
        rw [taG_yes g0 gb s0 s1 m0 m1] at HG
        unfold taR taV at HG
        have g3 : (kd % 3 == 0) = true := by simp [k3]
        clear k3
        go_wp2_with fail
        refine (HPN.out _).mono ?_
        rintro e w' ⟨rfl, rfl⟩
        go_wp2_with fail
        refine (HP3.out _).mono ?_
        rintro e w' ⟨rfl, rfl⟩
        go_wp2_with fail
        refine (HG.out _).mono ?_
        rintro e w2 ⟨rfl, b2⟩
        have X2 := Lib.hid (b2.alloc b2.size (.cells #[.bool false, .int .i64 (g + n), .int .i64 s] 34))
        have N2 := Lib.hid (heap_alloc_new w2 (.cells #[.bool false, .int .i64 (g + n), .int .i64 s] 34))
        have F2 := Lib.hid ((X2.out.block _ (lt_of_block F1.out)).trans F1.out)
        have B2 := Lib.hid (B1.out.trans (X2.out.mono B1.out.size))
        clear b2 f0 f1 f2 ff
        go_upto_region 9 with fail
        obtain ⟨W2, hW2⟩ : ∃ W, w2.alloc (.cells #[.bool false, .int .i64 (g + n), .int .i64 s] 34) = W := ⟨_, rfl⟩
        obtain ⟨V2, hV2⟩ : ∃ W, w2.heap.size = W := ⟨_, rfl⟩
        clear X2
        rw [hW2] at N2 F2 B2 ⊢
        rw [hV2] at N2 ⊢
        clear hW2 hV2
        obtain ⟨n0, n1', n2', nf⟩ := bk3A N2.out
        obtain ⟨f0, f1, f2, ff⟩ := bk3A F2.out
        obtain ⟨_, _, _, fy, gp⟩ := bk3A_put F2.out (.bool false) (.int .i64 (g + n)) (.int .i64 s)
        have FY := Lib.hid fy
        have BY := Lib.hid (gr_from B2.out B2.out.size (Nat.le_refl _) gp)
        clear fy gp
        go_wp2_with fail
        go_roundg (gk - 1)
        case measure => omega
        case rel => exact ⟨k + 1, g + n, s, by first | rfl | go_num, rfl, by first | rfl | go_num, by omega, by omega, by omega, s0, by omega, BY, FY⟩
      · have g3 : (kd % 3 == 0) = false := by simp [k3]
        have HS := Lib.hid (fun w => taSent_any false g s n w)
        clear k3
        by_cases q : s + n ≤ 3 * g
        · rw [taS_yes g0 gb s0 s1 m0 m1 (.inr q)] at HS
          unfold taR taV at HS
          have gc : decide (s + n ≤ 3 * g) = true := by simp [q]
          go_wp2_with fail
          refine (HPN.out _).mono ?_
          rintro e w' ⟨rfl, rfl⟩
          go_wp2_with fail
          refine (HP3.out _).mono ?_
          rintro e w' ⟨rfl, rfl⟩
          go_wp2_with fail
          refine (HS.out _).mono ?_
          rintro e w2 ⟨rfl, b2⟩
          have X2 := Lib.hid (b2.alloc b2.size (.cells #[.bool false, .int .i64 g, .int .i64 (s + n)] 34))
          have N2 := Lib.hid (heap_alloc_new w2 (.cells #[.bool false, .int .i64 g, .int .i64 (s + n)] 34))
          have F2 := Lib.hid ((X2.out.block _ (lt_of_block F1.out)).trans F1.out)
          have B2 := Lib.hid (B1.out.trans (X2.out.mono B1.out.size))
          clear b2 f0 f1 f2 ff
          go_upto_region 13 with fail
          obtain ⟨W2, hW2⟩ : ∃ W, w2.alloc (.cells #[.bool false, .int .i64 g, .int .i64 (s + n)] 34) = W := ⟨_, rfl⟩
          obtain ⟨V2, hV2⟩ : ∃ W, w2.heap.size = W := ⟨_, rfl⟩
          clear X2
          rw [hW2] at N2 F2 B2 ⊢
          rw [hV2] at N2 ⊢
          clear hW2 hV2
          obtain ⟨n0, n1', n2', nf⟩ := bk3A N2.out
          obtain ⟨f0, f1, f2, ff⟩ := bk3A F2.out
          obtain ⟨_, _, _, fy, gp⟩ := bk3A_put F2.out (.bool false) (.int .i64 g) (.int .i64 (s + n))
          have FY := Lib.hid fy
          have BY := Lib.hid (gr_from B2.out B2.out.size (Nat.le_refl _) gp)
          clear fy gp
          go_wp2_with fail
          go_roundg (gk - 1)
          case measure => omega
          case rel => exact ⟨k + 1, g, s + n, rfl, by first | rfl | go_num, by first | rfl | go_num, by omega, by omega, by omega, by omega, by omega, BY, FY⟩
        · rw [taS_no g0 gb s0 s1 m0 m1 (by omega)] at HS
          unfold taR taV at HS
          have gc : decide (s + n ≤ 3 * g) = false := by simp; omega
          go_wp2_with fail
          refine (HPN.out _).mono ?_
          rintro e w' ⟨rfl, rfl⟩
          go_wp2_with fail
          refine (HP3.out _).mono ?_
          rintro e w' ⟨rfl, rfl⟩
          go_wp2_with fail
          refine (HS.out _).mono ?_
          rintro e w2 ⟨rfl, b2⟩
          have X2 := Lib.hid (b2.alloc b2.size (.cells #[.bool false, .int .i64 0, .int .i64 0] 34))
          have FY := Lib.hid ((X2.out.block _ (lt_of_block F1.out)).trans F1.out)
          have BY := Lib.hid (B1.out.trans (X2.out.mono B1.out.size))
          clear b2 f0 f1 f2 ff
          go_wp2_with fail
          go_roundg (gk - 1)
          case measure => omega
          case rel => exact ⟨k + 1, g, s, rfl, rfl, by first | rfl | go_num, by omega, g0, by omega, s0, s1, BY, FY⟩
    · have hkN : k = N := by omega
      have gb : g ≤ 13000 := by omega
      have HK := Lib.hid (fun w => taKnow_any false g s w)
      rw [taK_yes g0 gb s0 s1] at HK
      have HS := Lib.hid (fun w => taSent_any true g s 400 w)
      rw [taS_yes g0 gb s0 s1 (by omega) (by omega) (.inl rfl)] at HS
      have HG := Lib.hid (fun w => taGot_any false g s (-1) w)
      rw [taG_neg g0 gb s0 s1] at HG
      have HC := Lib.hid (fun w => taChk_any false g s w)
      rw [taF_yes g0 gb s0 s1] at HC
      unfold taR at HK HS HG
      unfold taV at HK HS HG HC
      have hw3 : IntKind.i64.wrap (3 * g) = 3 * g := by rw [IntKind.wrap_i64]; omega
      have gc : decide (s ≤ 3 * g) = true := by simp [s1]
      obtain ⟨f0, f1, f2, ff⟩ := bk3A FK.out
      subst hkN
      go_wp2_with fail
      refine (HK.out _).mono ?_
      rintro e w2 ⟨rfl, b2⟩
      have X2 := Lib.hid (b2.alloc b2.size (.cells #[.bool true, .int .i64 g, .int .i64 s] 34))
      have N2 := Lib.hid (heap_alloc_new w2 (.cells #[.bool true, .int .i64 g, .int .i64 s] 34))
      have F2 := Lib.hid ((X2.out.block _ (lt_of_block FK.out)).trans FK.out)
      have B2 := Lib.hid (BK.out.trans (X2.out.mono BK.out.size))
      clear b2 f0 f1 f2 ff
      go_upto_region 19 with fail
      obtain ⟨W2, hW2⟩ : ∃ W, w2.alloc (.cells #[.bool true, .int .i64 g, .int .i64 s] 34) = W := ⟨_, rfl⟩
      obtain ⟨V2, hV2⟩ : ∃ W, w2.heap.size = W := ⟨_, rfl⟩
      clear X2
      rw [hW2] at N2 F2 B2 ⊢
      rw [hV2] at N2 ⊢
      clear hW2 hV2
      obtain ⟨n0, n1', n2', nf⟩ := bk3A N2.out
      go_wp2_with fail
      refine (HS.out _).mono ?_
      rintro e w3 ⟨rfl, b3⟩
      have X3 := Lib.hid (b3.alloc b3.size (.cells #[.bool true, .int .i64 g, .int .i64 (s + 400)] 34))
      have N3 := Lib.hid ((X3.out.block _ (lt_of_block N2.out)).trans N2.out)
      have F3 := Lib.hid ((X3.out.block _ (lt_of_block F2.out)).trans F2.out)
      have B3 := Lib.hid (B2.out.trans (X3.out.mono B2.out.size))
      clear b3 n0 n1' n2' nf
      go_upto_region 20 with fail
      obtain ⟨W3, hW3⟩ : ∃ W, w3.alloc (.cells #[.bool true, .int .i64 g, .int .i64 (s + 400)] 34) = W := ⟨_, rfl⟩
      clear X3
      rw [hW3] at N3 F3 B3 ⊢
      clear hW3
      obtain ⟨f0, f1, f2, ff⟩ := bk3A F3.out
      go_wp2_with fail
      refine (HG.out _).mono ?_
      rintro e w4 ⟨rfl, b4⟩
      have X4 := Lib.hid (b4.alloc b4.size (.cells #[.bool false, .int .i64 0, .int .i64 0] 34))
      have N4 := Lib.hid ((X4.out.block _ (lt_of_block N3.out)).trans N3.out)
      have F4 := Lib.hid ((X4.out.block _ (lt_of_block F3.out)).trans F3.out)
      have B4 := Lib.hid (B3.out.trans (X4.out.mono B3.out.size))
      clear b4 f0 f1 f2 ff
      go_upto_region 21 with fail
      obtain ⟨W4, hW4⟩ : ∃ W, w4.alloc (.cells #[.bool false, .int .i64 0, .int .i64 0] 34) = W := ⟨_, rfl⟩
      clear X4
      rw [hW4] at N4 F4 B4 ⊢
      clear hW4
      obtain ⟨f0, f1, f2, ff⟩ := bk3A F4.out
      obtain ⟨n0, n1', n2', nf⟩ := bk3A N4.out
      go_wp2_with fail
      refine (HC.out _).mono ?_
      rintro e w5 ⟨rfl, b5⟩
      have B5 := Lib.hid (B4.out.trans (b5.mono B4.out.size))
      have N5 := Lib.hid ((b5.block _ (lt_of_block N4.out)).trans N4.out)
      clear b5 f0 f1 f2 ff n0 n1' n2' nf
      obtain ⟨n0, n1', n2', nf⟩ := bk3A N5.out
      go_wp2_with fail
      go_ret
      exact ⟨by first | rfl | simp, B5.out⟩
end Go.Proofs.Ytpfahdogedchpaa
