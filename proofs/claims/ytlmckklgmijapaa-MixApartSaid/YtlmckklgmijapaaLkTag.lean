/- Contract of the project's lock.tag. -/
import Derived.Test.YtlmckklgmijapaaLkTurn
import Derived.Test.YtlmckklgmijapaaRefTag
namespace Go.Proofs.Ytlmckklgmijapaa
set_option linter.unusedVariables false
open Go.RowKit P

theorem lowB_cut (n : Int) : ∀ k j, j ≤ k → (lowB k n).drop j = lowB (k - j) n
  | k, 0, _ => by simp
  | 0, j + 1, h => by omega
  | k + 1, j + 1, h => by
    simp only [lowB, List.drop_succ_cons]
    rw [lowB_cut n k j (by omega), show k + 1 - (j + 1) = k - j by omega]
theorem shr8_pow (n : Int) (h0 : 0 ≤ n) : ∀ k : Nat, shr8 k n = n / 2 ^ (8 * k)
  | 0 => by simp [shr8]
  | k + 1 => by
    rw [shr8, shr8_pow n h0 k, show 8 * (k + 1) = 8 * k + 8 by omega, Int.pow_add, ← Int.ediv_ediv_of_nonneg (by exact Int.pow_nonneg (by decide))]
    rfl
theorem lowB_next (n : Int) (g : Nat) (Y : List Int) : Y ++ lowB (g + 1) n = (Y ++ [shr8 g n % 256]) ++ lowB g n := by
  simp [lowB]

theorem tag_one (w : World) (z : Int) (t : TypeId) (hz : 0 ≤ z ∧ z ≤ 255) : BRow (w.alloc (.cells #[.int .u8 z] t)) (w.heap.size + 1) (some ⟨w.heap.size, 0, none⟩) [z] :=
  ⟨byt1 hz, fun _ => ⟨_, 0, rfl, by omega, fun j hj => by
    obtain rfl : j = 0 := by simpa using hj
    simp⟩⟩

set_option maxHeartbeats 400000 in
theorem tag_any (key : Nat) (hk : key < 18446744073709551616) (n : Int) (L : List (List Int)) (g cap : Nat) (w : World)
    (hL : ∀ k, k < L.length → ∃ A c, w.cell? ⟨g, k, none⟩ = some (.slice A (L.getD k []).length c) ∧ BRow w w.heap.size A (L.getD k []) ∧ (L.getD k []).length ≤ 140737488351240) (hg : g < w.heap.size) (hcap : L.length ≤ cap) (hm : cap ≤ maxLen) (hl : L.length ≤ 10) :
    Calls Try.prog 20 #[.int .u64 key, .int .i64 n, .slice (some ⟨g, 0, none⟩) L.length cap] w fun e w' => Below w.heap.size w w' ∧ ∃ d, e = .returned d ∧ w'.ownsRow w.heap.size 5 1 d 8 ((lowB 8 (L.foldl tagP (wd n ^^^ mx key) : Nat)).map (.int .u8)) := by
  have hwd : IntKind.u64.wrap n = (wd n : Int) := by rw [IntKind.wrap_u64]; unfold wd; omega
  have hxo : bits .xor .u64 (mx key : Int) (wd n : Int) = ((wd n ^^^ mx key : Nat) : Int) := by rw [Nat.xor_comm]; exact bits_xor_u64_nat _ _ (mx_lt key) (wd_lt n)
  have hq : wd n ^^^ mx key < 18446744073709551616 := xor_lt (wd_lt n) (mx_lt key)
  have HMS : Hid (∀ w, Calls Try.prog 9 #[.int .u64 key] w fun e w' => e = .returned (.int .u64 (mx key)) ∧ Below w.heap.size w w') := Lib.hid (fun w => mix_any key hk w)
  generalize wd n ^^^ mx key = t at *
  generalize wd n = a at *
  generalize mx key = m at *
  have HQ := Lib.hid hq
  have HL := Lib.hid hL
  have HG := Lib.hid hg
  obtain ⟨i0, hi0, hz0, hz1, hz2⟩ := info_parts infoB1
  have HI := Lib.hid hi0
  have HZ := Lib.hid hz0
  have HZ1 := Lib.hid hz1
  have HZ2 := Lib.hid hz2
  clear hq hL hk hg hi0 hz0 hz1 hz2
  go_enter Try.func20, Try.ntmps20
  go_wp2_with fail
  refine (HMS.out _).mono ?_
  rintro e w1 ⟨rfl, b1⟩
  have B1 := Lib.hid b1
  clear b1
  go_wp2_with fail
  clear hwd hxo
  go_loopg [7, 21] L.length (fun gq h i wr => ∃ k : Nat, k + gq = L.length ∧ h = .int .u64 (((L.take k).foldl tagP t : Nat) : Int) ∧ i = .int .i64 k ∧ Hid (Below w.heap.size w wr))
  case atStart => exact ⟨0, by omega, rfl, rfl, B1⟩
  case round =>
    obtain ⟨k, hkl, rfl, rfl, BR⟩ := hrel
    have hy := tags_lt t HQ.out (L.take k)
    by_cases hlt : k < L.length
    · have ST := Lib.hid (tags_snoc t L k hlt)
      obtain ⟨A, c, hc, hby, hbl⟩ := HL.out k hlt
      have hc' : wr.cell? ⟨g, k, none⟩ = some (.slice A (L.getD k []).length c) := (BR.out.cell HG.out).trans hc
      clear hc
      generalize (L.take k).foldl tagP t = y at *
      obtain ⟨zs, hz⟩ : ∃ zs, L.getD k [] = zs := ⟨_, rfl⟩
      rw [hz] at hc' hby hbl ST
      obtain ⟨N, hN⟩ : ∃ N, zs.length = N := ⟨_, rfl⟩
      have HN := Lib.hid hN
      rw [hN] at hc' hbl
      have HBY := Lib.hid hby
      have HY := Lib.hid hy
      clear hby hz hN hy
      obtain ⟨wq, hwq⟩ : ∃ q, q = wr := ⟨_, rfl⟩
      subst hwq
      obtain ⟨qk, hqk⟩ : ∃ q, q = gk := ⟨_, rfl⟩
      subst hqk
      go_wp2_with fail
      go_loopg [7, 27] N (fun gq h i wr => ∃ j : Nat, j + gq = N ∧ h = .int .u64 ((tagB y (zs.take j) : Nat) : Int) ∧ i = .int .i64 j ∧ Hid (Below wq.heap.size wq wr))
      case atStart => exact ⟨0, by omega, rfl, rfl, Lib.hid (Below.refl _ _)⟩
      case round =>
        obtain ⟨j, hj, rfl, rfl, B2⟩ := hrel
        have hv := tagB_lt y HY.out (zs.take j)
        by_cases hjt : j < N
        · have SB := Lib.hid (tagB_snoc y zs j (by rw [HN.out]; exact hjt))
          obtain ⟨b, off, rfl, hb, hcell⟩ := HBY.out.2 (by rw [HN.out]; omega)
          have hc2 := ((BR.out.trans (B2.out.mono BR.out.size)).cell (p := ⟨b, off + j, none⟩) hb).trans (hcell j (by rw [HN.out]; exact hjt))
          have hbz := HBY.out.1 j
          generalize zs.getD j 0 = z at *
          generalize tagB y (zs.take j) = v at *
          have hxo : bits .xor .u64 (v : Int) z = ((z.toNat ^^^ v : Nat) : Int) := by
            have := bits_xor_u64_nat v z.toNat hv (by omega)
            rw [Nat.xor_comm]
            rwa [show ((z.toNat : Nat) : Int) = z by omega] at this
          have HM := Lib.hid (fun w => mix_any (z.toNat ^^^ v) (xor_lt (by omega) hv) w)
          generalize z.toNat ^^^ v = q at *
          generalize hmq : mx q = r at *
          clear hmq hv
          go_wp2_with fail
          refine (HM.out _).mono ?_
          rintro e w3 ⟨rfl, b3⟩
          go_wp2_with fail
          go_roundg (gk - 1)
          case measure => omega
          case rel => exact ⟨j + 1, by omega, by rw [SB.out], by go_num, Lib.hid (B2.out.trans (b3.mono B2.out.size))⟩
        · obtain rfl : j = N := by omega
          obtain rfl : gk = 0 := by omega
          rw [List.take_of_length_le (by rw [HN.out]; exact Nat.le_refl _)] at hv
          have ht : tagB y (zs.take j) = tagB y zs := by rw [List.take_of_length_le (by rw [HN.out]; exact Nat.le_refl _)]
          have hTP : tagP y zs = mx (tagB y zs ^^^ (256 * zs.length) % 18446744073709551616) := by unfold tagP tagB; rw [Nat.mul_comm]
          rw [ht]
          have HP := Lib.hid hTP
          clear hTP ht
          have hmod : (256 * zs.length) % 18446744073709551616 = 256 * j := by have := HN.out; omega
          rw [hmod] at HP
          generalize tagB y zs = v at *
          have hxo : bits .xor .u64 (v : Int) (256 * (j : Int)) = ((v ^^^ (256 * j) : Nat) : Int) := by
            have := bits_xor_u64_nat v (256 * j) hv (by omega)
            rwa [show ((256 * j : Nat) : Int) = 256 * (j : Int) by omega] at this
          have HM := Lib.hid (fun w => mix_any (v ^^^ (256 * j)) (xor_lt hv (by omega)) w)
          generalize v ^^^ (256 * j) = q at *
          generalize hmq : mx q = r at *
          clear hmq hv hmod
          go_wp2_with fail
          refine (HM.out _).mono ?_
          rintro e w3 ⟨rfl, b3⟩
          go_wp2_with fail
          go_roundg (qk - 1)
          case measure => omega
          case rel => exact ⟨k + 1, by omega, by rw [ST.out, HP.out], by go_num, Lib.hid (BR.out.trans ((B2.out.trans (b3.mono B2.out.size)).mono BR.out.size))⟩
    · obtain rfl : k = L.length := by omega
      obtain rfl : gk = 0 := by omega
      rw [List.take_of_length_le (Nat.le_refl _)] at hy ⊢
      obtain ⟨y, hy0⟩ : ∃ y, L.foldl tagP t = y := ⟨_, rfl⟩
      rw [hy0] at hy ⊢
      have HY0 := Lib.hid hy0
      clear hy0
      go_wp2_with (at_make
                   refine wpList_make_room _ rfl _ _ _ rfl w.heap.size 5 i0 _ Try.underlying26 HI.out HZ.out HZ1.out rfl _ _ _ _ 0 8 rfl rfl rfl rfl (by omega) (by rw [HZ2.out]; omega) (by unfold maxLen; omega) BR.out.size ?_
                   intro w3 own3 g3
                   have O3 := Lib.hid (show w3.ownsRow w.heap.size 5 1 (.slice (some ⟨wr.heap.size, 0, none⟩) ([] : List Int).length 8) ([] : List Int).length (([] : List Int).map (.int .u8)) from own3)
                   have B3 := Lib.hid (BR.out.grown g3 BR.out.size (fun _ h => by cases h))
                   clear own3 g3)
      have HYB := Lib.hid hy
      clear hy
      go_loopg [12, 13] 8 (fun gq v i wr => ∃ (Y : List Int) (A' : Option Addr) (c' : Nat), v = .slice A' Y.length c' ∧ i = .int .i64 (8 * (gq : Int) - 8) ∧ Y.length + gq = 8 ∧ Hid (wr.ownsRow w.heap.size 5 1 (.slice A' Y.length c') Y.length (Y.map (.int .u8))) ∧ Hid (Y ++ lowB gq (y : Nat) = lowB 8 (y : Nat)) ∧ Hid (Below w.heap.size w wr))
      case atStart => exact ⟨[], _, _, rfl, rfl, rfl, O3, Lib.hid rfl, B3⟩
      case round =>
        obtain ⟨Y, A', c', rfl, rfl, hYl, OK, HY, BK⟩ := hrel
        rcases gk with _ | r
        · have h0 : Y.length = 8 := by omega
          have hYe : Y = lowB 8 (y : Nat) := by have := HY.out; simpa [lowB] using this
          have HYE := Lib.hid hYe
          clear hYe
          go_wp2
          go_ret
          exact ⟨BK.out, _, rfl, by have := OK.out; rw [h0, HYE.out] at this; rw [h0, HY0.out]; exact this⟩
        · have hr8 : 8 * (((r + 1 : Nat) : Int)) - 8 = 8 * (r : Int) := by omega
          have hr7 : r ≤ 7 := by omega
          have hzb : 0 ≤ (y : Int) / 2 ^ (8 * r) % 256 ∧ (y : Int) / 2 ^ (8 * r) % 256 ≤ 255 := by omega
          have HZZ := Lib.hid (shr8_pow (y : Int) (by omega) r)
          obtain ⟨z, hz⟩ : ∃ z, (y : Int) / 2 ^ (8 * r) % 256 = z := ⟨_, rfl⟩
          rw [hz] at hzb
          rw [hr8]
          have hwz : IntKind.i64.wrap (8 * (r : Int) - 8) = 8 * (r : Int) - 8 := by rw [IntKind.wrap_i64]; omega
          have OA := Lib.hid (World.ownsRow.alloc OK.out (.cells #[.int .u8 z] 5))
          go_wp2_with (at_builtin
                       refine wpList_app _ rfl (.tmp 50) (.tmp 55) _ rfl w.heap.size 5 i0 Try.underlying26 HI.out HZ.out HZ1.out HZ2.out (.slice A' Y.length c') Y.length _ rfl OA.out (wr.heap.size + 1) (some ⟨wr.heap.size, 0, none⟩) 1 1 [z] rfl (tag_one wr z _ hzb) rfl (fun h => by cases h) (by omega) (by have := BK.out.size; simp; omega) ?_
                       intro v2 w2 own2 g2 hr2
                       obtain ⟨A2, c2, hv2, _, _⟩ := own_slice own2
                       subst hv2
                       have O5 := Lib.hid own2
                       have B5 := Lib.hid ((BK.out.alloc BK.out.size (.cells #[.int .u8 z] 5)).grown g2 (by have := BK.out.size; simp; omega) (fun j hj => (World.ownsRow.lt OA.out j hj).1))
                       clear own2 g2 hr2)
          have e9 : (Y ++ [z]).length = Y.length + 1 := by simp
          go_roundg r
          case measure => omega
          case rel => exact ⟨Y ++ [z], A2, c2, by rw [e9], rfl, by omega, Lib.hid (by rw [e9, List.map_append]; exact O5.out), Lib.hid (by rw [← HY.out, lowB_next, HZZ.out, hz]), B5⟩
end Go.Proofs.Ytlmckklgmijapaa
