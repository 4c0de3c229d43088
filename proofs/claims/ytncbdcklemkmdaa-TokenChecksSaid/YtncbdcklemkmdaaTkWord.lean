/- Contracts of the project's token.isTime, token.appendWord and token.firstWord. -/
import Derived.Test.YtncbdcklemkmdaaTkMath
import Derived.Test.YtncbdcklemkmdaaApp
import Derived.Test.YtncbdcklemkmdaaOwnB
import Derived.Test.YtncbdcklemkmdaaMem
import Derived.Deep.LoopGhost
namespace Go.Proofs.Ytncbdcklemkmdaa
set_option linter.unusedVariables false
open Go.RowKit P

theorem wd_shr8 (n : Int) (h0 : 0 ≤ n) : ∀ k : Nat, shr8 k n = n / 2 ^ (8 * k)
  | 0 => by simp [shr8]
  | k + 1 => by
    rw [shr8, wd_shr8 n h0 k, show 8 * (k + 1) = 8 * k + 8 by omega, Int.pow_add, ← Int.ediv_ediv_of_nonneg (by exact Int.pow_nonneg (by decide))]
    rfl
theorem wd_next (n : Int) (g : Nat) (Y : List Int) : Y ++ lowB (g + 1) n = (Y ++ [shr8 g n % 256]) ++ lowB g n := by
  simp [lowB]
theorem wd_one (w : World) (z : Int) (t : TypeId) (hz : 0 ≤ z ∧ z ≤ 255) : BRow (w.alloc (.cells #[.int .u8 z] t)) (w.heap.size + 1) (some ⟨w.heap.size, 0, none⟩) [z] :=
  ⟨byt1 hz, fun _ => ⟨_, 0, rfl, by omega, fun j hj => by
    obtain rfl : j = 0 := by simpa using hj
    simp⟩⟩
theorem wd_or (x y : Int) (hx : 0 ≤ x) (hx1 : x ≤ 72057594037927935) (hy : 0 ≤ y) (hy1 : y ≤ 255) : bits .or .u64 (x * 256) y = x * 256 + y :=
  bits_join .u64 64 (by decide) (fun n h0 h1 => by rw [IntKind.wrap_u64]; omega) 8 (x * 256) y (by omega) (by omega) (by omega) hy (by omega) (by omega)
theorem wd_bd {zs : List Int} (hb : Byt zs) (j : Nat) (hj : j ≤ 7) (hl : j ≤ zs.length) : 0 ≤ beFrom 0 (zs.take j) ∧ beFrom 0 (zs.take j) ≤ 72057594037927935 := by
  have h := beFrom_bd 0 zs hb (Int.le_refl 0) j hl
  have c : j = 0 ∨ j = 1 ∨ j = 2 ∨ j = 3 ∨ j = 4 ∨ j = 5 ∨ j = 6 ∨ j = 7 := by omega
  rcases c with rfl | rfl | rfl | rfl | rfl | rfl | rfl | rfl <;> (have h2 := h.2; simp at h2; exact ⟨h.1, by omega⟩)

theorem isTime_any (n : Int) (w : World) :
    Calls Try.prog 14 #[.int .i64 n] w fun e w' => e = .returned (.bool (decide (0 ≤ n ∧ n ≤ 1099511627776))) ∧ w' = w := by
  by_cases h0 : 0 ≤ n
  · by_cases h1 : n ≤ 1099511627776
    · have g : decide (0 ≤ n ∧ n ≤ 1099511627776) = true := by simp; omega
      rw [g]
      go_enter Try.func14, Try.ntmps14
      go_wp2
      go_ret
      exact ⟨by simp [h0, h1], rfl⟩
    · have g : decide (0 ≤ n ∧ n ≤ 1099511627776) = false := by simp; omega
      rw [g]
      go_enter Try.func14, Try.ntmps14
      go_wp2
      go_ret
      exact ⟨by simp [h0, h1], rfl⟩
  · have g : decide (0 ≤ n ∧ n ≤ 1099511627776) = false := by simp; omega
    rw [g]
    go_enter Try.func14, Try.ntmps14
    go_wp2
    go_ret
    exact ⟨by simp [h0], rfl⟩

theorem firstWord_any (A : Option Addr) (n c : Nat) (zs : List Int) (w : World) (h8 : 8 ≤ n) (hl : n = zs.length) (hc : n ≤ c) (hm : c ≤ maxLen) (hr : BRow w w.heap.size A zs) :
    Calls Try.prog 22 #[.slice A n c] w fun e w' => e = .returned (.int .u64 (beFrom 0 (zs.take 8))) ∧ w' = w := by
  obtain ⟨b, off, rfl, hb, hcell⟩ := hr.2 (by omega)
  have HC := Lib.hid hcell
  have HB := Lib.hid hr.1
  unfold maxLen at hm
  have h8c : 8 ≤ c := by omega
  have HL := Lib.hid (show 8 ≤ zs.length by omega)
  clear hcell hr hl
  go_enter Try.func22, Try.ntmps22
  go_wp2_with fail
  go_loopg [3, 9] 8 (fun gq h i wr => ∃ j : Nat, j + gq = 8 ∧ h = .int .u64 (beFrom 0 (zs.take j)) ∧ i = .int .i64 j ∧ wr = w)
  case atStart => exact ⟨0, by omega, rfl, rfl, rfl⟩
  case round =>
    obtain ⟨j, hj, rfl, rfl, rfl⟩ := hrel
    by_cases hjt : j < 8
    · have SB := Lib.hid (beFrom_step 0 zs j (by have := HL.out; omega))
      have hc2 := HC.out j (by have := HL.out; omega)
      have hbz := HB.out j
      have hbd := wd_bd HB.out j (by omega) (by have := HL.out; omega)
      generalize zs.getD j 0 = z at *
      generalize beFrom 0 (zs.take j) = v at *
      have hor := wd_or v z hbd.1 hbd.2 hbz.1 hbz.2
      go_wp2_with fail
      go_roundg (gk - 1)
      case measure => omega
      case rel => exact ⟨j + 1, by omega, by rw [SB.out], by go_num, rfl⟩
    · obtain rfl : j = 8 := by omega
      obtain rfl : gk = 0 := by omega
      go_wp2_with fail
      go_ret
      exact ⟨rfl, rfl⟩

set_option maxHeartbeats 400000 in
theorem appWord_any (y : Nat) (hy : y < 18446744073709551616) (B0 : Nat) (X : List Int) (A : Option Addr) (c : Nat) (w : World) (hX : X.length ≤ 1000) (hB0 : B0 ≤ w.heap.size)
    (own : w.ownsRow B0 5 1 (.slice A X.length c) X.length (X.map (.int .u8))) :
    Calls Try.prog 15 #[.slice A X.length c, .int .u64 y] w fun e w' => Below B0 w w' ∧ ∃ d, e = .returned d ∧ w'.ownsRow B0 5 1 d (X ++ lowB 8 (y : Nat)).length ((X ++ lowB 8 (y : Nat)).map (.int .u8)) := by
  obtain ⟨i0, hi0, hz0, hz1, hz2⟩ := info_parts infoB1
  have HI := Lib.hid hi0
  have HZ := Lib.hid hz0
  have HZ1 := Lib.hid hz1
  have HZ2 := Lib.hid hz2
  have O0 := Lib.hid own
  have HY0 := Lib.hid hy
  clear hi0 hz0 hz1 hz2 own hy
  go_enter Try.func15, Try.ntmps15
  go_wp2_with fail
  go_loopg [0, 5] 8 (fun gq v i wr => ∃ (Y : List Int) (A' : Option Addr) (c' : Nat), v = .slice A' Y.length c' ∧ i = .int .i64 (8 * (gq : Int) - 8) ∧ Y.length + gq = X.length + 8 ∧ gq ≤ 8 ∧ Hid (wr.ownsRow B0 5 1 (.slice A' Y.length c') Y.length (Y.map (.int .u8))) ∧ Hid (Y ++ lowB gq (y : Nat) = X ++ lowB 8 (y : Nat)) ∧ Hid (Below B0 w wr))
  case atStart => exact ⟨X, A, c, rfl, rfl, by omega, by omega, O0, Lib.hid rfl, Lib.hid (Below.refl _ _)⟩
  case round =>
    obtain ⟨Y, A', c', rfl, rfl, hYl, hg8, OK, HY, BK⟩ := hrel
    rcases gk with _ | r
    · have hYe : Y = X ++ lowB 8 (y : Nat) := by have := HY.out; simpa [lowB] using this
      have HYE := Lib.hid hYe
      clear hYe
      go_wp2
      go_ret
      exact ⟨BK.out, _, rfl, by rw [← HYE.out]; exact OK.out⟩
    · have hr8 : 8 * (((r + 1 : Nat) : Int)) - 8 = 8 * (r : Int) := by omega
      have hr7 : r ≤ 7 := by omega
      · have hzb : 0 ≤ (y : Int) / 2 ^ (8 * r) % 256 ∧ (y : Int) / 2 ^ (8 * r) % 256 ≤ 255 := by omega
        have HZZ := Lib.hid (wd_shr8 (y : Int) (by omega) r)
        obtain ⟨z, hz⟩ : ∃ z, (y : Int) / 2 ^ (8 * r) % 256 = z := ⟨_, rfl⟩
        rw [hz] at hzb
        rw [hr8]
        have hwz : IntKind.i64.wrap (8 * (r : Int) - 8) = 8 * (r : Int) - 8 := by rw [IntKind.wrap_i64]; omega
        have OA := Lib.hid (World.ownsRow.alloc OK.out (.cells #[.int .u8 z] 5))
        have hBS := Lib.hid (show B0 ≤ wr.heap.size from Nat.le_trans hB0 (by have := BK.out.size; omega))
        go_wp2_with (at_builtin
                     refine wpList_app _ rfl (.tmp 10) (.tmp 15) _ rfl B0 5 i0 Try.underlying23 HI.out HZ.out HZ1.out HZ2.out (.slice A' Y.length c') Y.length _ rfl OA.out (wr.heap.size + 1) (some ⟨wr.heap.size, 0, none⟩) 1 1 [z] rfl (wd_one wr z _ hzb) rfl (fun h => by cases h) (by omega) (by have := hBS.out; simp; omega) ?_
                     intro v2 w2 own2 g2 hr2
                     obtain ⟨A2, c2, hv2, _, _⟩ := own_slice own2
                     subst hv2
                     have O5 := Lib.hid own2
                     have B5 := Lib.hid ((BK.out.alloc hBS.out (.cells #[.int .u8 z] 5)).grown g2 (by have := hBS.out; simp; omega) (fun j hj => (World.ownsRow.lt OA.out j hj).1))
                     clear own2 g2 hr2)
        have e9 : (Y ++ [z]).length = Y.length + 1 := by simp
        go_roundg r
        case measure => omega
        case rel => exact ⟨Y ++ [z], A2, c2, by rw [e9], rfl, by omega, by omega, Lib.hid (by rw [e9, List.map_append]; exact O5.out), Lib.hid (by rw [← HY.out, wd_next, HZZ.out, hz]), B5⟩
end Go.Proofs.Ytncbdcklemkmdaa
