/- The project's prefix.Encode. -/
import Derived.Test.YtenhdnanfgnfjaaPxPost
import Derived.Test.YtenhdnanfgnfjaaPxTop
namespace Go.Proofs.Ytenhdnanfgnfjaa
set_option linter.unusedVariables false
open Go.RowKit P

set_option maxHeartbeats 1000000 in
theorem pxEnc_any : PxEncW Try.prog 7 := fun first wi n w f0 f1 w0 w1 => by
  have NO := Lib.hid (show ∀ x, x ≠ 0 → ∀ w', Below w.heap.size w w' → PxPostW x (pxL first wi n) w (.returned (.tuple #[.slice none 0 0, .int .i64 x])) w' from fun x hx w' hb => ⟨hb, _, rfl, fun _ => rfl, fun h => (hx h).elim⟩)
  by_cases hw : 1 ≤ wi ∧ wi ≤ 8
  · have HW := Lib.hid hw
    by_cases hn0 : n < 0
    · have e1 : decide (n < 0) = true := by simp [hn0]
      have HF := Lib.hid (show pxF first wi n = 6 from if_pos (by omega))
      rw [HF.out]
      clear hw hn0
      go_enter Try.func7, Try.ntmps7
      go_wp2_with (first
        | (go_at_call 19; refine (isWidth_yes HW.out _).mono ?_; rintro e w' ⟨rfl, rfl⟩))
      go_ret2
      exact NO.out 6 (by decide) _ (Below.refl _ _)
    · have e1 : decide (n < 0) = false := by simp; omega
      by_cases hn1 : 4611686018427387903 < n
      · have e2 : decide (4611686018427387903 < n) = true := by simp [hn1]
        have HF := Lib.hid (show pxF first wi n = 6 from if_pos (by omega))
        rw [HF.out]
        clear hw hn0 hn1
        go_enter Try.func7, Try.ntmps7
        go_wp2_with (first
          | (go_at_call 19; refine (isWidth_yes HW.out _).mono ?_; rintro e w' ⟨rfl, rfl⟩))
        go_ret2
        exact NO.out 6 (by decide) _ (Below.refl _ _)
      · have e2 : decide (4611686018427387903 < n) = false := by simp; omega
        obtain ⟨ht1, ht2⟩ := topW_in wi
        have HIN := Lib.hid (fun h => first_in (w := wi) f0 f1 h)
        have HF0 := Lib.hid (show pxF first wi n = if first % (topW wi + 1) ≠ 0 then 3 else 0 from if_neg (by omega))
        have HL := Lib.hid (show pxL first wi n = if n < topW wi then [first + n] else (first + topW wi) :: pxD (n - topW wi).toNat from rfl)
        have HLE := Lib.hid (fun h => (pxL_len (first := first) (w := wi) (n := n) h).2)
        have hand := and_top first f0 f1 wi hw
        have HOR := Lib.hid (fun m (m0 : 0 ≤ m) (m1 : m ≤ topW wi) h => or_topv first m f0 f1 m0 wi hw m1 h)
        have HTOP := Lib.hid (fun w => topOf_any wi hw w)
        obtain ⟨L, hL⟩ : ∃ L, pxL first wi n = L := ⟨_, rfl⟩
        obtain ⟨x, hx⟩ : ∃ x, pxF first wi n = x := ⟨_, rfl⟩
        rw [hL] at NO HL HLE ⊢
        rw [hx] at HF0 HLE ⊢
        obtain ⟨T, hT⟩ : ∃ T, topW wi = T := ⟨_, rfl⟩
        rw [hT] at ht1 ht2 HIN HF0 HL hand HOR HTOP
        clear hL hT hw hx w0 w1
        by_cases h : first % (T + 1) = 0
        · have hx : x = 0 := by rw [HF0.out, if_neg (by omega)]
          subst hx
          have g' : (first % (T + 1) != 0) = false := by simp [h]
          have g : (first % (T + 1) == 0) = true := by simp [h]
          have hft := HIN.out h
          by_cases q : n < T
          · have e3 : decide (n < T) = true := by simp [q]
            have hn8 : n % 256 = n := by omega
            have hor := HOR.out n (by omega) (by omega) h
            have hL1 := Lib.hid (HL.out.trans (if_pos q))
            have B1 := Lib.hid ((Below.refl w.heap.size w).alloc (Nat.le_refl _) (.cells #[.int .u8 (first + n)] 5))
            rw [hL1.out]
            clear q h hft
            go_enter Try.func7, Try.ntmps7
            go_wp2_with (first
              | (go_at_call 19; refine (isWidth_yes HW.out _).mono ?_; rintro e w' ⟨rfl, rfl⟩)
              | (go_at_call 20; refine (HTOP.out _).mono ?_; rintro e w' ⟨rfl, rfl⟩))
            go_ret2
            exact ⟨B1.out, _, rfl, fun h => (h rfl).elim, fun _ => wrow_lit w (first + n) _⟩
          · have e3 : decide (n < T) = false := by simp; omega
            have hn8 : T % 256 = T := by omega
            have hor := HOR.out T (by omega) (by omega) h
            have hL1 := Lib.hid (HL.out.trans (if_neg q))
            obtain ⟨M, hM⟩ : ∃ M : Nat, n - T = M := ⟨(n - T).toNat, by omega⟩
            have hMt : (n - T).toNat = M := by omega
            rw [hMt] at hL1
            have hwr : IntKind.i64.wrap (n - T) = (M : Int) := by rw [IntKind.wrap_i64]; omega
            have H0 := Lib.hid (show [first + T] ++ pxD M = L from hL1.out.symm)
            have hM1 : M ≤ 4611686018427387903 := by omega
            have HLE2 := Lib.hid (HLE.out rfl)
            have B1 := Lib.hid ((Below.refl w.heap.size w).alloc (Nat.le_refl _) (.cells #[.int .u8 (first + T)] 5))
            have O1 := Lib.hid (own_lit w (first + T) 5 w.heap.size (Nat.le_refl _))
            obtain ⟨i0, hi0, hz0, hz1, hz2⟩ := info_parts infoB1
            have HI := Lib.hid hi0
            have HZ := Lib.hid hz0
            have HZ1 := Lib.hid hz1
            have HZ2 := Lib.hid hz2
            clear q h hft hM hMt hi0 hz0 hz1 hz2
            go_enter Try.func7, Try.ntmps7
            go_wp2_with (first
              | (go_at_call 19; refine (isWidth_yes HW.out _).mono ?_; rintro e w' ⟨rfl, rfl⟩)
              | (go_at_call 20; refine (HTOP.out _).mono ?_; rintro e w' ⟨rfl, rfl⟩))
            obtain ⟨W1, hW1⟩ : ∃ W, w.alloc (.cells #[.int .u8 (first + T)] 5) = W := ⟨_, rfl⟩
            rw [hW1] at B1 O1 ⊢
            clear hW1 hwr hor hand g g' e1 e2 e3 hn8
            go_loopw [2, 9] (fun nv bv wr => ∃ (m : Nat) (Y : List Int) (A : Option Addr) (c : Nat), nv = .int .i64 m ∧ bv = .slice A Y.length c ∧ m ≤ 4611686018427387903 ∧ Hid (Y ++ pxD m = L) ∧ Hid (wr.ownsRow w.heap.size 5 1 (.slice A Y.length c) Y.length (Y.map (.int .u8))) ∧ Hid (Below w.heap.size w wr)) (fun nv _ _ => (intOf nv).toNat)
            case atStart => exact ⟨M, [first + T], some ⟨w.heap.size, 0, none⟩, 1, rfl, rfl, hM1, H0, O1, B1⟩
            case round =>
              obtain ⟨m, Y, A, c, rfl, rfl, hm, HY, OY, BK⟩ := hrel
              have hlen := congrArg List.length HY.out
              rw [List.length_append] at hlen
              have hle := HLE2.out
              have hp := pxD_pos m
              have hYl : Y.length ≤ 9 := by omega
              have hBS := Lib.hid (show w.heap.size ≤ wr.heap.size from BK.out.size)
              clear hlen hle hp
              by_cases hlt : 128 ≤ m
              · have hzb : 0 ≤ (m : Int) % 128 + 128 ∧ (m : Int) % 128 + 128 ≤ 255 := by omega
                have hst : pxD m = ((128 + m % 128 : Nat) : Int) :: pxD (m / 128) := pxD_hi (by omega)
                have HN := Lib.hid (show (Y ++ [(m : Int) % 128 + 128]) ++ pxD (m / 128) = L by rw [← HY.out, hst, List.append_assoc]; simp; omega)
                have e4 : decide ((128 : Int) ≤ (m : Int)) = true := by simp; omega
                have hzw : IntKind.u8.wrap ((m : Int) % 128 + 128) = (m : Int) % 128 + 128 := by rw [IntKind.wrap_u8]; omega
                have hzm : (m : Int) % 128 % 256 = (m : Int) % 128 := by omega
                have hmm : ((m : Int) % 128 + 128) % 256 = (m : Int) % 128 + 128 := by omega
                have OA := Lib.hid (World.ownsRow.alloc OY.out (.cells #[.int .u8 ((m : Int) % 128 + 128)] 5))
                clear hst
                go_wp2_with (at_builtin
                             refine wpList_app _ rfl (.tmp 50) (.tmp 55) _ rfl w.heap.size 5 i0 Try.underlying22 HI.out HZ.out HZ1.out HZ2.out (.slice A Y.length c) Y.length _ rfl OA.out (wr.heap.size + 1) (some ⟨wr.heap.size, 0, none⟩) 1 1 [(m : Int) % 128 + 128] rfl (brow_one wr _ _ hzb) rfl (fun h => by cases h) (by omega) (by have := hBS.out; simp; omega) ?_
                             intro v2 w2 own2 g2 hr2
                             obtain ⟨A2, c2, hv2, _, _⟩ := own_slice own2
                             subst hv2
                             have O5 := Lib.hid own2
                             have B5 := Lib.hid ((BK.out.alloc hBS.out (.cells #[.int .u8 ((m : Int) % 128 + 128)] 5)).grown g2 (by have := hBS.out; simp; omega) (fun j hj => (World.ownsRow.lt OA.out j hj).1))
                             clear own2 g2 hr2)
                have e9 : (Y ++ [(m : Int) % 128 + 128]).length = Y.length + 1 := by simp
                go_roundw
                case rel => exact ⟨m / 128, Y ++ [(m : Int) % 128 + 128], A2, c2, by first | rfl | go_num, by rw [e9], by omega, HN, Lib.hid (by rw [e9, List.map_append]; exact O5.out), B5⟩
                case measure => simp [intOf]; omega
              · have hzb : 0 ≤ (m : Int) ∧ (m : Int) ≤ 255 := by omega
                have hst : pxD m = [(m : Int)] := pxD_lo (by omega)
                have HN := Lib.hid (show Y ++ [(m : Int)] = L by rw [← HY.out, hst])
                have e4 : decide ((128 : Int) ≤ (m : Int)) = false := by simp; omega
                have hzm : (m : Int) % 256 = (m : Int) := by omega
                have OA := Lib.hid (World.ownsRow.alloc OY.out (.cells #[.int .u8 (m : Int)] 5))
                clear hst
                go_wp2_with (at_builtin
                             refine wpList_app _ rfl (.tmp 57) (.tmp 60) _ rfl w.heap.size 5 i0 Try.underlying22 HI.out HZ.out HZ1.out HZ2.out (.slice A Y.length c) Y.length _ rfl OA.out (wr.heap.size + 1) (some ⟨wr.heap.size, 0, none⟩) 1 1 [(m : Int)] rfl (brow_one wr _ _ hzb) rfl (fun h => by cases h) (by omega) (by have := hBS.out; simp; omega) ?_
                             intro v2 w2 own2 g2 hr2
                             obtain ⟨A2, c2, hv2, _, _⟩ := own_slice own2
                             subst hv2
                             have O5 := Lib.hid own2
                             have B5 := Lib.hid ((BK.out.alloc hBS.out (.cells #[.int .u8 (m : Int)] 5)).grown g2 (by have := hBS.out; simp; omega) (fun j hj => (World.ownsRow.lt OA.out j hj).1))
                             clear own2 g2 hr2)
                go_ret2
                exact ⟨B5.out, _, rfl, fun h => (h rfl).elim, fun _ => wrow_own (by rw [← HN.out, List.map_append]; exact O5.out) (by rw [← HN.out]; simp)⟩
        · have hx : x = 3 := by rw [HF0.out, if_pos h]
          subst hx
          have g' : (first % (T + 1) != 0) = true := by simp [h]
          clear h
          go_enter Try.func7, Try.ntmps7
          go_wp2_with (first
            | (go_at_call 19; refine (isWidth_yes HW.out _).mono ?_; rintro e w' ⟨rfl, rfl⟩)
            | (go_at_call 20; refine (HTOP.out _).mono ?_; rintro e w' ⟨rfl, rfl⟩))
          go_ret2
          exact NO.out 3 (by decide) _ (Below.refl _ _)
  · have HW := Lib.hid hw
    have HF := Lib.hid (show pxF first wi n = 6 from if_pos (by omega))
    rw [HF.out]
    clear hw
    go_enter Try.func7, Try.ntmps7
    go_wp2_with (first
      | (go_at_call 19; refine (isWidth_no HW.out _).mono ?_; rintro e w' ⟨rfl, rfl⟩))
    go_ret2
    exact NO.out 6 (by decide) _ (Below.refl _ _)
end Go.Proofs.Ytenhdnanfgnfjaa
