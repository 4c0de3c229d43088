/- The walk of LockBack, over what is asked of Seal and Open. -/
import Derived.Test.YtlmckklgmijapaaLkVal
import Derived.Test.YtlmckklgmijapaaOwnB
import Derived.Test.YtlmckklgmijapaaPick
import Derived.Lib.SlBytesConst
namespace Go.Proofs.Ytlmckklgmijapaa
set_option linter.unusedVariables false
open Go.RowKit P

theorem own_bd {w : World} {base e n m c : Nat} {A : Option Addr} {xs : List Value} (h : w.ownsRow base e 1 (.slice A n c) m xs) : n = m ∧ m ≤ c ∧ c ≤ maxLen := by
  obtain ⟨A', c', h1, h2, h3⟩ := own_slice h
  injection h1 with e1 e2 e3
  subst e3
  exact ⟨e2, h2, h3⟩
theorem lockTells_any (hS : SealDoes Try.prog 13 5) (w : World) :
    Calls Try.prog 18 #[] w fun e w' => e = .returned (.bool true) ∧ Below w.heap.size w w' := by
  have HB := Lib.hid ((Below.refl w.heap.size w).alloc (Nat.le_refl _) (.cells #[.int .u8 97, .int .u8 98, .int .u8 99] 5 (3, 4)))
  have hnew := heap_alloc_new w (.cells #[.int .u8 97, .int .u8 98, .int .u8 99] 5 (3, 4))
  have HR : Hid (BSl (w.alloc (.cells #[.int .u8 97, .int .u8 98, .int .u8 99] 5 (3, 4))) (w.alloc (.cells #[.int .u8 97, .int .u8 98, .int .u8 99] 5 (3, 4))).heap.size (.slice (some ⟨w.heap.size, 0, none⟩) 3 3) [97, 98, 99]) := Lib.hid
    ⟨_, 3, rfl, by simp, by unfold maxLen; omega, (fun e => by cases e), byt_cons (by decide) (byt_cons (by decide) (byt1 (by decide))), fun _ => ⟨w.heap.size, 0, rfl, by simp, fun j hj => by
      rw [cell_of_row _ _ (0 + j) _ _ _ hnew]
      have hj3 : j < 3 := hj
      obtain rfl | rfl | rfl : j = 0 ∨ j = 1 ∨ j = 2 := by omega
      all_goals rfl⟩⟩
  clear hnew
  have kc := Lib.run_convert_bytes_const (P := Try.prog) w 26 5 #[.int .u8 97, .int .u8 98, .int .u8 99] 3 3 Try.underlying26 Try.underlying5
  have hl := seal_len 1 2 [] [97, 98, 99]
  obtain ⟨X, hX⟩ : ∃ X, sealL 1 2 [] [97, 98, 99] = X := ⟨_, rfl⟩
  have HS := Lib.hid (hS 1 2 (.slice none 0 0) _ [] [97, 98, 99] _ (by decide) (BSl.nil _ _) (by simp) HR.out (by simp))
  rw [hX] at HS hl
  clear hX hS
  simp only [List.length_cons, List.length_nil] at hl
  go_enter Try.func18, Try.ntmps18
  go_wp2_with (go_at_call 13; refine HS.out.mono ?_; rintro e w1 ⟨b1, d, rfl, o1⟩; obtain ⟨A1, c1, rfl, _, _⟩ := own_slice o1; have B1 := Lib.hid (HB.out.trans (b1.mono HB.out.size)); clear b1 o1)
  go_ret
  exact ⟨by simp [hl], B1.out⟩

set_option maxRecDepth 100000 in
set_option maxHeartbeats 1000000 in
theorem lockBack_core (hS : SealDoes Try.prog 13 5) (hO : OpenDoes Try.prog 15)
    (x n at_ : Int) (A1 A2 : Option Addr) (n1 c1 n2 c2 : Nat) (z1 z2 : List Int) (W : World) (h1 : IsRow .u8 W A1 n1 c1 z1) (r1 : c1 * 1 ≤ 140737488351232) (h2 : IsRow .u8 W A2 n2 c2 z2) (r2 : c2 * 1 ≤ 140737488351232) :
    Calls Try.prog 6 #[.int .i64 x, .int .i64 n, .slice A1 n1 c1, .slice A2 n2 c2, .int .i64 at_] W fun e w' => e = .returned (.bool true) ∧ Below W.heap.size W w' := by
  have hw : IntKind.u64.wrap x = (wd x : Int) := by rw [IntKind.wrap_u64]; unfold wd; omega
  have hk := wd_lt x
  obtain ⟨key, hkey⟩ : ∃ key, wd x = key := ⟨_, rfl⟩
  rw [hkey] at hw hk
  obtain ⟨hb1, hl1, hc1, hm1⟩ := InRow.brow (show InRow W A1 n1 c1 z1 from h1)
  obtain ⟨hb2, hl2, hc2, hm2⟩ := InRow.brow (show InRow W A2 n2 c2 z2 from h2)
  have hn1 : A1 = none → c1 = 0 := fun e => by subst e; rcases h1 with ⟨_, _, e, _⟩ | ⟨x, e, _⟩ <;> first | exact e | cases e
  have hn2 : A2 = none → c2 = 0 := fun e => by subst e; rcases h2 with ⟨_, _, e, _⟩ | ⟨x, e, _⟩ <;> first | exact e | cases e
  obtain ⟨hd, hz1⟩ : ∃ zs, z1.take n1 = zs := ⟨_, rfl⟩
  obtain ⟨tx, hz2⟩ : ∃ zs, z2.take n2 = zs := ⟨_, rfl⟩
  rw [hz1] at hb1 hl1
  rw [hz2] at hb2 hl2
  have V1 := Lib.hid (show BSl W W.heap.size (.slice A1 n1 c1) hd from ⟨A1, c1, by rw [hl1], by rw [hl1]; exact hc1, hm1, hn1, hb1⟩)
  have V2 := Lib.hid (show BSl W W.heap.size (.slice A2 n2 c2) tx from ⟨A2, c2, by rw [hl2], by rw [hl2]; exact hc2, hm2, hn2, hb2⟩)
  have HB2 := Lib.hid hb2
  have HL2 := Lib.hid hl2
  have hsl := seal_len key n hd tx
  have hsb := seal_byt key n hd tx hb2.1
  have hop := open_seal key n hd tx hb2.1
  have HS := Lib.hid (hS key n _ _ hd tx W hk V1.out (by omega) V2.out (by omega))
  obtain ⟨X, hX⟩ : ∃ X, sealL key n hd tx = X := ⟨_, rfl⟩
  rw [hX] at HS hsl hsb hop
  have HSB := Lib.hid hsb
  have hl2' : X.length = n2 + 8 := by omega
  have HO1 : Hid (∀ v w, BSl w w.heap.size v X → BSl w w.heap.size (.slice A1 n1 c1) hd → Calls Try.prog 15 #[.int .u64 key, .int .i64 n, .slice A1 n1 c1, v] w fun e w' => Below w.heap.size w w' ∧ ∃ d, e = .returned (.tuple #[d, .int .i64 0]) ∧ BSl w' w'.heap.size d tx) := Lib.hid (fun v w hv hh => (hO key n _ v hd X w hk hh (by omega) hv (by omega)).mono fun e w' ho => by
    unfold LkOpen at ho
    rw [hop] at ho
    obtain ⟨hb, d, h1, h2⟩ := ho
    exact ⟨hb, d, h1, h2⟩)
  have HO2 : Hid (∀ v k w, k < 8 → BSl w w.heap.size v (X.take k) → BSl w w.heap.size (.slice A1 n1 c1) hd → Calls Try.prog 15 #[.int .u64 key, .int .i64 n, .slice A1 n1 c1, v] w fun e w' => Below w.heap.size w w' ∧ ∃ d, e = .returned (.tuple #[d, .int .i64 4]) ∧ BSl w' w'.heap.size d []) := Lib.hid (fun v k w hk8 hv hh => (hO key n _ v hd (X.take k) w hk hh (by omega) hv (by rw [List.length_take]; omega)).mono fun e w' ho => by
    unfold LkOpen at ho
    rw [show openL key n hd (X.take k) = .error 4 from if_pos (by rw [List.length_take]; omega)] at ho
    obtain ⟨hb, d, h1, h2⟩ := ho
    exact ⟨hb, d, h1, h2⟩)
  have HLT := Lib.hid (fun w => lockTells_any hS w)
  clear hS hO hX hop hsb hkey h1 h2 hb1 hb2 hn1 hn2 hz1 hz2
  have hmin : (if (8 : Int) < (X.length : Int) + 1 then (8 : Int) else (X.length : Int) + 1) = 8 := by rw [if_pos (by omega)]
  have hge : 8 ≤ X.length := by omega
  have hle : X.length ≤ 140737488351240 := by omega
  have HLX := Lib.hid hl2'
  clear hl2' hsl
  go_enter Try.func6, Try.ntmps6
  go_wp2_with fail
  refine HS.out.mono ?_
  rintro e w1 ⟨b1, d, rfl, o1⟩
  obtain ⟨A3, c3, rfl, h33, h34⟩ := own_slice o1
  have R1 := Lib.hid (own_bsl o1 HSB.out)
  have B1 := Lib.hid b1
  clear b1 o1
  go_wp2_with fail
  refine (HO1.out _ _ R1.out (V1.out.on B1.out)).mono ?_
  rintro e w2 ⟨b2, d2, rfl, hd2⟩
  obtain ⟨A4, c4, rfl, _, _, hn4, hr4⟩ := hd2.ex
  have BB := Lib.hid b2
  have B2 := Lib.hid (B1.out.trans (b2.mono B1.out.size))
  have R2 := Lib.hid (R1.out.on b2)
  have D2 := Lib.hid hr4
  clear b2 hd2 hn4 hr4
  go_wp2_with fail
  have hp0 : 0 ≤ at_ % 8 := by omega
  have hp1 : at_ % 8 < 8 := by omega
  refine (picked_any _ _ (by omega) (by omega) _).mono ?_
  rintro e w' ⟨rfl, rfl⟩
  go_wp2_with fail
  refine (HO2.out _ (at_ % 8).toNat _ (by omega) ?_ ((V1.out.on B1.out).on (w' := w2) ?_)).mono ?_
  · have R := R2.out
    obtain ⟨Aq, cq, eq, q1, q2, q3, q4⟩ := R.ex
    injection eq with e1 e2 e3
    subst e1 e3
    have hk9 : ((at_ % 8).toNat) ≤ X.length := by omega
    exact ⟨A3, c3, by rw [List.length_take, Nat.min_eq_left hk9], by rw [List.length_take]; omega, q2, q3, q4.take _⟩
  · exact BB.out
  rintro e w3 ⟨b3, d3, rfl, hd3⟩
  obtain ⟨A5, c5, rfl, _, _, _, _⟩ := hd3.ex
  have B3 := Lib.hid (B2.out.trans (b3.mono B2.out.size))
  have D3 := Lib.hid (D2.out.on b3)
  clear b3 hd3
  go_wp2_with fail
  refine (HLT.out _).mono ?_
  rintro e w4 ⟨rfl, b4⟩
  have B4 := Lib.hid (B3.out.trans (b4.mono B3.out.size))
  have s1 := run_str (P := Try.prog) (D3.out.below b4) HL2.out 26 9 5 c4 Try.underlying26 Try.underlying5 Try.underlying9
  have s2 := run_str (P := Try.prog) (HB2.out.below B4.out) HL2.out 26 9 5 c2 Try.underlying26 Try.underlying5 Try.underlying9
  have hxl := HLX.out
  clear b4
  go_wp2_with fail
  go_ret
  exact ⟨by simp [hxl], B4.out⟩
end Go.Proofs.Ytlmckklgmijapaa
