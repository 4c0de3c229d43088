/- The walks of PrefixEncodes and PrefixDecodes. -/
import Derived.Test.YtenhdnanfgnfjaaPxTxt
import Derived.Test.YtenhdnanfgnfjaaPxRead
import Derived.Test.YtenhdnanfgnfjaaSame
import Derived.Test.YtenhdnanfgnfjaaFrOf
namespace Go.Proofs.Ytenhdnanfgnfjaa
set_option linter.unusedVariables false
open Go.RowKit P

theorem in_bsl {w : World} {a : Option Addr} {len cap : Nat} {zs : List Int} (h : InRow w a len cap zs) : BSl w w.heap.size (.slice a len cap) (zs.take len) := by
  obtain ⟨h1, h2, h3, h4⟩ := h.brow
  refine ⟨a, cap, by rw [h2], by omega, h4, ?_, h1⟩
  rintro rfl
  rcases h with ⟨_, _, h, _⟩ | ⟨x, e, _⟩
  · exact h
  · cases e
theorem _root_.Go.Proofs.Ytenhdnanfgnfjaa.P.BSl.onP {w w' : World} {v : Value} {zs : List Int} (h : BSl w w.heap.size v zs) (hb : Below w.heap.size w w') : BSl w' w'.heap.size v zs := (h.below hb).more hb.size
set_option maxHeartbeats 1000000 in
theorem prefixEncodes_walk (x wi n : Int) (s : ByteArray) (W : World) (hx : 0 ≤ x ∧ x ≤ 255) (hw : -9223372036854775808 ≤ wi ∧ wi ≤ 9223372036854775807) (hn : -9223372036854775808 ≤ n ∧ n ≤ 9223372036854775807) (hs : s.size ≤ 140737488351232) :
    Calls Try.prog 3 #[.int .u8 x, .int .i64 wi, .int .i64 n, .string s] W fun e w' => e = .returned (.bool true) ∧ Below W.heap.size W w' := by
  have E1 := Lib.hid (fun w => pxEnc_any.enc x wi n w hx.1 (by omega) hw.1 hw.2)
  have E3 := Lib.hid (fun w => refPxB_any x wi n w hx.1 (by omega) hw.1 hw.2)
  have hM : (numsOf s).length ≤ 140737488355328 := by rw [numsOf_len]; omega
  have E2 := Lib.hid (fun w => pxText_any x wi (numsOf s) w (numsOf_byt s) hM hx.1 (by omega) hw.1 hw.2)
  have E4 := Lib.hid (fun w => refPxTB_any x wi (numsOf s) w (numsOf_byt s) hM hx.1 (by omega) hw.1 hw.2)
  unfold PxPost at E1 E2 E3 E4
  rw [numsOf_str] at E2 E4
  obtain ⟨a, ha⟩ : ∃ a, pxF x wi n = a := ⟨_, rfl⟩
  obtain ⟨b, hb⟩ : ∃ b, pxTF x wi (numsOf s) = b := ⟨_, rfl⟩
  rw [ha] at E1 E3
  rw [hb] at E2 E4
  obtain ⟨X, hX⟩ : ∃ X, (if a = 0 then pxL x wi n else []) = X := ⟨_, rfl⟩
  obtain ⟨Y, hY⟩ : ∃ Y, (if b = 0 then pxTL x wi (numsOf s) else []) = Y := ⟨_, rfl⟩
  rw [hX] at E1 E3
  rw [hY] at E2 E4
  clear ha hb hX hY hM
  go_enter Try.func3, Try.ntmps3
  go_wp2_with fail
  refine (E1.out _).mono ?_
  rintro e w1 ⟨b1, d1, rfl, h1⟩
  obtain ⟨A1, c1, rfl, _, _, _, R1⟩ := h1.ex
  have R1 := Lib.hid R1
  have B1 := Lib.hid b1
  clear b1 h1
  go_wp2_with fail
  refine (E2.out _).mono ?_
  rintro e w2 ⟨b2, d2, rfl, h2⟩
  obtain ⟨A2, c2, rfl, _, _, _, R2⟩ := h2.ex
  have R2 := Lib.hid R2
  have R1 := Lib.hid (R1.out.on b2)
  have B2 := Lib.hid (B1.out.trans (b2.mono B1.out.size))
  clear b2 h2
  go_wp2_with fail
  refine (E3.out _).mono ?_
  rintro e w3 ⟨b3, d3, rfl, h3⟩
  obtain ⟨A3, c3, rfl, _, _, _, R3⟩ := h3.ex
  have R3 := Lib.hid R3
  have R1 := Lib.hid (R1.out.on b3)
  have R2 := Lib.hid (R2.out.on b3)
  have B3 := Lib.hid (B2.out.trans (b3.mono B2.out.size))
  clear b3 h3
  go_wp2_with fail
  refine (E4.out _).mono ?_
  rintro e w4 ⟨b4, d4, rfl, h4⟩
  obtain ⟨A4, c4, rfl, _, _, _, R4⟩ := h4.ex
  have R4 := Lib.hid R4
  have R1 := Lib.hid (R1.out.on b4)
  have R2 := Lib.hid (R2.out.on b4)
  have R3 := Lib.hid (R3.out.on b4)
  have B4 := Lib.hid (B3.out.trans (b4.mono B3.out.size))
  clear b4 h4
  go_wp2_with fail
  refine (sameBytes_eq _ _ _ _ _ _ _ _ _ X R1.out R3.out rfl rfl).mono ?_
  rintro e w' ⟨rfl, rfl⟩
  go_wp2_with fail
  refine (sameBytes_eq _ _ _ _ _ _ _ _ _ Y R2.out R4.out rfl rfl).mono ?_
  rintro e w' ⟨rfl, rfl⟩
  go_wp2_with fail
  go_ret
  exact ⟨by first | rfl | simp, B4.out⟩

set_option maxHeartbeats 1000000 in
theorem prefixDecodes_walk (a0 : Option Addr) (len0 cap0 : Nat) (z0 : List Int) (wi : Int) (W : World) (h0 : InRow W a0 len0 cap0 z0) (r0 : cap0 ≤ 140737488351232) (hw : -9223372036854775808 ≤ wi ∧ wi ≤ 9223372036854775807) :
    Calls Try.prog 4 #[.slice a0 len0 cap0, .int .i64 wi] W fun e w' => e = .returned (.bool true) ∧ Below W.heap.size W w' := by
  have hbs := in_bsl h0
  obtain ⟨hbr, hzl, hlc, hcm⟩ := h0.brow
  obtain ⟨zs, hzs⟩ : ∃ zs, z0.take len0 = zs := ⟨_, rfl⟩
  rw [hzs] at hbs hbr hzl
  have hl : zs.length ≤ 140737488355328 := by omega
  have D1 := Lib.hid (fun w (hb : Below W.heap.size W w) => pxDec_any (.slice a0 len0 cap0) zs wi w (hbs.onP hb) hl hw.1 hw.2)
  have D2 := Lib.hid (fun w (hb : Below W.heap.size W w) => pxRead_any (.slice a0 len0 cap0) zs wi w (hbs.onP hb) hl hw.1 hw.2)
  have D3 := Lib.hid (fun w => refPxO_any zs wi w hbr.1 hl hw.1 hw.2)
  have D4 := Lib.hid (fun w => refPxT_any zs wi w hbr.1 hl hw.1 hw.2)
  have HC := Lib.hid (fun w (hb : Below W.heap.size W w) => run_str (P := Try.prog) (w := w) (hbr.on hb) hzl 22 9 5 cap0 Try.underlying22 Try.underlying5 Try.underlying9)
  obtain ⟨S, hS⟩ : ∃ S, strOfNums zs = S := ⟨_, rfl⟩
  rw [hS] at D3 D4 HC
  obtain ⟨⟨r1, r2, r3⟩, hr⟩ : ∃ r, pxR zs wi = r := ⟨_, rfl⟩
  obtain ⟨⟨t1, t2, t3⟩, ht⟩ : ∃ r, pxTR zs wi = r := ⟨_, rfl⟩
  rw [hr] at D1 D3
  rw [ht] at D2 D4
  unfold pxRV at D1 D3
  unfold pxTV at D2 D4
  simp only at D2 D4
  obtain ⟨U, hU⟩ : ∃ U, strOfNums t1 = U := ⟨_, rfl⟩
  rw [hU] at D2 D4
  clear hS hr ht hU hbs hbr h0 hzs
  have B0 := Lib.hid (Below.refl W.heap.size W)
  have hc1 := HC.out W B0.out
  go_enter Try.func4, Try.ntmps4
  go_wp2_with fail
  refine (D1.out _ B0.out).mono ?_
  rintro e w1 ⟨rfl, rfl⟩
  go_wp2_with fail
  refine (D2.out _ B0.out).mono ?_
  rintro e w1 ⟨rfl, rfl⟩
  go_wp2_with fail
  refine (D3.out _).mono ?_
  rintro e w3 ⟨rfl, b3⟩
  have B3 := Lib.hid b3
  have hc3 := HC.out w3 b3
  clear b3 hc1
  go_wp2_with fail
  refine (D4.out _).mono ?_
  rintro e w4 ⟨rfl, b4⟩
  have B4 := Lib.hid (B3.out.trans (b4.mono B3.out.size))
  clear b4 hc3
  go_wp2_with fail
  go_ret
  exact ⟨by first | rfl | simp, B4.out⟩
end Go.Proofs.Ytenhdnanfgnfjaa
