/- The walk of HeadBack, over what is asked of the three functions. -/
import Derived.Test.YtaccedlpnngdhaaDoorHdOf
import Derived.Test.YtaccedlpnngdhaaDoorHdSameN
import Derived.Test.YtaccedlpnngdhaaDoorApp
import Derived.Test.YtaccedlpnngdhaaDoorMk
namespace Go.Proofs.YtaccedlpnngdhaaDoor
set_option linter.unusedVariables false
open Go.RowKit P

theorem infoB : (Tryd.prog.info? 5).map (fun i => (i.zero, i.size, i.bytes)) = some (some (.int .u8 0), 1, 1) := by kernel_rfl
theorem own0 (w : World) : (w.alloc (.cells #[] 5)).ownsRow w.heap.size 5 1 (.slice (some ⟨w.heap.size, 0, none⟩) 0 0) 0 [] :=
  ⟨rfl, .inr ⟨w.heap.size, 0, #[], rfl, Nat.le_refl _, heap_new w _, Nat.le_refl _, by unfold maxLen; omega, rfl, rfl⟩⟩
theorem row0 {w : World} {A : Option Addr} {X : List Int} (h : BRow w w.heap.size A X) : BRow (w.alloc (.cells #[] 5)) w.heap.size A X := h.below ((Below.refl _ _).alloc (Nat.le_refl _) _)
theorem own_bslH {w : World} {base e n : Nat} {v : Value} {zs : List Int} (h : w.ownsRow base e 1 v n (zs.map (.int .u8))) (hb : Byt zs) : BSl w w.heap.size v zs := by
  have hl : zs.length = n := by simpa using h.1
  rcases h.2 with ⟨rfl, h0⟩ | ⟨g, cap, cur, rfl, _, hg, h1, h2, h3, h4⟩
  · have e0 : zs = [] := List.eq_nil_of_length_eq_zero (by omega)
    subst e0
    exact BSl.nil _ _
  · subst hl
    exact ⟨_, _, rfl, h1, h2, (fun e => by cases e), own_brow ⟨by simp, .inr ⟨g, cap, cur, rfl, by assumption, hg, h1, h2, h3, h4⟩⟩ hb⟩

set_option maxRecDepth 100000 in
set_option maxHeartbeats 600000 in
theorem headBack_core (k x y : Int) (s : ByteArray) (hs : s.size ≤ maxLen) (at_ : Int) (A : Option Addr) (len cap : Nat) (z : List Int) (W : World) (hCK : ∀ v h w, HdVal w w.heap.size v h → HdWf h → Calls Tryd.prog 6 #[v] w fun e w' => e = .returned (.int .i64 (faultH h)) ∧ Below w.heap.size w w')
    (hDEC : ∀ (A : Option Addr) (n c : Nat) (zs : List Int) (w : World), BRow w w.heap.size A zs → zs.length = n → n ≤ c → c ≤ maxLen → (A = none → c = 0) → n ≤ 140737488355328 → Calls Tryd.prog 12 #[.slice A n c] w (HdDec zs w))
    (hENC : ∀ v h w', Below W.heap.size W w' → HdVal w' w'.heap.size v h → HdWf h → Calls Tryd.prog 7 #[v] w' (HdEnc h w')) (h : IsRow .u8 W A len cap z) (hreach : cap * 1 ≤ 140737488351232) :
    Calls Tryd.prog 4 #[.agg #[.int .i64 k, .int .i64 x, .int .i64 y, .string s], .slice A len cap, .int .i64 at_] W fun e w' => e = .returned (.bool true) ∧ Below W.heap.size W w' := by
  obtain ⟨hb, hl, hc, hm⟩ := InRow.brow (show InRow W A len cap z from h)
  have hn : A = none → cap = 0 := fun e => by subst e; rcases h with ⟨_, _, e, _⟩ | ⟨x, e, _⟩ <;> first | exact e | cases e
  have HFO := Lib.hid (fun w => headOf_any k x y s hs w)
  obtain ⟨zs, hz⟩ : ∃ zs, z.take len = zs := ⟨_, rfl⟩
  rw [hz] at hb hl
  obtain ⟨i0, hi0, hz0, hz1, hz2⟩ := info_parts infoB
  have HI := Lib.hid hi0
  have HZ := Lib.hid hz0
  have HZ1 := Lib.hid hz1
  have HZ2 := Lib.hid hz2
  have HR := Lib.hid hb
  have HL := Lib.hid hl
  have HN := Lib.hid hn
  have HENC := Lib.hid hENC
  have HDECC := Lib.hid hDEC
  have HCK := Lib.hid hCK
  clear hb hl hz h hn hi0 hz0 hz1 hz2 hENC hDEC hCK hs
  go_enter Tryd.func4, Tryd.ntmps4
  go_wp2_with (first
    | (at_builtin
       refine wpList_app _ rfl (.tmp 24) (.tmp 25) _ rfl w3.heap.size 5 i0 Tryd.underlying22 HI.out HZ.out HZ1.out HZ2.out _ 0 [] rfl O0.out w3.heap.size A3 X.length c3 X rfl R1.out rfl HN3.out (by omega) (by simp) ?_
       intro v4 w4 own4 g4 at4
       simp only [Nat.zero_add, List.nil_append] at own4
       have B4 : Hid (Below w3.heap.size w3 w4) := Lib.hid (((Below.refl _ _).alloc (Nat.le_refl _) _).grown g4 (by simp) (fun k h => by cases h; exact Nat.le_refl _))
       have A4 := Lib.hid at4
       have O4 := Lib.hid own4
       have sz4 : w3.heap.size + 1 ≤ w4.heap.size := by have := g4.size; simpa using this
       clear own4 g4 at4
       have R4 : Hid (BRow w4 W.heap.size A zs) := Lib.hid ((HR.out.below B3.out).below (B4.out.mono B3.out.size)))
    | (at_builtin
       refine wpList_app _ rfl (.tmp 26) (.tmp 27) _ rfl w3.heap.size 5 i0 Tryd.underlying22 HI.out HZ.out HZ1.out HZ2.out v4 X.length _ rfl O4.out W.heap.size A len cap zs rfl R4.out HL.out HN.out (by omega) (by omega) ?_
       intro v5 w5 own5 g5 at5
       have O5 := Lib.hid own5
       have G5 := Lib.hid g5
       clear own5 g5 at5)
    | (go_at_call 7; have g := HV1.out; refine (HENC.out _ h _ (B1.out.trans (A1.out.mono B1.out.size)) HV1.out HWF.out).mono ?_; rintro e w3 hE; obtain ⟨b3, A3, c3, rfl, hc3, hm3, hn3, hr3⟩ := hdEnc_yes hE HF.out; rw [HX.out] at hc3 hr3 ⊢; have B3 := Lib.hid ((B1.out.trans (A1.out.mono B1.out.size)).trans (b3.mono (B1.out.trans (A1.out.mono B1.out.size)).size)); have FB3 := Lib.hid ((b3.block _ (lt_of_block FB1.out)).trans FB1.out); have HV3 := Lib.hid (HV1.out.on b3); have HR3 := Lib.hid hr3; have HN3 := Lib.hid hn3; have HY := Lib.hid hr3.1; clear hE b3 hr3 hn3 g; have O0 := Lib.hid (own0 w3); have R1 := Lib.hid (row0 HR3.out))
    | (go_at_call 11; refine (HFO.out _).mono ?_; rintro e w1 ⟨h, v1, hf0, rfl, hv1, hb1⟩; have HF := Lib.hid hf0; have HWF := Lib.hid (okH_of hf0).wf; have hX8 := hdT_len (okH_of hf0); have hX0 := hdT_pos h; have HDEC := Lib.hid (decH_back hf0 zs); have HCUT := Lib.hid (fun j => decH_cut hf0 j); obtain ⟨X, hX⟩ : ∃ X, hdT h = X := ⟨_, rfl⟩; have HX := Lib.hid hX; rw [hX] at hX8 hX0 HDEC HCUT; clear hX hf0; obtain ⟨d1, rfl, hd1⟩ := hv1.ex; obtain ⟨Ad1, cd1, hda1, _, _, _, _⟩ := hd1.ex; subst hda1; have B1 := Lib.hid (((Below.refl W.heap.size W).alloc (Nat.le_refl _) (.cells #[.int .i64 k, .int .i64 x, .int .i64 y, .string s] 32)).trans (hb1.mono (by simp))); have A1 := Lib.hid ((Below.refl w1.heap.size w1).alloc (Nat.le_refl _) (.cells #[.int .i64 h.kind, .int .i64 h.to, .int .i64 h.frm, .slice Ad1 h.tok.length cd1, .int .i64 h.num, .int .i64 h.size] 24)); have FB1 := Lib.hid (heap_alloc_new w1 (.cells #[.int .i64 h.kind, .int .i64 h.to, .int .i64 h.frm, .slice Ad1 h.tok.length cd1, .int .i64 h.num, .int .i64 h.size] 24)); have HV1 := Lib.hid (hv1.on A1.out); clear hb1 hv1 hd1))
  have B5 : Hid (Below w3.heap.size w4 w5) := Lib.hid ((Below.refl _ _).grown G5.out (by have := B4.out.size; omega) (fun k hk => (O4.out.lt k hk).1))
  have O6 := O5.out
  rw [← List.map_append] at O6
  obtain ⟨A5, c5, he5, hc5, hm5, hn5, hr5⟩ := (own_bslH O6 (Byt.append HY.out HR.out.1)).ex
  subst he5
  have hlen : (X ++ zs).length = X.length + len := by rw [List.length_append, HL.out]
  have HR5 := Lib.hid hr5
  have HN5 := Lib.hid hn5
  have b45 := B4.out.trans B5.out
  have B6 := Lib.hid (B3.out.trans (b45.mono B3.out.size))
  have HR6 := Lib.hid (HR3.out.on b45)
  have HV6 := Lib.hid (HV3.out.on b45)
  have FB6 := Lib.hid ((b45.block _ (lt_of_block FB3.out)).trans FB3.out)
  have hus : ((X ++ zs).length : Int) - zs.length = X.length := by rw [hlen, HL.out]; omega
  have HUS := Lib.hid hus
  have hcap : (X ++ zs).length ≤ 140737488355328 := by rw [hlen]; omega
  clear O6 O5 G5 hr5 hn5 b45 hus hlen O4 R4 A4 R1 O0
  obtain ⟨j, hj, hjl⟩ : ∃ j : Nat, at_ % (X.length : Int) = j ∧ j < X.length := ⟨(at_ % (X.length : Int)).toNat, by have := Int.emod_nonneg at_ (show (X.length : Int) ≠ 0 by omega); omega, by have := Int.emod_lt_of_pos at_ (show (0 : Int) < X.length by omega); have := Int.emod_nonneg at_ (show (X.length : Int) ≠ 0 by omega); omega⟩
  have HP : Hid (∀ w, Calls Tryd.prog 13 #[.int .i64 at_, .int .i64 (X.length : Int)] w fun e w' => e = .returned (.int .i64 j) ∧ w = w') := Lib.hid (fun w => by
    have := picked_any at_ X.length (by omega) (by omega) w
    rwa [hj] at this)
  clear hj
  have g := HR6.out
  refine (HDECC.out A5 (X ++ zs).length c5 (X ++ zs) _ HR5.out rfl hc5 hm5 HN5.out hcap).mono ?_
  rintro e w7 hD
  obtain ⟨b7, hm7⟩ := hD
  rw [HDEC.out] at hm7
  obtain ⟨v7, rfl, hv7⟩ := hm7
  rw [HUS.out]
  obtain ⟨d7, rfl, hd7⟩ := hv7.ex
  obtain ⟨Ad7, cd7, hda7, _, _, _, _⟩ := hd7.ex
  subst hda7
  have X7 := Lib.hid ((Below.refl w7.heap.size w7).alloc (Nat.le_refl _) (.cells #[.int .i64 h.kind, .int .i64 h.to, .int .i64 h.frm, .slice Ad7 h.tok.length cd7, .int .i64 h.num, .int .i64 h.size] 24))
  have b67 := b7.trans (X7.out.mono b7.size)
  have B7 := Lib.hid (B6.out.trans (b67.mono B6.out.size))
  have FB7 := Lib.hid ((b67.block _ (lt_of_block FB6.out)).trans FB6.out)
  have FX7 := Lib.hid (heap_alloc_new w7 (.cells #[.int .i64 h.kind, .int .i64 h.to, .int .i64 h.frm, .slice Ad7 h.tok.length cd7, .int .i64 h.num, .int .i64 h.size] 24))
  have HV7 := Lib.hid (HV6.out.on b67)
  have HX7 := Lib.hid (hv7.on X7.out)
  have HR7 := Lib.hid (HR6.out.on b67)
  clear b7 b67 g hv7 hd7
  go_wp2_with (go_at_call 13; refine (HP.out _).mono ?_; rintro e w' ⟨rfl, rfl⟩)
  have hjc : j ≤ c3 := by omega
  have hjt : (X.take j).length = j := by rw [List.length_take]; omega
  refine (HDECC.out A3 j c3 (X.take j) _ (HR7.out.take j) hjt hjc hm3 HN3.out (by omega)).mono ?_
  rintro e w8 hD
  obtain ⟨b8, hm8⟩ := hD
  rw [HCUT.out j hjl] at hm8
  obtain rfl := hm8
  have b8z := b8.alloc b8.size (.cells #[.int .i64 0, .int .i64 0, .int .i64 0, .slice none 0 0, .int .i64 0, .int .i64 0] 24)
  have B8 := Lib.hid (B7.out.trans (b8z.mono B7.out.size))
  have FB8 := Lib.hid ((b8z.block _ (lt_of_block FB7.out)).trans FB7.out)
  have FX8 := Lib.hid ((b8z.block _ (lt_of_block FX7.out)).trans FX7.out)
  have HV8 := Lib.hid (HV7.out.on b8z)
  have HX8 := Lib.hid (HX7.out.on b8z)
  obtain ⟨q0, q1, q2, q3, q4, q5, _⟩ := bk6 FB8.out
  clear b8 b8z hjt hjc
  go_wp2_with (first
    | (go_at_call 14; refine (sameHdN_eq _ _ h _ HV9.out HX9.out).mono ?_; rintro e w10 ⟨rfl, b10⟩; have B10 := Lib.hid (B9.out.trans (b10.mono B9.out.size)); clear b10)
    | (go_at_call 6; refine (HCK.out _ h _ HV8.out HWF.out).mono ?_; rintro e w9 ⟨rfl, b9⟩; rw [HF.out]; have B9 := Lib.hid (B8.out.trans (b9.mono B8.out.size)); have HV9 := Lib.hid (HV8.out.on b9); have HX9 := Lib.hid (HX8.out.on b9); clear q0 q1 q2 q3 q4 q5; obtain ⟨q0, q1, q2, q3, q4, q5, _⟩ := bk6 ((b9.block _ (lt_of_block FB8.out)).trans FB8.out); obtain ⟨x0, x1, x2, x3, x4, x5, _⟩ := bk6 ((b9.block _ (lt_of_block FX8.out)).trans FX8.out); clear b9))
  go_ret
  exact ⟨rfl, B10.out⟩
end Go.Proofs.YtaccedlpnngdhaaDoor
