/- Contract of package head: Encode. -/
import Derived.Test.YtaccedlpnngdhaaDoorHdWr
import Derived.Test.YtaccedlpnngdhaaDoorEnc
import Derived.Deep.LoopGhost
import Derived.Deep.RegionLaw
import Derived.Deep.RegionHeldLaw
import Derived.Deep.RegionHeld3
import Derived.StillTailTactics
namespace Go.Proofs.YtaccedlpnngdhaaDoor
set_option linter.unusedVariables false
open Go.RowKit P

/-- a piece of code that ends in one way -/
theorem wp_end {P : Program} {c : Code} {Q : Exit → Act → World → Prop} {a : Act} {w : World} (A : Act) (W : World) (h : c.wp P (fun e a' w' => e = .normal ∧ a' = A ∧ w' = W) a w) (k : Q .normal A W) : c.wp P Q a w :=
  Code.wp_mono (by rintro e a w ⟨rfl, rfl, rfl⟩; exact k) h
theorem hdEnc_end {h : Hd} {w w' : World} {T : TypeId} {cs : Array Value} {v : Value} {Y : List Int} (hf : faultH h = 0) (R : WrAt w T cs v Y w') (hY : Y = hdT h) : HdEnc h w (.returned (.tuple #[v, .int .i64 0])) w' := by
  refine ⟨R.be, v, by rw [hf], ?_⟩
  rw [if_pos hf, ← hY]
  exact own_bsl R.own R.byt
/-- the row that varint's Encode made, behind an append onto another one -/
theorem enc_row {w : World} {k : Nat} {zs : List Int} {T : TypeId} (h : w.heap[k]? = some (.cells (zs.map (.int .u8)).toArray T (0, 0))) (hb : Byt zs) : BRow w (k + 1) (some ⟨k, 0, none⟩) zs :=
  ⟨hb, fun _ => ⟨_, 0, rfl, by omega, fun j hj => by
    rw [cell_of_row w k (0 + j) _ _ _ h]
    simp [hj]⟩⟩
theorem hdEncode_no (v : Value) (h : Hd) (w : World) (hv : HdVal w w.heap.size v h) (hf : faultH h ≠ 0) :
    Calls Tryd.prog 7 #[v] w (HdEnc h w) := by
  obtain ⟨d, rfl, hd⟩ := hv.ex
  have HW := Lib.hid ((Below.refl w.heap.size w).alloc (Nat.le_refl _) (.cells #[.int .i64 h.kind, .int .i64 h.to, .int .i64 h.frm, d, .int .i64 h.num, .int .i64 h.size] 24))
  have HV := Lib.hid (hv.on HW.out)
  have HF := Lib.hid hf
  obtain ⟨x, hx⟩ : ∃ x, faultH h = x := ⟨_, rfl⟩
  have HX := Lib.hid hx
  rw [hx] at hf
  have g : (x != 0) = true := by simp [hf]
  clear hv hd hx hf
  go_enter Tryd.func7, Tryd.ntmps7
  go_wp2_with (go_at_call 6; refine (hdCheck_any _ _ _ HV.out).mono ?_; rintro e w1 ⟨rfl, hb1⟩; rw [HX.out]; have HB1 := Lib.hid (HW.out.trans (hb1.mono HW.out.size)); clear hb1)
  go_ret2
  exact ⟨HB1.out, _, by rw [HX.out]; rfl, by rw [if_neg HF.out]; exact BSl.nil _ _⟩
set_option maxRecDepth 100000 in
set_option maxHeartbeats 4000000 in
theorem hdEncode_short (kd to fr num : Int) (tok : List Int) (s : Nat) (A : Option Addr) (c : Nat) (w : World) (hv : HdVal w w.heap.size (.agg #[.int .i64 kd, .int .i64 to, .int .i64 fr, .slice A tok.length c, .int .i64 num, .int .i64 s]) ⟨kd, to, fr, tok, num, s⟩) (hf : faultH ⟨kd, to, fr, tok, num, s⟩ = 0) (ht : Tab w) (k2 : (kd != 2) = false) :
    Calls Tryd.prog 7 #[.agg #[.int .i64 kd, .int .i64 to, .int .i64 fr, .slice A tok.length c, .int .i64 num, .int .i64 s]] w (HdEnc ⟨kd, to, fr, tok, num, s⟩ w) := by
  obtain ⟨i0, hi0, hz0, hz1, hz2⟩ := info_parts infoB1
  have HI := Lib.hid hi0
  have HZ := Lib.hid hz0
  have HZ1 := Lib.hid hz1
  have HZ2 := Lib.hid hz2
  have hok := okH_of hf
  obtain ⟨d0, hd0, hrow⟩ := hv.ex
  obtain ⟨A', c', hd1, hcl, hcm, hcn, hbr⟩ := hrow.ex
  obtain rfl : .slice A tok.length c = d0 := by simpa using hd0
  injection hd1 with e1 e2 e3
  subst e1 e3
  have RT := Lib.hid hbr
  have RN := Lib.hid hcn
  have o1 := hok.kind0; have o2 := hok.kind1; have o3 := hok.tok; have o4 := hok.to0; have o5 := hok.to1; have o6 := hok.frm0; have o7 := hok.frm1
  simp only at o1 o2 o3 o4 o5 o6 o7
  have hs4 : s ≤ 4 ∧ (kd ≠ 1 → 1 ≤ (s : Int) ∧ (s : Int) ≤ 4) ∧ 0 ≤ num ∧ num ≤ 4294967296 := by
    by_cases k : kd = 1
    · have := hok.retry k
      simp only at this
      exact ⟨by omega, fun e => absurd k e, by omega, by omega⟩
    · have := hok.size k
      have b := winOf_le (s : Int)
      simp only at this
      exact ⟨by omega, fun _ => ⟨by omega, by omega⟩, by omega, by omega⟩
  obtain ⟨s4, sk, n0, n1⟩ := hs4
  have SK := Lib.hid sk
  obtain ⟨z, hz⟩ : ∃ z, (if kd = 2 then 63 + (s : Int) else if kd = 0 then 191 + (s : Int) else 240) = z := ⟨_, rfl⟩
  have HZZ := Lib.hid hz
  have hzb : 0 ≤ z ∧ z ≤ 255 := by
    rw [← hz]
    by_cases k : kd = 2
    · rw [if_pos k]; omega
    · rw [if_neg k]
      by_cases k : kd = 0
      · rw [if_pos k]; omega
      · rw [if_neg k]; omega
  have hwt : IntKind.u8.wrap to = to := by rw [wrap_u8]; omega
  have hwf : IntKind.u8.wrap fr = fr := by rw [wrap_u8]; omega
  have hw1 : IntKind.i64.wrap ((s : Int) - 1) = (s : Int) - 1 := by rw [IntKind.wrap_i64]; omega
  have hw2 : IntKind.i64.wrap (8 * ((s : Int) - 1)) = 8 * ((s : Int) - 1) := by rw [IntKind.wrap_i64]; omega
  have HW1 := Lib.hid hw1
  have HW2 := Lib.hid hw2
  have hX : hdT ⟨kd, to, fr, tok, num, s⟩ = z :: to :: (([] : List Int) ++ lowB s num) := by
    unfold hdT markH
    simp only
    rw [hz]
    have : kd = 2 := by simpa using k2
    simp only [this, if_true, if_false, Int.toNat_natCast]
  have HX := Lib.hid hX
  have HF := Lib.hid hf
  have HT := Lib.hid ht
  have B0 := Lib.hid ((Below.refl w.heap.size w).alloc (Nat.le_refl _) (.cells #[.int .i64 kd, .int .i64 to, .int .i64 fr, .slice A tok.length c, .int .i64 num, .int .i64 s] 24))
  have F0 := Lib.hid (heap_alloc_new w (.cells #[.int .i64 kd, .int .i64 to, .int .i64 fr, .slice A tok.length c, .int .i64 num, .int .i64 s] 24))
  have HV := Lib.hid (hv.on B0.out)
  have hcap : c ≤ maxLen := hcm
  clear hi0 hz0 hz1 hz2 hok hd0 hrow hbr hcn sk hz hX hf ht hv
  go_enter Tryd.func7, Tryd.ntmps7
  go_wp2_with (go_at_call 6; refine (hdCheck_any _ _ _ HV.out).mono ?_; rintro e w1 ⟨rfl, b1⟩; rw [HF.out]; have F1 := Lib.hid ((b1.block _ (lt_of_block F0.out)).trans F0.out); have B1 := Lib.hid (B0.out.trans (b1.mono B0.out.size)); clear b1; obtain ⟨q0, q1, q2, q3, q4, q5, _⟩ := bk6 F1.out)
  have hlt := lt_of_block F1.out
  have ka : ∀ o i, (w1.drew.alloc o).cell? ⟨w.heap.size, i, none⟩ = w1.cell? ⟨w.heap.size, i, none⟩ := fun o i => (((Below.refl w1.heap.size w1).drew).alloc (Nat.le_refl _) o).cell hlt
  apply wp_end
  case h =>
    go_region_held3 (fun w' => w'.cell? ⟨w.heap.size, 0, none⟩ = some (.int .i64 kd) ∧ w'.cell? ⟨w.heap.size, 1, none⟩ = some (.int .i64 to) ∧ w'.cell? ⟨w.heap.size, 2, none⟩ = some (.int .i64 fr) ∧ w'.cell? ⟨w.heap.size, 3, none⟩ = some (.slice A tok.length c) ∧ w'.cell? ⟨w.heap.size, 4, none⟩ = some (.int .i64 num) ∧ w'.cell? ⟨w.heap.size, 5, none⟩ = some (.int .i64 s)) (go_keep) (first | ((go_at_call 17; refine (first_any kd to fr num s z _ o1 o2 SK.out HZZ.out _).mono ?_; rintro e w' ⟨rfl, rfl⟩)))
    all_goals exact ⟨rfl, rfl, rfl⟩
  case k =>
  obtain ⟨W2, hW2⟩ : ∃ W2, ((w1.alloc (.cells #[.int .i64 kd, .int .i64 to, .int .i64 fr, .slice A tok.length c, .int .i64 num, .int .i64 s] 24)).alloc (.cells #[.int .u8 z, .int .u8 to] 5)).drew = W2 := ⟨_, rfl⟩
  have R2 := Lib.hid (wr_start B1.out F1.out (.cells #[.int .i64 kd, .int .i64 to, .int .i64 fr, .slice A tok.length c, .int .i64 num, .int .i64 s] 24) z to hzb ⟨o4, o5⟩ (.slice (some ⟨w1.heap.size + 1, 0, none⟩) 2 2) W2 rfl hW2.symm)
  have HS2 := Lib.hid (show W2.heap.size = w1.heap.size + 2 by rw [← hW2]; simp)
  rw [hW2]
  have TB := Lib.hid (HT.out.below R2.out.be)
  clear hW2 ka q0 q1 q2 q3 q4 q5
  obtain ⟨q0, q1, q2, q3, q4, q5, _⟩ := bk6 R2.out.f
  go_wp2
  obtain ⟨X, hXX⟩ : ∃ X, [z, to] = X := ⟨_, rfl⟩
  rw [hXX] at R2
  have RX := Lib.hid R2.out
  have HXL := Lib.hid (show X.length = 2 by rw [← hXX]; rfl)
  have HXX := Lib.hid (show X ++ lowB s num = hdT ⟨kd, to, fr, tok, num, s⟩ by rw [HX.out, ← hXX]; simp)
  have hxl : X.length ≤ 131 := by rw [← hXX]; simp
  clear hXX q0 q1 q2 q3 q4 q5
  try rw [HW1.out]
  try rw [HW2.out]
  go_loopg [5, 8] s (fun g v i wr => ∃ (iv : Int) (Y : List Int) (A' : Option Addr) (c' : Nat), v = .slice A' Y.length c' ∧ i = .int .i64 iv ∧ iv = 8 * ((g : Int) - 1) ∧ g ≤ 4 ∧ Hid (WrAt w 24 #[.int .i64 kd, .int .i64 to, .int .i64 fr, .slice A tok.length c, .int .i64 num, .int .i64 s] (.slice A' Y.length c') Y wr) ∧ Hid (Y ++ lowB g num = X ++ lowB s num) ∧ Hid (Y.length + g ≤ X.length + s))
  case atStart => exact ⟨_, X, _, _, by first | rfl | rw [HXL.out], rfl, rfl, s4, by first | exact RX | (rw [HXL.out]; exact RX) | exact Lib.hid (by have := RX.out; rwa [HXL.out]), Lib.hid rfl, Lib.hid (Nat.le_refl _)⟩
  case round =>
    obtain ⟨iv, Y, A', c', rfl, rfl, hiv, hg4, RK, HY, HL⟩ := hrel
    obtain ⟨q0, q1, q2, q3, q4, q5, _⟩ := bk6 RK.out.f
    obtain ⟨rfl, rfl⟩ | ⟨rfl, rfl⟩ | ⟨rfl, rfl⟩ | ⟨rfl, rfl⟩ | ⟨rfl, rfl⟩ : (gk = 0 ∧ iv = -8) ∨ (gk = 1 ∧ iv = 0) ∨ (gk = 2 ∧ iv = 8) ∨ (gk = 3 ∧ iv = 16) ∨ (gk = 4 ∧ iv = 24) := by omega
    · clear hiv hg4
      go_wp2
      go_ret2
      exact hdEnc_end HF.out RK.out (by have := HY.out; rw [HXX.out] at this; simpa [lowB] using this)
    all_goals clear hiv hg4
    · have hzb : 0 ≤ num % 256 ∧ num % 256 ≤ 255 := by omega
      go_wp2_with (at_builtin
                   refine wpList_app _ rfl (.tmp 51) (.tmp 57) _ rfl (w.heap.size + 1) 5 i0 Tryd.underlying22 HI.out HZ.out HZ1.out HZ2.out (.slice A' Y.length c') Y.length _ rfl (RK.out.alloc (.cells #[.int .u8 (num % 256)] 5)).own (wr.heap.size + 1) (some ⟨wr.heap.size, 0, none⟩) 1 1 [num % 256] rfl (wr_one wr (num % 256) _ hzb) rfl (fun h => by cases h) (by have := HL.out; omega) (RK.out.base _) ?_
                   intro v2 w2 own2 g2 hr2
                   have R9 := Lib.hid ((RK.out.alloc (.cells #[.int .u8 (num % 256)] 5)).app own2 g2 (byt1 hzb))
                   obtain ⟨A2, c2, hv2, _, _⟩ := own_slice own2
                   subst hv2
                   clear own2 g2 hr2 q0 q1 q2 q3 q4 q5)
      have e9 : (Y ++ [num % 256]).length = Y.length + 1 := by simp
      go_roundg 0
      case measure => omega
      case rel => exact ⟨_, Y ++ [num % 256], A2, c2, by rw [e9], rfl, by first | rfl | omega, by omega, Lib.hid (by rw [e9]; exact R9.out), Lib.hid (by rw [← HY.out, List.append_assoc, show num % 256 = shr8 0 num % 256 by simp only [shr8] <;> omega]; rfl), Lib.hid (by rw [e9]; have := HL.out; omega)⟩
    · have hzb : 0 ≤ num / 256 % 256 ∧ num / 256 % 256 ≤ 255 := by omega
      go_wp2_with (at_builtin
                   refine wpList_app _ rfl (.tmp 51) (.tmp 57) _ rfl (w.heap.size + 1) 5 i0 Tryd.underlying22 HI.out HZ.out HZ1.out HZ2.out (.slice A' Y.length c') Y.length _ rfl (RK.out.alloc (.cells #[.int .u8 (num / 256 % 256)] 5)).own (wr.heap.size + 1) (some ⟨wr.heap.size, 0, none⟩) 1 1 [num / 256 % 256] rfl (wr_one wr (num / 256 % 256) _ hzb) rfl (fun h => by cases h) (by have := HL.out; omega) (RK.out.base _) ?_
                   intro v2 w2 own2 g2 hr2
                   have R9 := Lib.hid ((RK.out.alloc (.cells #[.int .u8 (num / 256 % 256)] 5)).app own2 g2 (byt1 hzb))
                   obtain ⟨A2, c2, hv2, _, _⟩ := own_slice own2
                   subst hv2
                   clear own2 g2 hr2 q0 q1 q2 q3 q4 q5)
      have e9 : (Y ++ [num / 256 % 256]).length = Y.length + 1 := by simp
      go_roundg 1
      case measure => omega
      case rel => exact ⟨_, Y ++ [num / 256 % 256], A2, c2, by rw [e9], rfl, by first | rfl | omega, by omega, Lib.hid (by rw [e9]; exact R9.out), Lib.hid (by rw [← HY.out, List.append_assoc, show num / 256 % 256 = shr8 1 num % 256 by simp only [shr8] <;> omega]; rfl), Lib.hid (by rw [e9]; have := HL.out; omega)⟩
    · have hzb : 0 ≤ num / 65536 % 256 ∧ num / 65536 % 256 ≤ 255 := by omega
      go_wp2_with (at_builtin
                   refine wpList_app _ rfl (.tmp 51) (.tmp 57) _ rfl (w.heap.size + 1) 5 i0 Tryd.underlying22 HI.out HZ.out HZ1.out HZ2.out (.slice A' Y.length c') Y.length _ rfl (RK.out.alloc (.cells #[.int .u8 (num / 65536 % 256)] 5)).own (wr.heap.size + 1) (some ⟨wr.heap.size, 0, none⟩) 1 1 [num / 65536 % 256] rfl (wr_one wr (num / 65536 % 256) _ hzb) rfl (fun h => by cases h) (by have := HL.out; omega) (RK.out.base _) ?_
                   intro v2 w2 own2 g2 hr2
                   have R9 := Lib.hid ((RK.out.alloc (.cells #[.int .u8 (num / 65536 % 256)] 5)).app own2 g2 (byt1 hzb))
                   obtain ⟨A2, c2, hv2, _, _⟩ := own_slice own2
                   subst hv2
                   clear own2 g2 hr2 q0 q1 q2 q3 q4 q5)
      have e9 : (Y ++ [num / 65536 % 256]).length = Y.length + 1 := by simp
      go_roundg 2
      case measure => omega
      case rel => exact ⟨_, Y ++ [num / 65536 % 256], A2, c2, by rw [e9], rfl, by first | rfl | omega, by omega, Lib.hid (by rw [e9]; exact R9.out), Lib.hid (by rw [← HY.out, List.append_assoc, show num / 65536 % 256 = shr8 2 num % 256 by simp only [shr8] <;> omega]; rfl), Lib.hid (by rw [e9]; have := HL.out; omega)⟩
    · have hzb : 0 ≤ num / 16777216 % 256 ∧ num / 16777216 % 256 ≤ 255 := by omega
      go_wp2_with (at_builtin
                   refine wpList_app _ rfl (.tmp 51) (.tmp 57) _ rfl (w.heap.size + 1) 5 i0 Tryd.underlying22 HI.out HZ.out HZ1.out HZ2.out (.slice A' Y.length c') Y.length _ rfl (RK.out.alloc (.cells #[.int .u8 (num / 16777216 % 256)] 5)).own (wr.heap.size + 1) (some ⟨wr.heap.size, 0, none⟩) 1 1 [num / 16777216 % 256] rfl (wr_one wr (num / 16777216 % 256) _ hzb) rfl (fun h => by cases h) (by have := HL.out; omega) (RK.out.base _) ?_
                   intro v2 w2 own2 g2 hr2
                   have R9 := Lib.hid ((RK.out.alloc (.cells #[.int .u8 (num / 16777216 % 256)] 5)).app own2 g2 (byt1 hzb))
                   obtain ⟨A2, c2, hv2, _, _⟩ := own_slice own2
                   subst hv2
                   clear own2 g2 hr2 q0 q1 q2 q3 q4 q5)
      have e9 : (Y ++ [num / 16777216 % 256]).length = Y.length + 1 := by simp
      go_roundg 3
      case measure => omega
      case rel => exact ⟨_, Y ++ [num / 16777216 % 256], A2, c2, by rw [e9], rfl, by first | rfl | omega, by omega, Lib.hid (by rw [e9]; exact R9.out), Lib.hid (by rw [← HY.out, List.append_assoc, show num / 16777216 % 256 = shr8 3 num % 256 by simp only [shr8] <;> omega]; rfl), Lib.hid (by rw [e9]; have := HL.out; omega)⟩
set_option maxRecDepth 100000 in
set_option maxHeartbeats 4000000 in
theorem hdEncode_long (kd to fr num : Int) (tok : List Int) (s : Nat) (A : Option Addr) (c : Nat) (w : World) (hv : HdVal w w.heap.size (.agg #[.int .i64 kd, .int .i64 to, .int .i64 fr, .slice A tok.length c, .int .i64 num, .int .i64 s]) ⟨kd, to, fr, tok, num, s⟩) (hf : faultH ⟨kd, to, fr, tok, num, s⟩ = 0) (ht : Tab w) (k2 : (kd != 2) = true) :
    Calls Tryd.prog 7 #[.agg #[.int .i64 kd, .int .i64 to, .int .i64 fr, .slice A tok.length c, .int .i64 num, .int .i64 s]] w (HdEnc ⟨kd, to, fr, tok, num, s⟩ w) := by
  obtain ⟨i0, hi0, hz0, hz1, hz2⟩ := info_parts infoB1
  have HI := Lib.hid hi0
  have HZ := Lib.hid hz0
  have HZ1 := Lib.hid hz1
  have HZ2 := Lib.hid hz2
  have hok := okH_of hf
  obtain ⟨d0, hd0, hrow⟩ := hv.ex
  obtain ⟨A', c', hd1, hcl, hcm, hcn, hbr⟩ := hrow.ex
  obtain rfl : .slice A tok.length c = d0 := by simpa using hd0
  injection hd1 with e1 e2 e3
  subst e1 e3
  have RT := Lib.hid hbr
  have RN := Lib.hid hcn
  have o1 := hok.kind0; have o2 := hok.kind1; have o3 := hok.tok; have o4 := hok.to0; have o5 := hok.to1; have o6 := hok.frm0; have o7 := hok.frm1
  simp only at o1 o2 o3 o4 o5 o6 o7
  have hs4 : s ≤ 4 ∧ (kd ≠ 1 → 1 ≤ (s : Int) ∧ (s : Int) ≤ 4) ∧ 0 ≤ num ∧ num ≤ 4294967296 := by
    by_cases k : kd = 1
    · have := hok.retry k
      simp only at this
      exact ⟨by omega, fun e => absurd k e, by omega, by omega⟩
    · have := hok.size k
      have b := winOf_le (s : Int)
      simp only at this
      exact ⟨by omega, fun _ => ⟨by omega, by omega⟩, by omega, by omega⟩
  obtain ⟨s4, sk, n0, n1⟩ := hs4
  have SK := Lib.hid sk
  obtain ⟨z, hz⟩ : ∃ z, (if kd = 2 then 63 + (s : Int) else if kd = 0 then 191 + (s : Int) else 240) = z := ⟨_, rfl⟩
  have HZZ := Lib.hid hz
  have hzb : 0 ≤ z ∧ z ≤ 255 := by
    rw [← hz]
    by_cases k : kd = 2
    · rw [if_pos k]; omega
    · rw [if_neg k]
      by_cases k : kd = 0
      · rw [if_pos k]; omega
      · rw [if_neg k]; omega
  have hwt : IntKind.u8.wrap to = to := by rw [wrap_u8]; omega
  have hwf : IntKind.u8.wrap fr = fr := by rw [wrap_u8]; omega
  have hw1 : IntKind.i64.wrap ((s : Int) - 1) = (s : Int) - 1 := by rw [IntKind.wrap_i64]; omega
  have hw2 : IntKind.i64.wrap (8 * ((s : Int) - 1)) = 8 * ((s : Int) - 1) := by rw [IntKind.wrap_i64]; omega
  have HW1 := Lib.hid hw1
  have HW2 := Lib.hid hw2
  have hX : hdT ⟨kd, to, fr, tok, num, s⟩ = z :: to :: ((fr :: (enc tok.length ++ tok)) ++ lowB s num) := by
    unfold hdT markH
    simp only
    rw [hz]
    have : kd ≠ 2 := by simpa using k2
    simp only [this, if_true, if_false, Int.toNat_natCast]
  have HX := Lib.hid hX
  have HF := Lib.hid hf
  have HT := Lib.hid ht
  have B0 := Lib.hid ((Below.refl w.heap.size w).alloc (Nat.le_refl _) (.cells #[.int .i64 kd, .int .i64 to, .int .i64 fr, .slice A tok.length c, .int .i64 num, .int .i64 s] 24))
  have F0 := Lib.hid (heap_alloc_new w (.cells #[.int .i64 kd, .int .i64 to, .int .i64 fr, .slice A tok.length c, .int .i64 num, .int .i64 s] 24))
  have HV := Lib.hid (hv.on B0.out)
  have hcap : c ≤ maxLen := hcm
  clear hi0 hz0 hz1 hz2 hok hd0 hrow hbr hcn sk hz hX hf ht hv
  go_enter Tryd.func7, Tryd.ntmps7
  go_wp2_with (go_at_call 6; refine (hdCheck_any _ _ _ HV.out).mono ?_; rintro e w1 ⟨rfl, b1⟩; rw [HF.out]; have F1 := Lib.hid ((b1.block _ (lt_of_block F0.out)).trans F0.out); have B1 := Lib.hid (B0.out.trans (b1.mono B0.out.size)); clear b1; obtain ⟨q0, q1, q2, q3, q4, q5, _⟩ := bk6 F1.out)
  have hlt := lt_of_block F1.out
  have ka : ∀ o i, (w1.drew.alloc o).cell? ⟨w.heap.size, i, none⟩ = w1.cell? ⟨w.heap.size, i, none⟩ := fun o i => (((Below.refl w1.heap.size w1).drew).alloc (Nat.le_refl _) o).cell hlt
  apply wp_end
  case h =>
    go_region_held3 (fun w' => w'.cell? ⟨w.heap.size, 0, none⟩ = some (.int .i64 kd) ∧ w'.cell? ⟨w.heap.size, 1, none⟩ = some (.int .i64 to) ∧ w'.cell? ⟨w.heap.size, 2, none⟩ = some (.int .i64 fr) ∧ w'.cell? ⟨w.heap.size, 3, none⟩ = some (.slice A tok.length c) ∧ w'.cell? ⟨w.heap.size, 4, none⟩ = some (.int .i64 num) ∧ w'.cell? ⟨w.heap.size, 5, none⟩ = some (.int .i64 s)) (go_keep) (first | ((go_at_call 17; refine (first_any kd to fr num s z _ o1 o2 SK.out HZZ.out _).mono ?_; rintro e w' ⟨rfl, rfl⟩)))
    all_goals exact ⟨rfl, rfl, rfl⟩
  case k =>
  obtain ⟨W2, hW2⟩ : ∃ W2, ((w1.alloc (.cells #[.int .i64 kd, .int .i64 to, .int .i64 fr, .slice A tok.length c, .int .i64 num, .int .i64 s] 24)).alloc (.cells #[.int .u8 z, .int .u8 to] 5)).drew = W2 := ⟨_, rfl⟩
  have R2 := Lib.hid (wr_start B1.out F1.out (.cells #[.int .i64 kd, .int .i64 to, .int .i64 fr, .slice A tok.length c, .int .i64 num, .int .i64 s] 24) z to hzb ⟨o4, o5⟩ (.slice (some ⟨w1.heap.size + 1, 0, none⟩) 2 2) W2 rfl hW2.symm)
  have HS2 := Lib.hid (show W2.heap.size = w1.heap.size + 2 by rw [← hW2]; simp)
  rw [hW2]
  have TB := Lib.hid (HT.out.below R2.out.be)
  clear hW2 ka q0 q1 q2 q3 q4 q5
  obtain ⟨q0, q1, q2, q3, q4, q5, _⟩ := bk6 R2.out.f
  have EB := Lib.hid (enc_byt (tok.length : Int) (by omega) (by omega))
  have hel : (enc (tok.length : Int)).length ≤ 8 := by have := enc_len (tok.length : Int); have := sz_bd (tok.length : Int); omega
  go_wp2_with (first
    | (go_at_call 18; refine (encode_in (tok.length : Int) (by omega) (by omega) _ TB.out).mono ?_; rintro e w3 hE; obtain ⟨rfl, hb3, hk3⟩ := hE; have R3 := Lib.hid (R2.out.on hb3); have K3 := Lib.hid hk3; have hs3 := hb3.size; clear hb3 hk3 q0 q1 q2 q3 q4 q5; obtain ⟨q0, q1, q2, q3, q4, q5, _⟩ := bk6 R3.out.f)
    | (at_builtin
       have g := R3.out
       refine wpList_app _ rfl (.tmp 30) (.tmp 34) _ rfl (w.heap.size + 1) 5 i0 Tryd.underlying22 HI.out HZ.out HZ1.out HZ2.out (.slice (some ⟨w1.heap.size + 1, 0, none⟩) 2 2) 2 _ rfl (R3.out.alloc (.cells #[.int .u8 fr] 5)).own (w3.heap.size + 1) (some ⟨w3.heap.size, 0, none⟩) 1 1 [fr] rfl (wr_one w3 fr _ ⟨o6, o7⟩) rfl (fun h => by cases h) (by omega) (R3.out.base _) ?_
       intro v4 w4 own4 g4 hr4
       have R4 := Lib.hid ((R3.out.alloc (.cells #[.int .u8 fr] 5)).app own4 g4 (byt1 ⟨o6, o7⟩))
       have K4 := Lib.hid ((g4.block W2.heap.size (by have := lt_of_block K3.out; simp; omega) (by have := HS2.out; simp [Value.ownBlock]; omega)).trans ((Below.heap_alloc _ _ _ (lt_of_block K3.out)).trans K3.out))
       have N4 := Lib.hid (show v4.ownBlock ≠ some W2.heap.size from by
         rcases hr4 with e | e <;> rw [e]
         · have := HS2.out; simp [Value.ownBlock]; omega
         · have := lt_of_block K3.out; simp; omega)
       obtain ⟨A4, c4, hv4, _, _⟩ := own_slice own4
       subst hv4
       clear own4 g4 hr4 q0 q1 q2 q3 q4 q5 g
       obtain ⟨q0, q1, q2, q3, q4, q5, _⟩ := bk6 R4.out.f)
    | (at_builtin
       have g := R4.out
       refine wpList_app _ rfl (.tmp 36) (.tmp 37) _ rfl (w.heap.size + 1) 5 i0 Tryd.underlying22 HI.out HZ.out HZ1.out HZ2.out (.slice A4 3 c4) 3 _ rfl R4.out.own (W2.heap.size + 1) (some ⟨W2.heap.size, 0, none⟩) (enc (tok.length : Int)).length (enc (tok.length : Int)).length (enc (tok.length : Int)) rfl (enc_row K4.out EB.out) rfl (fun h => by cases h) (by omega) R4.out.lt ?_
       intro v5 w5 own5 g5 hr5
       have R5 := Lib.hid (R4.out.app own5 g5 EB.out)
       obtain ⟨A5, c5, hv5, _, _⟩ := own_slice own5
       subst hv5
       clear own5 g5 hr5 q0 q1 q2 q3 q4 q5 g
       obtain ⟨q0, q1, q2, q3, q4, q5, _⟩ := bk6 R5.out.f)
    | (at_builtin
       have g := R5.out
       refine wpList_app _ rfl (.tmp 39) (.tmp 41) _ rfl (w.heap.size + 1) 5 i0 Tryd.underlying22 HI.out HZ.out HZ1.out HZ2.out (.slice A5 (3 + (enc (tok.length : Int)).length) c5) (3 + (enc (tok.length : Int)).length) _ rfl (R5.out.ownN (by simp; omega)) w.heap.size A tok.length c tok rfl (RT.out.below R5.out.be) rfl RN.out (by omega) R5.out.lt ?_
       intro v6 w6 own6 g6 hr6
       have R6 := Lib.hid (R5.out.appN (by simp; omega) rfl own6 g6 RT.out.1)
       obtain ⟨A6, c6, hv6, _, _⟩ := own_slice own6
       subst hv6
       clear own6 g6 hr6 q0 q1 q2 q3 q4 q5 g
       obtain ⟨q0, q1, q2, q3, q4, q5, _⟩ := bk6 R6.out.f))
  obtain ⟨X, hXX⟩ : ∃ X, [z, to] ++ [fr] ++ enc (tok.length : Int) ++ tok = X := ⟨_, rfl⟩
  rw [hXX] at R6
  have RX := Lib.hid R6.out
  have HXL := Lib.hid (show X.length = 3 + (enc (tok.length : Int)).length + tok.length by rw [← hXX]; simp; omega)
  have HXX := Lib.hid (show X ++ lowB s num = hdT ⟨kd, to, fr, tok, num, s⟩ by rw [HX.out, ← hXX]; simp)
  have hxl : X.length ≤ 131 := by rw [← hXX]; simp; omega
  clear hXX q0 q1 q2 q3 q4 q5
  try rw [HW1.out]
  try rw [HW2.out]
  go_loopg [5, 8] s (fun g v i wr => ∃ (iv : Int) (Y : List Int) (A' : Option Addr) (c' : Nat), v = .slice A' Y.length c' ∧ i = .int .i64 iv ∧ iv = 8 * ((g : Int) - 1) ∧ g ≤ 4 ∧ Hid (WrAt w 24 #[.int .i64 kd, .int .i64 to, .int .i64 fr, .slice A tok.length c, .int .i64 num, .int .i64 s] (.slice A' Y.length c') Y wr) ∧ Hid (Y ++ lowB g num = X ++ lowB s num) ∧ Hid (Y.length + g ≤ X.length + s))
  case atStart => exact ⟨_, X, _, _, by first | rfl | rw [HXL.out], rfl, rfl, s4, by first | exact RX | (rw [HXL.out]; exact RX) | exact Lib.hid (by have := RX.out; rwa [HXL.out]), Lib.hid rfl, Lib.hid (Nat.le_refl _)⟩
  case round =>
    obtain ⟨iv, Y, A', c', rfl, rfl, hiv, hg4, RK, HY, HL⟩ := hrel
    obtain ⟨q0, q1, q2, q3, q4, q5, _⟩ := bk6 RK.out.f
    obtain ⟨rfl, rfl⟩ | ⟨rfl, rfl⟩ | ⟨rfl, rfl⟩ | ⟨rfl, rfl⟩ | ⟨rfl, rfl⟩ : (gk = 0 ∧ iv = -8) ∨ (gk = 1 ∧ iv = 0) ∨ (gk = 2 ∧ iv = 8) ∨ (gk = 3 ∧ iv = 16) ∨ (gk = 4 ∧ iv = 24) := by omega
    · clear hiv hg4
      go_wp2
      go_ret2
      exact hdEnc_end HF.out RK.out (by have := HY.out; rw [HXX.out] at this; simpa [lowB] using this)
    all_goals clear hiv hg4
    · have hzb : 0 ≤ num % 256 ∧ num % 256 ≤ 255 := by omega
      go_wp2_with (at_builtin
                   refine wpList_app _ rfl (.tmp 51) (.tmp 57) _ rfl (w.heap.size + 1) 5 i0 Tryd.underlying22 HI.out HZ.out HZ1.out HZ2.out (.slice A' Y.length c') Y.length _ rfl (RK.out.alloc (.cells #[.int .u8 (num % 256)] 5)).own (wr.heap.size + 1) (some ⟨wr.heap.size, 0, none⟩) 1 1 [num % 256] rfl (wr_one wr (num % 256) _ hzb) rfl (fun h => by cases h) (by have := HL.out; omega) (RK.out.base _) ?_
                   intro v2 w2 own2 g2 hr2
                   have R9 := Lib.hid ((RK.out.alloc (.cells #[.int .u8 (num % 256)] 5)).app own2 g2 (byt1 hzb))
                   obtain ⟨A2, c2, hv2, _, _⟩ := own_slice own2
                   subst hv2
                   clear own2 g2 hr2 q0 q1 q2 q3 q4 q5)
      have e9 : (Y ++ [num % 256]).length = Y.length + 1 := by simp
      go_roundg 0
      case measure => omega
      case rel => exact ⟨_, Y ++ [num % 256], A2, c2, by rw [e9], rfl, by first | rfl | omega, by omega, Lib.hid (by rw [e9]; exact R9.out), Lib.hid (by rw [← HY.out, List.append_assoc, show num % 256 = shr8 0 num % 256 by simp only [shr8] <;> omega]; rfl), Lib.hid (by rw [e9]; have := HL.out; omega)⟩
    · have hzb : 0 ≤ num / 256 % 256 ∧ num / 256 % 256 ≤ 255 := by omega
      go_wp2_with (at_builtin
                   refine wpList_app _ rfl (.tmp 51) (.tmp 57) _ rfl (w.heap.size + 1) 5 i0 Tryd.underlying22 HI.out HZ.out HZ1.out HZ2.out (.slice A' Y.length c') Y.length _ rfl (RK.out.alloc (.cells #[.int .u8 (num / 256 % 256)] 5)).own (wr.heap.size + 1) (some ⟨wr.heap.size, 0, none⟩) 1 1 [num / 256 % 256] rfl (wr_one wr (num / 256 % 256) _ hzb) rfl (fun h => by cases h) (by have := HL.out; omega) (RK.out.base _) ?_
                   intro v2 w2 own2 g2 hr2
                   have R9 := Lib.hid ((RK.out.alloc (.cells #[.int .u8 (num / 256 % 256)] 5)).app own2 g2 (byt1 hzb))
                   obtain ⟨A2, c2, hv2, _, _⟩ := own_slice own2
                   subst hv2
                   clear own2 g2 hr2 q0 q1 q2 q3 q4 q5)
      have e9 : (Y ++ [num / 256 % 256]).length = Y.length + 1 := by simp
      go_roundg 1
      case measure => omega
      case rel => exact ⟨_, Y ++ [num / 256 % 256], A2, c2, by rw [e9], rfl, by first | rfl | omega, by omega, Lib.hid (by rw [e9]; exact R9.out), Lib.hid (by rw [← HY.out, List.append_assoc, show num / 256 % 256 = shr8 1 num % 256 by simp only [shr8] <;> omega]; rfl), Lib.hid (by rw [e9]; have := HL.out; omega)⟩
    · have hzb : 0 ≤ num / 65536 % 256 ∧ num / 65536 % 256 ≤ 255 := by omega
      go_wp2_with (at_builtin
                   refine wpList_app _ rfl (.tmp 51) (.tmp 57) _ rfl (w.heap.size + 1) 5 i0 Tryd.underlying22 HI.out HZ.out HZ1.out HZ2.out (.slice A' Y.length c') Y.length _ rfl (RK.out.alloc (.cells #[.int .u8 (num / 65536 % 256)] 5)).own (wr.heap.size + 1) (some ⟨wr.heap.size, 0, none⟩) 1 1 [num / 65536 % 256] rfl (wr_one wr (num / 65536 % 256) _ hzb) rfl (fun h => by cases h) (by have := HL.out; omega) (RK.out.base _) ?_
                   intro v2 w2 own2 g2 hr2
                   have R9 := Lib.hid ((RK.out.alloc (.cells #[.int .u8 (num / 65536 % 256)] 5)).app own2 g2 (byt1 hzb))
                   obtain ⟨A2, c2, hv2, _, _⟩ := own_slice own2
                   subst hv2
                   clear own2 g2 hr2 q0 q1 q2 q3 q4 q5)
      have e9 : (Y ++ [num / 65536 % 256]).length = Y.length + 1 := by simp
      go_roundg 2
      case measure => omega
      case rel => exact ⟨_, Y ++ [num / 65536 % 256], A2, c2, by rw [e9], rfl, by first | rfl | omega, by omega, Lib.hid (by rw [e9]; exact R9.out), Lib.hid (by rw [← HY.out, List.append_assoc, show num / 65536 % 256 = shr8 2 num % 256 by simp only [shr8] <;> omega]; rfl), Lib.hid (by rw [e9]; have := HL.out; omega)⟩
    · have hzb : 0 ≤ num / 16777216 % 256 ∧ num / 16777216 % 256 ≤ 255 := by omega
      go_wp2_with (at_builtin
                   refine wpList_app _ rfl (.tmp 51) (.tmp 57) _ rfl (w.heap.size + 1) 5 i0 Tryd.underlying22 HI.out HZ.out HZ1.out HZ2.out (.slice A' Y.length c') Y.length _ rfl (RK.out.alloc (.cells #[.int .u8 (num / 16777216 % 256)] 5)).own (wr.heap.size + 1) (some ⟨wr.heap.size, 0, none⟩) 1 1 [num / 16777216 % 256] rfl (wr_one wr (num / 16777216 % 256) _ hzb) rfl (fun h => by cases h) (by have := HL.out; omega) (RK.out.base _) ?_
                   intro v2 w2 own2 g2 hr2
                   have R9 := Lib.hid ((RK.out.alloc (.cells #[.int .u8 (num / 16777216 % 256)] 5)).app own2 g2 (byt1 hzb))
                   obtain ⟨A2, c2, hv2, _, _⟩ := own_slice own2
                   subst hv2
                   clear own2 g2 hr2 q0 q1 q2 q3 q4 q5)
      have e9 : (Y ++ [num / 16777216 % 256]).length = Y.length + 1 := by simp
      go_roundg 3
      case measure => omega
      case rel => exact ⟨_, Y ++ [num / 16777216 % 256], A2, c2, by rw [e9], rfl, by first | rfl | omega, by omega, Lib.hid (by rw [e9]; exact R9.out), Lib.hid (by rw [← HY.out, List.append_assoc, show num / 16777216 % 256 = shr8 3 num % 256 by simp only [shr8] <;> omega]; rfl), Lib.hid (by rw [e9]; have := HL.out; omega)⟩
theorem hdEncode_any (v : Value) (h : Hd) (w : World) (hv : HdVal w w.heap.size v h) (ht : Tab w) : Calls Tryd.prog 7 #[v] w (HdEnc h w) := by
  by_cases hf : faultH h = 0
  · have hok := okH_of hf
    obtain ⟨s, hs⟩ : ∃ s : Nat, h.size = (s : Int) := by
      by_cases k : h.kind = 1
      · exact ⟨0, by have := hok.retry k; omega⟩
      · exact ⟨h.size.toNat, by have := hok.size k; omega⟩
    obtain ⟨kd, to, fr, tok, num, size⟩ := h
    simp only at hs
    subst hs
    obtain ⟨d, rfl, hd⟩ := id hv.ex
    obtain ⟨A, c, rfl, _, _, _, _⟩ := id hd.ex
    by_cases k : kd = 2
    · exact hdEncode_short kd to fr num tok s A c w hv hf ht (by simp [k])
    · exact hdEncode_long kd to fr num tok s A c w hv hf ht (by simp [k])
  · exact hdEncode_no v h w hv hf
end Go.Proofs.YtaccedlpnngdhaaDoor
