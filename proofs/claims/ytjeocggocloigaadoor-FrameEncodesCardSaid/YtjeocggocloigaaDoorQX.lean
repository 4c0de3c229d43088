/- Texts of the proofs, joined. -/
import Derived.Test.YtjeocggocloigaaDoorQO
import Derived.Test.YtjeocggocloigaaDoorQM
import Derived.Test.YtjeocggocloigaaDoorQI
import Derived.Test.YtjeocggocloigaaDoorQY
import Derived.Test.YtjeocggocloigaaDoorQB
/- The document's answer on a frame's bytes: frameText. -/
namespace Go.Proofs.YtjeocggocloigaaDoor
set_option linter.unusedVariables false
open Go.RowKit P

theorem vt (n : Int) (h0 : 0 ≤ n) (h1 : n ≤ 4611686018427387903) : ∃ S, Hid (strOfNums (enc n) = S) ∧ S.size ≤ 8 ∧ Hid (∀ w, Calls Tryd.prog 33 #[.int .i64 n] w fun e w' => e = .returned (.string S) ∧ Below w.heap.size w w') :=
  ⟨_, Lib.hid rfl, by rw [strOfNums_size]; have := enc_len n; have := sz_bd n; omega, Lib.hid (fun w => varText_in n h0 h1 w)⟩
theorem preR_step (rs : List (Int × Int)) (k : Nat) (h : 0 < k) : preR rs (k + 1) = preR rs k ++ (enc ((rs.getD (k - 1) (0, 0)).1 - (rs.getD k (0, 0)).2 - 2) ++ enc ((rs.getD k (0, 0)).2 - (rs.getD k (0, 0)).1)) := by
  obtain ⟨j, rfl⟩ : ∃ j, k = j + 1 := ⟨k - 1, by omega⟩
  rfl
theorem cat1 {M A : List Int} {S S1 : ByteArray} (h : strOfNums M = S) (h1 : strOfNums A = S1) : strOfNums (M ++ A) = S ++ S1 := by
  subst h h1
  rw [str_cat]
theorem cat2r {M A B : List Int} {S S1 S2 : ByteArray} (h : strOfNums M = S) (h1 : strOfNums A = S1) (h2 : strOfNums B = S2) : strOfNums (M ++ (A ++ B)) = S ++ (S1 ++ S2) := by
  subst h h1 h2
  simp only [str_cat]
theorem bt (n : Int) (h0 : 0 ≤ n) (h1 : n ≤ 4611686018427387903) : ∃ S, Hid (strOfNums (lowB 8 n) = S) ∧ S.size ≤ 8 ∧ Hid (∀ w, Calls Tryd.prog 34 #[.int .u64 n, .int .i64 8] w fun e w' => e = .returned (.string S) ∧ Below w.heap.size w w') :=
  ⟨_, Lib.hid rfl, by rw [strOfNums_size, lowB_len]; omega, Lib.hid (fun w => big_any n 8 h0 (by omega) (by omega) w)⟩
theorem parts_in {k : Int} {s : List Int} (h : partsOf k = some s) : ∀ j, j < s.length → s.getD j 0 = 105 ∨ s.getD j 0 = 111 ∨ s.getD j 0 = 99 ∨ s.getD j 0 = 119 ∨ s.getD j 0 = 100 ∨ s.getD j 0 = 114 ∨ s.getD j 0 = 102 := by
  rcases parts_cases h with ⟨rfl, _⟩ | ⟨rfl, _⟩ | ⟨rfl, _⟩ | ⟨rfl, _⟩ | ⟨rfl, _⟩ | ⟨rfl, _⟩ | ⟨rfl, _⟩ | ⟨rfl, _⟩ | ⟨rfl, _⟩ | ⟨rfl, _⟩ | ⟨rfl, _⟩ <;> intro j hj <;> simp only [List.length_cons, List.length_nil] at hj <;> (rcases j with _ | _ | _ | _ | j <;> first | (exfalso; omega) | simp)
theorem cat3 {M A B C : List Int} {S S1 S2 S3 : ByteArray} (h : strOfNums M = S) (h1 : strOfNums A = S1) (h2 : strOfNums B = S2) (h3 : strOfNums C = S3) : strOfNums (M ++ (A ++ (B ++ C))) = S ++ (S1 ++ S2) ++ S3 := by
  subst h h1 h2 h3
  simp only [str_cat, List.append_assoc]
theorem cat2 {M A B : List Int} {S S1 S2 : ByteArray} (h : strOfNums M = S) (h1 : strOfNums A = S1) (h2 : strOfNums B = S2) : strOfNums (M ++ (A ++ B)) = S ++ S1 ++ S2 := by
  subst h h1 h2
  simp only [str_cat, List.append_assoc]

set_option maxRecDepth 100000 in
set_option maxHeartbeats 1000000 in
theorem refText_x (kd id off code : Int) (fin : Bool) (rs : List (Int × Int)) (data s : List Int) (Ar Ad : Option Addr) (cr cd : Nat) (w : World) (hrr : RRow w w.heap.size Ar rs) (hrc : rs.length ≤ cr) (hrm : cr ≤ maxLen) (hdr : BRow w w.heap.size Ad data) (hdc : data.length ≤ cd) (hdm : cd ≤ maxLen)
    (ok : OkF ⟨kd, id, off, fin, code, rs, data⟩ s) (hk0 : (0 : Int) ≤ kd) (hk1 : kd ≤ (30 : Int)) (hk : (Lit.int .i64 kd).wf = true) (h8 : kd ≠ 8) :
    Calls Tryd.prog 16 #[.agg #[.int .i64 kd, .int .i64 id, .int .i64 off, .bool fin, .int .i64 code, .slice Ar rs.length cr, .slice Ad data.length cd]] w fun e w' => e = .returned (.string (strOfNums (frT ⟨kd, id, off, fin, code, rs, data⟩))) ∧ Below w.heap.size w w' := by
  have hp : partsOf kd = some s := ok.parts
  have HZ := Lib.hid (show strOfNums (markF ⟨kd, id, off, fin, code, rs, data⟩ ++ preR rs 0) = (strOfNums (enc kd)) by rw [show preR rs 0 = [] from rfl, List.append_nil]; unfold markF; rw [if_neg h8])
  have HZ8 : (strOfNums (enc kd)).size ≤ 8 := by rw [strOfNums_size]; have := enc_len kd; have := sz_bd kd; omega
  have HH := Lib.hid (refHas_some hp hk)
  obtain ⟨pb, pl9⟩ := parts_byt hp
  have HIN := Lib.hid (parts_in hp)
  obtain ⟨T, hT⟩ : ∃ T, strOfNums s = T := ⟨_, rfl⟩
  have hsz : T.size = s.length := by rw [← hT]; exact strOfNums_size s
  have hget : ∀ n (h : n < T.size), ((T[n]'h).toNat : Int) = s.getD n 0 := by
    intro n h
    subst hT
    exact str_get pb n h
  have HG := Lib.hid hget
  have HSZ := Lib.hid hsz
  rw [hT] at HH
  clear hT hget pb hsz
  have HVT := Lib.hid (varText_in kd hk0 (by omega))
  have HW := Lib.hid ((Below.refl w.heap.size w).alloc (Nat.le_refl _) (.cells #[.int .i64 kd, .int .i64 id, .int .i64 off, .bool fin, .int .i64 code, .slice Ar rs.length cr, .slice Ad data.length cd] 25))
  have FB0 := Lib.hid (heap_alloc_new w (.cells #[.int .i64 kd, .int .i64 id, .int .i64 off, .bool fin, .int .i64 code, .slice Ar rs.length cr, .slice Ad data.length cd] 25))
  have OK := Lib.hid ok
  have HP := Lib.hid hp
  have HRR := Lib.hid hrr
  have HDR := Lib.hid hdr
  clear ok hrr hdr hp hk
  have h8b : (kd == 8) = false := by simp [h8]
  clear h8
  go_enter Tryd.func16, Tryd.ntmps16
  go_wp2_with (first
    | (go_at_call 33; refine (HVT.out _).mono ?_; rintro e w2 ⟨rfl, b2⟩; have B2 := Lib.hid (B1.out.trans (b2.mono B1.out.size)); have FB2 := Lib.hid ((b2.block _ (lt_of_block FB1.out)).trans FB1.out); clear q0 q1 q2 q3 q4 q5 q6; obtain ⟨q0, q1, q2, q3, q4, q5, q6, _⟩ := blk7 FB2.out; clear b2)
    | (go_at_call 29; refine (HH.out _).mono ?_; rintro e w1 ⟨rfl, b1⟩; have B1 := Lib.hid (HW.out.trans (b1.mono HW.out.size)); have FB1 := Lib.hid ((b1.block _ (lt_of_block FB0.out)).trans FB0.out); obtain ⟨q0, q1, q2, q3, q4, q5, q6, _⟩ := blk7 FB1.out; clear b1))
  clear q0 q1 q2 q3 q4 q5 q6 h8b
  have rl6 : rs.length ≤ 6 := OK.out.rs
  go_loopg [5, 26] rs.length (fun g v i wr => ∃ (k : Nat) (S : ByteArray), k + g = rs.length ∧ i = .int .i64 k ∧ v = .string S ∧ Hid (strOfNums (markF ⟨kd, id, off, fin, code, rs, data⟩ ++ preR rs k) = S) ∧ S.size ≤ 8 + 24 * k ∧ Below w2.heap.size w2 wr)
  case atStart => exact ⟨0, _, by omega, rfl, rfl, HZ, by omega, Below.refl _ _⟩
  case round =>
    obtain ⟨k, S, hk, rfl, rfl, HS, hS, hb⟩ := hrel
    have BR := Lib.hid hb
    have BX := Lib.hid (B2.out.trans (hb.mono B2.out.size))
    have FBr := Lib.hid ((hb.block _ (lt_of_block FB2.out)).trans FB2.out)
    clear hb
    by_cases hlt : k < rs.length
    · obtain ⟨b, off', hA, hbb, hc⟩ := (HRR.out.below BX.out) (by omega)
      subst hA
      have hd := down_at rs _ OK.out.down
      by_cases k0 : k = 0
      · subst k0
        have c := hc 0 hlt
        have d := (hd 0 hlt).1
        have HP := Lib.hid (show preR rs (0 + 1) = enc (rs.getD 0 (0, 0)).2 ++ (enc ((rs.length : Int) - 1) ++ enc ((rs.getD 0 (0, 0)).2 - (rs.getD 0 (0, 0)).1)) from rfl)
        obtain ⟨⟨lo, hi⟩, hp⟩ : ∃ p, rs.getD 0 (0, 0) = p := ⟨_, rfl⟩
        rw [hp] at c d HP
        obtain ⟨d0, d1, d2⟩ := d
        simp only [Nat.zero_mul, Nat.add_zero] at c d0 d1 d2
        obtain ⟨c0, c1⟩ := c
        clear hc hd hp
        have FBq := Lib.hid ((((Below.refl wr.heap.size wr).alloc (Nat.le_refl _) (.cells #[.int .i64 lo, .int .i64 hi] 48)).block _ (lt_of_block FBr.out)).trans FBr.out)
        obtain ⟨S1, H1, z1, V1⟩ := vt hi (by omega) (by omega)
        obtain ⟨S2, H2, z2, V2⟩ := vt ((rs.length : Int) - 1) (by omega) (by omega)
        obtain ⟨S3, H3, z3, V3⟩ := vt (hi - lo) (by omega) (by omega)
        have HN : Hid (strOfNums (markF ⟨kd, id, off, fin, code, rs, data⟩ ++ preR rs (0 + 1)) = S ++ (S1 ++ S2) ++ S3) := Lib.hid (by
          have e0 := HS.out
          rw [show preR rs 0 = [] from rfl, List.append_nil] at e0
          rw [HP.out]
          exact cat3 e0 H1.out H2.out H3.out)
        clear HS H1 H2 H3 HP
        have hw1 : IntKind.i64.wrap ((rs.length : Int) - 1) = (rs.length : Int) - 1 := by rw [IntKind.wrap_i64]; omega
        have hw2 : IntKind.i64.wrap (hi - lo) = hi - lo := by rw [IntKind.wrap_i64]; omega
        go_wp2_with fail
        have q1 := Ext.cell (W := wr.alloc (.cells #[.int .i64 lo, .int .i64 hi] 48)) (p := ⟨wr.heap.size, 1, none⟩) (v := .int .i64 hi) (by simp)
        have q5 := Ext.cell (W := wr.alloc (.cells #[.int .i64 lo, .int .i64 hi] 48)) (p := ⟨w.heap.size, 5, none⟩) (blk7 FBq.out).2.2.2.2.2.1
        refine wp_region_ext (by kernel_rfl) (by kernel_rfl) ?_
        go_big_quiet_step ((go_at_call 33; exact Ext.call (V1.out _)))
        go_big_quiet_step ((go_at_call 33; exact Ext.call (V1.out _)))
        go_big_quiet_step ((go_at_call 33; exact Ext.call (V1.out _)))
        go_big_quiet_step ((go_at_call 33; exact Ext.call (V1.out _)))
        repeat (go_big_quiet_step ((go_at_call 33; exact Ext.call (V2.out _))))
        refine wpQuiet_nil ?_
        intro w3 hb3
        clear q1 q5
        have f0 : w3.cell? ⟨wr.heap.size, 0, none⟩ = some (.int .i64 lo) := (hb3.cell (by simp)).trans (by simp)
        have f1 : w3.cell? ⟨wr.heap.size, 1, none⟩ = some (.int .i64 hi) := (hb3.cell (by simp)).trans (by simp)
        have B3 := Lib.hid ((BR.out.alloc BR.out.size (.cells #[.int .i64 lo, .int .i64 hi] 48)).trans (hb3.mono (Nat.le_trans BR.out.size (by simp))))
        clear hb3
        go_wp2_with (go_at_call 33; refine (V3.out _).mono ?_; rintro e w4 ⟨rfl, hb4⟩; have B4 := Lib.hid (B3.out.trans (hb4.mono B3.out.size)); clear hb4)
        go_roundg (gk - 1)
        case measure => omega
        case rel => exact ⟨0 + 1, _, by omega, by go_num, rfl, HN, by simp [ByteArray.size_append]; omega, B4.out⟩
      · have c := hc k hlt
        have cq := (hc (k - 1) (by omega)).1
        have d := hd k hlt
        have dq := (hd (k - 1) (by omega)).1
        have HP := Lib.hid (preR_step rs k (by omega))
        obtain ⟨⟨lo, hi⟩, hp⟩ : ∃ p, rs.getD k (0, 0) = p := ⟨_, rfl⟩
        obtain ⟨⟨plo, phi⟩, hq⟩ : ∃ p, rs.getD (k - 1) (0, 0) = p := ⟨_, rfl⟩
        rw [hp] at c d HP
        rw [hq] at cq d dq HP
        obtain ⟨⟨d0, d1, d2⟩, d3⟩ := d
        obtain ⟨d4, d5, d6⟩ := dq
        have d7 := d3 (by omega)
        simp only at c cq d0 d1 d2 d4 d5 d6 d7
        obtain ⟨c0, c1⟩ := c
        clear hc hd hp hq d3
        have FBq := Lib.hid ((((Below.refl wr.heap.size wr).alloc (Nat.le_refl _) (.cells #[.int .i64 lo, .int .i64 hi] 48)).block _ (lt_of_block FBr.out)).trans FBr.out)
        obtain ⟨S1, H1, z1, V1⟩ := vt (plo - hi - 2) (by omega) (by omega)
        obtain ⟨S3, H3, z3, V3⟩ := vt (hi - lo) (by omega) (by omega)
        have HN : Hid (strOfNums (markF ⟨kd, id, off, fin, code, rs, data⟩ ++ preR rs (k + 1)) = S ++ S1 ++ S3) := Lib.hid (by
          rw [HP.out, ← List.append_assoc]
          exact cat2 HS.out H1.out H3.out)
        clear HS H1 H3 HP
        have hw0 : IntKind.i64.wrap ((k : Int) - 1) = (k : Int) - 1 := by rw [IntKind.wrap_i64]; omega
        have hw1 : IntKind.i64.wrap (plo - hi) = plo - hi := by rw [IntKind.wrap_i64]; omega
        have hw2 : IntKind.i64.wrap (plo - hi - 2) = plo - hi - 2 := by rw [IntKind.wrap_i64]; omega
        have hw3 : IntKind.i64.wrap (hi - lo) = hi - lo := by rw [IntKind.wrap_i64]; omega
        have gk0 : ((k : Int) == 0) = false := by simp; omega
        have i0 : (0 : Int) ≤ (k : Int) - 1 := by omega
        have i1 : (k : Int) - 1 < (rs.length : Int) := by omega
        have i2 : ((k : Int) - 1).toNat = k - 1 := by omega
        have hbs := BX.out.size
        go_wp2_with fail
        have q1 := Ext.cell (W := wr.alloc (.cells #[.int .i64 lo, .int .i64 hi] 48)) (p := ⟨wr.heap.size, 1, none⟩) (v := .int .i64 hi) (by simp)
        have q2 := Ext.cell (W := wr.alloc (.cells #[.int .i64 lo, .int .i64 hi] 48)) (p := ⟨b, off' + (k - 1) * 2, none⟩) (v := .int .i64 plo) (by rw [World.cell?_alloc_lt _ _ _ (by simp; omega)]; exact cq)
        have q5 := Ext.cell (W := wr.alloc (.cells #[.int .i64 lo, .int .i64 hi] 48)) (p := ⟨w.heap.size, 5, none⟩) (blk7 FBq.out).2.2.2.2.2.1
        refine wp_region_ext (by kernel_rfl) (by kernel_rfl) ?_
        repeat (go_big_quiet_step ((go_at_call 33; exact Ext.call (V1.out _))))
        refine wpQuiet_nil ?_
        intro w3 hb3
        clear q1 q2 q5
        have f0 : w3.cell? ⟨wr.heap.size, 0, none⟩ = some (.int .i64 lo) := (hb3.cell (by simp)).trans (by simp)
        have f1 : w3.cell? ⟨wr.heap.size, 1, none⟩ = some (.int .i64 hi) := (hb3.cell (by simp)).trans (by simp)
        have B3 := Lib.hid ((BR.out.alloc BR.out.size (.cells #[.int .i64 lo, .int .i64 hi] 48)).trans (hb3.mono (Nat.le_trans BR.out.size (by simp))))
        clear hb3
        go_wp2_with (go_at_call 33; refine (V3.out _).mono ?_; rintro e w4 ⟨rfl, hb4⟩; have B4 := Lib.hid (B3.out.trans (hb4.mono B3.out.size)); clear hb4)
        go_roundg (gk - 1)
        case measure => omega
        case rel => exact ⟨k + 1, _, by omega, by go_num, rfl, HN, by simp [ByteArray.size_append]; omega, B4.out⟩
    · have hkl : k = rs.length := by omega
      subst hkl
      have HM : ∃ MR, markF ⟨kd, id, off, fin, code, rs, data⟩ ++ preR rs rs.length = MR := ⟨_, rfl⟩
      obtain ⟨MR, hMR⟩ := HM
      rw [hMR] at HS
      have HMR := Lib.hid hMR
      clear hMR
      have id0 := OK.out.id0
      have id1 := OK.out.id1
      have of0 := OK.out.off0
      have of1 := OK.out.off1
      have co0 := OK.out.code0
      have co1 := OK.out.code1
      have dl := OK.out.data
      simp only at id0 id1 of0 of1 co0 co1 dl
      go_wp2_with fail
      go_loopg [5, 8] s.length (fun g v i wq => ∃ (j : Nat) (S2 : ByteArray), j + g = s.length ∧ i = .int .i64 j ∧ v = .string S2 ∧ Hid (strOfNums (MR ++ encQs ⟨kd, id, off, fin, code, rs, data⟩ (s.take j)) = S2) ∧ S2.size ≤ 152 + 140 * j ∧ Below wr.heap.size wr wq)
      case atStart => exact ⟨0, _, by omega, rfl, rfl, Lib.hid (by rw [show encQs ⟨kd, id, off, fin, code, rs, data⟩ (s.take 0) = [] from rfl, List.append_nil]; exact HS.out), by omega, Below.refl _ _⟩
      case round =>
        obtain ⟨j, S2, hj, rfl, rfl, HS2, hS2, hbj⟩ := hrel
        have BJ := Lib.hid hbj
        have BY := Lib.hid (BX.out.trans (hbj.mono BX.out.size))
        have FBj := Lib.hid ((hbj.block _ (lt_of_block FBr.out)).trans FBr.out)
        have hsz2 : T.size = s.length := HSZ.out
        clear hbj
        obtain ⟨q0, q1, q2, q3, q4, q5, q6, _⟩ := blk7 FBj.out
        by_cases hlt2 : j < s.length
        · have hlt3 : j < T.size := by omega
          have hx := HG.out j hlt3
          have hin := HIN.out j hlt2
          obtain ⟨z, hz⟩ : ∃ z, s.getD j 0 = z := ⟨_, rfl⟩
          rw [hz] at hx hin
          rcases hin with rfl | rfl | rfl | rfl | rfl | rfl | rfl
          · have HQ := Lib.hid (show strOfNums (MR ++ encQs ⟨kd, id, off, fin, code, rs, data⟩ (s.take (j + 1))) = strOfNums (MR ++ encQs ⟨kd, id, off, fin, code, rs, data⟩ (s.take j) ++ enc id) by rw [encQs_take ⟨kd, id, off, fin, code, rs, data⟩ s j hlt2, hz, List.append_assoc]; rfl)
            clear hz
            obtain ⟨S1, H1, z1, V1⟩ := vt id id0 id1
            have HN : Hid (strOfNums (MR ++ encQs ⟨kd, id, off, fin, code, rs, data⟩ (s.take (j + 1))) = S2 ++ S1) := Lib.hid (HQ.out.trans (cat1 HS2.out H1.out))
            clear HQ
            go_wp2_with (go_at_call 33; refine (V1.out _).mono ?_; rintro e w5 ⟨rfl, hb5⟩; have B5 := Lib.hid (BJ.out.trans (hb5.mono BJ.out.size)); clear hb5)
            go_roundg (gk - 1)
            case measure => omega
            case rel => exact ⟨j + 1, _, by omega, by go_num, rfl, HN, by simp [ByteArray.size_append]; omega, B5.out⟩
          · have HQ := Lib.hid (show strOfNums (MR ++ encQs ⟨kd, id, off, fin, code, rs, data⟩ (s.take (j + 1))) = strOfNums (MR ++ encQs ⟨kd, id, off, fin, code, rs, data⟩ (s.take j) ++ enc off) by rw [encQs_take ⟨kd, id, off, fin, code, rs, data⟩ s j hlt2, hz, List.append_assoc]; rfl)
            clear hz
            obtain ⟨S1, H1, z1, V1⟩ := vt off of0 of1
            have HN : Hid (strOfNums (MR ++ encQs ⟨kd, id, off, fin, code, rs, data⟩ (s.take (j + 1))) = S2 ++ S1) := Lib.hid (HQ.out.trans (cat1 HS2.out H1.out))
            clear HQ
            go_wp2_with (go_at_call 33; refine (V1.out _).mono ?_; rintro e w5 ⟨rfl, hb5⟩; have B5 := Lib.hid (BJ.out.trans (hb5.mono BJ.out.size)); clear hb5)
            go_roundg (gk - 1)
            case measure => omega
            case rel => exact ⟨j + 1, _, by omega, by go_num, rfl, HN, by simp [ByteArray.size_append]; omega, B5.out⟩
          · have HQ := Lib.hid (show strOfNums (MR ++ encQs ⟨kd, id, off, fin, code, rs, data⟩ (s.take (j + 1))) = strOfNums (MR ++ encQs ⟨kd, id, off, fin, code, rs, data⟩ (s.take j) ++ enc code) by rw [encQs_take ⟨kd, id, off, fin, code, rs, data⟩ s j hlt2, hz, List.append_assoc]; rfl)
            clear hz
            obtain ⟨S1, H1, z1, V1⟩ := vt code co0 co1
            have HN : Hid (strOfNums (MR ++ encQs ⟨kd, id, off, fin, code, rs, data⟩ (s.take (j + 1))) = S2 ++ S1) := Lib.hid (HQ.out.trans (cat1 HS2.out H1.out))
            clear HQ
            go_wp2_with (go_at_call 33; refine (V1.out _).mono ?_; rintro e w5 ⟨rfl, hb5⟩; have B5 := Lib.hid (BJ.out.trans (hb5.mono BJ.out.size)); clear hb5)
            go_roundg (gk - 1)
            case measure => omega
            case rel => exact ⟨j + 1, _, by omega, by go_num, rfl, HN, by simp [ByteArray.size_append]; omega, B5.out⟩
          · have HQ := Lib.hid (show strOfNums (MR ++ encQs ⟨kd, id, off, fin, code, rs, data⟩ (s.take (j + 1))) = strOfNums (MR ++ encQs ⟨kd, id, off, fin, code, rs, data⟩ (s.take j) ++ lowB 8 code) by rw [encQs_take ⟨kd, id, off, fin, code, rs, data⟩ s j hlt2, hz, List.append_assoc]; rfl)
            clear hz
            obtain ⟨S1, H1, z1, V1⟩ := bt code co0 co1
            have hwc : IntKind.u64.wrap code = code := by rw [IntKind.wrap_u64]; omega
            have HN : Hid (strOfNums (MR ++ encQs ⟨kd, id, off, fin, code, rs, data⟩ (s.take (j + 1))) = S2 ++ S1) := Lib.hid (HQ.out.trans (cat1 HS2.out H1.out))
            clear HQ
            go_wp2_with (go_at_call 34; refine (V1.out _).mono ?_; rintro e w5 ⟨rfl, hb5⟩; have B5 := Lib.hid (BJ.out.trans (hb5.mono BJ.out.size)); clear hb5)
            go_roundg (gk - 1)
            case measure => omega
            case rel => exact ⟨j + 1, _, by omega, by go_num, rfl, HN, by simp [ByteArray.size_append]; omega, B5.out⟩
          · have HQ := Lib.hid (show strOfNums (MR ++ encQs ⟨kd, id, off, fin, code, rs, data⟩ (s.take (j + 1))) = strOfNums (MR ++ encQs ⟨kd, id, off, fin, code, rs, data⟩ (s.take j) ++ (enc (data.length : Int) ++ data)) by rw [encQs_take ⟨kd, id, off, fin, code, rs, data⟩ s j hlt2, hz, List.append_assoc]; rfl)
            clear hz
            obtain ⟨S1, H1, z1, V1⟩ := vt (data.length : Int) (by omega) (by omega)
            obtain ⟨S3, H3⟩ : ∃ S3, Hid (strOfNums data = S3) := ⟨_, Lib.hid rfl⟩
            have z3 : S3.size ≤ 120 := by rw [← H3.out, strOfNums_size]; exact dl
            have HN : Hid (strOfNums (MR ++ encQs ⟨kd, id, off, fin, code, rs, data⟩ (s.take (j + 1))) = S2 ++ (S1 ++ S3)) := Lib.hid (HQ.out.trans (cat2r HS2.out H1.out H3.out))
            clear HQ
            go_wp2_with fail
            have e5 := Ext.cell (W := wr) (p := ⟨w.heap.size, 6, none⟩) q6
            have e6 := fun x : Ext wr => run_str (P := Tryd.prog) ((HDR.out.below BY.out).below (x.h.mono BY.out.size)) rfl 23 9 5 cd Tryd.underlying23 Tryd.underlying5 Tryd.underlying9
            rw [H3.out] at e6
            refine wp_region_ext (by kernel_rfl) (by kernel_rfl) ?_
            repeat (go_big_quiet_step ((go_at_call 33; exact Ext.call (V1.out _))))
            refine wpQuiet_nil ?_
            intro w5 hb5
            clear e5 e6
            have B5 := Lib.hid (BJ.out.trans (hb5.mono BJ.out.size))
            clear hb5
            go_wp2_with fail
            go_roundg (gk - 1)
            case measure => omega
            case rel => exact ⟨j + 1, _, by omega, by go_num, rfl, HN, by simp [ByteArray.size_append]; omega, B5.out⟩
          · have HQ := Lib.hid (show strOfNums (MR ++ encQs ⟨kd, id, off, fin, code, rs, data⟩ (s.take (j + 1))) = strOfNums (MR ++ encQs ⟨kd, id, off, fin, code, rs, data⟩ (s.take j) ++ []) by rw [encQs_take ⟨kd, id, off, fin, code, rs, data⟩ s j hlt2, hz, List.append_assoc]; rfl)
            clear hz
            have HN : Hid (strOfNums (MR ++ encQs ⟨kd, id, off, fin, code, rs, data⟩ (s.take (j + 1))) = S2) := Lib.hid (HQ.out.trans (by rw [List.append_nil]; exact HS2.out))
            clear HQ
            go_wp2_with fail
            go_roundg (gk - 1)
            case measure => omega
            case rel => exact ⟨j + 1, _, by omega, by go_num, rfl, HN, by omega, BJ.out⟩
          · have HQ := Lib.hid (show strOfNums (MR ++ encQs ⟨kd, id, off, fin, code, rs, data⟩ (s.take (j + 1))) = strOfNums (MR ++ encQs ⟨kd, id, off, fin, code, rs, data⟩ (s.take j) ++ []) by rw [encQs_take ⟨kd, id, off, fin, code, rs, data⟩ s j hlt2, hz, List.append_assoc]; rfl)
            clear hz
            have HN : Hid (strOfNums (MR ++ encQs ⟨kd, id, off, fin, code, rs, data⟩ (s.take (j + 1))) = S2) := Lib.hid (HQ.out.trans (by rw [List.append_nil]; exact HS2.out))
            clear HQ
            go_wp2_with fail
            go_roundg (gk - 1)
            case measure => omega
            case rel => exact ⟨j + 1, _, by omega, by go_num, rfl, HN, by omega, BJ.out⟩

        · have hjl : j = s.length := by omega
          have hr := Lib.hid (show S2 = strOfNums (frT ⟨kd, id, off, fin, code, rs, data⟩) by
            have e := HS2.out
            rw [List.take_of_length_le (by omega), ← HMR.out, text_all OK.out] at e
            exact e.symm)
          go_wp2_with fail
          go_ret
          exact ⟨by rw [hr.out]; rfl, BY.out⟩

set_option maxRecDepth 100000 in
set_option maxHeartbeats 1000000 in
theorem refText_t (id off code : Int) (rs : List (Int × Int)) (data s : List Int) (Ar Ad : Option Addr) (cr cd : Nat) (w : World) (hrr : RRow w w.heap.size Ar rs) (hrc : rs.length ≤ cr) (hrm : cr ≤ maxLen) (hdr : BRow w w.heap.size Ad data) (hdc : data.length ≤ cd) (hdm : cd ≤ maxLen)
    (ok : OkF ⟨8, id, off, true, code, rs, data⟩ s) (hk0 : (0 : Int) ≤ 8) (hk1 : 8 ≤ (30 : Int)) (hk : (Lit.int .i64 8).wf = true) :
    Calls Tryd.prog 16 #[.agg #[.int .i64 8, .int .i64 id, .int .i64 off, .bool true, .int .i64 code, .slice Ar rs.length cr, .slice Ad data.length cd]] w fun e w' => e = .returned (.string (strOfNums (frT ⟨8, id, off, true, code, rs, data⟩))) ∧ Below w.heap.size w w' := by
  have hp : partsOf 8 = some s := ok.parts
  have HZ := Lib.hid (show strOfNums (markF ⟨8, id, off, true, code, rs, data⟩ ++ preR rs 0) = (⟨#[15]⟩ : ByteArray) by rw [show preR rs 0 = [] from rfl, List.append_nil]; kernel_rfl)
  have HZ8 : (⟨#[15]⟩ : ByteArray).size ≤ 8 := by decide
  have HH := Lib.hid (refHas_some hp hk)
  obtain ⟨pb, pl9⟩ := parts_byt hp
  have HIN := Lib.hid (parts_in hp)
  obtain ⟨T, hT⟩ : ∃ T, strOfNums s = T := ⟨_, rfl⟩
  have hsz : T.size = s.length := by rw [← hT]; exact strOfNums_size s
  have hget : ∀ n (h : n < T.size), ((T[n]'h).toNat : Int) = s.getD n 0 := by
    intro n h
    subst hT
    exact str_get pb n h
  have HG := Lib.hid hget
  have HSZ := Lib.hid hsz
  rw [hT] at HH
  clear hT hget pb hsz
  have HVT := Lib.hid (varText_in 8 hk0 (by omega))
  have HW := Lib.hid ((Below.refl w.heap.size w).alloc (Nat.le_refl _) (.cells #[.int .i64 8, .int .i64 id, .int .i64 off, .bool true, .int .i64 code, .slice Ar rs.length cr, .slice Ad data.length cd] 25))
  have FB0 := Lib.hid (heap_alloc_new w (.cells #[.int .i64 8, .int .i64 id, .int .i64 off, .bool true, .int .i64 code, .slice Ar rs.length cr, .slice Ad data.length cd] 25))
  have OK := Lib.hid ok
  have HP := Lib.hid hp
  have HRR := Lib.hid hrr
  have HDR := Lib.hid hdr
  clear ok hrr hdr hp hk
  go_enter Tryd.func16, Tryd.ntmps16
  go_wp2_with (first
    | (go_at_call 33; refine (HVT.out _).mono ?_; rintro e w2 ⟨rfl, b2⟩; have B2 := Lib.hid (B1.out.trans (b2.mono B1.out.size)); have FB2 := Lib.hid ((b2.block _ (lt_of_block FB1.out)).trans FB1.out); clear q0 q1 q2 q3 q4 q5 q6; obtain ⟨q0, q1, q2, q3, q4, q5, q6, _⟩ := blk7 FB2.out; clear b2)
    | (go_at_call 29; refine (HH.out _).mono ?_; rintro e w1 ⟨rfl, b1⟩; have B1 := Lib.hid (HW.out.trans (b1.mono HW.out.size)); have FB1 := Lib.hid ((b1.block _ (lt_of_block FB0.out)).trans FB0.out); obtain ⟨q0, q1, q2, q3, q4, q5, q6, _⟩ := blk7 FB1.out; clear b1))
  clear q0 q1 q2 q3 q4 q5 q6
  have rl6 : rs.length ≤ 6 := OK.out.rs
  go_loopg [5, 26] rs.length (fun g v i wr => ∃ (k : Nat) (S : ByteArray), k + g = rs.length ∧ i = .int .i64 k ∧ v = .string S ∧ Hid (strOfNums (markF ⟨8, id, off, true, code, rs, data⟩ ++ preR rs k) = S) ∧ S.size ≤ 8 + 24 * k ∧ Below w2.heap.size w2 wr)
  case atStart => exact ⟨0, _, by omega, rfl, rfl, HZ, by omega, Below.refl _ _⟩
  case round =>
    obtain ⟨k, S, hk, rfl, rfl, HS, hS, hb⟩ := hrel
    have BR := Lib.hid hb
    have BX := Lib.hid (B2.out.trans (hb.mono B2.out.size))
    have FBr := Lib.hid ((hb.block _ (lt_of_block FB2.out)).trans FB2.out)
    clear hb
    by_cases hlt : k < rs.length
    · obtain ⟨b, off', hA, hbb, hc⟩ := (HRR.out.below BX.out) (by omega)
      subst hA
      have hd := down_at rs _ OK.out.down
      by_cases k0 : k = 0
      · subst k0
        have c := hc 0 hlt
        have d := (hd 0 hlt).1
        have HP := Lib.hid (show preR rs (0 + 1) = enc (rs.getD 0 (0, 0)).2 ++ (enc ((rs.length : Int) - 1) ++ enc ((rs.getD 0 (0, 0)).2 - (rs.getD 0 (0, 0)).1)) from rfl)
        obtain ⟨⟨lo, hi⟩, hp⟩ : ∃ p, rs.getD 0 (0, 0) = p := ⟨_, rfl⟩
        rw [hp] at c d HP
        obtain ⟨d0, d1, d2⟩ := d
        simp only [Nat.zero_mul, Nat.add_zero] at c d0 d1 d2
        obtain ⟨c0, c1⟩ := c
        clear hc hd hp
        have FBq := Lib.hid ((((Below.refl wr.heap.size wr).alloc (Nat.le_refl _) (.cells #[.int .i64 lo, .int .i64 hi] 48)).block _ (lt_of_block FBr.out)).trans FBr.out)
        obtain ⟨S1, H1, z1, V1⟩ := vt hi (by omega) (by omega)
        obtain ⟨S2, H2, z2, V2⟩ := vt ((rs.length : Int) - 1) (by omega) (by omega)
        obtain ⟨S3, H3, z3, V3⟩ := vt (hi - lo) (by omega) (by omega)
        have HN : Hid (strOfNums (markF ⟨8, id, off, true, code, rs, data⟩ ++ preR rs (0 + 1)) = S ++ (S1 ++ S2) ++ S3) := Lib.hid (by
          have e0 := HS.out
          rw [show preR rs 0 = [] from rfl, List.append_nil] at e0
          rw [HP.out]
          exact cat3 e0 H1.out H2.out H3.out)
        clear HS H1 H2 H3 HP
        have hw1 : IntKind.i64.wrap ((rs.length : Int) - 1) = (rs.length : Int) - 1 := by rw [IntKind.wrap_i64]; omega
        have hw2 : IntKind.i64.wrap (hi - lo) = hi - lo := by rw [IntKind.wrap_i64]; omega
        go_wp2_with fail
        have q1 := Ext.cell (W := wr.alloc (.cells #[.int .i64 lo, .int .i64 hi] 48)) (p := ⟨wr.heap.size, 1, none⟩) (v := .int .i64 hi) (by simp)
        have q5 := Ext.cell (W := wr.alloc (.cells #[.int .i64 lo, .int .i64 hi] 48)) (p := ⟨w.heap.size, 5, none⟩) (blk7 FBq.out).2.2.2.2.2.1
        refine wp_region_ext (by kernel_rfl) (by kernel_rfl) ?_
        go_big_quiet_step ((go_at_call 33; exact Ext.call (V1.out _)))
        go_big_quiet_step ((go_at_call 33; exact Ext.call (V1.out _)))
        go_big_quiet_step ((go_at_call 33; exact Ext.call (V1.out _)))
        go_big_quiet_step ((go_at_call 33; exact Ext.call (V1.out _)))
        repeat (go_big_quiet_step ((go_at_call 33; exact Ext.call (V2.out _))))
        refine wpQuiet_nil ?_
        intro w3 hb3
        clear q1 q5
        have f0 : w3.cell? ⟨wr.heap.size, 0, none⟩ = some (.int .i64 lo) := (hb3.cell (by simp)).trans (by simp)
        have f1 : w3.cell? ⟨wr.heap.size, 1, none⟩ = some (.int .i64 hi) := (hb3.cell (by simp)).trans (by simp)
        have B3 := Lib.hid ((BR.out.alloc BR.out.size (.cells #[.int .i64 lo, .int .i64 hi] 48)).trans (hb3.mono (Nat.le_trans BR.out.size (by simp))))
        clear hb3
        go_wp2_with (go_at_call 33; refine (V3.out _).mono ?_; rintro e w4 ⟨rfl, hb4⟩; have B4 := Lib.hid (B3.out.trans (hb4.mono B3.out.size)); clear hb4)
        go_roundg (gk - 1)
        case measure => omega
        case rel => exact ⟨0 + 1, _, by omega, by go_num, rfl, HN, by simp [ByteArray.size_append]; omega, B4.out⟩
      · have c := hc k hlt
        have cq := (hc (k - 1) (by omega)).1
        have d := hd k hlt
        have dq := (hd (k - 1) (by omega)).1
        have HP := Lib.hid (preR_step rs k (by omega))
        obtain ⟨⟨lo, hi⟩, hp⟩ : ∃ p, rs.getD k (0, 0) = p := ⟨_, rfl⟩
        obtain ⟨⟨plo, phi⟩, hq⟩ : ∃ p, rs.getD (k - 1) (0, 0) = p := ⟨_, rfl⟩
        rw [hp] at c d HP
        rw [hq] at cq d dq HP
        obtain ⟨⟨d0, d1, d2⟩, d3⟩ := d
        obtain ⟨d4, d5, d6⟩ := dq
        have d7 := d3 (by omega)
        simp only at c cq d0 d1 d2 d4 d5 d6 d7
        obtain ⟨c0, c1⟩ := c
        clear hc hd hp hq d3
        have FBq := Lib.hid ((((Below.refl wr.heap.size wr).alloc (Nat.le_refl _) (.cells #[.int .i64 lo, .int .i64 hi] 48)).block _ (lt_of_block FBr.out)).trans FBr.out)
        obtain ⟨S1, H1, z1, V1⟩ := vt (plo - hi - 2) (by omega) (by omega)
        obtain ⟨S3, H3, z3, V3⟩ := vt (hi - lo) (by omega) (by omega)
        have HN : Hid (strOfNums (markF ⟨8, id, off, true, code, rs, data⟩ ++ preR rs (k + 1)) = S ++ S1 ++ S3) := Lib.hid (by
          rw [HP.out, ← List.append_assoc]
          exact cat2 HS.out H1.out H3.out)
        clear HS H1 H3 HP
        have hw0 : IntKind.i64.wrap ((k : Int) - 1) = (k : Int) - 1 := by rw [IntKind.wrap_i64]; omega
        have hw1 : IntKind.i64.wrap (plo - hi) = plo - hi := by rw [IntKind.wrap_i64]; omega
        have hw2 : IntKind.i64.wrap (plo - hi - 2) = plo - hi - 2 := by rw [IntKind.wrap_i64]; omega
        have hw3 : IntKind.i64.wrap (hi - lo) = hi - lo := by rw [IntKind.wrap_i64]; omega
        have gk0 : ((k : Int) == 0) = false := by simp; omega
        have i0 : (0 : Int) ≤ (k : Int) - 1 := by omega
        have i1 : (k : Int) - 1 < (rs.length : Int) := by omega
        have i2 : ((k : Int) - 1).toNat = k - 1 := by omega
        have hbs := BX.out.size
        go_wp2_with fail
        have q1 := Ext.cell (W := wr.alloc (.cells #[.int .i64 lo, .int .i64 hi] 48)) (p := ⟨wr.heap.size, 1, none⟩) (v := .int .i64 hi) (by simp)
        have q2 := Ext.cell (W := wr.alloc (.cells #[.int .i64 lo, .int .i64 hi] 48)) (p := ⟨b, off' + (k - 1) * 2, none⟩) (v := .int .i64 plo) (by rw [World.cell?_alloc_lt _ _ _ (by simp; omega)]; exact cq)
        have q5 := Ext.cell (W := wr.alloc (.cells #[.int .i64 lo, .int .i64 hi] 48)) (p := ⟨w.heap.size, 5, none⟩) (blk7 FBq.out).2.2.2.2.2.1
        refine wp_region_ext (by kernel_rfl) (by kernel_rfl) ?_
        repeat (go_big_quiet_step ((go_at_call 33; exact Ext.call (V1.out _))))
        refine wpQuiet_nil ?_
        intro w3 hb3
        clear q1 q2 q5
        have f0 : w3.cell? ⟨wr.heap.size, 0, none⟩ = some (.int .i64 lo) := (hb3.cell (by simp)).trans (by simp)
        have f1 : w3.cell? ⟨wr.heap.size, 1, none⟩ = some (.int .i64 hi) := (hb3.cell (by simp)).trans (by simp)
        have B3 := Lib.hid ((BR.out.alloc BR.out.size (.cells #[.int .i64 lo, .int .i64 hi] 48)).trans (hb3.mono (Nat.le_trans BR.out.size (by simp))))
        clear hb3
        go_wp2_with (go_at_call 33; refine (V3.out _).mono ?_; rintro e w4 ⟨rfl, hb4⟩; have B4 := Lib.hid (B3.out.trans (hb4.mono B3.out.size)); clear hb4)
        go_roundg (gk - 1)
        case measure => omega
        case rel => exact ⟨k + 1, _, by omega, by go_num, rfl, HN, by simp [ByteArray.size_append]; omega, B4.out⟩
    · have hkl : k = rs.length := by omega
      subst hkl
      have HM : ∃ MR, markF ⟨8, id, off, true, code, rs, data⟩ ++ preR rs rs.length = MR := ⟨_, rfl⟩
      obtain ⟨MR, hMR⟩ := HM
      rw [hMR] at HS
      have HMR := Lib.hid hMR
      clear hMR
      have id0 := OK.out.id0
      have id1 := OK.out.id1
      have of0 := OK.out.off0
      have of1 := OK.out.off1
      have co0 := OK.out.code0
      have co1 := OK.out.code1
      have dl := OK.out.data
      simp only at id0 id1 of0 of1 co0 co1 dl
      go_wp2_with fail
      go_loopg [5, 8] s.length (fun g v i wq => ∃ (j : Nat) (S2 : ByteArray), j + g = s.length ∧ i = .int .i64 j ∧ v = .string S2 ∧ Hid (strOfNums (MR ++ encQs ⟨8, id, off, true, code, rs, data⟩ (s.take j)) = S2) ∧ S2.size ≤ 152 + 140 * j ∧ Below wr.heap.size wr wq)
      case atStart => exact ⟨0, _, by omega, rfl, rfl, Lib.hid (by rw [show encQs ⟨8, id, off, true, code, rs, data⟩ (s.take 0) = [] from rfl, List.append_nil]; exact HS.out), by omega, Below.refl _ _⟩
      case round =>
        obtain ⟨j, S2, hj, rfl, rfl, HS2, hS2, hbj⟩ := hrel
        have BJ := Lib.hid hbj
        have BY := Lib.hid (BX.out.trans (hbj.mono BX.out.size))
        have FBj := Lib.hid ((hbj.block _ (lt_of_block FBr.out)).trans FBr.out)
        have hsz2 : T.size = s.length := HSZ.out
        clear hbj
        obtain ⟨q0, q1, q2, q3, q4, q5, q6, _⟩ := blk7 FBj.out
        by_cases hlt2 : j < s.length
        · have hlt3 : j < T.size := by omega
          have hx := HG.out j hlt3
          have hin := HIN.out j hlt2
          obtain ⟨z, hz⟩ : ∃ z, s.getD j 0 = z := ⟨_, rfl⟩
          rw [hz] at hx hin
          rcases hin with rfl | rfl | rfl | rfl | rfl | rfl | rfl
          · have HQ := Lib.hid (show strOfNums (MR ++ encQs ⟨8, id, off, true, code, rs, data⟩ (s.take (j + 1))) = strOfNums (MR ++ encQs ⟨8, id, off, true, code, rs, data⟩ (s.take j) ++ enc id) by rw [encQs_take ⟨8, id, off, true, code, rs, data⟩ s j hlt2, hz, List.append_assoc]; rfl)
            clear hz
            obtain ⟨S1, H1, z1, V1⟩ := vt id id0 id1
            have HN : Hid (strOfNums (MR ++ encQs ⟨8, id, off, true, code, rs, data⟩ (s.take (j + 1))) = S2 ++ S1) := Lib.hid (HQ.out.trans (cat1 HS2.out H1.out))
            clear HQ
            go_wp2_with (go_at_call 33; refine (V1.out _).mono ?_; rintro e w5 ⟨rfl, hb5⟩; have B5 := Lib.hid (BJ.out.trans (hb5.mono BJ.out.size)); clear hb5)
            go_roundg (gk - 1)
            case measure => omega
            case rel => exact ⟨j + 1, _, by omega, by go_num, rfl, HN, by simp [ByteArray.size_append]; omega, B5.out⟩
          · have HQ := Lib.hid (show strOfNums (MR ++ encQs ⟨8, id, off, true, code, rs, data⟩ (s.take (j + 1))) = strOfNums (MR ++ encQs ⟨8, id, off, true, code, rs, data⟩ (s.take j) ++ enc off) by rw [encQs_take ⟨8, id, off, true, code, rs, data⟩ s j hlt2, hz, List.append_assoc]; rfl)
            clear hz
            obtain ⟨S1, H1, z1, V1⟩ := vt off of0 of1
            have HN : Hid (strOfNums (MR ++ encQs ⟨8, id, off, true, code, rs, data⟩ (s.take (j + 1))) = S2 ++ S1) := Lib.hid (HQ.out.trans (cat1 HS2.out H1.out))
            clear HQ
            go_wp2_with (go_at_call 33; refine (V1.out _).mono ?_; rintro e w5 ⟨rfl, hb5⟩; have B5 := Lib.hid (BJ.out.trans (hb5.mono BJ.out.size)); clear hb5)
            go_roundg (gk - 1)
            case measure => omega
            case rel => exact ⟨j + 1, _, by omega, by go_num, rfl, HN, by simp [ByteArray.size_append]; omega, B5.out⟩
          · have HQ := Lib.hid (show strOfNums (MR ++ encQs ⟨8, id, off, true, code, rs, data⟩ (s.take (j + 1))) = strOfNums (MR ++ encQs ⟨8, id, off, true, code, rs, data⟩ (s.take j) ++ enc code) by rw [encQs_take ⟨8, id, off, true, code, rs, data⟩ s j hlt2, hz, List.append_assoc]; rfl)
            clear hz
            obtain ⟨S1, H1, z1, V1⟩ := vt code co0 co1
            have HN : Hid (strOfNums (MR ++ encQs ⟨8, id, off, true, code, rs, data⟩ (s.take (j + 1))) = S2 ++ S1) := Lib.hid (HQ.out.trans (cat1 HS2.out H1.out))
            clear HQ
            go_wp2_with (go_at_call 33; refine (V1.out _).mono ?_; rintro e w5 ⟨rfl, hb5⟩; have B5 := Lib.hid (BJ.out.trans (hb5.mono BJ.out.size)); clear hb5)
            go_roundg (gk - 1)
            case measure => omega
            case rel => exact ⟨j + 1, _, by omega, by go_num, rfl, HN, by simp [ByteArray.size_append]; omega, B5.out⟩
          · have HQ := Lib.hid (show strOfNums (MR ++ encQs ⟨8, id, off, true, code, rs, data⟩ (s.take (j + 1))) = strOfNums (MR ++ encQs ⟨8, id, off, true, code, rs, data⟩ (s.take j) ++ lowB 8 code) by rw [encQs_take ⟨8, id, off, true, code, rs, data⟩ s j hlt2, hz, List.append_assoc]; rfl)
            clear hz
            obtain ⟨S1, H1, z1, V1⟩ := bt code co0 co1
            have hwc : IntKind.u64.wrap code = code := by rw [IntKind.wrap_u64]; omega
            have HN : Hid (strOfNums (MR ++ encQs ⟨8, id, off, true, code, rs, data⟩ (s.take (j + 1))) = S2 ++ S1) := Lib.hid (HQ.out.trans (cat1 HS2.out H1.out))
            clear HQ
            go_wp2_with (go_at_call 34; refine (V1.out _).mono ?_; rintro e w5 ⟨rfl, hb5⟩; have B5 := Lib.hid (BJ.out.trans (hb5.mono BJ.out.size)); clear hb5)
            go_roundg (gk - 1)
            case measure => omega
            case rel => exact ⟨j + 1, _, by omega, by go_num, rfl, HN, by simp [ByteArray.size_append]; omega, B5.out⟩
          · have HQ := Lib.hid (show strOfNums (MR ++ encQs ⟨8, id, off, true, code, rs, data⟩ (s.take (j + 1))) = strOfNums (MR ++ encQs ⟨8, id, off, true, code, rs, data⟩ (s.take j) ++ (enc (data.length : Int) ++ data)) by rw [encQs_take ⟨8, id, off, true, code, rs, data⟩ s j hlt2, hz, List.append_assoc]; rfl)
            clear hz
            obtain ⟨S1, H1, z1, V1⟩ := vt (data.length : Int) (by omega) (by omega)
            obtain ⟨S3, H3⟩ : ∃ S3, Hid (strOfNums data = S3) := ⟨_, Lib.hid rfl⟩
            have z3 : S3.size ≤ 120 := by rw [← H3.out, strOfNums_size]; exact dl
            have HN : Hid (strOfNums (MR ++ encQs ⟨8, id, off, true, code, rs, data⟩ (s.take (j + 1))) = S2 ++ (S1 ++ S3)) := Lib.hid (HQ.out.trans (cat2r HS2.out H1.out H3.out))
            clear HQ
            go_wp2_with fail
            have e5 := Ext.cell (W := wr) (p := ⟨w.heap.size, 6, none⟩) q6
            have e6 := fun x : Ext wr => run_str (P := Tryd.prog) ((HDR.out.below BY.out).below (x.h.mono BY.out.size)) rfl 23 9 5 cd Tryd.underlying23 Tryd.underlying5 Tryd.underlying9
            rw [H3.out] at e6
            refine wp_region_ext (by kernel_rfl) (by kernel_rfl) ?_
            repeat (go_big_quiet_step ((go_at_call 33; exact Ext.call (V1.out _))))
            refine wpQuiet_nil ?_
            intro w5 hb5
            clear e5 e6
            have B5 := Lib.hid (BJ.out.trans (hb5.mono BJ.out.size))
            clear hb5
            go_wp2_with fail
            go_roundg (gk - 1)
            case measure => omega
            case rel => exact ⟨j + 1, _, by omega, by go_num, rfl, HN, by simp [ByteArray.size_append]; omega, B5.out⟩
          · have HQ := Lib.hid (show strOfNums (MR ++ encQs ⟨8, id, off, true, code, rs, data⟩ (s.take (j + 1))) = strOfNums (MR ++ encQs ⟨8, id, off, true, code, rs, data⟩ (s.take j) ++ []) by rw [encQs_take ⟨8, id, off, true, code, rs, data⟩ s j hlt2, hz, List.append_assoc]; rfl)
            clear hz
            have HN : Hid (strOfNums (MR ++ encQs ⟨8, id, off, true, code, rs, data⟩ (s.take (j + 1))) = S2) := Lib.hid (HQ.out.trans (by rw [List.append_nil]; exact HS2.out))
            clear HQ
            go_wp2_with fail
            go_roundg (gk - 1)
            case measure => omega
            case rel => exact ⟨j + 1, _, by omega, by go_num, rfl, HN, by omega, BJ.out⟩
          · have HQ := Lib.hid (show strOfNums (MR ++ encQs ⟨8, id, off, true, code, rs, data⟩ (s.take (j + 1))) = strOfNums (MR ++ encQs ⟨8, id, off, true, code, rs, data⟩ (s.take j) ++ []) by rw [encQs_take ⟨8, id, off, true, code, rs, data⟩ s j hlt2, hz, List.append_assoc]; rfl)
            clear hz
            have HN : Hid (strOfNums (MR ++ encQs ⟨8, id, off, true, code, rs, data⟩ (s.take (j + 1))) = S2) := Lib.hid (HQ.out.trans (by rw [List.append_nil]; exact HS2.out))
            clear HQ
            go_wp2_with fail
            go_roundg (gk - 1)
            case measure => omega
            case rel => exact ⟨j + 1, _, by omega, by go_num, rfl, HN, by omega, BJ.out⟩

        · have hjl : j = s.length := by omega
          have hr := Lib.hid (show S2 = strOfNums (frT ⟨8, id, off, true, code, rs, data⟩) by
            have e := HS2.out
            rw [List.take_of_length_le (by omega), ← HMR.out, text_all OK.out] at e
            exact e.symm)
          go_wp2_with fail
          go_ret
          exact ⟨by rw [hr.out]; rfl, BY.out⟩

set_option maxRecDepth 100000 in
set_option maxHeartbeats 1000000 in
theorem refText_f (id off code : Int) (rs : List (Int × Int)) (data s : List Int) (Ar Ad : Option Addr) (cr cd : Nat) (w : World) (hrr : RRow w w.heap.size Ar rs) (hrc : rs.length ≤ cr) (hrm : cr ≤ maxLen) (hdr : BRow w w.heap.size Ad data) (hdc : data.length ≤ cd) (hdm : cd ≤ maxLen)
    (ok : OkF ⟨8, id, off, false, code, rs, data⟩ s) (hk0 : (0 : Int) ≤ 8) (hk1 : 8 ≤ (30 : Int)) (hk : (Lit.int .i64 8).wf = true) :
    Calls Tryd.prog 16 #[.agg #[.int .i64 8, .int .i64 id, .int .i64 off, .bool false, .int .i64 code, .slice Ar rs.length cr, .slice Ad data.length cd]] w fun e w' => e = .returned (.string (strOfNums (frT ⟨8, id, off, false, code, rs, data⟩))) ∧ Below w.heap.size w w' := by
  have hp : partsOf 8 = some s := ok.parts
  have HZ := Lib.hid (show strOfNums (markF ⟨8, id, off, false, code, rs, data⟩ ++ preR rs 0) = (⟨#[14]⟩ : ByteArray) by rw [show preR rs 0 = [] from rfl, List.append_nil]; kernel_rfl)
  have HZ8 : (⟨#[14]⟩ : ByteArray).size ≤ 8 := by decide
  have HH := Lib.hid (refHas_some hp hk)
  obtain ⟨pb, pl9⟩ := parts_byt hp
  have HIN := Lib.hid (parts_in hp)
  obtain ⟨T, hT⟩ : ∃ T, strOfNums s = T := ⟨_, rfl⟩
  have hsz : T.size = s.length := by rw [← hT]; exact strOfNums_size s
  have hget : ∀ n (h : n < T.size), ((T[n]'h).toNat : Int) = s.getD n 0 := by
    intro n h
    subst hT
    exact str_get pb n h
  have HG := Lib.hid hget
  have HSZ := Lib.hid hsz
  rw [hT] at HH
  clear hT hget pb hsz
  have HVT := Lib.hid (varText_in 8 hk0 (by omega))
  have HW := Lib.hid ((Below.refl w.heap.size w).alloc (Nat.le_refl _) (.cells #[.int .i64 8, .int .i64 id, .int .i64 off, .bool false, .int .i64 code, .slice Ar rs.length cr, .slice Ad data.length cd] 25))
  have FB0 := Lib.hid (heap_alloc_new w (.cells #[.int .i64 8, .int .i64 id, .int .i64 off, .bool false, .int .i64 code, .slice Ar rs.length cr, .slice Ad data.length cd] 25))
  have OK := Lib.hid ok
  have HP := Lib.hid hp
  have HRR := Lib.hid hrr
  have HDR := Lib.hid hdr
  clear ok hrr hdr hp hk
  go_enter Tryd.func16, Tryd.ntmps16
  go_wp2_with (first
    | (go_at_call 33; refine (HVT.out _).mono ?_; rintro e w2 ⟨rfl, b2⟩; have B2 := Lib.hid (B1.out.trans (b2.mono B1.out.size)); have FB2 := Lib.hid ((b2.block _ (lt_of_block FB1.out)).trans FB1.out); clear q0 q1 q2 q3 q4 q5 q6; obtain ⟨q0, q1, q2, q3, q4, q5, q6, _⟩ := blk7 FB2.out; clear b2)
    | (go_at_call 29; refine (HH.out _).mono ?_; rintro e w1 ⟨rfl, b1⟩; have B1 := Lib.hid (HW.out.trans (b1.mono HW.out.size)); have FB1 := Lib.hid ((b1.block _ (lt_of_block FB0.out)).trans FB0.out); obtain ⟨q0, q1, q2, q3, q4, q5, q6, _⟩ := blk7 FB1.out; clear b1))
  clear q0 q1 q2 q3 q4 q5 q6
  have rl6 : rs.length ≤ 6 := OK.out.rs
  go_loopg [5, 26] rs.length (fun g v i wr => ∃ (k : Nat) (S : ByteArray), k + g = rs.length ∧ i = .int .i64 k ∧ v = .string S ∧ Hid (strOfNums (markF ⟨8, id, off, false, code, rs, data⟩ ++ preR rs k) = S) ∧ S.size ≤ 8 + 24 * k ∧ Below w2.heap.size w2 wr)
  case atStart => exact ⟨0, _, by omega, rfl, rfl, HZ, by omega, Below.refl _ _⟩
  case round =>
    obtain ⟨k, S, hk, rfl, rfl, HS, hS, hb⟩ := hrel
    have BR := Lib.hid hb
    have BX := Lib.hid (B2.out.trans (hb.mono B2.out.size))
    have FBr := Lib.hid ((hb.block _ (lt_of_block FB2.out)).trans FB2.out)
    clear hb
    by_cases hlt : k < rs.length
    · obtain ⟨b, off', hA, hbb, hc⟩ := (HRR.out.below BX.out) (by omega)
      subst hA
      have hd := down_at rs _ OK.out.down
      by_cases k0 : k = 0
      · subst k0
        have c := hc 0 hlt
        have d := (hd 0 hlt).1
        have HP := Lib.hid (show preR rs (0 + 1) = enc (rs.getD 0 (0, 0)).2 ++ (enc ((rs.length : Int) - 1) ++ enc ((rs.getD 0 (0, 0)).2 - (rs.getD 0 (0, 0)).1)) from rfl)
        obtain ⟨⟨lo, hi⟩, hp⟩ : ∃ p, rs.getD 0 (0, 0) = p := ⟨_, rfl⟩
        rw [hp] at c d HP
        obtain ⟨d0, d1, d2⟩ := d
        simp only [Nat.zero_mul, Nat.add_zero] at c d0 d1 d2
        obtain ⟨c0, c1⟩ := c
        clear hc hd hp
        have FBq := Lib.hid ((((Below.refl wr.heap.size wr).alloc (Nat.le_refl _) (.cells #[.int .i64 lo, .int .i64 hi] 48)).block _ (lt_of_block FBr.out)).trans FBr.out)
        obtain ⟨S1, H1, z1, V1⟩ := vt hi (by omega) (by omega)
        obtain ⟨S2, H2, z2, V2⟩ := vt ((rs.length : Int) - 1) (by omega) (by omega)
        obtain ⟨S3, H3, z3, V3⟩ := vt (hi - lo) (by omega) (by omega)
        have HN : Hid (strOfNums (markF ⟨8, id, off, false, code, rs, data⟩ ++ preR rs (0 + 1)) = S ++ (S1 ++ S2) ++ S3) := Lib.hid (by
          have e0 := HS.out
          rw [show preR rs 0 = [] from rfl, List.append_nil] at e0
          rw [HP.out]
          exact cat3 e0 H1.out H2.out H3.out)
        clear HS H1 H2 H3 HP
        have hw1 : IntKind.i64.wrap ((rs.length : Int) - 1) = (rs.length : Int) - 1 := by rw [IntKind.wrap_i64]; omega
        have hw2 : IntKind.i64.wrap (hi - lo) = hi - lo := by rw [IntKind.wrap_i64]; omega
        go_wp2_with fail
        have q1 := Ext.cell (W := wr.alloc (.cells #[.int .i64 lo, .int .i64 hi] 48)) (p := ⟨wr.heap.size, 1, none⟩) (v := .int .i64 hi) (by simp)
        have q5 := Ext.cell (W := wr.alloc (.cells #[.int .i64 lo, .int .i64 hi] 48)) (p := ⟨w.heap.size, 5, none⟩) (blk7 FBq.out).2.2.2.2.2.1
        refine wp_region_ext (by kernel_rfl) (by kernel_rfl) ?_
        go_big_quiet_step ((go_at_call 33; exact Ext.call (V1.out _)))
        go_big_quiet_step ((go_at_call 33; exact Ext.call (V1.out _)))
        go_big_quiet_step ((go_at_call 33; exact Ext.call (V1.out _)))
        go_big_quiet_step ((go_at_call 33; exact Ext.call (V1.out _)))
        repeat (go_big_quiet_step ((go_at_call 33; exact Ext.call (V2.out _))))
        refine wpQuiet_nil ?_
        intro w3 hb3
        clear q1 q5
        have f0 : w3.cell? ⟨wr.heap.size, 0, none⟩ = some (.int .i64 lo) := (hb3.cell (by simp)).trans (by simp)
        have f1 : w3.cell? ⟨wr.heap.size, 1, none⟩ = some (.int .i64 hi) := (hb3.cell (by simp)).trans (by simp)
        have B3 := Lib.hid ((BR.out.alloc BR.out.size (.cells #[.int .i64 lo, .int .i64 hi] 48)).trans (hb3.mono (Nat.le_trans BR.out.size (by simp))))
        clear hb3
        go_wp2_with (go_at_call 33; refine (V3.out _).mono ?_; rintro e w4 ⟨rfl, hb4⟩; have B4 := Lib.hid (B3.out.trans (hb4.mono B3.out.size)); clear hb4)
        go_roundg (gk - 1)
        case measure => omega
        case rel => exact ⟨0 + 1, _, by omega, by go_num, rfl, HN, by simp [ByteArray.size_append]; omega, B4.out⟩
      · have c := hc k hlt
        have cq := (hc (k - 1) (by omega)).1
        have d := hd k hlt
        have dq := (hd (k - 1) (by omega)).1
        have HP := Lib.hid (preR_step rs k (by omega))
        obtain ⟨⟨lo, hi⟩, hp⟩ : ∃ p, rs.getD k (0, 0) = p := ⟨_, rfl⟩
        obtain ⟨⟨plo, phi⟩, hq⟩ : ∃ p, rs.getD (k - 1) (0, 0) = p := ⟨_, rfl⟩
        rw [hp] at c d HP
        rw [hq] at cq d dq HP
        obtain ⟨⟨d0, d1, d2⟩, d3⟩ := d
        obtain ⟨d4, d5, d6⟩ := dq
        have d7 := d3 (by omega)
        simp only at c cq d0 d1 d2 d4 d5 d6 d7
        obtain ⟨c0, c1⟩ := c
        clear hc hd hp hq d3
        have FBq := Lib.hid ((((Below.refl wr.heap.size wr).alloc (Nat.le_refl _) (.cells #[.int .i64 lo, .int .i64 hi] 48)).block _ (lt_of_block FBr.out)).trans FBr.out)
        obtain ⟨S1, H1, z1, V1⟩ := vt (plo - hi - 2) (by omega) (by omega)
        obtain ⟨S3, H3, z3, V3⟩ := vt (hi - lo) (by omega) (by omega)
        have HN : Hid (strOfNums (markF ⟨8, id, off, false, code, rs, data⟩ ++ preR rs (k + 1)) = S ++ S1 ++ S3) := Lib.hid (by
          rw [HP.out, ← List.append_assoc]
          exact cat2 HS.out H1.out H3.out)
        clear HS H1 H3 HP
        have hw0 : IntKind.i64.wrap ((k : Int) - 1) = (k : Int) - 1 := by rw [IntKind.wrap_i64]; omega
        have hw1 : IntKind.i64.wrap (plo - hi) = plo - hi := by rw [IntKind.wrap_i64]; omega
        have hw2 : IntKind.i64.wrap (plo - hi - 2) = plo - hi - 2 := by rw [IntKind.wrap_i64]; omega
        have hw3 : IntKind.i64.wrap (hi - lo) = hi - lo := by rw [IntKind.wrap_i64]; omega
        have gk0 : ((k : Int) == 0) = false := by simp; omega
        have i0 : (0 : Int) ≤ (k : Int) - 1 := by omega
        have i1 : (k : Int) - 1 < (rs.length : Int) := by omega
        have i2 : ((k : Int) - 1).toNat = k - 1 := by omega
        have hbs := BX.out.size
        go_wp2_with fail
        have q1 := Ext.cell (W := wr.alloc (.cells #[.int .i64 lo, .int .i64 hi] 48)) (p := ⟨wr.heap.size, 1, none⟩) (v := .int .i64 hi) (by simp)
        have q2 := Ext.cell (W := wr.alloc (.cells #[.int .i64 lo, .int .i64 hi] 48)) (p := ⟨b, off' + (k - 1) * 2, none⟩) (v := .int .i64 plo) (by rw [World.cell?_alloc_lt _ _ _ (by simp; omega)]; exact cq)
        have q5 := Ext.cell (W := wr.alloc (.cells #[.int .i64 lo, .int .i64 hi] 48)) (p := ⟨w.heap.size, 5, none⟩) (blk7 FBq.out).2.2.2.2.2.1
        refine wp_region_ext (by kernel_rfl) (by kernel_rfl) ?_
        repeat (go_big_quiet_step ((go_at_call 33; exact Ext.call (V1.out _))))
        refine wpQuiet_nil ?_
        intro w3 hb3
        clear q1 q2 q5
        have f0 : w3.cell? ⟨wr.heap.size, 0, none⟩ = some (.int .i64 lo) := (hb3.cell (by simp)).trans (by simp)
        have f1 : w3.cell? ⟨wr.heap.size, 1, none⟩ = some (.int .i64 hi) := (hb3.cell (by simp)).trans (by simp)
        have B3 := Lib.hid ((BR.out.alloc BR.out.size (.cells #[.int .i64 lo, .int .i64 hi] 48)).trans (hb3.mono (Nat.le_trans BR.out.size (by simp))))
        clear hb3
        go_wp2_with (go_at_call 33; refine (V3.out _).mono ?_; rintro e w4 ⟨rfl, hb4⟩; have B4 := Lib.hid (B3.out.trans (hb4.mono B3.out.size)); clear hb4)
        go_roundg (gk - 1)
        case measure => omega
        case rel => exact ⟨k + 1, _, by omega, by go_num, rfl, HN, by simp [ByteArray.size_append]; omega, B4.out⟩
    · have hkl : k = rs.length := by omega
      subst hkl
      have HM : ∃ MR, markF ⟨8, id, off, false, code, rs, data⟩ ++ preR rs rs.length = MR := ⟨_, rfl⟩
      obtain ⟨MR, hMR⟩ := HM
      rw [hMR] at HS
      have HMR := Lib.hid hMR
      clear hMR
      have id0 := OK.out.id0
      have id1 := OK.out.id1
      have of0 := OK.out.off0
      have of1 := OK.out.off1
      have co0 := OK.out.code0
      have co1 := OK.out.code1
      have dl := OK.out.data
      simp only at id0 id1 of0 of1 co0 co1 dl
      go_wp2_with fail
      go_loopg [5, 8] s.length (fun g v i wq => ∃ (j : Nat) (S2 : ByteArray), j + g = s.length ∧ i = .int .i64 j ∧ v = .string S2 ∧ Hid (strOfNums (MR ++ encQs ⟨8, id, off, false, code, rs, data⟩ (s.take j)) = S2) ∧ S2.size ≤ 152 + 140 * j ∧ Below wr.heap.size wr wq)
      case atStart => exact ⟨0, _, by omega, rfl, rfl, Lib.hid (by rw [show encQs ⟨8, id, off, false, code, rs, data⟩ (s.take 0) = [] from rfl, List.append_nil]; exact HS.out), by omega, Below.refl _ _⟩
      case round =>
        obtain ⟨j, S2, hj, rfl, rfl, HS2, hS2, hbj⟩ := hrel
        have BJ := Lib.hid hbj
        have BY := Lib.hid (BX.out.trans (hbj.mono BX.out.size))
        have FBj := Lib.hid ((hbj.block _ (lt_of_block FBr.out)).trans FBr.out)
        have hsz2 : T.size = s.length := HSZ.out
        clear hbj
        obtain ⟨q0, q1, q2, q3, q4, q5, q6, _⟩ := blk7 FBj.out
        by_cases hlt2 : j < s.length
        · have hlt3 : j < T.size := by omega
          have hx := HG.out j hlt3
          have hin := HIN.out j hlt2
          obtain ⟨z, hz⟩ : ∃ z, s.getD j 0 = z := ⟨_, rfl⟩
          rw [hz] at hx hin
          rcases hin with rfl | rfl | rfl | rfl | rfl | rfl | rfl
          · have HQ := Lib.hid (show strOfNums (MR ++ encQs ⟨8, id, off, false, code, rs, data⟩ (s.take (j + 1))) = strOfNums (MR ++ encQs ⟨8, id, off, false, code, rs, data⟩ (s.take j) ++ enc id) by rw [encQs_take ⟨8, id, off, false, code, rs, data⟩ s j hlt2, hz, List.append_assoc]; rfl)
            clear hz
            obtain ⟨S1, H1, z1, V1⟩ := vt id id0 id1
            have HN : Hid (strOfNums (MR ++ encQs ⟨8, id, off, false, code, rs, data⟩ (s.take (j + 1))) = S2 ++ S1) := Lib.hid (HQ.out.trans (cat1 HS2.out H1.out))
            clear HQ
            go_wp2_with (go_at_call 33; refine (V1.out _).mono ?_; rintro e w5 ⟨rfl, hb5⟩; have B5 := Lib.hid (BJ.out.trans (hb5.mono BJ.out.size)); clear hb5)
            go_roundg (gk - 1)
            case measure => omega
            case rel => exact ⟨j + 1, _, by omega, by go_num, rfl, HN, by simp [ByteArray.size_append]; omega, B5.out⟩
          · have HQ := Lib.hid (show strOfNums (MR ++ encQs ⟨8, id, off, false, code, rs, data⟩ (s.take (j + 1))) = strOfNums (MR ++ encQs ⟨8, id, off, false, code, rs, data⟩ (s.take j) ++ enc off) by rw [encQs_take ⟨8, id, off, false, code, rs, data⟩ s j hlt2, hz, List.append_assoc]; rfl)
            clear hz
            obtain ⟨S1, H1, z1, V1⟩ := vt off of0 of1
            have HN : Hid (strOfNums (MR ++ encQs ⟨8, id, off, false, code, rs, data⟩ (s.take (j + 1))) = S2 ++ S1) := Lib.hid (HQ.out.trans (cat1 HS2.out H1.out))
            clear HQ
            go_wp2_with (go_at_call 33; refine (V1.out _).mono ?_; rintro e w5 ⟨rfl, hb5⟩; have B5 := Lib.hid (BJ.out.trans (hb5.mono BJ.out.size)); clear hb5)
            go_roundg (gk - 1)
            case measure => omega
            case rel => exact ⟨j + 1, _, by omega, by go_num, rfl, HN, by simp [ByteArray.size_append]; omega, B5.out⟩
          · have HQ := Lib.hid (show strOfNums (MR ++ encQs ⟨8, id, off, false, code, rs, data⟩ (s.take (j + 1))) = strOfNums (MR ++ encQs ⟨8, id, off, false, code, rs, data⟩ (s.take j) ++ enc code) by rw [encQs_take ⟨8, id, off, false, code, rs, data⟩ s j hlt2, hz, List.append_assoc]; rfl)
            clear hz
            obtain ⟨S1, H1, z1, V1⟩ := vt code co0 co1
            have HN : Hid (strOfNums (MR ++ encQs ⟨8, id, off, false, code, rs, data⟩ (s.take (j + 1))) = S2 ++ S1) := Lib.hid (HQ.out.trans (cat1 HS2.out H1.out))
            clear HQ
            go_wp2_with (go_at_call 33; refine (V1.out _).mono ?_; rintro e w5 ⟨rfl, hb5⟩; have B5 := Lib.hid (BJ.out.trans (hb5.mono BJ.out.size)); clear hb5)
            go_roundg (gk - 1)
            case measure => omega
            case rel => exact ⟨j + 1, _, by omega, by go_num, rfl, HN, by simp [ByteArray.size_append]; omega, B5.out⟩
          · have HQ := Lib.hid (show strOfNums (MR ++ encQs ⟨8, id, off, false, code, rs, data⟩ (s.take (j + 1))) = strOfNums (MR ++ encQs ⟨8, id, off, false, code, rs, data⟩ (s.take j) ++ lowB 8 code) by rw [encQs_take ⟨8, id, off, false, code, rs, data⟩ s j hlt2, hz, List.append_assoc]; rfl)
            clear hz
            obtain ⟨S1, H1, z1, V1⟩ := bt code co0 co1
            have hwc : IntKind.u64.wrap code = code := by rw [IntKind.wrap_u64]; omega
            have HN : Hid (strOfNums (MR ++ encQs ⟨8, id, off, false, code, rs, data⟩ (s.take (j + 1))) = S2 ++ S1) := Lib.hid (HQ.out.trans (cat1 HS2.out H1.out))
            clear HQ
            go_wp2_with (go_at_call 34; refine (V1.out _).mono ?_; rintro e w5 ⟨rfl, hb5⟩; have B5 := Lib.hid (BJ.out.trans (hb5.mono BJ.out.size)); clear hb5)
            go_roundg (gk - 1)
            case measure => omega
            case rel => exact ⟨j + 1, _, by omega, by go_num, rfl, HN, by simp [ByteArray.size_append]; omega, B5.out⟩
          · have HQ := Lib.hid (show strOfNums (MR ++ encQs ⟨8, id, off, false, code, rs, data⟩ (s.take (j + 1))) = strOfNums (MR ++ encQs ⟨8, id, off, false, code, rs, data⟩ (s.take j) ++ (enc (data.length : Int) ++ data)) by rw [encQs_take ⟨8, id, off, false, code, rs, data⟩ s j hlt2, hz, List.append_assoc]; rfl)
            clear hz
            obtain ⟨S1, H1, z1, V1⟩ := vt (data.length : Int) (by omega) (by omega)
            obtain ⟨S3, H3⟩ : ∃ S3, Hid (strOfNums data = S3) := ⟨_, Lib.hid rfl⟩
            have z3 : S3.size ≤ 120 := by rw [← H3.out, strOfNums_size]; exact dl
            have HN : Hid (strOfNums (MR ++ encQs ⟨8, id, off, false, code, rs, data⟩ (s.take (j + 1))) = S2 ++ (S1 ++ S3)) := Lib.hid (HQ.out.trans (cat2r HS2.out H1.out H3.out))
            clear HQ
            go_wp2_with fail
            have e5 := Ext.cell (W := wr) (p := ⟨w.heap.size, 6, none⟩) q6
            have e6 := fun x : Ext wr => run_str (P := Tryd.prog) ((HDR.out.below BY.out).below (x.h.mono BY.out.size)) rfl 23 9 5 cd Tryd.underlying23 Tryd.underlying5 Tryd.underlying9
            rw [H3.out] at e6
            refine wp_region_ext (by kernel_rfl) (by kernel_rfl) ?_
            repeat (go_big_quiet_step ((go_at_call 33; exact Ext.call (V1.out _))))
            refine wpQuiet_nil ?_
            intro w5 hb5
            clear e5 e6
            have B5 := Lib.hid (BJ.out.trans (hb5.mono BJ.out.size))
            clear hb5
            go_wp2_with fail
            go_roundg (gk - 1)
            case measure => omega
            case rel => exact ⟨j + 1, _, by omega, by go_num, rfl, HN, by simp [ByteArray.size_append]; omega, B5.out⟩
          · have HQ := Lib.hid (show strOfNums (MR ++ encQs ⟨8, id, off, false, code, rs, data⟩ (s.take (j + 1))) = strOfNums (MR ++ encQs ⟨8, id, off, false, code, rs, data⟩ (s.take j) ++ []) by rw [encQs_take ⟨8, id, off, false, code, rs, data⟩ s j hlt2, hz, List.append_assoc]; rfl)
            clear hz
            have HN : Hid (strOfNums (MR ++ encQs ⟨8, id, off, false, code, rs, data⟩ (s.take (j + 1))) = S2) := Lib.hid (HQ.out.trans (by rw [List.append_nil]; exact HS2.out))
            clear HQ
            go_wp2_with fail
            go_roundg (gk - 1)
            case measure => omega
            case rel => exact ⟨j + 1, _, by omega, by go_num, rfl, HN, by omega, BJ.out⟩
          · have HQ := Lib.hid (show strOfNums (MR ++ encQs ⟨8, id, off, false, code, rs, data⟩ (s.take (j + 1))) = strOfNums (MR ++ encQs ⟨8, id, off, false, code, rs, data⟩ (s.take j) ++ []) by rw [encQs_take ⟨8, id, off, false, code, rs, data⟩ s j hlt2, hz, List.append_assoc]; rfl)
            clear hz
            have HN : Hid (strOfNums (MR ++ encQs ⟨8, id, off, false, code, rs, data⟩ (s.take (j + 1))) = S2) := Lib.hid (HQ.out.trans (by rw [List.append_nil]; exact HS2.out))
            clear HQ
            go_wp2_with fail
            go_roundg (gk - 1)
            case measure => omega
            case rel => exact ⟨j + 1, _, by omega, by go_num, rfl, HN, by omega, BJ.out⟩

        · have hjl : j = s.length := by omega
          have hr := Lib.hid (show S2 = strOfNums (frT ⟨8, id, off, false, code, rs, data⟩) by
            have e := HS2.out
            rw [List.take_of_length_le (by omega), ← HMR.out, text_all OK.out] at e
            exact e.symm)
          go_wp2_with fail
          go_ret
          exact ⟨by rw [hr.out]; rfl, BY.out⟩

theorem refText_any (v : Value) (f : Fr) (w : World) (h : FrVal w w.heap.size v f) (hf : faultF f = 0) (hk : (Lit.int .i64 f.kind).wf = true) :
    Calls Tryd.prog 16 #[v] w fun e w' => e = .returned (.string (strOfNums (frT f))) ∧ Below w.heap.size w w' := by
  obtain ⟨r, d, rfl, hr, hd⟩ := h.ex
  obtain ⟨Ar, cr, rfl, hrc, hrm, hrr⟩ := hr.ex
  obtain ⟨Ad, cd, rfl, hdc, hdm, hdn, hdr⟩ := hd.ex
  obtain ⟨s, ok⟩ := okF_of hf
  obtain ⟨hk0, hk1⟩ : 0 ≤ f.kind ∧ f.kind ≤ 30 := by
    rcases parts_cases ok.parts with ⟨_, h | h | h⟩ | ⟨_, h⟩ | ⟨_, h⟩ | ⟨_, h⟩ | ⟨_, h⟩ | ⟨_, h⟩ | ⟨_, h⟩ | ⟨_, h | h⟩ | ⟨_, h⟩ | ⟨_, h | h⟩ | ⟨_, h⟩ <;> omega
  obtain ⟨kd, id, off, fin, code, rs, data⟩ := f
  simp only at *
  by_cases h8 : kd = 8
  · subst h8
    cases fin
    · exact refText_f id off code rs data s Ar Ad cr cd w hrr hrc hrm hdr hdc hdm ok hk0 hk1 hk
    · exact refText_t id off code rs data s Ar Ad cr cd w hrr hrc hrm hdr hdc hdm ok hk0 hk1 hk
  · exact refText_x kd id off code fin rs data s Ar Ad cr cd w hrr hrc hrm hdr hdc hdm ok hk0 hk1 hk h8
end Go.Proofs.YtjeocggocloigaaDoor
