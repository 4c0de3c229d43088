/- The document's answers on seals: the stream (stream). -/
import Derived.Test.YtlmckklgmijapaaRefMix
import Derived.Test.YtlmckklgmijapaaBig
namespace Go.Proofs.Ytlmckklgmijapaa
set_option linter.unusedVariables false
open Go.RowKit P

theorem turnL_snoc (start : Nat) (z : Int) : ∀ (xs : List Int) (i : Nat), turnL start i (xs ++ [z]) = turnL start i xs ++ [((z.toNat ^^^ strB start (i + xs.length) : Nat) : Int)]
  | [], i => by simp only [List.nil_append, turnL, List.length_nil, Nat.add_zero]
  | x :: xs, i => by
    rw [List.cons_append]
    simp only [turnL, List.cons_append, List.length_cons]
    rw [turnL_snoc start z xs (i + 1), show i + 1 + xs.length = i + (xs.length + 1) by omega]
theorem turnL_len (start : Nat) : ∀ (xs : List Int) (i : Nat), (turnL start i xs).length = xs.length
  | [], i => by simp only [turnL, List.length_nil]
  | x :: xs, i => by simp only [turnL, List.length_cons]; rw [turnL_len start xs (i + 1)]
theorem turnL_take (start : Nat) (zs : List Int) (k : Nat) (h : k < zs.length) : turnL start 0 (zs.take (k + 1)) = turnL start 0 (zs.take k) ++ [(((zs.getD k 0).toNat ^^^ strB start k : Nat) : Int)] := by
  rw [take_snoc zs k h, turnL_snoc]
  rw [show 0 + (zs.take k).length = k by rw [List.length_take]; omega]
theorem turn_bd {z b : Nat} (hz : z < 256) (hb : b < 256) : z ^^^ b < 256 := Nat.xor_lt_two_pow (n := 8) hz hb
theorem strB_at (start a j : Nat) (ha : a % 8 = 0) (hj : j < 8) : strB start (a + j) = mx ((start + a / 8) % 18446744073709551616) / 256 ^ j % 256 := by
  unfold strB
  rw [show (a + j) / 8 = a / 8 by omega, show (a + j) % 8 = j by omega]
theorem bits_xor_u8 (a b : Nat) (ha : a < 256) (hb : b < 256) : bits .xor .u8 (a : Int) (b : Int) = ((a ^^^ b : Nat) : Int) := by
  have hx : a ^^^ b < 256 := turn_bd ha hb
  have h1 : (BitVec.ofInt 8 (a : Int)).toNat = a := by
    rw [BitVec.ofInt_natCast, BitVec.toNat_ofNat]; exact Nat.mod_eq_of_lt (by omega)
  have h2 : (BitVec.ofInt 8 (b : Int)).toNat = b := by
    rw [BitVec.ofInt_natCast, BitVec.toNat_ofNat]; exact Nat.mod_eq_of_lt (by omega)
  show IntKind.u8.wrap ((BitVec.ofInt 8 (a : Int) ^^^ BitVec.ofInt 8 (b : Int)).toNat : Int) = _
  rw [BitVec.toNat_xor, h1, h2, show ∀ n : Int, IntKind.u8.wrap n = n % 256 from fun n => by simp [IntKind.wrap, IntKind.bits, IntKind.signed]]
  omega

set_option maxHeartbeats 400000 in
theorem refStream_any (key : Nat) (hk : key < 18446744073709551616) (n : Int) (zs : List Int) (hb : Byt zs) (hl : zs.length ≤ 140737488355328) (w : World) :
    Calls Try.prog 21 #[.int .u64 key, .int .i64 n, .string (strOfNums zs)] w fun e w' => e = .returned (.string (strOfNums (turnL (startN key n) 0 zs))) ∧ Below w.heap.size w w' := by
  have hwd : IntKind.u64.wrap n = (wd n : Int) := by rw [IntKind.wrap_u64]; unfold wd; omega
  have HM1 : Hid (∀ w, Calls Try.prog 11 #[.int .u64 (wd n)] w fun e w' => e = .returned (.int .u64 (mx (wd n))) ∧ Below w.heap.size w w') := Lib.hid (fun w => refMix_any (wd n) (wd_lt n) w)
  have hxo : bits .xor .u64 (mx (wd n) : Int) (key : Int) = ((mx (wd n) ^^^ key : Nat) : Int) := bits_xor_u64_nat _ _ (mx_lt _) hk
  have HM2 : Hid (∀ w, Calls Try.prog 11 #[.int .u64 ((mx (wd n) ^^^ key : Nat) : Int)] w fun e w' => e = .returned (.int .u64 (startN key n)) ∧ Below w.heap.size w w') := Lib.hid (fun w => refMix_any _ (xor_lt (mx_lt _) hk) w)
  have hst : startN key n < 18446744073709551616 := mx_lt _
  generalize startN key n = t at *
  generalize mx (wd n) ^^^ key = q at *
  generalize mx (wd n) = m at *
  generalize wd n = a at *
  have hsz : (strOfNums zs).size = zs.length := strOfNums_size zs
  have hget := str_get hb
  obtain ⟨S, hS⟩ : ∃ S, strOfNums zs = S := ⟨_, rfl⟩
  rw [hS] at hsz ⊢
  have HGET : Hid (∀ j (h : j < S.size), ((S[j]'h).toNat : Int) = zs.getD j 0) := Lib.hid (by subst hS; exact hget)
  have HBY := Lib.hid hb
  have HSZ := Lib.hid hsz
  have HT := Lib.hid hst
  have hs47 : S.size ≤ 140737488355328 := by omega
  clear hget hb hS hsz hl hk hst
  go_enter Try.func21, Try.ntmps21
  go_wp2_with fail
  refine (HM1.out _).mono ?_
  rintro e w1 ⟨rfl, b1⟩
  have B1 := Lib.hid b1
  clear b1
  go_wp2_with fail
  refine (HM2.out _).mono ?_
  rintro e w2 ⟨rfl, b2⟩
  have B2 := Lib.hid (B1.out.trans (b2.mono B1.out.size))
  clear b2 hwd hxo
  go_wp2_with fail
  go_loopw [8, 9] (fun o i wr => ∃ a : Nat, a % 8 = 0 ∧ a ≤ S.size + 7 ∧ i = .int .i64 a ∧ o = .string (strOfNums (turnL t 0 (zs.take a))) ∧ Below w.heap.size w wr) (fun _ i _ => S.size + 8 - (intOf i).toNat)
  case atStart => exact ⟨0, rfl, by omega, rfl, rfl, B2.out⟩
  case round =>
    obtain ⟨a, ha8, has, rfl, rfl, hb⟩ := hrel
    have BR := Lib.hid hb
    clear hb
    by_cases hlt : a < S.size
    · have hq : (t + a / 8) % 18446744073709551616 < 18446744073709551616 := Nat.mod_lt _ (by decide)
      have hadd : IntKind.u64.wrap ((t : Int) + (a : Int) / 8) = (((t + a / 8) % 18446744073709551616 : Nat) : Int) := by rw [IntKind.wrap_u64]; omega
      have HM3 := Lib.hid (fun w => refMix_any _ hq w)
      have HSB := Lib.hid (fun j hj => strB_at t a j ha8 hj)
      have hwl : mx ((t + a / 8) % 18446744073709551616) < 18446744073709551616 := mx_lt _
      generalize mx ((t + a / 8) % 18446744073709551616) = W at *
      generalize (t + a / 8) % 18446744073709551616 = q at *
      have HW := Lib.hid hwl
      have HA8 := Lib.hid ha8
      clear hq hwl ha8
      obtain ⟨T0, hT0⟩ : ∃ T0, strOfNums (turnL t 0 (zs.take a)) = T0 := ⟨_, rfl⟩
      have HT0 := Lib.hid hT0
      rw [hT0]
      clear hT0
      obtain ⟨wq, hwq⟩ : ∃ q, q = wr := ⟨_, rfl⟩
      subst hwq
      go_wp2_with fail
      refine (HM3.out _).mono ?_
      rintro e w3 ⟨rfl, b3⟩
      have B3 := Lib.hid (BR.out.trans (b3.mono BR.out.size))
      clear b3 hadd
      go_wp2_with fail
      go_loopw [8, 10, 11] (fun o v i wr => ∃ c : Nat, a ≤ c ∧ c ≤ a + 8 ∧ c ≤ S.size ∧ i = .int .i64 c ∧ v = .int .u64 ((W / 256 ^ (c - a) : Nat) : Int) ∧ o = .string (strOfNums (turnL t 0 (zs.take c))) ∧ Below w.heap.size w wr) (fun _ _ i _ => S.size + 1 - (intOf i).toNat)
      case atStart => exact ⟨a, Nat.le_refl _, by omega, by omega, rfl, by rw [Nat.sub_self, Nat.pow_zero, Nat.div_one], by rw [HT0.out], B3.out⟩
      case round =>
        obtain ⟨c, hca, hc8, hcs, rfl, rfl, rfl, hb2⟩ := hrel
        have BI := Lib.hid hb2
        clear hb2
        by_cases h1 : c < S.size
        · by_cases h2 : c < a + 8
          · have ST := Lib.hid (turnL_take t zs c (by rw [← HSZ.out]; exact h1))
            have hx := HGET.out c h1
            have hbz := HBY.out c
            have hsb : strB t c = W / 256 ^ (c - a) % 256 := by
              have := HSB.out (c - a) (by omega)
              rwa [show a + (c - a) = c by omega] at this
            rw [hsb] at ST
            have hnx : W / 256 ^ (c + 1 - a) = W / 256 ^ (c - a) / 256 := by
              rw [show c + 1 - a = c - a + 1 by omega, Nat.pow_succ, Nat.div_div_eq_div_mul]
            have hV : W / 256 ^ (c - a) < 18446744073709551616 := Nat.lt_of_le_of_lt (Nat.div_le_self _ _) HW.out
            have HNX := Lib.hid hnx
            clear hsb hnx
            generalize W / 256 ^ (c - a) = V at *
            generalize zs.getD c 0 = z at *
            have hxo : bits .xor .u8 z ((V : Int) % 256) = ((z.toNat ^^^ V % 256 : Nat) : Int) := by
              have := bits_xor_u8 z.toNat (V % 256) (by omega) (Nat.mod_lt _ (by decide))
              rwa [show ((z.toNat : Nat) : Int) = z by omega, show ((V % 256 : Nat) : Int) = (V : Int) % 256 by omega] at this
            have hu : (z.toNat ^^^ V % 256) < 256 := turn_bd (by omega) (Nat.mod_lt _ (by decide))
            generalize (z.toNat ^^^ V % 256) = u at *
            have hcv := run_str (P := Try.prog) (w := wr.alloc (.cells #[.int .u8 (u : Int)] 5)) (B := wr.heap.size + 1) (A := some ⟨wr.heap.size, 0, none⟩) (zs := [(u : Int)]) (n := 1) ⟨byt1 (by omega), fun _ => ⟨_, 0, rfl, by omega, fun j hj => by
              obtain rfl : j = 0 := by simpa using hj
              simp⟩⟩ rfl 26 9 5 1 Try.underlying26 Try.underlying5 Try.underlying9
            have hl1 : (strOfNums (turnL t 0 (zs.take c))).size = c := by rw [strOfNums_size, turnL_len, List.length_take]; have := HSZ.out; omega
            have hl2 : (strOfNums [(u : Int)]).size = 1 := by rw [strOfNums_size]; rfl
            have HCAT := Lib.hid (str_cat (turnL t 0 (zs.take c)) [(u : Int)])
            rw [← ST.out] at HCAT
            generalize strOfNums (turnL t 0 (zs.take c)) = T1 at *
            generalize strOfNums [(u : Int)] = T2 at *
            go_wp2
            go_roundw
            case rel => exact ⟨c + 1, by omega, by omega, by omega, by go_num, by rw [HNX.out]; rfl, by rw [← HCAT.out], BI.out.alloc BI.out.size _⟩
            case measure => simp [intOf]; omega
          · obtain rfl : c = a + 8 := by omega
            go_wp2
            go_roundw
            case rel => exact ⟨a + 8, by have := HA8.out; omega, by omega, by go_num, rfl, BI.out⟩
            case measure => simp [intOf]; omega
        · obtain rfl : c = S.size := by omega
          have hw8 : IntKind.i64.wrap ((a : Int) + 8) = (a : Int) + 8 := by rw [IntKind.wrap_i64]; omega
          have g1 : decide ((S.size : Int) < (S.size : Int)) = false := by simp
          go_wp2
          go_roundw
          case rel => exact ⟨a + 8, by have := HA8.out; omega, by omega, by go_num, by rw [List.take_of_length_le (by rw [HSZ.out]; exact Nat.le_refl _), List.take_of_length_le (by have := HSZ.out; omega)], BI.out⟩
          case measure => simp [intOf]; omega
    · rw [List.take_of_length_le (by have := HSZ.out; omega)]
      go_wp2
      go_ret
      exact ⟨rfl, BR.out⟩
end Go.Proofs.Ytlmckklgmijapaa
