/- Contract of the project's lock.turn. -/
import Derived.Test.YtlmckklgmijapaaLkMix
import Derived.Test.YtlmckklgmijapaaRefStream
import Derived.Test.YtlmckklgmijapaaLkVal
import Derived.Test.YtlmckklgmijapaaOwnB
import Derived.Test.YtlmckklgmijapaaMkRoom
import Derived.Test.YtlmckklgmijapaaMem
import Derived.Deep.LoopGhost
namespace Go.Proofs.Ytlmckklgmijapaa
set_option linter.unusedVariables false
open Go.RowKit P

theorem turnL_at (start : Nat) : ∀ (zs : List Int) (i k : Nat), k < zs.length → (turnL start i zs)[k]? = some (((zs.getD k 0).toNat ^^^ strB start (i + k) : Nat) : Int)
  | [], i, k, h => by simp at h
  | z :: zs, i, 0, h => by simp [turnL]
  | z :: zs, i, k + 1, h => by
    simp only [turnL, List.getElem?_cons_succ, List.getD_cons_succ]
    rw [turnL_at start zs (i + 1) k (by simpa using h), show i + 1 + k = i + (k + 1) by omega]
/-- so many turned, the others zero -/
def turnZ (T : List Int) (k : Nat) : List Value := (T.take k ++ List.replicate (T.length - k) 0).map (.int .u8)
theorem turnZ_set (T : List Int) (k : Nat) (x : Int) (hk : k < T.length) (h : T[k]? = some x) : (turnZ T k).set k (.int .u8 x) = turnZ T (k + 1) := by
  unfold turnZ
  rw [← List.map_set]
  congr 1
  have hx : T.getD k 0 = x := by rw [List.getD_eq_getElem?_getD, h]; rfl
  have hl : (T.take k).length = k := by rw [List.length_take]; omega
  rw [take_snoc T k hk, hx, List.set_append, if_neg (by omega), hl, Nat.sub_self, show T.length - k = (T.length - (k + 1)) + 1 by omega, List.replicate_succ, List.set_cons_zero, List.append_assoc]
  rfl
theorem turnZ_end (T : List Int) (k : Nat) (h : T.length ≤ k) : turnZ T k = T.map (.int .u8) := by
  unfold turnZ
  rw [List.take_of_length_le h, Nat.sub_eq_zero_of_le h, List.replicate_zero, List.append_nil]
theorem turnZ_start (T : List Int) : turnZ T 0 = List.replicate T.length (.int .u8 0) := by simp [turnZ]

theorem wrap_u8T (x : Int) : IntKind.u8.wrap x = x % 256 := by simp [IntKind.wrap, IntKind.bits, IntKind.signed]
theorem turnZ_get (T : List Int) (k : Nat) (hk : k < T.length) : (turnZ T k)[k]? = some (.int .u8 0) := by
  unfold turnZ
  have hl : (T.take k).length = k := by rw [List.length_take]; omega
  rw [List.getElem?_map, List.getElem?_append, if_neg (by omega), hl, Nat.sub_self, show T.length - k = (T.length - (k + 1)) + 1 by omega, List.replicate_succ]
  rfl
theorem own_below {w w' : World} {base e n : Nat} {v : Value} {xs : List Value} (h : w.ownsRow base e 1 v n xs) (hb : Below w.heap.size w w') : w'.ownsRow base e 1 v n xs :=
  World.ownsRow.kept h (⟨hb.os, hb.tape, hb.output, hb.size, fun k hk _ => hb.block k hk⟩ : w.grownBy w' none) (by cases hv : v.ownBlock with | none => exact .inl rfl | some k => exact .inr (by simp))

set_option maxHeartbeats 400000 in
theorem turn_any (key : Nat) (hk : key < 18446744073709551616) (n : Int) (v : Value) (zs : List Int) (w : World) (hv : BSl w w.heap.size v zs) (hl : zs.length ≤ 140737488351240) :
    Calls Try.prog 19 #[.int .u64 key, .int .i64 n, v] w fun e w' => Below w.heap.size w w' ∧ ∃ d, e = .returned d ∧ w'.ownsRow w.heap.size 5 1 d zs.length ((turnL (startN key n) 0 zs).map (.int .u8)) := by
  obtain ⟨A, c, rfl, hc, hm, hn, hr⟩ := hv.ex
  have hwd : IntKind.u64.wrap n = (wd n : Int) := by rw [IntKind.wrap_u64]; unfold wd; omega
  have HM1 : Hid (∀ w, Calls Try.prog 9 #[.int .u64 (wd n)] w fun e w' => e = .returned (.int .u64 (mx (wd n))) ∧ Below w.heap.size w w') := Lib.hid (fun w => mix_any (wd n) (wd_lt n) w)
  have hxo : bits .xor .u64 (key : Int) (mx (wd n) : Int) = ((mx (wd n) ^^^ key : Nat) : Int) := by rw [Nat.xor_comm]; exact bits_xor_u64_nat _ _ hk (mx_lt _)
  have HM2 : Hid (∀ w, Calls Try.prog 9 #[.int .u64 ((mx (wd n) ^^^ key : Nat) : Int)] w fun e w' => e = .returned (.int .u64 (startN key n)) ∧ Below w.heap.size w w') := Lib.hid (fun w => mix_any _ (xor_lt (mx_lt _) hk) w)
  have hst : startN key n < 18446744073709551616 := mx_lt _
  generalize startN key n = t at *
  generalize mx (wd n) ^^^ key = q at *
  generalize mx (wd n) = m at *
  generalize wd n = a at *
  have HAT := Lib.hid (fun k h => turnL_at t zs 0 k h)
  have hTl := turnL_len t zs 0
  obtain ⟨T, hT⟩ : ∃ T, turnL t 0 zs = T := ⟨_, rfl⟩
  rw [hT] at HAT hTl ⊢
  have HTL := Lib.hid hTl
  have HR := Lib.hid hr
  have HT := Lib.hid hst
  have HC := Lib.hid hc
  have HMX := Lib.hid hm
  obtain ⟨i0, hi0, hz0, hz1, hz2⟩ := info_parts infoB1
  have HI := Lib.hid hi0
  have HZ := Lib.hid hz0
  have HZ1 := Lib.hid hz1
  have HZ2 := Lib.hid hz2
  obtain ⟨N, hN⟩ : ∃ N, zs.length = N := ⟨_, rfl⟩
  rw [hN] at HTL HC hl ⊢
  have HNZ := Lib.hid hN
  clear hN hT hTl hr hst hc hm hn hk hi0 hz0 hz1 hz2 hv
  go_enter Try.func19, Try.ntmps19
  go_wp2_with fail
  refine (HM1.out _).mono ?_
  rintro e w1 ⟨rfl, b1⟩
  have B1 := Lib.hid b1
  clear b1
  go_wp2_with fail
  refine (HM2.out _).mono ?_
  rintro e w2 ⟨rfl, b2⟩
  have B2 := Lib.hid (B1.out.trans (b2.mono B1.out.size))
  clear b2 hwd hxo
  go_wp2_with (at_make
               refine wpList_make_room _ rfl _ _ _ rfl w.heap.size 5 i0 _ Try.underlying26 HI.out HZ.out HZ1.out rfl _ _ _ _ N (N + 8) rfl rfl (by omega) (by omega) (by omega) (by rw [HZ2.out]; omega) (by unfold maxLen; omega) B2.out.size ?_
               intro w3 own3 g3
               have O3 := Lib.hid (show w3.ownsRow w.heap.size 5 1 (.slice (some ⟨w2.heap.size, 0, none⟩) N (N + 8)) N (turnZ T 0) by rw [turnZ_start, HTL.out]; exact own3)
               have B3 := Lib.hid (B2.out.grown g3 B2.out.size (fun _ h => by cases h))
               clear own3 g3)
  go_loopg [9, 26] N (fun g v i wr => ∃ (k : Nat) (W : Nat), k + g = N ∧ i = .int .i64 k ∧ v = .int .u64 (W : Int) ∧ Hid (W < 18446744073709551616) ∧ Hid (k % 8 ≠ 0 → W = mx ((t + k / 8) % 18446744073709551616)) ∧ Hid (Below w.heap.size w wr) ∧ Hid (wr.ownsRow w.heap.size 5 1 (.slice (some ⟨w2.heap.size, 0, none⟩) N (N + 8)) N (turnZ T k)))
  case atStart => exact ⟨0, 0, by omega, rfl, rfl, Lib.hid (by decide), Lib.hid (fun h => (h (Nat.zero_mod 8)).elim), B3, O3⟩
  case round =>
    obtain ⟨k, W, hk, rfl, rfl, HW, HWK, BK, OK⟩ := hrel
    by_cases hlt : k < N
    · obtain ⟨b, off, rfl, hb, hcell⟩ := HR.out.2 (by rw [HNZ.out]; omega)
      have hc' := (BK.out.cell (p := ⟨b, off + k, none⟩) hb).trans (hcell k (by rw [HNZ.out]; exact hlt))
      have hbz := HR.out.1 k
      have hT := HAT.out k (by rw [HNZ.out]; exact hlt)
      rw [Nat.zero_add] at hT
      rw [strB] at hT
      obtain ⟨z, hz⟩ : ∃ z, zs.getD k 0 = z := ⟨_, rfl⟩
      rw [hz] at hc' hbz hT
      obtain ⟨q, hq⟩ : ∃ q, (t + k / 8) % 18446744073709551616 = q := ⟨_, rfl⟩
      have hq64 : q < 18446744073709551616 := by rw [← hq]; exact Nat.mod_lt _ (by decide)
      have hqi : IntKind.u64.wrap ((t : Int) + (k : Int) / 8) = (q : Int) := by rw [IntKind.wrap_u64]; omega
      have HNX : Hid ((k + 1) % 8 ≠ 0 → (t + (k + 1) / 8) % 18446744073709551616 = q) := Lib.hid (fun h => by rw [← hq, show (k + 1) / 8 = k / 8 by omega])
      rw [hq] at hT HWK
      have hk8 : (k : Int) % 8 = ((k % 8 : Nat) : Int) := by omega
      have HM3 := Lib.hid (fun w => mix_any q hq64 w)
      have hV64 := mx_lt q
      obtain ⟨V, hV⟩ : ∃ V, mx q = V := ⟨_, rfl⟩
      rw [hV] at hT HWK HM3 hV64
      have HV := Lib.hid hV
      have HTK := Lib.hid hT
      have HV64 := Lib.hid hV64
      clear hT hV hV64
      have hw0 : IntKind.i64.wrap ((k : Int) + 1) = (k : Int) + 1 := by rw [IntKind.wrap_i64]; omega
      have hu : (z.toNat ^^^ V / 256 ^ (k % 8) % 256) < 256 := turn_bd (by omega) (Nat.mod_lt _ (by decide))
      have HSET := Lib.hid (turnZ_set T k _ (by rw [HTL.out]; exact hlt) HTK.out)
      have hxo8 : bits .xor .u8 z (((V / 256 ^ (k % 8) % 256 : Nat) : Int)) = ((z.toNat ^^^ V / 256 ^ (k % 8) % 256 : Nat) : Int) := by
        have := bits_xor_u8 z.toNat (V / 256 ^ (k % 8) % 256) (by omega) (Nat.mod_lt _ (by decide))
        rwa [show ((z.toNat : Nat) : Int) = z by omega] at this
      generalize (z.toNat ^^^ V / 256 ^ (k % 8) % 256) = u at *
      clear hk8
      by_cases hk0 : k % 8 = 0
      · have hki : (k : Int) % 8 = 0 := by omega
        rw [hk0, Nat.pow_zero, Nat.div_one] at hxo8
        have hxo : bits .xor .u8 z ((V : Int) % 256) = (u : Int) := by rw [← hxo8]; congr 1
        clear hxo8
        go_wp2_with fail
        refine (HM3.out _).mono ?_
        rintro e w4 ⟨rfl, b4⟩
        have O4 := own_below OK.out b4
        have hcell : w4.cell? ⟨w2.heap.size, k, none⟩ = some (.int .u8 0) := (O4.cellAt k (by omega)).trans (turnZ_get T k (by rw [HTL.out]; exact hlt))
        have hfrz := O4.frozenAt k
        obtain ⟨hst, hgr⟩ := O4.stored k (.int .u8 u)
        rw [HSET.out] at hst
        have B5 := Lib.hid (gr_from (BK.out.trans (b4.mono BK.out.size)) (Nat.le_trans BK.out.size b4.size) ((World.ownsRow.lt O4 w2.heap.size rfl).1) hgr)
        have O5 := Lib.hid hst
        clear O4 hst hgr
        go_wp2_with fail
        go_roundg (gk - 1)
        case measure => omega
        case rel => exact ⟨k + 1, V, by omega, by go_num, rfl, HV64, Lib.hid (fun h => by rw [HNX.out h, HV.out]), B5, O5⟩
      · have hW := HWK.out hk0
        subst hW
        have hki : ((k : Int) % 8 == 0) = false := beq_eq_false_iff_ne.2 (by omega)
        have hxo : bits .xor .u8 z ((W : Int) / 2 ^ (8 * (k % 8)) % 256) = (u : Int) := by
          rw [← hxo8, show (2 : Int) ^ (8 * (k % 8)) = ((256 ^ (k % 8) : Nat) : Int) by rw [Int.pow_mul]; norm_cast]
          congr 1
        clear hxo8
        have O4 := OK.out
        have hcell : wr.cell? ⟨w2.heap.size, k, none⟩ = some (.int .u8 0) := (O4.cellAt k (by omega)).trans (turnZ_get T k (by rw [HTL.out]; exact hlt))
        have hfrz := O4.frozenAt k
        obtain ⟨hst, hgr⟩ := O4.stored k (.int .u8 u)
        rw [HSET.out] at hst
        have B5 := Lib.hid (gr_from BK.out BK.out.size ((World.ownsRow.lt O4 w2.heap.size rfl).1) hgr)
        have O5 := Lib.hid hst
        clear O4 hst hgr
        go_wp2_with fail
        go_roundg (gk - 1)
        case measure => omega
        case rel => exact ⟨k + 1, W, by omega, by go_num, rfl, HV64, Lib.hid (fun h => by rw [HNX.out h, HV.out]), B5, O5⟩
    · obtain rfl : gk = 0 := by omega
      have HE := Lib.hid (turnZ_end T k (by rw [HTL.out]; omega))
      go_wp2
      go_ret
      exact ⟨BK.out, _, rfl, by have := OK.out; rwa [HE.out] at this⟩
end Go.Proofs.Ytlmckklgmijapaa
