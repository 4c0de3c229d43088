/- Texts of the proofs, joined. -/
import Derived.Test.YtjeocggocloigaaDoorRows
import Derived.WalkKit
import Derived.Handy
import Derived.Lib.Hide
import Derived.Outline
import Derived.Test.YtjeocggocloigaaDoorQB
import Derived.Test.YtjeocggocloigaaDoorQA
import Derived.WalkLawsBesides
import Derived.WalkSpells
import Derived.Test.YtjeocggocloigaaDoorQI
import Derived.Laws.IdiomStrings
import Derived.Maps.Own
/- The verifier's texts' own 'picked': a number's remainder, never below nought. -/
namespace Go.Proofs.YtjeocggocloigaaDoor
set_option linter.unusedVariables false
open Go.RowKit

theorem tmod_facts (n m : Int) (hm : 0 < m) : (0 ≤ n.tmod m → n.tmod m = n % m) ∧ (n.tmod m < 0 → n.tmod m + m = n % m) ∧ -m < n.tmod m ∧ n.tmod m < m := by
  have e0 := Int.emod_nonneg n (show m ≠ 0 by omega)
  have e1 := Int.emod_lt_of_pos n hm
  rcases Int.le_total 0 n with h | h
  · rw [Int.tmod_eq_emod_of_nonneg h]
    refine ⟨fun _ => rfl, fun h' => by omega, by omega, e1⟩
  · by_cases hd : m ∣ n
    · have h1 : n.tmod m = 0 := Int.tmod_eq_zero_of_dvd hd
      have h2 : n % m = 0 := Int.emod_eq_zero_of_dvd hd
      rw [h1, h2]
      refine ⟨fun _ => rfl, fun h' => by omega, by omega, hm⟩
    · have h3 : n.tmod m = n % m - m := by
        rw [Int.tmod_eq_emod]
        have : ¬ (0 ≤ n ∨ m ∣ n) := by
          intro h'
          rcases h' with h' | h'
          · have : n = 0 := by omega
            subst this; exact hd (Int.dvd_zero m)
          · exact hd h'
        rw [if_neg this]
        omega
      have h4 : n % m ≠ 0 := fun h => hd (Int.dvd_of_emod_eq_zero h)
      rw [h3]
      refine ⟨fun h' => by omega, fun _ => by omega, by omega, by omega⟩

theorem picked_any (n m : Int) (hm : 0 < m) (hm1 : m ≤ 9223372036854775807) (w : World) :
    Calls Tryd.prog 11 #[.int .i64 n, .int .i64 m] w fun e w' => e = .returned (.int .i64 (n % m)) ∧ w = w' := by
  obtain ⟨f1, f2, f3, f4⟩ := tmod_facts n m hm
  have hm0 : (m == 0) = false := by simp; omega
  by_cases h : n.tmod m < 0
  · have e := Lib.hid (f2 h)
    clear f1 f2
    generalize hq : n.tmod m = q at *
    go_enter Tryd.func11, Tryd.ntmps11
    go_wp2
    go_ret
    exact ⟨by rw [← e.out]; rfl, rfl⟩
  · have e := Lib.hid (f1 (by omega))
    clear f1 f2
    generalize hq : n.tmod m = q at *
    go_enter Tryd.func11, Tryd.ntmps11
    go_wp2
    go_ret
    exact ⟨by rw [← e.out]; rfl, rfl⟩
end Go.Proofs.YtjeocggocloigaaDoor
/- The reference's writer of a number in so many bytes. -/
namespace Go.Proofs.YtjeocggocloigaaDoor
set_option linter.unusedVariables false
open Go.RowKit P

theorem big_any (v : Int) (size : Nat) (h0 : 0 ≤ v) (h1 : v ≤ 18446744073709551615) (hs : size ≤ 8) (w : World) :
    Calls Tryd.prog 34 #[.int .u64 v, .int .i64 size] w fun e w' => e = .returned (.string (strOfNums (lowB size v))) ∧ Below w.heap.size w w' := by
  go_enter Tryd.func34, Tryd.ntmps34
  go_wp2
  go_loopw [0, 5, 7] (fun n s i wr => ∃ k : Nat, k ≤ size ∧ n = .int .u64 (shr8 k v) ∧ s = .string (strOfNums (lowB k v)) ∧ i = .int .i64 k ∧ Below w.heap.size w wr) (fun _ _ i _ => size - (intOf i).toNat)
  case atStart => exact ⟨0, Nat.zero_le _, rfl, rfl, rfl, Below.refl _ _⟩
  case round =>
    obtain ⟨k, hk, rfl, rfl, rfl, hb⟩ := hrel
    by_cases hlt : k < size
    · have bd := shr8_bd v h0 h1 k
      have hst := Lib.hid (show shr8 (k + 1) v = shr8 k v / 256 from rfl)
      have hstr := Lib.hid (show lowB (k + 1) v = (shr8 k v % 256) :: lowB k v from rfl)
      have hl1 : (strOfNums (lowB k v)).size = k := by rw [strOfNums_size, lowB_len]
      generalize shr8 k v = y at *
      have hl2 : (strOfNums [y % 256]).size = 1 := by rw [strOfNums_size]; rfl
      have hcv := run_str (P := Tryd.prog) (w := wr.alloc (.cells #[.int .u8 (y % 256)] 5)) (B := wr.heap.size + 1) (A := some ⟨wr.heap.size, 0, none⟩) (zs := [y % 256]) (n := 1) ⟨byt1 (by omega), fun _ => ⟨_, 0, rfl, by omega, fun j hj => by
        obtain rfl : j = 0 := by simpa using hj
        simp⟩⟩ rfl 23 9 5 1 Tryd.underlying23 Tryd.underlying5 Tryd.underlying9
      go_wp2
      go_roundw
      case rel => exact ⟨k + 1, by omega, by rw [hst.out], by rw [hstr.out, str_cat]; rfl, by go_num, hb.alloc hb.size _⟩
      case measure => simp [intOf]; omega
    · obtain rfl : k = size := by omega
      go_wp2
      go_ret
      exact ⟨rfl, hb⟩
end Go.Proofs.YtjeocggocloigaaDoor
/- Bytes made of a string. -/
namespace Go.Proofs.YtjeocggocloigaaDoor
set_option linter.unusedVariables false
open Go.RowKit P

/-- a slice of the call's own, that reads as the bytes zs -/
def BytesPost (zs : List Int) (w : World) (e : Ending) (w' : World) : Prop :=
  ∃ g cap, e = .returned (.tuple #[.slice (some ⟨g, 0, none⟩) zs.length cap, .int .i64 0]) ∧ Below w.heap.size w w' ∧ BRow w' w'.heap.size (some ⟨g, 0, none⟩) zs

theorem bytesRow_brow (w : World) (zs : List Int) (hb : Byt zs) (cap : Nat) (e : TypeId) (fr : Nat × Nat) :
    BRow (w.drew.alloc (.cells (bytesRow (strOfNums zs) cap) e fr)) (w.heap.size + 1) (some ⟨w.heap.size, 0, none⟩) zs :=
  ⟨hb, fun _ => ⟨_, 0, rfl, by omega, fun j hj => by
    have h1 := World.cell?_alloc_mark w.drew (bytesRow (strOfNums zs) cap) e fr (0 + j)
    refine (show _ = _ from h1).trans ?_
    have hs : 0 + j < (strOfNums zs).data.size := by
      have := strOfNums_size zs
      show 0 + j < (strOfNums zs).size
      omega
    rw [bytesRow_at (strOfNums zs) cap (0 + j) hs]
    have := str_get hb (0 + j) hs
    refine (congrArg some (congrArg (Value.int .u8) (this : _ = zs.getD (0 + j) 0))).trans ?_
    rw [Nat.zero_add]⟩⟩

end Go.Proofs.YtjeocggocloigaaDoor
/- The verifier's texts' test that two rows of bytes are the same. -/
namespace Go.Proofs.YtjeocggocloigaaDoor
set_option linter.unusedVariables false
open Go.RowKit P

theorem sameBytes_eq (w : World) (B B' n c n' c' : Nat) (A A' : Option Addr) (zs : List Int) (h : BRow w B A zs) (h' : BRow w B' A' zs) (hn : zs.length = n) (hn' : zs.length = n') :
    Calls Tryd.prog 8 #[.slice A n c, .slice A' n' c'] w fun e w' => e = .returned (.bool true) ∧ w = w' := by
  have c1 := run_str (P := Tryd.prog) h hn 23 9 5 c Tryd.underlying23 Tryd.underlying5 Tryd.underlying9
  have c2 := run_str (P := Tryd.prog) h' hn' 23 9 5 c' Tryd.underlying23 Tryd.underlying5 Tryd.underlying9
  clear h h' hn hn'
  go_enter Tryd.func8, Tryd.ntmps8
  go_wp2
  go_ret
  exact ⟨rfl, rfl⟩

end Go.Proofs.YtjeocggocloigaaDoor
/- The reference's map of marks, 1 2 4 8 to 0 1 2 3: what a look-up finds in it. -/
namespace Go.Proofs.YtjeocggocloigaaDoor
set_option linter.unusedVariables false
open Go.RowKit

theorem marks {P : Program} {T K E : TypeId} (hT : P.underlying T = some (.map K E)) (hK : P.underlying K = some (.int .i64)) (hE : P.underlying E = some (.int .u64)) (zero : ∀ w, (zeroValue E).run P w = .ok (.int .u64 0) w) (w : World) :
    ∃ w1 w2 w3 w4, (Instr.mapUpdate T (.map (some w.heap.size)) (.int .i64 1) (.int .u64 0)).run P (w.alloc (.map #[] 0)) = .ok () w1 ∧
      (Instr.mapUpdate T (.map (some w.heap.size)) (.int .i64 2) (.int .u64 1)).run P w1 = .ok () w2 ∧
      (Instr.mapUpdate T (.map (some w.heap.size)) (.int .i64 4) (.int .u64 2)).run P w2 = .ok () w3 ∧
      (Instr.mapUpdate T (.map (some w.heap.size)) (.int .i64 8) (.int .u64 3)).run P w3 = .ok () w4 ∧
      (Instr.lookup T (.map (some w.heap.size)) (.int .i64 1) false).run P w4 = .ok (.int .u64 0) w4 ∧
      (Instr.lookup T (.map (some w.heap.size)) (.int .i64 2) false).run P w4 = .ok (.int .u64 1) w4 ∧
      (Instr.lookup T (.map (some w.heap.size)) (.int .i64 4) false).run P w4 = .ok (.int .u64 2) w4 ∧
      (Instr.lookup T (.map (some w.heap.size)) (.int .i64 8) false).run P w4 = .ok (.int .u64 3) w4 ∧ Below w.heap.size w w4 := by
  have KK := Maps.int_keyed (P := P) hK
  have h0 := World.ownsMap_made w P K (plainElem (H := Unit) P E)
  have key : ∀ a : Int, (Lit.int .i64 a).wf = true → keyOf P K (.int .i64 a) = some (.int .i64 a) := fun a h => Maps.keyOf_int_mk hK h
  obtain ⟨w1, r1, o1, g1⟩ := h0.update KK hT (by decide) (key 1 (by decide)) (plainElem_int hE (a := 0) (by decide))
  obtain ⟨w2, r2, o2, g2⟩ := o1.update KK hT (by decide) (key 2 (by decide)) (plainElem_int hE (a := 1) (by decide))
  obtain ⟨w3, r3, o3, g3⟩ := o2.update KK hT (by decide) (key 4 (by decide)) (plainElem_int hE (a := 2) (by decide))
  obtain ⟨w4, r4, o4, g4⟩ := o3.update KK hT (by decide) (key 8 (by decide)) (plainElem_int hE (a := 3) (by decide))
  have look : ∀ (a c : Int), (Lit.int .i64 a).wf = true → (((((DataW.map [] : DataW Unit).put (.int .i64 1) (.lit (.int .u64 0))).put (.int .i64 2) (.lit (.int .u64 1))).put (.int .i64 4) (.lit (.int .u64 2))).put (.int .i64 8) (.lit (.int .u64 3))).atKey (.int .i64 a) (.lit (.int .u64 0)) = .lit (.int .u64 c) →
      (Instr.lookup T (.map (some w.heap.size)) (.int .i64 a) false).run P w4 = .ok (.int .u64 c) w4 := by
    intro a c ha hc
    obtain ⟨c', hr, hat, _⟩ := o4.lookup_int KK hT hE (zero w4) (key a ha)
    rw [hc] at hat
    have : c' = c := by simpa using hat.symm
    rw [hr, this]
  have b0 : Below w.heap.size w (w.alloc (.map #[] 0)) := (Below.refl _ _).alloc (Nat.le_refl _) _
  have row : ∀ k, some w.heap.size = some k → w.heap.size ≤ k := fun k h => by cases h; exact Nat.le_refl _
  have b1 := b0.grown g1 b0.size row
  have b2 := b1.grown g2 b1.size row
  have b3 := b2.grown g3 b2.size row
  exact ⟨w1, w2, w3, w4, r1, r2, r3, r4, look 1 0 (by decide) rfl, look 2 1 (by decide) rfl, look 4 2 (by decide) rfl, look 8 3 (by decide) rfl, b3.grown g4 b3.size row⟩
end Go.Proofs.YtjeocggocloigaaDoor
/- The reference's bytes of a number. -/
namespace Go.Proofs.YtjeocggocloigaaDoor
set_option linter.unusedVariables false
open Go.RowKit P

theorem refSize_in (n : Int) (h0 : 0 ≤ n) (h1 : n ≤ 4611686018427387903) (w : World) :
    Calls Tryd.prog 46 #[.int .i64 n] w fun e w' => e = .returned (.tuple #[.int .i64 (sz n), .int .i64 0]) ∧ w = w' := by
  rcases sz_cases n with ⟨e, b⟩ | ⟨e, b⟩ | ⟨e, b⟩ | ⟨e, b⟩
  all_goals
    go_enter Tryd.func46, Tryd.ntmps46
    go_wp2
    go_rounds 4
    go_ret2
    exact ⟨by rw [e]; rfl, rfl⟩

theorem refSize_out (n : Int) (h : n < 0 ∨ 4611686018427387903 < n) (w : World) :
    Calls Tryd.prog 46 #[.int .i64 n] w fun e w' => e = .returned (.tuple #[.int .i64 0, .int .i64 6]) ∧ w = w' := by
  rcases h with h | h
  · have h2 : ¬ 0 ≤ n := by omega
    go_enter Tryd.func46, Tryd.ntmps46
    go_wp2
    go_ret2
    exact ⟨rfl, rfl⟩
  · have h2 : ¬ n ≤ 4611686018427387903 := by omega
    have h3 : 0 ≤ n := by omega
    go_enter Tryd.func46, Tryd.ntmps46
    go_wp2
    go_ret2
    exact ⟨rfl, rfl⟩

/-- a number with its mark -/
def marked (n : Int) : Int := if n < 64 then n else if n < 16384 then n + 16384 else if n < 1073741824 then n + 2147483648 else n + 13835058055282163712
theorem marked_bd (n : Int) (h0 : 0 ≤ n) (h1 : n ≤ 4611686018427387903) : 0 ≤ marked n ∧ marked n ≤ 18446744073709551615 := by
  unfold marked; split <;> (try split) <;> (try split) <;> omega
theorem lowB_enc (n : Int) (h0 : 0 ≤ n) (h1 : n ≤ 4611686018427387903) : lowB (sz n).toNat (marked n) = enc n := by
  unfold sz marked enc
  split
  · show [n % 256] = [n]
    rw [show n % 256 = n by omega]
  split
  · show [(n + 16384) / 256 % 256, (n + 16384) % 256] = _
    rw [show (n + 16384) / 256 % 256 = n / 256 + 64 by omega, show (n + 16384) % 256 = n % 256 by omega]
  split
  · show [(n + 2147483648) / 256 / 256 / 256 % 256, (n + 2147483648) / 256 / 256 % 256, (n + 2147483648) / 256 % 256, (n + 2147483648) % 256] = _
    rw [show (n + 2147483648) / 256 / 256 / 256 % 256 = n / 256 / 256 / 256 + 128 by omega, show (n + 2147483648) / 256 / 256 % 256 = n / 256 / 256 % 256 by omega, show (n + 2147483648) / 256 % 256 = n / 256 % 256 by omega, show (n + 2147483648) % 256 = n % 256 by omega]
  · have s1 : (n + 13835058055282163712) / 256 = n / 256 + 54043195528445952 := by omega
    have s2 : (n / 256 + 54043195528445952) / 256 = n / 256 / 256 + 211106232532992 := by omega
    have s3 : (n / 256 / 256 + 211106232532992) / 256 = n / 256 / 256 / 256 + 824633720832 := by omega
    have s4 : (n / 256 / 256 / 256 + 824633720832) / 256 = n / 256 / 256 / 256 / 256 + 3221225472 := by omega
    have s5 : (n / 256 / 256 / 256 / 256 + 3221225472) / 256 = n / 256 / 256 / 256 / 256 / 256 + 12582912 := by omega
    have s6 : (n / 256 / 256 / 256 / 256 / 256 + 12582912) / 256 = n / 256 / 256 / 256 / 256 / 256 / 256 + 49152 := by omega
    have s7 : (n / 256 / 256 / 256 / 256 / 256 / 256 + 49152) / 256 = n / 256 / 256 / 256 / 256 / 256 / 256 / 256 + 192 := by omega
    show [(n + 13835058055282163712) / 256 / 256 / 256 / 256 / 256 / 256 / 256 % 256, (n + 13835058055282163712) / 256 / 256 / 256 / 256 / 256 / 256 % 256, (n + 13835058055282163712) / 256 / 256 / 256 / 256 / 256 % 256, (n + 13835058055282163712) / 256 / 256 / 256 / 256 % 256, (n + 13835058055282163712) / 256 / 256 / 256 % 256, (n + 13835058055282163712) / 256 / 256 % 256, (n + 13835058055282163712) / 256 % 256, (n + 13835058055282163712) % 256] = _
    rw [s1, s2, s3, s4, s5, s6, s7]
    simp only [List.cons.injEq]
    refine ⟨?_, ?_, ?_, ?_, ?_, ?_, ?_, ?_, trivial⟩ <;> omega

theorem or64 (n x : Int) (i : Nat) (hi : i ≤ 62) (h0 : 0 ≤ n) (h1 : n < 2 ^ i) (hx : x % 2 ^ i = 0) (x0 : 0 ≤ x) (x1 : x ≤ 18446744073709551615) : bits .or .u64 n x = n + x := by
  have hc : bits .or .u64 n x = bits .or .u64 x n := by simp only [bits, BitVec.or_comm]
  have hp : (2 : Int) ^ i ≤ 2 ^ 62 := by exact_mod_cast Nat.pow_le_pow_right (by decide) hi
  have e62 : (2 : Int) ^ 62 = 4611686018427387904 := by decide
  have e64 : (2 : Int) ^ 64 = 18446744073709551616 := by decide
  rw [hc, bits_join .u64 64 (by decide) (fun m m0 m1 => IntWalk.u64_in m (by rw [e64] at m1; omega)) i x n x0 hx (by rw [e64]; omega) h0 h1 (by rw [e64]; rw [e62] at hp; omega)]
  omega

theorem zeroU (w : World) : (zeroValue 64).run Tryd.prog w = .ok (.int .u64 0) w := by kernel_rfl

theorem varText_in (n : Int) (h0 : 0 ≤ n) (h1 : n ≤ 4611686018427387903) (w : World) :
    Calls Tryd.prog 33 #[.int .i64 n] w fun e w' => e = .returned (.string (strOfNums (enc n))) ∧ Below w.heap.size w w' := by
  have hmm := @run_makeMap Tryd.prog
  obtain ⟨w1, w2, w3, w4, u1, u2, u3, u4, l1, l2, l3, l4, hb⟩ := marks (P := Tryd.prog) Tryd.underlying89 Tryd.underlying3 Tryd.underlying64 zeroU w
  have BB := Lib.hid hb
  have hbig : ∀ (k : Nat) w, k ≤ 8 → (k : Int) = sz n → Calls Tryd.prog 34 #[.int .u64 (marked n), .int .i64 k] w fun e w' => e = .returned (.string (strOfNums (enc n))) ∧ Below w.heap.size w w' := fun k w hk he => by
    have := big_any (marked n) k (marked_bd n h0 h1).1 (marked_bd n h0 h1).2 hk w
    rwa [show k = (sz n).toNat by omega, lowB_enc n h0 h1, show (((sz n).toNat : Nat) : Int) = sz n by omega, ← he] at this
  clear hb
  rcases sz_cases n with ⟨e, b⟩ | ⟨e, b⟩ | ⟨e, b⟩ | ⟨e, b⟩
  · have hor := or64 n 0 6 (by omega) h0 (by omega) (by omega) (by omega) (by omega)
    have hw : IntKind.u64.wrap 0 = 0 := by kernel_rfl
    have hm : marked n = n := by unfold marked; rw [if_pos b]
    have HB := Lib.hid (fun w => hbig 1 w (by omega) (by omega))
    rw [hm] at HB
    clear hbig hm
    rw [Int.add_zero] at hor
    go_enter Tryd.func33, Tryd.ntmps33
    go_wp2_with (first | (go_at_call 46; refine (refSize_in _ h0 h1 _).mono ?_; rintro e w' ⟨rfl, rfl⟩) | (go_at_call 34; refine (HB.out _).mono ?_; rintro e w' ⟨rfl, hb⟩))
    go_ret
    exact ⟨rfl, BB.out.trans (hb.mono BB.out.size)⟩
  · have hor := or64 n 16384 14 (by omega) h0 (by omega) (by omega) (by omega) (by omega)
    have hw : IntKind.u64.wrap 16384 = 16384 := by kernel_rfl
    have hm : marked n = n + 16384 := by unfold marked; rw [if_neg (by omega), if_pos b.2]
    have HB := Lib.hid (fun w => hbig 2 w (by omega) (by omega))
    rw [hm] at HB
    clear hbig hm
    go_enter Tryd.func33, Tryd.ntmps33
    go_wp2_with (first | (go_at_call 46; refine (refSize_in _ h0 h1 _).mono ?_; rintro e w' ⟨rfl, rfl⟩) | (go_at_call 34; refine (HB.out _).mono ?_; rintro e w' ⟨rfl, hb⟩))
    go_ret
    exact ⟨rfl, BB.out.trans (hb.mono BB.out.size)⟩
  · have hor := or64 n 2147483648 30 (by omega) h0 (by omega) (by omega) (by omega) (by omega)
    have hw : IntKind.u64.wrap 2147483648 = 2147483648 := by kernel_rfl
    have hm : marked n = n + 2147483648 := by unfold marked; rw [if_neg (by omega), if_neg (by omega), if_pos b.2]
    have HB := Lib.hid (fun w => hbig 4 w (by omega) (by omega))
    rw [hm] at HB
    clear hbig hm
    go_enter Tryd.func33, Tryd.ntmps33
    go_wp2_with (first | (go_at_call 46; refine (refSize_in _ h0 h1 _).mono ?_; rintro e w' ⟨rfl, rfl⟩) | (go_at_call 34; refine (HB.out _).mono ?_; rintro e w' ⟨rfl, hb⟩))
    go_ret
    exact ⟨rfl, BB.out.trans (hb.mono BB.out.size)⟩
  · have hor := or64 n 13835058055282163712 62 (by omega) h0 (by omega) (by omega) (by omega) (by omega)
    have hw : IntKind.u64.wrap 13835058055282163712 = 13835058055282163712 := by kernel_rfl
    have hm : marked n = n + 13835058055282163712 := by unfold marked; rw [if_neg (by omega), if_neg (by omega), if_neg (by omega)]
    have HB := Lib.hid (fun w => hbig 8 w (by omega) (by omega))
    rw [hm] at HB
    clear hbig hm
    go_enter Tryd.func33, Tryd.ntmps33
    go_wp2_with (first | (go_at_call 46; refine (refSize_in _ h0 h1 _).mono ?_; rintro e w' ⟨rfl, rfl⟩) | (go_at_call 34; refine (HB.out _).mono ?_; rintro e w' ⟨rfl, hb⟩))
    go_ret
    exact ⟨rfl, BB.out.trans (hb.mono BB.out.size)⟩
end Go.Proofs.YtjeocggocloigaaDoor
