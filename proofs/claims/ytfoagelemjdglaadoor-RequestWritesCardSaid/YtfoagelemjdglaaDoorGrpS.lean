/- Several texts in one. -/
import Derived.Test.YtfoagelemjdglaaDoorRows
import Derived.Maps.Own
import Derived.WalkKit
import Derived.Test.YtfoagelemjdglaaDoorGrpC
import Derived.Test.YtfoagelemjdglaaDoorGrpA
import Derived.Laws.IdiomStrings
/- The reference's map of marks, 1 2 4 8 to 0 1 2 3: what a look-up finds in it. -/
namespace Go.Proofs.YtfoagelemjdglaaDoor
set_option linter.unusedVariables false
open Go.RowKit

theorem marks {P : Program} {T K E : TypeId} (hT : P.underlying T = some (.map K E)) (hK : P.underlying K = some (.int .i64)) (hE : P.underlying E = some (.int .u64)) (zero : ∀ w, (zeroValue E).run P w = .ok (.int .u64 0) w) (w : World) :
    ∃ w1 w2 w3 w4, (Instr.mapUpdate T (.map (some w.heap.size)) (.int .i64 1) (.int .u64 0)).run P (w.alloc (.map #[] 0)) = .ok () w1 ∧
      (Instr.mapUpdate T (.map (some w.heap.size)) (.int .i64 2) (.int .u64 1)).run P w1 = .ok () w2 ∧
      (Instr.mapUpdate T (.map (some w.heap.size)) (.int .i64 4) (.int .u64 2)).run P w2 = .ok () w3 ∧
      (Instr.mapUpdate T (.map (some w.heap.size)) (.int .i64 8) (.int .u64 3)).run P w3 = .ok () w4 ∧
      (Instr.lookup T (.map (some w.heap.size)) (.int .i64 1) false).run P w4 = .ok (.int .u64 0) w4 ∧
      (Instr.lookup T (.map (some w.heap.size)) (.int .i64 2) false).run P w4 = .ok (.int .u64 1) w4 ∧
      (Instr.lookup T (.map (some w.heap.size)) (.int .i64 4) false).run P w4 = .ok (.int .u64 2) w4 ∧
      (Instr.lookup T (.map (some w.heap.size)) (.int .i64 8) false).run P w4 = .ok (.int .u64 3) w4 ∧ Below w.heap.size w w4 := by
  have KK := Maps.int_keyed (P := P) hK
  have h0 := World.ownsMap_made w P K (plainElem (H := Unit) P E)
  have key : ∀ a : Int, (Lit.int .i64 a).wf = true → keyOf P K (.int .i64 a) = some (.int .i64 a) := fun a h => Maps.keyOf_int_mk hK h
  obtain ⟨w1, r1, o1, g1⟩ := h0.update KK hT (by decide) (key 1 (by decide)) (plainElem_int hE (a := 0) (by decide))
  obtain ⟨w2, r2, o2, g2⟩ := o1.update KK hT (by decide) (key 2 (by decide)) (plainElem_int hE (a := 1) (by decide))
  obtain ⟨w3, r3, o3, g3⟩ := o2.update KK hT (by decide) (key 4 (by decide)) (plainElem_int hE (a := 2) (by decide))
  obtain ⟨w4, r4, o4, g4⟩ := o3.update KK hT (by decide) (key 8 (by decide)) (plainElem_int hE (a := 3) (by decide))
  have look : ∀ (a c : Int), (Lit.int .i64 a).wf = true → (((((DataW.map [] : DataW Unit).put (.int .i64 1) (.lit (.int .u64 0))).put (.int .i64 2) (.lit (.int .u64 1))).put (.int .i64 4) (.lit (.int .u64 2))).put (.int .i64 8) (.lit (.int .u64 3))).atKey (.int .i64 a) (.lit (.int .u64 0)) = .lit (.int .u64 c) →
      (Instr.lookup T (.map (some w.heap.size)) (.int .i64 a) false).run P w4 = .ok (.int .u64 c) w4 := by
    intro a c ha hc
    obtain ⟨c', hr, hat, _⟩ := o4.lookup_int KK hT hE (zero w4) (key a ha)
    rw [hc] at hat
    have : c' = c := by simpa using hat.symm
    rw [hr, this]
  have b0 : Below w.heap.size w (w.alloc (.map #[] 0)) := (Below.refl _ _).alloc (Nat.le_refl _) _
  have row : ∀ k, some w.heap.size = some k → w.heap.size ≤ k := fun k h => by cases h; exact Nat.le_refl _
  have b1 := b0.grown g1 b0.size row
  have b2 := b1.grown g2 b1.size row
  have b3 := b2.grown g3 b2.size row
  exact ⟨w1, w2, w3, w4, r1, r2, r3, r4, look 1 0 (by decide) rfl, look 2 1 (by decide) rfl, look 4 2 (by decide) rfl, look 8 3 (by decide) rfl, b3.grown g4 b3.size row⟩
end Go.Proofs.YtfoagelemjdglaaDoor
/- The reference's bytes of a number. -/
namespace Go.Proofs.YtfoagelemjdglaaDoor
set_option linter.unusedVariables false
open Go.RowKit P

theorem refSize_in (n : Int) (h0 : 0 ≤ n) (h1 : n ≤ 4611686018427387903) (w : World) :
    Calls Tryd.prog 52 #[.int .i64 n] w fun e w' => e = .returned (.tuple #[.int .i64 (sz n), .int .i64 0]) ∧ w = w' := by
  rcases sz_cases n with ⟨e, b⟩ | ⟨e, b⟩ | ⟨e, b⟩ | ⟨e, b⟩
  all_goals
    go_enter Tryd.func52, Tryd.ntmps52
    go_wp2
    go_rounds 4
    go_ret2
    exact ⟨by rw [e]; rfl, rfl⟩

theorem refSize_out (n : Int) (h : n < 0 ∨ 4611686018427387903 < n) (w : World) :
    Calls Tryd.prog 52 #[.int .i64 n] w fun e w' => e = .returned (.tuple #[.int .i64 0, .int .i64 6]) ∧ w = w' := by
  rcases h with h | h
  · have h2 : ¬ 0 ≤ n := by omega
    go_enter Tryd.func52, Tryd.ntmps52
    go_wp2
    go_ret2
    exact ⟨rfl, rfl⟩
  · have h2 : ¬ n ≤ 4611686018427387903 := by omega
    have h3 : 0 ≤ n := by omega
    go_enter Tryd.func52, Tryd.ntmps52
    go_wp2
    go_ret2
    exact ⟨rfl, rfl⟩

/-- a number with its mark -/
def marked (n : Int) : Int := if n < 64 then n else if n < 16384 then n + 16384 else if n < 1073741824 then n + 2147483648 else n + 13835058055282163712
theorem marked_bd (n : Int) (h0 : 0 ≤ n) (h1 : n ≤ 4611686018427387903) : 0 ≤ marked n ∧ marked n ≤ 18446744073709551615 := by
  unfold marked; split <;> (try split) <;> (try split) <;> omega
theorem lowB_enc (n : Int) (h0 : 0 ≤ n) (h1 : n ≤ 4611686018427387903) : lowB (sz n).toNat (marked n) = enc n := by
  unfold sz marked enc
  split
  · show [n % 256] = [n]
    rw [show n % 256 = n by omega]
  split
  · show [(n + 16384) / 256 % 256, (n + 16384) % 256] = _
    rw [show (n + 16384) / 256 % 256 = n / 256 + 64 by omega, show (n + 16384) % 256 = n % 256 by omega]
  split
  · show [(n + 2147483648) / 256 / 256 / 256 % 256, (n + 2147483648) / 256 / 256 % 256, (n + 2147483648) / 256 % 256, (n + 2147483648) % 256] = _
    rw [show (n + 2147483648) / 256 / 256 / 256 % 256 = n / 256 / 256 / 256 + 128 by omega, show (n + 2147483648) / 256 / 256 % 256 = n / 256 / 256 % 256 by omega, show (n + 2147483648) / 256 % 256 = n / 256 % 256 by omega, show (n + 2147483648) % 256 = n % 256 by omega]
  · have s1 : (n + 13835058055282163712) / 256 = n / 256 + 54043195528445952 := by omega
    have s2 : (n / 256 + 54043195528445952) / 256 = n / 256 / 256 + 211106232532992 := by omega
    have s3 : (n / 256 / 256 + 211106232532992) / 256 = n / 256 / 256 / 256 + 824633720832 := by omega
    have s4 : (n / 256 / 256 / 256 + 824633720832) / 256 = n / 256 / 256 / 256 / 256 + 3221225472 := by omega
    have s5 : (n / 256 / 256 / 256 / 256 + 3221225472) / 256 = n / 256 / 256 / 256 / 256 / 256 + 12582912 := by omega
    have s6 : (n / 256 / 256 / 256 / 256 / 256 + 12582912) / 256 = n / 256 / 256 / 256 / 256 / 256 / 256 + 49152 := by omega
    have s7 : (n / 256 / 256 / 256 / 256 / 256 / 256 + 49152) / 256 = n / 256 / 256 / 256 / 256 / 256 / 256 / 256 + 192 := by omega
    show [(n + 13835058055282163712) / 256 / 256 / 256 / 256 / 256 / 256 / 256 % 256, (n + 13835058055282163712) / 256 / 256 / 256 / 256 / 256 / 256 % 256, (n + 13835058055282163712) / 256 / 256 / 256 / 256 / 256 % 256, (n + 13835058055282163712) / 256 / 256 / 256 / 256 % 256, (n + 13835058055282163712) / 256 / 256 / 256 % 256, (n + 13835058055282163712) / 256 / 256 % 256, (n + 13835058055282163712) / 256 % 256, (n + 13835058055282163712) % 256] = _
    rw [s1, s2, s3, s4, s5, s6, s7]
    simp only [List.cons.injEq]
    refine ⟨?_, ?_, ?_, ?_, ?_, ?_, ?_, ?_, trivial⟩ <;> omega

theorem or64 (n x : Int) (i : Nat) (hi : i ≤ 62) (h0 : 0 ≤ n) (h1 : n < 2 ^ i) (hx : x % 2 ^ i = 0) (x0 : 0 ≤ x) (x1 : x ≤ 18446744073709551615) : bits .or .u64 n x = n + x := by
  have hc : bits .or .u64 n x = bits .or .u64 x n := by simp only [bits, BitVec.or_comm]
  have hp : (2 : Int) ^ i ≤ 2 ^ 62 := by exact_mod_cast Nat.pow_le_pow_right (by decide) hi
  have e62 : (2 : Int) ^ 62 = 4611686018427387904 := by decide
  have e64 : (2 : Int) ^ 64 = 18446744073709551616 := by decide
  rw [hc, bits_join .u64 64 (by decide) (fun m m0 m1 => IntWalk.u64_in m (by rw [e64] at m1; omega)) i x n x0 hx (by rw [e64]; omega) h0 h1 (by rw [e64]; rw [e62] at hp; omega)]
  omega

theorem zeroU (w : World) : (zeroValue 96).run Tryd.prog w = .ok (.int .u64 0) w := by kernel_rfl

theorem varText_in (n : Int) (h0 : 0 ≤ n) (h1 : n ≤ 4611686018427387903) (w : World) :
    Calls Tryd.prog 27 #[.int .i64 n] w fun e w' => e = .returned (.string (strOfNums (enc n))) ∧ Below w.heap.size w w' := by
  have hmm := @run_makeMap Tryd.prog
  obtain ⟨w1, w2, w3, w4, u1, u2, u3, u4, l1, l2, l3, l4, hb⟩ := marks (P := Tryd.prog) Tryd.underlying97 Tryd.underlying3 Tryd.underlying96 zeroU w
  have BB := Lib.hid hb
  have hbig : ∀ (k : Nat) w, k ≤ 8 → (k : Int) = sz n → Calls Tryd.prog 53 #[.int .u64 (marked n), .int .i64 k] w fun e w' => e = .returned (.string (strOfNums (enc n))) ∧ Below w.heap.size w w' := fun k w hk he => by
    have := big_any (marked n) k (marked_bd n h0 h1).1 (marked_bd n h0 h1).2 hk w
    rwa [show k = (sz n).toNat by omega, lowB_enc n h0 h1, show (((sz n).toNat : Nat) : Int) = sz n by omega, ← he] at this
  clear hb
  rcases sz_cases n with ⟨e, b⟩ | ⟨e, b⟩ | ⟨e, b⟩ | ⟨e, b⟩
  · have hor := or64 n 0 6 (by omega) h0 (by omega) (by omega) (by omega) (by omega)
    have hw : IntKind.u64.wrap 0 = 0 := by kernel_rfl
    have hm : marked n = n := by unfold marked; rw [if_pos b]
    have HB := Lib.hid (fun w => hbig 1 w (by omega) (by omega))
    rw [hm] at HB
    clear hbig hm
    rw [Int.add_zero] at hor
    go_enter Tryd.func27, Tryd.ntmps27
    go_wp2_with (first | (go_at_call 52; refine (refSize_in _ h0 h1 _).mono ?_; rintro e w' ⟨rfl, rfl⟩) | (go_at_call 53; refine (HB.out _).mono ?_; rintro e w' ⟨rfl, hb⟩))
    go_ret
    exact ⟨rfl, BB.out.trans (hb.mono BB.out.size)⟩
  · have hor := or64 n 16384 14 (by omega) h0 (by omega) (by omega) (by omega) (by omega)
    have hw : IntKind.u64.wrap 16384 = 16384 := by kernel_rfl
    have hm : marked n = n + 16384 := by unfold marked; rw [if_neg (by omega), if_pos b.2]
    have HB := Lib.hid (fun w => hbig 2 w (by omega) (by omega))
    rw [hm] at HB
    clear hbig hm
    go_enter Tryd.func27, Tryd.ntmps27
    go_wp2_with (first | (go_at_call 52; refine (refSize_in _ h0 h1 _).mono ?_; rintro e w' ⟨rfl, rfl⟩) | (go_at_call 53; refine (HB.out _).mono ?_; rintro e w' ⟨rfl, hb⟩))
    go_ret
    exact ⟨rfl, BB.out.trans (hb.mono BB.out.size)⟩
  · have hor := or64 n 2147483648 30 (by omega) h0 (by omega) (by omega) (by omega) (by omega)
    have hw : IntKind.u64.wrap 2147483648 = 2147483648 := by kernel_rfl
    have hm : marked n = n + 2147483648 := by unfold marked; rw [if_neg (by omega), if_neg (by omega), if_pos b.2]
    have HB := Lib.hid (fun w => hbig 4 w (by omega) (by omega))
    rw [hm] at HB
    clear hbig hm
    go_enter Tryd.func27, Tryd.ntmps27
    go_wp2_with (first | (go_at_call 52; refine (refSize_in _ h0 h1 _).mono ?_; rintro e w' ⟨rfl, rfl⟩) | (go_at_call 53; refine (HB.out _).mono ?_; rintro e w' ⟨rfl, hb⟩))
    go_ret
    exact ⟨rfl, BB.out.trans (hb.mono BB.out.size)⟩
  · have hor := or64 n 13835058055282163712 62 (by omega) h0 (by omega) (by omega) (by omega) (by omega)
    have hw : IntKind.u64.wrap 13835058055282163712 = 13835058055282163712 := by kernel_rfl
    have hm : marked n = n + 13835058055282163712 := by unfold marked; rw [if_neg (by omega), if_neg (by omega), if_neg (by omega)]
    have HB := Lib.hid (fun w => hbig 8 w (by omega) (by omega))
    rw [hm] at HB
    clear hbig hm
    go_enter Tryd.func27, Tryd.ntmps27
    go_wp2_with (first | (go_at_call 52; refine (refSize_in _ h0 h1 _).mono ?_; rintro e w' ⟨rfl, rfl⟩) | (go_at_call 53; refine (HB.out _).mono ?_; rintro e w' ⟨rfl, hb⟩))
    go_ret
    exact ⟨rfl, BB.out.trans (hb.mono BB.out.size)⟩
end Go.Proofs.YtfoagelemjdglaaDoor
