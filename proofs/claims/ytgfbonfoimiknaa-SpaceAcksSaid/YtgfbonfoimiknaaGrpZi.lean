/- Several texts in one. -/
import Derived.Test.YtgfbonfoimiknaaGrpA
import Derived.Test.YtgfbonfoimiknaaRows
import Derived.WalkLawsBesides
import Derived.WalkSpells
import Derived.Outline
/- varint.Decode's contract. -/
namespace Go.Proofs.Ytgfbonfoimiknaa
set_option linter.unusedVariables false
open Go.RowKit P

theorem sizeBy_any (z : Int) (h0 : 0 ≤ z) (h1 : z ≤ 255) (w : World) :
    Calls Try.prog 196 #[.int .u8 z] w fun e w' => e = .returned (.int .i64 (kOf z)) ∧ w = w' := by
  have c : z / 64 = 0 ∨ z / 64 = 1 ∨ z / 64 = 2 ∨ z / 64 = 3 := by omega
  unfold kOf
  rcases c with c | c | c | c
  all_goals
    go_enter Try.func196, Try.ntmps196
    go_wp2
    go_ret
    exact ⟨rfl, rfl⟩

theorem decode_nil (A : Option Addr) (cap : Nat) (w : World) :
    Calls Try.prog 188 #[.slice A 0 cap] w fun e w' => e = .returned (.tuple #[.int .i64 0, .int .i64 0, .int .i64 4]) ∧ w = w' := by
  go_enter Try.func188, Try.ntmps188
  go_wp2
  go_ret3
  exact ⟨rfl, rfl⟩

theorem decode_short (b off n cap : Nat) (z : Int) (w : World) (hc : w.cell? ⟨b, off, none⟩ = some (.int .u8 z)) (h0 : 0 ≤ z) (h1 : z ≤ 255) (hn : 0 < n) (hk : (n : Int) < kOf z) (hl : n ≤ cap) (hm : cap ≤ maxLen) :
    Calls Try.prog 188 #[.slice (some ⟨b, off, none⟩) n cap] w fun e w' => e = .returned (.tuple #[.int .i64 0, .int .i64 0, .int .i64 4]) ∧ w = w' := by
  unfold maxLen at hm
  have hn' : ((n : Int) == 0) = false := by simp; omega
  go_enter Try.func188, Try.ntmps188
  go_wp2_with (go_at_call 196; refine (sizeBy_any _ h0 h1 _).mono ?_; rintro e w' ⟨rfl, rfl⟩)
  go_ret3
  exact ⟨rfl, rfl⟩

theorem decode_long (b off n cap : Nat) (zs : List Int) (w : World) (hb : Byt zs) (hc : ∀ j, j < zs.length → w.cell? ⟨b, off + j, none⟩ = some (.int .u8 (zs.getD j 0))) (hzn : zs.length = n) (hn : 0 < n) (hk : kOf (zs.getD 0 0) ≤ (n : Int)) (hl : n ≤ cap) (hm : cap ≤ maxLen) :
    Calls Try.prog 188 #[.slice (some ⟨b, off, none⟩) n cap] w fun e w' => e = .returned (.tuple #[.int .i64 (beFrom (zs.getD 0 0 % 64) ((zs.drop 1).take ((kOf (zs.getD 0 0)).toNat - 1))), .int .i64 (kOf (zs.getD 0 0)), .int .i64 0]) ∧ w = w' := by
  unfold maxLen at hm
  have hc0 := hc 0 (by omega)
  obtain ⟨h0, h1⟩ := hb 0
  have hbd := beFrom_bd (zs.getD 0 0 % 64) (zs.drop 1) (hb.drop 1) (by omega)
  have hn' : ((n : Int) == 0) = false := by simp; omega
  have HC := Lib.hid hc
  have HB := Lib.hid hb
  have HBD := Lib.hid hbd
  have HZ := Lib.hid hzn
  clear hc hb hbd hzn
  generalize hz : zs.getD 0 0 = z at *
  have HZ0 := Lib.hid hz
  clear hz
  have kb := kOf_bd z
  obtain ⟨m, hmK⟩ : ∃ m : Nat, kOf z = m := ⟨(kOf z).toNat, by omega⟩
  rw [hmK] at kb hk ⊢
  have HK := Lib.hid hmK
  clear hmK
  simp only [Nat.add_zero, Int.toNat_natCast] at hc0 ⊢
  by_cases hcap : cap = 1
  · obtain rfl : n = 1 := by omega
    obtain rfl : m = 1 := by omega
    subst hcap
    go_enter Try.func188, Try.ntmps188
    go_wp2_with (go_at_call 196; refine (sizeBy_any _ h0 h1 _).mono ?_; rintro e w' ⟨rfl, rfl⟩; simp only [HK.out])
    go_rounds 1
    all_goals (go_ret3; exact ⟨rfl, rfl⟩)
  · go_enter Try.func188, Try.ntmps188
    go_wp2_with (go_at_call 196; refine (sizeBy_any _ h0 h1 _).mono ?_; rintro e w' ⟨rfl, rfl⟩; simp only [HK.out])
    go_loop [2, 32] (fun acc i => ∃ k : Nat, k ≤ m - 1 ∧ i = .int .i64 k ∧ acc = .int .i64 (beFrom (z % 64) ((zs.drop 1).take k))) (fun _ i => (m - 1) - (intOf i).toNat)
    case atStart => exact ⟨0, Nat.zero_le _, rfl, rfl⟩
    case round =>
      obtain ⟨k, hk', rfl, rfl⟩ := hrel
      by_cases hlt : k < m - 1
      · have st := beFrom_step (z % 64) (zs.drop 1) k (by rw [List.length_drop, HZ.out]; omega)
        have bd := HBD.out k (by rw [List.length_drop, HZ.out]; omega)
        have hcell := HC.out (1 + k) (by rw [HZ.out]; omega)
        have hby := HB.out (1 + k)
        rw [← Nat.add_assoc] at hcell
        rw [getD_drop] at st
        generalize zs.getD (1 + k) 0 = x at st hcell hby
        generalize beFrom (z % 64) ((zs.drop 1).take k) = y at st bd
        have hy := acc_bd _ _ k (by omega) (by omega) (by omega) bd.1 bd.2
        have or' := or_i64 y x hy.1 hy.2 hby.1 hby.2
        have ST := Lib.hid st
        clear st bd
        go_wp2
        go_round
        case rel => exact ⟨k + 1, by omega, by go_num, by rw [ST.out]⟩
        case measure => simp [intOf]; omega
      · obtain rfl : k = m - 1 := by omega
        go_wp2
        go_ret3
        exact ⟨rfl, rfl⟩

theorem decode_no (A : Option Addr) (n cap B : Nat) (zs : List Int) (w : World) (h : BRow w B A zs) (hzn : zs.length = n) (hl : n ≤ cap) (hm : cap ≤ maxLen) (hno : ¬ decOk zs) :
    Calls Try.prog 188 #[.slice A n cap] w fun e w' => e = .returned (.tuple #[.int .i64 0, .int .i64 0, .int .i64 4]) ∧ w = w' := by
  rcases Nat.eq_zero_or_pos n with h0 | h0
  · subst h0; exact decode_nil A cap w
  · obtain ⟨b, off, rfl, _, hc⟩ := h.2 (by omega)
    unfold decOk at hno
    exact decode_short b off n cap _ w (hc 0 (by omega)) (h.1 0).1 (h.1 0).2 h0 (by omega) hl hm

theorem decode_yes (A : Option Addr) (n cap B : Nat) (zs : List Int) (w : World) (h : BRow w B A zs) (hzn : zs.length = n) (hl : n ≤ cap) (hm : cap ≤ maxLen) (hok : decOk zs) :
    Calls Try.prog 188 #[.slice A n cap] w fun e w' => e = .returned (.tuple #[.int .i64 (decV zs), .int .i64 (kOf (zs.getD 0 0)), .int .i64 0]) ∧ w = w' := by
  obtain ⟨b, off, rfl, _, hc⟩ := h.2 hok.1
  exact decode_long b off n cap zs w h.1 hc hzn (by have := hok.1; omega) (by have := hok.2; omega) hl hm

end Go.Proofs.Ytgfbonfoimiknaa
