/- The reference's writer of a number in so many bytes. -/
import Derived.Test.YtenhdnanfgnfjaaStr
import Derived.Test.YtenhdnanfgnfjaaLow
import Derived.Test.YtenhdnanfgnfjaaRows
import Derived.WalkLawsBesides
import Derived.WalkSpells
import Derived.Outline
namespace Go.Proofs.Ytenhdnanfgnfjaa
set_option linter.unusedVariables false
open Go.RowKit P

theorem big_any (v : Int) (size : Nat) (h0 : 0 ≤ v) (h1 : v ≤ 18446744073709551615) (hs : size ≤ 8) (w : World) :
    Calls Try.prog 23 #[.int .u64 v, .int .i64 size] w fun e w' => e = .returned (.string (strOfNums (lowB size v))) ∧ Below w.heap.size w w' := by
  go_enter Try.func23, Try.ntmps23
  go_wp2
  go_loopw [0, 5, 7] (fun n s i wr => ∃ k : Nat, k ≤ size ∧ n = .int .u64 (shr8 k v) ∧ s = .string (strOfNums (lowB k v)) ∧ i = .int .i64 k ∧ Below w.heap.size w wr) (fun _ _ i _ => size - (intOf i).toNat)
  case atStart => exact ⟨0, Nat.zero_le _, rfl, rfl, rfl, Below.refl _ _⟩
  case round =>
    obtain ⟨k, hk, rfl, rfl, rfl, hb⟩ := hrel
    by_cases hlt : k < size
    · have bd := shr8_bd v h0 h1 k
      have hst := Lib.hid (show shr8 (k + 1) v = shr8 k v / 256 from rfl)
      have hstr := Lib.hid (show lowB (k + 1) v = (shr8 k v % 256) :: lowB k v from rfl)
      have hl1 : (strOfNums (lowB k v)).size = k := by rw [strOfNums_size, lowB_len]
      generalize shr8 k v = y at *
      have hl2 : (strOfNums [y % 256]).size = 1 := by rw [strOfNums_size]; rfl
      have hcv := run_str (P := Try.prog) (w := wr.alloc (.cells #[.int .u8 (y % 256)] 5)) (B := wr.heap.size + 1) (A := some ⟨wr.heap.size, 0, none⟩) (zs := [y % 256]) (n := 1) ⟨byt1 (by omega), fun _ => ⟨_, 0, rfl, by omega, fun j hj => by
        obtain rfl : j = 0 := by simpa using hj
        simp⟩⟩ rfl 22 9 5 1 Try.underlying22 Try.underlying5 Try.underlying9
      go_wp2
      go_roundw
      case rel => exact ⟨k + 1, by omega, by rw [hst.out], by rw [hstr.out, str_cat]; rfl, by go_num, hb.alloc hb.size _⟩
      case measure => simp [intOf]; omega
    · obtain rfl : k = size := by omega
      go_wp2
      go_ret
      exact ⟨rfl, hb⟩
end Go.Proofs.Ytenhdnanfgnfjaa
