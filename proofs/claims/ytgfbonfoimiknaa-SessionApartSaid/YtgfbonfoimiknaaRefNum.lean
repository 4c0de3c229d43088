/- The reference's big-endian reader. -/
import Derived.Test.YtgfbonfoimiknaaGrpA
import Derived.Test.YtgfbonfoimiknaaRows
import Derived.WalkLawsBesides
import Derived.WalkSpells
import Derived.Outline
import Derived.Deep.QuietTactic
import Derived.BigQuiet
namespace Go.Proofs.Ytgfbonfoimiknaa
set_option linter.unusedVariables false
open Go.RowKit P

theorem refnum_any (s : ByteArray) (zs : List Int) (hs : s = strOfNums zs) (hb : Byt zs) (h8 : zs.length ≤ 8) (w : World) :
    Calls Try.prog 101 #[.string s] w fun e w' => e = .returned (.int .u64 (beFrom 0 zs)) ∧ w = w' := by
  have hget : ∀ n (h : n < s.size), ((s[n]'h).toNat : Int) = zs.getD n 0 := by subst hs; exact str_get hb
  have hsz : s.size = zs.length := by subst hs; exact strOfNums_size zs
  have h8' : s.size ≤ 8 := by omega
  have HS := Lib.hid hsz
  have HB := Lib.hid hb
  have H8 := Lib.hid h8
  clear hs hsz hb h8
  go_enter Try.func101, Try.ntmps101
  go_wp2
  go_loop [3, 4] (fun acc i => ∃ k : Nat, k ≤ s.size ∧ i = .int .i64 k ∧ acc = .int .u64 (beFrom 0 (zs.take k))) (fun _ i => s.size - (intOf i).toNat)
  case atStart => exact ⟨0, Nat.zero_le _, rfl, rfl⟩
  case round =>
    obtain ⟨k, hk, rfl, rfl⟩ := hrel
    by_cases hlt : k < s.size
    · have st := beFrom_step 0 zs k (by rw [← HS.out]; exact hlt)
      have bd := beFrom_bd 0 zs HB.out (by omega) k (by rw [← HS.out]; exact hk)
      have hby := HB.out k
      have bd7 : 0 ≤ beFrom 0 (zs.take k) ∧ beFrom 0 (zs.take k) ≤ 72057594037927935 := by
        have p : (256 : Int) ^ k ≤ 72057594037927936 := by
          have c : k = 0 ∨ k = 1 ∨ k = 2 ∨ k = 3 ∨ k = 4 ∨ k = 5 ∨ k = 6 ∨ k = 7 := by omega
          rcases c with rfl | rfl | rfl | rfl | rfl | rfl | rfl | rfl <;> decide
        generalize (256 : Int) ^ k = u at *
        omega
      generalize beFrom 0 (zs.take k) = y at st bd7
      have hx := hget k hlt
      clear hget bd
      generalize zs.getD k 0 = x at st hby hx
      have ST := Lib.hid st
      clear st
      go_wp2
      go_round
      case rel => exact ⟨k + 1, by omega, by go_num, by rw [ST.out]⟩
      case measure => simp [intOf]; omega
    · obtain rfl : k = s.size := by omega
      go_wp2
      go_ret
      exact ⟨ret_int (by rw [HS.out, List.take_of_length_le (Nat.le_refl _)]), rfl⟩
end Go.Proofs.Ytgfbonfoimiknaa
