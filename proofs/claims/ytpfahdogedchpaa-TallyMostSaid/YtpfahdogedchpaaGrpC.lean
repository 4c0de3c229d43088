/- Several texts in one. -/
import Derived.Test.YtpfahdogedchpaaRows
import Derived.WalkLawsBesides
import Derived.WalkSpells
import Derived.Outline
import Derived.Handy
import Derived.WalkKit
import Derived.Lib.Hide
import Derived.Test.YtpfahdogedchpaaGrpB
/- The document's answers on numbers: upTo. -/
namespace Go.Proofs.Ytpfahdogedchpaa
set_option linter.unusedVariables false
open Go.RowKit

theorem upTo_yes (n m : Int) (h0 : 0 ≤ n) (h1 : n ≤ m) (w : World) :
    Calls Try.prog 31 #[.int .i64 n, .int .i64 m] w fun e w' => e = .returned (.bool true) ∧ w = w' := by
  go_enter Try.func31, Try.ntmps31
  go_wp2
  go_ret
  exact ⟨rfl, rfl⟩
theorem upTo_no (n m : Int) (h : n < 0 ∨ m < n) (w : World) :
    Calls Try.prog 31 #[.int .i64 n, .int .i64 m] w fun e w' => e = .returned (.bool false) ∧ w = w' := by
  by_cases a : n < 0
  · have g : decide (0 ≤ n) = false := by simp; omega
    go_enter Try.func31, Try.ntmps31
    go_wp2
    go_ret
    exact ⟨rfl, rfl⟩
  · have g : decide (0 ≤ n) = true := by simp; omega
    have g2 : decide (n ≤ m) = false := by simp; omega
    clear h
    go_enter Try.func31, Try.ntmps31
    go_wp2
    go_ret
    exact ⟨rfl, rfl⟩
/-- what upTo answers -/
def upB2 (n m : Int) : Bool := decide (0 ≤ n) && decide (n ≤ m)
theorem upB2_yes {n m : Int} (h0 : 0 ≤ n) (h1 : n ≤ m) : upB2 n m = true := by unfold upB2; simp [h0, h1]
theorem upB2_no {n m : Int} (h : n < 0 ∨ m < n) : upB2 n m = false := by
  unfold upB2
  rcases h with h | h
  · rw [decide_eq_false (show ¬ 0 ≤ n by omega)]; rfl
  · rw [decide_eq_false (show ¬ n ≤ m by omega)]; simp
theorem upTo_any (n m : Int) (w : World) :
    Calls Try.prog 31 #[.int .i64 n, .int .i64 m] w fun e w' => e = .returned (.bool (upB2 n m)) ∧ w = w' := by
  by_cases h : 0 ≤ n ∧ n ≤ m
  · rw [upB2_yes h.1 h.2]
    exact upTo_yes n m h.1 h.2 w
  · rw [upB2_no (by omega)]
    exact upTo_no n m (by omega) w
end Go.Proofs.Ytpfahdogedchpaa
/- The verifier's texts' own 'picked': a number's remainder, never below nought. -/
namespace Go.Proofs.Ytpfahdogedchpaa
set_option linter.unusedVariables false
open Go.RowKit

theorem tmod_facts (n m : Int) (hm : 0 < m) : (0 ≤ n.tmod m → n.tmod m = n % m) ∧ (n.tmod m < 0 → n.tmod m + m = n % m) ∧ -m < n.tmod m ∧ n.tmod m < m := by
  have e0 := Int.emod_nonneg n (show m ≠ 0 by omega)
  have e1 := Int.emod_lt_of_pos n hm
  rcases Int.le_total 0 n with h | h
  · rw [Int.tmod_eq_emod_of_nonneg h]
    refine ⟨fun _ => rfl, fun h' => by omega, by omega, e1⟩
  · by_cases hd : m ∣ n
    · have h1 : n.tmod m = 0 := Int.tmod_eq_zero_of_dvd hd
      have h2 : n % m = 0 := Int.emod_eq_zero_of_dvd hd
      rw [h1, h2]
      refine ⟨fun _ => rfl, fun h' => by omega, by omega, hm⟩
    · have h3 : n.tmod m = n % m - m := by
        rw [Int.tmod_eq_emod]
        have : ¬ (0 ≤ n ∨ m ∣ n) := by
          intro h'
          rcases h' with h' | h'
          · have : n = 0 := by omega
            subst this; exact hd (Int.dvd_zero m)
          · exact hd h'
        rw [if_neg this]
        omega
      have h4 : n % m ≠ 0 := fun h => hd (Int.dvd_of_emod_eq_zero h)
      rw [h3]
      refine ⟨fun h' => by omega, fun _ => by omega, by omega, by omega⟩

theorem picked_any (n m : Int) (hm : 0 < m) (hm1 : m ≤ 9223372036854775807) (w : World) :
    Calls Try.prog 18 #[.int .i64 n, .int .i64 m] w fun e w' => e = .returned (.int .i64 (n % m)) ∧ w = w' := by
  obtain ⟨f1, f2, f3, f4⟩ := tmod_facts n m hm
  have hm0 : (m == 0) = false := by simp; omega
  by_cases h : n.tmod m < 0
  · have e := Lib.hid (f2 h)
    clear f1 f2
    generalize hq : n.tmod m = q at *
    go_enter Try.func18, Try.ntmps18
    go_wp2
    go_ret
    exact ⟨by rw [← e.out]; rfl, rfl⟩
  · have e := Lib.hid (f1 (by omega))
    clear f1 f2
    generalize hq : n.tmod m = q at *
    go_enter Try.func18, Try.ntmps18
    go_wp2
    go_ret
    exact ⟨by rw [← e.out]; rfl, rfl⟩
end Go.Proofs.Ytpfahdogedchpaa
/- The verifier's texts' raw things in memory: four cells each. And their 'some', 'picked'. -/
namespace Go.Proofs.Ytpfahdogedchpaa
set_option linter.unusedVariables false
open Go.RowKit P

structure RawT where
  kind : Int
  a : Int
  b : Int
  text : ByteArray

def raw0 : RawT := ⟨0, 0, 0, ByteArray.empty⟩

/-- 'A' leads to a row below block B whose cells are the raw things rs -/
def RawRow (w : World) (B : Nat) (A : Option Addr) (rs : List RawT) : Prop :=
  0 < rs.length → ∃ b off, A = some ⟨b, off, none⟩ ∧ b < B ∧ ∀ j, j < rs.length →
    w.cell? ⟨b, off + j * 4, none⟩ = some (.int .i64 (rs.getD j raw0).kind) ∧ w.cell? ⟨b, off + j * 4 + 1, none⟩ = some (.int .i64 (rs.getD j raw0).a) ∧
    w.cell? ⟨b, off + j * 4 + 2, none⟩ = some (.int .i64 (rs.getD j raw0).b) ∧ w.cell? ⟨b, off + j * 4 + 3, none⟩ = some (.string (rs.getD j raw0).text)
theorem RawRow.keep {w w' : World} {B : Nat} {A : Option Addr} {rs : List RawT} (h : RawRow w B A rs) (hk : ∀ p : Addr, p.block < B → w'.cell? p = w.cell? p) : RawRow w' B A rs := fun hn => by
  obtain ⟨b, off, e, hb, hc⟩ := h hn
  exact ⟨b, off, e, hb, fun j hj => ⟨(hk _ hb).trans (hc j hj).1, (hk _ hb).trans (hc j hj).2.1, (hk _ hb).trans (hc j hj).2.2.1, (hk _ hb).trans (hc j hj).2.2.2⟩⟩
theorem RawRow.below {w w' : World} {B : Nat} {A : Option Addr} {rs : List RawT} (h : RawRow w B A rs) (hb : Below B w w') : RawRow w' B A rs := h.keep fun _ hp => hb.cell hp

theorem some20 (A : Option Addr) (len cap : Nat) (w : World) (hl : len ≤ cap) (hc : cap ≤ maxLen) :
    Calls Try.prog 17 #[.slice A len cap, .int .i64 20] w fun e w' => e = .returned (.slice A (min len 20) cap) ∧ w = w' := by
  unfold maxLen at hc
  by_cases h : 20 < len
  · have e := Lib.hid (show min len 20 = 20 by omega)
    go_enter Try.func17, Try.ntmps17
    go_wp2
    go_ret
    exact ⟨by rw [e.out]; rfl, rfl⟩
  · have e := Lib.hid (show min len 20 = len by omega)
    go_enter Try.func17, Try.ntmps17
    go_wp2
    go_ret
    exact ⟨by rw [e.out]; rfl, rfl⟩
end Go.Proofs.Ytpfahdogedchpaa
