/- The lowest bytes of a number, and how many numbers so many bytes tell apart: nothing of the program's. -/
import Derived.Test.YtajjelcjgcgfdaaBytes
namespace Go.Proofs.Ytajjelcjgcgfdaa.P
set_option linter.unusedVariables false
open Go.RowKit

/-- a number without its k lowest bytes -/
def shr8 : Nat → Int → Int
  | 0, v => v
  | k + 1, v => shr8 k v / 256
/-- the k lowest bytes of a number, the highest first -/
def lowB : Nat → Int → List Int
  | 0, _ => []
  | k + 1, v => (shr8 k v % 256) :: lowB k v
theorem lowB_len (k : Nat) (v : Int) : (lowB k v).length = k := by induction k with | zero => rfl | succ k ih => simp [lowB, ih]
theorem shr8_bd (v : Int) (h0 : 0 ≤ v) (h1 : v ≤ 18446744073709551615) (k : Nat) : 0 ≤ shr8 k v ∧ shr8 k v ≤ 18446744073709551615 := by
  induction k with
  | zero => exact ⟨h0, h1⟩
  | succ k ih => simp only [shr8]; omega
theorem byt1 {z : Int} (h : 0 ≤ z ∧ z ≤ 255) : Byt [z] := fun j => by
  cases j with
  | zero => exact h
  | succ j => simp
theorem byt_cons {z : Int} {zs : List Int} (h : 0 ≤ z ∧ z ≤ 255) (k : Byt zs) : Byt (z :: zs) := fun j => by
  cases j with
  | zero => exact h
  | succ j => exact k j
theorem lowB_byt (k : Nat) (v : Int) : Byt (lowB k v) := by
  induction k with
  | zero => exact Byt.nil
  | succ k ih => exact byt_cons (by omega) ih

/-- how many numbers k bytes tell apart (one to four) -/
def winOf (k : Int) : Int := if k = 1 then 256 else if k = 2 then 65536 else if k = 3 then 16777216 else 4294967296
/-- how many bytes a number takes that is so far above the last one told of, by P2.1 -/
def cutK (d : Int) : Nat := if d ≤ 128 then 1 else if d ≤ 32768 then 2 else if d ≤ 8388608 then 3 else 4
theorem cutK_cases (d : Int) : (cutK d = 1 ∧ d ≤ 128) ∨ (cutK d = 2 ∧ 128 < d ∧ d ≤ 32768) ∨ (cutK d = 3 ∧ 32768 < d ∧ d ≤ 8388608) ∨ (cutK d = 4 ∧ 8388608 < d) := by
  unfold cutK; split <;> (try split) <;> (try split) <;> omega
/-- of a number, one window more and one less: the nearest to the next one -/
def pick3 (m n win half : Int) : Int :=
  if m ≤ n - half ∧ m ≤ 4611686018427387903 - win then m + win else if n + half < m ∧ win ≤ m then m - win else m
theorem pick3_cases (m n win half : Int) (hh : 0 ≤ half) :
    (m ≤ n - half ∧ m ≤ 4611686018427387903 - win ∧ pick3 m n win half = m + win) ∨ (m ≤ n - half ∧ 4611686018427387903 - win < m ∧ pick3 m n win half = m)
    ∨ (n - half < m ∧ n + half < m ∧ win ≤ m ∧ pick3 m n win half = m - win) ∨ (n - half < m ∧ n + half < m ∧ m < win ∧ pick3 m n win half = m) ∨ (n - half < m ∧ m ≤ n + half ∧ pick3 m n win half = m) := by
  unfold pick3
  split
  · omega
  split
  · omega
  · omega
/-- the number that ends so, by P2.2: 'win' many can be told apart, 'low' is what the bytes say -/
def wholeV (t win low : Int) : Int := pick3 (t + 1 - (t + 1) % win + low) (t + 1) win (win / 2)
end Go.Proofs.Ytajjelcjgcgfdaa.P
