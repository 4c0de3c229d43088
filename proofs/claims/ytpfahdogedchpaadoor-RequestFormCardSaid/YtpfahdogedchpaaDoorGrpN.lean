/- Several texts in one. -/
import Derived.Test.YtpfahdogedchpaaDoorRefPxB
import Derived.Deep.LoopGhost
/- The document's answers on numbers behind bits: PrefixOf. -/
namespace Go.Proofs.YtpfahdogedchpaaDoor
set_option linter.unusedVariables false
open Go.RowKit P

def pxRV (r : Int × Int × Int) : Value := .tuple #[.int .i64 r.1, .int .i64 r.2.1, .int .i64 r.2.2]
/-- what is asked of the document's reader of such numbers -/
def PxRef (P : Program) (f : FuncId) : Prop := ∀ (b : List Int) (wi : Int) (w : World), Byt b → b.length ≤ 140737488355328 → -9223372036854775808 ≤ wi → wi ≤ 9223372036854775807 → Calls P f #[.string (strOfNums b), .int .i64 wi] w fun e w' => e = .returned (pxRV (pxR b wi)) ∧ Below w.heap.size w w'
theorem dcD_cons {z : Int} {l : List Int} {i t n D : Nat} (hD : z % 128 = (D : Int)) (hi : i ≤ 9) : dcD (z :: l) i t n = if 4611686018427387903 < n + D * t then (0, 0, 6) else if z < 128 then (((n + D * t : Nat) : Int), ((i + 1 : Nat) : Int), 0) else dcD l (i + 1) (t * 128) (n + D * t) := by
  have e : (z % 128).toNat = D := by omega
  simp only [dcD, e]
  rw [if_neg (by omega)]
theorem dcD_ten {z : Int} {l : List Int} {i t n : Nat} (hi : 9 < i) : dcD (z :: l) i t n = (0, 0, 1) := by simp only [dcD]; rw [if_pos hi]
theorem quo_lt {n D t : Nat} (hn : n ≤ 4611686018427387903) (ht : 0 < t) : (4611686018427387903 - (n : Int)) / (t : Int) < (D : Int) ↔ 4611686018427387903 < n + D * t := by
  rw [Int.ediv_lt_iff_lt_mul (by omega)]
  have : ((D * t : Nat) : Int) = (D : Int) * (t : Int) := Int.natCast_mul D t
  omega
end Go.Proofs.YtpfahdogedchpaaDoor
/- The document's answers on texts behind bits: TextOf. -/
namespace Go.Proofs.YtpfahdogedchpaaDoor.P
set_option linter.unusedVariables false
theorem dcD_in : ∀ (l : List Int) (i t n : Nat), (dcD l i t n).2.2 = 0 → 0 ≤ (dcD l i t n).1 ∧ (dcD l i t n).1 ≤ 4611686018427387903 ∧ (i : Int) + 1 ≤ (dcD l i t n).2.1 ∧ (dcD l i t n).2.1 ≤ 10 ∧ (dcD l i t n).2.1 ≤ i + l.length
  | [], i, t, n, h => by simp [dcD] at h
  | c :: l, i, t, n, h => by
    unfold dcD at h ⊢
    by_cases a : 9 < i
    · rw [if_pos a] at h; cases h
    · rw [if_neg a] at h ⊢
      by_cases b : 4611686018427387903 < n + (c % 128).toNat * t
      · rw [if_pos b] at h; cases h
      · rw [if_neg b] at h ⊢
        by_cases d : c < 128
        · rw [if_pos d] at h ⊢
          simp only [List.length_cons]
          omega
        · rw [if_neg d] at h ⊢
          have := dcD_in l (i + 1) (t * 128) (n + (c % 128).toNat * t) h
          simp only [List.length_cons]
          omega
theorem pxR_in {b : List Int} {w : Int} (hb : ∀ j, 0 ≤ b.getD j 0) (h : (pxR b w).2.2 = 0) : 0 ≤ (pxR b w).1 ∧ (pxR b w).1 ≤ 4611686018427387903 ∧ 1 ≤ (pxR b w).2.1 ∧ (pxR b w).2.1 ≤ 10 ∧ (pxR b w).2.1 ≤ b.length := by
  unfold pxR at h ⊢
  by_cases a : 1 ≤ w ∧ w ≤ 8
  · rw [if_neg (fun k => k a)] at h ⊢
    cases b with
    | nil => cases h
    | cons c l =>
      have ht := topW_in w
      have hc := hb 0
      have hc' : 0 ≤ c := hc
      simp only at h ⊢
      by_cases q : c % (topW w + 1) < topW w
      · rw [if_pos q] at h ⊢
        have := Int.emod_nonneg c (show topW w + 1 ≠ 0 by omega)
        simp only [List.length_cons]
        omega
      · rw [if_neg q] at h ⊢
        have := dcD_in l 1 1 (topW w).toNat h
        simp only [List.length_cons]
        omega
  · rw [if_pos a] at h; cases h
/-- what Read says, by P13.4 -/
def pxTR (b : List Int) (w : Int) : List Int × Int × Int :=
  if (pxR b w).2.2 ≠ 0 then ([], 0, (pxR b w).2.2) else if 120 < (pxR b w).1 then ([], 0, 1) else if (b.length : Int) < (pxR b w).2.1 + (pxR b w).1 then ([], 0, 4)
  else ((b.drop (pxR b w).2.1.toNat).take (pxR b w).1.toNat, (pxR b w).2.1 + (pxR b w).1, 0)
theorem str_mid2 (zs : List Int) (a b : Nat) : (strOfNums zs).extract a b = strOfNums ((zs.drop a).take (b - a)) := by
  apply ByteArray.ext
  apply Array.toList_inj.1
  rw [Lib.extract_data, strOfNums_data, strOfNums_data]
  simp [List.map_take, List.map_drop]
end Go.Proofs.YtpfahdogedchpaaDoor.P
namespace Go.Proofs.YtpfahdogedchpaaDoor
set_option linter.unusedVariables false
open Go.RowKit P

def pxTV (r : List Int × Int × Int) : Value := .tuple #[.string (strOfNums r.1), .int .i64 r.2.1, .int .i64 r.2.2]
def PxTRef (P : Program) (f : FuncId) : Prop := ∀ (b : List Int) (wi : Int) (w : World), Byt b → b.length ≤ 140737488355328 → -9223372036854775808 ≤ wi → wi ≤ 9223372036854775807 → Calls P f #[.string (strOfNums b), .int .i64 wi] w fun e w' => e = .returned (pxTV (pxTR b wi)) ∧ Below w.heap.size w w'
end Go.Proofs.YtpfahdogedchpaaDoor
