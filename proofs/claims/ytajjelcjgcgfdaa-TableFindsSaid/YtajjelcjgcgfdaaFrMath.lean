/- Frames in bytes: what a kind has, what may be, the bytes, and what is read. Nothing of the program's. -/
import Derived.Test.YtajjelcjgcgfdaaVarMath
import Derived.Test.YtajjelcjgcgfdaaLow
import Derived.Test.YtajjelcjgcgfdaaRngMath
namespace Go.Proofs.Ytajjelcjgcgfdaa.P
set_option linter.unusedVariables false
open Go.RowKit

structure Fr where
  kind : Int
  id : Int
  off : Int
  fin : Bool
  code : Int
  rs : List (Int × Int)
  data : List Int

/-- the number of 64 bits that reads as one with a sign -/
def i64Of (n : Int) : Int := if n < 9223372036854775808 then n else n - 18446744073709551616
/-- what a kind has, in the order of its bytes: ranges r, id i, off o, code c, code of eight bytes w, data d, fin f -/
def partsOf (k : Int) : Option (List Int) :=
  if k = 0 then some [] else if k = 1 then some [] else if k = 2 then some [114] else if k = 4 then some [105, 111, 99] else if k = 5 then some [105, 99]
  else if k = 6 then some [111, 100] else if k = 7 then some [100] else if k = 8 then some [105, 111, 100, 102] else if k = 16 then some [111] else if k = 17 then some [105, 111]
  else if k = 18 then some [111] else if k = 26 then some [119] else if k = 27 then some [119] else if k = 28 then some [99] else if k = 30 then some [] else none
theorem parts_cases {k : Int} {s : List Int} (h : partsOf k = some s) : (s = [] ∧ (k = 0 ∨ k = 1 ∨ k = 30)) ∨ (s = [114] ∧ k = 2) ∨ (s = [105, 111, 99] ∧ k = 4) ∨ (s = [105, 99] ∧ k = 5) ∨ (s = [111, 100] ∧ k = 6) ∨ (s = [100] ∧ k = 7) ∨ (s = [105, 111, 100, 102] ∧ k = 8) ∨
    (s = [111] ∧ (k = 16 ∨ k = 18)) ∨ (s = [105, 111] ∧ k = 17) ∨ (s = [119] ∧ (k = 26 ∨ k = 27)) ∨ (s = [99] ∧ k = 28) := by
  unfold partsOf at h
  by_cases e0 : k = 0
  · rw [if_pos e0] at h; cases h; simp [e0]
  rw [if_neg e0] at h
  by_cases e1 : k = 1
  · rw [if_pos e1] at h; cases h; simp [e1]
  rw [if_neg e1] at h
  by_cases e2 : k = 2
  · rw [if_pos e2] at h; cases h; simp [e2]
  rw [if_neg e2] at h
  by_cases e4 : k = 4
  · rw [if_pos e4] at h; cases h; simp [e4]
  rw [if_neg e4] at h
  by_cases e5 : k = 5
  · rw [if_pos e5] at h; cases h; simp [e5]
  rw [if_neg e5] at h
  by_cases e6 : k = 6
  · rw [if_pos e6] at h; cases h; simp [e6]
  rw [if_neg e6] at h
  by_cases e7 : k = 7
  · rw [if_pos e7] at h; cases h; simp [e7]
  rw [if_neg e7] at h
  by_cases e8 : k = 8
  · rw [if_pos e8] at h; cases h; simp [e8]
  rw [if_neg e8] at h
  by_cases e16 : k = 16
  · rw [if_pos e16] at h; cases h; simp [e16]
  rw [if_neg e16] at h
  by_cases e17 : k = 17
  · rw [if_pos e17] at h; cases h; simp [e17]
  rw [if_neg e17] at h
  by_cases e18 : k = 18
  · rw [if_pos e18] at h; cases h; simp [e18]
  rw [if_neg e18] at h
  by_cases e26 : k = 26
  · rw [if_pos e26] at h; cases h; simp [e26]
  rw [if_neg e26] at h
  by_cases e27 : k = 27
  · rw [if_pos e27] at h; cases h; simp [e27]
  rw [if_neg e27] at h
  by_cases e28 : k = 28
  · rw [if_pos e28] at h; cases h; simp [e28]
  rw [if_neg e28] at h
  by_cases e30 : k = 30
  · rw [if_pos e30] at h; cases h; simp [e30]
  rw [if_neg e30] at h
  cases h

/-- a set, the highest first; its highest number is at most b - 2 -/
def downFrom : Int → List (Int × Int) → Prop
  | _, [] => True
  | b, x :: t => okR x ∧ x.2 + 2 ≤ b ∧ downFrom x.1 t
def downL (l : List (Int × Int)) : Prop := downFrom 4611686018427387905 l
instance decR (x : Int × Int) : Decidable (okR x) := by unfold okR; infer_instance
instance decDown : ∀ (b : Int) (l : List (Int × Int)), Decidable (downFrom b l)
  | _, [] => .isTrue trivial
  | b, x :: t => by
    have := decDown x.1 t
    unfold downFrom
    infer_instance
instance (l : List (Int × Int)) : Decidable (downL l) := decDown _ l
/-- a number that is not from 0 to MaxVar, or stands where there is none -/
def numBad (has : Bool) (n : Int) : Bool := !(decide (0 ≤ n) && decide (n ≤ 4611686018427387903)) || (!has && decide (n ≠ 0))
/-- what Check says, by P4.2 -/
def faultF (f : Fr) : Int :=
  match partsOf f.kind with
  | none => 2
  | some s =>
    if 120 < f.data.length ∨ 6 < f.rs.length then 1
    else if numBad (decide (105 ∈ s)) f.id = true ∨ numBad (decide (111 ∈ s)) f.off = true ∨ numBad (decide (99 ∈ s) || decide (119 ∈ s)) f.code = true then 6
    else if 111 ∈ s ∧ 100 ∈ s ∧ 4611686018427387903 < f.off + f.data.length then 6
    else if decide (0 < f.rs.length) ≠ decide (114 ∈ s) ∨ ¬ downL f.rs ∨ (0 < f.data.length ∧ 100 ∉ s) ∨ (f.fin = true ∧ 102 ∉ s) then 3
    else 0

/-- the bytes of further ranges, behind one that begins with b -/
def encT : Int → List (Int × Int) → List Int
  | _, [] => []
  | b, x :: t => enc (b - x.2 - 2) ++ (enc (x.2 - x.1) ++ encT x.1 t)
def encR : List (Int × Int) → List Int
  | [] => []
  | x :: t => enc x.2 ++ (enc t.length ++ (enc (x.2 - x.1) ++ encT x.1 t))
def encP (f : Fr) (c : Int) : List Int :=
  if c = 114 then encR f.rs else if c = 105 then enc f.id else if c = 111 then enc f.off else if c = 99 then enc f.code else if c = 119 then lowB 8 f.code else if c = 100 then enc f.data.length ++ f.data else []
def encPs (f : Fr) : List Int → List Int
  | [] => []
  | c :: cs => encP f c ++ encPs f cs
def markF (f : Fr) : List Int := if f.kind = 8 then (if f.fin then [15] else [14]) else enc f.kind
/-- the bytes of a frame, by P4.3 -/
def frT (f : Fr) : List Int := markF f ++ encPs f ((partsOf f.kind).getD [])

instance (zs : List Int) : Decidable (decOk zs) := by unfold decOk; infer_instance
def rd (s : List Int) : Except Int (Int × List Int) := if decOk s then .ok (decV s, s.drop (kOf (s.getD 0 0)).toNat) else .error 4
def decT : Nat → Int → List Int → Except Int (List (Int × Int) × List Int)
  | 0, _, s => .ok ([], s)
  | k + 1, b, s =>
    match rd s with
    | .error e => .error e
    | .ok (g, s1) =>
      match rd s1 with
      | .error e => .error e
      | .ok (n, s2) =>
        if b - g - 2 - n < 0 then .error 6 else
        match decT k (b - g - 2 - n) s2 with
        | .error e => .error e
        | .ok (t, s3) => .ok ((b - g - 2 - n, b - g - 2) :: t, s3)
def decRs (s : List Int) : Except Int (List (Int × Int) × List Int) :=
  match rd s with
  | .error e => .error e
  | .ok (hi, s1) =>
    match rd s1 with
    | .error e => .error e
    | .ok (n, s2) =>
      if 6 ≤ n then .error 1 else
      match rd s2 with
      | .error e => .error e
      | .ok (m, s3) =>
        if hi - m < 0 then .error 6 else
        match decT n.toNat (hi - m) s3 with
        | .error e => .error e
        | .ok (t, s4) => .ok ((hi - m, hi) :: t, s4)
def decP (f : Fr) (s : List Int) (c : Int) : Except Int (Fr × List Int) :=
  if c = 114 then match decRs s with | .error e => .error e | .ok (l, t) => .ok ({ f with rs := l }, t)
  else if c = 105 then match rd s with | .error e => .error e | .ok (n, t) => .ok ({ f with id := n }, t)
  else if c = 111 then match rd s with | .error e => .error e | .ok (n, t) => .ok ({ f with off := n }, t)
  else if c = 99 then match rd s with | .error e => .error e | .ok (n, t) => .ok ({ f with code := n }, t)
  else if c = 119 then if s.length < 8 then .error 4 else .ok ({ f with code := i64Of (beFrom 0 (s.take 8)) }, s.drop 8)
  else if c = 100 then match rd s with | .error e => .error e | .ok (n, t) => if 120 < n then .error 1 else if (t.length : Int) < n then .error 4 else .ok ({ f with data := t.take n.toNat }, t.drop n.toNat)
  else .ok (f, s)
def decPs : List Int → Fr → List Int → Except Int (Fr × List Int)
  | [], f, s => .ok (f, s)
  | c :: cs, f, s => match decP f s c with | .error e => .error e | .ok (g, t) => decPs cs g t
/-- the frame that bytes begin with, by P4.4, and what stands behind it -/
def decF (s : List Int) : Except Int (Fr × List Int) :=
  match rd s with
  | .error e => .error e
  | .ok (k, t) =>
    if k = 8 then .error 2 else
    match partsOf (if k = 14 ∨ k = 15 then 8 else k) with
    | none => .error 2
    | some ps =>
      match decPs ps ⟨if k = 14 ∨ k = 15 then 8 else k, 0, 0, decide (k = 15), 0, [], []⟩ t with
      | .error e => .error e
      | .ok (f, u) => if faultF f = 0 then .ok (f, u) else .error (faultF f)
end Go.Proofs.Ytajjelcjgcgfdaa.P
