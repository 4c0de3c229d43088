/- Fields of requests by P15: what all know, what is read: plain mathematics. Nothing of the program's. -/
import Derived.Test.YtfoagelemjdglaaDoorGrpA
import Derived.Test.YtfoagelemjdglaaDoorGrpN
namespace Go.Proofs.YtfoagelemjdglaaDoor.P
set_option linter.unusedVariables false

/-- what all know -/
def knL : List Fld := [⟨[58, 112, 97, 116, 104], [47]⟩, ⟨[58, 109, 101, 116, 104, 111, 100], [71, 69, 84]⟩, ⟨[58, 109, 101, 116, 104, 111, 100], [80, 79, 83, 84]⟩, ⟨[58, 115, 116, 97, 116, 117, 115], [50, 48, 48]⟩, ⟨[58, 115, 116, 97, 116, 117, 115], [52, 48, 52]⟩, ⟨[97, 103, 101], [48]⟩, ⟨[100, 97, 116, 101], []⟩, ⟨[101, 116, 97, 103], []⟩, ⟨[99, 111, 111, 107, 105, 101], []⟩, ⟨[115, 101, 114, 118, 101, 114], []⟩, ⟨[58, 97, 117, 116, 104, 111, 114, 105, 116, 121], []⟩]
/-- the text of them -/
def knT : List Int := [58, 112, 97, 116, 104, 61, 47, 32, 58, 109, 101, 116, 104, 111, 100, 61, 71, 69, 84, 32, 58, 109, 101, 116, 104, 111, 100, 61, 80, 79, 83, 84, 32, 58, 115, 116, 97, 116, 117, 115, 61, 50, 48, 48, 32, 58, 115, 116, 97, 116, 117, 115, 61, 52, 48, 52, 32, 97, 103, 101, 61, 48, 32, 100, 97, 116, 101, 61, 32, 101, 116, 97, 103, 61, 32, 99, 111, 111, 107, 105, 101, 61, 32, 115, 101, 114, 118, 101, 114, 61, 32, 58, 97, 117, 116, 104, 111, 114, 105, 116, 121, 61, 32]
def stepK (s : List Fld × Fld × Bool) (c : Int) : List Fld × Fld × Bool := if c = 32 then (s.1 ++ [s.2.1], fd0, false) else if c = 61 then (s.1, s.2.1, true) else if s.2.2 then (s.1, ⟨s.2.1.name, s.2.1.val ++ [c]⟩, s.2.2) else (s.1, ⟨s.2.1.name ++ [c], s.2.1.val⟩, s.2.2)
def stK (i : Nat) : List Fld × Fld × Bool := (knT.take i).foldl stepK ([], fd0, false)
theorem stK_all : stK 103 = (knL, fd0, false) := by kernel_rfl
theorem knT_len : knT.length = 103 := rfl
theorem stK_succ {i : Nat} (h : i < knT.length) : stK (i + 1) = stepK (stK i) (knT.getD i 0) := by
  unfold stK
  rw [List.take_succ_eq_append_getElem h, List.foldl_append, List.getD_eq_getElem?_getD, List.getElem?_eq_getElem h]
  rfl
theorem stK_len (i : Nat) : (stK i).1.length ≤ i ∧ (stK i).2.1.name.length ≤ i ∧ (stK i).2.1.val.length ≤ i := by
  induction i with
  | zero => exact ⟨Nat.le_refl _, Nat.le_refl _, Nat.le_refl _⟩
  | succ i ih =>
    rcases Nat.lt_or_ge i knT.length with h | h
    · rw [stK_succ h]
      unfold stepK
      split
      · simp [fd0]; omega
      · split
        · simp only; omega
        · split <;> simp <;> omega
    · have e : stK (i + 1) = stK i := by unfold stK; rw [List.take_of_length_le (by omega), List.take_of_length_le h]
      rw [e]; omega
theorem knT_in (i : Nat) (h : i < knT.length) : 32 ≤ knT.getD i 0 ∧ knT.getD i 0 < 128 := by
  have key : ∀ c ∈ knT, 32 ≤ c ∧ c < 128 := by decide
  rw [List.getD_eq_getElem?_getD, List.getElem?_eq_getElem h]
  exact key _ (List.getElem_mem h)
theorem knL_ok : ∀ x ∈ knL, okFd x := by decide
theorem knL_len : knL.length = 11 := rfl
/-- what Check says, by P15.2 -/
def faultFl (l : List Fld) : Int := if 8 < l.length then 1 else if ∀ f ∈ l, okFd f then 0 else 3
/-- one that all know -/
def knR (b : List Int) (w : Int) : Fld × Int × Int := if (pxR b w).2.2 ≠ 0 then (fd0, 0, (pxR b w).2.2) else if 10 < (pxR b w).1 then (fd0, 0, 5) else (knL.getD (pxR b w).1.toNat fd0, (pxR b w).2.1, 0)
/-- a value behind a name: (name, where it stands, error of the name) -/
def valR (b : List Int) (nm : List Int) (k e : Int) : Fld × Int × Int := if e ≠ 0 then (⟨nm, []⟩, 0, e) else (⟨nm, (pxTR (b.drop k.toNat) 7).1⟩, k + (pxTR (b.drop k.toNat) 7).2.1, (pxTR (b.drop k.toNat) 7).2.2)
/-- a field of a section: (field, how many bytes, error), by P15.4 -/
def lineR (t : Tb) (need : Int) (b : List Int) : Fld × Int × Int :=
  if 192 ≤ b.getD 0 0 then knR b 6
  else if 128 ≤ b.getD 0 0 then (if (pxR b 6).2.2 ≠ 0 then (fd0, 0, (pxR b 6).2.2) else if need ≤ (pxR b 6).1 then (fd0, 0, 6) else ((getT t (need - 1 - (pxR b 6).1)).1, (pxR b 6).2.1, (getT t (need - 1 - (pxR b 6).1)).2))
  else if 64 ≤ b.getD 0 0 ∧ b.getD 0 0 < 80 then (if (knR b 4).2.2 ≠ 0 then (fd0, 0, (knR b 4).2.2) else (⟨(knR b 4).1.name, (pxTR (b.drop (knR b 4).2.1.toNat) 7).1⟩, (knR b 4).2.1 + (pxTR (b.drop (knR b 4).2.1.toNat) 7).2.1, (pxTR (b.drop (knR b 4).2.1.toNat) 7).2.2))
  else if 32 ≤ b.getD 0 0 ∧ b.getD 0 0 < 40 then (if (pxTR b 3).2.2 ≠ 0 then (fd0, 0, (pxTR b 3).2.2) else (⟨(pxTR b 3).1, (pxTR (b.drop (pxTR b 3).2.1.toNat) 7).1⟩, (pxTR b 3).2.1 + (pxTR (b.drop (pxTR b 3).2.1.toNat) 7).2.1, (pxTR (b.drop (pxTR b 3).2.1.toNat) 7).2.2))
  else (fd0, 0, 2)
/-- all fields of a section -/
def linesR (t : Tb) (need : Int) : Nat → List Int → List Fld → List Fld × Int
  | 0, b, out => if b = [] then (out, 0) else ([], 1)
  | n + 1, b, out => if b = [] then (out, 0) else if 8 ≤ out.length then ([], 1) else if (lineR t need b).2.2 ≠ 0 then ([], (lineR t need b).2.2) else linesR t need n (b.drop (lineR t need b).2.1.toNat) (out ++ [(lineR t need b).1])
/-- what Decode says, by P15.4 -/
def decFl (t : Tb) (b : List Int) : List Fld × Int :=
  if faultTb t ≠ 0 then ([], faultTb t) else if (pxR b 8).2.2 ≠ 0 then ([], (pxR b 8).2.2) else if t.put < (pxR b 8).1 then ([], 14)
  else if (linesR t (pxR b 8).1 9 (b.drop (pxR b 8).2.1.toNat) []).2 ≠ 0 then ([], (linesR t (pxR b 8).1 9 (b.drop (pxR b 8).2.1.toNat) []).2)
  else if faultFl (linesR t (pxR b 8).1 9 (b.drop (pxR b 8).2.1.toNat) []).1 ≠ 0 then ([], faultFl (linesR t (pxR b 8).1 9 (b.drop (pxR b 8).2.1.toNat) []).1) else linesR t (pxR b 8).1 9 (b.drop (pxR b 8).2.1.toNat) []
end Go.Proofs.YtfoagelemjdglaaDoor.P
