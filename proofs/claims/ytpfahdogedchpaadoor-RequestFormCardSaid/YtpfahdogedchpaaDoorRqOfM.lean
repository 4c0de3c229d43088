/- The statements' own requestOf: what it makes. Plain mathematics. -/
import Derived.Test.YtpfahdogedchpaaDoorGrpZa
import Derived.Test.YtpfahdogedchpaaDoorTabFo
namespace Go.Proofs.YtpfahdogedchpaaDoor.P
set_option linter.unusedVariables false
/-- the fields that requestOf makes of a text and raw things -/
def rqFs (s : ByteArray) (rs : List RawT) : List Fld := ⟨nmM, [71, 69, 84]⟩ :: ⟨nmP, 47 :: (numsOf s).take 9⟩ :: (rs.take 5).map fldOf
theorem rqFs_len (s : ByteArray) (rs : List RawT) : (rqFs s rs).length = min 5 rs.length + 2 := by unfold rqFs; simp
theorem rqFs_in {s : ByteArray} {rs : List RawT} {f : Fld} (h : f ∈ rqFs s rs) : f = ⟨nmM, [71, 69, 84]⟩ ∨ f = ⟨nmP, 47 :: (numsOf s).take 9⟩ ∨ ∃ r, f = fldOf r := by
  unfold rqFs at h
  rcases List.mem_cons.1 h with e | h
  · exact .inl e
  · rcases List.mem_cons.1 h with e | h
    · exact .inr (.inl e)
    · obtain ⟨r, _, rfl⟩ := List.mem_map.1 h
      exact .inr (.inr ⟨r, rfl⟩)
theorem rqFs_ok {s : ByteArray} {rs : List RawT} {f : Fld} (h : f ∈ rqFs s rs) : okFd f ∧ FdWf f ∧ badN f.name = false ∧ f.name.length ≤ 7 ∧ f.val.length ≤ 11 := by
  rcases rqFs_in h with rfl | rfl | ⟨r, rfl⟩
  · exact ⟨by decide, ⟨byt_all (by decide), byt_all (by decide), by decide, by decide⟩, by decide, by decide, by decide⟩
  · have hl : ((47 : Int) :: (numsOf s).take 9).length ≤ 10 := by rw [List.length_cons, List.length_take]; omega
    have p1 : 1 ≤ nmP.length ∧ nmP.length ≤ 7 := by decide
    have p2 : badN nmP = false := by decide
    have p3 : Byt nmP := byt_all (by decide)
    refine ⟨⟨p1.1, by dsimp only; omega, by dsimp only; omega⟩, ⟨p3, ?_, by dsimp only; omega, by dsimp only; omega⟩, p2, p1.2, by dsimp only; omega⟩
    exact Byt.append (xs := [47]) (byt_all (by decide)) ((numsOf_byt s).take 9)
  · have h1 := fldOf_ok r
    have h2 : ((numsOf r.text).take (r.b % 12).toNat).length ≤ 11 := by rw [List.length_take]; omega
    have h3 := nm_len (r.a % 5).toNat
    have h4 : ∀ j, badN (nmL j) = false := fun j => by unfold nmL; split <;> decide
    refine ⟨h1.1, h1.2, h4 _, ?_, h2⟩
    show (nmL (r.a % 5).toNat).length ≤ 7
    omega
theorem fldOf_other (r : RawT) : isOwnF (fldOf r) = false := by
  have h : ∀ j, (nmL j).getD 0 0 ≠ 58 := fun j => by unfold nmL; split <;> decide
  unfold isOwnF fldOf
  simpa using h (r.a % 5).toNat
theorem rqFs_faultFl (s : ByteArray) (rs : List RawT) : faultFl (rqFs s rs) = 0 := by
  unfold faultFl
  rw [if_neg (by rw [rqFs_len]; omega), if_pos (fun f hf => (rqFs_ok hf).1)]
theorem others_drop (l : List RawT) : (l.map fldOf).dropWhile isOwnF = l.map fldOf ∧ (l.map fldOf).takeWhile isOwnF = [] := by
  cases l with
  | nil => exact ⟨rfl, rfl⟩
  | cons x l => simp [fldOf_other]
theorem rqFs_ok2 (s : ByteArray) (rs : List RawT) : okRq (rqFs s rs) := by
  have o1 : isOwnF ⟨nmM, [71, 69, 84]⟩ = true := by decide
  have o2 : isOwnF ⟨nmP, 47 :: (numsOf s).take 9⟩ = true := by show decide (nmP.getD 0 0 = 58) = true; decide
  have hd : (rqFs s rs).dropWhile isOwnF = (rs.take 5).map fldOf := by
    unfold rqFs
    rw [List.dropWhile_cons, if_pos o1, List.dropWhile_cons, if_pos o2, (others_drop _).1]
  have ht : (rqFs s rs).takeWhile isOwnF = [⟨nmM, [71, 69, 84]⟩, ⟨nmP, 47 :: (numsOf s).take 9⟩] := by
    unfold rqFs
    rw [List.takeWhile_cons, if_pos o1, List.takeWhile_cons, if_pos o2, (others_drop _).2]
  refine ⟨fun f hf => (rqFs_ok hf).2.2.1, ?_, ?_⟩
  · rw [hd]
    intro f hf
    obtain ⟨r, _, rfl⟩ := List.mem_map.1 hf
    exact fldOf_other r
  · rw [ht]
    unfold okOwn cntN
    have e1 : decide (nmP = nmM) = false := by decide
    have e2 : decide (nmM = nmP) = false := by decide
    have e3 : decide (nmP = nmA) = false := by decide
    have e4 : decide (nmM = nmA) = false := by decide
    simp [e1, e2, e3, e4]
theorem rqFs_fault (s : ByteArray) (rs : List RawT) : faultRq (rqFs s rs) = 0 := faultRq_iff.2 ⟨rqFs_faultFl s rs, rqFs_ok2 s rs⟩
end Go.Proofs.YtpfahdogedchpaaDoor.P
