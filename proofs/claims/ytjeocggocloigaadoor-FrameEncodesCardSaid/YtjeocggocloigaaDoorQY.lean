/- Texts of the proofs, joined. -/
import Derived.Test.YtjeocggocloigaaDoorQA
/- A frame's bytes, as the document's answer lays them: ranges first, then the parts. Nothing of the program's. -/
namespace Go.Proofs.YtjeocggocloigaaDoor.P
set_option linter.unusedVariables false

/-- what the first k ranges give -/
def preR (rs : List (Int × Int)) : Nat → List Int
  | 0 => []
  | 1 => enc (rs.getD 0 (0, 0)).2 ++ (enc ((rs.length : Int) - 1) ++ enc ((rs.getD 0 (0, 0)).2 - (rs.getD 0 (0, 0)).1))
  | k + 2 => preR rs (k + 1) ++ (enc ((rs.getD k (0, 0)).1 - (rs.getD (k + 1) (0, 0)).2 - 2) ++ enc ((rs.getD (k + 1) (0, 0)).2 - (rs.getD (k + 1) (0, 0)).1))
theorem drop_get (l : List (Int × Int)) (k : Nat) (h : k < l.length) : l.drop k = l.getD k (0, 0) :: l.drop (k + 1) := by
  rw [List.drop_eq_getElem_cons h, List.getD_eq_getElem?_getD, List.getElem?_eq_getElem h]; rfl
theorem preR_enc (rs : List (Int × Int)) : ∀ k, k + 1 ≤ rs.length → encR rs = preR rs (k + 1) ++ encT (rs.getD k (0, 0)).1 (rs.drop (k + 1))
  | 0, h => by
    have e := drop_get rs 0 h
    rw [List.drop_zero] at e
    have e2 : ((rs.drop (0 + 1)).length : Int) = (rs.length : Int) - 1 := by rw [List.length_drop]; omega
    conv => lhs; rw [e]
    simp only [encR, preR, List.append_assoc]
    rw [e2]
  | k + 1, h => by
    rw [preR_enc rs k (by omega), drop_get rs (k + 1) h]
    simp only [encT, preR, List.append_assoc]
theorem preR_len (rs : List (Int × Int)) (h : 0 < rs.length) : preR rs rs.length = encR rs := by
  obtain ⟨n, hn⟩ : ∃ n, rs.length = n + 1 := ⟨rs.length - 1, by omega⟩
  have := preR_enc rs n (by omega)
  rw [List.drop_of_length_le (by omega)] at this
  rw [hn, this]
  simp [encT]

/-- what a part gives behind the ranges -/
def encQ (f : Fr) (c : Int) : List Int := if c = 114 then [] else encP f c
def encQs (f : Fr) : List Int → List Int
  | [] => []
  | c :: cs => encQ f c ++ encQs f cs
theorem encQs_snoc (f : Fr) (c : Int) : ∀ xs, encQs f (xs ++ [c]) = encQs f xs ++ encQ f c
  | [] => by simp [encQs]
  | x :: xs => by rw [List.cons_append]; simp only [encQs]; rw [encQs_snoc f c xs, List.append_assoc]
theorem encQs_take (f : Fr) (s : List Int) (k : Nat) (h : k < s.length) : encQs f (s.take (k + 1)) = encQs f (s.take k) ++ encQ f (s.getD k 0) := by
  rw [take_snoc s k h, encQs_snoc]
theorem encQs_of (f : Fr) : ∀ s : List Int, 114 ∉ s → encQs f s = encPs f s
  | [], _ => rfl
  | c :: cs, h => by
    have h1 : c ≠ 114 := fun e => h (by rw [e]; exact List.mem_cons_self ..)
    simp only [encQs, encPs]
    rw [encQs_of f cs (fun e => h (List.mem_cons_of_mem _ e)), encQ, if_neg h1]
theorem text_all {f : Fr} {s : List Int} (ok : OkF f s) : markF f ++ preR f.rs f.rs.length ++ encQs f s = frT f := by
  have hp := ok.parts
  have e : frT f = markF f ++ encPs f s := by unfold frT; rw [hp]; rfl
  rw [e, List.append_assoc]
  congr 1
  by_cases h : 114 ∈ s
  · have hs : s = [114] := by
      rcases parts_cases hp with ⟨rfl, _⟩ | ⟨rfl, _⟩ | ⟨rfl, _⟩ | ⟨rfl, _⟩ | ⟨rfl, _⟩ | ⟨rfl, _⟩ | ⟨rfl, _⟩ | ⟨rfl, _⟩ | ⟨rfl, _⟩ | ⟨rfl, _⟩ | ⟨rfl, _⟩ <;> first | rfl | (exfalso; revert h; decide)
    rw [preR_len _ (ok.rsy h)]
    subst hs
    simp [encQs, encQ, encPs, encP]
  · have hr : f.rs = [] := ok.rsn h
    rw [hr, encQs_of f s h]
    simp [preR]
end Go.Proofs.YtjeocggocloigaaDoor.P
