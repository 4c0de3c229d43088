/- Contract of bytes.Equal. -/
import Derived.Test.YtncbdcklemkmdaaOwnB
import Derived.Test.YtncbdcklemkmdaaStr
namespace Go.Proofs.Ytncbdcklemkmdaa
set_option linter.unusedVariables false
open Go.RowKit P

theorem strOf_inj {xs ys : List Int} (hx : Byt xs) (hy : Byt ys) (h : strOfNums xs = strOfNums ys) : xs = ys := by
  have hl : xs.length = ys.length := by rw [← strOfNums_size, ← strOfNums_size, h]
  refine List.ext_getElem hl fun i h1 h2 => ?_
  have a := str_get hx i (by rw [strOfNums_size]; exact h1)
  have b := str_get hy i (by rw [strOfNums_size]; exact h2)
  have e : ((strOfNums xs)[i]'(by rw [strOfNums_size]; exact h1)) = ((strOfNums ys)[i]'(by rw [strOfNums_size]; exact h2)) := by simp only [h]
  rw [e, b] at a
  rw [List.getD_eq_getElem?_getD, List.getElem?_eq_getElem h2, List.getD_eq_getElem?_getD, List.getElem?_eq_getElem h1] at a
  exact a.symm
theorem strOf_eqB {xs ys : List Int} (hx : Byt xs) (hy : Byt ys) : ((strOfNums xs).toList == (strOfNums ys).toList) = decide (xs = ys) := by
  by_cases h : xs = ys
  · subst h; simp
  · rw [decide_eq_false h]
    refine beq_eq_false_iff_ne.2 fun e => h (strOf_inj hx hy ?_)
    rw [Lib.toList_data, Lib.toList_data] at e
    exact ByteArray.ext (Array.toList_inj.1 e)
theorem bequal_any (v1 v2 : Value) (xs ys : List Int) (w : World) (h1 : BSl w w.heap.size v1 xs) (h2 : BSl w w.heap.size v2 ys) :
    Calls Try.prog 23 #[v1, v2] w fun e w' => e = .returned (.bool (decide (xs = ys))) ∧ w' = w := by
  obtain ⟨A1, c1, rfl, hc1, hm1, hn1, hr1⟩ := h1.ex
  obtain ⟨A2, c2, rfl, hc2, hm2, hn2, hr2⟩ := h2.ex
  have s1 := run_str (P := Try.prog) hr1 rfl 23 9 5 c1 Try.underlying23 Try.underlying5 Try.underlying9
  have s2 := run_str (P := Try.prog) hr2 rfl 23 9 5 c2 Try.underlying23 Try.underlying5 Try.underlying9
  have HX := Lib.hid hr1.1
  have HY := Lib.hid hr2.1
  clear hr1 hr2 h1 h2
  go_enter Try.func23, Try.ntmps23
  go_wp2_with fail
  go_ret
  exact ⟨by rw [strOf_eqB HX.out HY.out]; rfl, rfl⟩
end Go.Proofs.Ytncbdcklemkmdaa
