/- sort.Ints, as the document's answers call it, over a row of the call's own. -/
import Derived.Test.YtippenbfoaohoaaShelfI
import Derived.Test.YtippenbfoaohoaaSortIC
import Derived.Shelf.Sort.Plain
import Derived.Shelf.Slices.In.SortNone2
namespace Go.Proofs.Ytippenbfoaohoaa
set_option linter.unusedVariables false
open Go.Shelf Go.Proofs Go.RowKit

theorem sortInts_any : SortInts Try.prog 33 := fun base v ks w h hb hl => by
  have hqs : (ks.mergeSort fun x y => decide (x ≤ y)).length = ks.length := List.length_mergeSort _
  rcases h.2 with ⟨rfl, h0⟩ | ⟨g, cap, cur, rfl, hbg, hg, hnc, hcm, hsz, htk⟩
  · obtain rfl : ks = [] := List.length_eq_zero_iff.1 h0
    have hS := Any.sort_Ints_none slI none 0 w
    change Calls Try.prog 33 _ _ _ at hS
    refine hS.mono ?_
    rintro e w' ⟨rfl, rfl⟩
    exact ⟨rfl, by simpa using World.ownsRow_nil w' base 3 1, ⟨rfl, rfl, rfl, Nat.le_refl _, fun _ _ _ => rfl⟩⟩
  · have hH : Sort.Holds (Value.int .i64) w g 0 ks.toArray := fun j hj => by
      have hj' : j < ks.length := by simpa using hj
      refine ⟨?_, by simp [World.frozen?, hg]⟩
      have hc : cur[j]? = some (.int .i64 (ks.getD j 0)) := by
        have e1 : (cur.toList.take (ks.length * 1))[j]? = (ks.map (Value.int .i64))[j]? := by rw [htk]
        rw [List.getElem?_take, if_pos (by omega), List.getElem?_map, List.getElem?_eq_getElem hj'] at e1
        rw [List.getD_eq_getElem?_getD, List.getElem?_eq_getElem hj']
        simpa using e1
      have hget : (ks.toArray)[j]! = ks.getD j 0 := by
        rw [List.getD_eq_getElem?_getD]
        simp [List.getElem?_eq_getElem hj', Array.getElem!_eq_getD, Array.getD, hj']
      rw [hget]
      simp [World.cell?, hg, hc]
    have hlt := lt_of_block hg
    have hS := Any.sort_Ints slI g 0 cap ks w hH hlt (by omega)
    change Calls Try.prog 33 _ _ _ at hS
    refine hS.mono ?_
    rintro e w' ⟨rfl, n, os, rfl⟩
    obtain ⟨qs, hq⟩ : ∃ q, (ks.mergeSort fun x y => decide (x ≤ y)) = q := ⟨_, rfl⟩
    rw [hq] at hqs ⊢
    have hb1 : (Sort.grow (Sort.putRow (Value.int .i64) (Sort.ahead w n) g 0 qs.toArray) os).heap[g]? = some (.cells (Sort.putCells (Value.int .i64) 0 qs.toArray cur) 3 (0, 0)) := by
      rw [Sort.heap_grow_old _ os (by simpa using hlt)]
      simp only [Sort.putRow, Sort.mapBlock, Sort.ahead, Array.getElem?_modify, hg, if_true, Option.map_some]
      rfl
    refine ⟨rfl, ⟨by simp [hqs], .inr ⟨g, cap, _, rfl, hbg, hb1, hnc, hcm, by simpa [Sort.putCells] using hsz, ?_⟩⟩, ⟨rfl, rfl, rfl, by simp, fun k hk hne => ?_⟩⟩
    · apply List.ext_getElem?
      intro j
      rw [List.getElem?_take]
      by_cases hj : j < ks.length
      · have hjq : j < qs.length := by omega
        have hjc : j < cur.size := by omega
        rw [if_pos (by omega), List.getElem?_map, List.getElem?_eq_getElem hjq]
        simp only [Sort.putCells, Array.getElem?_toList, Array.getElem?_mapIdx, Array.getElem?_eq_getElem hjc, Option.map_some]
        rw [if_pos (by simp; omega)]
        simp [Array.getElem!_eq_getD, Array.getD, hjq]
      · rw [if_neg (by omega), List.getElem?_map, List.getElem?_eq_none (by omega)]
        rfl
    · rw [Sort.heap_grow_old _ os (by simpa using hk)]
      simp only [Sort.putRow, Sort.mapBlock, Sort.ahead, Array.getElem?_modify]
      rw [if_neg (fun e => hne (by simp [Value.ownBlock, e]))]
end Go.Proofs.Ytippenbfoaohoaa
