/- The document's answers on senders: overlap. -/
import Derived.Test.YtkpkgegonfcgnaaRows
import Derived.Test.YtkpkgegonfcgnaaSnVal
import Derived.Test.YtkpkgegonfcgnaaMem
import Derived.Below
import Derived.StillTailTactics
import Derived.Deep.LoopGhost
namespace Go.Proofs.Ytkpkgegonfcgnaa
set_option linter.unusedVariables false
open Go.RowKit P

theorem any_snoc {α : Type} (l : List α) (d : α) (k : Nat) (h : k < l.length) (p : α → Bool) : (l.take (k + 1)).any p = ((l.take k).any p || p (l.getD k d)) := by
  rw [List.take_succ_eq_append_getElem h, List.any_append, List.getD_eq_getElem?_getD, List.getElem?_eq_getElem h]
  simp
theorem any_yes {α : Type} (l : List α) (d : α) (k : Nat) (h : k < l.length) (p : α → Bool) (hp : p (l.getD k d) = true) : l.any p = true := by
  rw [List.getD_eq_getElem?_getD, List.getElem?_eq_getElem h] at hp
  exact List.any_eq_true.2 ⟨_, List.getElem_mem h, hp⟩
theorem retB {a b : Bool} (h : a = b) : Ending.returned (.bool a) = .returned (.bool b) := by rw [h]
def BoolPost (b : Bool) (w : World) (e : Ending) (w' : World) : Prop := e = .returned (.bool b) ∧ Below w.heap.size w w'
set_option maxHeartbeats 1000000 in
theorem overlap_any (A A2 : Option Addr) (len cap len2 cap2 : Nat) (ps qs : List (Int × Int)) (w : World) (h : RRow w w.heap.size A ps) (hl : ps.length = len) (hm : len ≤ 9223372036854775807) (h2 : RRow w w.heap.size A2 qs) (hl2 : qs.length = len2) (hm2 : len2 ≤ 9223372036854775807) :
    Calls Try.prog 39 #[.slice A len cap, .slice A2 len2 cap2] w (BoolPost (lapL ps qs) w) := by
  have HR := Lib.hid h
  have HL := Lib.hid hl
  have HR2 := Lib.hid h2
  have HL2 := Lib.hid hl2
  clear h hl h2 hl2
  go_enter Try.func39, Try.ntmps39
  go_wp2
  go_loopg [11] len (fun g i wr => ∃ (k : Nat), k + g = len ∧ i = .int .i64 k ∧ Hid ((ps.take k).any (fun x => qs.any fun y => lapR x y) = false) ∧ Hid (Below w.heap.size w wr))
  case atStart => exact ⟨0, by omega, rfl, rfl, Below.refl _ _⟩
  case round =>
    obtain ⟨k, hk, rfl, HO, HB⟩ := hrel
    by_cases hlt : k < len
    · obtain ⟨b, off, rfl, hbb, hc⟩ := (HR.out.below HB.out) (by rw [HL.out]; omega)
      obtain ⟨c0, c1⟩ := hc k (by rw [HL.out]; omega)
      have HS := Lib.hid (any_snoc ps (0, 0) k (by rw [HL.out]; omega) (fun x => qs.any fun y => lapR x y))
      have HY := Lib.hid (any_yes ps (0, 0) k (by rw [HL.out]; omega) (fun x => qs.any fun y => lapR x y))
      obtain ⟨⟨lo, hi⟩, hp⟩ : ∃ p, ps.getD k (0, 0) = p := ⟨_, rfl⟩
      rw [hp] at c0 c1 HS HY
      rw [HO.out, Bool.false_or] at HS
      simp only at c0 c1
      clear hc hp
      have hkl : (k : Int) < (len : Int) := by omega
      obtain ⟨wq, hwq⟩ : ∃ q, q = wr := ⟨_, rfl⟩
      subst hwq
      obtain ⟨qk, hqk⟩ : ∃ q, q = gk := ⟨_, rfl⟩
      subst hqk
      have BX := Lib.hid (HB.out.alloc HB.out.size (.cells #[.int .i64 lo, .int .i64 hi] 61))
      have FX := Lib.hid (heap_alloc_new wq (.cells #[.int .i64 lo, .int .i64 hi] 61))
      have hq := HB.out.size
      go_wp2
      go_loopg [17] len2 (fun g i wr => ∃ (m : Nat), m + g = len2 ∧ i = .int .i64 m ∧ Hid ((qs.take m).any (fun y => lapR (lo, hi) y) = false) ∧ Hid (Below w.heap.size w wr) ∧ Hid (wr.heap[wq.heap.size]? = some (.cells #[.int .i64 lo, .int .i64 hi] 61 (0, 0))))
      case atStart => exact ⟨0, by omega, rfl, rfl, BX, FX⟩
      case round =>
        obtain ⟨m, hmk, rfl, HO2, HB2, F2⟩ := hrel
        by_cases hlt2 : m < len2
        · obtain ⟨b2, off2, rfl, hbb2, hc2⟩ := (HR2.out.below HB2.out) (by rw [HL2.out]; omega)
          obtain ⟨e0, e1⟩ := hc2 m (by rw [HL2.out]; omega)
          have HS2 := Lib.hid (any_snoc qs (0, 0) m (by rw [HL2.out]; omega) (fun y => lapR (lo, hi) y))
          have HY2 := Lib.hid (any_yes qs (0, 0) m (by rw [HL2.out]; omega) (fun y => lapR (lo, hi) y))
          obtain ⟨⟨a, z⟩, hp⟩ : ∃ p, qs.getD m (0, 0) = p := ⟨_, rfl⟩
          rw [hp] at e0 e1 HS2 HY2
          rw [HO2.out, Bool.false_or] at HS2
          simp only at e0 e1
          clear hc2 hp
          have hml : (m : Int) < (len2 : Int) := by omega
          have f0 := bk_cell F2.out 0
          have f1 := bk_cell F2.out 1
          simp only [List.getElem?_toArray, List.getElem?_cons_zero, List.getElem?_cons_succ] at f0 f1
          have BY := Lib.hid (HB2.out.alloc HB2.out.size (.cells #[.int .i64 a, .int .i64 z] 61))
          have FY := Lib.hid ((Below.heap_alloc _ (.cells #[.int .i64 a, .int .i64 z] 61) _ (lt_of_block F2.out)).trans F2.out)
          have hne := lt_of_block F2.out
          obtain ⟨mx, hmx⟩ : ∃ x, max lo a = x := ⟨_, rfl⟩
          obtain ⟨mn, hmn⟩ : ∃ x, min hi z = x := ⟨_, rfl⟩
          have e1x : (if lo < a then a else lo) = mx := by split <;> omega
          have e1n : (if z < hi then z else hi) = mn := by split <;> omega
          have hlap : lapR (lo, hi) (a, z) = decide (mx ≤ mn) := by unfold lapR; rw [← hmx, ← hmn]
          rw [hlap] at HS2 HY2
          clear hmx hmn hlap
          by_cases hx : mx ≤ mn
          · have H1 : Hid (lapL ps qs = true) := Lib.hid (HY.out (HY2.out (decide_eq_true hx)))
            go_wp2
            go_ret
            exact ⟨retB H1.out.symm, BY.out⟩
          · have H1 := Lib.hid (HS2.out.trans (decide_eq_false hx))
            go_wp2
            go_roundg (gk - 1)
            case measure => omega
            case rel => exact ⟨m + 1, by omega, by first | rfl | go_num, H1, BY, FY⟩
        · obtain rfl : m = len2 := by omega
          have H1 := Lib.hid (HS.out.trans (show (qs.any fun y => lapR (lo, hi) y) = false by have := HO2.out; rwa [List.take_of_length_le (by rw [HL2.out]; exact Nat.le_refl _)] at this))
          go_wp2
          go_roundg (qk - 1)
          case measure => omega
          case rel => exact ⟨k + 1, by omega, by first | rfl | go_num, H1, HB2⟩
    · have H1 : Hid (lapL ps qs = false) := Lib.hid (by have := HO.out; rwa [List.take_of_length_le (by rw [HL.out]; omega)] at this)
      go_wp2
      go_ret
      exact ⟨retB H1.out.symm, HB.out⟩
end Go.Proofs.Ytkpkgegonfcgnaa
