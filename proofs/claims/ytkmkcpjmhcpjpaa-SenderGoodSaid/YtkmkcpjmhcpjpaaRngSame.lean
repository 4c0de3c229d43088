/- The verifier's texts' 'sameRanges': two rows that read the same are the same. -/
import Derived.Test.YtkmkcpjmhcpjpaaRngChk
import Derived.Deep.LoopGhost
namespace Go.Proofs.Ytkmkcpjmhcpjpaa
set_option linter.unusedVariables false
open Go.RowKit P

theorem same_any (A A' : Option Addr) (len cap cap' : Nat) (ps : List (Int × Int)) (w : World) (h : RRow w w.heap.size A ps) (h' : RRow w w.heap.size A' ps) (hl : ps.length = len) (hm : len ≤ 9223372036854775807) :
    Calls Try.prog 63 #[.slice A len cap, .slice A' len cap'] w fun e w' => e = .returned (.bool true) ∧ Below w.heap.size w w' := by
  have HR := Lib.hid h
  have HR' := Lib.hid h'
  have HL := Lib.hid hl
  clear h h' hl
  go_enter Try.func63, Try.ntmps63
  go_wp2
  go_loopg [5, 6] len (fun g ov i wr => ∃ k : Nat, k + g = len ∧ i = .int .i64 k ∧ ov = .bool true ∧ Below w.heap.size w wr)
  case atStart => exact ⟨0, by omega, rfl, rfl, Below.refl _ _⟩
  case round =>
    obtain ⟨k, hk, rfl, rfl, hb⟩ := hrel
    have HB := Lib.hid hb
    clear hb
    by_cases hlt : k < len
    · obtain ⟨b, off, rfl, hbb, hc⟩ := (HR.out.below HB.out) (by rw [HL.out]; omega)
      obtain ⟨c0, c1⟩ := hc k (by rw [HL.out]; omega)
      obtain ⟨b', off', rfl, hbb', hc'⟩ := (HR'.out.below HB.out) (by rw [HL.out]; omega)
      obtain ⟨c2, c3⟩ := hc' k (by rw [HL.out]; omega)
      obtain ⟨⟨lo, hi⟩, hp⟩ : ∃ p, ps.getD k (0, 0) = p := ⟨_, rfl⟩
      rw [hp] at c0 c1 c2 c3
      simp only at c0 c1 c2 c3
      have d0 := Ext.cell c0
      have d1 := Ext.cell c1
      have d2 := Ext.cell c2
      have d3 := Ext.cell c3
      have i0 : (0 : Int) ≤ (k : Int) := by omega
      have i1 : (k : Int) < (len : Int) := by omega
      clear hc hc' hp
      go_wp2
      refine wp_region_ext (by kernel_rfl) (by kernel_rfl) ?_
      repeat (go_big_quiet_step (fail))
      refine wpQuiet_nil ?_
      intro w1 hb1
      have HB1 := Lib.hid (HB.out.trans (hb1.mono HB.out.size))
      clear hb1 c0 c1 c2 c3 d0 d1 d2 d3
      go_wp2
      go_roundg (gk - 1)
      case measure => omega
      case rel => exact ⟨k + 1, by omega, by go_num, rfl, HB1.out⟩
    · go_wp2
      go_ret
      exact ⟨rfl, HB.out⟩
end Go.Proofs.Ytkmkcpjmhcpjpaa
