/- Several texts in one. -/
import Derived.Test.YtgfbonfoimiknaaRngChk
import Derived.Deep.LoopGhost
import Derived.Test.YtgfbonfoimiknaaGrpC
import Derived.Test.YtgfbonfoimiknaaGrpB
import Derived.Test.YtgfbonfoimiknaaGrpA
import Derived.Test.YtgfbonfoimiknaaBlk
/- The exact texts' 'sameRanges': two rows that read the same are the same. -/
namespace Go.Proofs.Ytgfbonfoimiknaa
set_option linter.unusedVariables false
open Go.RowKit P

theorem lsame_any (A A' : Option Addr) (len cap cap' : Nat) (ps : List (Int × Int)) (w : World) (h : RRow w w.heap.size A ps) (h' : RRow w w.heap.size A' ps) (hl : ps.length = len) (hm : len ≤ 9223372036854775807) :
    Calls Try.prog 30 #[.slice A len cap, .slice A' len cap'] w fun e w' => e = .returned (.bool true) ∧ Below w.heap.size w w' := by
  have HR := Lib.hid h
  have HR' := Lib.hid h'
  have HL := Lib.hid hl
  clear h h' hl
  go_enter Try.func30, Try.ntmps30
  go_wp2
  go_loopg [5, 6] len (fun g ov i wr => ∃ k : Nat, k + g = len ∧ i = .int .i64 k ∧ ov = .bool true ∧ Below w.heap.size w wr)
  case atStart => exact ⟨0, by omega, rfl, rfl, Below.refl _ _⟩
  case round =>
    obtain ⟨k, hk, rfl, rfl, hb⟩ := hrel
    have HB := Lib.hid hb
    clear hb
    by_cases hlt : k < len
    · obtain ⟨b, off, rfl, hbb, hc⟩ := (HR.out.below HB.out) (by rw [HL.out]; omega)
      obtain ⟨c0, c1⟩ := hc k (by rw [HL.out]; omega)
      obtain ⟨b', off', rfl, hbb', hc'⟩ := (HR'.out.below HB.out) (by rw [HL.out]; omega)
      obtain ⟨c2, c3⟩ := hc' k (by rw [HL.out]; omega)
      obtain ⟨⟨lo, hi⟩, hp⟩ : ∃ p, ps.getD k (0, 0) = p := ⟨_, rfl⟩
      rw [hp] at c0 c1 c2 c3
      simp only at c0 c1 c2 c3
      have d0 := Ext.cell c0
      have d1 := Ext.cell c1
      have d2 := Ext.cell c2
      have d3 := Ext.cell c3
      have i0 : (0 : Int) ≤ (k : Int) := by omega
      have i1 : (k : Int) < (len : Int) := by omega
      clear hc hc' hp
      go_wp2
      refine wp_region_ext (by kernel_rfl) (by kernel_rfl) ?_
      repeat (go_big_quiet_step (fail))
      refine wpQuiet_nil ?_
      intro w1 hb1
      have HB1 := Lib.hid (HB.out.trans (hb1.mono HB.out.size))
      clear hb1 c0 c1 c2 c3 d0 d1 d2 d3
      go_wp2
      go_roundg (gk - 1)
      case measure => omega
      case rel => exact ⟨k + 1, by omega, by go_num, rfl, HB1.out⟩
    · go_wp2
      go_ret
      exact ⟨rfl, HB.out⟩
end Go.Proofs.Ytgfbonfoimiknaa
/- The verifier's texts' test that two rows of bytes are the same. -/
namespace Go.Proofs.Ytgfbonfoimiknaa
set_option linter.unusedVariables false
open Go.RowKit P

theorem sameBytes_eq (w : World) (B B' n c n' c' : Nat) (A A' : Option Addr) (zs : List Int) (h : BRow w B A zs) (h' : BRow w B' A' zs) (hn : zs.length = n) (hn' : zs.length = n') :
    Calls Try.prog 138 #[.slice A n c, .slice A' n' c'] w fun e w' => e = .returned (.bool true) ∧ w = w' := by
  have c1 := run_str (P := Try.prog) h hn 23 9 5 c Try.underlying23 Try.underlying5 Try.underlying9
  have c2 := run_str (P := Try.prog) h' hn' 23 9 5 c' Try.underlying23 Try.underlying5 Try.underlying9
  clear h h' hn hn'
  go_enter Try.func138, Try.ntmps138
  go_wp2
  go_ret
  exact ⟨rfl, rfl⟩

end Go.Proofs.Ytgfbonfoimiknaa
/- The exact texts' 'sameFrame': two frames that read the same are the same. -/
namespace Go.Proofs.Ytgfbonfoimiknaa
set_option linter.unusedVariables false
open Go.RowKit P

set_option maxHeartbeats 1000000 in
theorem lsameFr_eq (v v' : Value) (f : Fr) (w : World) (h : FrVal w w.heap.size v f) (h' : FrVal w w.heap.size v' f) :
    Calls Try.prog 110 #[v, v'] w fun e w' => e = .returned (.bool true) ∧ Below w.heap.size w w' := by
  obtain ⟨r, d, rfl, hr, hd⟩ := h.ex
  obtain ⟨Ar, cr, hr1, hrc, hrm, hrr⟩ := hr.ex
  subst hr1
  obtain ⟨Ad, cd, hd1, hdc, hdm, hdn, hdr⟩ := hd.ex
  subst hd1
  obtain ⟨r', d', rfl, hr', hd'⟩ := h'.ex
  obtain ⟨Ar', cr', hr1', hrc', hrm', hrr'⟩ := hr'.ex
  subst hr1'
  obtain ⟨Ad', cd', hd1', hdc', hdm', hdn', hdr'⟩ := hd'.ex
  subst hd1'
  have HW := Lib.hid (((Below.refl w.heap.size w).alloc (Nat.le_refl _) (.cells #[.int .i64 f.kind, .int .i64 f.id, .int .i64 f.off, .bool f.fin, .int .i64 f.code, .slice Ar f.rs.length cr, .slice Ad f.data.length cd] 35)).alloc (by simp) (.cells #[.int .i64 f.kind, .int .i64 f.id, .int .i64 f.off, .bool f.fin, .int .i64 f.code, .slice Ar' f.rs.length cr', .slice Ad' f.data.length cd'] 35))
  have F0 := Lib.hid (show ((w.alloc (.cells #[.int .i64 f.kind, .int .i64 f.id, .int .i64 f.off, .bool f.fin, .int .i64 f.code, .slice Ar f.rs.length cr, .slice Ad f.data.length cd] 35)).alloc (.cells #[.int .i64 f.kind, .int .i64 f.id, .int .i64 f.off, .bool f.fin, .int .i64 f.code, .slice Ar' f.rs.length cr', .slice Ad' f.data.length cd'] 35)).heap[w.heap.size]? = some (.cells #[.int .i64 f.kind, .int .i64 f.id, .int .i64 f.off, .bool f.fin, .int .i64 f.code, .slice Ar f.rs.length cr, .slice Ad f.data.length cd] 35 (0, 0)) from (Below.heap_alloc _ _ _ (by simp)).trans (heap_alloc_new w _))
  have F1 := Lib.hid (show ((w.alloc (.cells #[.int .i64 f.kind, .int .i64 f.id, .int .i64 f.off, .bool f.fin, .int .i64 f.code, .slice Ar f.rs.length cr, .slice Ad f.data.length cd] 35)).alloc (.cells #[.int .i64 f.kind, .int .i64 f.id, .int .i64 f.off, .bool f.fin, .int .i64 f.code, .slice Ar' f.rs.length cr', .slice Ad' f.data.length cd'] 35)).heap[w.heap.size + 1]? = some (.cells #[.int .i64 f.kind, .int .i64 f.id, .int .i64 f.off, .bool f.fin, .int .i64 f.code, .slice Ar' f.rs.length cr', .slice Ad' f.data.length cd'] 35 (0, 0)) by have := heap_alloc_new (w.alloc (.cells #[.int .i64 f.kind, .int .i64 f.id, .int .i64 f.off, .bool f.fin, .int .i64 f.code, .slice Ar f.rs.length cr, .slice Ad f.data.length cd] 35)) (.cells #[.int .i64 f.kind, .int .i64 f.id, .int .i64 f.off, .bool f.fin, .int .i64 f.code, .slice Ar' f.rs.length cr', .slice Ad' f.data.length cd'] 35); simpa using this)
  have R0 := Lib.hid (hrr.on HW.out)
  have R1 := Lib.hid (hrr'.on HW.out)
  have D0 := Lib.hid (hdr.on HW.out)
  have D1 := Lib.hid (hdr'.on HW.out)
  clear h h' hr hd hr' hd' hrr hrr' hdr hdr' hdn hdn'
  obtain ⟨c0, c1, c2, c3, c4, c5, c6, _⟩ := blk7 F0.out
  obtain ⟨x0, x1, x2, x3, x4, x5, x6, _⟩ := blk7 F1.out
  obtain ⟨k, id, off, fin, code, rs, data⟩ := f
  simp only at *
  go_enter Try.func110, Try.ntmps110
  go_wp2_with (first
    | (go_at_call 138; have g := B1.out; refine (sameBytes_eq _ _ _ _ _ _ _ _ _ data E0.out E1.out rfl rfl).mono ?_; rintro e w' ⟨rfl, rfl⟩)
    | (go_at_call 30; refine (lsame_any _ _ _ _ _ _ _ R0.out R1.out rfl (by unfold maxLen at hrm; omega)).mono ?_; rintro e w1 ⟨rfl, b1⟩; have B1 := Lib.hid b1; have E0 := Lib.hid (D0.out.on b1); have E1 := Lib.hid (D1.out.on b1); clear c0 c1 c2 c3 c4 c5 c6 x0 x1 x2 x3 x4 x5 x6; have c6 := (blk7 ((b1.block _ (lt_of_block F0.out)).trans F0.out)).2.2.2.2.2.2.1; have x6 := (blk7 ((b1.block _ (lt_of_block F1.out)).trans F1.out)).2.2.2.2.2.2.1; clear b1))
  go_ret
  exact ⟨by simp, HW.out.trans (B1.out.mono HW.out.size)⟩
end Go.Proofs.Ytgfbonfoimiknaa
