/- Contract of package ranges: Note. -/
import Derived.Test.YtnccibaifffhhaaRngCut
import Derived.Deep.RegionHeld3
namespace Go.Proofs.Ytnccibaifffhhaa
set_option linter.unusedVariables false
open Go.RowKit P

/-- the last six of a set, with a number -/
def noteL (ps : List (Int × Int)) (n : Int) : List (Int × Int) := (insR (n, n) ps).drop ((insR (n, n) ps).length - 6)
def NotePost (ps : List (Int × Int)) (n : Int) (w : World) (e : Ending) (w' : World) : Prop :=
  ∃ A c, e = .returned (.tuple #[.slice A (noteL ps n).length c, .bool (!hasB ps n), .int .i64 0]) ∧ (noteL ps n).length ≤ c ∧ c ≤ maxLen ∧ RRow w' w'.heap.size A (noteL ps n) ∧ Below w.heap.size w w'
def Fault3Post (v : Int) (w : World) (e : Ending) (w' : World) : Prop := e = .returned (.tuple #[.slice none 0 0, .bool false, .int .i64 v]) ∧ Below w.heap.size w w'

theorem note_bad (A : Option Addr) (len cap : Nat) (ps : List (Int × Int)) (n : Int) (w : World) (h : RRow w w.heap.size A ps) (hl : ps.length = len) (hc : rfV ps (n, n) = 3 ∨ rfV ps (n, n) = 6) (hm : len ≤ 9223372036854775807) :
    Calls Try.prog 55 #[.slice A len cap, .int .i64 n] w (Fault3Post (rfV ps (n, n)) w) := by
  have HW := Lib.hid ((Below.refl w.heap.size w).alloc (Nat.le_refl _) (.cells #[.int .i64 n, .int .i64 n] 63))
  have HR := Lib.hid (h.on HW.out)
  have HL := Lib.hid hl
  clear h hl
  rcases hc with hc | hc
  all_goals
    have c0 := Lib.hid hc
    clear hc
    go_enter Try.func55, Try.ntmps55
    go_wp2_with (first
      | (go_at_call 58; refine (refuse_any _ _ _ _ _ _ _ HR.out HL.out (by omega)).mono ?_; rintro e w1 ⟨rfl, hb1⟩; have HB1 := Lib.hid hb1; clear hb1; rw [c0.out]))
    go_ret3
    exact ⟨by rw [c0.out]; rfl, HW.out.trans (HB1.out.mono HW.out.size)⟩

theorem note_any (A : Option Addr) (len cap : Nat) (ps : List (Int × Int)) (n : Int) (w : World) (h : RRow w w.heap.size A ps) (hl : ps.length = len) (hok : okL ps) (hr : okR (n, n)) (hm : (len + 1) * 16 ≤ 140737488355328) (hcap : len ≤ cap) (hcm : cap ≤ maxLen) :
    Calls Try.prog 55 #[.slice A len cap, .int .i64 n] w (NotePost ps n w) := by
  have HW := Lib.hid ((Below.refl w.heap.size w).alloc (Nat.le_refl _) (.cells #[.int .i64 n, .int .i64 n] 63))
  have HR := Lib.hid (h.on HW.out)
  have HR0 := Lib.hid h
  have HL := Lib.hid hl
  have HO := Lib.hid hok
  have HK := Lib.hid hr
  have c0 := Lib.hid (rf_ok hok hr)
  have jl := ins_len (n, n) ps
  rw [hl] at jl
  have HN := Lib.hid (show noteL ps n = (insR (n, n) ps).drop ((insR (n, n) ps).length - 6) from rfl)
  obtain ⟨J, hJ⟩ : ∃ J, insR (n, n) ps = J := ⟨_, rfl⟩
  rw [hJ] at jl HN
  have HJ := Lib.hid hJ
  clear h hl hok hr hJ
  go_enter Try.func55, Try.ntmps55
  go_wp2_with (first
    | (go_at_call 58; refine (refuse_any _ _ _ _ _ _ _ HR.out HL.out (by omega)).mono ?_; rintro e w1 ⟨rfl, hb1⟩; have d0 := (hb1.cell (p := ⟨w.heap.size, 0, none⟩) (by simp)).trans (by simp : _ = some (.int .i64 n)); have d1 := (hb1.cell (p := ⟨w.heap.size, 1, none⟩) (by simp)).trans (by simp : _ = some (.int .i64 n)); have HB1 := Lib.hid hb1; clear hb1; rw [c0.out])
    | (go_at_call 60; refine (join_any _ _ _ _ _ _ _ (HR.out.on HB1.out) HL.out HO.out HK.out hm hcap hcm).mono ?_; rintro e w2 ⟨v2, rfl, o2, hb2⟩; rw [HJ.out] at o2; have HB2 := Lib.hid (HB1.out.trans (hb2.mono HB1.out.size)); clear hb2; obtain ⟨A2, c2, hv2, l2, m2, r2⟩ := o2.slice; subst hv2; have R2 := Lib.hid r2; clear o2 r2))
  have m3 := m2
  unfold maxLen at m3
  have HB3 := Lib.hid (HW.out.trans (HB2.out.mono HW.out.size))
  have HRW := Lib.hid (HR0.out.on HB3.out)
  by_cases hj : 6 < J.length
  · refine wp_region_ext (by kernel_rfl) (by kernel_rfl) ?_
    repeat (go_big_quiet_step ((go_at_call 74; exact Ext.call (has_any _ _ _ _ _ _ (HRW.out.on (Ext.h _)) HL.out HO.out (by omega)))))
    refine wpQuiet_nil ?_
    intro w3 hb3
    go_wp2
    go_ret3
    refine ⟨A2.map (·.add ((J.length - 6) * 2)), c2 - (J.length - 6), ?_, ?_, ?_, ?_, ?_⟩
    · rw [HN.out, List.length_drop]; rfl
    · rw [HN.out, List.length_drop]; omega
    · unfold maxLen at m2 ⊢; omega
    · rw [HN.out]
      have e := (R2.out.on hb3).cut (J.length - 6) c2 l2
      rw [if_neg (by omega)] at e
      exact e
    · exact HB3.out.trans (hb3.mono HB3.out.size)
  · refine wp_region_ext (by kernel_rfl) (by kernel_rfl) ?_
    repeat (go_big_quiet_step ((go_at_call 74; exact Ext.call (has_any _ _ _ _ _ _ (HRW.out.on (Ext.h _)) HL.out HO.out (by omega)))))
    refine wpQuiet_nil ?_
    intro w3 hb3
    go_wp2
    go_ret3
    have e0 : J.length - 6 = 0 := by omega
    rw [e0, List.drop_zero] at HN
    refine ⟨A2, c2, ?_, ?_, m2, ?_, ?_⟩
    · rw [HN.out]; rfl
    · rw [HN.out]; exact l2
    · rw [HN.out]; exact (R2.out.on hb3)
    · exact HB3.out.trans (hb3.mono HB3.out.size)
end Go.Proofs.Ytnccibaifffhhaa
