/- ranges.Note answers in new memory. -/
import Derived.Test.YtnccibaifffhhaaRngNote
import Derived.Test.YtnccibaifffhhaaGrpSj
namespace Go.Proofs.Ytnccibaifffhhaa
set_option linter.unusedVariables false
open Go.RowKit P

structure NoteU (ps : List (Int × Int)) (n : Int) (w : World) (e : Ending) (w' : World) : Prop where
  be : Below w.heap.size w w'
  ex : ∃ A c, e = .returned (.tuple #[.slice A (noteL ps n).length c, .bool (!hasB ps n), .int .i64 0]) ∧ (noteL ps n).length ≤ c ∧ c ≤ maxLen ∧ StS w' (fun j => j < w.heap.size) (fun w => RRow w w.heap.size A (noteL ps n))
theorem rcut_st {w : World} {lo lo' d c : Nat} {A : Option Addr} {ps : List (Int × Int)} (h : RF w lo (.slice A ps.length c) ps) (hl : lo' ≤ lo) (hd : d < ps.length ∨ d = 0) (hc : ps.length ≤ c) : StS w (fun j => j < lo') (fun w => RRow w w.heap.size (if d = 0 then A else A.map (·.add (d * 2))) (ps.drop d)) := fun w'' k => by
  obtain ⟨A', c', e, h1, h2, h3⟩ := (h w'' (keeps_kpS (k.mono fun j (hj : j < lo') => show j < lo by omega))).ex
  injection e with e1 e2 e3
  subst e1
  rcases Nat.eq_zero_or_pos d with q | q
  · subst q
    simpa using h3
  · have := h3.cut d c' h1
    rw [if_neg (by omega)] at this
    rw [if_neg (by omega)]
    exact this
set_option maxHeartbeats 1000000 in
theorem noteU_any (A : Option Addr) (len cap : Nat) (ps : List (Int × Int)) (n : Int) (w : World) (h : RRow w w.heap.size A ps) (hl : ps.length = len) (hok : okL ps) (hr : okR (n, n)) (hm : (len + 1) * 16 ≤ 140737488355328) (hcap : len ≤ cap) (hcm : cap ≤ maxLen) :
    Calls Try.prog 55 #[.slice A len cap, .int .i64 n] w (NoteU ps n w) := by
  have HW := Lib.hid ((Below.refl w.heap.size w).alloc (Nat.le_refl _) (.cells #[.int .i64 n, .int .i64 n] 63))
  have HR := Lib.hid (h.on HW.out)
  have HR0 := Lib.hid h
  have HL := Lib.hid hl
  have HO := Lib.hid hok
  have HK := Lib.hid hr
  have c0 := Lib.hid (rf_ok hok hr)
  have jl := ins_len (n, n) ps
  rw [hl] at jl
  have HN := Lib.hid (show noteL ps n = (insR (n, n) ps).drop ((insR (n, n) ps).length - 6) from rfl)
  obtain ⟨J, hJ⟩ : ∃ J, insR (n, n) ps = J := ⟨_, rfl⟩
  rw [hJ] at jl HN
  have HJ := Lib.hid hJ
  clear h hl hok hr hJ
  go_enter Try.func55, Try.ntmps55
  go_wp2_with (first
    | (go_at_call 58; refine (refuse_any _ _ _ _ _ _ _ HR.out HL.out (by omega)).mono ?_; rintro e w1 ⟨rfl, hb1⟩; have d0 := (hb1.cell (p := ⟨w.heap.size, 0, none⟩) (by simp)).trans (by simp : _ = some (.int .i64 n)); have d1 := (hb1.cell (p := ⟨w.heap.size, 1, none⟩) (by simp)).trans (by simp : _ = some (.int .i64 n)); have HB1 := Lib.hid hb1; clear hb1; rw [c0.out])
    | (go_at_call 60; refine (join_any _ _ _ _ _ _ _ (HR.out.on HB1.out) HL.out HO.out HK.out hm hcap hcm).mono ?_; rintro e w2 ⟨v2, rfl, o2, hb2⟩; rw [HJ.out] at o2; have HB2 := Lib.hid (HB1.out.trans (hb2.mono HB1.out.size)); clear hb2; obtain ⟨A2, c2, hv2, l2, m2, r2⟩ := o2.slice; subst hv2; have R2 := Lib.hid (rf_own o2 (Nat.le_refl _)); clear o2 r2))
  have m3 := m2
  unfold maxLen at m3
  have HB3 := Lib.hid (HW.out.trans (HB2.out.mono HW.out.size))
  have HRW := Lib.hid (HR0.out.on HB3.out)
  by_cases hj : 6 < J.length
  · refine wp_region_ext (by kernel_rfl) (by kernel_rfl) ?_
    repeat (go_big_quiet_step ((go_at_call 74; exact Ext.call (has_any _ _ _ _ _ _ (HRW.out.on (Ext.h _)) HL.out HO.out (by omega)))))
    refine wpQuiet_nil ?_
    intro w3 hb3
    go_wp2
    go_ret3
    refine ⟨?_, A2.map (·.add ((J.length - 6) * 2)), c2 - (J.length - 6), ?_, ?_, ?_, ?_⟩
    · exact HB3.out.trans (hb3.mono HB3.out.size)
    · rw [HN.out, List.length_drop]; rfl
    · rw [HN.out, List.length_drop]; omega
    · unfold maxLen at m2 ⊢; omega
    · rw [HN.out]
      have := rcut_st (lo' := w.heap.size) (d := J.length - 6) (R2.out.on (Keeps.below hb3)) (by have := HW.out.size; have := HB1.out.size; omega) (by omega) l2
      rw [if_neg (by omega)] at this
      exact this
  · refine wp_region_ext (by kernel_rfl) (by kernel_rfl) ?_
    repeat (go_big_quiet_step ((go_at_call 74; exact Ext.call (has_any _ _ _ _ _ _ (HRW.out.on (Ext.h _)) HL.out HO.out (by omega)))))
    refine wpQuiet_nil ?_
    intro w3 hb3
    go_wp2
    go_ret3
    have e0 : J.length - 6 = 0 := by omega
    rw [e0, List.drop_zero] at HN
    refine ⟨?_, A2, c2, ?_, ?_, m2, ?_⟩
    · exact HB3.out.trans (hb3.mono HB3.out.size)
    · rw [HN.out]; rfl
    · rw [HN.out]; exact l2
    · rw [HN.out]
      have := rcut_st (lo' := w.heap.size) (d := 0) (R2.out.on (Keeps.below hb3)) (by have := HW.out.size; have := HB1.out.size; omega) (by omega) l2
      simpa using this
end Go.Proofs.Ytnccibaifffhhaa
