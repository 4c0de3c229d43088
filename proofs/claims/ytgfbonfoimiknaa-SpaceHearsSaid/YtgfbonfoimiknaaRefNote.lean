/- The document's answers on ranges: RangeNoted. -/
import Derived.Test.YtgfbonfoimiknaaRefAdd
import Derived.Test.YtgfbonfoimiknaaRngNote
namespace Go.Proofs.Ytgfbonfoimiknaa
set_option linter.unusedVariables false
open Go.RowKit P

set_option maxHeartbeats 1600000 in
theorem rnoted_any (A : Option Addr) (len cap : Nat) (ps : List (Int × Int)) (n : Int) (w : World) (h : RRow w w.heap.size A ps) (hl : ps.length = len) (hok : okL ps) (hr : okR (n, n)) (hm : (len + 2) * 16 ≤ 140737488355328) :
    Calls Try.prog 88 #[.slice A len cap, .int .i64 n] w (NotePost ps n w) := by
  have HR := Lib.hid h
  have HL := Lib.hid hl
  have HO := Lib.hid hok
  have c0 := Lib.hid (rf_ok hok hr)
  have n0 : 0 ≤ n := hr.1
  have n1 : n ≤ 9223372036854775807 := Int.le_trans hr.2.2 (by decide)
  have HLD := Lib.hid (by simp [hl] : ([] ++ ps ++ [(n, n)]).length = len + 1)
  have HOK := Lib.hid (fun x hx => by
    rcases List.mem_append.1 hx with hx | hx
    · exact (okFrom_all hok hx).1
    · rw [List.mem_singleton.1 hx]; exact hr : ∀ x ∈ [] ++ ps ++ [(n, n)], okR x)
  have HE := Lib.hid (fun C hC hm => ok_ext hC (insL_ok hok hr).1 fun m => (hm m).trans ((mem_app _ _ m).trans ((Or.comm.trans ((insL_ok hok hr).2 m).symm |> fun h => by simpa [mem] using h))) : ∀ C, okL C → (∀ m, mem C m ↔ mem ([] ++ ps ++ [(n, n)]) m) → C = insR (n, n) ps)
  have jl := ins_len (n, n) ps
  rw [hl] at jl
  have HN := Lib.hid (show noteL ps n = (insR (n, n) ps).drop ((insR (n, n) ps).length - 6) from rfl)
  obtain ⟨J, hJ⟩ : ∃ J, insR (n, n) ps = J := ⟨_, rfl⟩
  rw [hJ] at jl HN HE
  obtain ⟨i0, hi0, hz0, hz1, hz2⟩ := info_parts infoR
  have HI := Lib.hid hi0
  have HZ := Lib.hid hz0
  have HZ1 := Lib.hid hz1
  have HZ2 := Lib.hid hz2
  clear h hl hok hr hi0 hz0 hz1 hz2 hJ
  go_enter Try.func88, Try.ntmps88
  go_wp2_with (first
    | (go_at_call 125; refine (rfault_any _ _ _ _ _ _ _ HR.out HL.out (by omega)).mono ?_; rintro e w1 ⟨rfl, hb1⟩; have HB1 := Lib.hid hb1; have R1 := Lib.hid (HR.out.on hb1); clear hb1; rw [c0.out])
    | (at_builtin
       refine wpList_appR _ rfl (.tmp 17) (.tmp 18) _ rfl w1.heap.size 80 i0 _ Try.underlying25 HI.out HZ.out HZ1.out HZ2.out rfl (.slice (some ⟨w1.heap.size, 0, none⟩) 0 0) [] rfl (own_empty w1 w1.heap.size 80 (Nat.le_refl _)) w1.heap.size A len cap ps rfl (R1.out.below ((Below.refl w1.heap.size w1).alloc (Nat.le_refl _) (.cells #[] 80))) HL.out (by rw [List.length_nil]; omega) (by simp <;> omega) ?_
       intro v1 u1 own1 g1
       have O1 := Lib.hid own1
       have B1 := Lib.hid (((Below.refl w1.heap.size w1).alloc (Nat.le_refl _) (.cells #[] 80)).grown g1 (by simp <;> omega) (fun k hk => ((own_empty w1 w1.heap.size 80 (Nat.le_refl _)).lt k hk).1))
       clear own1 g1)
    | (at_builtin
       refine wpList_appR _ rfl (.tmp 19) (.tmp 23) _ rfl w1.heap.size 80 i0 _ Try.underlying25 HI.out HZ.out HZ1.out HZ2.out rfl v1 ([] ++ ps) rfl (O1.out.alloc (.cells #[.int .i64 n, .int .i64 n] 80)) (u1.heap.size + 1) (some ⟨u1.heap.size, 0, none⟩) 1 1 [(n, n)] rfl (RRow.one u1 n n 80) rfl (by rw [List.nil_append, HL.out]; omega) (by have := B1.out.size; first | omega | (simp; omega)) ?_
       intro v2 u2 own2 g2
       have B2 := Lib.hid ((B1.out.alloc B1.out.size (.cells #[.int .i64 n, .int .i64 n] 80)).grown g2 (by have := B1.out.size; first | omega | (simp; omega)) (fun k hk => (O1.out.lt k hk).1))
       obtain ⟨A2, c2, hv2, _, _, r2⟩ := own2.slice
       rw [HLD.out] at hv2
       subst hv2
       have R2 := Lib.hid r2
       clear own2 g2 r2)
    | (go_at_call 126
       refine (joined_any A2 (len + 1) c2 ([] ++ ps ++ [(n, n)]) _ R2.out HLD.out HOK.out (by omega) (by omega)).mono ?_
       rintro e u3 ⟨v3, C, rfl, oC, okC, mC, hb3⟩
       have B3 := Lib.hid (bt HB1.out (bt B2.out hb3))
       rw [HE.out C okC mC] at oC
       obtain ⟨A3, c3, hv3, l3, m3, r3⟩ := oC.slice
       subst hv3
       have R3 := Lib.hid r3
       clear oC okC mC hb3 r3))
  have m4 := m3
  unfold maxLen at m4
  have HRW := Lib.hid (HR.out.on B3.out)
  by_cases hj : 6 < J.length
  · have hx : max (0 : Int) ((J.length : Int) - 6) = (J.length : Int) - 6 := by omega
    refine wp_region_ext (by kernel_rfl) (by kernel_rfl) ?_
    repeat (go_big_quiet_step ((go_at_call 94; exact Ext.call (inside_any _ _ _ _ _ _ (HRW.out.on (Ext.h _)) HL.out HO.out (by omega) n0 n1))))
    refine wpQuiet_nil ?_
    intro w3 hb3
    go_wp2
    go_ret3
    refine ⟨A3.map (·.add ((J.length - 6) * 2)), c3 - (J.length - 6), ?_, ?_, ?_, ?_, ?_⟩
    · rw [HN.out, List.length_drop]; rfl
    · rw [HN.out, List.length_drop]; omega
    · unfold maxLen at m3 ⊢; omega
    · rw [HN.out]
      have e := (R3.out.on hb3).cut (J.length - 6) c3 l3
      rw [if_neg (by omega)] at e
      exact e
    · exact B3.out.trans (hb3.mono B3.out.size)
  · have hx : max (0 : Int) ((J.length : Int) - 6) = 0 := by omega
    refine wp_region_ext (by kernel_rfl) (by kernel_rfl) ?_
    repeat (go_big_quiet_step ((go_at_call 94; exact Ext.call (inside_any _ _ _ _ _ _ (HRW.out.on (Ext.h _)) HL.out HO.out (by omega) n0 n1))))
    refine wpQuiet_nil ?_
    intro w3 hb3
    go_wp2
    go_ret3
    have e0 : J.length - 6 = 0 := by omega
    rw [e0, List.drop_zero] at HN
    refine ⟨A3, c3, ?_, ?_, m3, ?_, ?_⟩
    · rw [HN.out]; rfl
    · rw [HN.out]; exact l3
    · rw [HN.out]; exact (R3.out.on hb3)
    · exact B3.out.trans (hb3.mono B3.out.size)
theorem rnoted_bad (A : Option Addr) (len cap : Nat) (ps : List (Int × Int)) (n : Int) (w : World) (h : RRow w w.heap.size A ps) (hl : ps.length = len) (hc : rfV ps (n, n) = 3 ∨ rfV ps (n, n) = 6) (hm : len ≤ 9223372036854775807) :
    Calls Try.prog 88 #[.slice A len cap, .int .i64 n] w (Fault3Post (rfV ps (n, n)) w) := by
  have HR := Lib.hid h
  have HL := Lib.hid hl
  clear h hl
  rcases hc with hc | hc
  all_goals
    have c0 := Lib.hid hc
    clear hc
    go_enter Try.func88, Try.ntmps88
    go_wp2_with (first
      | (go_at_call 125; refine (rfault_any _ _ _ _ _ _ _ HR.out HL.out (by omega)).mono ?_; rintro e w1 ⟨rfl, hb1⟩; have HB1 := Lib.hid hb1; clear hb1; rw [c0.out]))
    go_ret3
    exact ⟨by rw [c0.out]; rfl, HB1.out⟩
end Go.Proofs.Ytgfbonfoimiknaa
