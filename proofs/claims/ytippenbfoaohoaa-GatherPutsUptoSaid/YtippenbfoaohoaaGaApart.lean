/- Contracts of package gather: end, reach, apart. -/
import Derived.Test.YtippenbfoaohoaaRefGaReach
import Derived.Test.YtippenbfoaohoaaExt
namespace Go.Proofs.Ytippenbfoaohoaa
set_option linter.unusedVariables false
open Go.RowKit P

theorem end_any (off : Int) (A : Option Addr) (n c : Nat) (w : World) (h : -9223372036854775808 ≤ off + n ∧ off + n ≤ 9223372036854775807) :
    Calls Try.prog 31 #[.agg #[.int .i64 off, .slice A n c]] w fun e w' => e = .returned (.int .i64 (off + n)) ∧ Below w.heap.size w w' := by
  have hw : IntKind.i64.wrap (off + (n : Int)) = off + (n : Int) := by rw [IntKind.wrap_i64]; omega
  have B0 := Lib.hid ((Below.refl w.heap.size w).alloc (Nat.le_refl _) (.cells #[.int .i64 off, .slice A n c] 55))
  clear h
  go_enter Try.func31, Try.ntmps31
  go_wp2
  go_ret
  exact ⟨rfl, B0.out⟩
/-- what apart asks -/
def apG (done : Int) (ps : List Pc) : Prop := ps.length ≤ 4 ∧ okPs (done - 1) ps ∧ ∀ p ∈ ps, endP p ≤ 4611686018427387903
instance (done : Int) (ps : List Pc) : Decidable (apG done ps) := by unfold apG; infer_instance
def apB (done : Int) (ps : List Pc) : Bool := decide (apG done ps)
/-- so far -/
def apI (done : Int) (ps : List Pc) (k : Nat) : Prop := okPs (done - 1) (ps.take k) ∧ ∀ p ∈ ps.take k, endP p ≤ 4611686018427387903
/-- where the one ahead ends -/
def prevE (done : Int) (ps : List Pc) (k : Nat) : Int := if k = 0 then done - 1 else endP (ps.getD (k - 1) pc0)
theorem prev_reach {done : Int} {ps : List Pc} {k : Nat} (hk : k ≤ ps.length) : reachP (done - 1) (ps.take k) = prevE done ps k := by
  unfold prevE
  cases k with
  | zero => rfl
  | succ k => rw [if_neg (by omega), reach_step (by omega)]; rfl
theorem ap_step {done : Int} {ps : List Pc} {k : Nat} (h : apI done ps k) (hk : k < ps.length) (h1 : (ps.getD k pc0).2 ≠ []) (h2 : endP (ps.getD k pc0) ≤ 4611686018427387903) (h3 : prevE done ps k < (ps.getD k pc0).1) : apI done ps (k + 1) := by
  unfold apI
  rw [take_step hk]
  refine ⟨(ok_snoc _ _ _).2 ⟨h.1, h1, by rw [prev_reach (by omega)]; exact h3⟩, fun p hp => ?_⟩
  rcases List.mem_append.1 hp with hp | hp
  · exact h.2 p hp
  · obtain rfl : p = _ := by simpa using hp
    exact h2
theorem ap_bad {done : Int} {ps : List Pc} {k : Nat} (hk : k < ps.length) (h : (ps.getD k pc0).2 = [] ∨ 4611686018427387903 < endP (ps.getD k pc0) ∨ (ps.getD k pc0).1 ≤ prevE done ps k) : apB done ps = false := by
  unfold apB
  rw [decide_eq_false]
  rintro ⟨h0, h1, h2⟩
  have t := ok_take h1 (k + 1)
  rw [take_step hk] at t
  obtain ⟨t1, t2, t3⟩ := (ok_snoc _ _ _).1 t
  rw [prev_reach (by omega)] at t3
  have hm : ps.getD k pc0 ∈ ps := by rw [List.getD_eq_getElem?_getD, List.getElem?_eq_getElem hk]; exact List.getElem_mem hk
  have := h2 _ hm
  rcases h with h | h | h
  · exact t2 h
  · omega
  · omega
theorem ap_end {done : Int} {ps : List Pc} (h : apI done ps ps.length) (hl : ps.length ≤ 4) : apB done ps = true := by
  unfold apI at h
  rw [List.take_length] at h
  exact decide_eq_true ⟨hl, h.1, h.2⟩
set_option maxRecDepth 100000 in
set_option maxHeartbeats 2000000 in
theorem apart_any (A : Option Addr) (c : Nat) (done : Int) (ps : List Pc) (w : World) (hrow : PRow w w.heap.size A ps) (hc : ps.length ≤ c ∧ c ≤ maxLen) (hwf : ∀ p ∈ ps, (Lit.int .i64 p.1).wf = true) (hlen : ∀ p ∈ ps, p.2.length ≤ 140737488355328) :
    Calls Try.prog 26 #[.slice A ps.length c, .int .i64 done] w fun e w' => e = .returned (.bool (apB done ps)) ∧ Below w.heap.size w w' := by
  have hcm := hc.2
  have hnc := hc.1
  unfold maxLen at hcm
  by_cases h4 : 4 < ps.length
  · have hf : apB done ps = false := decide_eq_false (fun h => by have := h.1; omega)
    rw [hf]
    have g4 : decide ((4 : Int) < (ps.length : Int)) = true := by simp; omega
    clear hf hrow hwf hlen
    go_enter Try.func26, Try.ntmps26
    go_wp2
    go_ret
    exact ⟨rfl, Below.refl _ _⟩
  have g4 : decide ((4 : Int) < (ps.length : Int)) = false := by simp; omega
  have HROW := Lib.hid hrow
  have HWF := Lib.hid hwf
  have HLN := Lib.hid hlen
  have HEND := Lib.hid (fun h => ap_end (done := done) (ps := ps) h (by omega))
  have I0 := Lib.hid (show apI done ps 0 from ⟨trivial, fun p hp => by cases hp⟩)
  clear hrow hwf hlen hc h4
  go_enter Try.func26, Try.ntmps26
  go_wp2
  go_loopg [12] ps.length (fun gq iv wr => ∃ (k : Nat), iv = .int .i64 k ∧ k + gq = ps.length ∧ Hid (Below w.heap.size w wr) ∧ Hid (apI done ps k))
  case atStart => exact ⟨0, rfl, by omega, Lib.hid (Below.refl _ _), I0⟩
  case round =>
    obtain ⟨k, rfl, hkg, BK, IK⟩ := hrel
    by_cases hk : k < ps.length
    · obtain ⟨b0, o, hA, hb0, hcl⟩ := HROW.out (by omega)
      subst hA
      obtain ⟨e1, d, e2, hd⟩ := hcl k hk
      obtain ⟨Ad, cd, rfl, _, _, _, _⟩ := hd.ex
      have x0 := (BK.out.cell (p := ⟨b0, o + k * 2, none⟩) hb0).trans e1
      have x1 := (BK.out.cell (p := ⟨b0, o + k * 2 + 1, none⟩) hb0).trans e2
      have hmem : ps.getD k pc0 ∈ ps := by rw [List.getD_eq_getElem?_getD, List.getElem?_eq_getElem hk]; exact List.getElem_mem hk
      have hof := ga_i64.1 (HWF.out _ hmem)
      have hml := HLN.out _ hmem
      have HST := Lib.hid (fun h1 h2 h3 => ap_step IK.out hk h1 h2 h3)
      have HBD := Lib.hid (fun h => ap_bad (done := done) hk h)
      obtain ⟨p, hp⟩ : ∃ p, ps.getD k pc0 = p := ⟨_, rfl⟩
      rw [hp] at x0 x1 hof hml HST HBD
      obtain ⟨off, ds⟩ := p
      obtain ⟨m, hm⟩ : ∃ m, ds.length = m := ⟨_, rfl⟩
      have hme : endP (off, ds) = off + (m : Int) := by unfold endP; rw [hm]
      simp only at x0 x1 hof hml
      rw [hm] at x1 hml
      rw [hme] at HST HBD
      have HM := Lib.hid hm
      have hbw := BK.out.size
      have cp : ∀ (h0 : 0 < k), ∃ (po : Int) (pa : Option Addr) (pn pc : Nat), wr.cell? ⟨b0, o + (k - 1) * 2, none⟩ = some (.int .i64 po) ∧ wr.cell? ⟨b0, o + (k - 1) * 2 + 1, none⟩ = some (.slice pa pn pc) ∧ prevE done ps k = po + (pn : Int) ∧ po + (pn : Int) ≤ 4611686018427387903 ∧ -9223372036854775808 ≤ po + (pn : Int) := fun h0 => by
        obtain ⟨f1, fd, f2, fv⟩ := hcl (k - 1) (by omega)
        obtain ⟨Ap, cp, rfl, _, _, _, _⟩ := fv.ex
        have hmp : ps.getD (k - 1) pc0 ∈ ps := by rw [List.getD_eq_getElem?_getD, List.getElem?_eq_getElem (by omega)]; exact List.getElem_mem (by omega)
        have hmt : ps.getD (k - 1) pc0 ∈ ps.take k := by
          rw [List.getD_eq_getElem?_getD, List.getElem?_eq_getElem (by omega)]
          simp only [Option.getD_some]
          rw [← List.getElem_take (h := by rw [List.length_take]; omega) (j := k)]
          exact List.getElem_mem _
        have hq := ga_i64.1 (HWF.out _ hmp)
        refine ⟨_, Ap, _, cp, (BK.out.cell (p := ⟨b0, o + (k - 1) * 2, none⟩) hb0).trans f1, (BK.out.cell (p := ⟨b0, o + (k - 1) * 2 + 1, none⟩) hb0).trans f2, by unfold prevE; rw [if_neg (by omega)]; rfl, IK.out.2 _ hmt, by omega⟩
      clear hm hme hcl e1 e2 hd hmem hp
      have hwm : IntKind.i64.wrap (4611686018427387903 - (m : Int)) = 4611686018427387903 - (m : Int) := by rw [IntKind.wrap_i64]; omega
      have hnk : (k : Int) < (ps.length : Int) := by omega
      by_cases m0 : 0 < m
      · have m0' : ((m : Int) == 0) = false := by simp; omega
        by_cases m1 : off ≤ 4611686018427387903 - (m : Int)
        · have m1' : decide (4611686018427387903 - (m : Int) < off) = false := by simp; omega
          by_cases h0 : 0 < k
          · obtain ⟨po, pa, pn, pcp, y0, y1, hpe, hpb, hpb2⟩ := cp h0
            have k0' : ((k : Int) == 0) = false := by simp; omega
            have k1' : decide ((0 : Int) < (k : Int)) = true := by simp; omega
            have k2' : decide (0 < k) = true := by simp; omega
            have i0 : (0 : Int) ≤ (k : Int) - 1 := by omega
            have i1 : (k : Int) - 1 < (ps.length : Int) := by omega
            have i2 : ((k : Int) - 1).toNat = k - 1 := by omega
            have i3 : IntKind.i64.wrap ((k : Int) - 1) = (k : Int) - 1 := by rw [IntKind.wrap_i64]; omega
            rw [hpe] at HST HBD
            clear cp hpe
            go_wp2
            have d0 := Ext.cell (W := wr.alloc (.cells #[.int .i64 off, .slice Ad m cd] 55)) (p := ⟨wr.heap.size, 0, none⟩) (v := .int .i64 off) (by simp)
            have d2 := Ext.cell (W := wr.alloc (.cells #[.int .i64 off, .slice Ad m cd] 55)) (p := ⟨b0, o + (k - 1) * 2, none⟩) (v := .int .i64 po) (by rw [World.cell?_alloc_lt _ _ _ (by simp; omega)]; exact y0)
            have d3 := Ext.cell (W := wr.alloc (.cells #[.int .i64 off, .slice Ad m cd] 55)) (p := ⟨b0, o + (k - 1) * 2 + 1, none⟩) (v := .slice pa pn pcp) (by rw [World.cell?_alloc_lt _ _ _ (by simp; omega)]; exact y1)
            refine wp_region_ext (by kernel_rfl) (by kernel_rfl) ?_
            repeat (go_big_quiet_step ((go_at_call 31; exact Ext.call (end_any _ _ _ _ _ ⟨hpb2, by omega⟩))))
            refine wpQuiet_nil ?_
            intro w1 hb1
            clear d0 d2 d3
            have HB1 := Lib.hid ((BK.out.alloc hbw _).trans (hb1.mono (by simp; omega)))
            clear hb1
            by_cases hg : po + (pn : Int) < off
            · have g3 : decide (off ≤ po + (pn : Int)) = false := by simp; omega
              have HG := Lib.hid (HST.out (by intro e; (try simp only at e); rw [e] at HM; have := HM.out; simp at this; omega) (by omega) hg)
              go_wp2
              go_roundg (gk - 1)
              case measure => omega
              case rel => exact ⟨k + 1, by first | rfl | go_num, by omega, HB1, HG⟩
            · have g3 : decide (off ≤ po + (pn : Int)) = true := by simp; omega
              have HG := Lib.hid (HBD.out (.inr (.inr (by (try simp only); omega))))
              go_wp2
              go_ret
              exact ⟨by rw [HG.out]; rfl, HB1.out⟩
          · obtain rfl : k = 0 := by omega
            have hpe : prevE done ps 0 = done - 1 := rfl
            rw [hpe] at HST HBD
            clear cp hpe h0
            simp only [Nat.zero_mul, Nat.add_zero] at x0 x1
            by_cases hg : off < done
            · have HG := Lib.hid (HBD.out (.inr (.inr (by (try simp only); omega))))
              go_wp2
              have d0 := Ext.cell (W := wr.alloc (.cells #[.int .i64 off, .slice Ad m cd] 55)) (p := ⟨wr.heap.size, 0, none⟩) (v := .int .i64 off) (by simp)
              refine wp_region_ext (by kernel_rfl) (by kernel_rfl) ?_
              repeat (go_big_quiet_step (fail))
              refine wpQuiet_nil ?_
              intro w1 hb1
              clear d0
              have HB1 := Lib.hid ((BK.out.alloc hbw _).trans (hb1.mono (by simp; omega)))
              clear hb1
              go_wp2
              go_ret
              exact ⟨by rw [HG.out]; rfl, HB1.out⟩
            · have g3 : decide (off < done) = false := by simp; omega
              have HG := Lib.hid (HST.out (by intro e; (try simp only at e); rw [e] at HM; have := HM.out; simp at this; omega) (by omega) (by omega))
              go_wp2
              have d0 := Ext.cell (W := wr.alloc (.cells #[.int .i64 off, .slice Ad m cd] 55)) (p := ⟨wr.heap.size, 0, none⟩) (v := .int .i64 off) (by simp)
              refine wp_region_ext (by kernel_rfl) (by kernel_rfl) ?_
              repeat (go_big_quiet_step (fail))
              refine wpQuiet_nil ?_
              intro w1 hb1
              clear d0
              have HB1 := Lib.hid ((BK.out.alloc hbw _).trans (hb1.mono (by simp; omega)))
              clear hb1
              go_wp2
              go_roundg (gk - 1)
              case measure => omega
              case rel => exact ⟨0 + 1, by first | rfl | go_num, by omega, HB1, HG⟩
        · have m1' : decide (4611686018427387903 - (m : Int) < off) = true := by simp; omega
          have HG := Lib.hid (HBD.out (.inr (.inl (by omega))))
          have BA := Lib.hid (BK.out.alloc BK.out.size (.cells #[.int .i64 off, .slice Ad m cd] 55))
          clear cp
          go_wp2
          go_ret
          exact ⟨by rw [HG.out]; rfl, BA.out⟩
      · obtain rfl : m = 0 := by omega
        have HG := Lib.hid (HBD.out (.inl (List.eq_nil_of_length_eq_zero HM.out)))
        have BA := Lib.hid (BK.out.alloc BK.out.size (.cells #[.int .i64 off, .slice Ad 0 cd] 55))
        clear cp
        go_wp2
        go_ret
        exact ⟨by rw [HG.out]; rfl, BA.out⟩
    · obtain rfl : k = ps.length := by omega
      obtain rfl : gk = 0 := by omega
      have HG := Lib.hid (HEND.out IK.out)
      go_wp2
      go_ret
      exact ⟨by rw [HG.out]; rfl, BK.out⟩
end Go.Proofs.Ytippenbfoaohoaa
