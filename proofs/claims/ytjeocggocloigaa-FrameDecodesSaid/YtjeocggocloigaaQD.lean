/- Texts of the proofs, joined. -/
import Derived.Test.YtjeocggocloigaaQB
import Derived.Shelf.SlicesQ.Reverse
import Derived.Lib.SliceRun
import Derived.Test.YtjeocggocloigaaQA
import Derived.Deep.QuietTactic
import Derived.BigQuiet
/- slices.Reverse and slices.Clone on ranges, by their contracts. -/
namespace Go.Proofs.Ytjeocggocloigaa
set_option linter.unusedVariables false
open Go.Shelf Go.Proofs Go.RowKit P

def rvRen : Go.Shelf.Ren := ⟨fun | 35 => 30 | n => n, fun | 0 => 0 | 3 => 3 | 4 => 4 | 22 => 22 | 23 => 51 | n => n, fun n => n⟩
theorem rv : SlLaysE0.n35 Try.prog rvRen := {
  mixed := by kernel_rfl
  f35 := ⟨"slices.Reverse[[]spillway/api.Range,spillway/api.Range]", by decide, Try.func30.trans (congrArg some (by kernel_rfl))⟩
  t0 := Try.underlying0
  a0 := Try.isAgg0
  z0 := Try.sizeOf0
  v0 := Try.zeroValue0
  t3 := Try.underlying3
  a3 := Try.isAgg3
  z3 := Try.sizeOf3
  v3 := Try.zeroValue3
  t4 := Try.underlying4
  a4 := Try.isAgg4
  z4 := Try.sizeOf4
  v4 := Try.zeroValue4
  t22 := Try.underlying22
  a22 := Try.isAgg22
  z22 := Try.sizeOf22
  v22 := Try.zeroValue22
}
def encR2 (p : Int × Int) : List Value := [.int .i64 p.1, .int .i64 p.2]
/-- an owned row of ranges, as the sort's kit has it -/
theorem holds_own2 {w : World} {base e g c : Nat} {ps : List (Int × Int)} (h : OwnR w base e (.slice (some ⟨g, 0, none⟩) ps.length c) ps) : Sort.HoldsK encR2 2 w g 0 ps.toArray := by
  intro j hj
  rw [Sort.size_flatK] at hj
  have hj' : j < ps.length * 2 := by simpa using hj
  have hp : 0 < ps.length := by omega
  obtain ⟨b, off, e1, _, hc⟩ := (own_rrow h).1 hp
  have e2 : b = g ∧ off = 0 := by simp at e1; exact ⟨e1.1.symm, e1.2.symm⟩
  obtain ⟨rfl, rfl⟩ := e2
  have hfz : w.frozen? ⟨b, 0 + j, none⟩ = false := by
    rcases h.2 with ⟨hv, _⟩ | ⟨g', cap, cur, hv, _, hh, _⟩
    · cases hv
    · have : g' = b := by simp at hv; exact hv.1.symm
      subst this
      simp [World.frozen?, hh]
  refine ⟨?_, hfz⟩
  rw [Sort.get_flatK _ _ _ _ hj]
  have hh := hc (j / 2) (by omega)
  have hget : (ps.toArray)[j / 2]! = ps.getD (j / 2) (0, 0) := by
    rw [List.getD_eq_getElem?_getD]
    simp [List.getElem?_eq_getElem (show j / 2 < ps.length by omega), Array.getElem!_eq_getD, Array.getD, show j / 2 < ps.length by omega]
  rw [hget]
  rcases Nat.mod_two_eq_zero_or_one j with m | m
  · rw [m, show 0 + j = 0 + j / 2 * 2 by omega, hh.1]; rfl
  · rw [m, show 0 + j = 0 + j / 2 * 2 + 1 by omega, hh.2]; rfl

theorem rev_any (base : Nat) (v : Value) (ps : List (Int × Int)) (w : World) (h : OwnR w base 51 v ps) :
    Calls Try.prog 30 #[v] w fun e w' => e = .returned (.tuple #[]) ∧ (∀ A n c, v = .slice A n c → RRow w' w'.heap.size A ps.reverse) ∧ Below base w w' := by
  rcases h.2 with ⟨rfl, h0⟩ | ⟨g, cap, cur, rfl, hb, hg, _, hm, _⟩
  · have e0 : ps = [] := List.eq_nil_of_length_eq_zero h0
    subst e0
    have := AnyQ.slices_Reverse_empty rv none 0 w
    change Calls Try.prog 30 _ _ _ at this
    refine this.mono ?_
    rintro e w' ⟨rfl, rfl⟩
    exact ⟨rfl, fun A n c _ => RRow.nil _ _ _, Below.refl _ _⟩
  · have hH : Sort.HoldsK encR2 2 w g 0 ps.toArray := holds_own2 h
    have hlt := h.lt g rfl
    have hsz : ps.toArray.size = ps.length := by simp
    have hlen : ps.length ≤ cap := by rename_i h1 _; exact h1
    have hR := AnyQ.slices_Reverse rv 2 (fun w => Try.isAgg51 w) (fun w => Try.sizeOf51 w) encR2 (fun _ => rfl) (fun x v hv => by simp [encR2] at hv; rcases hv with rfl | rfl <;> rfl) g 0 cap ps.toArray w hH (by unfold maxLen at hm; omega)
    rw [hsz] at hR
    change Calls Try.prog 30 _ _ _ at hR
    refine hR.mono ?_
    rintro e w' ⟨rfl, n, rfl⟩
    have hsz1 : (Sort.putRowK encR2 2 (Sort.ahead w n) g 0 ps.toArray.reverse).heap.size = w.heap.size := by simp [Sort.putRowK, Sort.putRow, Sort.mapBlock, Sort.ahead]
    have hH' := Sort.holdsK_putRowK _ _ _ g 0 ps.toArray ps.toArray.reverse (Sort.holdsK_ahead _ _ _ n _ _ _ hH) (by simp)
    refine ⟨rfl, fun A m c hv hp => ?_, ⟨rfl, rfl, rfl, by rw [hsz1]; exact Nat.le_refl _, fun k hk => ?_⟩⟩
    · cases hv
      refine ⟨g, 0, rfl, by rw [hsz1]; exact hlt.2, fun j hj => ?_⟩
      have hj' : j < ps.toArray.reverse.size := by simpa using hj
      have c0 := (hH'.cell (i := j) (c := 0) hj' (by omega)).1
      have c1 := (hH'.cell (i := j) (c := 1) hj' (by omega)).1
      have hget : ps.toArray.reverse[j]! = ps.reverse.getD j (0, 0) := by
        rw [getElem!_pos ps.toArray.reverse j hj', List.getD_eq_getElem?_getD, List.getElem?_eq_getElem hj]
        simp
      rw [hget] at c0 c1
      exact ⟨c0, c1⟩
    · simp only [Sort.putRowK, Sort.putRow, Sort.mapBlock, Sort.ahead, Array.getElem?_modify]
      rw [if_neg (by omega)]

theorem info2 : (Try.prog.info? 51).map (fun i => (i.zero, i.size, i.bytes)) = some (some (.agg #[.int .i64 0, .int .i64 0]), 2, 16) := by kernel_rfl
theorem own_mt (w : World) (base : Nat) (t : TypeId) (hb : base ≤ w.heap.size) : OwnR (w.alloc (.cells #[] t)) base t (.slice (some ⟨w.heap.size, 0, none⟩) 0 0) [] :=
  ⟨rfl, .inr ⟨w.heap.size, 0, #[], rfl, hb, heap_alloc_new w (.cells #[] t), Nat.le_refl _, by unfold maxLen; omega, rfl, rfl⟩⟩
theorem clone_any (v : Value) (ps : List (Int × Int)) (w : World) (h : RSl w w.heap.size v ps) (hm : ps.length * 16 ≤ 140737488355328) :
    Calls Try.prog 29 #[v] w fun e w' => ∃ u, e = .returned u ∧ OwnR w' w.heap.size 51 u ps ∧ Below w.heap.size w w' := by
  obtain ⟨A, c, rfl, h1, h2, h3⟩ := h.ex
  rcases A with _ | a
  · have e0 : ps = [] := by
      rcases Nat.eq_zero_or_pos ps.length with e | e
      · exact List.eq_nil_of_length_eq_zero e
      · obtain ⟨b, off, e, _⟩ := h3 e; cases e
    subst e0
    have hnil := fun w => Lib.run_eql_slice_nil (P := Try.prog) w 22 51 none 0 c 0 0 Try.underlying22
    go_enter Try.func29, Try.ntmps29
    go_wp2
    go_ret
    exact ⟨_, rfl, OwnR.nil _ _ _, Below.refl _ _⟩
  · obtain ⟨i0, hi0, hz0, hz1, hz2⟩ := info_parts info2
    have HI := Lib.hid hi0
    have HZ := Lib.hid hz0
    have HZ1 := Lib.hid hz1
    have HZ2 := Lib.hid hz2
    have H3 := Lib.hid h3
    clear hi0 hz0 hz1 hz2 h3
    have hnil := fun w => Lib.run_eql_slice_nil (P := Try.prog) w 22 51 (some a) ps.length c 0 0 Try.underlying22
    go_enter Try.func29, Try.ntmps29
    go_wp2_with (first
      | (at_builtin
         refine wpList_appR _ rfl (.tmp 5) (.tmp 6) _ rfl w.heap.size 51 i0 _ Try.underlying22 HI.out HZ.out HZ1.out HZ2.out rfl (.slice (some ⟨w.heap.size, 0, none⟩) 0 0) [] rfl (own_mt w w.heap.size 51 (Nat.le_refl _)) w.heap.size (some a) ps.length c ps rfl (H3.out.below ((Below.refl w.heap.size w).alloc (Nat.le_refl _) (.cells #[] 51))) rfl (by rw [List.length_nil]; omega) (by simp <;> omega) ?_
         intro v1 u1 own1 g1
         have O1 := Lib.hid own1
         have B1 := Lib.hid (((Below.refl w.heap.size w).alloc (Nat.le_refl _) (.cells #[] 51)).grown g1 (by simp <;> omega) (fun k hk => ((own_mt w w.heap.size 51 (Nat.le_refl _)).lt k hk).1))
         clear own1 g1))
    go_ret
    exact ⟨_, rfl, by simpa using O1.out, B1.out⟩
end Go.Proofs.Ytjeocggocloigaa
/- Contracts of package frame: partsOf, has, mayBe, inBounds, inForm, Check. -/
namespace Go.Proofs.Ytjeocggocloigaa
set_option linter.unusedVariables false
open Go.RowKit P

theorem partsOf_any (k : Int) (w : World) :
    Calls Try.prog 14 #[.int .i64 k] w fun e w' => e = .returned (.tuple #[.int .u64 (maskOf k), .bool (partsOf k).isSome]) ∧ w = w' := by
  by_cases h : k = 0 ∨ k = 1 ∨ k = 2 ∨ k = 4 ∨ k = 5 ∨ k = 6 ∨ k = 7 ∨ k = 8 ∨ k = 16 ∨ k = 17 ∨ k = 18 ∨ k = 26 ∨ k = 27 ∨ k = 28 ∨ k = 30
  · rcases h with rfl | rfl | rfl | rfl | rfl | rfl | rfl | rfl | rfl | rfl | rfl | rfl | rfl | rfl | rfl
    all_goals
      go_enter Try.func14, Try.ntmps14
      go_wp2
      go_ret2
      exact ⟨rfl, rfl⟩
  · simp only [not_or] at h
    obtain ⟨h0, h1, h2, h3, h4, h5, h6, h7, h8, h9, ha, hb, hc, hd, he⟩ := h
    have e1 : maskOf k = 0 := by unfold maskOf; simp only [h2, h3, h4, h5, h6, h7, h8, h9, ha, hb, hc, hd, if_false]
    have e2 : (partsOf k).isSome = false := by unfold partsOf; simp only [h0, h1, h2, h3, h4, h5, h6, h7, h8, h9, ha, hb, hc, hd, he, if_false, Option.isSome_none]
    go_enter Try.func14, Try.ntmps14
    go_wp2
    go_ret2
    exact ⟨by first | rfl | (rw [e1, e2]; rfl), rfl⟩

theorem hasP_any (m x : Int) (w : World) :
    Calls Try.prog 28 #[.int .u64 m, .int .u64 x] w fun e w' => e = .returned (.bool (hasM m x)) ∧ w = w' := by
  obtain ⟨y, hy⟩ : ∃ y, bits .and .u64 m x = y := ⟨_, rfl⟩
  have HY := Lib.hid (show hasM m x = decide (y = x) by unfold hasM; rw [hy])
  go_enter Try.func28, Try.ntmps28
  go_wp2
  go_ret
  exact ⟨by rw [HY.out]; first | rfl | simp [beq_eq_decide], rfl⟩

theorem mayBe_any (n : Int) (h : Bool) (w : World) :
    Calls Try.prog 27 #[.int .i64 n, .bool h] w fun e w' => e = .returned (.bool (mbV h n)) ∧ w = w' := by
  by_cases n0 : n = 0
  · subst n0
    go_enter Try.func27, Try.ntmps27
    go_wp2
    go_ret
    exact ⟨by cases h <;> rfl, rfl⟩
  have g0 : (n == 0) = false := by simp [n0]
  cases h
  · have hv : mbV false n = false := by unfold mbV numBad; simp [n0]
    go_enter Try.func27, Try.ntmps27
    go_wp2
    go_ret
    exact ⟨by first | rfl | (rw [hv]; rfl), rfl⟩
  by_cases n1 : 0 < n
  · by_cases n2 : n ≤ 4611686018427387903
    · have hv : mbV true n = true := by unfold mbV numBad; simp; omega
      go_enter Try.func27, Try.ntmps27
      go_wp2
      go_ret
      exact ⟨by first | rfl | (rw [hv]; rfl), rfl⟩
    · have hv : mbV true n = false := by unfold mbV numBad; simp; omega
      go_enter Try.func27, Try.ntmps27
      go_wp2
      go_ret
      exact ⟨by first | rfl | (rw [hv]; rfl), rfl⟩
  · have hv : mbV true n = false := by unfold mbV numBad; simp; omega
    go_enter Try.func27, Try.ntmps27
    go_wp2
    go_ret
    exact ⟨by first | rfl | (rw [hv]; rfl), rfl⟩

set_option maxHeartbeats 2000000 in
theorem inBounds_any (v : Value) (f : Fr) (m : Int) (w : World) (h : FrVal w w.heap.size v f) (hn : f.data.length ≤ 120) :
    Calls Try.prog 15 #[v, .int .u64 m] w fun e w' => e = .returned (.bool (inBV m f.id f.off f.code f.data.length)) ∧ Below w.heap.size w w' := by
  obtain ⟨r, d, rfl, hr, hd⟩ := h.ex
  obtain ⟨A, c, rfl, _, _, _, _⟩ := hd.ex
  clear hd hr h
  obtain ⟨k, id, off, fin, code, rs, data⟩ := f
  simp only at hn ⊢
  obtain ⟨n, hnn⟩ : ∃ n : Nat, data.length = n := ⟨_, rfl⟩
  rw [hnn] at hn ⊢
  clear hnn
  have HI := Lib.hid (show inBV m id off code n = (mbV (hasM m 1) id && mbV (hasM m 2) off && mbV (hasM m 8) code && (!hasM m 34 || decide (off + n ≤ 4611686018427387903))) from rfl)
  have HW := Lib.hid ((Below.refl w.heap.size w).alloc (Nat.le_refl _) (.cells #[.int .i64 k, .int .i64 id, .int .i64 off, .bool fin, .int .i64 code, r, .slice A n c] 25))
  rw [HI.out]
  have ho : mbV (hasM m 2) off = true → 0 ≤ off ∧ off ≤ 4611686018427387903 := fun f2 => by
    unfold mbV numBad at f2
    cases hasM m 2 <;> simp at f2 <;> omega
  clear HI
  cases f1 : mbV (hasM m 1) id
  · clear ho
    go_enter Try.func15, Try.ntmps15
    go_wp2
    go_quiet (first
      | (go_at_call 28; exact Calls.quiet_of_same ((hasP_any _ _ _).mono fun _ _ ⟨a, b⟩ => ⟨a, b.symm⟩))
      | (go_at_call 27; exact Calls.quiet_of_same ((mayBe_any _ _ _).mono fun _ _ ⟨a, b⟩ => ⟨a, b.symm⟩)))
    go_wp2
    go_ret
    exact ⟨rfl, Go.below_drewN HW.out _⟩
  cases f2 : mbV (hasM m 2) off
  · clear ho
    go_enter Try.func15, Try.ntmps15
    go_wp2
    go_quiet (first
      | (go_at_call 28; exact Calls.quiet_of_same ((hasP_any _ _ _).mono fun _ _ ⟨a, b⟩ => ⟨a, b.symm⟩))
      | (go_at_call 27; exact Calls.quiet_of_same ((mayBe_any _ _ _).mono fun _ _ ⟨a, b⟩ => ⟨a, b.symm⟩)))
    go_wp2
    go_ret
    exact ⟨rfl, Go.below_drewN HW.out _⟩
  obtain ⟨o0, o1⟩ := ho f2
  clear ho
  cases f3 : mbV (hasM m 8) code
  · go_enter Try.func15, Try.ntmps15
    go_wp2
    go_quiet (first
      | (go_at_call 28; exact Calls.quiet_of_same ((hasP_any _ _ _).mono fun _ _ ⟨a, b⟩ => ⟨a, b.symm⟩))
      | (go_at_call 27; exact Calls.quiet_of_same ((mayBe_any _ _ _).mono fun _ _ ⟨a, b⟩ => ⟨a, b.symm⟩)))
    go_wp2
    go_ret
    exact ⟨rfl, Go.below_drewN HW.out _⟩
  cases f4 : hasM m 34
  · go_enter Try.func15, Try.ntmps15
    go_wp2
    go_quiet (first
      | (go_at_call 28; exact Calls.quiet_of_same ((hasP_any _ _ _).mono fun _ _ ⟨a, b⟩ => ⟨a, b.symm⟩))
      | (go_at_call 27; exact Calls.quiet_of_same ((mayBe_any _ _ _).mono fun _ _ ⟨a, b⟩ => ⟨a, b.symm⟩)))
    go_wp2_with (go_at_call 28; refine (hasP_any _ _ _).mono ?_; rintro e w' ⟨rfl, rfl⟩)
    go_ret
    exact ⟨rfl, Go.below_drewN HW.out _⟩
  · by_cases hle : off + n ≤ 4611686018427387903
    · go_enter Try.func15, Try.ntmps15
      go_wp2
      go_quiet (first
      | (go_at_call 28; exact Calls.quiet_of_same ((hasP_any _ _ _).mono fun _ _ ⟨a, b⟩ => ⟨a, b.symm⟩))
      | (go_at_call 27; exact Calls.quiet_of_same ((mayBe_any _ _ _).mono fun _ _ ⟨a, b⟩ => ⟨a, b.symm⟩)))
      go_wp2_with (go_at_call 28; refine (hasP_any _ _ _).mono ?_; rintro e w' ⟨rfl, rfl⟩)
      go_ret
      exact ⟨by simp [hle], Go.below_drewN HW.out _⟩
    · go_enter Try.func15, Try.ntmps15
      go_wp2
      go_quiet (first
      | (go_at_call 28; exact Calls.quiet_of_same ((hasP_any _ _ _).mono fun _ _ ⟨a, b⟩ => ⟨a, b.symm⟩))
      | (go_at_call 27; exact Calls.quiet_of_same ((mayBe_any _ _ _).mono fun _ _ ⟨a, b⟩ => ⟨a, b.symm⟩)))
      go_wp2_with (go_at_call 28; refine (hasP_any _ _ _).mono ?_; rintro e w' ⟨rfl, rfl⟩)
      go_ret
      exact ⟨by simp [hle], Go.below_drewN HW.out _⟩

end Go.Proofs.Ytjeocggocloigaa
/- Contracts of package frame: inForm, Check. -/
namespace Go.Proofs.Ytjeocggocloigaa
set_option linter.unusedVariables false
open Go.RowKit P

/-- behind a block of seven cells, in a world that leaves it as it is -/
theorem seven {w w' : World} {k id off : Int} {fin : Bool} {code : Int} {r d : Value} {t : TypeId} (hb : Below (w.alloc (.cells #[.int .i64 k, .int .i64 id, .int .i64 off, .bool fin, .int .i64 code, r, d] t)).heap.size (w.alloc (.cells #[.int .i64 k, .int .i64 id, .int .i64 off, .bool fin, .int .i64 code, r, d] t)) w') :
    w'.cell? ⟨w.heap.size, 0, none⟩ = some (.int .i64 k) ∧ w'.cell? ⟨w.heap.size, 1, none⟩ = some (.int .i64 id) ∧ w'.cell? ⟨w.heap.size, 2, none⟩ = some (.int .i64 off) ∧ w'.cell? ⟨w.heap.size, 3, none⟩ = some (.bool fin) ∧ w'.cell? ⟨w.heap.size, 4, none⟩ = some (.int .i64 code) ∧ w'.cell? ⟨w.heap.size, 5, none⟩ = some r ∧ w'.cell? ⟨w.heap.size, 6, none⟩ = some d := by
  refine ⟨?_, ?_, ?_, ?_, ?_, ?_, ?_⟩ <;> exact (hb.cell (by simp)).trans (by simp)

set_option maxHeartbeats 6000000 in
theorem inForm_any (v : Value) (f : Fr) (m : Int) (w : World) (h : FrVal w w.heap.size v f) (hr6 : f.rs.length ≤ 6) :
    Calls Try.prog 16 #[v, .int .u64 m] w fun e w' => e = .returned (.bool (inFV m f)) ∧ Below w.heap.size w w' := by
  obtain ⟨r, d, rfl, hr, hd⟩ := h.ex
  obtain ⟨A', n', rfl, _, _, _, _⟩ := hd.ex
  obtain ⟨A, c, hrv, _, _, _⟩ := hr.ex
  subst hrv
  have HW := Lib.hid ((Below.refl w.heap.size w).alloc (Nat.le_refl _) (.cells #[.int .i64 f.kind, .int .i64 f.id, .int .i64 f.off, .bool f.fin, .int .i64 f.code, .slice A f.rs.length c, .slice A' f.data.length n'] 25))
  have HR := Lib.hid ((hr.below HW.out).more HW.out.size)
  have HI := Lib.hid (show inFV m f = (!(decide (0 < f.data.length) && !hasM m 32) && !(f.fin && !hasM m 4) && (decide (0 < f.rs.length) == hasM m 64) && decide (downL f.rs)) from rfl)
  have HD := Lib.hid (downL_iff f.rs)
  have HL := Lib.hid (show f.rs.reverse.length = f.rs.length by simp)
  clear hd hr h
  obtain ⟨k, id, off, fin, code, rs, data⟩ := f
  simp only at hr6 HW HR HI HD HL ⊢
  obtain ⟨n, hnn⟩ : ∃ n : Nat, data.length = n := ⟨_, rfl⟩
  rw [hnn] at HW HR HI ⊢
  clear hnn
  obtain ⟨x, hx⟩ : ∃ x, inFV m ⟨k, id, off, fin, code, rs, data⟩ = x := ⟨_, rfl⟩
  rw [hx]
  have HX := Lib.hid (HI.out.symm.trans hx)
  have HQ := Lib.hid (fun q => HR.out.below (Go.below_drewN (Below.refl _ _) q) : ∀ q, RSl _ _ _ rs)
  clear hx HI
  by_cases c1 : 0 < n ∧ hasM m 32 = false
  · obtain ⟨n1, f1⟩ := c1
    have hv := Lib.hid (show x = false by rw [← HX.out]; simp [n1, f1])
    clear HX HD HL
    go_enter Try.func16, Try.ntmps16
    go_wp2_with (go_at_call 28; refine (hasP_any _ _ _).mono ?_; rintro e w' ⟨rfl, rfl⟩)
    go_ret
    exact ⟨by rw [hv.out]; rfl, HW.out⟩
  have c1' : n = 0 ∨ (0 < n ∧ hasM m 32 = true) := by
    rcases Nat.eq_zero_or_pos n with e | e
    · exact .inl e
    · exact .inr ⟨e, by cases a : hasM m 32; exact absurd ⟨e, a⟩ c1; rfl⟩
  clear c1
  rcases c1' with rfl | ⟨n1, f1⟩
  · cases fin
    · cases f3 : hasM m 64
      · by_cases hj : 0 < rs.length
        · skip
          have hv := Lib.hid (show x = false by rw [← HX.out]; simp [f3, hj])
          clear HX HD HL
          go_enter Try.func16, Try.ntmps16
          go_wp2_with (go_at_call 28; refine (hasP_any _ _ _).mono ?_; rintro e w' ⟨rfl, rfl⟩)
          go_quiet ((go_at_call 28; exact Calls.quiet_of_same ((hasP_any _ _ _).mono fun _ _ ⟨a, b⟩ => ⟨a, b.symm⟩)))
          go_wp2
          go_ret
          exact ⟨by rw [hv.out]; rfl, Go.below_drewN HW.out _⟩
        · obtain rfl : rs = [] := List.eq_nil_of_length_eq_zero (by omega)
          clear hj
          by_cases hok : okL [].reverse
          · have hk := Lib.hid (show ckV [].reverse = 0 from if_pos hok)
            have hv := Lib.hid (show x = true by rw [← HX.out, show decide (downL []) = true from decide_eq_true (HD.out.2 hok)]; simp [f3])
            clear HX HD hok
            go_enter Try.func16, Try.ntmps16
            go_wp2_with (go_at_call 28; refine (hasP_any _ _ _).mono ?_; rintro e w' ⟨rfl, rfl⟩)
            go_quiet ((go_at_call 28; exact Calls.quiet_of_same ((hasP_any _ _ _).mono fun _ _ ⟨a, b⟩ => ⟨a, b.symm⟩)))
            go_wp2_with (first
              | (go_at_call 29; refine (clone_any _ [] _ (HQ.out _) (by first | omega | (simp <;> omega))).mono ?_; rintro e w1 ⟨u, rfl, o1, hb1⟩; have O1 := Lib.hid o1; have B1 := Lib.hid ((Go.below_drewN HW.out _).trans (hb1.mono (Go.below_drewN HW.out _).size)); obtain ⟨A1, c1, hv1, _, _, _⟩ := o1.slice; subst hv1; clear o1 hb1)
              | (go_at_call 30; refine (rev_any _ _ _ _ O1.out).mono ?_; rintro e w2 ⟨rfl, r2, hb2⟩; have R2 := Lib.hid (r2 _ _ _ rfl); have B2 := Lib.hid (B1.out.trans (hb2.mono (Go.below_drewN HW.out _).size)); clear r2 hb2)
              | (go_at_call 31; refine (check_any _ _ _ _ _ R2.out HL.out (by first | omega | (simp <;> omega))).mono ?_; rintro e w3 ⟨rfl, hb3⟩; have B3 := Lib.hid (B2.out.trans (hb3.mono B2.out.size)); clear hb3; rw [hk.out]))
            go_ret
            exact ⟨by rw [hv.out]; rfl, B3.out⟩
          · have hk := Lib.hid (show ckV [].reverse = 3 from if_neg hok)
            have hv := Lib.hid (show x = false by rw [← HX.out, show decide (downL []) = false from decide_eq_false (fun h => hok (HD.out.1 h))]; simp [f3])
            clear HX HD hok
            go_enter Try.func16, Try.ntmps16
            go_wp2_with (go_at_call 28; refine (hasP_any _ _ _).mono ?_; rintro e w' ⟨rfl, rfl⟩)
            go_quiet ((go_at_call 28; exact Calls.quiet_of_same ((hasP_any _ _ _).mono fun _ _ ⟨a, b⟩ => ⟨a, b.symm⟩)))
            go_wp2_with (first
              | (go_at_call 29; refine (clone_any _ [] _ (HQ.out _) (by first | omega | (simp <;> omega))).mono ?_; rintro e w1 ⟨u, rfl, o1, hb1⟩; have O1 := Lib.hid o1; have B1 := Lib.hid ((Go.below_drewN HW.out _).trans (hb1.mono (Go.below_drewN HW.out _).size)); obtain ⟨A1, c1, hv1, _, _, _⟩ := o1.slice; subst hv1; clear o1 hb1)
              | (go_at_call 30; refine (rev_any _ _ _ _ O1.out).mono ?_; rintro e w2 ⟨rfl, r2, hb2⟩; have R2 := Lib.hid (r2 _ _ _ rfl); have B2 := Lib.hid (B1.out.trans (hb2.mono (Go.below_drewN HW.out _).size)); clear r2 hb2)
              | (go_at_call 31; refine (check_any _ _ _ _ _ R2.out HL.out (by first | omega | (simp <;> omega))).mono ?_; rintro e w3 ⟨rfl, hb3⟩; have B3 := Lib.hid (B2.out.trans (hb3.mono B2.out.size)); clear hb3; rw [hk.out]))
            go_ret
            exact ⟨by rw [hv.out]; rfl, B3.out⟩
      · by_cases hj : 0 < rs.length
        · skip
          by_cases hok : okL rs.reverse
          · have hk := Lib.hid (show ckV rs.reverse = 0 from if_pos hok)
            have hv := Lib.hid (show x = true by rw [← HX.out, show decide (downL rs) = true from decide_eq_true (HD.out.2 hok)]; simp [f3, hj])
            clear HX HD hok
            go_enter Try.func16, Try.ntmps16
            go_wp2_with (go_at_call 28; refine (hasP_any _ _ _).mono ?_; rintro e w' ⟨rfl, rfl⟩)
            go_quiet ((go_at_call 28; exact Calls.quiet_of_same ((hasP_any _ _ _).mono fun _ _ ⟨a, b⟩ => ⟨a, b.symm⟩)))
            go_wp2_with (first
              | (go_at_call 29; refine (clone_any _ rs _ (HQ.out _) (by first | omega | (simp <;> omega))).mono ?_; rintro e w1 ⟨u, rfl, o1, hb1⟩; have O1 := Lib.hid o1; have B1 := Lib.hid ((Go.below_drewN HW.out _).trans (hb1.mono (Go.below_drewN HW.out _).size)); obtain ⟨A1, c1, hv1, _, _, _⟩ := o1.slice; subst hv1; clear o1 hb1)
              | (go_at_call 30; refine (rev_any _ _ _ _ O1.out).mono ?_; rintro e w2 ⟨rfl, r2, hb2⟩; have R2 := Lib.hid (r2 _ _ _ rfl); have B2 := Lib.hid (B1.out.trans (hb2.mono (Go.below_drewN HW.out _).size)); clear r2 hb2)
              | (go_at_call 31; refine (check_any _ _ _ _ _ R2.out HL.out (by first | omega | (simp <;> omega))).mono ?_; rintro e w3 ⟨rfl, hb3⟩; have B3 := Lib.hid (B2.out.trans (hb3.mono B2.out.size)); clear hb3; rw [hk.out]))
            go_ret
            exact ⟨by rw [hv.out]; rfl, B3.out⟩
          · have hk := Lib.hid (show ckV rs.reverse = 3 from if_neg hok)
            have hv := Lib.hid (show x = false by rw [← HX.out, show decide (downL rs) = false from decide_eq_false (fun h => hok (HD.out.1 h))]; simp [f3, hj])
            clear HX HD hok
            go_enter Try.func16, Try.ntmps16
            go_wp2_with (go_at_call 28; refine (hasP_any _ _ _).mono ?_; rintro e w' ⟨rfl, rfl⟩)
            go_quiet ((go_at_call 28; exact Calls.quiet_of_same ((hasP_any _ _ _).mono fun _ _ ⟨a, b⟩ => ⟨a, b.symm⟩)))
            go_wp2_with (first
              | (go_at_call 29; refine (clone_any _ rs _ (HQ.out _) (by first | omega | (simp <;> omega))).mono ?_; rintro e w1 ⟨u, rfl, o1, hb1⟩; have O1 := Lib.hid o1; have B1 := Lib.hid ((Go.below_drewN HW.out _).trans (hb1.mono (Go.below_drewN HW.out _).size)); obtain ⟨A1, c1, hv1, _, _, _⟩ := o1.slice; subst hv1; clear o1 hb1)
              | (go_at_call 30; refine (rev_any _ _ _ _ O1.out).mono ?_; rintro e w2 ⟨rfl, r2, hb2⟩; have R2 := Lib.hid (r2 _ _ _ rfl); have B2 := Lib.hid (B1.out.trans (hb2.mono (Go.below_drewN HW.out _).size)); clear r2 hb2)
              | (go_at_call 31; refine (check_any _ _ _ _ _ R2.out HL.out (by first | omega | (simp <;> omega))).mono ?_; rintro e w3 ⟨rfl, hb3⟩; have B3 := Lib.hid (B2.out.trans (hb3.mono B2.out.size)); clear hb3; rw [hk.out]))
            go_ret
            exact ⟨by rw [hv.out]; rfl, B3.out⟩
        · obtain rfl : rs = [] := List.eq_nil_of_length_eq_zero (by omega)
          clear hj
          have hv := Lib.hid (show x = false by rw [← HX.out]; simp [f3])
          clear HX HD HL
          go_enter Try.func16, Try.ntmps16
          go_wp2_with (go_at_call 28; refine (hasP_any _ _ _).mono ?_; rintro e w' ⟨rfl, rfl⟩)
          go_quiet ((go_at_call 28; exact Calls.quiet_of_same ((hasP_any _ _ _).mono fun _ _ ⟨a, b⟩ => ⟨a, b.symm⟩)))
          go_wp2
          go_ret
          exact ⟨by rw [hv.out]; rfl, Go.below_drewN HW.out _⟩
    · cases f2 : hasM m 4
      · skip
        have hv := Lib.hid (show x = false by rw [← HX.out]; simp [f2])
        clear HX HD HL
        go_enter Try.func16, Try.ntmps16
        go_wp2_with (go_at_call 28; refine (hasP_any _ _ _).mono ?_; rintro e w' ⟨rfl, rfl⟩)
        go_ret
        exact ⟨by rw [hv.out]; rfl, HW.out⟩
      · cases f3 : hasM m 64
        · by_cases hj : 0 < rs.length
          · skip
            have hv := Lib.hid (show x = false by rw [← HX.out]; simp [f3, hj])
            clear HX HD HL
            go_enter Try.func16, Try.ntmps16
            go_wp2_with (go_at_call 28; refine (hasP_any _ _ _).mono ?_; rintro e w' ⟨rfl, rfl⟩)
            go_quiet ((go_at_call 28; exact Calls.quiet_of_same ((hasP_any _ _ _).mono fun _ _ ⟨a, b⟩ => ⟨a, b.symm⟩)))
            go_wp2
            go_ret
            exact ⟨by rw [hv.out]; rfl, Go.below_drewN HW.out _⟩
          · obtain rfl : rs = [] := List.eq_nil_of_length_eq_zero (by omega)
            clear hj
            by_cases hok : okL [].reverse
            · have hk := Lib.hid (show ckV [].reverse = 0 from if_pos hok)
              have hv := Lib.hid (show x = true by rw [← HX.out, show decide (downL []) = true from decide_eq_true (HD.out.2 hok)]; simp [f2, f3])
              clear HX HD hok
              go_enter Try.func16, Try.ntmps16
              go_wp2_with (go_at_call 28; refine (hasP_any _ _ _).mono ?_; rintro e w' ⟨rfl, rfl⟩)
              go_quiet ((go_at_call 28; exact Calls.quiet_of_same ((hasP_any _ _ _).mono fun _ _ ⟨a, b⟩ => ⟨a, b.symm⟩)))
              go_wp2_with (first
                | (go_at_call 29; refine (clone_any _ [] _ (HQ.out _) (by first | omega | (simp <;> omega))).mono ?_; rintro e w1 ⟨u, rfl, o1, hb1⟩; have O1 := Lib.hid o1; have B1 := Lib.hid ((Go.below_drewN HW.out _).trans (hb1.mono (Go.below_drewN HW.out _).size)); obtain ⟨A1, c1, hv1, _, _, _⟩ := o1.slice; subst hv1; clear o1 hb1)
                | (go_at_call 30; refine (rev_any _ _ _ _ O1.out).mono ?_; rintro e w2 ⟨rfl, r2, hb2⟩; have R2 := Lib.hid (r2 _ _ _ rfl); have B2 := Lib.hid (B1.out.trans (hb2.mono (Go.below_drewN HW.out _).size)); clear r2 hb2)
                | (go_at_call 31; refine (check_any _ _ _ _ _ R2.out HL.out (by first | omega | (simp <;> omega))).mono ?_; rintro e w3 ⟨rfl, hb3⟩; have B3 := Lib.hid (B2.out.trans (hb3.mono B2.out.size)); clear hb3; rw [hk.out]))
              go_ret
              exact ⟨by rw [hv.out]; rfl, B3.out⟩
            · have hk := Lib.hid (show ckV [].reverse = 3 from if_neg hok)
              have hv := Lib.hid (show x = false by rw [← HX.out, show decide (downL []) = false from decide_eq_false (fun h => hok (HD.out.1 h))]; simp [f2, f3])
              clear HX HD hok
              go_enter Try.func16, Try.ntmps16
              go_wp2_with (go_at_call 28; refine (hasP_any _ _ _).mono ?_; rintro e w' ⟨rfl, rfl⟩)
              go_quiet ((go_at_call 28; exact Calls.quiet_of_same ((hasP_any _ _ _).mono fun _ _ ⟨a, b⟩ => ⟨a, b.symm⟩)))
              go_wp2_with (first
                | (go_at_call 29; refine (clone_any _ [] _ (HQ.out _) (by first | omega | (simp <;> omega))).mono ?_; rintro e w1 ⟨u, rfl, o1, hb1⟩; have O1 := Lib.hid o1; have B1 := Lib.hid ((Go.below_drewN HW.out _).trans (hb1.mono (Go.below_drewN HW.out _).size)); obtain ⟨A1, c1, hv1, _, _, _⟩ := o1.slice; subst hv1; clear o1 hb1)
                | (go_at_call 30; refine (rev_any _ _ _ _ O1.out).mono ?_; rintro e w2 ⟨rfl, r2, hb2⟩; have R2 := Lib.hid (r2 _ _ _ rfl); have B2 := Lib.hid (B1.out.trans (hb2.mono (Go.below_drewN HW.out _).size)); clear r2 hb2)
                | (go_at_call 31; refine (check_any _ _ _ _ _ R2.out HL.out (by first | omega | (simp <;> omega))).mono ?_; rintro e w3 ⟨rfl, hb3⟩; have B3 := Lib.hid (B2.out.trans (hb3.mono B2.out.size)); clear hb3; rw [hk.out]))
              go_ret
              exact ⟨by rw [hv.out]; rfl, B3.out⟩
        · by_cases hj : 0 < rs.length
          · skip
            by_cases hok : okL rs.reverse
            · have hk := Lib.hid (show ckV rs.reverse = 0 from if_pos hok)
              have hv := Lib.hid (show x = true by rw [← HX.out, show decide (downL rs) = true from decide_eq_true (HD.out.2 hok)]; simp [f2, f3, hj])
              clear HX HD hok
              go_enter Try.func16, Try.ntmps16
              go_wp2_with (go_at_call 28; refine (hasP_any _ _ _).mono ?_; rintro e w' ⟨rfl, rfl⟩)
              go_quiet ((go_at_call 28; exact Calls.quiet_of_same ((hasP_any _ _ _).mono fun _ _ ⟨a, b⟩ => ⟨a, b.symm⟩)))
              go_wp2_with (first
                | (go_at_call 29; refine (clone_any _ rs _ (HQ.out _) (by first | omega | (simp <;> omega))).mono ?_; rintro e w1 ⟨u, rfl, o1, hb1⟩; have O1 := Lib.hid o1; have B1 := Lib.hid ((Go.below_drewN HW.out _).trans (hb1.mono (Go.below_drewN HW.out _).size)); obtain ⟨A1, c1, hv1, _, _, _⟩ := o1.slice; subst hv1; clear o1 hb1)
                | (go_at_call 30; refine (rev_any _ _ _ _ O1.out).mono ?_; rintro e w2 ⟨rfl, r2, hb2⟩; have R2 := Lib.hid (r2 _ _ _ rfl); have B2 := Lib.hid (B1.out.trans (hb2.mono (Go.below_drewN HW.out _).size)); clear r2 hb2)
                | (go_at_call 31; refine (check_any _ _ _ _ _ R2.out HL.out (by first | omega | (simp <;> omega))).mono ?_; rintro e w3 ⟨rfl, hb3⟩; have B3 := Lib.hid (B2.out.trans (hb3.mono B2.out.size)); clear hb3; rw [hk.out]))
              go_ret
              exact ⟨by rw [hv.out]; rfl, B3.out⟩
            · have hk := Lib.hid (show ckV rs.reverse = 3 from if_neg hok)
              have hv := Lib.hid (show x = false by rw [← HX.out, show decide (downL rs) = false from decide_eq_false (fun h => hok (HD.out.1 h))]; simp [f2, f3, hj])
              clear HX HD hok
              go_enter Try.func16, Try.ntmps16
              go_wp2_with (go_at_call 28; refine (hasP_any _ _ _).mono ?_; rintro e w' ⟨rfl, rfl⟩)
              go_quiet ((go_at_call 28; exact Calls.quiet_of_same ((hasP_any _ _ _).mono fun _ _ ⟨a, b⟩ => ⟨a, b.symm⟩)))
              go_wp2_with (first
                | (go_at_call 29; refine (clone_any _ rs _ (HQ.out _) (by first | omega | (simp <;> omega))).mono ?_; rintro e w1 ⟨u, rfl, o1, hb1⟩; have O1 := Lib.hid o1; have B1 := Lib.hid ((Go.below_drewN HW.out _).trans (hb1.mono (Go.below_drewN HW.out _).size)); obtain ⟨A1, c1, hv1, _, _, _⟩ := o1.slice; subst hv1; clear o1 hb1)
                | (go_at_call 30; refine (rev_any _ _ _ _ O1.out).mono ?_; rintro e w2 ⟨rfl, r2, hb2⟩; have R2 := Lib.hid (r2 _ _ _ rfl); have B2 := Lib.hid (B1.out.trans (hb2.mono (Go.below_drewN HW.out _).size)); clear r2 hb2)
                | (go_at_call 31; refine (check_any _ _ _ _ _ R2.out HL.out (by first | omega | (simp <;> omega))).mono ?_; rintro e w3 ⟨rfl, hb3⟩; have B3 := Lib.hid (B2.out.trans (hb3.mono B2.out.size)); clear hb3; rw [hk.out]))
              go_ret
              exact ⟨by rw [hv.out]; rfl, B3.out⟩
          · obtain rfl : rs = [] := List.eq_nil_of_length_eq_zero (by omega)
            clear hj
            have hv := Lib.hid (show x = false by rw [← HX.out]; simp [f3])
            clear HX HD HL
            go_enter Try.func16, Try.ntmps16
            go_wp2_with (go_at_call 28; refine (hasP_any _ _ _).mono ?_; rintro e w' ⟨rfl, rfl⟩)
            go_quiet ((go_at_call 28; exact Calls.quiet_of_same ((hasP_any _ _ _).mono fun _ _ ⟨a, b⟩ => ⟨a, b.symm⟩)))
            go_wp2
            go_ret
            exact ⟨by rw [hv.out]; rfl, Go.below_drewN HW.out _⟩
  · cases fin
    · cases f3 : hasM m 64
      · by_cases hj : 0 < rs.length
        · skip
          have hv := Lib.hid (show x = false by rw [← HX.out]; simp [f3, hj])
          clear HX HD HL
          go_enter Try.func16, Try.ntmps16
          go_wp2_with (go_at_call 28; refine (hasP_any _ _ _).mono ?_; rintro e w' ⟨rfl, rfl⟩)
          go_quiet ((go_at_call 28; exact Calls.quiet_of_same ((hasP_any _ _ _).mono fun _ _ ⟨a, b⟩ => ⟨a, b.symm⟩)))
          go_wp2
          go_ret
          exact ⟨by rw [hv.out]; rfl, Go.below_drewN HW.out _⟩
        · obtain rfl : rs = [] := List.eq_nil_of_length_eq_zero (by omega)
          clear hj
          by_cases hok : okL [].reverse
          · have hk := Lib.hid (show ckV [].reverse = 0 from if_pos hok)
            have hv := Lib.hid (show x = true by rw [← HX.out, show decide (downL []) = true from decide_eq_true (HD.out.2 hok)]; simp [n1, f1, f3])
            clear HX HD hok
            go_enter Try.func16, Try.ntmps16
            go_wp2_with (go_at_call 28; refine (hasP_any _ _ _).mono ?_; rintro e w' ⟨rfl, rfl⟩)
            go_quiet ((go_at_call 28; exact Calls.quiet_of_same ((hasP_any _ _ _).mono fun _ _ ⟨a, b⟩ => ⟨a, b.symm⟩)))
            go_wp2_with (first
              | (go_at_call 29; refine (clone_any _ [] _ (HQ.out _) (by first | omega | (simp <;> omega))).mono ?_; rintro e w1 ⟨u, rfl, o1, hb1⟩; have O1 := Lib.hid o1; have B1 := Lib.hid ((Go.below_drewN HW.out _).trans (hb1.mono (Go.below_drewN HW.out _).size)); obtain ⟨A1, c1, hv1, _, _, _⟩ := o1.slice; subst hv1; clear o1 hb1)
              | (go_at_call 30; refine (rev_any _ _ _ _ O1.out).mono ?_; rintro e w2 ⟨rfl, r2, hb2⟩; have R2 := Lib.hid (r2 _ _ _ rfl); have B2 := Lib.hid (B1.out.trans (hb2.mono (Go.below_drewN HW.out _).size)); clear r2 hb2)
              | (go_at_call 31; refine (check_any _ _ _ _ _ R2.out HL.out (by first | omega | (simp <;> omega))).mono ?_; rintro e w3 ⟨rfl, hb3⟩; have B3 := Lib.hid (B2.out.trans (hb3.mono B2.out.size)); clear hb3; rw [hk.out]))
            go_ret
            exact ⟨by rw [hv.out]; rfl, B3.out⟩
          · have hk := Lib.hid (show ckV [].reverse = 3 from if_neg hok)
            have hv := Lib.hid (show x = false by rw [← HX.out, show decide (downL []) = false from decide_eq_false (fun h => hok (HD.out.1 h))]; simp [n1, f1, f3])
            clear HX HD hok
            go_enter Try.func16, Try.ntmps16
            go_wp2_with (go_at_call 28; refine (hasP_any _ _ _).mono ?_; rintro e w' ⟨rfl, rfl⟩)
            go_quiet ((go_at_call 28; exact Calls.quiet_of_same ((hasP_any _ _ _).mono fun _ _ ⟨a, b⟩ => ⟨a, b.symm⟩)))
            go_wp2_with (first
              | (go_at_call 29; refine (clone_any _ [] _ (HQ.out _) (by first | omega | (simp <;> omega))).mono ?_; rintro e w1 ⟨u, rfl, o1, hb1⟩; have O1 := Lib.hid o1; have B1 := Lib.hid ((Go.below_drewN HW.out _).trans (hb1.mono (Go.below_drewN HW.out _).size)); obtain ⟨A1, c1, hv1, _, _, _⟩ := o1.slice; subst hv1; clear o1 hb1)
              | (go_at_call 30; refine (rev_any _ _ _ _ O1.out).mono ?_; rintro e w2 ⟨rfl, r2, hb2⟩; have R2 := Lib.hid (r2 _ _ _ rfl); have B2 := Lib.hid (B1.out.trans (hb2.mono (Go.below_drewN HW.out _).size)); clear r2 hb2)
              | (go_at_call 31; refine (check_any _ _ _ _ _ R2.out HL.out (by first | omega | (simp <;> omega))).mono ?_; rintro e w3 ⟨rfl, hb3⟩; have B3 := Lib.hid (B2.out.trans (hb3.mono B2.out.size)); clear hb3; rw [hk.out]))
            go_ret
            exact ⟨by rw [hv.out]; rfl, B3.out⟩
      · by_cases hj : 0 < rs.length
        · skip
          by_cases hok : okL rs.reverse
          · have hk := Lib.hid (show ckV rs.reverse = 0 from if_pos hok)
            have hv := Lib.hid (show x = true by rw [← HX.out, show decide (downL rs) = true from decide_eq_true (HD.out.2 hok)]; simp [n1, f1, f3, hj])
            clear HX HD hok
            go_enter Try.func16, Try.ntmps16
            go_wp2_with (go_at_call 28; refine (hasP_any _ _ _).mono ?_; rintro e w' ⟨rfl, rfl⟩)
            go_quiet ((go_at_call 28; exact Calls.quiet_of_same ((hasP_any _ _ _).mono fun _ _ ⟨a, b⟩ => ⟨a, b.symm⟩)))
            go_wp2_with (first
              | (go_at_call 29; refine (clone_any _ rs _ (HQ.out _) (by first | omega | (simp <;> omega))).mono ?_; rintro e w1 ⟨u, rfl, o1, hb1⟩; have O1 := Lib.hid o1; have B1 := Lib.hid ((Go.below_drewN HW.out _).trans (hb1.mono (Go.below_drewN HW.out _).size)); obtain ⟨A1, c1, hv1, _, _, _⟩ := o1.slice; subst hv1; clear o1 hb1)
              | (go_at_call 30; refine (rev_any _ _ _ _ O1.out).mono ?_; rintro e w2 ⟨rfl, r2, hb2⟩; have R2 := Lib.hid (r2 _ _ _ rfl); have B2 := Lib.hid (B1.out.trans (hb2.mono (Go.below_drewN HW.out _).size)); clear r2 hb2)
              | (go_at_call 31; refine (check_any _ _ _ _ _ R2.out HL.out (by first | omega | (simp <;> omega))).mono ?_; rintro e w3 ⟨rfl, hb3⟩; have B3 := Lib.hid (B2.out.trans (hb3.mono B2.out.size)); clear hb3; rw [hk.out]))
            go_ret
            exact ⟨by rw [hv.out]; rfl, B3.out⟩
          · have hk := Lib.hid (show ckV rs.reverse = 3 from if_neg hok)
            have hv := Lib.hid (show x = false by rw [← HX.out, show decide (downL rs) = false from decide_eq_false (fun h => hok (HD.out.1 h))]; simp [n1, f1, f3, hj])
            clear HX HD hok
            go_enter Try.func16, Try.ntmps16
            go_wp2_with (go_at_call 28; refine (hasP_any _ _ _).mono ?_; rintro e w' ⟨rfl, rfl⟩)
            go_quiet ((go_at_call 28; exact Calls.quiet_of_same ((hasP_any _ _ _).mono fun _ _ ⟨a, b⟩ => ⟨a, b.symm⟩)))
            go_wp2_with (first
              | (go_at_call 29; refine (clone_any _ rs _ (HQ.out _) (by first | omega | (simp <;> omega))).mono ?_; rintro e w1 ⟨u, rfl, o1, hb1⟩; have O1 := Lib.hid o1; have B1 := Lib.hid ((Go.below_drewN HW.out _).trans (hb1.mono (Go.below_drewN HW.out _).size)); obtain ⟨A1, c1, hv1, _, _, _⟩ := o1.slice; subst hv1; clear o1 hb1)
              | (go_at_call 30; refine (rev_any _ _ _ _ O1.out).mono ?_; rintro e w2 ⟨rfl, r2, hb2⟩; have R2 := Lib.hid (r2 _ _ _ rfl); have B2 := Lib.hid (B1.out.trans (hb2.mono (Go.below_drewN HW.out _).size)); clear r2 hb2)
              | (go_at_call 31; refine (check_any _ _ _ _ _ R2.out HL.out (by first | omega | (simp <;> omega))).mono ?_; rintro e w3 ⟨rfl, hb3⟩; have B3 := Lib.hid (B2.out.trans (hb3.mono B2.out.size)); clear hb3; rw [hk.out]))
            go_ret
            exact ⟨by rw [hv.out]; rfl, B3.out⟩
        · obtain rfl : rs = [] := List.eq_nil_of_length_eq_zero (by omega)
          clear hj
          have hv := Lib.hid (show x = false by rw [← HX.out]; simp [f3])
          clear HX HD HL
          go_enter Try.func16, Try.ntmps16
          go_wp2_with (go_at_call 28; refine (hasP_any _ _ _).mono ?_; rintro e w' ⟨rfl, rfl⟩)
          go_quiet ((go_at_call 28; exact Calls.quiet_of_same ((hasP_any _ _ _).mono fun _ _ ⟨a, b⟩ => ⟨a, b.symm⟩)))
          go_wp2
          go_ret
          exact ⟨by rw [hv.out]; rfl, Go.below_drewN HW.out _⟩
    · cases f2 : hasM m 4
      · skip
        have hv := Lib.hid (show x = false by rw [← HX.out]; simp [f2])
        clear HX HD HL
        go_enter Try.func16, Try.ntmps16
        go_wp2_with (go_at_call 28; refine (hasP_any _ _ _).mono ?_; rintro e w' ⟨rfl, rfl⟩)
        go_ret
        exact ⟨by rw [hv.out]; rfl, HW.out⟩
      · cases f3 : hasM m 64
        · by_cases hj : 0 < rs.length
          · skip
            have hv := Lib.hid (show x = false by rw [← HX.out]; simp [f3, hj])
            clear HX HD HL
            go_enter Try.func16, Try.ntmps16
            go_wp2_with (go_at_call 28; refine (hasP_any _ _ _).mono ?_; rintro e w' ⟨rfl, rfl⟩)
            go_quiet ((go_at_call 28; exact Calls.quiet_of_same ((hasP_any _ _ _).mono fun _ _ ⟨a, b⟩ => ⟨a, b.symm⟩)))
            go_wp2
            go_ret
            exact ⟨by rw [hv.out]; rfl, Go.below_drewN HW.out _⟩
          · obtain rfl : rs = [] := List.eq_nil_of_length_eq_zero (by omega)
            clear hj
            by_cases hok : okL [].reverse
            · have hk := Lib.hid (show ckV [].reverse = 0 from if_pos hok)
              have hv := Lib.hid (show x = true by rw [← HX.out, show decide (downL []) = true from decide_eq_true (HD.out.2 hok)]; simp [n1, f1, f2, f3])
              clear HX HD hok
              go_enter Try.func16, Try.ntmps16
              go_wp2_with (go_at_call 28; refine (hasP_any _ _ _).mono ?_; rintro e w' ⟨rfl, rfl⟩)
              go_quiet ((go_at_call 28; exact Calls.quiet_of_same ((hasP_any _ _ _).mono fun _ _ ⟨a, b⟩ => ⟨a, b.symm⟩)))
              go_wp2_with (first
                | (go_at_call 29; refine (clone_any _ [] _ (HQ.out _) (by first | omega | (simp <;> omega))).mono ?_; rintro e w1 ⟨u, rfl, o1, hb1⟩; have O1 := Lib.hid o1; have B1 := Lib.hid ((Go.below_drewN HW.out _).trans (hb1.mono (Go.below_drewN HW.out _).size)); obtain ⟨A1, c1, hv1, _, _, _⟩ := o1.slice; subst hv1; clear o1 hb1)
                | (go_at_call 30; refine (rev_any _ _ _ _ O1.out).mono ?_; rintro e w2 ⟨rfl, r2, hb2⟩; have R2 := Lib.hid (r2 _ _ _ rfl); have B2 := Lib.hid (B1.out.trans (hb2.mono (Go.below_drewN HW.out _).size)); clear r2 hb2)
                | (go_at_call 31; refine (check_any _ _ _ _ _ R2.out HL.out (by first | omega | (simp <;> omega))).mono ?_; rintro e w3 ⟨rfl, hb3⟩; have B3 := Lib.hid (B2.out.trans (hb3.mono B2.out.size)); clear hb3; rw [hk.out]))
              go_ret
              exact ⟨by rw [hv.out]; rfl, B3.out⟩
            · have hk := Lib.hid (show ckV [].reverse = 3 from if_neg hok)
              have hv := Lib.hid (show x = false by rw [← HX.out, show decide (downL []) = false from decide_eq_false (fun h => hok (HD.out.1 h))]; simp [n1, f1, f2, f3])
              clear HX HD hok
              go_enter Try.func16, Try.ntmps16
              go_wp2_with (go_at_call 28; refine (hasP_any _ _ _).mono ?_; rintro e w' ⟨rfl, rfl⟩)
              go_quiet ((go_at_call 28; exact Calls.quiet_of_same ((hasP_any _ _ _).mono fun _ _ ⟨a, b⟩ => ⟨a, b.symm⟩)))
              go_wp2_with (first
                | (go_at_call 29; refine (clone_any _ [] _ (HQ.out _) (by first | omega | (simp <;> omega))).mono ?_; rintro e w1 ⟨u, rfl, o1, hb1⟩; have O1 := Lib.hid o1; have B1 := Lib.hid ((Go.below_drewN HW.out _).trans (hb1.mono (Go.below_drewN HW.out _).size)); obtain ⟨A1, c1, hv1, _, _, _⟩ := o1.slice; subst hv1; clear o1 hb1)
                | (go_at_call 30; refine (rev_any _ _ _ _ O1.out).mono ?_; rintro e w2 ⟨rfl, r2, hb2⟩; have R2 := Lib.hid (r2 _ _ _ rfl); have B2 := Lib.hid (B1.out.trans (hb2.mono (Go.below_drewN HW.out _).size)); clear r2 hb2)
                | (go_at_call 31; refine (check_any _ _ _ _ _ R2.out HL.out (by first | omega | (simp <;> omega))).mono ?_; rintro e w3 ⟨rfl, hb3⟩; have B3 := Lib.hid (B2.out.trans (hb3.mono B2.out.size)); clear hb3; rw [hk.out]))
              go_ret
              exact ⟨by rw [hv.out]; rfl, B3.out⟩
        · by_cases hj : 0 < rs.length
          · skip
            by_cases hok : okL rs.reverse
            · have hk := Lib.hid (show ckV rs.reverse = 0 from if_pos hok)
              have hv := Lib.hid (show x = true by rw [← HX.out, show decide (downL rs) = true from decide_eq_true (HD.out.2 hok)]; simp [n1, f1, f2, f3, hj])
              clear HX HD hok
              go_enter Try.func16, Try.ntmps16
              go_wp2_with (go_at_call 28; refine (hasP_any _ _ _).mono ?_; rintro e w' ⟨rfl, rfl⟩)
              go_quiet ((go_at_call 28; exact Calls.quiet_of_same ((hasP_any _ _ _).mono fun _ _ ⟨a, b⟩ => ⟨a, b.symm⟩)))
              go_wp2_with (first
                | (go_at_call 29; refine (clone_any _ rs _ (HQ.out _) (by first | omega | (simp <;> omega))).mono ?_; rintro e w1 ⟨u, rfl, o1, hb1⟩; have O1 := Lib.hid o1; have B1 := Lib.hid ((Go.below_drewN HW.out _).trans (hb1.mono (Go.below_drewN HW.out _).size)); obtain ⟨A1, c1, hv1, _, _, _⟩ := o1.slice; subst hv1; clear o1 hb1)
                | (go_at_call 30; refine (rev_any _ _ _ _ O1.out).mono ?_; rintro e w2 ⟨rfl, r2, hb2⟩; have R2 := Lib.hid (r2 _ _ _ rfl); have B2 := Lib.hid (B1.out.trans (hb2.mono (Go.below_drewN HW.out _).size)); clear r2 hb2)
                | (go_at_call 31; refine (check_any _ _ _ _ _ R2.out HL.out (by first | omega | (simp <;> omega))).mono ?_; rintro e w3 ⟨rfl, hb3⟩; have B3 := Lib.hid (B2.out.trans (hb3.mono B2.out.size)); clear hb3; rw [hk.out]))
              go_ret
              exact ⟨by rw [hv.out]; rfl, B3.out⟩
            · have hk := Lib.hid (show ckV rs.reverse = 3 from if_neg hok)
              have hv := Lib.hid (show x = false by rw [← HX.out, show decide (downL rs) = false from decide_eq_false (fun h => hok (HD.out.1 h))]; simp [n1, f1, f2, f3, hj])
              clear HX HD hok
              go_enter Try.func16, Try.ntmps16
              go_wp2_with (go_at_call 28; refine (hasP_any _ _ _).mono ?_; rintro e w' ⟨rfl, rfl⟩)
              go_quiet ((go_at_call 28; exact Calls.quiet_of_same ((hasP_any _ _ _).mono fun _ _ ⟨a, b⟩ => ⟨a, b.symm⟩)))
              go_wp2_with (first
                | (go_at_call 29; refine (clone_any _ rs _ (HQ.out _) (by first | omega | (simp <;> omega))).mono ?_; rintro e w1 ⟨u, rfl, o1, hb1⟩; have O1 := Lib.hid o1; have B1 := Lib.hid ((Go.below_drewN HW.out _).trans (hb1.mono (Go.below_drewN HW.out _).size)); obtain ⟨A1, c1, hv1, _, _, _⟩ := o1.slice; subst hv1; clear o1 hb1)
                | (go_at_call 30; refine (rev_any _ _ _ _ O1.out).mono ?_; rintro e w2 ⟨rfl, r2, hb2⟩; have R2 := Lib.hid (r2 _ _ _ rfl); have B2 := Lib.hid (B1.out.trans (hb2.mono (Go.below_drewN HW.out _).size)); clear r2 hb2)
                | (go_at_call 31; refine (check_any _ _ _ _ _ R2.out HL.out (by first | omega | (simp <;> omega))).mono ?_; rintro e w3 ⟨rfl, hb3⟩; have B3 := Lib.hid (B2.out.trans (hb3.mono B2.out.size)); clear hb3; rw [hk.out]))
              go_ret
              exact ⟨by rw [hv.out]; rfl, B3.out⟩
          · obtain rfl : rs = [] := List.eq_nil_of_length_eq_zero (by omega)
            clear hj
            have hv := Lib.hid (show x = false by rw [← HX.out]; simp [f3])
            clear HX HD HL
            go_enter Try.func16, Try.ntmps16
            go_wp2_with (go_at_call 28; refine (hasP_any _ _ _).mono ?_; rintro e w' ⟨rfl, rfl⟩)
            go_quiet ((go_at_call 28; exact Calls.quiet_of_same ((hasP_any _ _ _).mono fun _ _ ⟨a, b⟩ => ⟨a, b.symm⟩)))
            go_wp2
            go_ret
            exact ⟨by rw [hv.out]; rfl, Go.below_drewN HW.out _⟩
end Go.Proofs.Ytjeocggocloigaa
/- Contract of package frame: Check. -/
namespace Go.Proofs.Ytjeocggocloigaa
set_option linter.unusedVariables false
open Go.RowKit P

set_option maxHeartbeats 2000000 in
theorem frCheck_any (v : Value) (f : Fr) (w : World) (h : FrVal w w.heap.size v f) :
    Calls Try.prog 6 #[v] w fun e w' => e = .returned (.int .i64 (faultF f)) ∧ Below w.heap.size w w' := by
  obtain ⟨r, d, rfl, hr, hd⟩ := h.ex
  obtain ⟨A', n', hdv, _, _, _, _⟩ := hd.ex
  obtain ⟨A, c, hrv, _, _, _⟩ := hr.ex
  subst hrv hdv
  have HF0 := Lib.hid (fun h => faultF_no (f := f) h)
  have HF1 := Lib.hid (fun s h => faultF_some (f := f) (s := s) h)
  have HW := Lib.hid ((Below.refl w.heap.size w).alloc (Nat.le_refl _) (.cells #[.int .i64 f.kind, .int .i64 f.id, .int .i64 f.off, .bool f.fin, .int .i64 f.code, .slice A f.rs.length c, .slice A' f.data.length n'] 25))
  have HV := Lib.hid (h.on HW.out)
  clear hr hd h
  obtain ⟨x, hx⟩ : ∃ x, faultF f = x := ⟨_, rfl⟩
  rw [hx] at HF0 HF1 ⊢
  clear hx
  obtain ⟨k, id, off, fin, code, rs, data⟩ := f
  simp only at HF0 HF1 HW HV ⊢
  cases hp : partsOf k with
  | none =>
    have hs : (partsOf k).isSome = false := by rw [hp]; rfl
    have hv := Lib.hid (HF0.out hp)
    clear HF0 HF1 hp HV
    go_enter Try.func6, Try.ntmps6
    go_wp2_with (go_at_call 14; refine (partsOf_any _ _).mono ?_; rintro e w' ⟨rfl, rfl⟩)
    go_ret
    exact ⟨by rw [hv.out]; rfl, HW.out⟩
  | some s =>
    have hs : (partsOf k).isSome = true := by rw [hp]; rfl
    have hv := Lib.hid (HF1.out s hp)
    clear HF0 HF1 hp
    by_cases c1 : 120 < data.length
    · rw [if_pos (.inl c1)] at hv
      clear HV
      go_enter Try.func6, Try.ntmps6
      go_wp2_with (go_at_call 14; refine (partsOf_any _ _).mono ?_; rintro e w' ⟨rfl, rfl⟩)
      go_ret
      exact ⟨by rw [hv.out]; rfl, HW.out⟩
    by_cases c2 : 6 < rs.length
    · rw [if_pos (.inr c2)] at hv
      clear HV
      go_enter Try.func6, Try.ntmps6
      go_wp2_with (go_at_call 14; refine (partsOf_any _ _).mono ?_; rintro e w' ⟨rfl, rfl⟩)
      go_ret
      exact ⟨by rw [hv.out]; rfl, HW.out⟩
    rw [if_neg (by omega)] at hv
    obtain ⟨b1, g1⟩ : ∃ b, inBV (maskOf k) id off code data.length = b := ⟨_, rfl⟩
    obtain ⟨b2, g2⟩ : ∃ b, inFV (maskOf k) ⟨k, id, off, fin, code, rs, data⟩ = b := ⟨_, rfl⟩
    rw [g1, g2] at hv
    have G1 := Lib.hid g1
    have G2 := Lib.hid g2
    clear g1 g2
    cases b1
    · rw [if_pos rfl] at hv
      go_enter Try.func6, Try.ntmps6
      go_wp2_with (first
        | (go_at_call 14; refine (partsOf_any _ _).mono ?_; rintro e w' ⟨rfl, rfl⟩)
        | (go_at_call 15; refine (inBounds_any _ _ _ _ HV.out (show data.length ≤ 120 by omega)).mono ?_; rintro e w1 ⟨he, hb1⟩; obtain rfl : e = .returned (.bool false) := he.trans (congrArg (fun b => Ending.returned (.bool b)) G1.out); have HB1 := Lib.hid (HW.out.trans (hb1.mono HW.out.size)); clear hb1 he))
      go_ret
      exact ⟨by rw [hv.out]; rfl, HB1.out⟩
    · rw [if_neg (by decide : ¬ true = false)] at hv
      cases b2
      · rw [if_pos rfl] at hv
        go_enter Try.func6, Try.ntmps6
        go_wp2_with (first
          | (go_at_call 14; refine (partsOf_any _ _).mono ?_; rintro e w' ⟨rfl, rfl⟩)
          | (go_at_call 15; refine (inBounds_any _ _ _ _ HV.out (show data.length ≤ 120 by omega)).mono ?_; rintro e w1 ⟨he, hb1⟩; obtain rfl : e = .returned (.bool true) := he.trans (congrArg (fun b => Ending.returned (.bool b)) G1.out); have HB1 := Lib.hid (HW.out.trans (hb1.mono HW.out.size)); have HV1 := Lib.hid (HV.out.on hb1); obtain ⟨d0, d1, d2, d3, d4, d5, d6⟩ := seven hb1; clear hb1 he)
          | (go_at_call 16; refine (inForm_any _ _ _ _ HV1.out (show rs.length ≤ 6 by omega)).mono ?_; rintro e w2 ⟨he2, hb2⟩; obtain rfl : e = .returned (.bool false) := he2.trans (congrArg (fun b => Ending.returned (.bool b)) G2.out); have HB2 := Lib.hid (HB1.out.trans (hb2.mono HB1.out.size)); clear hb2 he2))
        go_ret
        exact ⟨by rw [hv.out]; rfl, HB2.out⟩
      · rw [if_neg (by decide : ¬ true = false)] at hv
        go_enter Try.func6, Try.ntmps6
        go_wp2_with (first
          | (go_at_call 14; refine (partsOf_any _ _).mono ?_; rintro e w' ⟨rfl, rfl⟩)
          | (go_at_call 15; refine (inBounds_any _ _ _ _ HV.out (show data.length ≤ 120 by omega)).mono ?_; rintro e w1 ⟨he, hb1⟩; obtain rfl : e = .returned (.bool true) := he.trans (congrArg (fun b => Ending.returned (.bool b)) G1.out); have HB1 := Lib.hid (HW.out.trans (hb1.mono HW.out.size)); have HV1 := Lib.hid (HV.out.on hb1); obtain ⟨d0, d1, d2, d3, d4, d5, d6⟩ := seven hb1; clear hb1 he)
          | (go_at_call 16; refine (inForm_any _ _ _ _ HV1.out (show rs.length ≤ 6 by omega)).mono ?_; rintro e w2 ⟨he2, hb2⟩; obtain rfl : e = .returned (.bool true) := he2.trans (congrArg (fun b => Ending.returned (.bool b)) G2.out); have HB2 := Lib.hid (HB1.out.trans (hb2.mono HB1.out.size)); clear hb2 he2))
        go_ret
        exact ⟨by rw [hv.out]; rfl, HB2.out⟩
end Go.Proofs.Ytjeocggocloigaa
