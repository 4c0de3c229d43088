/- slices.Reverse and slices.Clone on ranges, by their contracts. -/
import Derived.Test.YtjeocggocloigaaRngChk
import Derived.Test.YtjeocggocloigaaFrVal
import Derived.Shelf.SlicesQ.Reverse
import Derived.Lib.SliceRun
namespace Go.Proofs.Ytjeocggocloigaa
set_option linter.unusedVariables false
open Go.Shelf Go.Proofs Go.RowKit P

def rvRen : Go.Shelf.Ren := ⟨fun | 35 => 30 | n => n, fun | 0 => 0 | 3 => 3 | 4 => 4 | 22 => 22 | 23 => 51 | n => n, fun n => n⟩
theorem rv : SlLaysE0.n35 Try.prog rvRen := {
  mixed := by kernel_rfl
  f35 := ⟨"slices.Reverse[[]spillway/api.Range,spillway/api.Range]", by decide, Try.func30.trans (congrArg some (by kernel_rfl))⟩
  t0 := Try.underlying0
  a0 := Try.isAgg0
  z0 := Try.sizeOf0
  v0 := Try.zeroValue0
  t3 := Try.underlying3
  a3 := Try.isAgg3
  z3 := Try.sizeOf3
  v3 := Try.zeroValue3
  t4 := Try.underlying4
  a4 := Try.isAgg4
  z4 := Try.sizeOf4
  v4 := Try.zeroValue4
  t22 := Try.underlying22
  a22 := Try.isAgg22
  z22 := Try.sizeOf22
  v22 := Try.zeroValue22
}
def encR2 (p : Int × Int) : List Value := [.int .i64 p.1, .int .i64 p.2]
/-- an owned row of ranges, as the sort's kit has it -/
theorem holds_own2 {w : World} {base e g c : Nat} {ps : List (Int × Int)} (h : OwnR w base e (.slice (some ⟨g, 0, none⟩) ps.length c) ps) : Sort.HoldsK encR2 2 w g 0 ps.toArray := by
  intro j hj
  rw [Sort.size_flatK] at hj
  have hj' : j < ps.length * 2 := by simpa using hj
  have hp : 0 < ps.length := by omega
  obtain ⟨b, off, e1, _, hc⟩ := (own_rrow h).1 hp
  have e2 : b = g ∧ off = 0 := by simp at e1; exact ⟨e1.1.symm, e1.2.symm⟩
  obtain ⟨rfl, rfl⟩ := e2
  have hfz : w.frozen? ⟨b, 0 + j, none⟩ = false := by
    rcases h.2 with ⟨hv, _⟩ | ⟨g', cap, cur, hv, _, hh, _⟩
    · cases hv
    · have : g' = b := by simp at hv; exact hv.1.symm
      subst this
      simp [World.frozen?, hh]
  refine ⟨?_, hfz⟩
  rw [Sort.get_flatK _ _ _ _ hj]
  have hh := hc (j / 2) (by omega)
  have hget : (ps.toArray)[j / 2]! = ps.getD (j / 2) (0, 0) := by
    rw [List.getD_eq_getElem?_getD]
    simp [List.getElem?_eq_getElem (show j / 2 < ps.length by omega), Array.getElem!_eq_getD, Array.getD, show j / 2 < ps.length by omega]
  rw [hget]
  rcases Nat.mod_two_eq_zero_or_one j with m | m
  · rw [m, show 0 + j = 0 + j / 2 * 2 by omega, hh.1]; rfl
  · rw [m, show 0 + j = 0 + j / 2 * 2 + 1 by omega, hh.2]; rfl

theorem rev_any (base : Nat) (v : Value) (ps : List (Int × Int)) (w : World) (h : OwnR w base 51 v ps) :
    Calls Try.prog 30 #[v] w fun e w' => e = .returned (.tuple #[]) ∧ (∀ A n c, v = .slice A n c → RRow w' w'.heap.size A ps.reverse) ∧ Below base w w' := by
  rcases h.2 with ⟨rfl, h0⟩ | ⟨g, cap, cur, rfl, hb, hg, _, hm, _⟩
  · have e0 : ps = [] := List.eq_nil_of_length_eq_zero h0
    subst e0
    have := AnyQ.slices_Reverse_empty rv none 0 w
    change Calls Try.prog 30 _ _ _ at this
    refine this.mono ?_
    rintro e w' ⟨rfl, rfl⟩
    exact ⟨rfl, fun A n c _ => RRow.nil _ _ _, Below.refl _ _⟩
  · have hH : Sort.HoldsK encR2 2 w g 0 ps.toArray := holds_own2 h
    have hlt := h.lt g rfl
    have hsz : ps.toArray.size = ps.length := by simp
    have hlen : ps.length ≤ cap := by rename_i h1 _; exact h1
    have hR := AnyQ.slices_Reverse rv 2 (fun w => Try.isAgg51 w) (fun w => Try.sizeOf51 w) encR2 (fun _ => rfl) (fun x v hv => by simp [encR2] at hv; rcases hv with rfl | rfl <;> rfl) g 0 cap ps.toArray w hH (by unfold maxLen at hm; omega)
    rw [hsz] at hR
    change Calls Try.prog 30 _ _ _ at hR
    refine hR.mono ?_
    rintro e w' ⟨rfl, n, rfl⟩
    have hsz1 : (Sort.putRowK encR2 2 (Sort.ahead w n) g 0 ps.toArray.reverse).heap.size = w.heap.size := by simp [Sort.putRowK, Sort.putRow, Sort.mapBlock, Sort.ahead]
    have hH' := Sort.holdsK_putRowK _ _ _ g 0 ps.toArray ps.toArray.reverse (Sort.holdsK_ahead _ _ _ n _ _ _ hH) (by simp)
    refine ⟨rfl, fun A m c hv hp => ?_, ⟨rfl, rfl, rfl, by rw [hsz1]; exact Nat.le_refl _, fun k hk => ?_⟩⟩
    · cases hv
      refine ⟨g, 0, rfl, by rw [hsz1]; exact hlt.2, fun j hj => ?_⟩
      have hj' : j < ps.toArray.reverse.size := by simpa using hj
      have c0 := (hH'.cell (i := j) (c := 0) hj' (by omega)).1
      have c1 := (hH'.cell (i := j) (c := 1) hj' (by omega)).1
      have hget : ps.toArray.reverse[j]! = ps.reverse.getD j (0, 0) := by
        rw [getElem!_pos ps.toArray.reverse j hj', List.getD_eq_getElem?_getD, List.getElem?_eq_getElem hj]
        simp
      rw [hget] at c0 c1
      exact ⟨c0, c1⟩
    · simp only [Sort.putRowK, Sort.putRow, Sort.mapBlock, Sort.ahead, Array.getElem?_modify]
      rw [if_neg (by omega)]

theorem info2 : (Try.prog.info? 51).map (fun i => (i.zero, i.size, i.bytes)) = some (some (.agg #[.int .i64 0, .int .i64 0]), 2, 16) := by kernel_rfl
theorem own_mt (w : World) (base : Nat) (t : TypeId) (hb : base ≤ w.heap.size) : OwnR (w.alloc (.cells #[] t)) base t (.slice (some ⟨w.heap.size, 0, none⟩) 0 0) [] :=
  ⟨rfl, .inr ⟨w.heap.size, 0, #[], rfl, hb, heap_alloc_new w (.cells #[] t), Nat.le_refl _, by unfold maxLen; omega, rfl, rfl⟩⟩
theorem clone_any (v : Value) (ps : List (Int × Int)) (w : World) (h : RSl w w.heap.size v ps) (hm : ps.length * 16 ≤ 140737488355328) :
    Calls Try.prog 29 #[v] w fun e w' => ∃ u, e = .returned u ∧ OwnR w' w.heap.size 51 u ps ∧ Below w.heap.size w w' := by
  obtain ⟨A, c, rfl, h1, h2, h3⟩ := h.ex
  rcases A with _ | a
  · have e0 : ps = [] := by
      rcases Nat.eq_zero_or_pos ps.length with e | e
      · exact List.eq_nil_of_length_eq_zero e
      · obtain ⟨b, off, e, _⟩ := h3 e; cases e
    subst e0
    have hnil := fun w => Lib.run_eql_slice_nil (P := Try.prog) w 22 51 none 0 c 0 0 Try.underlying22
    go_enter Try.func29, Try.ntmps29
    go_wp2
    go_ret
    exact ⟨_, rfl, OwnR.nil _ _ _, Below.refl _ _⟩
  · obtain ⟨i0, hi0, hz0, hz1, hz2⟩ := info_parts info2
    have HI := Lib.hid hi0
    have HZ := Lib.hid hz0
    have HZ1 := Lib.hid hz1
    have HZ2 := Lib.hid hz2
    have H3 := Lib.hid h3
    clear hi0 hz0 hz1 hz2 h3
    have hnil := fun w => Lib.run_eql_slice_nil (P := Try.prog) w 22 51 (some a) ps.length c 0 0 Try.underlying22
    go_enter Try.func29, Try.ntmps29
    go_wp2_with (first
      | (at_builtin
         refine wpList_appR _ rfl (.tmp 5) (.tmp 6) _ rfl w.heap.size 51 i0 _ Try.underlying22 HI.out HZ.out HZ1.out HZ2.out rfl (.slice (some ⟨w.heap.size, 0, none⟩) 0 0) [] rfl (own_mt w w.heap.size 51 (Nat.le_refl _)) w.heap.size (some a) ps.length c ps rfl (H3.out.below ((Below.refl w.heap.size w).alloc (Nat.le_refl _) (.cells #[] 51))) rfl (by rw [List.length_nil]; omega) (by simp <;> omega) ?_
         intro v1 u1 own1 g1
         have O1 := Lib.hid own1
         have B1 := Lib.hid (((Below.refl w.heap.size w).alloc (Nat.le_refl _) (.cells #[] 51)).grown g1 (by simp <;> omega) (fun k hk => ((own_mt w w.heap.size 51 (Nat.le_refl _)).lt k hk).1))
         clear own1 g1))
    go_ret
    exact ⟨_, rfl, by simpa using O1.out, B1.out⟩
end Go.Proofs.Ytjeocggocloigaa
