/- PROVED HERE: SpaceAcks: called with any input that can be read, spillway/spillwaylaw.SpaceAcks returns true and does not panic, and its arguments read afterwards as they read before. No further condition. -/
import Derived.Test.YtgfbonfoimiknaaRows
import Derived.Test.YtgfbonfoimiknaaSpaceAcksW
import Derived.WalkKit
import Derived.ProofKit
import Derived.OpenShut
import Derived.ShutString
import Derived.ChangeOld
import Derived.Below
import Derived.SizedLaws
namespace Go.Proofs.Ytgfbonfoimiknaa.spaceAcks
open Go.ChangeShapes Go.WideShapes Go.ChangeAt Go.RowKit P
open Go.ChangeMaps (open_string shut_string)
set_option linter.unusedVariables false

theorem own : ownKnob Try.prog.godebug = none := by kernel_rfl
theorem laidOut : laidOutB Try.prog = true := by kernel_rfl

set_option maxRecDepth 100000 in
theorem lifted (os : Os) (started : os.Started) (H : Type) (enc : TypeId × Value → H) :
    ReturnsInHanded {} Try.checked os 8 .any (Rows.spaceAcksSpec.pre6 enc Try.prog Try.f8 Rows.spaceAcksRow.domain false) (Rows.spaceAcksSpec.post enc Try.prog Try.f8 false true false false) := by
  refine returnsInHanded_of_change_sized (C := Try.checked) own started (by kernel_rfl) Try.func8
    (ChangeSpec.witness6 (enc := enc) (C := Try.checked) false ⟨#[], #[.agg #[.int .i64 0, .slice none 0 0, .int .i64 0, .slice none 0 0, .slice none 0 0], .slice none 0 0], []⟩ 8 (by kernel_rfl) (by kernel_rfl) (by kernel_rfl) (by kernel_rfl)) ?_
  intro W base args ds gs before hval0 hW hcnd hsz0 _
  have hsz : (DataW.weightsEach Try.prog (Try.f8.params.toList ++ Rows.spaceAcksSpec.plain.varTypes Try.prog) (ds ++ gs)).all (· ≤ reachBytes) = true := hsz0
  have hval : ∀ (j : Nat) t v, Try.f8.params[j]? = some t → args[j]? = some v → Value.okWide Try.prog W .any base t v := hval0
  have hW' := hW
  obtain ⟨p, q, hA0, hV, rfl, hfz, hnd⟩ := hW
  have hA : DataW.TrodAll enc Try.prog W 0 (fun _ => true) true Try.f8.params.toList args.toList ds p := hA0
  rw [Try.params8] at hA hval hsz
  obtain ⟨v0, vs0, d0, ds0, p0, q0, hargs, rfl, rfl, h0, tr0⟩ := trodAll_cons hA
  obtain ⟨v1, vs1, d1, ds1, p1, q1, rfl, rfl, rfl, h1, tr1⟩ := trodAll_cons tr0
  obtain ⟨rfl, rfl, rfl⟩ := trodAll_nil tr1
  obtain rfl : args = #[v0, v1] := by cases args; simp_all
  obtain ⟨rfl, rfl⟩ := trodVars_none hV
  have k0 := h0
  have lt0 : ∀ x ∈ p0, x.block < W.heap.size := by obtain ⟨m, hm⟩ := k0; exact DataW.trod_lt m _ _ _ hm
  obtain ⟨sp0, spv0, spl0⟩ := open_sp (FrT.mk Try.underlying56 (by kernel_rfl) (by kernel_rfl) Try.underlying35 (by kernel_rfl) Try.underlying3 Try.underlying3 Try.underlying3 Try.underlying4 Try.underlying3 Try.underlying25 Try.underlying23 Try.underlying80 (by kernel_rfl) (by kernel_rfl) (by kernel_rfl) Try.underlying3 Try.underlying3 Try.underlying5 (by kernel_rfl) (by kernel_rfl)) Try.underlying45 (by kernel_rfl) (by kernel_rfl) Try.underlying77 (by kernel_rfl) Try.underlying3 Try.underlying3 Try.underlying3 rfl Try.underlying48 (by kernel_rfl) (by kernel_rfl) Try.underlying3 rfl Try.underlying3 Try.underlying25 Try.underlying46 Try.underlying80 (by kernel_rfl) (by kernel_rfl) (by kernel_rfl) Try.underlying3 Try.underlying3 Try.underlying3 (by kernel_rfl) (by kernel_rfl) (hval 0 48 v0 rfl rfl) h0
  have spw0 := spl0 (weigh_at hsz (j := 0) (t := 48) rfl rfl)
  obtain ⟨a1, len1, cap1, rfl⟩ := okWide_slice Try.underlying25 (hval 1 25 v1 rfl rfl)
  have k1 := h1
  have lt1 : ∀ x ∈ p1, x.block < W.heap.size := by obtain ⟨m, hm⟩ := k1; exact DataW.trod_lt m _ _ _ hm
  obtain ⟨fl1, hf1⟩ := h1
  obtain ⟨z1, zl1, w1, lc1, cm1, hd1, zw1⟩ := open_rngs Try.underlying25 Try.underlying80 (by kernel_rfl) (by kernel_rfl) Try.underlying3 Try.underlying3 hf1
  have r1 : cap1 * Try.prog.bytesOf 80 ≤ 140737488351232 := by
    rcases hd1 with ⟨_, rfl⟩ | ⟨xs, ys, e, hxy⟩
    · omega
    · have := sized_slice hsz (j := 1) (t := 25) (e := 80) (elems := xs) (spare := ys) rfl (by rw [← e]; rfl) Try.underlying25
      simp only [reachBytes] at this
      rw [hxy] at this
      exact this
  rw [show Try.prog.bytesOf 80 = 16 by kernel_rfl] at r1
  clear hA0 hval0
  refine (show Calls Try.prog 8 _ W fun e w' => e = .returned (.bool true) ∧ Below W.heap.size W w' from spaceAcks_walk v0 sp0 a1 len1 cap1 z1 W spv0 spw0 w1 zl1 lc1 cm1 r1 (fun r hr => by obtain ⟨i, hi, rfl⟩ := List.getElem_of_mem hr; have q := zw1 i (by omega); rw [List.getD_eq_getElem?_getD, List.getElem?_eq_getElem hi] at q; exact ⟨bounds_i64 q.1, bounds_i64 q.2⟩)).mono fun e W' ⟨he, bel⟩ => ?_
  subst he
  exact ⟨_, rfl, _, _, _, [], _, [], hW', trodAll_mk1 (shut_bool Try.underlying4 _), (trodAll_cons_mk (Below.trod laidOut (by kernel_rfl) (of_decide_eq_true (by kernel_rfl)) k0 bel lt0) (trodAll_cons_mk (Below.trod laidOut (by kernel_rfl) (of_decide_eq_true (by kernel_rfl)) k1 bel lt1) trodAll_mk0)), rfl, bel.frame _, fun h => by cases h⟩

theorem over : Rows.spaceAcksRow.holds Try.pinned (OpenSpec.ofChange Rows.spaceAcksSpec) :=
  OpenClaim.holds_of_wide 8 Try.f8 rfl rfl rfl rfl rfl rfl rfl ⟨rfl, rfl, rfl, rfl, rfl⟩ rfl rfl rfl rfl rfl (by kernel_rfl) Try.func8 (by kernel_rfl)
    (of_decide_eq_true (by kernel_rfl)) (by unfold Func.isWrapper; first | (rw [if_pos (by decide +kernel)]; kernel_rfl) | (rw [if_neg (by decide +kernel)]; exact ⟨rfl, rfl⟩))
    (fun os started H enc _ => lifted os started H enc)

theorem proved : Rows.SpaceAcksSaid := over
#print axioms proved
end Go.Proofs.Ytgfbonfoimiknaa.spaceAcks
