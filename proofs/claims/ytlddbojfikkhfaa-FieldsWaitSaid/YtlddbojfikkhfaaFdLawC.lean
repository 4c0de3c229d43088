/- The walks of FieldsDecodes and FieldsApplies, over what is asked of the project. -/
import Derived.Test.YtlddbojfikkhfaaGrpG
import Derived.Test.YtlddbojfikkhfaaTabSame
import Derived.Laws.StructEq
namespace Go.Proofs.Ytlddbojfikkhfaa.P
set_option linter.unusedVariables false
open Go.RowKit
def FdDec (P : Program) (f : FuncId) : Prop := ∀ (v s : Value) (t : Tb) (b : List Int) (w : World), TbVal w w.heap.size v t → TbWf t → BSl w w.heap.size s b → b.length ≤ 140737488355328 → Calls P f #[v, s] w (FlRes (decFl t b) w)
def FdApl (P : Program) (f : FuncId) : Prop := ∀ (v s : Value) (t : Tb) (b : List Int) (w : World), TbVal w w.heap.size v t → TbWf t → BSl w w.heap.size s b → b.length ≤ 140737488355328 → Calls P f #[v, s] w (TbRes3 (appAll t b) w)
theorem linesR_len (t : Tb) (need : Int) : ∀ (n : Nat) (b : List Int) (out : List Fld), out.length ≤ 8 → (linesR t need n b out).1.length ≤ 8
  | 0, b, out, h => by
    unfold linesR
    split
    · exact h
    · exact Nat.zero_le _
  | n + 1, b, out, h => by
    unfold linesR
    split
    · exact h
    · split
      · exact Nat.zero_le _
      · split
        · exact Nat.zero_le _
        · exact linesR_len t need n _ _ (by simp only [List.length_append, List.length_singleton]; omega)
theorem decFl_len (t : Tb) (b : List Int) : (decFl t b).1.length ≤ 8 := by
  unfold decFl
  split
  · exact Nat.zero_le _
  · split
    · exact Nat.zero_le _
    · split
      · exact Nat.zero_le _
      · split
        · exact Nat.zero_le _
        · split
          · exact Nat.zero_le _
          · exact linesR_len _ _ _ _ _ (Nat.zero_le _)
theorem tbWf0 : TbWf tb0 := ⟨by decide, by decide, by decide, fun x hx => by cases hx⟩
theorem appsR_wf (b : List Int) (hb : Byt b) (hl : b.length ≤ 140737488355328) : ∀ (g : Nat) (t : Tb) (a : Nat), TbWf t → TbWf (appsR g t b a).1
  | 0, t, a, h => h
  | g + 1, t, a, h => by
    unfold appsR
    split
    · exact h
    · split
      · exact h
      · split
        · exact tbWf0
        · exact appsR_wf b hb hl g _ _ (appR_wf h (hb.drop a) (by rw [List.length_drop]; omega))
theorem appAll_wf {t : Tb} {b : List Int} (hw : TbWf t) (hb : Byt b) (hl : b.length ≤ 140737488355328) : TbWf (appAll t b).1 := by
  unfold appAll
  split
  · exact tbWf0
  · exact appsR_wf b hb hl _ _ _ hw
theorem _root_.Go.Proofs.Ytlddbojfikkhfaa.P.BSl.onF {w w' : World} {v : Value} {zs : List Int} (h : BSl w w.heap.size v zs) (hb : Below w.heap.size w w') : BSl w' w'.heap.size v zs := (h.below hb).more hb.size
end Go.Proofs.Ytlddbojfikkhfaa.P
namespace Go.Proofs.Ytlddbojfikkhfaa
set_option linter.unusedVariables false
open Go.RowKit P

set_option maxHeartbeats 1000000 in
theorem fieldsDecodes_core (hD : FdDec Try.prog 18) (v s : Value) (t : Tb) (b : List Int) (W : World) (hv : TbVal W W.heap.size v t) (hw : TbWf t) (hs : BSl W W.heap.size s b) (hl : b.length ≤ 140737488355328) :
    Calls Try.prog 4 #[v, s] W fun e w' => e = .returned (.bool true) ∧ Below W.heap.size W w' := by
  have H1 := Lib.hid (fun w (hb : Below W.heap.size W w) => hD v s t b w (hv.on hb) hw (hs.onF hb) hl)
  obtain ⟨a0, cap0, rfl, q1, q2, q3, hbr⟩ := hs.ex
  have H2 := Lib.hid (fun w (hb : Below W.heap.size W w) => refFlO_any v t b w (hv.on hb) hw hbr.1 hl)
  have HC := Lib.hid (fun w (hb : Below W.heap.size W w) => run_str (P := Try.prog) (w := w) (hbr.on hb) rfl 27 9 5 cap0 Try.underlying27 Try.underlying5 Try.underlying9)
  have HL := Lib.hid (decFl_len t b)
  obtain ⟨S, hS⟩ : ∃ S, strOfNums b = S := ⟨_, rfl⟩
  rw [hS] at H2 HC
  obtain ⟨⟨l, x⟩, hr⟩ : ∃ r, decFl t b = r := ⟨_, rfl⟩
  rw [hr] at H1 H2 HL
  unfold FlRes at H1 H2
  dsimp only at H1 H2 HL
  obtain ⟨A, c, rfl⟩ := tb_slicesR hv
  have F0 := Lib.hid (heap_alloc_new W (.cells #[.int .i64 t.room, .int .i64 t.put, .slice A t.rows.length c] 24))
  have B0 := Lib.hid ((Below.refl W.heap.size W).alloc (Nat.le_refl _) (.cells #[.int .i64 t.room, .int .i64 t.put, .slice A t.rows.length c] 24))
  clear hv hw hs hbr hS hr
  go_enter Try.func4, Try.ntmps4
  go_wp2_with fail
  refine (H1.out _ B0.out).mono ?_
  rintro e w1 ⟨b1, v1, rfl, h1⟩
  obtain ⟨A1, c1, rfl, l1, m1, R1⟩ := h1.ex
  have R1 := Lib.hid R1
  have B1 := Lib.hid (B0.out.trans (b1.mono B0.out.size))
  have F1 := Lib.hid ((b1.block _ (lt_of_block F0.out)).trans F0.out)
  obtain ⟨y0, y1, y2⟩ := bk3T F1.out
  have hc1 := HC.out w1 B1.out
  clear b1 h1
  go_wp2_with fail
  refine (H2.out _ B1.out).mono ?_
  clear y0 y1 y2 hc1
  rintro e w2 ⟨b2, v2, rfl, h2⟩
  obtain ⟨A2, c2, rfl, l2, m2, R2⟩ := h2.ex
  have R2 := Lib.hid R2
  have R3 := Lib.hid (R1.out.on b2)
  have B2 := Lib.hid (B1.out.trans (b2.mono B1.out.size))
  clear b2 h2
  go_wp2_with fail
  refine (lsameFd_eq _ _ _ _ _ l _ R3.out R2.out rfl (by have := HL.out; omega)).mono ?_
  rintro e w3 ⟨rfl, b3⟩
  have B3 := Lib.hid (B2.out.trans (b3.mono B2.out.size))
  clear b3
  go_wp2_with fail
  go_ret
  exact ⟨by first | rfl | simp, B3.out⟩
set_option maxHeartbeats 1000000 in
theorem fieldsApplies_core (hA : FdApl Try.prog 20) (v s : Value) (t : Tb) (b : List Int) (W : World) (hv : TbVal W W.heap.size v t) (hw : TbWf t) (hs : BSl W W.heap.size s b) (hl : b.length ≤ 140737488355328) :
    Calls Try.prog 5 #[v, s] W fun e w' => e = .returned (.bool true) ∧ Below W.heap.size W w' := by
  have H1 := Lib.hid (fun w (hb : Below W.heap.size W w) => hA v s t b w (hv.on hb) hw (hs.onF hb) hl)
  obtain ⟨a0, cap0, rfl, q1, q2, q3, hbr⟩ := hs.ex
  have H2 := Lib.hid (fun w (hb : Below W.heap.size W w) => refAps_any v t b w (hv.on hb) hw hbr.1 hl)
  have HC := Lib.hid (fun w (hb : Below W.heap.size W w) => run_str (P := Try.prog) (w := w) (hbr.on hb) rfl 27 9 5 cap0 Try.underlying27 Try.underlying5 Try.underlying9)
  have HL := Lib.hid (appAll_wf hw hbr.1 hl).len
  obtain ⟨S, hS⟩ : ∃ S, strOfNums b = S := ⟨_, rfl⟩
  rw [hS] at H2 HC
  obtain ⟨⟨r, k, x⟩, hr⟩ : ∃ r, appAll t b = r := ⟨_, rfl⟩
  rw [hr] at H1 H2 HL
  unfold TbRes3 at H1 H2
  dsimp only at H1 H2 HL
  obtain ⟨A, c, rfl⟩ := tb_slicesR hv
  have F0 := Lib.hid (heap_alloc_new W (.cells #[.int .i64 t.room, .int .i64 t.put, .slice A t.rows.length c] 24))
  have B0 := Lib.hid ((Below.refl W.heap.size W).alloc (Nat.le_refl _) (.cells #[.int .i64 t.room, .int .i64 t.put, .slice A t.rows.length c] 24))
  clear hv hw hs hbr hS hr
  go_enter Try.func5, Try.ntmps5
  go_wp2_with fail
  refine (H1.out _ B0.out).mono ?_
  rintro e w1 ⟨b1, v1, rfl, hv1⟩
  obtain ⟨A1, c1, rfl⟩ := tb_slicesR hv1
  simp only at hv1 ⊢
  have X1 := Lib.hid ((Below.refl w1.heap.size w1).alloc (Nat.le_refl _) (.cells #[.int .i64 r.room, .int .i64 r.put, .slice A1 r.rows.length c1] 24))
  have N1 := Lib.hid (heap_alloc_new w1 (.cells #[.int .i64 r.room, .int .i64 r.put, .slice A1 r.rows.length c1] 24))
  have b2 := b1.trans (X1.out.mono b1.size)
  have B2 := Lib.hid (B0.out.trans (b2.mono B0.out.size))
  have F2 := Lib.hid ((b2.block _ (lt_of_block F0.out)).trans F0.out)
  have V2 := Lib.hid (hv1.on X1.out)
  obtain ⟨q0, q1, q2⟩ := bk3T F2.out
  have hc1 := HC.out _ B2.out
  clear b1 b2 hv1
  go_wp2_with fail
  refine (H2.out _ B2.out).mono ?_
  clear q0 q1 q2 hc1
  rintro e w3 ⟨b3, v3, rfl, hv3⟩
  obtain ⟨A3, c3, rfl⟩ := tb_slicesR hv3
  simp only at hv3 ⊢
  have X3 := Lib.hid ((Below.refl w3.heap.size w3).alloc (Nat.le_refl _) (.cells #[.int .i64 r.room, .int .i64 r.put, .slice A3 r.rows.length c3] 24))
  have b4 := b3.trans (X3.out.mono b3.size)
  have B4 := Lib.hid (B2.out.trans (b4.mono B2.out.size))
  have N4 := Lib.hid ((b4.block _ (lt_of_block N1.out)).trans N1.out)
  have V4 := Lib.hid (V2.out.on b4)
  have U4 := Lib.hid (hv3.on X3.out)
  obtain ⟨q0, q1, q2⟩ := bk3T N4.out
  clear b3 b4 hv3
  go_wp2_with fail
  refine (lsameTb_eq _ _ r _ V4.out U4.out HL.out).mono ?_
  rintro e w5 ⟨rfl, b5⟩
  have B5 := Lib.hid (B4.out.trans (b5.mono B4.out.size))
  clear b5 q0 q1 q2
  go_wp2_with fail
  go_ret
  exact ⟨by first | rfl | simp, B5.out⟩
end Go.Proofs.Ytlddbojfikkhfaa
