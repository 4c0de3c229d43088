/- Contracts of package space: Tell, Begin; the document's SpaceTold. -/
import Derived.Test.YtnccibaifffhhaaSpRev
import Derived.Test.YtnccibaifffhhaaRefSpQuiet
namespace Go.Proofs.Ytnccibaifffhhaa
set_option linter.unusedVariables false
open Go.RowKit P

structure SpTellR (r : List (Int × Int) × Int) (w : World) (e : Ending) (w' : World) : Prop where
  be : Below w.heap.size w w'
  ex : ∃ u, e = .returned (.tuple #[u, .int .i64 r.2]) ∧ RSl w' w'.heap.size u r.1
theorem rsl_ownT {w : World} {base : Nat} {e : TypeId} {v : Value} {qs : List (Int × Int)} (h : OwnR w base e v qs) : RSl w w.heap.size v qs := by
  obtain ⟨A, c, e1, h1, h2, h3⟩ := h.slice
  exact ⟨A, c, e1, h1, h2, h3⟩
theorem own_oneR {w : World} {base : Nat} (a b : Int) (hb : base ≤ w.heap.size) : OwnR (w.alloc (.cells #[.int .i64 a, .int .i64 b] 63)) base 63 (.slice (some ⟨w.heap.size, 0, none⟩) 1 1) [(a, b)] :=
  ⟨by simp [cellsR], .inr ⟨w.heap.size, 1, #[.int .i64 a, .int .i64 b], rfl, hb, heap_alloc_new w _, Nat.le_refl _, by unfold maxLen; omega, by simp, by simp [cellsR]⟩⟩
set_option maxRecDepth 100000 in
set_option maxHeartbeats 1000000 in
theorem spTell_any (v : Value) (s : Sp) (w : World) (hv : SpVal w w.heap.size v s) (hw : SpWf s) : Calls Try.prog 26 #[v] w (SpTellR (tellSp s) w) := by
  have HCK := Lib.hid (fun w' (hb : Below w.heap.size w w') => spChk_any v s w' ((hv.below hb).more hb.size) hw)
  obtain ⟨a, h, kk, rfl, ha, hh, hk⟩ := hv.ex
  obtain ⟨Aa, ca, csa, rfl, _, _, _, _⟩ := ha.ex
  have HH := Lib.hid (fun w' (hb : Below w.heap.size w w') => rcloneB_any w'.heap.size h s.heard w' (Nat.le_refl _) ((hh.below hb).more hb.size) hw.hl)
  obtain ⟨Ah, ch, rfl, _, _, _⟩ := hh.ex
  obtain ⟨Ak, ck, rfl, _, _, _⟩ := hk.ex
  have F0 := Lib.hid (heap_alloc_new w (.cells #[.int .i64 s.next, .slice Aa s.sent.length ca, .int .i64 s.top, .slice Ah s.heard.length ch, .slice Ak s.skip.length ck] 48))
  have B0 := Lib.hid ((Below.refl w.heap.size w).alloc (Nat.le_refl _) (.cells #[.int .i64 s.next, .slice Aa s.sent.length ca, .int .i64 s.top, .slice Ah s.heard.length ch, .slice Ak s.skip.length ck] 48))
  clear hv ha hh hk
  obtain ⟨q0, q1, q2, q3, q4⟩ := sp5 F0.out
  go_enter Try.func26, Try.ntmps26
  go_wp2_with fail
  refine (HCK.out _ B0.out).mono ?_
  rintro e w1 ⟨rfl, b1⟩
  have B1 := Lib.hid (B0.out.trans (b1.mono B0.out.size))
  have F1 := Lib.hid ((b1.block _ (lt_of_block F0.out)).trans F0.out)
  clear b1
  clear q0 q1 q2 q3 q4
  obtain ⟨q0, q1, q2, q3, q4⟩ := sp5 F1.out
  rcases faultSp_two s with f | f
  · have HR := Lib.hid (show tellSp s = (s.heard.reverse, 0) from by unfold tellSp; rw [if_neg (by simp [f])])
    have h6 : s.heard.length ≤ 6 := ((faultSp_iff s).1 f).2.2.2.2.2.1
    rw [f]
    go_wp2_with fail
    refine (HH.out _ B1.out).mono ?_
    rintro e w2 ⟨u, rfl, o2, b2⟩
    obtain ⟨A2, c2, rfl, _, _, _⟩ := o2.slice
    have HV := Lib.hid (spRev_any A2 s.heard.length c2 w1.heap.size s.heard w2 o2 rfl (by omega))
    have O2 := Lib.hid o2
    have B2 := Lib.hid (B1.out.trans (b2.mono B1.out.size))
    have hb12 := b2.size
    clear o2 b2 q0 q1 q2 q3 q4
    go_wp2_with fail
    refine (HV.out).mono ?_
    rintro e w3 ⟨rfl, o3, g3⟩
    have O3 := Lib.hid o3
    have B3 := Lib.hid (B2.out.grown g3 B2.out.size (fun q hq => by have := (O2.out.lt q hq).1; have := B1.out.size; omega))
    clear o3 g3
    go_wp2_with fail
    go_ret2
    rw [HR.out]
    exact ⟨B3.out, _, rfl, rsl_ownT O3.out⟩
  · have HR := Lib.hid (show tellSp s = ([], 9) from by unfold tellSp; rw [f]; rfl)
    rw [f]
    go_wp2_with fail
    go_ret2
    rw [HR.out]
    exact ⟨B1.out, _, rfl, RSl.nil _ _⟩
/-- a space that begins -/
def spB : Sp := ⟨0, [], -1, [], []⟩
set_option maxRecDepth 100000 in
set_option maxHeartbeats 1000000 in
theorem spBegin_any (w : World) : Calls Try.prog 20 #[] w fun e w' => e = .returned (.agg #[.int .i64 0, .slice none 0 0, .int .i64 (-1), .slice none 0 0, .slice none 0 0]) ∧ Below w.heap.size w w' := by
  have Z0 := Lib.hid (heap_alloc_new w (.cells #[.int .i64 0, .slice none 0 0, .int .i64 0, .slice none 0 0, .slice none 0 0] 48))
  have B0 := Lib.hid ((Below.refl w.heap.size w).alloc (Nat.le_refl _) (.cells #[.int .i64 0, .slice none 0 0, .int .i64 0, .slice none 0 0, .slice none 0 0] 48))
  obtain ⟨z0, z1, z2, z3, z4⟩ := sp5 Z0.out
  have zf := fun i => bk_frz Z0.out i
  go_enter Try.func20, Try.ntmps20
  go_wp2_with fail
  have RY := heap_alloc_new w (.cells #[.int .i64 0, .slice none 0 0, .int .i64 (-1), .slice none 0 0, .slice none 0 0] 48)
  obtain ⟨y0, y1, y2, y3, y4⟩ := sp5 RY
  refine bodyPost_ret (by simp [results, Try.results20, go_sem]; try rfl) rfl ?_
  exact ⟨rfl, (Below.refl w.heap.size w).alloc (Nat.le_refl _) _⟩
end Go.Proofs.Ytnccibaifffhhaa
