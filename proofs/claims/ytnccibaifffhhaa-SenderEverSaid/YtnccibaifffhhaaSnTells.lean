/- The statements' own sameFrame of two that are the same; senderTells. -/
import Derived.Test.YtnccibaifffhhaaSnPiece
import Derived.Test.YtnccibaifffhhaaSnWrite
import Derived.Test.YtnccibaifffhhaaRngSameN
import Derived.Test.YtnccibaifffhhaaGrpA
import Derived.Lib.SlBytesConst
namespace Go.Proofs.Ytnccibaifffhhaa
set_option linter.unusedVariables false
open Go.RowKit P

theorem sn_slices {w : World} {B : Nat} {v : Value} {s : Sn} (h : SnVal w B v s) : ∃ Ad cd Al cl Aa ca, v = .agg #[.slice Ad s.data.length cd, .bool s.fin, .int .i64 s.next, .int .i64 s.mx, .slice Al s.lost.length cl, .slice Aa s.acked.length ca, .bool s.ended, .bool s.over] := by
  obtain ⟨d, l, a, rfl, h1, h2, h3⟩ := h.ex
  obtain ⟨Ad, cd, rfl, _⟩ := h1.ex
  obtain ⟨Al, cl, rfl, _⟩ := h2.ex
  obtain ⟨Aa, ca, rfl, _⟩ := h3.ex
  exact ⟨Ad, cd, Al, cl, Aa, ca, rfl⟩
theorem fr_slices {w : World} {B : Nat} {v : Value} {f : Fr} (h : FrVal w B v f) : ∃ Ar cr Ad cd, v = .agg #[.int .i64 f.kind, .int .i64 f.id, .int .i64 f.off, .bool f.fin, .int .i64 f.code, .slice Ar f.rs.length cr, .slice Ad f.data.length cd] := by
  obtain ⟨r, d, rfl, h1, h2⟩ := h.ex
  obtain ⟨Ar, cr, rfl, _⟩ := h1.ex
  obtain ⟨Ad, cd, rfl, _⟩ := h2.ex
  exact ⟨Ar, cr, Ad, cd, rfl⟩
theorem fr_row {w : World} {B : Nat} {f : Fr} {k i o c : Value} {b : Value} {Ar Ad : Option Addr} {nr cr nd cd : Nat} (h : FrVal w B (.agg #[k, i, o, b, c, .slice Ar nr cr, .slice Ad nd cd]) f) : RRow w B Ar f.rs ∧ BRow w B Ad f.data ∧ f.rs.length ≤ maxLen ∧ f.data.length ≤ maxLen := by
  obtain ⟨r, d, e, h1, h2⟩ := h.ex
  obtain ⟨Ar', cr', rfl, a1, a2, a3⟩ := h1.ex
  obtain ⟨Ad', cd', rfl, b1, b2, _, b4⟩ := h2.ex
  simp only [Value.agg.injEq, Array.mk.injEq, List.cons.injEq, Value.slice.injEq, and_true] at e
  obtain ⟨_, _, _, _, _, ⟨rfl, _, _⟩, rfl, _, _⟩ := e
  exact ⟨a3, b4, by omega, by omega⟩
theorem bytes_atS (w : World) (zs : List Int) (c : Nat) (hc : max zs.length c ≤ maxLen) (hz : Byt zs) (f : Nat × Nat) (t : TypeId) : BSl (w.alloc (.cells (zs.map (.int .u8)).toArray t f)) (w.heap.size + 1) (.slice (some ⟨w.heap.size, 0, none⟩) zs.length (max zs.length c)) zs := by
  have hb := heap_alloc_new w (.cells (zs.map (Value.int .u8)).toArray t f)
  refine ⟨_, _, rfl, Nat.le_max_left _ _, hc, (fun e => by cases e), hz, fun _ => ⟨w.heap.size, 0, rfl, Nat.lt_succ_self _, fun j hj => ?_⟩⟩
  simp only [World.cell?, hb]
  simp [List.getD_eq_getElem?_getD, hj]
theorem byt2S : Byt [97, 98] := fun j => by
  match j with
  | 0 => exact ⟨by decide, by decide⟩
  | 1 => exact ⟨by decide, by decide⟩
  | j + 2 => exact ⟨by simp, by simp⟩
def tl1 : Sn := ⟨[97, 98], true, 0, 9, [], [], false, false⟩
theorem stells1 : wrS ⟨[], false, 0, 9, [], [], false, false⟩ [97, 98] true = (tl1, 0) := by kernel_rfl
theorem stells2 : pieceS tl1 50 50 = (⟨[97, 98], true, 2, 9, [], [], true, false⟩, ⟨8, 0, 0, true, 0, [], [97, 98]⟩, true, 0) := by kernel_rfl
set_option maxHeartbeats 1000000 in
theorem senderTells_any (w : World) : Calls Try.prog 16 #[] w fun e w' => e = .returned (.bool true) ∧ Below w.heap.size w w' := by
  have H1 := Lib.hid (fun v v2 w hv hd => snWrite_any v v2 ⟨[], false, 0, 9, [], [], false, false⟩ [97, 98] true w hv ⟨by decide +kernel, by decide +kernel, by decide +kernel, by decide +kernel, by decide +kernel⟩ hd (by decide))
  rw [stells1] at H1
  have H2 := Lib.hid (fun v w hv => snPiece_any v tl1 50 50 w hv ⟨by decide +kernel, by decide +kernel, by decide +kernel, by decide +kernel, by decide +kernel⟩)
  rw [stells2] at H2
  have kc := Lib.run_convert_bytes_const (P := Try.prog) w 23 5 #[.int .u8 97, .int .u8 98] 2 2 Try.underlying23 Try.underlying5
  have D2 := Lib.hid (bytes_atS w [97, 98] 2 (by unfold maxLen; decide) byt2S (2, 3) 5)
  have B0 := Lib.hid ((Below.refl w.heap.size w).alloc (Nat.le_refl _) (.cells #[.int .u8 97, .int .u8 98] 5 (2, 3)))
  go_enter Try.func16, Try.ntmps16
  go_wp2_with fail
  refine (H1.out _ _ _ ⟨_, _, _, rfl, BSl.nil _ _, RSl.nil _ _, RSl.nil _ _⟩ (by simpa using D2.out)).mono ?_
  clear kc D2 H1
  rintro e w2 ⟨b2, u2, rfl, hu2⟩
  have B2 := Lib.hid (B0.out.trans (b2.mono B0.out.size))
  obtain ⟨Ad, cd, Al, cl, Aa, ca, e⟩ := sn_slices hu2
  have e' : u2 = .agg #[.slice Ad 2 cd, .bool true, .int .i64 0, .int .i64 9, .slice Al 0 cl, .slice Aa 0 ca, .bool false, .bool false] := e
  subst e'
  clear e
  have A3 := Lib.hid ((Below.refl w2.heap.size w2).alloc (Nat.le_refl _) (.cells #[.slice Ad 2 cd, .bool true, .int .i64 0, .int .i64 9, .slice Al 0 cl, .slice Aa 0 ca, .bool false, .bool false] 27))
  have B3 := Lib.hid (B2.out.trans (A3.out.mono B2.out.size))
  have F3 := Lib.hid (heap_alloc_new w2 (.cells #[.slice Ad 2 cd, .bool true, .int .i64 0, .int .i64 9, .slice Al 0 cl, .slice Aa 0 ca, .bool false, .bool false] 27))
  have V3 := Lib.hid (hu2.on A3.out)
  obtain ⟨q0, q1, q2, q3, q4, q5, q6, q7⟩ := bkS F3.out
  clear b2 hu2
  go_wp2_with fail
  refine (H2.out _ _ V3.out).mono ?_
  clear q0 q1 q2 q3 q4 q5 q6 q7 V3 H2
  rintro e w4 ⟨b4, v4, f4, rfl, hv4, hf4⟩
  have B4 := Lib.hid (B3.out.trans (b4.mono B3.out.size))
  obtain ⟨Bd, dd, Bl, dl, Ba, da, e⟩ := sn_slices hv4
  have e' : v4 = .agg #[.slice Bd 2 dd, .bool true, .int .i64 2, .int .i64 9, .slice Bl 0 dl, .slice Ba 0 da, .bool true, .bool false] := e
  subst e'
  clear e
  obtain ⟨Cr, cr, Cd, cd4, e⟩ := fr_slices hf4
  have e' : f4 = .agg #[.int .i64 8, .int .i64 0, .int .i64 0, .bool true, .int .i64 0, .slice Cr 0 cr, .slice Cd 2 cd4] := e
  subst e'
  clear e
  obtain ⟨g0, g1, g2⟩ := twoX w4 #[.slice Bd 2 dd, .bool true, .int .i64 2, .int .i64 9, .slice Bl 0 dl, .slice Ba 0 da, .bool true, .bool false] #[.int .i64 8, .int .i64 0, .int .i64 0, .bool true, .int .i64 0, .slice Cr 0 cr, .slice Cd 2 cd4] 27 35
  obtain ⟨q0, q1, q2, q3, q4, q5, q6⟩ := bkF g1
  have hst := run_str (P := Try.prog) ((fr_row hf4).2.1.on g2) (n := 2) rfl 23 9 5 cd4 Try.underlying23 Try.underlying5 Try.underlying9
  rw [show strOfNums [97, 98] = ⟨#[97, 98]⟩ from by rfl] at hst
  have B5 := Lib.hid (B4.out.trans (g2.mono B4.out.size))
  clear b4 hv4 hf4 g0 g1 g2
  go_wp2_with fail
  go_ret
  exact ⟨by first | rfl | simp, B5.out⟩
end Go.Proofs.Ytnccibaifffhhaa
