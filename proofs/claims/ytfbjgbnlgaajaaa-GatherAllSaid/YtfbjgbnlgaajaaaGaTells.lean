/- The statements' own gatherTells; variables that hold a gather. -/
import Derived.Test.YtfbjgbnlgaajaaaGaPutQ
import Derived.Test.YtfbjgbnlgaajaaaGaTake
import Derived.Test.YtfbjgbnlgaajaaaStr
import Derived.Lib.SlBytesConst
namespace Go.Proofs.Ytfbjgbnlgaajaaa
set_option linter.unusedVariables false
open Go.RowKit P

/-- four cells written: the block behind it -/
theorem bkG_blk {w : World} {b : Nat} {a0 a1 a2 a3 : Value} {T : TypeId} (h : w.heap[b]? = some (.cells #[a0, a1, a2, a3] T (0, 0))) (v0 v1 v2 v3 : Value) :
    ((((w.setCell ⟨b, 0, none⟩ v0).setCell ⟨b, 1, none⟩ v1).setCell ⟨b, 2, none⟩ v2).setCell ⟨b, 3, none⟩ v3).heap[b]? = some (.cells #[v0, v1, v2, v3] T (0, 0)) ∧
    w.grownBy ((((w.setCell ⟨b, 0, none⟩ v0).setCell ⟨b, 1, none⟩ v1).setCell ⟨b, 2, none⟩ v2).setCell ⟨b, 3, none⟩ v3) (some b) := by
  have h0 : (w.setCell ⟨b, 0, none⟩ v0).heap[b]? = some (.cells #[v0, a1, a2, a3] T (0, 0)) := by simpa using bk_set h 0 v0
  have h1 : ((w.setCell ⟨b, 0, none⟩ v0).setCell ⟨b, 1, none⟩ v1).heap[b]? = some (.cells #[v0, v1, a2, a3] T (0, 0)) := by simpa using bk_set h0 1 v1
  have h2 : (((w.setCell ⟨b, 0, none⟩ v0).setCell ⟨b, 1, none⟩ v1).setCell ⟨b, 2, none⟩ v2).heap[b]? = some (.cells #[v0, v1, v2, a3] T (0, 0)) := by simpa using bk_set h1 2 v2
  exact ⟨by simpa using bk_set h2 3 v3, gr_trans (gr_trans (gr_trans (gr_set _ b 0 v0) (gr_set _ b 1 v1)) (gr_set _ b 2 v2)) (gr_set _ b 3 v3)⟩
/-- a variable that holds a gather; its rows lie in new memory -/
structure GVd (w : World) (b : Nat) (g : Ga) (A : Option Addr) (n c lo : Nat) : Prop where
  blk : w.heap[b]? = some (.cells #[.int .i64 g.done, .slice A n c, .int .i64 g.final, .int .i64 g.window] 24 (0, 0))
  low : b < lo
  pf : PF w lo (.slice A n c) g.held
theorem GVd.below {w w' : World} {b : Nat} {g : Ga} {A : Option Addr} {n c lo : Nat} (h : GVd w b g A n c lo) (hb : Below w.heap.size w w') : GVd w' b g A n c lo :=
  ⟨(hb.block _ (lt_of_block h.blk)).trans h.blk, h.low, h.pf.on (Keeps.below hb)⟩
theorem GVd.val {w : World} {b : Nat} {g : Ga} {A : Option Addr} {n c lo : Nat} (h : GVd w b g A n c lo) : GaVal w w.heap.size (.agg #[.int .i64 g.done, .slice A n c, .int .i64 g.final, .int .i64 g.window]) g := ⟨_, rfl, h.pf.now⟩
/-- another variable turns -/
theorem GVd.other {w w' : World} {b y : Nat} {g : Ga} {A : Option Addr} {n c lo : Nat} (h : GVd w b g A n c lo) (k : w.grownBy w' (some y)) (hy : y < lo) (hb : b ≠ y) : GVd w' b g A n c lo :=
  ⟨(k.block _ (lt_of_block h.blk) (fun e => hb (by cases e; rfl))).trans h.blk, h.low, h.pf.on (Keeps.gr k hy)⟩
/-- no pieces lie anywhere -/
theorem PF.empty {w w' : World} {lo lo' : Nat} {s : Value} (h : PF w lo s []) : PF w' lo' s [] := fun w'' _ => by
  obtain ⟨A, c, e, h1, h2, h3⟩ := h.now.ex
  exact ⟨A, c, e, h1, h2, PRow.nil _ _ _⟩
theorem GaF.slice {w : World} {lo : Nat} {u : Value} {g : Ga} (h : GaF w lo u g) : ∃ A n c, u = .agg #[.int .i64 g.done, .slice A n c, .int .i64 g.final, .int .i64 g.window] ∧ PF w lo (.slice A n c) g.held := by
  obtain ⟨s, rfl, h1⟩ := h.ex
  obtain ⟨A, c, rfl, _⟩ := h1.now.ex
  exact ⟨A, _, c, rfl, h1⟩
/-- a fresh variable of a gather without pieces -/
theorem GVd.fresh {w : World} {lo : Nat} {g : Ga} {A : Option Addr} {n c : Nat} (h : PF w lo (.slice A n c) g.held) (h0 : g.held = []) : GVd (w.alloc (.cells #[.int .i64 g.done, .slice A n c, .int .i64 g.final, .int .i64 g.window] 24)) w.heap.size g A n c (w.heap.size + 1) :=
  ⟨heap_alloc_new w _, Nat.lt_succ_self _, by rw [h0] at h ⊢; exact h.empty⟩
/-- an answer laid into the variable -/
theorem GVd.put {w : World} {b lo : Nat} {a0 a1 a2 a3 : Value} {g : Ga} {A : Option Addr} {n c : Nat} (hb : w.heap[b]? = some (.cells #[a0, a1, a2, a3] 24 (0, 0))) (h : PF w lo (.slice A n c) g.held) (hl : b < lo) :
    GVd ((((w.setCell ⟨b, 0, none⟩ (.int .i64 g.done)).setCell ⟨b, 1, none⟩ (.slice A n c)).setCell ⟨b, 2, none⟩ (.int .i64 g.final)).setCell ⟨b, 3, none⟩ (.int .i64 g.window)) b g A n c lo ∧
    w.grownBy ((((w.setCell ⟨b, 0, none⟩ (.int .i64 g.done)).setCell ⟨b, 1, none⟩ (.slice A n c)).setCell ⟨b, 2, none⟩ (.int .i64 g.final)).setCell ⟨b, 3, none⟩ (.int .i64 g.window)) (some b) := by
  obtain ⟨k1, k2⟩ := bkG_blk hb (.int .i64 g.done) (.slice A n c) (.int .i64 g.final) (.int .i64 g.window)
  exact ⟨⟨k1, hl, h.on (Keeps.gr k2 hl)⟩, k2⟩
/-- bytes laid into a new block -/
theorem bytes_at (w : World) (zs : List Int) (c : Nat) (hc : max zs.length c ≤ maxLen) (hz : Byt zs) (f : Nat × Nat) (t : TypeId) : BSl (w.alloc (.cells (zs.map (.int .u8)).toArray t f)) (w.heap.size + 1) (.slice (some ⟨w.heap.size, 0, none⟩) zs.length (max zs.length c)) zs := by
  have hb := heap_alloc_new w (.cells (zs.map (Value.int .u8)).toArray t f)
  by_cases hm : max zs.length c ≤ maxLen
  · refine ⟨_, _, rfl, Nat.le_max_left _ _, hm, (fun e => by cases e), hz, fun _ => ⟨w.heap.size, 0, rfl, Nat.lt_succ_self _, fun j hj => ?_⟩⟩
    simp only [World.cell?, hb]
    simp [List.getD_eq_getElem?_getD, hj]
  · exact absurd hc hm
theorem byt2 : Byt [97, 98] := fun j => by
  match j with
  | 0 => exact ⟨by decide, by decide⟩
  | 1 => exact ⟨by decide, by decide⟩
  | j + 2 => exact ⟨by simp, by simp⟩
theorem tells1 : begG 9 = (⟨0, [], -1, 9⟩, 0) := by kernel_rfl
theorem tells2 : putG ⟨0, [], -1, 9⟩ 0 [97, 98] true = (⟨0, [(0, [97, 98])], 2, 9⟩, 0) := by kernel_rfl
theorem tells3 : takG ⟨0, [(0, [97, 98])], 2, 9⟩ = (⟨2, [], 2, 9⟩, [97, 98], true, 0) := by kernel_rfl
set_option maxHeartbeats 1000000 in
theorem gatherTells_any (w : World) : Calls Try.prog 25 #[] w fun e w' => e = .returned (.bool true) ∧ Below w.heap.size w w' := by
  have H1 := Lib.hid (fun w => gaBegin_F 9 w (by omega))
  rw [tells1] at H1
  have H2 := Lib.hid (fun v v2 w hv hd => gaPut_F v v2 ⟨0, [], -1, 9⟩ 0 [97, 98] true w hv ⟨by decide +kernel, by decide +kernel, by decide +kernel, fun p hp => by cases hp⟩ (fun p hp => by cases hp) hd (by simp [sumP]) (by omega))
  rw [tells2] at H2
  have H3 := Lib.hid (fun v w hv => gaTake_F v ⟨0, [(0, [97, 98])], 2, 9⟩ w hv ⟨by decide +kernel, by decide +kernel, by decide +kernel, fun p hp => by simp at hp; subst hp; decide +kernel⟩ (fun p hp => by simp at hp; subst hp; decide))
  rw [tells3] at H3
  go_enter Try.func25, Try.ntmps25
  go_wp2_with fail
  refine (H1.out _).mono ?_
  rintro e w1 ⟨b1, u1, rfl, hu1⟩
  obtain ⟨A1, n1, c1, rfl, p1⟩ := hu1.slice
  have B1 := Lib.hid (b1.alloc b1.size (.cells #[.int .i64 0, .slice A1 n1 c1, .int .i64 (-1), .int .i64 9] 24))
  have V1 := Lib.hid (GVd.fresh (g := ⟨0, [], -1, 9⟩) p1 rfl)
  have hs1 := b1.size
  clear b1 hu1 p1
  obtain ⟨q0, q1, q2, q3⟩ := bkG V1.out.blk
  have kc := Lib.run_convert_bytes_const (P := Try.prog) (w1.alloc (.cells #[.int .i64 0, .slice A1 n1 c1, .int .i64 (-1), .int .i64 9] 24)) 31 5 #[.int .u8 97, .int .u8 98] 2 2 Try.underlying31 Try.underlying5
  rw [show (w1.alloc (.cells #[.int .i64 0, .slice A1 n1 c1, .int .i64 (-1), .int .i64 9] 24)).heap.size = w1.heap.size + 1 by simp] at kc
  have D2 := Lib.hid (bytes_at (w1.alloc (.cells #[.int .i64 0, .slice A1 n1 c1, .int .i64 (-1), .int .i64 9] 24)) [97, 98] 2 (by unfold maxLen; decide) byt2 (2, 3) 5)
  have BN2 := Lib.hid ((Below.refl (w1.alloc (.cells #[.int .i64 0, .slice A1 n1 c1, .int .i64 (-1), .int .i64 9] 24)).heap.size (w1.alloc (.cells #[.int .i64 0, .slice A1 n1 c1, .int .i64 (-1), .int .i64 9] 24))).alloc (Nat.le_refl _) (.cells #[.int .u8 97, .int .u8 98] 5 (2, 3)))
  have V2 := Lib.hid (V1.out.below BN2.out)
  have B2 := Lib.hid (B1.out.trans (BN2.out.mono B1.out.size))
  have hv1 : w1.heap.size < (w1.alloc (.cells #[.int .i64 0, .slice A1 n1 c1, .int .i64 (-1), .int .i64 9] 24)).heap.size := by simp
  go_wp2_with fail
  refine (H2.out _ _ _ V2.out.val (by simpa using D2.out)).mono ?_
  clear kc q0 q1 q2 q3 D2 H1 H2
  rintro e w2 ⟨b2, u2, rfl, hu2⟩
  obtain ⟨A2, n2, c2, rfl, p2⟩ := hu2.slice
  have B3 := Lib.hid (B2.out.trans (b2.mono B2.out.size))
  have V3 := Lib.hid (V2.out.below b2)
  obtain ⟨v4, g4⟩ := GVd.put (b := w1.heap.size) (g := ⟨0, [(0, [97, 98])], 2, 9⟩) V3.out.blk p2 (by simp; omega)
  have B4 := Lib.hid (gr_from B3.out B3.out.size (by omega) g4)
  have V4 := Lib.hid v4
  clear b2 hu2 p2 v4 g4
  obtain ⟨q0, q1, q2, q3⟩ := bkG V3.out.blk
  have qf := fun i => bk_frz V3.out.blk i
  obtain ⟨r0, r1, r2, r3⟩ := bkG V4.out.blk
  go_wp2_with fail
  refine (H3.out _ _ V4.out.val).mono ?_
  rintro e w3 ⟨b3, u3, d3, rfl, hu3, hd3⟩
  obtain ⟨A3, n3, c3, rfl, p3⟩ := hu3.slice
  obtain ⟨Ad, cd, rfl, _, _, _, hdr⟩ := hd3.now.ex
  have B5 := Lib.hid (B4.out.trans (b3.mono B4.out.size))
  have B6 := Lib.hid (B5.out.alloc B5.out.size (.cells #[.int .i64 2, .slice A3 n3 c3, .int .i64 2, .int .i64 9] 24))
  have HDR := Lib.hid (hd3.on (Keeps.below ((Below.refl w3.heap.size w3).alloc (Nat.le_refl _) (.cells #[.int .i64 2, .slice A3 n3 c3, .int .i64 2, .int .i64 9] 24)))).now
  have hrow : BRow (w3.alloc (.cells #[.int .i64 2, .slice A3 n3 c3, .int .i64 2, .int .i64 9] 24)) (w3.alloc (.cells #[.int .i64 2, .slice A3 n3 c3, .int .i64 2, .int .i64 9] 24)).heap.size Ad [97, 98] := by
    obtain ⟨A9, c9, e9, _, _, _, h9⟩ := HDR.ex
    cases e9
    exact h9
  have hst := run_str (P := Try.prog) hrow (n := 2) rfl 31 9 5 cd Try.underlying31 Try.underlying5 Try.underlying9
  rw [show strOfNums [97, 98] = ⟨#[97, 98]⟩ from by rfl] at hst
  clear b3 hu3 hd3 p3 hdr q0 q1 q2 q3 qf r0 r1 r2 r3 hrow HDR
  go_wp2_with fail
  go_ret
  exact ⟨rfl, B6.out⟩
end Go.Proofs.Ytfbjgbnlgaajaaa
