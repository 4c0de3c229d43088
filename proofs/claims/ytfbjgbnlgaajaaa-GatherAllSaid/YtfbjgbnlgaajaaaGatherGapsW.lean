/- The walk of GatherGaps. -/
import Derived.Test.YtfbjgbnlgaajaaaFreshS
import Derived.Test.YtfbjgbnlgaajaaaPick
import Derived.Test.YtfbjgbnlgaajaaaRegInv
import Derived.Test.YtfbjgbnlgaajaaaExt
namespace Go.Proofs.Ytfbjgbnlgaajaaa
set_option linter.unusedVariables false
open Go.RowKit P

theorem sum_reach : ∀ (ps : List Pc) (a : Int), okPs a ps → (sumP ps : Int) ≤ reachP a ps - a
  | [], a, h => by simp [sumP, reachP]
  | p :: ps, a, h => by
    have ih := sum_reach ps (endP p) h.2.2
    have e : sumP (p :: ps) = p.2.length + sumP ps := by simp [sumP]
    have e2 : reachP a (p :: ps) = reachP (endP p) ps := rfl
    have e3 : endP p = p.1 + p.2.length := rfl
    have := h.2.1
    rw [e, e2]
    push_cast
    omega
/-- what may be, and is small -/
structure Small (g : Ga) : Prop where
  ok : okG g
  win : g.window ≤ 1000
  fin : g.final ≤ 1000
theorem Small.fault {g : Ga} (h : Small g) : faultG g = 0 := if_pos h.ok
theorem Small.reach {g : Ga} (h : Small g) : g.done ≤ reachP g.done g.held ∧ reachP g.done g.held ≤ 1000 := by
  obtain ⟨o1, o2, o3, o4, o5, o6, o7⟩ := h.ok
  have := reach_ge g.held (g.done - 1) g.done o5 (by omega) (by omega)
  have := h.win
  exact ⟨by omega, by omega⟩
theorem Small.sum {g : Ga} (h : Small g) : sumP g.held ≤ 1001 := by
  obtain ⟨o1, o2, o3, o4, o5, o6, o7⟩ := h.ok
  have h1 := sum_reach g.held (g.done - 1) o5
  have h2 := h.reach
  cases hh : g.held with
  | nil => simp [sumP]
  | cons p ps =>
    rw [hh] at h1 h2
    have e : reachP (g.done - 1) (p :: ps) = reachP g.done (p :: ps) := rfl
    omega
theorem Small.len {g : Ga} (h : Small g) : ∀ p ∈ g.held, p.2.length ≤ 140737488355328 := fun p hp => by
  have := sum_mem hp
  have := h.sum
  omega
theorem Small.wf {g : Ga} (h : Small g) : GaWf g := by
  obtain ⟨o1, o2, o3, o4, o5, o6, o7⟩ := h.ok
  have h1 := h.reach
  have h2 := h.win
  have h3 := h.fin
  refine ⟨ga_i64.2 (by omega), ga_i64.2 (by omega), ga_i64.2 (by omega), fun p hp => ?_⟩
  obtain ⟨b1, b2⟩ := held_bd h.ok p hp
  have : endP p = p.1 + p.2.length := rfl
  exact ga_i64.2 (by omega)
theorem Small.n4 {g : Ga} (h : Small g) : g.held.length ≤ 4 := h.ok.2.2.2.1
theorem Small.put {g : Ga} {off : Int} {d : List Int} {fin : Bool} (h : Small g) (e : (putG g off d fin).2 = 0) : Small (putG g off d fin).1 ∧ (putG g off d fin).1.window = g.window ∧ (putG g off d fin).1.done = g.done := by
  have h1 := putG_ok e
  have hw := h.win
  have hf := h.fin
  rw [putG_ref] at e h1 ⊢
  by_cases c1 : refG g off d.length fin = 0
  · rw [if_neg (fun k => k c1)] at e h1 ⊢
    by_cases c2 : 4 < (putP g off d).length
    · rw [if_pos c2] at e; cases e
    · rw [if_neg c2] at e h1 ⊢
      have hok := okG_of h1
      refine ⟨⟨hok, hw, ?_⟩, rfl, rfl⟩
      show (if fin = true then off + (d.length : Int) else g.final) ≤ 1000
      split
      · have : ¬ g.window < off + (d.length : Int) := fun q => by
          unfold refG at c1
          rw [if_neg (fun k => k h.fault)] at c1
          repeat' split at c1
          all_goals first | omega | cases c1
        omega
      · exact hf
  · rw [if_pos c1] at e; exact absurd e c1
structure GapI (g : Ga) : Prop where
  sm : Small g
  d0 : g.done = 0
  f0 : g.final = -1
  w0 : g.window = 300
/-- numbers that came in -/
structure IRow (w : World) (A : Option Addr) (m : Nat) (zs : List Int) : Prop where
  cells : 0 < m → ∃ b off, A = some ⟨b, off, none⟩ ∧ b < w.heap.size ∧ ∀ j, j < m → w.cell? ⟨b, off + j, none⟩ = some (.int .i64 (zs.getD j 0))
  bd : ∀ j, -9223372036854775808 ≤ zs.getD j 0 ∧ zs.getD j 0 ≤ 9223372036854775807
theorem IRow.of {w : World} {A : Option Addr} {len cap : Nat} {zs : List Int} (h : IsRow .i64 w A len cap zs) : IRow w A len zs ∧ len ≤ cap ∧ cap ≤ maxLen := by
  rcases h with ⟨rfl, rfl, rfl, rfl⟩ | ⟨x, rfl, hl, hm, hz, hc, hw⟩
  · exact ⟨⟨fun h => absurd h (by omega), fun j => by simp⟩, Nat.le_refl _, by unfold maxLen; omega⟩
  · refine ⟨⟨fun h0 => ?_, fun j => ?_⟩, hl, hm⟩
    · have c0 := hc 0 (by omega)
      have hsp := World.cell?_spot c0
      obtain ⟨b, off, sp⟩ := x
      have hsp' : sp = none := by simpa [Addr.add] using hsp
      subst hsp'
      have hb := World.block_lt_of_cell? w _ c0
      refine ⟨b, off, rfl, by simpa [Addr.add] using hb, fun j hj => ?_⟩
      have := hc j (by omega)
      rw [Go.WideShapes.add_plain] at this
      exact this
    · by_cases hj : j < zs.length
      · have := hw (zs.getD j 0) (by rw [List.getD_eq_getElem?_getD, List.getElem?_eq_getElem hj]; exact List.getElem_mem hj)
        exact ga_i64.1 this
      · rw [List.getD_eq_getElem?_getD, List.getElem?_eq_none (by omega)]
        exact ⟨by decide, by decide⟩
theorem gaps_put {g : Ga} (h : Small g) (hd : g.done = 0) (hf : g.final = -1) (hw : g.window = 300) (z : Int) : ((putG g (2 * (z % 100)) [1] false).2 = 0 ∧ (Small (putG g (2 * (z % 100)) [1] false).1 ∧ (putG g (2 * (z % 100)) [1] false).1.done = 0 ∧ (putG g (2 * (z % 100)) [1] false).1.final = -1 ∧ (putG g (2 * (z % 100)) [1] false).1.window = 300)) ∨ ((putG g (2 * (z % 100)) [1] false).2 = 8 ∧ g.held.length = 4) := by
  have hm0 : 0 ≤ z % 100 := Int.emod_nonneg _ (by decide)
  have hm1 : z % 100 < 100 := Int.emod_lt_of_pos _ (by decide)
  by_cases e : (putG g (2 * (z % 100)) [1] false).2 = 0
  · obtain ⟨s1, s2, s3⟩ := h.put e
    refine .inl ⟨e, s1, by rw [s3, hd], ?_, by rw [s2, hw]⟩
    rw [putG_ref] at e ⊢
    by_cases c1 : refG g (2 * (z % 100)) ([1] : List Int).length false = 0
    · rw [if_neg (fun k => k c1)] at e ⊢
      by_cases c2 : 4 < (putP g (2 * (z % 100)) [1]).length
      · rw [if_pos c2] at e; cases e
      · rw [if_neg c2]; exact hf
    · rw [if_pos c1] at e; exact absurd e c1
  · refine .inr ?_
    rw [putG_ref] at e ⊢
    have c1 : refG g (2 * (z % 100)) ([1] : List Int).length false = 0 := by
      unfold refG
      simp only [List.length_cons, List.length_nil]
      rw [if_neg (fun k => k h.fault), if_neg (by push_cast; omega), if_neg (fun k => k.1 hf), if_neg (fun k => by cases k.1), if_neg (by push_cast; omega)]
    rw [if_neg (fun k => k c1)] at e ⊢
    by_cases c2 : 4 < (putP g (2 * (z % 100)) [1]).length
    · rw [if_pos c2]
      have h4 := h.n4
      have := insP_len g.held (max (2 * (z % 100)) g.done) (([1] : List Int).drop (max (2 * (z % 100)) g.done - 2 * (z % 100)).toNat)
      unfold putP at c2
      exact ⟨rfl, by omega⟩
    · rw [if_neg c2] at e; exact absurd rfl e
structure Gap5 (w0 : World) (g : Ga) (A : Option Addr) (n c : Nat) (z : Int) (r : Ga) (xe : Int) (V0 V1 V2 V3 V8 V11 : Value) (b0 b1 b2 b3 b4 b5 b6 b7 b8 b9 b10 b11 : Bool) (x0 x1 x2 x3 x4 x5 x6 x7 x8 x9 x10 x11 : Value) (w : World) : Prop where
  be : Below w0.heap.size w0 w
  d2 : b2 = true → b1 = true
  d3 : b3 = true → b2 = true
  d5 : b5 = true → b0 = true ∧ b2 = true ∧ b3 = true ∧ b4 = true
  d6 : b6 = true → b5 = true
  d7 : b7 = true → b6 = true
  d8 : b8 = true → b6 = true
  d10 : b10 = true → b0 = true ∧ b1 = true ∧ b2 = true ∧ b3 = true ∧ b4 = true ∧ b5 = true ∧ b6 = true ∧ b7 = true ∧ b9 = true
  d11 : b11 = true → b0 = true ∧ b1 = true ∧ b2 = true ∧ b3 = true ∧ b4 = true ∧ b5 = true ∧ b6 = true ∧ b7 = true ∧ b8 = true ∧ b9 = true ∧ b10 = true
  t5 : b5 = true → ∃ u, x5 = .tuple #[u, .int .i64 xe]
  t6 : b6 = true → ∃ u, x6 = .tuple #[u, .int .i64 xe]
  h0 : b0 = true → x0 = V0
  h1 : b1 = true → x1 = V1
  h2 : b2 = true → x2 = V2
  h3 : b3 = true → x3 = V3
  h4 : b4 = true → b10 = false → BSl w w.heap.size x4 [1]
  h5 : b5 = true → b10 = false → ∃ u, x5 = .tuple #[u, .int .i64 xe] ∧ GaFS w (SX w0 b9 x9) u r
  h6 : b6 = true → b10 = false → ∃ u, x6 = .tuple #[u, .int .i64 xe] ∧ GaFS w (SX w0 b9 x9) u r
  h7 : b7 = true → b10 = false → GaFS w (SX w0 b9 x9) x7 r
  h8 : b8 = true → x8 = V8
  h9 : b9 = true → b10 = false → ∃ k, x9 = .pointer (some ⟨k, 0, none⟩) ∧ w0.heap.size ≤ k ∧ w.heap[k]? = some (.cells #[.int .i64 0, .slice none 0 0, .int .i64 0, .int .i64 0] 24 (0, 0))
  h10 : b10 = true → ∃ k A n c, x9 = .pointer (some ⟨k, 0, none⟩) ∧ NewV w0 k r A n c w
  h11 : b11 = true → x11 = V11
structure Gap11 (w0 : World) (g : Ga) (A : Option Addr) (n c : Nat) (a1 : Int) (r : Ga) (V0 V1 V2 V3 V7 V10 : Value) (b0 b1 b2 b3 b4 b5 b6 b7 b8 b9 b10 : Bool) (x0 x1 x2 x3 x4 x5 x6 x7 x8 x9 x10 : Value) (w : World) : Prop where
  be : Below w0.heap.size w0 w
  d2 : b2 = true → b1 = true
  d3 : b3 = true → b2 = true
  d4 : b4 = true → b0 = true ∧ b2 = true ∧ b3 = true
  d5 : b5 = true → b4 = true
  d6 : b6 = true → b5 = true
  d7 : b7 = true → b5 = true
  d9 : b9 = true → b0 = true ∧ b1 = true ∧ b2 = true ∧ b3 = true ∧ b4 = true ∧ b5 = true ∧ b6 = true ∧ b8 = true
  d10 : b10 = true → b0 = true ∧ b1 = true ∧ b2 = true ∧ b3 = true ∧ b4 = true ∧ b5 = true ∧ b6 = true ∧ b7 = true ∧ b8 = true ∧ b9 = true
  t5 : b4 = true → ∃ u, x4 = .tuple #[u, .int .i64 0]
  t6 : b5 = true → ∃ u, x5 = .tuple #[u, .int .i64 0]
  h0 : b0 = true → x0 = V0
  h1 : b1 = true → x1 = V1
  h2 : b2 = true → x2 = V2
  h3 : b3 = true → x3 = V3
  h4 : b4 = true → b9 = false → ∃ u, x4 = .tuple #[u, .int .i64 0] ∧ GaFS w (SX w0 b8 x8) u r
  h5 : b5 = true → b9 = false → ∃ u, x5 = .tuple #[u, .int .i64 0] ∧ GaFS w (SX w0 b8 x8) u r
  h6 : b6 = true → b9 = false → GaFS w (SX w0 b8 x8) x6 r
  h7 : b7 = true → x7 = V7
  h8 : b8 = true → b9 = false → ∃ k, x8 = .pointer (some ⟨k, 0, none⟩) ∧ w0.heap.size ≤ k ∧ w.heap[k]? = some (.cells #[.int .i64 0, .slice none 0 0, .int .i64 0, .int .i64 0] 24 (0, 0))
  h9 : b9 = true → ∃ k A n c, x8 = .pointer (some ⟨k, 0, none⟩) ∧ NewV w0 k r A n c w
  h10 : b10 = true → x10 = V10
set_option maxRecDepth 100000 in
set_option maxHeartbeats 4000000 in
theorem gatherGaps_walk (a0 : Option Addr) (len0 cap0 : Nat) (z0 : List Int) (a1 : Int) (w : World) (h0 : IsRow .i64 w a0 len0 cap0 z0) :
    Calls Try.prog 10 #[.slice a0 len0 cap0, .int .i64 a1] w fun e w' => e = .returned (.bool true) ∧ Below w.heap.size w w' := by
  obtain ⟨hrow, hlc, hcm⟩ := IRow.of h0
  have HROW := Lib.hid hrow
  have H1 := Lib.hid (fun w => gaBegin_F 300 w (by omega))
  rw [show begG 300 = (⟨0, [], -1, 300⟩, 0) by kernel_rfl] at H1
  have S0 := Lib.hid (show GapI ⟨0, [], -1, 300⟩ from ⟨⟨by decide +kernel, by decide, by decide⟩, rfl, rfl, rfl⟩)
  obtain ⟨L, hL⟩ : ∃ L, min len0 20 = L := ⟨_, rfl⟩
  have hmn : (if (20 : Int) < (len0 : Int) then 20 else (len0 : Int)) = (L : Int) := by split <;> omega
  have hLl : L ≤ len0 := by omega
  have hL20 : L ≤ 20 := by omega
  have m0 : 0 ≤ a1 % 100 := Int.emod_nonneg _ (by decide)
  have m1 : a1 % 100 < 100 := Int.emod_lt_of_pos _ (by decide)
  unfold maxLen at hcm
  clear hrow h0 hL
  go_enter Try.func10, Try.ntmps10
  go_wp2_with fail
  refine (H1.out _).mono ?_
  rintro e w1 ⟨b1, u1, rfl, hu1⟩
  obtain ⟨A1, n1, c1, rfl, p1⟩ := hu1.slice
  have B1 := Lib.hid (b1.alloc b1.size (.cells #[.int .i64 0, .slice A1 n1 c1, .int .i64 (-1), .int .i64 300] 24))
  have V1 := Lib.hid (GW.new (g := ⟨0, [], -1, 300⟩) p1.toS)
  have hVw : w.heap.size ≤ w1.heap.size := b1.size
  clear b1 hu1 p1 H1
  obtain ⟨V, hV⟩ : ∃ V, w1.heap.size = V := ⟨_, rfl⟩
  rw [hV] at hVw V1
  go_wp2_with fail
  try rw [hV]
  obtain ⟨W1, hW1⟩ : ∃ W, w1.alloc (.cells #[.int .i64 0, .slice A1 n1 c1, .int .i64 (-1), .int .i64 300] 24) = W := ⟨_, rfl⟩
  rw [hW1] at B1 V1 ⊢
  clear hW1 hV
  go_loopg [23] L (fun gq iv wr => ∃ (kk : Nat) (g : Ga) (A : Option Addr) (n c : Nat), iv = .int .i64 kk ∧ kk + gq = L ∧ Hid (Below w.heap.size w wr) ∧ Hid (GW wr V g A n c) ∧ Hid (GapI g))
  case atStart => exact ⟨0, _, _, _, _, rfl, by omega, B1, V1, S0⟩
  case round =>
    obtain ⟨kk, g, A, n, c, rfl, hkg, BX, VX, FG⟩ := hrel
    obtain ⟨X, hX⟩ : ∃ X, X = wr := ⟨_, rfl⟩
    subst hX
    have hVX := lt_of_block VX.out.blk
    by_cases hk : kk < L
    · obtain ⟨bR, o, hA, hb0, hc⟩ := HROW.out.cells (by omega)
      subst hA
      have x0 := (BX.out.cell (p := ⟨bR, o + kk, none⟩) hb0).trans (hc kk (by omega))
      have hz := HROW.out.bd kk
      obtain ⟨z, hzz⟩ : ∃ z, z0.getD kk 0 = z := ⟨_, rfl⟩
      rw [hzz] at x0 hz
      have hkL : (kk : Int) < (L : Int) := by omega
      have hp := gaps_put FG.out.sm FG.out.d0 FG.out.f0 FG.out.w0 z
      have m2 : 0 ≤ z % 100 := Int.emod_nonneg _ (by decide)
      have m3 : z % 100 < 100 := Int.emod_lt_of_pos _ (by decide)
      have HPp := fun v v2 w hv hd => gaPut_F v v2 g (2 * (z % 100)) [1] false w hv FG.out.sm.wf FG.out.sm.len hd (by have := FG.out.sm.sum; simp; omega) (by omega)
      obtain ⟨⟨r, xe⟩, hr⟩ : ∃ q, putG g (2 * (z % 100)) [1] false = q := ⟨_, rfl⟩
      rw [hr] at hp HPp
      simp only at hp
      have hnl : n = g.held.length := by obtain ⟨A9, c9, e9, _⟩ := VX.out.ps.ex; cases e9; rfl
      have HP := Lib.hid HPp
      have HX := Lib.hid (show (xe = 0 ∧ GapI r) ∨ (xe = 8 ∧ n = 4) from hp.imp (fun q => ⟨q.1, q.2.1, q.2.2.1, q.2.2.2.1, q.2.2.2.2⟩) (fun q => ⟨q.1, by rw [hnl]; exact q.2⟩))
      clear hp HPp hr hc hzz hnl
      go_wp2_with fail
      refine wp_region_inv (fun listed a w => ∃ (b0 b1 b2 b3 b4 b5 b6 b7 b8 b9 b10 b11 : Bool) (x0 x1 x2 x3 x4 x5 x6 x7 x8 x9 x10 x11 : Value), listed = #[b0, b1, b2, b3, b4, b5, b6, b7, b8, b9, b10, b11] ∧ a = { tmps := #[Value.slice (some { block := bR, off := o }) len0 cap0, Value.int IntKind.i64 a1, undef, undef, u4, Value.pointer (some { block := V, off := 0 }), Value.int IntKind.i64 0, undef, Value.int IntKind.i64 z, x9, x11, undef, undef, Value.tuple #[Value.agg #[Value.int IntKind.i64 0, Value.slice A1 n1 c1, Value.int IntKind.i64 (-1), Value.int IntKind.i64 300], Value.int IntKind.i64 0], Value.tuple #[Value.agg #[Value.int IntKind.i64 0, Value.slice A1 n1 c1, Value.int IntKind.i64 (-1), Value.int IntKind.i64 300], Value.int IntKind.i64 0], Value.agg #[Value.int IntKind.i64 0, Value.slice A1 n1 c1, Value.int IntKind.i64 (-1), Value.int IntKind.i64 300], Value.int IntKind.i64 0, Value.slice (some { block := bR, off := o }) len0 cap0, Value.slice (some { block := bR, off := o }) len0 cap0, Value.int IntKind.i64 ↑len0, Value.int IntKind.i64 ↑L, Value.slice (some { block := bR, off := o }) L cap0, Value.int IntKind.i64 ↑L, Value.int IntKind.i64 ↑kk, Value.bool true, Value.pointer (some { block := bR, off := o + kk }), Value.int IntKind.i64 z, x6, x0, x1, x2, x3, x4, x5, x7, x8, u36, u37, u38, u39, u40, u41, u42, u43, u44, u45, u46, u47, u48, u49, u50, u51, undef, undef, undef, undef, undef, undef, undef, undef, undef, undef, undef, undef, undef, undef, undef, undef, undef, undef, undef, undef, undef, undef, undef, undef, undef, undef, undef, undef, undef, undef, undef, undef, undef, undef, undef, undef], defers := [] } ∧ Gap5 X g A n c z r xe (.agg #[.int .i64 g.done, .slice A n c, .int .i64 g.final, .int .i64 g.window]) (.int .i64 z) (.int .i64 (z % 100)) (.int .i64 (2 * (z % 100))) (.int .i64 xe) (.int .i64 xe) b0 b1 b2 b3 b4 b5 b6 b7 b8 b9 b10 b11 x0 x1 x2 x3 x4 x5 x6 x7 x8 x9 x10 x11 w) (by kernel_rfl) ?h0 ?hfin ?hI
      case h0 => exact ⟨_, _, _, _, _, _, _, _, _, _, _, _, _, _, _, _, _, _, _, _, _, _, undef, _, rfl, rfl, ⟨(Below.refl _ _).drew, (fun h => by cases h), (fun h => by cases h), (fun h => by cases h), (fun h => by cases h), (fun h => by cases h), (fun h => by cases h), (fun h => by cases h), (fun h => by cases h), (fun h => by cases h), (fun h => by cases h), (fun h => by cases h), (fun h => by cases h), (fun h => by cases h), (fun h => by cases h), (fun h => by cases h), (fun h => by cases h), (fun h => by cases h), (fun h => by cases h), (fun h => by cases h), (fun h => by cases h), (fun h => by cases h), (fun h => by cases h)⟩⟩
      case hI =>
        rintro listed a w ⟨b0, b1, b2, b3, b4, b5, b6, b7, b8, b9, b10, b11, x0, x1, x2, x3, x4, x5, x6, x7, x8, x9, x10, x11, rfl, rfl, H⟩ i hi
        obtain ⟨hun, oj, hoj, hall⟩ := mem_ready.1 hi
        clear hi
        rcases i with _ | _ | _ | _ | _ | _ | _ | _ | _ | _ | _ | _ | i
        · have ho := hoj
          simp only [List.getElem?_toArray, List.getElem?_cons_succ, List.getElem?_cons_zero, Option.some.injEq] at hoj
          subst hoj
          obtain rfl : b0 = false := hun
          clear hall
          obtain rfl : b5 = false := Bool.eq_false_iff.2 fun h => Bool.false_ne_true (H.d5 h).1
          obtain rfl : b6 = false := Bool.eq_false_iff.2 fun h => Bool.false_ne_true (H.d6 h)
          obtain rfl : b7 = false := Bool.eq_false_iff.2 fun h => Bool.false_ne_true (H.d7 h)
          obtain rfl : b8 = false := Bool.eq_false_iff.2 fun h => Bool.false_ne_true (H.d8 h)
          obtain rfl : b10 = false := Bool.eq_false_iff.2 fun h => Bool.false_ne_true (H.d10 h).1
          obtain rfl : b11 = false := Bool.eq_false_iff.2 fun h => Bool.false_ne_true (H.d11 h).1
          have hbe := H.be
          have hx_t5 := H.t5
          have hx_t6 := H.t6
          obtain ⟨q0, q1, q2, q3⟩ := bkG ((hbe.block _ hVX).trans VX.out.blk)
          refine wpOp_step ho (fun K' hK => ?_)
          have HK := Lib.hid hK
          clear hK ho
          go_simp
          exact HK.out _ _ ⟨_, _, _, _, _, _, _, _, _, _, _, _, _, _, _, _, _, _, _, _, _, _, x10, _, rfl, rfl, ⟨hbe, H.d2, H.d3, (fun h => by cases h), H.d6, H.d7, H.d8, (fun h => by cases h), (fun h => by cases h), H.t5, H.t6, (fun _ => rfl), H.h1, H.h2, H.h3, H.h4, (fun h => by cases h), (fun h => by cases h), (fun h => by cases h), H.h8, H.h9, (fun h => by cases h), H.h11⟩⟩
        · have ho := hoj
          simp only [List.getElem?_toArray, List.getElem?_cons_succ, List.getElem?_cons_zero, Option.some.injEq] at hoj
          subst hoj
          obtain rfl : b1 = false := hun
          clear hall
          obtain rfl : b2 = false := Bool.eq_false_iff.2 fun h => Bool.false_ne_true (H.d2 h)
          obtain rfl : b3 = false := Bool.eq_false_iff.2 fun h => Bool.false_ne_true (H.d3 h)
          obtain rfl : b5 = false := Bool.eq_false_iff.2 fun h => Bool.false_ne_true (H.d5 h).2.1
          obtain rfl : b6 = false := Bool.eq_false_iff.2 fun h => Bool.false_ne_true (H.d6 h)
          obtain rfl : b7 = false := Bool.eq_false_iff.2 fun h => Bool.false_ne_true (H.d7 h)
          obtain rfl : b8 = false := Bool.eq_false_iff.2 fun h => Bool.false_ne_true (H.d8 h)
          obtain rfl : b10 = false := Bool.eq_false_iff.2 fun h => Bool.false_ne_true (H.d10 h).2.1
          obtain rfl : b11 = false := Bool.eq_false_iff.2 fun h => Bool.false_ne_true (H.d11 h).2.1
          have hbe := H.be
          have hx_t5 := H.t5
          have hx_t6 := H.t6
          refine wpOp_step ho (fun K' hK => ?_)
          have HK := Lib.hid hK
          clear hK ho
          go_simp
          exact HK.out _ _ ⟨_, _, _, _, _, _, _, _, _, _, _, _, _, _, _, _, _, _, _, _, _, _, x10, _, rfl, rfl, ⟨hbe, (fun h => by cases h), H.d3, H.d5, H.d6, H.d7, H.d8, (fun h => by cases h), (fun h => by cases h), H.t5, H.t6, H.h0, (fun _ => rfl), H.h2, H.h3, H.h4, (fun h => by cases h), (fun h => by cases h), (fun h => by cases h), H.h8, H.h9, (fun h => by cases h), H.h11⟩⟩
        · have ho := hoj
          simp only [List.getElem?_toArray, List.getElem?_cons_succ, List.getElem?_cons_zero, Option.some.injEq] at hoj
          subst hoj
          obtain rfl : b2 = false := hun
          obtain rfl : b1 = true := hall ⟨1, .data⟩ (by simp) (by kernel_rfl)
          clear hall
          obtain rfl : b3 = false := Bool.eq_false_iff.2 fun h => Bool.false_ne_true (H.d3 h)
          obtain rfl : b5 = false := Bool.eq_false_iff.2 fun h => Bool.false_ne_true (H.d5 h).2.1
          obtain rfl : b6 = false := Bool.eq_false_iff.2 fun h => Bool.false_ne_true (H.d6 h)
          obtain rfl : b7 = false := Bool.eq_false_iff.2 fun h => Bool.false_ne_true (H.d7 h)
          obtain rfl : b8 = false := Bool.eq_false_iff.2 fun h => Bool.false_ne_true (H.d8 h)
          obtain rfl : b10 = false := Bool.eq_false_iff.2 fun h => Bool.false_ne_true (H.d10 h).2.2.1
          obtain rfl : b11 = false := Bool.eq_false_iff.2 fun h => Bool.false_ne_true (H.d11 h).2.2.1
          have hbe := H.be
          have hx_t5 := H.t5
          have hx_t6 := H.t6
          obtain rfl := H.h1 rfl
          refine wpOp_step ho (fun K' hK => ?_)
          have HK := Lib.hid hK
          clear hK ho
          go_wp2_with (go_at_call 24; refine (picked_any z 100 (by omega) (by omega) _).mono ?_; rintro e w' ⟨rfl, rfl⟩)
          exact HK.out _ _ ⟨_, _, _, _, _, _, _, _, _, _, _, _, _, _, _, _, _, _, _, _, _, _, x10, _, rfl, rfl, ⟨hbe, (fun _ => rfl), (fun h => by cases h), (fun h => by cases h), H.d6, H.d7, H.d8, (fun h => by cases h), (fun h => by cases h), H.t5, H.t6, H.h0, H.h1, (fun _ => rfl), H.h3, H.h4, (fun h => by cases h), (fun h => by cases h), (fun h => by cases h), H.h8, H.h9, (fun h => by cases h), H.h11⟩⟩
        · have ho := hoj
          simp only [List.getElem?_toArray, List.getElem?_cons_succ, List.getElem?_cons_zero, Option.some.injEq] at hoj
          subst hoj
          obtain rfl : b3 = false := hun
          obtain rfl : b2 = true := hall ⟨2, .data⟩ (by simp) (by kernel_rfl)
          obtain rfl : b1 = true := (H.d2 rfl)
          clear hall
          obtain rfl : b5 = false := Bool.eq_false_iff.2 fun h => Bool.false_ne_true (H.d5 h).2.2.1
          obtain rfl : b6 = false := Bool.eq_false_iff.2 fun h => Bool.false_ne_true (H.d6 h)
          obtain rfl : b7 = false := Bool.eq_false_iff.2 fun h => Bool.false_ne_true (H.d7 h)
          obtain rfl : b8 = false := Bool.eq_false_iff.2 fun h => Bool.false_ne_true (H.d8 h)
          obtain rfl : b10 = false := Bool.eq_false_iff.2 fun h => Bool.false_ne_true (H.d10 h).2.2.2.1
          obtain rfl : b11 = false := Bool.eq_false_iff.2 fun h => Bool.false_ne_true (H.d11 h).2.2.2.1
          have hbe := H.be
          have hx_t5 := H.t5
          have hx_t6 := H.t6
          obtain rfl := H.h1 rfl
          obtain rfl := H.h2 rfl
          have hwm : IntKind.i64.wrap (2 * (z % 100)) = 2 * (z % 100) := by rw [IntKind.wrap_i64]; omega
          refine wpOp_step ho (fun K' hK => ?_)
          have HK := Lib.hid hK
          clear hK ho
          go_simp
          exact HK.out _ _ ⟨_, _, _, _, _, _, _, _, _, _, _, _, _, _, _, _, _, _, _, _, _, _, x10, _, rfl, rfl, ⟨hbe, H.d2, (fun _ => rfl), (fun h => by cases h), H.d6, H.d7, H.d8, (fun h => by cases h), (fun h => by cases h), H.t5, H.t6, H.h0, H.h1, H.h2, (fun _ => rfl), H.h4, (fun h => by cases h), (fun h => by cases h), (fun h => by cases h), H.h8, H.h9, (fun h => by cases h), H.h11⟩⟩
        · have ho := hoj
          simp only [List.getElem?_toArray, List.getElem?_cons_succ, List.getElem?_cons_zero, Option.some.injEq] at hoj
          subst hoj
          obtain rfl : b4 = false := hun
          clear hall
          obtain rfl : b5 = false := Bool.eq_false_iff.2 fun h => Bool.false_ne_true (H.d5 h).2.2.2
          obtain rfl : b6 = false := Bool.eq_false_iff.2 fun h => Bool.false_ne_true (H.d6 h)
          obtain rfl : b7 = false := Bool.eq_false_iff.2 fun h => Bool.false_ne_true (H.d7 h)
          obtain rfl : b8 = false := Bool.eq_false_iff.2 fun h => Bool.false_ne_true (H.d8 h)
          obtain rfl : b10 = false := Bool.eq_false_iff.2 fun h => Bool.false_ne_true (H.d10 h).2.2.2.2.1
          obtain rfl : b11 = false := Bool.eq_false_iff.2 fun h => Bool.false_ne_true (H.d11 h).2.2.2.2.1
          have hbe := H.be
          have hx_t5 := H.t5
          have hx_t6 := H.t6
          have BA := Lib.hid ((Below.refl w.heap.size w).alloc (Nat.le_refl _) (.cells #[.int .u8 1] 5))
          have NA := Lib.hid (one_at_new w)
          refine wpOp_step ho (fun K' hK => ?_)
          have HK := Lib.hid hK
          clear hK ho
          go_simp
          exact HK.out _ _ ⟨_, _, _, _, _, _, _, _, _, _, _, _, _, _, _, _, _, _, _, _, _, _, x10, _, rfl, rfl, ⟨hbe.trans (BA.out.mono hbe.size), H.d2, H.d3, (fun h => by cases h), H.d6, H.d7, H.d8, (fun h => by cases h), (fun h => by cases h), hx_t5, hx_t6, H.h0, H.h1, H.h2, H.h3, (fun _ _ => NA.out), (fun h => by cases h), (fun h => by cases h), (fun h => by cases h), H.h8, (fun e f => let ⟨k, e1, e2, e3⟩ := (H.h9 e f); ⟨k, e1, e2, (BA.out.block _ (lt_of_block e3)).trans e3⟩), (fun h => by cases h), H.h11⟩⟩
        · have ho := hoj
          simp only [List.getElem?_toArray, List.getElem?_cons_succ, List.getElem?_cons_zero, Option.some.injEq] at hoj
          subst hoj
          obtain rfl : b5 = false := hun
          obtain rfl : b0 = true := hall ⟨0, .data⟩ (by simp) (by kernel_rfl)
          obtain rfl : b2 = true := hall ⟨2, .chain⟩ (by simp) (by kernel_rfl)
          obtain rfl : b3 = true := hall ⟨3, .data⟩ (by simp) (by kernel_rfl)
          obtain rfl : b4 = true := hall ⟨4, .data⟩ (by simp) (by kernel_rfl)
          obtain rfl : b1 = true := (H.d2 rfl)
          clear hall
          obtain rfl : b6 = false := Bool.eq_false_iff.2 fun h => Bool.false_ne_true (H.d6 h)
          obtain rfl : b7 = false := Bool.eq_false_iff.2 fun h => Bool.false_ne_true (H.d7 h)
          obtain rfl : b8 = false := Bool.eq_false_iff.2 fun h => Bool.false_ne_true (H.d8 h)
          obtain rfl : b10 = false := Bool.eq_false_iff.2 fun h => Bool.false_ne_true (H.d10 h).2.2.2.2.2.1
          obtain rfl : b11 = false := Bool.eq_false_iff.2 fun h => Bool.false_ne_true (H.d11 h).2.2.2.2.2.1
          have hbe := H.be
          have hx_t5 := H.t5
          have hx_t6 := H.t6
          obtain rfl := H.h0 rfl
          obtain rfl := H.h1 rfl
          obtain rfl := H.h2 rfl
          obtain rfl := H.h3 rfl
          have P4 := H.h4 rfl rfl
          have P4' := Lib.hid P4
          clear P4
          refine wpOp_step ho (fun K' hK => ?_)
          have HK := Lib.hid hK
          clear hK ho
          go_wp2_with fail
          refine (HP.out _ _ w ((VX.out.below hbe).val) P4'.out).mono ?_
          rintro e w1 ⟨bb1, u1, rfl, hu1⟩
          have BC := Lib.hid bb1
          have UC := Lib.hid (hu1.toX (w0 := X) hbe.size (fun hb => let ⟨k, e1, _, e3⟩ := H.h9 hb rfl; ⟨k, e1, lt_of_block e3⟩))
          clear bb1 hu1
          go_wp2_with fail
          exact HK.out _ _ ⟨_, _, _, _, _, _, _, _, _, _, _, _, _, _, _, _, _, _, _, _, _, _, x10, _, rfl, rfl, ⟨hbe.trans (BC.out.mono hbe.size), H.d2, H.d3, (fun _ => ⟨rfl, rfl, rfl, rfl⟩), (fun h => by cases h), H.d7, H.d8, (fun h => by cases h), (fun h => by cases h), fun _ => ⟨_, rfl⟩, hx_t6, H.h0, H.h1, H.h2, H.h3, (fun e f => ((H.h4 e f).below BC.out).more BC.out.size), (fun _ _ => ⟨_, rfl, UC.out⟩), (fun h => by cases h), (fun h => by cases h), H.h8, (fun e f => let ⟨k, e1, e2, e3⟩ := (H.h9 e f); ⟨k, e1, e2, (BC.out.block _ (lt_of_block e3)).trans e3⟩), (fun h => by cases h), H.h11⟩⟩
        · have ho := hoj
          simp only [List.getElem?_toArray, List.getElem?_cons_succ, List.getElem?_cons_zero, Option.some.injEq] at hoj
          subst hoj
          obtain rfl : b6 = false := hun
          obtain rfl : b5 = true := hall ⟨5, .data⟩ (by simp) (by kernel_rfl)
          obtain rfl : b0 = true := (H.d5 rfl).1
          obtain rfl : b2 = true := (H.d5 rfl).2.1
          obtain rfl : b3 = true := (H.d5 rfl).2.2.1
          obtain rfl : b4 = true := (H.d5 rfl).2.2.2
          obtain rfl : b1 = true := (H.d2 rfl)
          clear hall
          obtain rfl : b7 = false := Bool.eq_false_iff.2 fun h => Bool.false_ne_true (H.d7 h)
          obtain rfl : b8 = false := Bool.eq_false_iff.2 fun h => Bool.false_ne_true (H.d8 h)
          obtain rfl : b10 = false := Bool.eq_false_iff.2 fun h => Bool.false_ne_true (H.d10 h).2.2.2.2.2.2.1
          obtain rfl : b11 = false := Bool.eq_false_iff.2 fun h => Bool.false_ne_true (H.d11 h).2.2.2.2.2.2.1
          have hbe := H.be
          have hx_t5 := H.t5
          have hx_t6 := H.t6
          obtain rfl := H.h0 rfl
          obtain rfl := H.h1 rfl
          obtain rfl := H.h2 rfl
          obtain rfl := H.h3 rfl
          have P4 := H.h4 rfl rfl
          have P5 := H.h5 rfl rfl
          have PT := Lib.hid P5
          have TT := Lib.hid (H.t5 rfl)
          clear P5
          refine wpOp_step ho (fun K' hK => ?_)
          have HK := Lib.hid hK
          clear hK ho
          go_simp
          exact HK.out _ _ ⟨_, _, _, _, _, _, _, _, _, _, _, _, _, _, _, _, _, _, _, _, _, _, x10, _, rfl, rfl, ⟨hbe, H.d2, H.d3, H.d5, (fun _ => rfl), (fun h => by cases h), (fun h => by cases h), (fun h => by cases h), (fun h => by cases h), H.t5, fun _ => TT.out, H.h0, H.h1, H.h2, H.h3, H.h4, H.h5, (fun _ _ => PT.out), (fun h => by cases h), H.h8, H.h9, (fun h => by cases h), H.h11⟩⟩
        · have ho := hoj
          simp only [List.getElem?_toArray, List.getElem?_cons_succ, List.getElem?_cons_zero, Option.some.injEq] at hoj
          subst hoj
          obtain rfl : b7 = false := hun
          obtain rfl : b6 = true := hall ⟨6, .data⟩ (by simp) (by kernel_rfl)
          obtain rfl : b5 = true := (H.d6 rfl)
          obtain rfl : b0 = true := (H.d5 rfl).1
          obtain rfl : b2 = true := (H.d5 rfl).2.1
          obtain rfl : b3 = true := (H.d5 rfl).2.2.1
          obtain rfl : b4 = true := (H.d5 rfl).2.2.2
          obtain rfl : b1 = true := (H.d2 rfl)
          clear hall
          obtain rfl : b10 = false := Bool.eq_false_iff.2 fun h => Bool.false_ne_true (H.d10 h).2.2.2.2.2.2.2.1
          obtain rfl : b11 = false := Bool.eq_false_iff.2 fun h => Bool.false_ne_true (H.d11 h).2.2.2.2.2.2.2.1
          have hbe := H.be
          have hx_t5 := H.t5
          have hx_t6 := H.t6
          obtain rfl := H.h0 rfl
          obtain rfl := H.h1 rfl
          obtain rfl := H.h2 rfl
          obtain rfl := H.h3 rfl
          have P4 := H.h4 rfl rfl
          have P5 := H.h5 rfl rfl
          have P6 := H.h6 rfl rfl
          obtain ⟨u, rfl, hu⟩ := P6
          have HU := Lib.hid hu
          clear hu
          refine wpOp_step ho (fun K' hK => ?_)
          have HK := Lib.hid hK
          clear hK ho
          go_simp
          exact HK.out _ _ ⟨_, _, _, _, _, _, _, _, _, _, _, _, _, _, _, _, _, _, _, _, _, _, x10, _, rfl, rfl, ⟨hbe, H.d2, H.d3, H.d5, H.d6, (fun _ => rfl), H.d8, (fun h => by cases h), (fun h => by cases h), H.t5, H.t6, H.h0, H.h1, H.h2, H.h3, H.h4, H.h5, H.h6, (fun _ _ => HU.out), H.h8, H.h9, (fun h => by cases h), H.h11⟩⟩
        · have ho := hoj
          simp only [List.getElem?_toArray, List.getElem?_cons_succ, List.getElem?_cons_zero, Option.some.injEq] at hoj
          subst hoj
          obtain rfl : b8 = false := hun
          obtain rfl : b6 = true := hall ⟨6, .data⟩ (by simp) (by kernel_rfl)
          obtain rfl : b5 = true := (H.d6 rfl)
          obtain rfl : b0 = true := (H.d5 rfl).1
          obtain rfl : b2 = true := (H.d5 rfl).2.1
          obtain rfl : b3 = true := (H.d5 rfl).2.2.1
          obtain rfl : b4 = true := (H.d5 rfl).2.2.2
          obtain rfl : b1 = true := (H.d2 rfl)
          clear hall
          obtain rfl : b11 = false := Bool.eq_false_iff.2 fun h => Bool.false_ne_true (H.d11 h).2.2.2.2.2.2.2.2.1
          have hbe := H.be
          have hx_t5 := H.t5
          have hx_t6 := H.t6
          obtain rfl := H.h0 rfl
          obtain rfl := H.h1 rfl
          obtain rfl := H.h2 rfl
          obtain rfl := H.h3 rfl
          obtain ⟨u, rfl⟩ := H.t6 rfl
          refine wpOp_step ho (fun K' hK => ?_)
          have HK := Lib.hid hK
          clear hK ho
          go_simp
          exact HK.out _ _ ⟨_, _, _, _, _, _, _, _, _, _, _, _, _, _, _, _, _, _, _, _, _, _, x10, _, rfl, rfl, ⟨hbe, H.d2, H.d3, H.d5, H.d6, H.d7, (fun _ => rfl), H.d10, (fun h => by cases h), H.t5, H.t6, H.h0, H.h1, H.h2, H.h3, H.h4, H.h5, H.h6, H.h7, (fun _ => rfl), H.h9, H.h10, H.h11⟩⟩
        · have ho := hoj
          simp only [List.getElem?_toArray, List.getElem?_cons_succ, List.getElem?_cons_zero, Option.some.injEq] at hoj
          subst hoj
          obtain rfl : b9 = false := hun
          clear hall
          obtain rfl : b10 = false := Bool.eq_false_iff.2 fun h => Bool.false_ne_true (H.d10 h).2.2.2.2.2.2.2.2
          obtain rfl : b11 = false := Bool.eq_false_iff.2 fun h => Bool.false_ne_true (H.d11 h).2.2.2.2.2.2.2.2.2.1
          have hbe := H.be
          have hx_t5 := H.t5
          have hx_t6 := H.t6
          have BA := Lib.hid ((Below.refl w.heap.size w).alloc (Nat.le_refl _) (.cells #[.int .i64 0, .slice none 0 0, .int .i64 0, .int .i64 0] 24))
          have NA := Lib.hid (heap_alloc_new w (.cells #[.int .i64 0, .slice none 0 0, .int .i64 0, .int .i64 0] 24))
          have hsz := hbe.size
          refine wpOp_step ho (fun K' hK => ?_)
          have HK := Lib.hid hK
          clear hK ho
          go_simp
          exact HK.out _ _ ⟨_, _, _, _, _, _, _, _, _, _, _, _, _, _, _, _, _, _, _, _, _, _, x10, _, rfl, rfl, ⟨hbe.trans (BA.out.mono hbe.size), H.d2, H.d3, H.d5, H.d6, H.d7, H.d8, (fun h => by cases h), (fun h => by cases h), hx_t5, hx_t6, H.h0, H.h1, H.h2, H.h3, (fun e f => ((H.h4 e f).below BA.out).more BA.out.size), (fun e f => let ⟨u, e1, e2⟩ := (H.h5 e f); ⟨u, e1, e2.made BA.out⟩), (fun e f => let ⟨u, e1, e2⟩ := (H.h6 e f); ⟨u, e1, e2.made BA.out⟩), (fun e f => (H.h7 e f).made BA.out), H.h8, (fun _ _ => ⟨_, rfl, hsz, NA.out⟩), (fun h => by cases h), H.h11⟩⟩
        · have ho := hoj
          simp only [List.getElem?_toArray, List.getElem?_cons_succ, List.getElem?_cons_zero, Option.some.injEq] at hoj
          subst hoj
          obtain rfl : b10 = false := hun
          obtain rfl : b0 = true := hall ⟨0, .phase⟩ (by simp) (by kernel_rfl)
          obtain rfl : b1 = true := hall ⟨1, .phase⟩ (by simp) (by kernel_rfl)
          obtain rfl : b2 = true := hall ⟨2, .phase⟩ (by simp) (by kernel_rfl)
          obtain rfl : b3 = true := hall ⟨3, .phase⟩ (by simp) (by kernel_rfl)
          obtain rfl : b4 = true := hall ⟨4, .phase⟩ (by simp) (by kernel_rfl)
          obtain rfl : b5 = true := hall ⟨5, .chain⟩ (by simp) (by kernel_rfl)
          obtain rfl : b6 = true := hall ⟨6, .phase⟩ (by simp) (by kernel_rfl)
          obtain rfl : b7 = true := hall ⟨7, .data⟩ (by simp) (by kernel_rfl)
          obtain rfl : b9 = true := hall ⟨9, .data⟩ (by simp) (by kernel_rfl)
          clear hall
          obtain rfl : b11 = false := Bool.eq_false_iff.2 fun h => Bool.false_ne_true (H.d11 h).2.2.2.2.2.2.2.2.2.2
          have hbe := H.be
          have hx_t5 := H.t5
          have hx_t6 := H.t6
          obtain rfl := H.h0 rfl
          obtain rfl := H.h1 rfl
          obtain rfl := H.h2 rfl
          obtain rfl := H.h3 rfl
          have P4 := H.h4 rfl rfl
          have P5 := H.h5 rfl rfl
          have P6 := H.h6 rfl rfl
          have P7 := H.h7 rfl rfl
          have P9 := H.h9 rfl rfl
          obtain ⟨k, rfl, hk0, hk⟩ := P9
          obtain ⟨A1, n1, c1, rfl, hpf⟩ := P7.ex
          have NV := Lib.hid (NewV.mk' hk hk0 hpf)
          have BV := Lib.hid (newV_below hk hk0 hbe (.int .i64 r.done) (.slice A1 n1 c1) (.int .i64 r.final) (.int .i64 r.window))
          obtain ⟨q0, q1, q2, q3⟩ := bkG hk
          have qf := fun i => bk_frz hk i
          clear hk hpf
          refine wpOp_step ho (fun K' hK => ?_)
          have HK := Lib.hid hK
          clear hK ho
          go_simp
          exact HK.out _ _ ⟨_, _, _, _, _, _, _, _, _, _, _, _, _, _, _, _, _, _, _, _, _, _, x10, _, rfl, rfl, ⟨BV.out, H.d2, H.d3, H.d5, H.d6, H.d7, H.d8, (fun _ => ⟨rfl, rfl, rfl, rfl, rfl, rfl, rfl, rfl, rfl⟩), (fun h => by cases h), H.t5, H.t6, H.h0, H.h1, H.h2, H.h3, (fun _ h => by cases h), (fun _ h => by cases h), (fun _ h => by cases h), (fun _ h => by cases h), H.h8, (fun _ h => by cases h), (fun _ => ⟨_, _, _, _, rfl, NV.out⟩), H.h11⟩⟩
        · have ho := hoj
          simp only [List.getElem?_toArray, List.getElem?_cons_succ, List.getElem?_cons_zero, Option.some.injEq] at hoj
          subst hoj
          obtain rfl : b11 = false := hun
          obtain rfl : b0 = true := hall ⟨0, .phase⟩ (by simp) (by kernel_rfl)
          obtain rfl : b1 = true := hall ⟨1, .phase⟩ (by simp) (by kernel_rfl)
          obtain rfl : b2 = true := hall ⟨2, .phase⟩ (by simp) (by kernel_rfl)
          obtain rfl : b3 = true := hall ⟨3, .phase⟩ (by simp) (by kernel_rfl)
          obtain rfl : b4 = true := hall ⟨4, .phase⟩ (by simp) (by kernel_rfl)
          obtain rfl : b5 = true := hall ⟨5, .phase⟩ (by simp) (by kernel_rfl)
          obtain rfl : b6 = true := hall ⟨6, .phase⟩ (by simp) (by kernel_rfl)
          obtain rfl : b7 = true := hall ⟨7, .phase⟩ (by simp) (by kernel_rfl)
          obtain rfl : b8 = true := hall ⟨8, .data⟩ (by simp) (by kernel_rfl)
          obtain rfl : b9 = true := hall ⟨9, .phase⟩ (by simp) (by kernel_rfl)
          obtain rfl : b10 = true := hall ⟨10, .chain⟩ (by simp) (by kernel_rfl)
          clear hall
          have hbe := H.be
          have hx_t5 := H.t5
          have hx_t6 := H.t6
          obtain rfl := H.h0 rfl
          obtain rfl := H.h1 rfl
          obtain rfl := H.h2 rfl
          obtain rfl := H.h3 rfl
          obtain rfl := H.h8 rfl
          have P10 := H.h10 rfl
          refine wpOp_step ho (fun K' hK => ?_)
          have HK := Lib.hid hK
          clear hK ho
          go_simp
          exact HK.out _ _ ⟨_, _, _, _, _, _, _, _, _, _, _, _, _, _, _, _, _, _, _, _, _, _, x10, _, rfl, rfl, ⟨hbe, H.d2, H.d3, H.d5, H.d6, H.d7, H.d8, H.d10, (fun _ => ⟨rfl, rfl, rfl, rfl, rfl, rfl, rfl, rfl, rfl, rfl, rfl⟩), H.t5, H.t6, H.h0, H.h1, H.h2, H.h3, (fun _ h => by cases h), (fun _ h => by cases h), (fun _ h => by cases h), (fun _ h => by cases h), H.h8, (fun _ h => by cases h), H.h10, (fun _ => rfl)⟩⟩
        · have ho := hoj
          simp at ho
      case hfin =>
        rintro listed a w ⟨b0, b1, b2, b3, b4, b5, b6, b7, b8, b9, b10, b11, x0, x1, x2, x3, x4, x5, x6, x7, x8, x9, x10, x11, rfl, rfl, H⟩ hr
        have hb : b11 = true := by
          clear H
          revert b0 b1 b2 b3 b4 b5 b6 b7 b8 b9 b10 b11
          decide +kernel
        subst hb
        clear hr
        obtain rfl : b0 = true := (H.d11 rfl).1
        obtain rfl : b1 = true := (H.d11 rfl).2.1
        obtain rfl : b2 = true := (H.d11 rfl).2.2.1
        obtain rfl : b3 = true := (H.d11 rfl).2.2.2.1
        obtain rfl : b4 = true := (H.d11 rfl).2.2.2.2.1
        obtain rfl : b5 = true := (H.d11 rfl).2.2.2.2.2.1
        obtain rfl : b6 = true := (H.d11 rfl).2.2.2.2.2.2.1
        obtain rfl : b7 = true := (H.d11 rfl).2.2.2.2.2.2.2.1
        obtain rfl : b8 = true := (H.d11 rfl).2.2.2.2.2.2.2.2.1
        obtain rfl : b9 = true := (H.d11 rfl).2.2.2.2.2.2.2.2.2.1
        obtain rfl : b10 = true := (H.d11 rfl).2.2.2.2.2.2.2.2.2.2
        have he := H.h11 rfl
        obtain ⟨k1, A1, n1, c1, rfl, hnv⟩ := H.h10 rfl
        have hb := H.be
        subst he
        have NV := Lib.hid hnv
        have BW := Lib.hid (BX.out.trans (hb.mono BX.out.size))
        have VW := Lib.hid (VX.out.below hb)
        clear hnv H
        rcases HX.out with ⟨hx0, hx1⟩ | ⟨hx0, hx1⟩
        · subst hx0
          have HX1 := Lib.hid hx1
          have hVlt := lt_of_block VX.out.blk
          obtain ⟨gp1, gp2⟩ := GW.put (b := V) VW.out.blk NV.out.pf hVlt
          have GP1 := Lib.hid gp1
          have BP := Lib.hid (gr_from BW.out BW.out.size hVw gp2)
          obtain ⟨q0, q1, q2, q3⟩ := bkG NV.out.blk
          obtain ⟨v0, v1, v2, v3⟩ := bkG VW.out.blk
          have vf := fun i => bk_frz VW.out.blk i
          clear hx1 gp1 gp2 HX
          go_wp2_with fail
          go_roundg (gk - 1)
          case measure => omega
          case rel => exact ⟨kk + 1, r, A1, n1, c1, by first | rfl | go_num, by omega, BP, GP1, HX1⟩
        · subst hx0
          have HN4 := Lib.hid hx1
          obtain ⟨v0, v1, v2, v3⟩ := bkG VW.out.blk
          have hn4 : ((n : Int) != 4) = false := by simp; omega
          clear hx1 HX
          go_wp2_with fail
          go_roundg (gk - 1)
          case measure => omega
          case rel => exact ⟨kk + 1, g, A, n, c, by first | rfl | go_num, by omega, BW, VW, FG⟩
    · obtain rfl : kk = L := by omega
      obtain rfl : gk = 0 := by omega
      have hwd := fun v w hv => gaWiden_F v g (400 + a1 % 100) w hv FG.out.sm.wf FG.out.sm.len
      have hr0 : widG g (400 + a1 % 100) = (⟨g.done, g.held, g.final, 400 + a1 % 100⟩, 0) := by
        unfold widG
        rw [if_neg (fun k => k FG.out.sm.fault), if_neg (by omega), show max (400 + a1 % 100) g.window = 400 + a1 % 100 by have := FG.out.w0; omega]
      obtain ⟨r, hr⟩ : ∃ r : Ga, (⟨g.done, g.held, g.final, 400 + a1 % 100⟩ : Ga) = r := ⟨_, rfl⟩
      rw [hr0, hr] at hwd
      have HWD := Lib.hid hwd
      have HR := Lib.hid hr
      clear hwd hr0 hr
      go_wp2_with fail
      refine wp_region_inv (fun listed a w => ∃ (b0 b1 b2 b3 b4 b5 b6 b7 b8 b9 b10 : Bool) (x0 x1 x2 x3 x4 x5 x6 x7 x8 x9 x10 : Value), listed = #[b0, b1, b2, b3, b4, b5, b6, b7, b8, b9, b10] ∧ a = { tmps := #[Value.slice a0 len0 cap0, Value.int IntKind.i64 a1, undef, undef, u4, Value.pointer (some { block := V, off := 0 }), Value.int IntKind.i64 0, undef, u8, u9, u10, x8, x10, Value.tuple #[Value.agg #[Value.int IntKind.i64 0, Value.slice A1 n1 c1, Value.int IntKind.i64 (-1), Value.int IntKind.i64 300], Value.int IntKind.i64 0], Value.tuple #[Value.agg #[Value.int IntKind.i64 0, Value.slice A1 n1 c1, Value.int IntKind.i64 (-1), Value.int IntKind.i64 300], Value.int IntKind.i64 0], Value.agg #[Value.int IntKind.i64 0, Value.slice A1 n1 c1, Value.int IntKind.i64 (-1), Value.int IntKind.i64 300], Value.int IntKind.i64 0, Value.slice a0 len0 cap0, Value.slice a0 len0 cap0, Value.int IntKind.i64 ↑len0, Value.int IntKind.i64 ↑kk, Value.slice a0 kk cap0, Value.int IntKind.i64 ↑kk, Value.int IntKind.i64 ↑kk, Value.bool false, u25, u26, u27, u28, u29, u30, u31, u32, u33, u34, u35, u36, u37, u38, u39, u40, u41, u42, u43, u44, u45, u46, u47, u48, u49, u50, u51, x5, x0, x1, x2, x3, x4, x6, x7, undef, undef, undef, undef, undef, undef, undef, undef, undef, undef, undef, undef, undef, undef, undef, undef, undef, undef, undef, undef, undef, undef, undef, undef, undef, undef, undef, undef], defers := [] } ∧ Gap11 X g A n c a1 r (.agg #[.int .i64 g.done, .slice A n c, .int .i64 g.final, .int .i64 g.window]) (.int .i64 a1) (.int .i64 (a1 % 100)) (.int .i64 (400 + a1 % 100)) (.int .i64 0) (.int .i64 0) b0 b1 b2 b3 b4 b5 b6 b7 b8 b9 b10 x0 x1 x2 x3 x4 x5 x6 x7 x8 x9 x10 w) (by kernel_rfl) ?h0 ?hfin ?hI
      case h0 => exact ⟨_, _, _, _, _, _, _, _, _, _, _, _, _, _, _, _, _, _, _, _, undef, _, rfl, rfl, ⟨(Below.refl _ _).drew, (fun h => by cases h), (fun h => by cases h), (fun h => by cases h), (fun h => by cases h), (fun h => by cases h), (fun h => by cases h), (fun h => by cases h), (fun h => by cases h), (fun h => by cases h), (fun h => by cases h), (fun h => by cases h), (fun h => by cases h), (fun h => by cases h), (fun h => by cases h), (fun h => by cases h), (fun h => by cases h), (fun h => by cases h), (fun h => by cases h), (fun h => by cases h), (fun h => by cases h), (fun h => by cases h)⟩⟩
      case hI =>
        rintro listed a w ⟨b0, b1, b2, b3, b4, b5, b6, b7, b8, b9, b10, x0, x1, x2, x3, x4, x5, x6, x7, x8, x9, x10, rfl, rfl, H⟩ i hi
        obtain ⟨hun, oj, hoj, hall⟩ := mem_ready.1 hi
        clear hi
        rcases i with _ | _ | _ | _ | _ | _ | _ | _ | _ | _ | _ | i
        · have ho := hoj
          simp only [List.getElem?_toArray, List.getElem?_cons_succ, List.getElem?_cons_zero, Option.some.injEq] at hoj
          subst hoj
          obtain rfl : b0 = false := hun
          clear hall
          obtain rfl : b4 = false := Bool.eq_false_iff.2 fun h => Bool.false_ne_true (H.d4 h).1
          obtain rfl : b5 = false := Bool.eq_false_iff.2 fun h => Bool.false_ne_true (H.d5 h)
          obtain rfl : b6 = false := Bool.eq_false_iff.2 fun h => Bool.false_ne_true (H.d6 h)
          obtain rfl : b7 = false := Bool.eq_false_iff.2 fun h => Bool.false_ne_true (H.d7 h)
          obtain rfl : b9 = false := Bool.eq_false_iff.2 fun h => Bool.false_ne_true (H.d9 h).1
          obtain rfl : b10 = false := Bool.eq_false_iff.2 fun h => Bool.false_ne_true (H.d10 h).1
          have hbe := H.be
          have hx_t5 := H.t5
          have hx_t6 := H.t6
          obtain ⟨q0, q1, q2, q3⟩ := bkG ((hbe.block _ hVX).trans VX.out.blk)
          refine wpOp_step ho (fun K' hK => ?_)
          have HK := Lib.hid hK
          clear hK ho
          go_simp
          exact HK.out _ _ ⟨_, _, _, _, _, _, _, _, _, _, _, _, _, _, _, _, _, _, _, _, x9, _, rfl, rfl, ⟨hbe, H.d2, H.d3, (fun h => by cases h), H.d5, H.d6, H.d7, (fun h => by cases h), (fun h => by cases h), H.t5, H.t6, (fun _ => rfl), H.h1, H.h2, H.h3, (fun h => by cases h), (fun h => by cases h), (fun h => by cases h), H.h7, H.h8, (fun h => by cases h), H.h10⟩⟩
        · have ho := hoj
          simp only [List.getElem?_toArray, List.getElem?_cons_succ, List.getElem?_cons_zero, Option.some.injEq] at hoj
          subst hoj
          obtain rfl : b1 = false := hun
          clear hall
          obtain rfl : b2 = false := Bool.eq_false_iff.2 fun h => Bool.false_ne_true (H.d2 h)
          obtain rfl : b3 = false := Bool.eq_false_iff.2 fun h => Bool.false_ne_true (H.d3 h)
          obtain rfl : b4 = false := Bool.eq_false_iff.2 fun h => Bool.false_ne_true (H.d4 h).2.1
          obtain rfl : b5 = false := Bool.eq_false_iff.2 fun h => Bool.false_ne_true (H.d5 h)
          obtain rfl : b6 = false := Bool.eq_false_iff.2 fun h => Bool.false_ne_true (H.d6 h)
          obtain rfl : b7 = false := Bool.eq_false_iff.2 fun h => Bool.false_ne_true (H.d7 h)
          obtain rfl : b9 = false := Bool.eq_false_iff.2 fun h => Bool.false_ne_true (H.d9 h).2.1
          obtain rfl : b10 = false := Bool.eq_false_iff.2 fun h => Bool.false_ne_true (H.d10 h).2.1
          have hbe := H.be
          have hx_t5 := H.t5
          have hx_t6 := H.t6
          refine wpOp_step ho (fun K' hK => ?_)
          have HK := Lib.hid hK
          clear hK ho
          go_simp
          exact HK.out _ _ ⟨_, _, _, _, _, _, _, _, _, _, _, _, _, _, _, _, _, _, _, _, x9, _, rfl, rfl, ⟨hbe, (fun h => by cases h), H.d3, H.d4, H.d5, H.d6, H.d7, (fun h => by cases h), (fun h => by cases h), H.t5, H.t6, H.h0, (fun _ => rfl), H.h2, H.h3, (fun h => by cases h), (fun h => by cases h), (fun h => by cases h), H.h7, H.h8, (fun h => by cases h), H.h10⟩⟩
        · have ho := hoj
          simp only [List.getElem?_toArray, List.getElem?_cons_succ, List.getElem?_cons_zero, Option.some.injEq] at hoj
          subst hoj
          obtain rfl : b2 = false := hun
          obtain rfl : b1 = true := hall ⟨1, .data⟩ (by simp) (by kernel_rfl)
          clear hall
          obtain rfl : b3 = false := Bool.eq_false_iff.2 fun h => Bool.false_ne_true (H.d3 h)
          obtain rfl : b4 = false := Bool.eq_false_iff.2 fun h => Bool.false_ne_true (H.d4 h).2.1
          obtain rfl : b5 = false := Bool.eq_false_iff.2 fun h => Bool.false_ne_true (H.d5 h)
          obtain rfl : b6 = false := Bool.eq_false_iff.2 fun h => Bool.false_ne_true (H.d6 h)
          obtain rfl : b7 = false := Bool.eq_false_iff.2 fun h => Bool.false_ne_true (H.d7 h)
          obtain rfl : b9 = false := Bool.eq_false_iff.2 fun h => Bool.false_ne_true (H.d9 h).2.2.1
          obtain rfl : b10 = false := Bool.eq_false_iff.2 fun h => Bool.false_ne_true (H.d10 h).2.2.1
          have hbe := H.be
          have hx_t5 := H.t5
          have hx_t6 := H.t6
          obtain rfl := H.h1 rfl
          refine wpOp_step ho (fun K' hK => ?_)
          have HK := Lib.hid hK
          clear hK ho
          go_wp2_with (go_at_call 24; refine (picked_any a1 100 (by omega) (by omega) _).mono ?_; rintro e w' ⟨rfl, rfl⟩)
          exact HK.out _ _ ⟨_, _, _, _, _, _, _, _, _, _, _, _, _, _, _, _, _, _, _, _, x9, _, rfl, rfl, ⟨hbe, (fun _ => rfl), (fun h => by cases h), (fun h => by cases h), H.d5, H.d6, H.d7, (fun h => by cases h), (fun h => by cases h), H.t5, H.t6, H.h0, H.h1, (fun _ => rfl), H.h3, (fun h => by cases h), (fun h => by cases h), (fun h => by cases h), H.h7, H.h8, (fun h => by cases h), H.h10⟩⟩
        · have ho := hoj
          simp only [List.getElem?_toArray, List.getElem?_cons_succ, List.getElem?_cons_zero, Option.some.injEq] at hoj
          subst hoj
          obtain rfl : b3 = false := hun
          obtain rfl : b2 = true := hall ⟨2, .data⟩ (by simp) (by kernel_rfl)
          obtain rfl : b1 = true := (H.d2 rfl)
          clear hall
          obtain rfl : b4 = false := Bool.eq_false_iff.2 fun h => Bool.false_ne_true (H.d4 h).2.2
          obtain rfl : b5 = false := Bool.eq_false_iff.2 fun h => Bool.false_ne_true (H.d5 h)
          obtain rfl : b6 = false := Bool.eq_false_iff.2 fun h => Bool.false_ne_true (H.d6 h)
          obtain rfl : b7 = false := Bool.eq_false_iff.2 fun h => Bool.false_ne_true (H.d7 h)
          obtain rfl : b9 = false := Bool.eq_false_iff.2 fun h => Bool.false_ne_true (H.d9 h).2.2.2.1
          obtain rfl : b10 = false := Bool.eq_false_iff.2 fun h => Bool.false_ne_true (H.d10 h).2.2.2.1
          have hbe := H.be
          have hx_t5 := H.t5
          have hx_t6 := H.t6
          obtain rfl := H.h1 rfl
          obtain rfl := H.h2 rfl
          have hwm : IntKind.i64.wrap (400 + a1 % 100) = 400 + a1 % 100 := by rw [IntKind.wrap_i64]; omega
          refine wpOp_step ho (fun K' hK => ?_)
          have HK := Lib.hid hK
          clear hK ho
          go_simp
          exact HK.out _ _ ⟨_, _, _, _, _, _, _, _, _, _, _, _, _, _, _, _, _, _, _, _, x9, _, rfl, rfl, ⟨hbe, H.d2, (fun _ => rfl), (fun h => by cases h), H.d5, H.d6, H.d7, (fun h => by cases h), (fun h => by cases h), H.t5, H.t6, H.h0, H.h1, H.h2, (fun _ => rfl), (fun h => by cases h), (fun h => by cases h), (fun h => by cases h), H.h7, H.h8, (fun h => by cases h), H.h10⟩⟩
        · have ho := hoj
          simp only [List.getElem?_toArray, List.getElem?_cons_succ, List.getElem?_cons_zero, Option.some.injEq] at hoj
          subst hoj
          obtain rfl : b4 = false := hun
          obtain rfl : b0 = true := hall ⟨0, .data⟩ (by simp) (by kernel_rfl)
          obtain rfl : b2 = true := hall ⟨2, .chain⟩ (by simp) (by kernel_rfl)
          obtain rfl : b3 = true := hall ⟨3, .data⟩ (by simp) (by kernel_rfl)
          obtain rfl : b1 = true := (H.d2 rfl)
          clear hall
          obtain rfl : b5 = false := Bool.eq_false_iff.2 fun h => Bool.false_ne_true (H.d5 h)
          obtain rfl : b6 = false := Bool.eq_false_iff.2 fun h => Bool.false_ne_true (H.d6 h)
          obtain rfl : b7 = false := Bool.eq_false_iff.2 fun h => Bool.false_ne_true (H.d7 h)
          obtain rfl : b9 = false := Bool.eq_false_iff.2 fun h => Bool.false_ne_true (H.d9 h).2.2.2.2.1
          obtain rfl : b10 = false := Bool.eq_false_iff.2 fun h => Bool.false_ne_true (H.d10 h).2.2.2.2.1
          have hbe := H.be
          have hx_t5 := H.t5
          have hx_t6 := H.t6
          obtain rfl := H.h0 rfl
          obtain rfl := H.h1 rfl
          obtain rfl := H.h2 rfl
          obtain rfl := H.h3 rfl
          refine wpOp_step ho (fun K' hK => ?_)
          have HK := Lib.hid hK
          clear hK ho
          go_wp2_with fail
          refine (HWD.out _ w ((VX.out.below hbe).val)).mono ?_
          rintro e w1 ⟨bb1, u1, rfl, hu1⟩
          have BC := Lib.hid bb1
          have UC := Lib.hid (hu1.toX (w0 := X) hbe.size (fun hb => let ⟨k, e1, _, e3⟩ := H.h8 hb rfl; ⟨k, e1, lt_of_block e3⟩))
          clear bb1 hu1
          go_wp2_with fail
          exact HK.out _ _ ⟨_, _, _, _, _, _, _, _, _, _, _, _, _, _, _, _, _, _, _, _, x9, _, rfl, rfl, ⟨hbe.trans (BC.out.mono hbe.size), H.d2, H.d3, (fun _ => ⟨rfl, rfl, rfl⟩), (fun h => by cases h), H.d6, H.d7, (fun h => by cases h), (fun h => by cases h), fun _ => ⟨_, rfl⟩, hx_t6, H.h0, H.h1, H.h2, H.h3, (fun _ _ => ⟨_, rfl, UC.out⟩), (fun h => by cases h), (fun h => by cases h), H.h7, (fun e f => let ⟨k, e1, e2, e3⟩ := (H.h8 e f); ⟨k, e1, e2, (BC.out.block _ (lt_of_block e3)).trans e3⟩), (fun h => by cases h), H.h10⟩⟩
        · have ho := hoj
          simp only [List.getElem?_toArray, List.getElem?_cons_succ, List.getElem?_cons_zero, Option.some.injEq] at hoj
          subst hoj
          obtain rfl : b5 = false := hun
          obtain rfl : b4 = true := hall ⟨4, .data⟩ (by simp) (by kernel_rfl)
          obtain rfl : b0 = true := (H.d4 rfl).1
          obtain rfl : b2 = true := (H.d4 rfl).2.1
          obtain rfl : b3 = true := (H.d4 rfl).2.2
          obtain rfl : b1 = true := (H.d2 rfl)
          clear hall
          obtain rfl : b6 = false := Bool.eq_false_iff.2 fun h => Bool.false_ne_true (H.d6 h)
          obtain rfl : b7 = false := Bool.eq_false_iff.2 fun h => Bool.false_ne_true (H.d7 h)
          obtain rfl : b9 = false := Bool.eq_false_iff.2 fun h => Bool.false_ne_true (H.d9 h).2.2.2.2.2.1
          obtain rfl : b10 = false := Bool.eq_false_iff.2 fun h => Bool.false_ne_true (H.d10 h).2.2.2.2.2.1
          have hbe := H.be
          have hx_t5 := H.t5
          have hx_t6 := H.t6
          obtain rfl := H.h0 rfl
          obtain rfl := H.h1 rfl
          obtain rfl := H.h2 rfl
          obtain rfl := H.h3 rfl
          have P4 := H.h4 rfl rfl
          have PT := Lib.hid P4
          have TT := Lib.hid (H.t5 rfl)
          clear P4
          refine wpOp_step ho (fun K' hK => ?_)
          have HK := Lib.hid hK
          clear hK ho
          go_simp
          exact HK.out _ _ ⟨_, _, _, _, _, _, _, _, _, _, _, _, _, _, _, _, _, _, _, _, x9, _, rfl, rfl, ⟨hbe, H.d2, H.d3, H.d4, (fun _ => rfl), (fun h => by cases h), (fun h => by cases h), (fun h => by cases h), (fun h => by cases h), H.t5, fun _ => TT.out, H.h0, H.h1, H.h2, H.h3, H.h4, (fun _ _ => PT.out), (fun h => by cases h), H.h7, H.h8, (fun h => by cases h), H.h10⟩⟩
        · have ho := hoj
          simp only [List.getElem?_toArray, List.getElem?_cons_succ, List.getElem?_cons_zero, Option.some.injEq] at hoj
          subst hoj
          obtain rfl : b6 = false := hun
          obtain rfl : b5 = true := hall ⟨5, .data⟩ (by simp) (by kernel_rfl)
          obtain rfl : b4 = true := (H.d5 rfl)
          obtain rfl : b0 = true := (H.d4 rfl).1
          obtain rfl : b2 = true := (H.d4 rfl).2.1
          obtain rfl : b3 = true := (H.d4 rfl).2.2
          obtain rfl : b1 = true := (H.d2 rfl)
          clear hall
          obtain rfl : b9 = false := Bool.eq_false_iff.2 fun h => Bool.false_ne_true (H.d9 h).2.2.2.2.2.2.1
          obtain rfl : b10 = false := Bool.eq_false_iff.2 fun h => Bool.false_ne_true (H.d10 h).2.2.2.2.2.2.1
          have hbe := H.be
          have hx_t5 := H.t5
          have hx_t6 := H.t6
          obtain rfl := H.h0 rfl
          obtain rfl := H.h1 rfl
          obtain rfl := H.h2 rfl
          obtain rfl := H.h3 rfl
          have P4 := H.h4 rfl rfl
          have P5 := H.h5 rfl rfl
          obtain ⟨u, rfl, hu⟩ := P5
          have HU := Lib.hid hu
          clear hu
          refine wpOp_step ho (fun K' hK => ?_)
          have HK := Lib.hid hK
          clear hK ho
          go_simp
          exact HK.out _ _ ⟨_, _, _, _, _, _, _, _, _, _, _, _, _, _, _, _, _, _, _, _, x9, _, rfl, rfl, ⟨hbe, H.d2, H.d3, H.d4, H.d5, (fun _ => rfl), H.d7, (fun h => by cases h), (fun h => by cases h), H.t5, H.t6, H.h0, H.h1, H.h2, H.h3, H.h4, H.h5, (fun _ _ => HU.out), H.h7, H.h8, (fun h => by cases h), H.h10⟩⟩
        · have ho := hoj
          simp only [List.getElem?_toArray, List.getElem?_cons_succ, List.getElem?_cons_zero, Option.some.injEq] at hoj
          subst hoj
          obtain rfl : b7 = false := hun
          obtain rfl : b5 = true := hall ⟨5, .data⟩ (by simp) (by kernel_rfl)
          obtain rfl : b4 = true := (H.d5 rfl)
          obtain rfl : b0 = true := (H.d4 rfl).1
          obtain rfl : b2 = true := (H.d4 rfl).2.1
          obtain rfl : b3 = true := (H.d4 rfl).2.2
          obtain rfl : b1 = true := (H.d2 rfl)
          clear hall
          obtain rfl : b10 = false := Bool.eq_false_iff.2 fun h => Bool.false_ne_true (H.d10 h).2.2.2.2.2.2.2.1
          have hbe := H.be
          have hx_t5 := H.t5
          have hx_t6 := H.t6
          obtain rfl := H.h0 rfl
          obtain rfl := H.h1 rfl
          obtain rfl := H.h2 rfl
          obtain rfl := H.h3 rfl
          obtain ⟨u, rfl⟩ := H.t6 rfl
          refine wpOp_step ho (fun K' hK => ?_)
          have HK := Lib.hid hK
          clear hK ho
          go_simp
          exact HK.out _ _ ⟨_, _, _, _, _, _, _, _, _, _, _, _, _, _, _, _, _, _, _, _, x9, _, rfl, rfl, ⟨hbe, H.d2, H.d3, H.d4, H.d5, H.d6, (fun _ => rfl), H.d9, (fun h => by cases h), H.t5, H.t6, H.h0, H.h1, H.h2, H.h3, H.h4, H.h5, H.h6, (fun _ => rfl), H.h8, H.h9, H.h10⟩⟩
        · have ho := hoj
          simp only [List.getElem?_toArray, List.getElem?_cons_succ, List.getElem?_cons_zero, Option.some.injEq] at hoj
          subst hoj
          obtain rfl : b8 = false := hun
          clear hall
          obtain rfl : b9 = false := Bool.eq_false_iff.2 fun h => Bool.false_ne_true (H.d9 h).2.2.2.2.2.2.2
          obtain rfl : b10 = false := Bool.eq_false_iff.2 fun h => Bool.false_ne_true (H.d10 h).2.2.2.2.2.2.2.2.1
          have hbe := H.be
          have hx_t5 := H.t5
          have hx_t6 := H.t6
          have BA := Lib.hid ((Below.refl w.heap.size w).alloc (Nat.le_refl _) (.cells #[.int .i64 0, .slice none 0 0, .int .i64 0, .int .i64 0] 24))
          have NA := Lib.hid (heap_alloc_new w (.cells #[.int .i64 0, .slice none 0 0, .int .i64 0, .int .i64 0] 24))
          have hsz := hbe.size
          refine wpOp_step ho (fun K' hK => ?_)
          have HK := Lib.hid hK
          clear hK ho
          go_simp
          exact HK.out _ _ ⟨_, _, _, _, _, _, _, _, _, _, _, _, _, _, _, _, _, _, _, _, x9, _, rfl, rfl, ⟨hbe.trans (BA.out.mono hbe.size), H.d2, H.d3, H.d4, H.d5, H.d6, H.d7, (fun h => by cases h), (fun h => by cases h), hx_t5, hx_t6, H.h0, H.h1, H.h2, H.h3, (fun e f => let ⟨u, e1, e2⟩ := (H.h4 e f); ⟨u, e1, e2.made BA.out⟩), (fun e f => let ⟨u, e1, e2⟩ := (H.h5 e f); ⟨u, e1, e2.made BA.out⟩), (fun e f => (H.h6 e f).made BA.out), H.h7, (fun _ _ => ⟨_, rfl, hsz, NA.out⟩), (fun h => by cases h), H.h10⟩⟩
        · have ho := hoj
          simp only [List.getElem?_toArray, List.getElem?_cons_succ, List.getElem?_cons_zero, Option.some.injEq] at hoj
          subst hoj
          obtain rfl : b9 = false := hun
          obtain rfl : b0 = true := hall ⟨0, .phase⟩ (by simp) (by kernel_rfl)
          obtain rfl : b1 = true := hall ⟨1, .phase⟩ (by simp) (by kernel_rfl)
          obtain rfl : b2 = true := hall ⟨2, .phase⟩ (by simp) (by kernel_rfl)
          obtain rfl : b3 = true := hall ⟨3, .phase⟩ (by simp) (by kernel_rfl)
          obtain rfl : b4 = true := hall ⟨4, .chain⟩ (by simp) (by kernel_rfl)
          obtain rfl : b5 = true := hall ⟨5, .phase⟩ (by simp) (by kernel_rfl)
          obtain rfl : b6 = true := hall ⟨6, .data⟩ (by simp) (by kernel_rfl)
          obtain rfl : b8 = true := hall ⟨8, .data⟩ (by simp) (by kernel_rfl)
          clear hall
          obtain rfl : b10 = false := Bool.eq_false_iff.2 fun h => Bool.false_ne_true (H.d10 h).2.2.2.2.2.2.2.2.2
          have hbe := H.be
          have hx_t5 := H.t5
          have hx_t6 := H.t6
          obtain rfl := H.h0 rfl
          obtain rfl := H.h1 rfl
          obtain rfl := H.h2 rfl
          obtain rfl := H.h3 rfl
          have P4 := H.h4 rfl rfl
          have P5 := H.h5 rfl rfl
          have P6 := H.h6 rfl rfl
          have P8 := H.h8 rfl rfl
          obtain ⟨k, rfl, hk0, hk⟩ := P8
          obtain ⟨A1, n1, c1, rfl, hpf⟩ := P6.ex
          have NV := Lib.hid (NewV.mk' hk hk0 hpf)
          have BV := Lib.hid (newV_below hk hk0 hbe (.int .i64 r.done) (.slice A1 n1 c1) (.int .i64 r.final) (.int .i64 r.window))
          obtain ⟨q0, q1, q2, q3⟩ := bkG hk
          have qf := fun i => bk_frz hk i
          clear hk hpf
          refine wpOp_step ho (fun K' hK => ?_)
          have HK := Lib.hid hK
          clear hK ho
          go_simp
          exact HK.out _ _ ⟨_, _, _, _, _, _, _, _, _, _, _, _, _, _, _, _, _, _, _, _, x9, _, rfl, rfl, ⟨BV.out, H.d2, H.d3, H.d4, H.d5, H.d6, H.d7, (fun _ => ⟨rfl, rfl, rfl, rfl, rfl, rfl, rfl, rfl⟩), (fun h => by cases h), H.t5, H.t6, H.h0, H.h1, H.h2, H.h3, (fun _ h => by cases h), (fun _ h => by cases h), (fun _ h => by cases h), H.h7, (fun _ h => by cases h), (fun _ => ⟨_, _, _, _, rfl, NV.out⟩), H.h10⟩⟩
        · have ho := hoj
          simp only [List.getElem?_toArray, List.getElem?_cons_succ, List.getElem?_cons_zero, Option.some.injEq] at hoj
          subst hoj
          obtain rfl : b10 = false := hun
          obtain rfl : b0 = true := hall ⟨0, .phase⟩ (by simp) (by kernel_rfl)
          obtain rfl : b1 = true := hall ⟨1, .phase⟩ (by simp) (by kernel_rfl)
          obtain rfl : b2 = true := hall ⟨2, .phase⟩ (by simp) (by kernel_rfl)
          obtain rfl : b3 = true := hall ⟨3, .phase⟩ (by simp) (by kernel_rfl)
          obtain rfl : b4 = true := hall ⟨4, .phase⟩ (by simp) (by kernel_rfl)
          obtain rfl : b5 = true := hall ⟨5, .phase⟩ (by simp) (by kernel_rfl)
          obtain rfl : b6 = true := hall ⟨6, .phase⟩ (by simp) (by kernel_rfl)
          obtain rfl : b7 = true := hall ⟨7, .data⟩ (by simp) (by kernel_rfl)
          obtain rfl : b8 = true := hall ⟨8, .phase⟩ (by simp) (by kernel_rfl)
          obtain rfl : b9 = true := hall ⟨9, .chain⟩ (by simp) (by kernel_rfl)
          clear hall
          have hbe := H.be
          have hx_t5 := H.t5
          have hx_t6 := H.t6
          obtain rfl := H.h0 rfl
          obtain rfl := H.h1 rfl
          obtain rfl := H.h2 rfl
          obtain rfl := H.h3 rfl
          obtain rfl := H.h7 rfl
          have P9 := H.h9 rfl
          refine wpOp_step ho (fun K' hK => ?_)
          have HK := Lib.hid hK
          clear hK ho
          go_simp
          exact HK.out _ _ ⟨_, _, _, _, _, _, _, _, _, _, _, _, _, _, _, _, _, _, _, _, x9, _, rfl, rfl, ⟨hbe, H.d2, H.d3, H.d4, H.d5, H.d6, H.d7, H.d9, (fun _ => ⟨rfl, rfl, rfl, rfl, rfl, rfl, rfl, rfl, rfl, rfl⟩), H.t5, H.t6, H.h0, H.h1, H.h2, H.h3, (fun _ h => by cases h), (fun _ h => by cases h), (fun _ h => by cases h), H.h7, (fun _ h => by cases h), H.h9, (fun _ => rfl)⟩⟩
        · have ho := hoj
          simp at ho
      case hfin =>
        rintro listed a w ⟨b0, b1, b2, b3, b4, b5, b6, b7, b8, b9, b10, x0, x1, x2, x3, x4, x5, x6, x7, x8, x9, x10, rfl, rfl, H⟩ hr
        have hb : b10 = true := by
          clear H
          revert b0 b1 b2 b3 b4 b5 b6 b7 b8 b9 b10
          decide +kernel
        subst hb
        clear hr
        obtain rfl : b0 = true := (H.d10 rfl).1
        obtain rfl : b1 = true := (H.d10 rfl).2.1
        obtain rfl : b2 = true := (H.d10 rfl).2.2.1
        obtain rfl : b3 = true := (H.d10 rfl).2.2.2.1
        obtain rfl : b4 = true := (H.d10 rfl).2.2.2.2.1
        obtain rfl : b5 = true := (H.d10 rfl).2.2.2.2.2.1
        obtain rfl : b6 = true := (H.d10 rfl).2.2.2.2.2.2.1
        obtain rfl : b7 = true := (H.d10 rfl).2.2.2.2.2.2.2.1
        obtain rfl : b8 = true := (H.d10 rfl).2.2.2.2.2.2.2.2.1
        obtain rfl : b9 = true := (H.d10 rfl).2.2.2.2.2.2.2.2.2
        have he := H.h10 rfl
        obtain ⟨k1, A1, n1, c1, rfl, hnv⟩ := H.h9 rfl
        have hb := H.be
        subst he
        have NV := Lib.hid hnv
        have BW := Lib.hid (BX.out.trans (hb.mono BX.out.size))
        have VW := Lib.hid (VX.out.below hb)
        clear hnv H
        have hn4 : n ≤ 4 := by obtain ⟨A9, c9, e9, _⟩ := VX.out.ps.ex; cases e9; exact FG.out.sm.n4
        have dn4 : decide ((n : Int) ≤ 4) = true := by simp; omega
        have hSR : Small r := by
          rw [← HR.out]
          obtain ⟨o1, o2, o3, o4, o5, o6, o7⟩ := FG.out.sm.ok
          have := FG.out.w0
          exact ⟨⟨o1, o2, by simp only; omega, o4, o5, by simp only; omega, o7⟩, by simp only; omega, FG.out.sm.fin⟩
        have hrw : (r.window == 400 + a1 % 100) = true := by rw [← HR.out]; simp
        have HV := Lib.hid (show GaVal w w.heap.size (.agg #[.int .i64 r.done, .slice A1 n1 c1, .int .i64 r.final, .int .i64 r.window]) r from ⟨_, rfl, NV.out.pf.now⟩)
        have HCK := Lib.hid (fun w' (hb : Below w.heap.size w w') => gaChk_any _ r w' (HV.out.on hb) hSR.wf hSR.len)
        rw [hSR.fault] at HCK
        have hwm : IntKind.i64.wrap (400 + a1 % 100) = 400 + a1 % 100 := by rw [IntKind.wrap_i64]; omega
        obtain ⟨q0, q1, q2, q3⟩ := bkG VW.out.blk
        obtain ⟨p0, p1, p2, p3⟩ := bkG NV.out.blk
        clear hSR hn4
        go_wp2_with fail
        have z1 := Ext.cell q1
        have y0 := Ext.cell p0
        have y1 := Ext.cell p1
        have y2 := Ext.cell p2
        have y3 := Ext.cell p3
        refine wp_region_ext (by kernel_rfl) (by kernel_rfl) ?_
        repeat (go_big_quiet_step (first | ((go_at_call 25; exact Ext.call (gatherTells_any _))) | ((go_at_call 24; exact Ext.call_same (picked_any a1 100 (by omega) (by omega) _))) | ((go_at_call 11; exact Ext.call (HCK.out _ (Ext.h _))))))
        refine wpQuiet_nil ?_
        intro w9 hb9
        have B9 := Lib.hid (BW.out.trans (hb9.mono BW.out.size))
        clear z1 y0 y1 y2 y3 q0 q1 q2 q3 p0 p1 p2 p3 hb9
        go_wp2_with fail
        go_ret
        exact ⟨rfl, B9.out⟩
end Go.Proofs.Ytfbjgbnlgaajaaa
