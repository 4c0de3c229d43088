/- Contract of the eye's ranges. -/
import Derived.Test.YtgfbonfoimiknaaEye3
import Derived.Deep.RegionHeldLaw
import Derived.Deep.RegionHeld3
namespace Go.Proofs.Ytgfbonfoimiknaa
set_option linter.unusedVariables false
open Go.RowKit P

theorem infoR2 : (Try.prog.info? 80).map (fun i => (i.zero, i.size, i.bytes)) = some (some (.agg #[.int .i64 0, .int .i64 0]), 2, 16) := by kernel_rfl
theorem own_one (w : World) (base : Nat) (lo hi : Int) (t : TypeId) (hb : base ≤ w.heap.size) : OwnR (w.alloc (.cells #[.int .i64 lo, .int .i64 hi] t)) base t (.slice (some ⟨w.heap.size, 0, none⟩) 1 1) [(lo, hi)] :=
  ⟨rfl, .inr ⟨w.heap.size, 1, #[.int .i64 lo, .int .i64 hi], rfl, hb, heap_alloc_new w _, Nat.le_refl _, by unfold maxLen; omega, rfl, rfl⟩⟩
theorem own_eye {w w' : World} {base y : Nat} {e : TypeId} {v : Value} {qs : List (Int × Int)} (h : OwnR w base e v qs) (g : w.grownBy w' (some y)) (hy : y < base) : OwnR w' base e v qs :=
  World.ownsRow.kept h g (by
    cases hv : v.ownBlock with
    | none => exact .inl rfl
    | some k => exact .inr (by have := (h.lt k hv).1; simp; omega))
/-- behind an append onto an own row an eye is as it was -/
theorem EyeAt.row {w w' : World} {y base : Nat} {e : TypeId} {v : Value} {qs : List (Int × Int)} {σ : St} (h : EyeAt w y σ) (o : OwnR w base e v qs) (hy : y < base) (g : w.grownBy w' v.ownBlock) : EyeAt w' y σ := by
  cases hv : v.ownBlock with
  | none =>
    rw [hv] at g
    exact h.keep ⟨g.os, g.tape, g.output, g.size, fun k hk => g.block k hk (by simp)⟩
  | some b =>
    rw [hv] at g
    exact h.other g (by have := (o.lt b hv).1; omega)
theorem grown_row {w w' : World} {y base : Nat} {e : TypeId} {v : Value} {qs : List (Int × Int)} (W : World) (hW : W.grownBy w (some y)) (hb : W.heap.size ≤ base) (o : OwnR w base e v qs) (g : w.grownBy w' v.ownBlock) : W.grownBy w' (some y) :=
  ⟨g.os.trans hW.os, g.tape.trans hW.tape, g.output.trans hW.output, Nat.le_trans hW.size g.size, fun k hk hne => (g.block k (Nat.lt_of_lt_of_le hk hW.size) (fun e => by
    have := (o.lt k e.symm).1; omega)).trans (hW.block k hk hne)⟩

def RangesPost (y : Nat) (s : List Int) (w : World) (e : Ending) (w' : World) : Prop :=
  ∃ v l σ', e = .returned v ∧ decRs s = toE σ' l ∧ OwnR w' w.heap.size 80 v l ∧ EyeAt w' y σ' ∧ w.grownBy w' (some y)
set_option maxRecDepth 100000 in
set_option maxHeartbeats 2000000 in
theorem ranges_eye (y : Nat) (s : List Int) (w : World) (h : EyeAt w y (0, s)) :
    Calls Try.prog 161 #[.pointer (some ⟨y, 0, none⟩)] w (RangesPost y s w) := by
  have hy := h.lt
  have hb1 := numS_bd h.byt
  have H1 := Lib.hid (number_eye y (0, s) w h)
  obtain ⟨⟨hi, σ1⟩, e1⟩ : ∃ x, numS (0, s) = x := ⟨_, rfl⟩
  rw [e1] at H1 hb1
  obtain ⟨a0, a1, nb1, _⟩ := hb1
  have hb2 := numS_bd (σ := σ1) nb1
  obtain ⟨⟨n, σ2⟩, e2⟩ : ∃ x, numS σ1 = x := ⟨_, rfl⟩
  rw [e2] at hb2
  obtain ⟨n0, n1, nb2, _⟩ := hb2
  obtain ⟨⟨r, σ4⟩, e4⟩ : ∃ x, downS hi (refS (decide (6 ≤ n)) 1 σ2) = x := ⟨_, rfl⟩
  have HS := Lib.hid (decRs_start s hi σ1 e1 n σ2 e2 r σ4 e4)
  have hd4 := downS_bd (by rw [refS_left]; exact nb2) e4
  have hn6 := start_bd e4 nb2
  have E2 := Lib.hid e2
  have E4 := Lib.hid e4
  simp only at H1 a0 a1 n0 n1
  obtain ⟨i0, hi0, hz0, hz1, hz2⟩ := info_parts infoR2
  have HI := Lib.hid hi0
  have HZ := Lib.hid hz0
  have HZ1 := Lib.hid hz1
  have HZ2 := Lib.hid hz2
  clear h nb1 nb2 e1 e2 e4 hi0 hz0 hz1 hz2
  go_enter Try.func161, Try.ntmps161
  go_wp2_with (first
      | (go_at_call 162; refine H1.out.mono ?_; rintro e w1 ⟨rfl, E1, g1⟩; have HE1 := Lib.hid E1; have G1 := Lib.hid g1; have H2 := Lib.hid (number_eye y σ1 w1 E1); rw [E2.out] at H2; clear E1 g1 H1)
      | (go_at_call 162; refine H2.out.mono ?_; rintro e w2 ⟨rfl, E1, g1⟩; have HE2 := Lib.hid E1; have G2 := Lib.hid (grown_trans G1.out g1); clear E1 g1)
      | (go_at_call 159; refine (refuse_eye _ _ _ _ _ HE2.out).mono ?_; rintro e w3 ⟨rfl, E1, g1⟩; have HE3 := Lib.hid E1; have G3 := Lib.hid (grown_trans G2.out g1); clear E1 g1)
      | (go_at_call 187; refine (down_eye _ _ _ _ HE3.out (by omega) (by omega)).mono ?_; rintro e w4 ⟨rfl, E1, g1⟩; rw [E4.out] at E1; rw [E4.out]; have HE4 := Lib.hid E1; have G4 := Lib.hid (grown_trans G3.out g1); clear E1 g1))
  have HE5 := Lib.hid (HE4.out.keep ((Below.refl w4.heap.size w4).alloc (Nat.le_refl _) (.cells #[.int .i64 r.1, .int .i64 r.2] 80)))
  have O5 := Lib.hid (own_one w4 w.heap.size r.1 r.2 80 G4.out.size)
  have G5 := Lib.hid (grown_trans G4.out (grown_below (some y) ((Below.refl w4.heap.size w4).alloc (Nat.le_refl _) (.cells #[.int .i64 r.1, .int .i64 r.2] 80))))
  have D4 := Lib.hid hd4
  have N6 := Lib.hid hn6
  clear hd4 hn6
  go_loopg [3, 5] n.toNat (fun g s3 s5 wr => ∃ (hh : Int) (l : List (Int × Int)) (b : Int) (σ : St), s3 = .int .i64 hh ∧ Hid (OwnR wr w.heap.size 80 s5 l) ∧ Hid (EyeAt wr y σ) ∧ Hid (w.grownBy wr (some y)) ∧ Hid (decRs s = conR l (decTS g b σ)) ∧ 0 < l.length ∧ Hid ((l.getD (l.length - 1) (0, 0)).1 = b) ∧ Hid (σ.1 = 0 → 0 ≤ b ∧ n < 6) ∧ b ≤ 4611686018427387903 ∧ g + l.length = n.toNat + 1)
  case atStart => exact ⟨hi, [r], r.1, σ4, rfl, O5, HE5, G5, HS, by simp, Lib.hid rfl, Lib.hid (fun e => ⟨(D4.out.2.1 e).1, N6.out e⟩), by have := D4.out.1; omega, by simp⟩
  case round =>
    obtain ⟨hh, l, b, σ, rfl, HO, HE, HG, HR, hl, HB, HN, hbm, hgl⟩ := hrel
    obtain ⟨A, c, h11, h12, h13, h14, h15⟩ := HE.out
    obtain ⟨k0, k1, f0, f1⟩ := two_cells h11
    clear h11 h12 h13 h14 h15 k0 f0 f1
    obtain ⟨Al, cl, hv, hlc, hcm, hrow⟩ := HO.out.slice
    subst hv
    have HW := Lib.hid hrow
    clear hrow
    obtain ⟨er, zs⟩ := σ
    simp only at k1 HN
    by_cases hle : (l.length : Int) ≤ n
    · by_cases e0 : er = 0
      · subst e0
        obtain ⟨b0, n6⟩ := HN.out rfl
        obtain ⟨bb, off, hA, hbb, hc⟩ := HW.out hl
        have hcell := (hc (l.length - 1) (by omega)).1
        rw [HB.out] at hcell
        subst hA
        have hbb2 := (HO.out.lt bb rfl).1
        have hbne : some bb ≠ some y := by simp; omega
        have hcne : some (⟨bb, off + (l.length - 1) * 2, none⟩ : Addr).block ≠ some y := hbne
        obtain ⟨⟨g, σ5⟩, e5⟩ : ∃ x, numS (0, zs) = x := ⟨_, rfl⟩
        have hb5 := numS_bd HE.out.byt
        rw [e5] at hb5
        obtain ⟨g0, g1, nb5, _⟩ := hb5
        simp only at g0 g1
        obtain ⟨⟨r5, σ6⟩, e6⟩ : ∃ x, downS (b - g - 2) σ5 = x := ⟨_, rfl⟩
        have hd6 := downS_bd nb5 e6
        have ST := Lib.hid (decTS_step (gk - 1) b zs g σ5 e5 r5 σ6 e6)
        have E5 := Lib.hid e5
        have E6 := Lib.hid e6
        have D6 := Lib.hid hd6
        have HEr := Lib.hid (show EyeAt wr.drew y (0, zs) from HE.out)
        clear e5 e6 hd6 nb5 hc
        have i0' : (0 : Int) ≤ (l.length : Int) - 1 := by omega
        have i1' : (l.length : Int) - 1 < (l.length : Int) := by omega
        have i2' : ((l.length : Int) - 1).toNat = l.length - 1 := by omega
        have hlm : l.length ≤ 9223372036854775807 := by have := hcm; unfold maxLen at this; omega
        have hwl : IntKind.i64.wrap ((l.length : Int) - 1) = (l.length : Int) - 1 := by rw [IntKind.wrap_i64]; omega
        have hl1 : (1 : Int) ≤ (l.length : Int) := by omega
        have hw1 : IntKind.i64.wrap (b - g) = b - g := by rw [IntKind.wrap_i64]; omega
        have hw2 : IntKind.i64.wrap (b - g - 2) = b - g - 2 := by rw [IntKind.wrap_i64]; omega
        have hl2 : 1 ≤ l.length := hl
        go_wp2
        (go_region_held_law (fun w' => w'.cell? ⟨bb, off + (l.length - 1) * 2, none⟩ = some (.int .i64 b)) (go_keep)
              (first
                | ((go_at_call 162; refine (number_eye y (0, zs) _ HEr.out).mono ?_; rintro e w6 ⟨rfl, E1, g1⟩; rw [E5.out] at E1; rw [E5.out]; have c6 := g1.cell (show wr.drew.cell? _ = _ from hcell) hcne; have HE6 := Lib.hid E1; have G6 := Lib.hid (show wr.grownBy w6 (some y) from ⟨g1.os, g1.tape, g1.output, g1.size, g1.block⟩); clear E1 g1))))
        have HO6 := Lib.hid (own_eye HO.out G6.out hy)
        have HG6 := Lib.hid (grown_trans HG.out G6.out)
        have hm5 : (l.length + 1) * 16 ≤ 140737488355328 := by have := hgl; omega
        clear hcell hcne c6 k1
        go_wp2_with (first
          | (go_at_call 187; refine (down_eye _ _ _ _ HE6.out (by omega) (by omega)).mono ?_; rintro e w7 ⟨rfl, E1, g1⟩; rw [E6.out] at E1; rw [E6.out]; have HE7 := Lib.hid (E1.keep ((Below.refl w7.heap.size w7).alloc (Nat.le_refl _) (.cells #[.int .i64 r5.1, .int .i64 r5.2] 80))); have HG7 := Lib.hid (grown_trans (grown_trans HG6.out g1) (grown_below (some y) ((Below.refl w7.heap.size w7).alloc (Nat.le_refl _) (.cells #[.int .i64 r5.1, .int .i64 r5.2] 80)))); have HO7 := Lib.hid ((own_eye HO6.out g1 hy).alloc (.cells #[.int .i64 r5.1, .int .i64 r5.2] 80)); clear E1 g1)
          | (at_builtin
             refine wpList_appR _ rfl (.tmp 40) (.tmp 44) _ rfl w.heap.size 80 i0 _ Try.underlying25 HI.out HZ.out HZ1.out HZ2.out rfl (.slice (some ⟨bb, off, none⟩) l.length cl) l rfl HO7.out (w7.heap.size + 1) (some ⟨w7.heap.size, 0, none⟩) 1 1 [(r5.1, r5.2)] rfl (RRow.one w7 r5.1 r5.2 80) rfl hm5 HG7.out.size ?_
             intro v8 w8 own8 g8
             have HO8 := Lib.hid own8
             have HE8 := Lib.hid (HE7.out.row HO7.out hy g8)
             have HG8 := Lib.hid (grown_row w HG7.out (Nat.le_refl _) HO7.out g8)
             clear own8 g8))
        have HL8 := Lib.hid (show (l ++ [(r5.1, r5.2)]).getD ((l ++ [(r5.1, r5.2)]).length - 1) (0, 0) = r5 by simp)
        have HR8 := Lib.hid (show decRs s = conR (l ++ [(r5.1, r5.2)]) (decTS (gk - 1) r5.1 σ6) by
          have e1 : gk = gk - 1 + 1 := by omega
          rw [HR.out, e1, ST.out, conR_con]
          simp)
        go_roundg (gk - 1)
        case measure => omega
        case rel => exact ⟨b - g - 2, l ++ [(r5.1, r5.2)], r5.1, σ6, rfl, HO8, HE8, HG8, HR8, by simp, Lib.hid (by rw [HL8.out]), Lib.hid (fun e => ⟨(D6.out.2.1 e).1, n6⟩), by have := D6.out.1; omega, by simp; omega⟩
      · have g0 : (er == 0) = false := by simp [e0]
        have hv := Lib.hid (decTS_end l gk b (er, zs) (by exact e0))
        go_wp2
        go_ret
        exact ⟨_, l, (er, zs), rfl, HR.out.trans hv.out, HO.out, HE.out, HG.out⟩
    · have hz : gk = 0 := by omega
      have HZ := Lib.hid hz
      clear hz
      go_wp2
      go_ret
      exact ⟨_, l, (er, zs), rfl, by rw [HR.out, HZ.out, decTS_zero], HO.out, HE.out, HG.out⟩
end Go.Proofs.Ytgfbonfoimiknaa
