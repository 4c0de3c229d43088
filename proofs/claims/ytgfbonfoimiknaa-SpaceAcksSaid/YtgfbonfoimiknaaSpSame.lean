/- The exact texts' sameInts, sameFrames, sameParcels, sameSpace: what says the same is the same. -/
import Derived.Test.YtgfbonfoimiknaaGrpSj
import Derived.Test.YtgfbonfoimiknaaGrpSg
import Derived.Test.YtgfbonfoimiknaaGrpC
import Derived.Deep.LoopGhost
namespace Go.Proofs.Ytgfbonfoimiknaa
set_option linter.unusedVariables false
open Go.RowKit P

theorem fr_cells {w : World} {B : Nat} {A : Option Addr} {css : List (Cells 7)} {fs : List Fr} (h : RowE fr7 w B A css) (h2 : All2 (fun (c : Cells 7) f => FrVal w B (.agg c.l.toArray) f) css fs) (i : Nat) (hi : i < fs.length) : ∃ b off Ar cr Ad cd, A = some ⟨b, off, none⟩ ∧ b < B ∧
    FrVal w B (.agg #[.int .i64 (fs[i]).kind, .int .i64 (fs[i]).id, .int .i64 (fs[i]).off, .bool (fs[i]).fin, .int .i64 (fs[i]).code, .slice Ar (fs[i]).rs.length cr, .slice Ad (fs[i]).data.length cd]) fs[i] ∧
    w.cell? ⟨b, off + i * 7, none⟩ = some (.int .i64 (fs[i]).kind) ∧ w.cell? ⟨b, off + i * 7 + 1, none⟩ = some (.int .i64 (fs[i]).id) ∧ w.cell? ⟨b, off + i * 7 + 2, none⟩ = some (.int .i64 (fs[i]).off) ∧ w.cell? ⟨b, off + i * 7 + 3, none⟩ = some (.bool (fs[i]).fin) ∧
    w.cell? ⟨b, off + i * 7 + 4, none⟩ = some (.int .i64 (fs[i]).code) ∧ w.cell? ⟨b, off + i * 7 + 5, none⟩ = some (.slice Ar (fs[i]).rs.length cr) ∧ w.cell? ⟨b, off + i * 7 + 6, none⟩ = some (.slice Ad (fs[i]).data.length cd) := by
  have hlen := h2.len
  obtain ⟨b, off, e, hb, hc⟩ := h (by omega)
  have h3 := h2.at i (by omega) hi
  obtain ⟨Ar, cr, Ad, cd, hl, hr, hd⟩ := fr7_cells h3
  have key := fun k hk => RowE.at hc i k (by omega) hk
  have a0 := key 0 (by decide)
  have a1 := key 1 (by decide)
  have a2 := key 2 (by decide)
  have a3 := key 3 (by decide)
  have a4 := key 4 (by decide)
  have a5 := key 5 (by decide)
  have a6 := key 6 (by decide)
  simp only [fr7, cellLay, hl, List.getElem?_cons_zero, List.getElem?_cons_succ, Nat.add_zero, ← Nat.add_assoc] at a0 a1 a2 a3 a4 a5 a6
  rw [hl] at h3
  exact ⟨b, off, Ar, cr, Ad, cd, e, hb, h3, a0, a1, a2, a3, a4, a5, a6⟩
set_option maxHeartbeats 1000000 in
theorem lsameInt_any (A A' : Option Addr) (len cap cap' : Nat) (zs : List Int) (w : World) (h : RowE intE w w.heap.size A zs) (h' : RowE intE w w.heap.size A' zs) (hl : zs.length = len) (hm : len ≤ 9223372036854775807) (hcp : len ≤ cap) (hcm : cap ≤ maxLen) (hcp' : len ≤ cap') (hcm' : cap' ≤ maxLen) :
    Calls Try.prog 83 #[.slice A len cap, .slice A' len cap'] w fun e w' => e = .returned (.bool true) ∧ Below w.heap.size w w' := by
  have HR := Lib.hid h
  have HR' := Lib.hid h'
  have HL := Lib.hid hl
  clear h h' hl
  go_enter Try.func83, Try.ntmps83
  go_wp2_with fail
  go_loopg [5, 6] len (fun g ov i wr => ∃ k : Nat, k + g = len ∧ i = .int .i64 k ∧ ov = .bool true ∧ Hid (Below w.heap.size w wr))
  case atStart => exact ⟨0, by omega, rfl, rfl, Lib.hid (Below.refl _ _)⟩
  case round =>
    obtain ⟨k, hk, rfl, rfl, HB⟩ := hrel
    by_cases hlt : k < len
    · have i0 : (0 : Int) ≤ (k : Int) := by omega
      have i1 : (k : Int) < (len : Int) := by omega
      obtain ⟨b, off, rfl, hbb, hc⟩ := HR.out (by rw [HL.out]; omega)
      have a0 := (HB.out.cell (p := ⟨b, off + k, none⟩) hbb).trans (int_at hc k (by rw [HL.out]; exact hlt))
      obtain ⟨b', off', rfl, hbb', hc'⟩ := HR'.out (by rw [HL.out]; omega)
      have x0 := (HB.out.cell (p := ⟨b', off' + k, none⟩) hbb').trans (int_at hc' k (by rw [HL.out]; exact hlt))
      obtain ⟨z, hz⟩ : ∃ z, zs[k]'(by rw [HL.out]; exact hlt) = z := ⟨_, rfl⟩
      rw [hz] at a0 x0
      have d0 := Ext.cell a0
      have d1 := Ext.cell x0
      clear hc hc' hz
      go_wp2_with fail
      refine wp_region_ext (by kernel_rfl) (by kernel_rfl) ?_
      repeat (go_big_quiet_step (fail))
      refine wpQuiet_nil ?_
      intro w1 hb1
      have HB1 := Lib.hid (HB.out.trans (hb1.mono HB.out.size))
      clear hb1 a0 x0 d0 d1
      go_wp2_with fail
      go_roundg (gk - 1)
      case measure => omega
      case rel => exact ⟨k + 1, by omega, by go_num, rfl, HB1⟩
    · go_wp2_with fail
      go_ret
      exact ⟨rfl, HB.out⟩
set_option maxHeartbeats 2000000 in
theorem lsameFs_any (A A' : Option Addr) (len cap cap' : Nat) (css css' : List (Cells 7)) (fs : List Fr) (w : World) (h : RowE fr7 w w.heap.size A css) (h2 : All2 (fun (c : Cells 7) f => FrVal w w.heap.size (.agg c.l.toArray) f) css fs) (h' : RowE fr7 w w.heap.size A' css') (h2' : All2 (fun (c : Cells 7) f => FrVal w w.heap.size (.agg c.l.toArray) f) css' fs) (hl : fs.length = len) (hm : len ≤ 9223372036854775807) (hcp : len ≤ cap) (hcm : cap ≤ maxLen) (hcp' : len ≤ cap') (hcm' : cap' ≤ maxLen) :
    Calls Try.prog 58 #[.slice A len cap, .slice A' len cap'] w fun e w' => e = .returned (.bool true) ∧ Below w.heap.size w w' := by
  have HR := Lib.hid h
  have HA := Lib.hid h2
  have HR' := Lib.hid h'
  have HA' := Lib.hid h2'
  have HL := Lib.hid hl
  clear h h' h2 h2' hl
  go_enter Try.func58, Try.ntmps58
  go_wp2_with fail
  go_loopg [5, 6] len (fun g ov i wr => ∃ k : Nat, k + g = len ∧ i = .int .i64 k ∧ ov = .bool true ∧ Hid (Below w.heap.size w wr))
  case atStart => exact ⟨0, by omega, rfl, rfl, Lib.hid (Below.refl _ _)⟩
  case round =>
    obtain ⟨k, hk, rfl, rfl, HB⟩ := hrel
    by_cases hlt : k < len
    · have i0 : (0 : Int) ≤ (k : Int) := by omega
      have i1 : (k : Int) < (len : Int) := by omega
      have hkf : k < fs.length := by rw [HL.out]; exact hlt
      obtain ⟨b, off, Ar, cr, Ad, cd, rfl, hb, hv, a0, a1, a2, a3, a4, a5, a6⟩ := fr_cells HR.out HA.out k hkf
      obtain ⟨b', off', Ar', cr', Ad', cd', rfl, hb', hv', x0, x1, x2, x3, x4, x5, x6⟩ := fr_cells HR'.out HA'.out k hkf
      obtain ⟨f, hf⟩ : ∃ f, fs[k] = f := ⟨_, rfl⟩
      rw [hf] at hv hv' a0 a1 a2 a3 a4 a5 a6 x0 x1 x2 x3 x4 x5 x6
      have HV := Lib.hid (fun (x : Ext wr) => lsameFr_eq _ _ f x.w ((hv.below (HB.out.trans (x.h.mono HB.out.size))).more (Nat.le_trans HB.out.size x.h.size)) ((hv'.below (HB.out.trans (x.h.mono HB.out.size))).more (Nat.le_trans HB.out.size x.h.size)))
      clear hv hv'
      have d0 := Ext.cell (W := wr) (p := ⟨b, off + k * 7, none⟩) ((HB.out.cell hb).trans a0)
      have e0 := Ext.cell (W := wr) (p := ⟨b', off' + k * 7, none⟩) ((HB.out.cell hb').trans x0)
      have d1 := Ext.cell (W := wr) (p := ⟨b, off + k * 7 + 1, none⟩) ((HB.out.cell hb).trans a1)
      have e1 := Ext.cell (W := wr) (p := ⟨b', off' + k * 7 + 1, none⟩) ((HB.out.cell hb').trans x1)
      have d2 := Ext.cell (W := wr) (p := ⟨b, off + k * 7 + 2, none⟩) ((HB.out.cell hb).trans a2)
      have e2 := Ext.cell (W := wr) (p := ⟨b', off' + k * 7 + 2, none⟩) ((HB.out.cell hb').trans x2)
      have d3 := Ext.cell (W := wr) (p := ⟨b, off + k * 7 + 3, none⟩) ((HB.out.cell hb).trans a3)
      have e3 := Ext.cell (W := wr) (p := ⟨b', off' + k * 7 + 3, none⟩) ((HB.out.cell hb').trans x3)
      have d4 := Ext.cell (W := wr) (p := ⟨b, off + k * 7 + 4, none⟩) ((HB.out.cell hb).trans a4)
      have e4 := Ext.cell (W := wr) (p := ⟨b', off' + k * 7 + 4, none⟩) ((HB.out.cell hb').trans x4)
      have d5 := Ext.cell (W := wr) (p := ⟨b, off + k * 7 + 5, none⟩) ((HB.out.cell hb).trans a5)
      have e5 := Ext.cell (W := wr) (p := ⟨b', off' + k * 7 + 5, none⟩) ((HB.out.cell hb').trans x5)
      have d6 := Ext.cell (W := wr) (p := ⟨b, off + k * 7 + 6, none⟩) ((HB.out.cell hb).trans a6)
      have e6 := Ext.cell (W := wr) (p := ⟨b', off' + k * 7 + 6, none⟩) ((HB.out.cell hb').trans x6)
      obtain ⟨nr, hnr⟩ : ∃ n, f.rs.length = n := ⟨_, rfl⟩
      obtain ⟨nd, hnd⟩ : ∃ n, f.data.length = n := ⟨_, rfl⟩
      rw [hnr, hnd] at HV
      rw [hnr] at d5 e5
      rw [hnd] at d6 e6
      clear a0 a1 a2 a3 a4 a5 a6 x0 x1 x2 x3 x4 x5 x6 hf hnr hnd
      go_wp2_with fail
      refine wp_region_ext (by kernel_rfl) (by kernel_rfl) ?_
      repeat (go_big_quiet_step ((go_at_call 110; exact Ext.call (HV.out _))))
      refine wpQuiet_nil ?_
      intro w1 hb1
      have HB1 := Lib.hid (HB.out.trans (hb1.mono HB.out.size))
      clear hb1 d0 d1 d2 d3 d4 d5 d6 e0 e1 e2 e3 e4 e5 e6
      go_wp2_with fail
      go_roundg (gk - 1)
      case measure => omega
      case rel => exact ⟨k + 1, by omega, by go_num, rfl, HB1⟩
    · go_wp2_with fail
      go_ret
      exact ⟨rfl, HB.out⟩
theorem lsameFsV_any (v v' : Value) (fs : List Fr) (w : World) (h : FsSl w w.heap.size v fs) (h' : FsSl w w.heap.size v' fs) : Calls Try.prog 58 #[v, v'] w fun e w' => e = .returned (.bool true) ∧ Below w.heap.size w w' := by
  obtain ⟨A, c, css, rfl, h1, h2, h3, h4⟩ := h.ex
  obtain ⟨A', c', css', rfl, h1', h2', h3', h4'⟩ := h'.ex
  exact lsameFs_any A A' fs.length c c' css css' fs w h3 h4 h3' h4' rfl (by unfold maxLen at h2; omega) h1 h2 h1' h2'
set_option maxHeartbeats 4000000 in
theorem lsamePl_any (A A' : Option Addr) (len cap cap' : Nat) (css css' : List (Cells 4)) (ps : List Pcl) (w : World) (h : RowE pc4 w w.heap.size A css) (h2 : All2 (PcC w w.heap.size) css ps) (h' : RowE pc4 w w.heap.size A' css') (h2' : All2 (PcC w w.heap.size) css' ps) (hl : ps.length = len) (hm : len ≤ 9223372036854775807) (hcp : len ≤ cap) (hcm : cap ≤ maxLen) (hcp' : len ≤ cap') (hcm' : cap' ≤ maxLen) :
    Calls Try.prog 43 #[.slice A len cap, .slice A' len cap'] w fun e w' => e = .returned (.bool true) ∧ Below w.heap.size w w' := by
  have HR := Lib.hid h
  have HA := Lib.hid h2
  have HR' := Lib.hid h'
  have HA' := Lib.hid h2'
  have HL := Lib.hid hl
  clear h h' h2 h2' hl
  go_enter Try.func43, Try.ntmps43
  go_wp2_with fail
  go_loopg [5, 6] len (fun g ov i wr => ∃ k : Nat, k + g = len ∧ i = .int .i64 k ∧ ov = .bool true ∧ Hid (Below w.heap.size w wr))
  case atStart => exact ⟨0, by omega, rfl, rfl, Lib.hid (Below.refl _ _)⟩
  case round =>
    obtain ⟨k, hk, rfl, rfl, HB⟩ := hrel
    by_cases hlt : k < len
    · have i0 : (0 : Int) ≤ (k : Int) := by omega
      have i1 : (k : Int) < (len : Int) := by omega
      have hkf : k < ps.length := by rw [HL.out]; exact hlt
      obtain ⟨b, off, v, rfl, hb, hv, a0, a1, a2, a3⟩ := pc_cells HR.out HA.out k hkf
      obtain ⟨b', off', v', rfl, hb', hv', x0, x1, x2, x3⟩ := pc_cells HR'.out HA'.out k hkf
      obtain ⟨Af, cf, _, rfl, _⟩ := hv.ex
      obtain ⟨Af', cf', _, rfl, _⟩ := hv'.ex
      obtain ⟨p, hp⟩ : ∃ p, ps[k] = p := ⟨_, rfl⟩
      rw [hp] at hv hv' a0 a1 a2 a3 x0 x1 x2 x3
      have HV := Lib.hid (fun (x : Ext wr) => lsameFsV_any _ _ p.frs x.w ((hv.below (HB.out.trans (x.h.mono HB.out.size))).more (Nat.le_trans HB.out.size x.h.size)) ((hv'.below (HB.out.trans (x.h.mono HB.out.size))).more (Nat.le_trans HB.out.size x.h.size)))
      clear hv hv'
      have d0 := Ext.cell (W := wr) (p := ⟨b, off + k * 4, none⟩) ((HB.out.cell hb).trans a0)
      have e0 := Ext.cell (W := wr) (p := ⟨b', off' + k * 4, none⟩) ((HB.out.cell hb').trans x0)
      have d1 := Ext.cell (W := wr) (p := ⟨b, off + k * 4 + 1, none⟩) ((HB.out.cell hb).trans a1)
      have e1 := Ext.cell (W := wr) (p := ⟨b', off' + k * 4 + 1, none⟩) ((HB.out.cell hb').trans x1)
      have d2 := Ext.cell (W := wr) (p := ⟨b, off + k * 4 + 2, none⟩) ((HB.out.cell hb).trans a2)
      have e2 := Ext.cell (W := wr) (p := ⟨b', off' + k * 4 + 2, none⟩) ((HB.out.cell hb').trans x2)
      have d3 := Ext.cell (W := wr) (p := ⟨b, off + k * 4 + 3, none⟩) ((HB.out.cell hb).trans a3)
      have e3 := Ext.cell (W := wr) (p := ⟨b', off' + k * 4 + 3, none⟩) ((HB.out.cell hb').trans x3)
      obtain ⟨nf, hnf⟩ : ∃ n, p.frs.length = n := ⟨_, rfl⟩
      rw [hnf] at HV d3 e3
      clear a0 a1 a2 a3 x0 x1 x2 x3 hp hnf
      go_wp2_with fail
      refine wp_region_ext (by kernel_rfl) (by kernel_rfl) ?_
      repeat (go_big_quiet_step ((go_at_call 58; exact Ext.call (HV.out _))))
      refine wpQuiet_nil ?_
      intro w1 hb1
      have HB1 := Lib.hid (HB.out.trans (hb1.mono HB.out.size))
      clear hb1 d0 d1 d2 d3 e0 e1 e2 e3
      go_wp2_with fail
      go_roundg (gk - 1)
      case measure => omega
      case rel => exact ⟨k + 1, by omega, by go_num, rfl, HB1⟩
    · go_wp2_with fail
      go_ret
      exact ⟨rfl, HB.out⟩
theorem lsamePlV_any (v v' : Value) (ps : List Pcl) (w : World) (h : PlSl w w.heap.size v ps) (h' : PlSl w w.heap.size v' ps) : Calls Try.prog 43 #[v, v'] w fun e w' => e = .returned (.bool true) ∧ Below w.heap.size w w' := by
  obtain ⟨A, c, css, rfl, h1, h2, h3, h4⟩ := h.ex
  obtain ⟨A', c', css', rfl, h1', h2', h3', h4'⟩ := h'.ex
  exact lsamePl_any A A' ps.length c c' css css' ps w h3 h4 h3' h4' rfl (by unfold maxLen at h2; omega) h1 h2 h1' h2'
theorem lsameIntV_any (v v' : Value) (zs : List Int) (w : World) (h : ISl w w.heap.size v zs) (h' : ISl w w.heap.size v' zs) : Calls Try.prog 83 #[v, v'] w fun e w' => e = .returned (.bool true) ∧ Below w.heap.size w w' := by
  obtain ⟨A, c, rfl, h1, h2, h3⟩ := h.ex
  obtain ⟨A', c', rfl, h1', h2', h3'⟩ := h'.ex
  exact lsameInt_any A A' zs.length c c' zs w h3 h3' rfl (by unfold maxLen at h2; omega) h1 h2 h1' h2'
theorem lsameRgV_any (v v' : Value) (ps : List (Int × Int)) (w : World) (h : RSl w w.heap.size v ps) (h' : RSl w w.heap.size v' ps) : Calls Try.prog 30 #[v, v'] w fun e w' => e = .returned (.bool true) ∧ Below w.heap.size w w' := by
  obtain ⟨A, c, rfl, h1, h2, h3⟩ := h.ex
  obtain ⟨A', c', rfl, h1', h2', h3'⟩ := h'.ex
  exact lsame_any A A' ps.length c c' ps w h3 h3' rfl (by unfold maxLen at h2; omega)
set_option maxRecDepth 100000 in
set_option maxHeartbeats 1000000 in
theorem lsameSp_any (v v' : Value) (s : Sp) (w : World) (hv : SpVal w w.heap.size v s) (hv' : SpVal w w.heap.size v' s) : Calls Try.prog 31 #[v, v'] w fun e w' => e = .returned (.bool true) ∧ Below w.heap.size w w' := by
  obtain ⟨a, h, kk, rfl, ha, hh, hk⟩ := hv.ex
  obtain ⟨a', h', kk', rfl, ha', hh', hk'⟩ := hv'.ex
  have HA := Lib.hid (fun w' (hb : Below w.heap.size w w') => lsamePlV_any a a' s.sent w' ((ha.below hb).more hb.size) ((ha'.below hb).more hb.size))
  have HH := Lib.hid (fun w' (hb : Below w.heap.size w w') => lsameRgV_any h h' s.heard w' ((hh.below hb).more hb.size) ((hh'.below hb).more hb.size))
  have HK := Lib.hid (fun w' (hb : Below w.heap.size w w') => lsameIntV_any kk kk' s.skip w' ((hk.below hb).more hb.size) ((hk'.below hb).more hb.size))
  obtain ⟨Aa, ca, csa, rfl, _, _, _, _⟩ := ha.ex
  obtain ⟨Ah, ch, rfl, _, _, _⟩ := hh.ex
  obtain ⟨Ak, ck, rfl, _, _, _⟩ := hk.ex
  obtain ⟨Aa', ca', csa', rfl, _, _, _, _⟩ := ha'.ex
  obtain ⟨Ah', ch', rfl, _, _, _⟩ := hh'.ex
  obtain ⟨Ak', ck', rfl, _, _, _⟩ := hk'.ex
  obtain ⟨g0, g1, g2⟩ := twoX w #[.int .i64 s.next, .slice Aa s.sent.length ca, .int .i64 s.top, .slice Ah s.heard.length ch, .slice Ak s.skip.length ck] #[.int .i64 s.next, .slice Aa' s.sent.length ca', .int .i64 s.top, .slice Ah' s.heard.length ch', .slice Ak' s.skip.length ck'] 48 48
  have F0 := Lib.hid g0
  have Z0 := Lib.hid g1
  have B0 := Lib.hid g2
  clear g0 g1 g2 hv hv' ha hh hk ha' hh' hk'
  obtain ⟨q0, q1, q2, q3, q4⟩ := sp5 F0.out
  obtain ⟨z0, z1, z2, z3, z4⟩ := sp5 Z0.out
  go_enter Try.func31, Try.ntmps31
  go_wp2_with fail
  refine (HA.out _ B0.out).mono ?_
  rintro e w1 ⟨rfl, b1⟩
  have B1 := Lib.hid (B0.out.trans (b1.mono B0.out.size))
  have F1 := Lib.hid ((b1.block _ (lt_of_block F0.out)).trans F0.out)
  have Z1 := Lib.hid ((b1.block _ (lt_of_block Z0.out)).trans Z0.out)
  clear b1
  clear q0 q1 q2 q3 q4
  clear z0 z1 z2 z3 z4
  obtain ⟨q0, q1, q2, q3, q4⟩ := sp5 F1.out
  obtain ⟨z0, z1, z2, z3, z4⟩ := sp5 Z1.out
  go_wp2_with fail
  refine (HH.out _ B1.out).mono ?_
  rintro e w2 ⟨rfl, b2⟩
  have B2 := Lib.hid (B1.out.trans (b2.mono B1.out.size))
  have F2 := Lib.hid ((b2.block _ (lt_of_block F1.out)).trans F1.out)
  have Z2 := Lib.hid ((b2.block _ (lt_of_block Z1.out)).trans Z1.out)
  clear b2
  clear q0 q1 q2 q3 q4
  clear z0 z1 z2 z3 z4
  obtain ⟨q0, q1, q2, q3, q4⟩ := sp5 F2.out
  obtain ⟨z0, z1, z2, z3, z4⟩ := sp5 Z2.out
  go_wp2_with fail
  refine (HK.out _ B2.out).mono ?_
  rintro e w3 ⟨rfl, b3⟩
  have B3 := Lib.hid (B2.out.trans (b3.mono B2.out.size))
  have F3 := Lib.hid ((b3.block _ (lt_of_block F2.out)).trans F2.out)
  have Z3 := Lib.hid ((b3.block _ (lt_of_block Z2.out)).trans Z2.out)
  clear b3
  clear q0 q1 q2 q3 q4
  clear z0 z1 z2 z3 z4
  obtain ⟨q0, q1, q2, q3, q4⟩ := sp5 F3.out
  obtain ⟨z0, z1, z2, z3, z4⟩ := sp5 Z3.out
  go_wp2_with fail
  go_ret
  exact ⟨by simp, B3.out⟩
end Go.Proofs.Ytgfbonfoimiknaa
