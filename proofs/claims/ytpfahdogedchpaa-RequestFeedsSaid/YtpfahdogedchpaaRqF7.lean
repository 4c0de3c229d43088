/- The project's readers of requests in memory: Feed. -/
import Derived.Test.YtpfahdogedchpaaGrpZj
import Derived.Test.YtpfahdogedchpaaGrpY
namespace Go.Proofs.Ytpfahdogedchpaa
set_option linter.unusedVariables false
open Go.RowKit P
theorem app_rdi {base : Nat} {w3 w4 w5 : World} {hs fs bs hs' : Value} {held b : List Int} {fl : List Fld} {bg : Bool} {bd : List Int} {en : Bool} {n : Nat} (o : RdO base w3 hs fs bs ⟨held, fl, bg, bd, en⟩) (own4 : w4.ownsRow base 5 1 hs' n (held.map (.int .u8) ++ b.map (.int .u8))) (g4 : w3.grownBy w4 hs.ownBlock) (hv : hs'.ownBlock = hs.ownBlock ∨ hs'.ownBlock = some w3.heap.size) (k : Nat) (hk : k < base) (g5 : w4.grownBy w5 (some k)) (hb1 : Byt held) (hb2 : Byt b) : RdI base w5 hs' fs bs ⟨held ++ b, fl, bg, bd, en⟩ := by
  have hn : ∀ j, hs'.ownBlock = some j → ∀ v : Value, (∀ i, hs.ownBlock = some i → v.ownBlock ≠ some i) → (∀ i, v.ownBlock = some i → i < w3.heap.size) → v.ownBlock ≠ some j := by
    intro j hj v h1 h2 h3
    rcases hv with e | e
    · exact h1 j (e ▸ hj) h3
    · rw [e] at hj
      cases hj
      have := h2 _ h3
      omega
  have nh' : ∀ j, bs.ownBlock = some j → hs'.ownBlock ≠ some j := fun j h1 h2 => hn j h2 bs o.hb (fun i hi => (o.b.lt i hi).2) h1
  rw [← List.map_append] at own4
  refine ⟨own_bsl (own4.kept g5 (.inr (fun e => by have := (own4.lt _ e).1; omega))) (hb1.append hb2), ?_, ?_, notIn_of nh', notIn_of o.bf⟩
  · have f1 : OwnE FdE w4 base 66 fs fl := by
      rcases h : hs.ownBlock with _ | i
      · rw [h] at g4
        exact OwnE.kept o.f (y := w3.heap.size) ⟨g4.os, g4.tape, g4.output, g4.size, fun k hk _ => g4.block k hk (by simp)⟩ (fun e => by have := (OwnE.lt o.f _ e).2; omega)
      · rw [h] at g4
        exact OwnE.kept o.f g4 (o.hf i h)
    exact fsl_own (OwnE.kept f1 g5 (fun e => by have := (OwnE.lt f1 _ e).1; omega))
  · have b1 := o.b.kept g4 (by
      rcases h : hs.ownBlock with _ | i
      · exact none_or _
      · exact .inr (o.hb i h))
    exact b1.kept g5 (.inr (fun e => by have := (b1.lt _ e).1; omega))
theorem RdO.step {base base' : Nat} {w w' : World} {hs fs bs : Value} {r : Rd} {k : Nat} (o : RdO base w hs fs bs r) (g : w.grownBy w' (some k)) (hk : k < base) (hb : base' ≤ base) : RdO base' w' hs fs bs r :=
  ⟨own_base (o.h.kept g (.inr (fun e => by have := (o.h.lt _ e).1; omega))) hb, (OwnE.kept o.f g (fun e => by have := (OwnE.lt o.f _ e).1; omega)).low hb, own_base (o.b.kept g (.inr (fun e => by have := (o.b.lt _ e).1; omega))) hb, o.hf, o.hb, o.bf⟩
set_option maxRecDepth 100000 in
set_option maxHeartbeats 16000000 in
theorem feed_any (Aho Afo Abo Ad : Option Addr) (nho cho nfo cfo nbo cbo nd cd : Nat) (fin : Bool) (r : Rd) (b : List Int) (tv : Value) (t : Tb) (W : World) (hh : BSl W W.heap.size (.slice Aho nho cho) r.held) (hf : FSl W W.heap.size (.slice Afo nfo cfo) r.flds) (hb : BSl W W.heap.size (.slice Abo nbo cbo) r.body) (hd : BSl W W.heap.size (.slice Ad nd cd) b) (hv : TbVal W W.heap.size tv t) (hw : TbWf t) (hnf : nfo ≤ 4398046510976) :
    Calls Try.prog 6 #[.agg #[.slice Aho nho cho, .slice Afo nfo cfo, .bool r.begun, .slice Abo nbo cbo, .bool r.ended], tv, .slice Ad nd cd, .bool fin] W fun e w' => Below W.heap.size W w' ∧ ∃ v, e = .returned (.tuple #[v, .int .i64 (feedR r t b fin).2]) ∧ RdVal w' v (feedR r t b fin).1 := by
  obtain ⟨heldo, flo, bgo, bdo, en⟩ := r
  dsimp only at *
  have l1 : heldo.length = nho := by obtain ⟨_, _, e, _⟩ := hh.ex; cases e; rfl
  have l2 : bdo.length = nbo := by obtain ⟨_, _, e, _⟩ := hb.ex; cases e; rfl
  have l3 : b.length = nd := by obtain ⟨_, _, e, _⟩ := hd.ex; cases e; rfl
  have l4 : flo.length = nfo := by obtain ⟨_, _, e, _⟩ := hf.ex; cases e; rfl
  have m1 : nho ≤ 9223372036854775807 := by obtain ⟨_, _, e, h1, h2, _⟩ := hh.ex; unfold maxLen at h2; omega
  have m2 : nbo ≤ 9223372036854775807 := by obtain ⟨_, _, e, h1, h2, _⟩ := hb.ex; unfold maxLen at h2; omega
  have m3 : nd ≤ 9223372036854775807 := by obtain ⟨_, _, e, h1, h2, _⟩ := hd.ex; unfold maxLen at h2; omega
  obtain ⟨At, nt, ct, room, put, rfl, hv'⟩ := tb_partsR hv
  obtain ⟨g1, g2, g3, g4⟩ := two_bk3 W #[.slice Aho nho cho, .slice Afo nfo cfo, .bool bgo, .slice Abo nbo cbo, .bool en] #[.int .i64 room, .int .i64 put, .slice At nt ct] zrd 25 27 25
  have X0 := Lib.hid g1
  have Y0 := Lib.hid g2
  have Z0 := Lib.hid g3
  have B0 := Lib.hid g4
  obtain ⟨V0, hV0⟩ : ∃ V, ((W.alloc (.cells #[.slice Aho nho cho, .slice Afo nfo cfo, .bool bgo, .slice Abo nbo cbo, .bool en] 25)).alloc (.cells #[.int .i64 room, .int .i64 put, .slice At nt ct] 27)).alloc (.cells zrd 25) = V := ⟨_, rfl⟩
  rw [hV0] at X0 Y0 Z0 B0
  unfold zrd at hV0 Z0
  have HRF := Lib.hid (fun w => rqrefuse_any Aho Afo Abo Ad nho cho nfo cfo nbo cbo nd cd bgo en w m1 m2 m3)
  have hfr : feedR ⟨heldo, flo, bgo, bdo, en⟩ t b fin = if 800 < nho ∨ 800 < nd ∨ 200 < nbo then (rd0, 1) else if en = true then (rd0, 17) else feedN t fin (nho + nd + 1) ⟨heldo ++ b, flo, bgo, bdo, en⟩ := by
    unfold feedR
    dsimp only
    rw [l1, l2, l3]
  rw [hfr]
  clear hfr
  by_cases hq : 800 < nho ∨ 800 < nd ∨ 200 < nbo ∨ en = true
  · obtain ⟨x, hx, hx1, hx2⟩ : ∃ x : Int, (if 800 < nho ∨ 800 < nd ∨ 200 < nbo then 1 else if en = true then 17 else 0) = x ∧ x ≠ 0 ∧ (if 800 < nho ∨ 800 < nd ∨ 200 < nbo then (rd0, 1) else if en = true then (rd0, 17) else feedN t fin (nho + nd + 1) ⟨heldo ++ b, flo, bgo, bdo, en⟩) = (rd0, x) := by
      by_cases c : 800 < nho ∨ 800 < nd ∨ 200 < nbo
      · exact ⟨1, by rw [if_pos c], by decide, by rw [if_pos c]⟩
      · have c2 : en = true := by
          rcases hq with c' | c' | c' | c'
          · exact absurd (.inl c') c
          · exact absurd (.inr (.inl c')) c
          · exact absurd (.inr (.inr c')) c
          · exact c'
        exact ⟨17, by rw [if_neg c, if_pos c2], by decide, by rw [if_neg c, if_pos c2]⟩
    rw [hx] at HRF
    rw [hx2]
    have e1 : (x != 0) = true := by simp [hx1]
    clear hx hx1 hx2 hq l1 l2 l3 l4 hh hf hb hd hv hv' hw g1 g2 g3 g4 hnf m1 m2 m3
    obtain ⟨x0, x1, x2, x3, x4⟩ := bk5T X0.out
    go_enter Try.func6, Try.ntmps6
    go_wp2_with fail
    refine (HRF.out _).mono ?_
    rintro e w1 ⟨rfl, b1⟩
    have Z1 := Lib.hid ((b1.block _ (lt_of_block Z0.out)).trans Z0.out)
    have B1 := Lib.hid (B0.out.trans (b1.mono B0.out.size))
    clear b1
    obtain ⟨z0, z1, z2, z3, z4⟩ := bk5T Z1.out
    have zf := fun i => bk_frz Z1.out i
    go_wp2_with fail
    obtain ⟨k1, gp⟩ := bk5_blk Z1.out (.slice none 0 0) (.slice none 0 0) (.bool false) (.slice none 0 0) (.bool false)
    obtain ⟨r0, r1, r2, r3, r4⟩ := bk5T k1
    refine bodyPost_ret (by simp [results, Try.results6, go_sem, r0, r1, r2, r3, r4]; try rfl) rfl ?_
    exact ⟨gr_from B1.out B1.out.size (by omega) gp, _, rfl, RdVal.zero _⟩
  · have c1 : ¬ (800 < nho ∨ 800 < nd ∨ 200 < nbo) := fun c => hq (by rcases c with c | c | c; exact .inl c; exact .inr (.inl c); exact .inr (.inr (.inl c)))
    obtain rfl : en = false := by
      cases en with
      | false => rfl
      | true => exact absurd (.inr (.inr (.inr rfl))) hq
    rw [if_neg c1, if_neg (by decide)] at HRF ⊢
    have q1 : nho ≤ 800 ∧ nd ≤ 800 ∧ nbo ≤ 200 := by omega
    have HCP := Lib.hid (fun w (hB : Below W.heap.size W w) => copied_any Aho Afo Abo nho cho nfo cfo nbo cbo ⟨heldo, flo, bgo, bdo, false⟩ w (bsl_onF hh hB) (hf.on hB) (bsl_onF hb hB) (by dsimp only; omega) hnf (by dsimp only; omega))
    dsimp only at HCP
    rw [l1, l2, l4] at HCP
    have HVT := Lib.hid (fun w (hB : Below W.heap.size W w) => hv'.on hB)
    have HWT := Lib.hid hw
    have HDD := Lib.hid hd
    have HB1 : Hid (Byt heldo ∧ Byt b ∧ Byt bdo) := Lib.hid ⟨by obtain ⟨_, _, _, _, _, _, h⟩ := hh.ex; exact h.1, by obtain ⟨_, _, _, _, _, _, h⟩ := hd.ex; exact h.1, by obtain ⟨_, _, _, _, _, _, h⟩ := hb.ex; exact h.1⟩
    have HL1 := Lib.hid (show heldo.length = nho ∧ bdo.length = nbo ∧ b.length = nd from ⟨l1, l2, l3⟩)
    obtain ⟨i0, hi0, hz0, hz1, hz2⟩ := info_parts infoB1
    have HI := Lib.hid hi0
    have HZ := Lib.hid hz0
    have HZ1 := Lib.hid hz1
    have HZ2 := Lib.hid hz2
    obtain ⟨R, hR⟩ : ∃ R, feedN t fin (nho + nd + 1) ⟨heldo ++ b, flo, bgo, bdo, false⟩ = R := ⟨_, rfl⟩
    rw [hR]
    have HRR0 := Lib.hid hR
    clear hi0 hz0 hz1 hz2 hR hq c1 l1 l2 l3 l4 hh hf hb hd hv hv' hw g1 g2 g3 g4 hnf m1 m2 m3
    obtain ⟨x0, x1, x2, x3, x4⟩ := bk5T X0.out
    have e1 : ((0 : Int) != 0) = false := rfl
    go_enter Try.func6, Try.ntmps6
    go_wp2_with fail
    refine (HRF.out _).mono ?_
    rintro e w1 ⟨rfl, b1⟩
    have X1 := Lib.hid ((b1.block _ (lt_of_block X0.out)).trans X0.out)
    have Y1 := Lib.hid ((b1.block _ (lt_of_block Y0.out)).trans Y0.out)
    have Z1 := Lib.hid ((b1.block _ (lt_of_block Z0.out)).trans Z0.out)
    have B1 := Lib.hid (B0.out.trans (b1.mono B0.out.size))
    have HS1 := Lib.hid (lt_of_block Z1.out)
    clear b1 x0 x1 x2 x3 x4
    obtain ⟨x0, x1, x2, x3, x4⟩ := bk5T X1.out
    go_wp2_with fail
    refine (HCP.out _ B1.out).mono ?_
    clear x0 x1 x2 x3 x4
    rintro e w2 ⟨b2, A1, c1, A3, c3, A5, c5, rfl, o2⟩
    have X2 := Lib.hid ((b2.block _ (lt_of_block X1.out)).trans X1.out)
    have Y2 := Lib.hid ((b2.block _ (lt_of_block Y1.out)).trans Y1.out)
    have Z2 := Lib.hid ((b2.block _ (lt_of_block Z1.out)).trans Z1.out)
    have B2 := Lib.hid (B1.out.trans (b2.mono B1.out.size))
    obtain ⟨x0, x1, x2, x3, x4⟩ := bk5T X2.out
    have xf := fun i => bk_frz X2.out i
    go_upto_region 5 with fail
    obtain ⟨k1, g3⟩ := bk5_blk X2.out (.slice A1 nho c1) (.slice A3 nfo c3) (.bool bgo) (.slice A5 nbo c5) (.bool false)
    obtain ⟨w3, hw3⟩ : ∃ q, ((((w2.setCell ⟨W.heap.size, 0, none⟩ (.slice A1 nho c1)).setCell ⟨W.heap.size, 1, none⟩ (.slice A3 nfo c3)).setCell ⟨W.heap.size, 2, none⟩ (.bool bgo)).setCell ⟨W.heap.size, 3, none⟩ (.slice A5 nbo c5)).setCell ⟨W.heap.size, 4, none⟩ (.bool false) = q := ⟨_, rfl⟩
    rw [hw3] at k1 g3 ⊢
    have X3 := Lib.hid k1
    have Y3 := Lib.hid ((g3.block _ (lt_of_block Y2.out) (by simp)).trans Y2.out)
    have Z3 := Lib.hid ((g3.block _ (lt_of_block Z2.out) (by simp; omega)).trans Z2.out)
    have B3 := Lib.hid (gr_from B2.out B2.out.size (Nat.le_refl _) g3)
    have O3 := Lib.hid (RdO.step o2 g3 (by have := HS1.out; omega) (show W.heap.size + 3 ≤ w1.heap.size + 2 by have := HS1.out; omega))
    have HS3 := Lib.hid (lt_of_block Z3.out)
    have OH3 := Lib.hid O3.out.h
    dsimp only at OH3
    rw [HL1.out.1] at OH3
    have HK3 := Lib.hid (fun k hk => (OH3.out.lt k hk).1)
    obtain ⟨_, _, ed, _, _, hdnil, hdr⟩ := (bsl_onF HDD.out B3.out).ex
    injection ed with ed1 ed2 ed3
    subst ed1 ed3
    have HDR := Lib.hid hdr
    have HDL := Lib.hid hdnil
    clear k1 g3 hw3 x0 x1 x2 x3 x4 xf b2 o2 hdr hdnil ed2
    obtain ⟨x0, x1, x2, x3, x4⟩ := bk5T X3.out
    have xf := fun i => bk_frz X3.out i
    go_upto_region 6 with (at_builtin
                           go_loud (refine wpList_app _ rfl (.tmp 23) (.tmp 24) _ rfl (W.heap.size + 3) 5 i0 Try.underlying22 HI.out HZ.out HZ1.out HZ2.out (.slice A1 nho c1) nho (heldo.map (.int .u8)) rfl OH3.out w3.heap.size Ad nd cd b rfl HDR.out HL1.out.2.2 HDL.out (by omega) HS3.out ?_)
                           intro v4 w4 own4 g4 hv4
                           obtain ⟨A4, c4, e4, _, _⟩ := own_slice own4
                           subst e4
                           have O4 := Lib.hid own4
                           have G4 := Lib.hid g4
                           have HV4 := Lib.hid hv4
                           have X4 := Lib.hid ((g4.block W.heap.size (lt_of_block X3.out) (fun e => by have := HK3.out _ e.symm; omega)).trans X3.out)
                           obtain ⟨p0, p1, p2, p3, p4⟩ := bk5T X4.out
                           have pf := fun i => bk_frz X4.out i
                           clear own4 g4 hv4 x0 x1 x2 x3 x4 xf)
    have X5 : (w4.setCell ⟨W.heap.size, 0, none⟩ (.slice A4 (nho + nd) c4)).heap[W.heap.size]? = some (.cells #[.slice A4 (nho + nd) c4, .slice A3 nfo c3, .bool bgo, .slice A5 nbo c5, .bool false] 25 (0, 0)) := by simpa using bk_set X4.out 0 (.slice A4 (nho + nd) c4)
    have g5 := gr_set w4 W.heap.size 0 (.slice A4 (nho + nd) c4)
    obtain ⟨w5, hw5⟩ : ∃ q, w4.setCell ⟨W.heap.size, 0, none⟩ (.slice A4 (nho + nd) c4) = q := ⟨_, rfl⟩
    rw [hw5] at X5 g5 ⊢
    have Y4 := (G4.out.block _ (lt_of_block Y3.out) (fun e => by have := HK3.out _ e.symm; omega)).trans Y3.out
    have Z4 := (G4.out.block _ (lt_of_block Z3.out) (fun e => by have := HK3.out _ e.symm; omega)).trans Z3.out
    have FK5 : Hid (FK W (.cells #[.slice A4 (nho + nd) c4, .slice A3 nfo c3, .bool bgo, .slice A5 nbo c5, .bool false] 25 (0, 0)) (.cells #[.int .i64 room, .int .i64 put, .slice At nt ct] 27 (0, 0)) (.cells #[.slice none 0 0, .slice none 0 0, .bool false, .slice none 0 0, .bool false] 25 (0, 0)) (.slice A4 (nho + nd) c4) (.slice A3 nfo c3) (.slice A5 nbo c5) ⟨heldo ++ b, flo, bgo, bdo, false⟩ w5) := Lib.hid ⟨X5, (g5.block _ (lt_of_block Y4) (by simp)).trans Y4, (g5.block _ (lt_of_block Z4) (by simp; omega)).trans Z4, (B3.out.grown G4.out B3.out.size (fun k e => by have := HK3.out k e; omega)).grown g5 (Nat.le_trans B3.out.size G4.out.size) (fun k e => by cases e; exact Nat.le_refl _), app_rdi O3.out O4.out G4.out HV4.out W.heap.size (by omega) g5 HB1.out.1 HB1.out.2.1⟩
    have HLN := Lib.hid (show (heldo ++ b).length < nho + nd + 1 ∧ (heldo ++ b).length ≤ 1600 ∧ bdo.length ≤ 200 by rw [List.length_append, HL1.out.1, HL1.out.2.1, HL1.out.2.2]; omega)
    have HBY0 := Lib.hid HB1.out.2.2
    clear X5 g5 hw5 Y4 Z4 p0 p1 p2 p3 p4 pf X0 X1 X2 X3 X4 Y0 Y1 Y2 Y3 Z0 Z1 Z2 Z3 B0 B1 B2 B3 O3 O4 OH3 HK3 HDR HDL HDD HCP HRF HI HZ HZ1 HZ2 HS1 HS3 G4 HV4 HB1 HL1 hV0 q1
    go_wp2_with fail
    go_loopg [12] (nho + nd + 1) (fun gq ev wr => ∃ (held : List Int) (fl : List Fld) (bg : Bool) (bd : List Int) (Ah Af Ab : Option Addr) (nh ch nf cf nb cb : Nat), Hid (feedN t fin gq ⟨held, fl, bg, bd, false⟩ = R) ∧ Hid (held.length < gq ∧ held.length ≤ 1600 ∧ bd.length ≤ 200) ∧ Hid (Byt bd) ∧ wr.heap[W.heap.size]? = some (.cells #[.slice Ah nh ch, .slice Af nf cf, .bool bg, .slice Ab nb cb, .bool false] 25 (0, 0)) ∧ Hid (FK W (.cells #[.slice Ah nh ch, .slice Af nf cf, .bool bg, .slice Ab nb cb, .bool false] 25 (0, 0)) (.cells #[.int .i64 room, .int .i64 put, .slice At nt ct] 27 (0, 0)) (.cells #[.slice none 0 0, .slice none 0 0, .bool false, .slice none 0 0, .bool false] 25 (0, 0)) (.slice Ah nh ch) (.slice Af nf cf) (.slice Ab nb cb) ⟨held, fl, bg, bd, false⟩ wr))
    case atStart => exact ⟨heldo ++ b, flo, bgo, bdo, A4, A3, A5, nho + nd, c4, nfo, c3, nbo, c5, HRR0, HLN, HBY0, FK5.out.x, FK5⟩
    case round =>
      clear HRR0 HLN HBY0 FK5
      obtain ⟨held, fl, bg, bd, Ah, Af, Ab, nh, ch, nf, cf, nb, cb, HRR, HLN, HBY, hz9, FKr⟩ := hrel
      clear hz9
      obtain ⟨g, rfl⟩ : ∃ g, gk = g + 1 := ⟨gk - 1, by have := HLN.out.1; omega⟩
      have hlh : held.length = nh := by obtain ⟨_, _, e, _⟩ := FKr.out.r.h.ex; cases e; rfl
      by_cases hend : nh = 0
      · subst hend
        obtain rfl : held = [] := List.eq_nil_of_length_eq_zero hlh
        have e1 : decide ((0 : Int) < ((0 : Nat) : Int)) = false := rfl
        clear hlh
        cases fin with
        | false =>
          obtain rfl : R = (⟨[], fl, bg, bd, false⟩, 0) := by rw [← HRR.out, feedN_nil rfl, if_neg (by simp)]
          obtain ⟨x0, x1, x2, x3, x4⟩ := bk5T FKr.out.x
          have xf := fun i => bk_frz FKr.out.x i
          go_upto_region 18 with fail
          have X9 : (wr.setCell ⟨W.heap.size, 4, none⟩ (.bool false)).heap[W.heap.size]? = some (.cells #[.slice Ah 0 ch, .slice Af nf cf, .bool bg, .slice Ab nb cb, .bool false] 25 (0, 0)) := by simpa using bk_set FKr.out.x 4 (.bool false)
          have g9 := gr_set wr W.heap.size 4 (.bool false)
          obtain ⟨w9, hw9⟩ : ∃ q, wr.setCell ⟨W.heap.size, 4, none⟩ (.bool false) = q := ⟨_, rfl⟩
          rw [hw9] at X9 g9 ⊢
          have FK9 : Hid (FK W _ _ _ _ _ _ (⟨[], fl, bg, bd, false⟩ : Rd) w9) := Lib.hid (FKr.out.set plain5 (below_gr (Below.refl _ _) none) (fun k hk => by cases hk) ⟨FKr.out.r.h, FKr.out.r.f, FKr.out.r.b, FKr.out.r.nh, FKr.out.r.nf⟩ X9 g9)
          clear X9 g9 hw9 x0 x1 x2 x3 x4 xf
          obtain ⟨x0, x1, x2, x3, x4⟩ := bk5T FK9.out.x
          have xf := fun i => bk_frz FK9.out.x i
          obtain ⟨z0, z1, z2, z3, z4⟩ := bk5T FK9.out.z
          have zf := fun i => bk_frz FK9.out.z i
          go_wp2_with fail
          obtain ⟨k1, gp⟩ := bk5_blk FK9.out.z (.slice Ah 0 ch) (.slice Af nf cf) (.bool bg) (.slice Ab nb cb) (.bool false)
          obtain ⟨r0, r1, r2, r3, r4⟩ := bk5T k1
          refine bodyPost_ret (by simp [results, Try.results6, go_sem, r0, r1, r2, r3, r4]; try rfl) rfl ?_
          have hfin := FK9.out.fin plain5 gp HBY.out
          exact ⟨hfin.1, _, rfl, hfin.2⟩
        | true =>
          cases hbg : bg with
          | false =>
            subst hbg
            obtain rfl : R = (rd0, 4) := by rw [← HRR.out, feedN_nil rfl, if_pos ⟨rfl, rfl⟩]
            obtain ⟨x0, x1, x2, x3, x4⟩ := bk5T FKr.out.x
            have xf := fun i => bk_frz FKr.out.x i
            obtain ⟨z0, z1, z2, z3, z4⟩ := bk5T FKr.out.z
            have zf := fun i => bk_frz FKr.out.z i
            go_wp2_with fail
            obtain ⟨k1, gp⟩ := bk5_blk FKr.out.z (.slice none 0 0) (.slice none 0 0) (.bool false) (.slice none 0 0) (.bool false)
            obtain ⟨r0, r1, r2, r3, r4⟩ := bk5T k1
            refine bodyPost_ret (by simp [results, Try.results6, go_sem, r0, r1, r2, r3, r4]; try rfl) rfl ?_
            exact ⟨gr_from FKr.out.b FKr.out.b.size (by omega) gp, _, rfl, RdVal.zero _⟩
          | true =>
            subst hbg
            obtain rfl : R = (⟨[], fl, true, bd, true⟩, 0) := by rw [← HRR.out, feedN_nil rfl, if_neg (by simp)]
            obtain ⟨x0, x1, x2, x3, x4⟩ := bk5T FKr.out.x
            have xf := fun i => bk_frz FKr.out.x i
            go_upto_region 18 with fail
            have X9 : (wr.setCell ⟨W.heap.size, 4, none⟩ (.bool true)).heap[W.heap.size]? = some (.cells #[.slice Ah 0 ch, .slice Af nf cf, .bool true, .slice Ab nb cb, .bool true] 25 (0, 0)) := by simpa using bk_set FKr.out.x 4 (.bool true)
            have g9 := gr_set wr W.heap.size 4 (.bool true)
            obtain ⟨w9, hw9⟩ : ∃ q, wr.setCell ⟨W.heap.size, 4, none⟩ (.bool true) = q := ⟨_, rfl⟩
            rw [hw9] at X9 g9 ⊢
            have FK9 : Hid (FK W _ _ _ _ _ _ (⟨[], fl, true, bd, true⟩ : Rd) w9) := Lib.hid (FKr.out.set plain5 (below_gr (Below.refl _ _) none) (fun k hk => by cases hk) ⟨FKr.out.r.h, FKr.out.r.f, FKr.out.r.b, FKr.out.r.nh, FKr.out.r.nf⟩ X9 g9)
            clear X9 g9 hw9 x0 x1 x2 x3 x4 xf
            obtain ⟨x0, x1, x2, x3, x4⟩ := bk5T FK9.out.x
            have xf := fun i => bk_frz FK9.out.x i
            obtain ⟨z0, z1, z2, z3, z4⟩ := bk5T FK9.out.z
            have zf := fun i => bk_frz FK9.out.z i
            go_wp2_with fail
            obtain ⟨k1, gp⟩ := bk5_blk FK9.out.z (.slice Ah 0 ch) (.slice Af nf cf) (.bool true) (.slice Ab nb cb) (.bool true)
            obtain ⟨r0, r1, r2, r3, r4⟩ := bk5T k1
            refine bodyPost_ret (by simp [results, Try.results6, go_sem, r0, r1, r2, r3, r4]; try rfl) rfl ?_
            have hfin := FK9.out.fin plain5 gp HBY.out
            exact ⟨hfin.1, _, rfl, hfin.2⟩
      · have HNE := Lib.hid (show held ≠ [] from fun e => hend (by rw [← hlh, e]; rfl))
        have e1 : decide ((0 : Int) < (nh : Int)) = true := by simp; omega
        have e1n : decide (0 < nh) = true := by simp; omega
        have e1p : 0 < nh := by omega
        have HFI := Lib.hid (fun w (hB : Below wr.heap.size wr w) => first_all (.slice Ab nb cb) Ah nh ch held w (bsl_onF FKr.out.r.h hB) FKr.out.r.nh)
        have HDL := Lib.hid (firstR_dat held)
        obtain ⟨⟨p, y⟩, hp⟩ : ∃ q, firstR held = q := ⟨_, rfl⟩
        rw [hp] at HFI HDL
        dsimp only at HFI HDL
        have HP := Lib.hid hp
        clear hp hlh hend
        obtain ⟨x0, x1, x2, x3, x4⟩ := bk5T FKr.out.x
        have xf := fun i => bk_frz FKr.out.x i
        go_upto_region 7 with fail
        go_wp2_with fail
        refine (HFI.out _ (Below.refl _ _)).mono ?_
        clear x0 x1 x2 x3 x4 xf
        rintro e w9 ⟨b9, v9, rfl, Ap, np, cp, Aq, nq, cq, rfl, hd9, hr9, hn9⟩
        have B9 := Lib.hid b9
        have HD8 := Lib.hid hd9
        have HR8 := Lib.hid hr9
        have HN9 := Lib.hid hn9
        clear b9 hd9 hr9 hn9
        go_upto_region 8 with fail
        have k1 := heap_alloc_new w9 (.cells #[.int .i64 p.kind, .slice Ap np cp, .slice Aq nq cq] 49)
        have BA := (Below.refl w9.heap.size w9).alloc (Nat.le_refl _) (.cells #[.int .i64 p.kind, .slice Ap np cp, .slice Aq nq cq] 49)
        obtain ⟨w4, hw4⟩ : ∃ q, w9.alloc (.cells #[.int .i64 p.kind, .slice Ap np cp, .slice Aq nq cq] 49) = q := ⟨_, rfl⟩
        rw [hw4] at k1 BA ⊢
        have HQ := Lib.hid k1
        have HD9 := Lib.hid (bsl_onF HD8.out BA)
        have HR9 := Lib.hid (bsl_onF HR8.out BA)
        have FKQ := Lib.hid (FKr.out.gr (below_gr (B9.out.trans (BA.mono B9.out.size)) none))
        clear k1 BA hw4 HD8 HR8 HFI FKr
        by_cases hy : y = 0
        · subst hy
          have HBS := Lib.hid (show W.heap.size + 3 ≤ w4.heap.size by have := lt_of_block FKQ.out.z; omega)
          have HPD := Lib.hid (show np ≤ 10000 by have h1 := HDL.out; have h2 : p.dat.length = np := (by obtain ⟨_, _, e, _⟩ := HD9.out.ex; cases e; rfl); omega)
          have HT := Lib.hid (take_any (W.heap.size + 3) Ah Af Ab Ap Aq nh ch nf cf nb cb np cp nq cq bg false fl bd _ t p w4 HBS.out (HVT.out _ FKQ.out.b) HWT.out FKQ.out.r.f FKQ.out.r.b FKQ.out.r.nf HD9.out HR9.out HN9.out (by have := HLN.out; omega) HPD.out)
          have HLS := Lib.hid (firstR_less (b := held) (by rw [HP.out]))
          have HTL := Lib.hid (fun h => takeR_le (t := t) (fl := fl) (bg := bg) (bd := bd) (p := p) h HLN.out.2.2)
          have HTB := Lib.hid (takeR_byt (t := t) (fl := fl) (bg := bg) (bd := bd) (p := p) HBY.out (by obtain ⟨_, _, _, _, _, _, h⟩ := HD9.out.ex; exact h.1))
          rw [HP.out] at HLS
          obtain ⟨⟨⟨fl2, bg2, bd2⟩, y2⟩, hR2⟩ : ∃ q, takeR t fl bg bd p = q := ⟨_, rfl⟩
          have HTK := Lib.hid hR2
          rw [hR2] at HT HTL HTB
          unfold TakePost at HT
          dsimp only at HT HTL HTB HLS
          clear hR2
          have e4 : ((0 : Int) == 4) = false := rfl
          have e5 : ((0 : Int) != 0) = false := rfl
          obtain ⟨x0, x1, x2, x3, x4⟩ := bk5T FKQ.out.x
          have xf := fun i => bk_frz FKQ.out.x i
          obtain ⟨y0, y1, y3⟩ := bk3T FKQ.out.y
          obtain ⟨q0, q1, q2⟩ := bk3T HQ.out
          by_cases c0 : y2 = 0
          · subst c0
            simp only [if_true] at HT
            have HRN := Lib.hid (show feedN t fin g ⟨p.rest, fl2, bg2, bd2, false⟩ = R by rw [← HRR.out, feedN_step HNE.out (by dsimp only; rw [HP.out]) (by dsimp only; rw [HP.out]; dsimp only; rw [HTK.out])]; dsimp only; rw [HP.out]; dsimp only; rw [HTK.out])
            have HLN2 := Lib.hid (show p.rest.length < g ∧ p.rest.length ≤ 1600 ∧ bd2.length ≤ 200 by have h1 := HLN.out; have h2 := HTL.out rfl; have h3 := HLS.out; omega)
            go_wp2_with fail
            refine (HT.out).mono ?_
            clear x0 x1 x2 x3 x4 xf y0 y1 y3 q0 q1 q2
            rintro e w6 ⟨Ah2, nh2, ch2, Af2, nf2, cf2, Ab2, nb2, cb2, rfl, r6, g6⟩
            have X6 := Lib.hid ((g6.block _ (lt_of_block FKQ.out.x) (fun e => by have := (FKQ.out.r.b.lt _ e.symm).1; omega)).trans FKQ.out.x)
            have R6 := Lib.hid r6
            have G6 := Lib.hid g6
            clear r6 g6
            obtain ⟨x0, x1, x2, x3, x4⟩ := bk5T X6.out
            have xf := fun i => bk_frz X6.out i
            go_upto_region 13 with fail
            obtain ⟨k1, g7⟩ := bk5_blk X6.out (.slice Ah2 nh2 ch2) (.slice Af2 nf2 cf2) (.bool bg2) (.slice Ab2 nb2 cb2) (.bool false)
            obtain ⟨w7, hw7⟩ : ∃ q, ((((w6.setCell ⟨W.heap.size, 0, none⟩ (.slice Ah2 nh2 ch2)).setCell ⟨W.heap.size, 1, none⟩ (.slice Af2 nf2 cf2)).setCell ⟨W.heap.size, 2, none⟩ (.bool bg2)).setCell ⟨W.heap.size, 3, none⟩ (.slice Ab2 nb2 cb2)).setCell ⟨W.heap.size, 4, none⟩ (.bool false) = q := ⟨_, rfl⟩
            rw [hw7] at k1 g7 ⊢
            have FK7 := Lib.hid (FKQ.out.set plain5 G6.out (fun k hk => (FKQ.out.r.b.lt k hk).1) R6.out k1 g7)
            clear k1 g7 hw7 x0 x1 x2 x3 x4 xf X6 R6 G6 FKQ HQ HT
            go_wp2_with fail
            go_roundg g
            case measure => omega
            case rel => exact ⟨p.rest, fl2, bg2, bd2, Ah2, Af2, Ab2, nh2, ch2, nf2, cf2, nb2, cb2, HRN, HLN2, HTB, FK7.out.x, FK7⟩
          · by_cases c14 : y2 = 14
            · subst c14
              simp only [c0, if_false, if_true] at HT
              obtain rfl : R = (⟨held, fl, bg, bd, false⟩, 14) := by rw [← HRR.out, feedN_wait HNE.out (by dsimp only; rw [HP.out]) (by dsimp only; rw [HP.out]; dsimp only; rw [HTK.out])]
              go_wp2_with fail
              refine (HT.out).mono ?_
              clear x0 x1 x2 x3 x4 xf y0 y1 y3 q0 q1 q2
              rintro e w6 ⟨rfl, b6⟩
              have FK6 := Lib.hid (FKQ.out.gr (below_gr b6 none))
              clear b6
              obtain ⟨x0, x1, x2, x3, x4⟩ := bk5T FK6.out.x
              have xf := fun i => bk_frz FK6.out.x i
              go_upto_region 13 with fail
              obtain ⟨k1, g7⟩ := bk5_blk FK6.out.x (.slice Ah nh ch) (.slice Af nf cf) (.bool bg) (.slice Ab nb cb) (.bool false)
              obtain ⟨w7, hw7⟩ : ∃ q, ((((w6.setCell ⟨W.heap.size, 0, none⟩ (.slice Ah nh ch)).setCell ⟨W.heap.size, 1, none⟩ (.slice Af nf cf)).setCell ⟨W.heap.size, 2, none⟩ (.bool bg)).setCell ⟨W.heap.size, 3, none⟩ (.slice Ab nb cb)).setCell ⟨W.heap.size, 4, none⟩ (.bool false) = q := ⟨_, rfl⟩
              rw [hw7] at k1 g7 ⊢
              have FK7 := Lib.hid (FK6.out.set plain5 (below_gr (Below.refl _ _) none) (fun k hk => by cases hk) FK6.out.r k1 g7)
              clear k1 g7 hw7 x0 x1 x2 x3 x4 xf FKQ FK6 HQ HT
              obtain ⟨x0, x1, x2, x3, x4⟩ := bk5T FK7.out.x
              have xf := fun i => bk_frz FK7.out.x i
              obtain ⟨z0, z1, z2, z3, z4⟩ := bk5T FK7.out.z
              have zf := fun i => bk_frz FK7.out.z i
              go_wp2_with fail
              obtain ⟨k1, gp⟩ := bk5_blk FK7.out.z (.slice Ah nh ch) (.slice Af nf cf) (.bool bg) (.slice Ab nb cb) (.bool false)
              obtain ⟨r0, r1, r2, r3, r4⟩ := bk5T k1
              refine bodyPost_ret (by simp [results, Try.results6, go_sem, r0, r1, r2, r3, r4]; try rfl) rfl ?_
              have hfin := FK7.out.fin plain5 gp HBY.out
              exact ⟨hfin.1, _, rfl, hfin.2⟩
            · simp only [c0, c14, if_false] at HT
              unfold zrd at HT
              obtain rfl : R = (rd0, y2) := by rw [← HRR.out, feedN_bad HNE.out (by dsimp only; rw [HP.out]) (by dsimp only; rw [HP.out]; dsimp only; rw [HTK.out]; exact c14) (by dsimp only; rw [HP.out]; dsimp only; rw [HTK.out]; exact c0)]; dsimp only; rw [HP.out]; dsimp only; rw [HTK.out]
              have e6 : (y2 != 0) = true := by simp [c0]
              go_wp2_with fail
              refine (HT.out).mono ?_
              clear x0 x1 x2 x3 x4 xf y0 y1 y3 q0 q1 q2
              rintro e w6 ⟨rfl, b6⟩
              have FK6 := Lib.hid (FKQ.out.gr (below_gr b6 none))
              clear b6
              obtain ⟨x0, x1, x2, x3, x4⟩ := bk5T FK6.out.x
              have xf := fun i => bk_frz FK6.out.x i
              go_upto_region 13 with fail
              obtain ⟨k1, g7⟩ := bk5_blk FK6.out.x (.slice none 0 0) (.slice none 0 0) (.bool false) (.slice none 0 0) (.bool false)
              obtain ⟨w7, hw7⟩ : ∃ q, ((((w6.setCell ⟨W.heap.size, 0, none⟩ (.slice none 0 0)).setCell ⟨W.heap.size, 1, none⟩ (.slice none 0 0)).setCell ⟨W.heap.size, 2, none⟩ (.bool false)).setCell ⟨W.heap.size, 3, none⟩ (.slice none 0 0)).setCell ⟨W.heap.size, 4, none⟩ (.bool false) = q := ⟨_, rfl⟩
              rw [hw7] at k1 g7 ⊢
              have X7 := Lib.hid k1
              have Z7 := Lib.hid ((g7.block _ (lt_of_block FK6.out.z) (by simp; omega)).trans FK6.out.z)
              have B7 := Lib.hid (gr_from FK6.out.b FK6.out.b.size (Nat.le_refl _) g7)
              clear k1 g7 hw7 x0 x1 x2 x3 x4 xf FKQ FK6 HQ HT
              obtain ⟨x0, x1, x2, x3, x4⟩ := bk5T X7.out
              obtain ⟨z0, z1, z2, z3, z4⟩ := bk5T Z7.out
              have zf := fun i => bk_frz Z7.out i
              go_wp2_with fail
              obtain ⟨k1, gp⟩ := bk5_blk Z7.out (.slice none 0 0) (.slice none 0 0) (.bool false) (.slice none 0 0) (.bool false)
              obtain ⟨r0, r1, r2, r3, r4⟩ := bk5T k1
              refine bodyPost_ret (by simp [results, Try.results6, go_sem, r0, r1, r2, r3, r4]; try rfl) rfl ?_
              exact ⟨gr_from B7.out B7.out.size (by omega) gp, _, rfl, RdVal.zero _⟩
        ·   by_cases h4 : y = 4 ∧ fin = false
            · obtain ⟨rfl, rfl⟩ := h4
              obtain rfl : R = (⟨held, fl, bg, bd, false⟩, 0) := by rw [← HRR.out, feedN_short HNE.out (by dsimp only; rw [HP.out])]
              obtain ⟨x0, x1, x2, x3, x4⟩ := bk5T FKQ.out.x
              have xf := fun i => bk_frz FKQ.out.x i
              obtain ⟨z0, z1, z2, z3, z4⟩ := bk5T FKQ.out.z
              have zf := fun i => bk_frz FKQ.out.z i
              clear hy
              go_wp2_with fail
              obtain ⟨k1, gp⟩ := bk5_blk FKQ.out.z (.slice Ah nh ch) (.slice Af nf cf) (.bool bg) (.slice Ab nb cb) (.bool false)
              obtain ⟨r0, r1, r2, r3, r4⟩ := bk5T k1
              refine bodyPost_ret (by simp [results, Try.results6, go_sem, r0, r1, r2, r3, r4]; try rfl) rfl ?_
              have hfin := FKQ.out.fin plain5 gp HBY.out
              exact ⟨hfin.1, _, rfl, hfin.2⟩
            · obtain rfl : R = (rd0, y) := by rw [← HRR.out, feedN_err HNE.out (by dsimp only; rw [HP.out]; exact hy) (by dsimp only; rw [HP.out]; cases fin; exact .inl (fun e => h4 ⟨e, rfl⟩); exact .inr rfl), HP.out]
              have e5 : (y != 0) = true := by simp [hy]
              obtain ⟨x0, x1, x2, x3, x4⟩ := bk5T FKQ.out.x
              have xf := fun i => bk_frz FKQ.out.x i
              obtain ⟨z0, z1, z2, z3, z4⟩ := bk5T FKQ.out.z
              have zf := fun i => bk_frz FKQ.out.z i
              by_cases hy4 : y = 4
              · subst hy4
                obtain rfl : fin = true := by cases fin; exact absurd ⟨rfl, rfl⟩ h4; rfl
                clear hy h4
                go_wp2_with fail
                obtain ⟨k1, gp⟩ := bk5_blk FKQ.out.z (.slice none 0 0) (.slice none 0 0) (.bool false) (.slice none 0 0) (.bool false)
                obtain ⟨r0, r1, r2, r3, r4⟩ := bk5T k1
                refine bodyPost_ret (by simp [results, Try.results6, go_sem, r0, r1, r2, r3, r4]; try rfl) rfl ?_
                exact ⟨gr_from FKQ.out.b FKQ.out.b.size (by omega) gp, _, rfl, RdVal.zero _⟩
              · have e4 : (y == 4) = false := by simp [hy4]
                clear hy h4
                go_wp2_with fail
                obtain ⟨k1, gp⟩ := bk5_blk FKQ.out.z (.slice none 0 0) (.slice none 0 0) (.bool false) (.slice none 0 0) (.bool false)
                obtain ⟨r0, r1, r2, r3, r4⟩ := bk5T k1
                refine bodyPost_ret (by simp [results, Try.results6, go_sem, r0, r1, r2, r3, r4]; try rfl) rfl ?_
                exact ⟨gr_from FKQ.out.b FKQ.out.b.size (by omega) gp, _, rfl, RdVal.zero _⟩
end Go.Proofs.Ytpfahdogedchpaa
