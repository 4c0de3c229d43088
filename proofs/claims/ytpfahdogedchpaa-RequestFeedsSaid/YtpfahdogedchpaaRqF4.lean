/- The project's request: take. -/
import Derived.Test.YtpfahdogedchpaaGrpZi
namespace Go.Proofs.Ytpfahdogedchpaa
set_option linter.unusedVariables false
open Go.RowKit P

theorem four_bk (W : World) (a b c d : Array Value) (T1 T2 T3 T4 : TypeId) : ((((W.alloc (.cells a T1)).alloc (.cells b T2)).alloc (.cells c T3)).alloc (.cells d T4)).heap[W.heap.size]? = some (.cells a T1 (0, 0)) ∧ ((((W.alloc (.cells a T1)).alloc (.cells b T2)).alloc (.cells c T3)).alloc (.cells d T4)).heap[W.heap.size + 1]? = some (.cells b T2 (0, 0)) ∧ ((((W.alloc (.cells a T1)).alloc (.cells b T2)).alloc (.cells c T3)).alloc (.cells d T4)).heap[W.heap.size + 1 + 1]? = some (.cells c T3 (0, 0)) ∧ ((((W.alloc (.cells a T1)).alloc (.cells b T2)).alloc (.cells c T3)).alloc (.cells d T4)).heap[W.heap.size + 1 + 1 + 1]? = some (.cells d T4 (0, 0)) ∧ Below W.heap.size W ((((W.alloc (.cells a T1)).alloc (.cells b T2)).alloc (.cells c T3)).alloc (.cells d T4)) := by
  obtain ⟨h1, h2, h3, h4⟩ := two_bk3 W a b c T1 T2 T3
  have hs : (((W.alloc (.cells a T1)).alloc (.cells b T2)).alloc (.cells c T3)).heap.size = W.heap.size + 1 + 1 + 1 := by simp
  have h5 := heap_alloc_new (((W.alloc (.cells a T1)).alloc (.cells b T2)).alloc (.cells c T3)) (.cells d T4)
  rw [hs] at h5
  have q := (Below.refl (((W.alloc (.cells a T1)).alloc (.cells b T2)).alloc (.cells c T3)).heap.size (((W.alloc (.cells a T1)).alloc (.cells b T2)).alloc (.cells c T3))).alloc (Nat.le_refl _) (.cells d T4)
  exact ⟨(q.block _ (lt_of_block h1)).trans h1, (q.block _ (lt_of_block h2)).trans h2, (q.block _ (lt_of_block h3)).trans h3, h5, h4.trans (q.mono h4.size)⟩
/-- a reader in memory: its Body lies in a row of its own -/
structure RdI (base : Nat) (w : World) (hs fs bs : Value) (r : Rd) : Prop where
  h : BSl w w.heap.size hs r.held
  f : FSl w w.heap.size fs r.flds
  b : w.ownsRow base 5 1 bs r.body.length (r.body.map (.int .u8))
  nh : NotIn bs hs
  nf : NotIn bs fs
/-- what take answers -/
def TakePost (base : Nat) (hs fs bs : Value) (bg en : Bool) (R : (List Fld × Bool × List Int) × Int) (rest : List Int) (W : World) (e : Ending) (w' : World) : Prop :=
  if R.2 = 0 then ∃ Ah nh ch Af nf cf Ab nb cb, e = .returned (.tuple #[.agg #[.slice Ah nh ch, .slice Af nf cf, .bool R.1.2.1, .slice Ab nb cb, .bool en], .int .i64 0]) ∧ RdI base w' (.slice Ah nh ch) (.slice Af nf cf) (.slice Ab nb cb) ⟨rest, R.1.1, R.1.2.1, R.1.2.2, en⟩ ∧ W.grownBy w' bs.ownBlock
  else if R.2 = 14 then e = .returned (.tuple #[.agg #[hs, fs, .bool bg, bs, .bool en], .int .i64 14]) ∧ Below W.heap.size W w'
  else e = .returned (.tuple #[.agg zrd, .int .i64 R.2]) ∧ Below W.heap.size W w'
set_option maxRecDepth 100000 in
set_option maxHeartbeats 8000000 in
theorem take_any (base : Nat) (Ah Af Ab Ad Ar : Option Addr) (nh ch nf cf nb cb nd cd nr cr : Nat) (bg en : Bool) (fl : List Fld) (bd : List Int) (tv : Value) (t : Tb) (p : Prt) (W : World) (hbase : base ≤ W.heap.size) (hv : TbVal W W.heap.size tv t) (hw : TbWf t)
    (hf : FSl W W.heap.size (.slice Af nf cf) fl) (ho : W.ownsRow base 5 1 (.slice Ab nb cb) bd.length (bd.map (.int .u8))) (hnf : NotIn (.slice Ab nb cb) (.slice Af nf cf)) (hd : BSl W W.heap.size (.slice Ad nd cd) p.dat) (hr : BSl W W.heap.size (.slice Ar nr cr) p.rest) (hnr : NotIn (.slice Ab nb cb) (.slice Ar nr cr)) (hbl : bd.length ≤ 10000) (hdl : nd ≤ 10000) :
    Calls Try.prog 22 #[.agg #[.slice Ah nh ch, .slice Af nf cf, .bool bg, .slice Ab nb cb, .bool en], tv, .agg #[.int .i64 p.kind, .slice Ad nd cd, .slice Ar nr cr]] W (TakePost base (.slice Ah nh ch) (.slice Af nf cf) (.slice Ab nb cb) bg en (takeR t fl bg bd p) p.rest W) := by
  have hnd : p.dat.length = nd := by obtain ⟨_, _, e, _⟩ := hd.ex; cases e; rfl
  have HB := Lib.hid (fun w (b : Below W.heap.size W w) => begin_any Ah Af Ab nh ch nf cf nb cb bg en tv t Ad nd cd p.dat w (hv.on b) hw (bsl_onF hd b) (by omega))
  have HG := Lib.hid (fun w (b : Below W.heap.size W w) => goOn_any Ah Af nh ch nf cf bg en base (.slice Ab nb cb) bd Ad nd cd p.dat w (ho.kept (below_gr b none) (none_or _)) (Nat.le_trans hbase b.size) hbl (bsl_onF hd b) hdl)
  have HF := Lib.hid hf
  have HO := Lib.hid ho
  have HNF := Lib.hid hnf
  have HR := Lib.hid hr
  have HNR := Lib.hid hnr
  have HBA := Lib.hid hbase
  obtain ⟨At, nt, ct, room, put, rfl, hv'⟩ := tb_partsR hv
  obtain ⟨kd, dat, rest⟩ := p
  dsimp only at *
  obtain ⟨g1, g2, g3, g4, g5⟩ := four_bk W #[.slice Ah nh ch, .slice Af nf cf, .bool bg, .slice Ab nb cb, .bool en] #[.int .i64 room, .int .i64 put, .slice At nt ct] #[.int .i64 kd, .slice Ad nd cd, .slice Ar nr cr] zrd 25 27 49 25
  have X0 := Lib.hid g1
  have Y0 := Lib.hid g2
  have P0 := Lib.hid g3
  have Z0 := Lib.hid g4
  have B0 := Lib.hid g5
  obtain ⟨V0, hV0⟩ : ∃ V, (((W.alloc (.cells #[.slice Ah nh ch, .slice Af nf cf, .bool bg, .slice Ab nb cb, .bool en] 25)).alloc (.cells #[.int .i64 room, .int .i64 put, .slice At nt ct] 27)).alloc (.cells #[.int .i64 kd, .slice Ad nd cd, .slice Ar nr cr] 49)).alloc (.cells zrd 25) = V := ⟨_, rfl⟩
  rw [hV0] at X0 Y0 P0 Z0 B0
  unfold zrd at hV0 Z0
  have HLT := Lib.hid (fun k (hk : (Value.slice Ab nb cb).ownBlock = some k) => (HO.out.lt k hk).2)
  clear hv hw hf ho hnf hd hr hnr hbl hdl hbase hv' g1 g2 g3 g4 g5 hnd
  obtain ⟨R, hR⟩ : ∃ R, takeR t fl bg bd ⟨kd, dat, rest⟩ = R := ⟨_, rfl⟩
  rw [hR]
  unfold takeR at hR
  dsimp only at hR
  unfold TakePost
  by_cases hk1 : kd = 1
  · subst hk1
    rw [if_pos rfl] at hR
    cases bg with
    | true =>
      rw [if_pos rfl] at hR
      subst hR
      simp only [if_true] at HB
      go_enter Try.func22, Try.ntmps22
      obtain ⟨x0, x1, x2, x3, x4⟩ := bk5T X0.out
      obtain ⟨y0, y1, y2⟩ := bk3T Y0.out
      obtain ⟨p0, p1, p2⟩ := bk3T P0.out
      go_wp2_with fail
      refine (HB.out _ B0.out).mono ?_
      clear x0 x1 x2 x3 x4 y0 y1 y2 p0 p1 p2
      rintro e w1 ⟨b1, rfl⟩
      have X1 := Lib.hid ((b1.block _ (lt_of_block X0.out)).trans X0.out)
      have P1 := Lib.hid ((b1.block _ (lt_of_block P0.out)).trans P0.out)
      have Z1 := Lib.hid ((b1.block _ (lt_of_block Z0.out)).trans Z0.out)
      have B1 := Lib.hid (B0.out.trans (b1.mono B0.out.size))
      clear b1
      obtain ⟨x0, x1, x2, x3, x4⟩ := bk5T X1.out
      have xf := fun i => bk_frz X1.out i
      go_upto_region 7 with fail
      obtain ⟨k1, g1⟩ := bk5_blk X1.out (.slice none 0 0) (.slice none 0 0) (.bool false) (.slice none 0 0) (.bool false)
      obtain ⟨w2, hw2⟩ : ∃ q, ((((w1.setCell ⟨W.heap.size, 0, none⟩ (.slice none 0 0)).setCell ⟨W.heap.size, 1, none⟩ (.slice none 0 0)).setCell ⟨W.heap.size, 2, none⟩ (.bool false)).setCell ⟨W.heap.size, 3, none⟩ (.slice none 0 0)).setCell ⟨W.heap.size, 4, none⟩ (.bool false) = q := ⟨_, rfl⟩
      rw [hw2] at k1 g1 ⊢
      have X2 := Lib.hid k1
      have P2 := Lib.hid ((g1.block _ (lt_of_block P1.out) (by simp; omega)).trans P1.out)
      have Z2 := Lib.hid ((g1.block _ (lt_of_block Z1.out) (by simp; omega)).trans Z1.out)
      have G2 := Lib.hid g1
      clear k1 g1 hw2 x0 x1 x2 x3 x4 xf
      obtain ⟨x0, x1, x2, x3, x4⟩ := bk5T X2.out
      have xf := fun i => bk_frz X2.out i
      obtain ⟨p0, p1, p2⟩ := bk3T P2.out
      obtain ⟨z0, z1, z2, z3, z4⟩ := bk5T Z2.out
      have zf := fun i => bk_frz Z2.out i
      go_wp2_with fail
      obtain ⟨k1, gp⟩ := bk5_blk Z2.out (.slice none 0 0) (.slice none 0 0) (.bool false) (.slice none 0 0) (.bool false)
      obtain ⟨r0, r1, r2, r3, r4⟩ := bk5T k1
      refine bodyPost_ret (by simp [results, Try.results22, go_sem, r0, r1, r2, r3, r4]; try rfl) rfl ?_
      exact ⟨rfl, gr_from (gr_from B1.out B1.out.size (Nat.le_refl _) G2.out) (gr_from B1.out B1.out.size (Nat.le_refl _) G2.out).size (by omega) gp⟩
    | false =>
      rw [if_neg (by decide)] at hR
      simp only [Bool.false_eq_true, if_false] at HB
      obtain ⟨⟨l, y⟩, hy⟩ : ∃ r, decFl t dat = r := ⟨_, rfl⟩
      rw [hy] at HB hR
      dsimp only at HB hR
      by_cases h14 : y = 14
      · subst h14
        rw [if_pos rfl] at hR
        subst hR
        simp only [if_true] at HB
        go_enter Try.func22, Try.ntmps22
        obtain ⟨x0, x1, x2, x3, x4⟩ := bk5T X0.out
        obtain ⟨y0, y1, y2⟩ := bk3T Y0.out
        obtain ⟨p0, p1, p2⟩ := bk3T P0.out
        go_wp2_with fail
        refine (HB.out _ B0.out).mono ?_
        clear x0 x1 x2 x3 x4 y0 y1 y2 p0 p1 p2
        rintro e w1 ⟨b1, rfl⟩
        have X1 := Lib.hid ((b1.block _ (lt_of_block X0.out)).trans X0.out)
        have P1 := Lib.hid ((b1.block _ (lt_of_block P0.out)).trans P0.out)
        have Z1 := Lib.hid ((b1.block _ (lt_of_block Z0.out)).trans Z0.out)
        have B1 := Lib.hid (B0.out.trans (b1.mono B0.out.size))
        clear b1
        obtain ⟨x0, x1, x2, x3, x4⟩ := bk5T X1.out
        have xf := fun i => bk_frz X1.out i
        go_upto_region 7 with fail
        obtain ⟨k1, g1⟩ := bk5_blk X1.out (.slice Ah nh ch) (.slice Af nf cf) (.bool false) (.slice Ab nb cb) (.bool en)
        obtain ⟨w2, hw2⟩ : ∃ q, ((((w1.setCell ⟨W.heap.size, 0, none⟩ (.slice Ah nh ch)).setCell ⟨W.heap.size, 1, none⟩ (.slice Af nf cf)).setCell ⟨W.heap.size, 2, none⟩ (.bool false)).setCell ⟨W.heap.size, 3, none⟩ (.slice Ab nb cb)).setCell ⟨W.heap.size, 4, none⟩ (.bool en) = q := ⟨_, rfl⟩
        rw [hw2] at k1 g1 ⊢
        have X2 := Lib.hid k1
        have P2 := Lib.hid ((g1.block _ (lt_of_block P1.out) (by simp; omega)).trans P1.out)
        have Z2 := Lib.hid ((g1.block _ (lt_of_block Z1.out) (by simp; omega)).trans Z1.out)
        have G2 := Lib.hid g1
        clear k1 g1 hw2 x0 x1 x2 x3 x4 xf
        obtain ⟨x0, x1, x2, x3, x4⟩ := bk5T X2.out
        have xf := fun i => bk_frz X2.out i
        obtain ⟨p0, p1, p2⟩ := bk3T P2.out
        obtain ⟨z0, z1, z2, z3, z4⟩ := bk5T Z2.out
        have zf := fun i => bk_frz Z2.out i
        go_wp2_with fail
        obtain ⟨k1, gp⟩ := bk5_blk Z2.out (.slice Ah nh ch) (.slice Af nf cf) (.bool false) (.slice Ab nb cb) (.bool en)
        obtain ⟨r0, r1, r2, r3, r4⟩ := bk5T k1
        refine bodyPost_ret (by simp [results, Try.results22, go_sem, r0, r1, r2, r3, r4]; try rfl) rfl ?_
        exact ⟨rfl, gr_from (gr_from B1.out B1.out.size (Nat.le_refl _) G2.out) (gr_from B1.out B1.out.size (Nat.le_refl _) G2.out).size (by omega) gp⟩
      · rw [if_neg h14] at hR
        simp only [h14, if_false] at HB
        by_cases h0 : y = 0
        · subst h0
          rw [if_neg (fun k => k rfl)] at hR
          simp only [ne_eq, not_true_eq_false, if_false] at HB
          have hfc := faultRq_cases l
          obtain ⟨f, hff⟩ : ∃ f, faultRq l = f := ⟨_, rfl⟩
          rw [hff] at HB hfc hR
          clear hff
          by_cases hf0 : f = 0
          · subst hf0
            rw [if_neg (fun k => k rfl)] at hR
            subst hR
            simp only [not_true_eq_false, if_false] at HB
            go_enter Try.func22, Try.ntmps22
            obtain ⟨x0, x1, x2, x3, x4⟩ := bk5T X0.out
            obtain ⟨y0, y1, y2⟩ := bk3T Y0.out
            obtain ⟨p0, p1, p2⟩ := bk3T P0.out
            go_wp2_with fail
            refine (HB.out _ B0.out).mono ?_
            clear x0 x1 x2 x3 x4 y0 y1 y2 p0 p1 p2
            rintro e w1 ⟨b1, fs', rfl, o1⟩
            obtain ⟨A1, c1, rfl, hl1, hm1, r1⟩ := o1.slice
            have X1 := Lib.hid ((b1.block _ (lt_of_block X0.out)).trans X0.out)
            have P1 := Lib.hid ((b1.block _ (lt_of_block P0.out)).trans P0.out)
            have Z1 := Lib.hid ((b1.block _ (lt_of_block Z0.out)).trans Z0.out)
            have B1 := Lib.hid (B0.out.trans (b1.mono B0.out.size))
            have F1 := Lib.hid (fsl_own o1)
            have HA1 := Lib.hid (fun k hk => (OwnE.lt o1 k hk).1)
            have HV0 := Lib.hid (lt_of_block Z0.out)
            clear b1 o1 r1 hl1 hm1
            obtain ⟨x0, x1, x2, x3, x4⟩ := bk5T X1.out
            have xf := fun i => bk_frz X1.out i
            go_upto_region 7 with fail
            obtain ⟨k1, g1⟩ := bk5_blk X1.out (.slice Ah nh ch) (.slice A1 l.length c1) (.bool true) (.slice Ab nb cb) (.bool en)
            obtain ⟨w2, hw2⟩ : ∃ q, ((((w1.setCell ⟨W.heap.size, 0, none⟩ (.slice Ah nh ch)).setCell ⟨W.heap.size, 1, none⟩ (.slice A1 l.length c1)).setCell ⟨W.heap.size, 2, none⟩ (.bool true)).setCell ⟨W.heap.size, 3, none⟩ (.slice Ab nb cb)).setCell ⟨W.heap.size, 4, none⟩ (.bool en) = q := ⟨_, rfl⟩
            rw [hw2] at k1 g1 ⊢
            have X2 := Lib.hid k1
            have P2 := Lib.hid ((g1.block _ (lt_of_block P1.out) (by simp; omega)).trans P1.out)
            have Z2 := Lib.hid ((g1.block _ (lt_of_block Z1.out) (by simp; omega)).trans Z1.out)
            have F2 := Lib.hid (F1.out.kb g1 (fun k hk b off sp n c e hn => by
              cases hk
              injection e with e
              have := HA1.out b (by rw [e]; rfl)
              have := HV0.out
              omega))
            have G2 := Lib.hid (gr_new (below_gr B1.out (Value.slice Ab nb cb).ownBlock) g1 (Nat.le_refl _))
            have O2 := Lib.hid ((HO.out.kept (below_gr B1.out none) (none_or _)).kept g1 (.inr (fun e => by have := HLT.out _ e; omega)))
            clear k1 g1 hw2 x0 x1 x2 x3 x4 xf
            have NF := Lib.hid (show NotIn (.slice Ab nb cb) (.slice A1 l.length c1) from fun g hg b off sp n c e hn h => by
              injection e with e
              have := HA1.out b (by rw [e]; rfl)
              have := HV0.out
              have := HLT.out g hg
              omega)
            obtain ⟨x0, x1, x2, x3, x4⟩ := bk5T X2.out
            have xf := fun i => bk_frz X2.out i
            obtain ⟨p0, p1, p2⟩ := bk3T P2.out
            go_upto_region 9 with fail
            have X3 : (w2.setCell ⟨W.heap.size, 0, none⟩ (.slice Ar nr cr)).heap[W.heap.size]? = some (.cells #[.slice Ar nr cr, .slice A1 l.length c1, .bool true, .slice Ab nb cb, .bool en] 25 (0, 0)) := by simpa using bk_set X2.out 0 (.slice Ar nr cr)
            have g3 := gr_set w2 W.heap.size 0 (.slice Ar nr cr)
            obtain ⟨w3, hw3⟩ : ∃ q, w2.setCell ⟨W.heap.size, 0, none⟩ (.slice Ar nr cr) = q := ⟨_, rfl⟩
            rw [hw3] at X3 g3 ⊢
            have Z3 := Lib.hid ((g3.block _ (lt_of_block Z2.out) (by simp; omega)).trans Z2.out)
            have G3 := Lib.hid (gr_new G2.out g3 (Nat.le_refl _))
            clear x0 x1 x2 x3 x4 xf p0 p1 p2 hw3
            obtain ⟨x0, x1, x2, x3, x4⟩ := bk5T X3
            obtain ⟨z0, z1, z2, z3, z4⟩ := bk5T Z3.out
            have zf := fun i => bk_frz Z3.out i
            go_wp2_with fail
            obtain ⟨k1, gp⟩ := bk5_blk Z3.out (.slice Ar nr cr) (.slice A1 l.length c1) (.bool true) (.slice Ab nb cb) (.bool en)
            obtain ⟨r0, r1, r2, r3, r4⟩ := bk5T k1
            refine bodyPost_ret (by simp [results, Try.results22, go_sem, r0, r1, r2, r3, r4]; try rfl) rfl ?_
            have G4 := gr_new G3.out gp (by omega)
            try rw [if_pos rfl]
            refine ⟨_, _, _, _, _, _, _, _, _, rfl, ?_, G4⟩
            refine ⟨HR.out.kb G4 (HNR.out), ?_, ?_, HNR.out, NF.out⟩
            · exact (F2.out.kb g3 (fun k hk b off sp n c e hn => by
                cases hk
                injection e with e
                have := HA1.out b (by rw [e]; rfl)
                have := HV0.out
                omega)).kb gp (fun k hk b off sp n c e hn => by
                cases hk
                injection e with e
                have := HA1.out b (by rw [e]; rfl)
                have := HV0.out
                omega)
            · exact (O2.out.kept g3 (.inr (fun e => by have := HLT.out _ e; omega))).kept gp (.inr (fun e => by have := HLT.out _ e; omega))
          · rw [if_pos hf0] at hR
            subst hR
            simp only [hf0, not_false_eq_true, if_true] at HB
            have hfne : (f == 0) = false := by simp; exact hf0
            have hf14 : ¬ f = 14 := by omega
            go_enter Try.func22, Try.ntmps22
            obtain ⟨x0, x1, x2, x3, x4⟩ := bk5T X0.out
            obtain ⟨y0, y1, y2⟩ := bk3T Y0.out
            obtain ⟨p0, p1, p2⟩ := bk3T P0.out
            go_wp2_with fail
            refine (HB.out _ B0.out).mono ?_
            clear x0 x1 x2 x3 x4 y0 y1 y2 p0 p1 p2
            rintro e w1 ⟨b1, rfl⟩
            have X1 := Lib.hid ((b1.block _ (lt_of_block X0.out)).trans X0.out)
            have P1 := Lib.hid ((b1.block _ (lt_of_block P0.out)).trans P0.out)
            have Z1 := Lib.hid ((b1.block _ (lt_of_block Z0.out)).trans Z0.out)
            have B1 := Lib.hid (B0.out.trans (b1.mono B0.out.size))
            clear b1
            obtain ⟨x0, x1, x2, x3, x4⟩ := bk5T X1.out
            have xf := fun i => bk_frz X1.out i
            go_upto_region 7 with fail
            obtain ⟨k1, g1⟩ := bk5_blk X1.out (.slice none 0 0) (.slice none 0 0) (.bool false) (.slice none 0 0) (.bool false)
            obtain ⟨w2, hw2⟩ : ∃ q, ((((w1.setCell ⟨W.heap.size, 0, none⟩ (.slice none 0 0)).setCell ⟨W.heap.size, 1, none⟩ (.slice none 0 0)).setCell ⟨W.heap.size, 2, none⟩ (.bool false)).setCell ⟨W.heap.size, 3, none⟩ (.slice none 0 0)).setCell ⟨W.heap.size, 4, none⟩ (.bool false) = q := ⟨_, rfl⟩
            rw [hw2] at k1 g1 ⊢
            have X2 := Lib.hid k1
            have P2 := Lib.hid ((g1.block _ (lt_of_block P1.out) (by simp; omega)).trans P1.out)
            have Z2 := Lib.hid ((g1.block _ (lt_of_block Z1.out) (by simp; omega)).trans Z1.out)
            have G2 := Lib.hid g1
            clear k1 g1 hw2 x0 x1 x2 x3 x4 xf
            obtain ⟨x0, x1, x2, x3, x4⟩ := bk5T X2.out
            have xf := fun i => bk_frz X2.out i
            obtain ⟨p0, p1, p2⟩ := bk3T P2.out
            obtain ⟨z0, z1, z2, z3, z4⟩ := bk5T Z2.out
            have zf := fun i => bk_frz Z2.out i
            go_wp2_with fail
            obtain ⟨k1, gp⟩ := bk5_blk Z2.out (.slice none 0 0) (.slice none 0 0) (.bool false) (.slice none 0 0) (.bool false)
            obtain ⟨r0, r1, r2, r3, r4⟩ := bk5T k1
            refine bodyPost_ret (by simp [results, Try.results22, go_sem, r0, r1, r2, r3, r4]; try rfl) rfl ?_
            exact ⟨rfl, gr_from (gr_from B1.out B1.out.size (Nat.le_refl _) G2.out) (gr_from B1.out B1.out.size (Nat.le_refl _) G2.out).size (by omega) gp⟩
        · rw [if_pos h0] at hR
          subst hR
          simp only [ne_eq, h0, not_false_eq_true, if_true] at HB
          have hyne : (y == 0) = false := by simp; exact h0
          go_enter Try.func22, Try.ntmps22
          obtain ⟨x0, x1, x2, x3, x4⟩ := bk5T X0.out
          obtain ⟨y0, y1, y2⟩ := bk3T Y0.out
          obtain ⟨p0, p1, p2⟩ := bk3T P0.out
          go_wp2_with fail
          refine (HB.out _ B0.out).mono ?_
          clear x0 x1 x2 x3 x4 y0 y1 y2 p0 p1 p2
          rintro e w1 ⟨b1, rfl⟩
          have X1 := Lib.hid ((b1.block _ (lt_of_block X0.out)).trans X0.out)
          have P1 := Lib.hid ((b1.block _ (lt_of_block P0.out)).trans P0.out)
          have Z1 := Lib.hid ((b1.block _ (lt_of_block Z0.out)).trans Z0.out)
          have B1 := Lib.hid (B0.out.trans (b1.mono B0.out.size))
          clear b1
          obtain ⟨x0, x1, x2, x3, x4⟩ := bk5T X1.out
          have xf := fun i => bk_frz X1.out i
          go_upto_region 7 with fail
          obtain ⟨k1, g1⟩ := bk5_blk X1.out (.slice none 0 0) (.slice none 0 0) (.bool false) (.slice none 0 0) (.bool false)
          obtain ⟨w2, hw2⟩ : ∃ q, ((((w1.setCell ⟨W.heap.size, 0, none⟩ (.slice none 0 0)).setCell ⟨W.heap.size, 1, none⟩ (.slice none 0 0)).setCell ⟨W.heap.size, 2, none⟩ (.bool false)).setCell ⟨W.heap.size, 3, none⟩ (.slice none 0 0)).setCell ⟨W.heap.size, 4, none⟩ (.bool false) = q := ⟨_, rfl⟩
          rw [hw2] at k1 g1 ⊢
          have X2 := Lib.hid k1
          have P2 := Lib.hid ((g1.block _ (lt_of_block P1.out) (by simp; omega)).trans P1.out)
          have Z2 := Lib.hid ((g1.block _ (lt_of_block Z1.out) (by simp; omega)).trans Z1.out)
          have G2 := Lib.hid g1
          clear k1 g1 hw2 x0 x1 x2 x3 x4 xf
          obtain ⟨x0, x1, x2, x3, x4⟩ := bk5T X2.out
          have xf := fun i => bk_frz X2.out i
          obtain ⟨p0, p1, p2⟩ := bk3T P2.out
          obtain ⟨z0, z1, z2, z3, z4⟩ := bk5T Z2.out
          have zf := fun i => bk_frz Z2.out i
          go_wp2_with fail
          obtain ⟨k1, gp⟩ := bk5_blk Z2.out (.slice none 0 0) (.slice none 0 0) (.bool false) (.slice none 0 0) (.bool false)
          obtain ⟨r0, r1, r2, r3, r4⟩ := bk5T k1
          refine bodyPost_ret (by simp [results, Try.results22, go_sem, r0, r1, r2, r3, r4]; try rfl) rfl ?_
          exact ⟨rfl, gr_from (gr_from B1.out B1.out.size (Nat.le_refl _) G2.out) (gr_from B1.out B1.out.size (Nat.le_refl _) G2.out).size (by omega) gp⟩
  · rw [if_neg hk1] at hR
    have hk1b : (kd == 1) = false := by simp; exact hk1
    by_cases hk0 : kd = 0
    · subst hk0
      rw [if_pos rfl] at hR
      cases bg with
      | false =>
        rw [if_pos rfl] at hR
        subst hR
        simp only [if_true] at HG
        go_enter Try.func22, Try.ntmps22
        obtain ⟨x0, x1, x2, x3, x4⟩ := bk5T X0.out
        obtain ⟨p0, p1, p2⟩ := bk3T P0.out
        go_wp2_with fail
        refine (HG.out _ B0.out).mono ?_
        clear x0 x1 x2 x3 x4 p0 p1 p2
        rintro e w1 ⟨rfl, b1⟩
        have X1 := Lib.hid ((b1.block _ (lt_of_block X0.out)).trans X0.out)
        have P1 := Lib.hid ((b1.block _ (lt_of_block P0.out)).trans P0.out)
        have Z1 := Lib.hid ((b1.block _ (lt_of_block Z0.out)).trans Z0.out)
        have B1 := Lib.hid (B0.out.trans (b1.mono B0.out.size))
        clear b1
        obtain ⟨x0, x1, x2, x3, x4⟩ := bk5T X1.out
        have xf := fun i => bk_frz X1.out i
        go_upto_region 7 with fail
        obtain ⟨k1, g1⟩ := bk5_blk X1.out (.slice none 0 0) (.slice none 0 0) (.bool false) (.slice none 0 0) (.bool false)
        obtain ⟨w2, hw2⟩ : ∃ q, ((((w1.setCell ⟨W.heap.size, 0, none⟩ (.slice none 0 0)).setCell ⟨W.heap.size, 1, none⟩ (.slice none 0 0)).setCell ⟨W.heap.size, 2, none⟩ (.bool false)).setCell ⟨W.heap.size, 3, none⟩ (.slice none 0 0)).setCell ⟨W.heap.size, 4, none⟩ (.bool false) = q := ⟨_, rfl⟩
        rw [hw2] at k1 g1 ⊢
        have X2 := Lib.hid k1
        have P2 := Lib.hid ((g1.block _ (lt_of_block P1.out) (by simp; omega)).trans P1.out)
        have Z2 := Lib.hid ((g1.block _ (lt_of_block Z1.out) (by simp; omega)).trans Z1.out)
        have G2 := Lib.hid g1
        clear k1 g1 hw2 x0 x1 x2 x3 x4 xf
        obtain ⟨x0, x1, x2, x3, x4⟩ := bk5T X2.out
        have xf := fun i => bk_frz X2.out i
        obtain ⟨p0, p1, p2⟩ := bk3T P2.out
        obtain ⟨z0, z1, z2, z3, z4⟩ := bk5T Z2.out
        have zf := fun i => bk_frz Z2.out i
        go_wp2_with fail
        obtain ⟨k1, gp⟩ := bk5_blk Z2.out (.slice none 0 0) (.slice none 0 0) (.bool false) (.slice none 0 0) (.bool false)
        obtain ⟨r0, r1, r2, r3, r4⟩ := bk5T k1
        refine bodyPost_ret (by simp [results, Try.results22, go_sem, r0, r1, r2, r3, r4]; try rfl) rfl ?_
        exact ⟨rfl, gr_from (gr_from B1.out B1.out.size (Nat.le_refl _) G2.out) (gr_from B1.out B1.out.size (Nat.le_refl _) G2.out).size (by omega) gp⟩
      | true =>
        rw [if_neg (by decide)] at hR
        simp only [Bool.true_eq_false, if_false] at HG
        by_cases h2 : 200 < bd.length + dat.length
        · rw [if_pos h2] at hR
          subst hR
          simp only [h2, if_true] at HG
          go_enter Try.func22, Try.ntmps22
          obtain ⟨x0, x1, x2, x3, x4⟩ := bk5T X0.out
          obtain ⟨p0, p1, p2⟩ := bk3T P0.out
          go_wp2_with fail
          refine (HG.out _ B0.out).mono ?_
          clear x0 x1 x2 x3 x4 p0 p1 p2
          rintro e w1 ⟨rfl, b1⟩
          have X1 := Lib.hid ((b1.block _ (lt_of_block X0.out)).trans X0.out)
          have P1 := Lib.hid ((b1.block _ (lt_of_block P0.out)).trans P0.out)
          have Z1 := Lib.hid ((b1.block _ (lt_of_block Z0.out)).trans Z0.out)
          have B1 := Lib.hid (B0.out.trans (b1.mono B0.out.size))
          clear b1
          obtain ⟨x0, x1, x2, x3, x4⟩ := bk5T X1.out
          have xf := fun i => bk_frz X1.out i
          go_upto_region 7 with fail
          obtain ⟨k1, g1⟩ := bk5_blk X1.out (.slice none 0 0) (.slice none 0 0) (.bool false) (.slice none 0 0) (.bool false)
          obtain ⟨w2, hw2⟩ : ∃ q, ((((w1.setCell ⟨W.heap.size, 0, none⟩ (.slice none 0 0)).setCell ⟨W.heap.size, 1, none⟩ (.slice none 0 0)).setCell ⟨W.heap.size, 2, none⟩ (.bool false)).setCell ⟨W.heap.size, 3, none⟩ (.slice none 0 0)).setCell ⟨W.heap.size, 4, none⟩ (.bool false) = q := ⟨_, rfl⟩
          rw [hw2] at k1 g1 ⊢
          have X2 := Lib.hid k1
          have P2 := Lib.hid ((g1.block _ (lt_of_block P1.out) (by simp; omega)).trans P1.out)
          have Z2 := Lib.hid ((g1.block _ (lt_of_block Z1.out) (by simp; omega)).trans Z1.out)
          have G2 := Lib.hid g1
          clear k1 g1 hw2 x0 x1 x2 x3 x4 xf
          obtain ⟨x0, x1, x2, x3, x4⟩ := bk5T X2.out
          have xf := fun i => bk_frz X2.out i
          obtain ⟨p0, p1, p2⟩ := bk3T P2.out
          obtain ⟨z0, z1, z2, z3, z4⟩ := bk5T Z2.out
          have zf := fun i => bk_frz Z2.out i
          go_wp2_with fail
          obtain ⟨k1, gp⟩ := bk5_blk Z2.out (.slice none 0 0) (.slice none 0 0) (.bool false) (.slice none 0 0) (.bool false)
          obtain ⟨r0, r1, r2, r3, r4⟩ := bk5T k1
          refine bodyPost_ret (by simp [results, Try.results22, go_sem, r0, r1, r2, r3, r4]; try rfl) rfl ?_
          exact ⟨rfl, gr_from (gr_from B1.out B1.out.size (Nat.le_refl _) G2.out) (gr_from B1.out B1.out.size (Nat.le_refl _) G2.out).size (by omega) gp⟩
        · rw [if_neg h2] at hR
          subst hR
          simp only [h2, if_false] at HG
          go_enter Try.func22, Try.ntmps22
          obtain ⟨x0, x1, x2, x3, x4⟩ := bk5T X0.out
          obtain ⟨p0, p1, p2⟩ := bk3T P0.out
          go_wp2_with fail
          refine (HG.out _ B0.out).mono ?_
          clear x0 x1 x2 x3 x4 p0 p1 p2
          rintro e w1 ⟨bs', rfl, o1, g0, hbo⟩
          obtain ⟨A1, c1, rfl, _, _⟩ := own_slice o1
          rw [List.length_append] at o1 hbo ⊢
          have GG1 := Lib.hid (gr_trans (below_gr B0.out (Value.slice Ab nb cb).ownBlock) g0)
          have hbn : ∀ k, W.heap.size ≤ k → some k ≠ (Value.slice Ab nb cb).ownBlock := fun k hk e => by have := HLT.out k e.symm; omega
          have X1 := Lib.hid ((g0.block _ (lt_of_block X0.out) (hbn _ (Nat.le_refl _))).trans X0.out)
          have P1 := Lib.hid ((g0.block _ (lt_of_block P0.out) (hbn _ (by omega))).trans P0.out)
          have Z1 := Lib.hid ((g0.block _ (lt_of_block Z0.out) (hbn _ (by omega))).trans Z0.out)
          have HV0 := Lib.hid (lt_of_block Z0.out)
          have HVN := Lib.hid (show ∀ k, (Value.slice A1 (bd.length + dat.length) c1).ownBlock = some k → k < W.heap.size ∨ W.heap.size + 4 ≤ k from fun k hk => by
            rcases hbo with e | ⟨k', e, h'⟩
            · exact .inl (HLT.out k (e ▸ hk))
            · rw [e] at hk; cases hk; right; have := HV0.out; omega)
          have NN := Lib.hid (show ∀ s : Value, NotIn (.slice Ab nb cb) s → (∀ b off sp n c, s = .slice (some ⟨b, off, sp⟩) n c → 0 < n → b < W.heap.size) → NotIn (.slice A1 (bd.length + dat.length) c1) s from fun s h1 h2 g hg b off sp n c e hn => by
            rcases hbo with q | ⟨k', q, h'⟩
            · exact h1 g (q ▸ hg) b off sp n c e hn
            · rw [q] at hg
              cases hg
              have := h2 b off sp n c e hn
              have := HV0.out
              omega)
          have OO1 := Lib.hid o1
          clear o1 g0 hbo hbn
          obtain ⟨x0, x1, x2, x3, x4⟩ := bk5T X1.out
          have xf := fun i => bk_frz X1.out i
          go_upto_region 7 with fail
          obtain ⟨k1, g1⟩ := bk5_blk X1.out (.slice Ah nh ch) (.slice Af nf cf) (.bool true) (.slice A1 (bd.length + dat.length) c1) (.bool en)
          obtain ⟨w2, hw2⟩ : ∃ q, ((((w1.setCell ⟨W.heap.size, 0, none⟩ (.slice Ah nh ch)).setCell ⟨W.heap.size, 1, none⟩ (.slice Af nf cf)).setCell ⟨W.heap.size, 2, none⟩ (.bool true)).setCell ⟨W.heap.size, 3, none⟩ (.slice A1 (bd.length + dat.length) c1)).setCell ⟨W.heap.size, 4, none⟩ (.bool en) = q := ⟨_, rfl⟩
          rw [hw2] at k1 g1 ⊢
          have X2 := Lib.hid k1
          have P2 := Lib.hid ((g1.block _ (lt_of_block P1.out) (by simp; omega)).trans P1.out)
          have Z2 := Lib.hid ((g1.block _ (lt_of_block Z1.out) (by simp; omega)).trans Z1.out)
          have G2 := Lib.hid (gr_new GG1.out g1 (Nat.le_refl _))
          have O2 := Lib.hid (OO1.out.kept g1 (.inr (fun e => by have := HVN.out _ e; omega)))
          clear k1 g1 hw2 x0 x1 x2 x3 x4 xf
          obtain ⟨x0, x1, x2, x3, x4⟩ := bk5T X2.out
          have xf := fun i => bk_frz X2.out i
          obtain ⟨p0, p1, p2⟩ := bk3T P2.out
          go_upto_region 9 with fail
          have X3 : (w2.setCell ⟨W.heap.size, 0, none⟩ (.slice Ar nr cr)).heap[W.heap.size]? = some (.cells #[.slice Ar nr cr, .slice Af nf cf, .bool true, .slice A1 (bd.length + dat.length) c1, .bool en] 25 (0, 0)) := by simpa using bk_set X2.out 0 (.slice Ar nr cr)
          have g3 := gr_set w2 W.heap.size 0 (.slice Ar nr cr)
          obtain ⟨w3, hw3⟩ : ∃ q, w2.setCell ⟨W.heap.size, 0, none⟩ (.slice Ar nr cr) = q := ⟨_, rfl⟩
          rw [hw3] at X3 g3 ⊢
          have Z3 := Lib.hid ((g3.block _ (lt_of_block Z2.out) (by simp; omega)).trans Z2.out)
          have G3 := Lib.hid (gr_new G2.out g3 (Nat.le_refl _))
          clear x0 x1 x2 x3 x4 xf p0 p1 p2 hw3
          obtain ⟨x0, x1, x2, x3, x4⟩ := bk5T X3
          obtain ⟨z0, z1, z2, z3, z4⟩ := bk5T Z3.out
          have zf := fun i => bk_frz Z3.out i
          go_wp2_with fail
          obtain ⟨k1, gp⟩ := bk5_blk Z3.out (.slice Ar nr cr) (.slice Af nf cf) (.bool true) (.slice A1 (bd.length + dat.length) c1) (.bool en)
          obtain ⟨r0, r1, r2, r3, r4⟩ := bk5T k1
          refine bodyPost_ret (by simp [results, Try.results22, go_sem, r0, r1, r2, r3, r4]; try rfl) rfl ?_
          have G4 := gr_new G3.out gp (by omega)
          try rw [if_pos rfl]
          refine ⟨_, _, _, _, _, _, _, _, _, rfl, ?_, G4⟩
          refine ⟨HR.out.kb G4 HNR.out, HF.out.kb G4 HNF.out, ?_, NN.out _ HNR.out (fun b off sp n c e hn => by subst_vars; exact (e ▸ HR.out).lt hn), NN.out _ HNF.out (fun b off sp n c e hn => (e ▸ HF.out).lt hn)⟩
          have := (O2.out.kept g3 (.inr (fun e => by have := HVN.out _ e; omega))).kept gp (.inr (fun e => by have := HVN.out _ e; omega))
          first | exact this | (simp only [List.length_append]; exact this)
    · rw [if_neg hk0] at hR
      subst hR
      have hk0b : (kd == 0) = false := by simp; exact hk0
      go_enter Try.func22, Try.ntmps22
      obtain ⟨p0, p1, p2⟩ := bk3T P0.out
      go_upto_region 8 with fail
      obtain ⟨w2, hw2⟩ : ∃ q, q = V0 := ⟨_, rfl⟩
      subst hw2
      have X2 := X0
      have P2 := P0
      have Z2 := Z0
      have G2 := Lib.hid (below_gr B0.out (Value.slice Ab nb cb).ownBlock)
      have O2 := Lib.hid (HO.out.kept (below_gr B0.out none) (none_or _))
      clear p0 p1 p2
      obtain ⟨x0, x1, x2, x3, x4⟩ := bk5T X2.out
      have xf := fun i => bk_frz X2.out i
      obtain ⟨p0, p1, p2⟩ := bk3T P2.out
      go_upto_region 9 with fail
      have X3 : (w2.setCell ⟨W.heap.size, 0, none⟩ (.slice Ar nr cr)).heap[W.heap.size]? = some (.cells #[.slice Ar nr cr, .slice Af nf cf, .bool bg, .slice Ab nb cb, .bool en] 25 (0, 0)) := by simpa using bk_set X2.out 0 (.slice Ar nr cr)
      have g3 := gr_set w2 W.heap.size 0 (.slice Ar nr cr)
      obtain ⟨w3, hw3⟩ : ∃ q, w2.setCell ⟨W.heap.size, 0, none⟩ (.slice Ar nr cr) = q := ⟨_, rfl⟩
      rw [hw3] at X3 g3 ⊢
      have Z3 := Lib.hid ((g3.block _ (lt_of_block Z2.out) (by simp; omega)).trans Z2.out)
      have G3 := Lib.hid (gr_new G2.out g3 (Nat.le_refl _))
      clear x0 x1 x2 x3 x4 xf p0 p1 p2 hw3
      obtain ⟨x0, x1, x2, x3, x4⟩ := bk5T X3
      obtain ⟨z0, z1, z2, z3, z4⟩ := bk5T Z3.out
      have zf := fun i => bk_frz Z3.out i
      go_wp2_with fail
      obtain ⟨k1, gp⟩ := bk5_blk Z3.out (.slice Ar nr cr) (.slice Af nf cf) (.bool bg) (.slice Ab nb cb) (.bool en)
      obtain ⟨r0, r1, r2, r3, r4⟩ := bk5T k1
      refine bodyPost_ret (by simp [results, Try.results22, go_sem, r0, r1, r2, r3, r4]; try rfl) rfl ?_
      have G4 := gr_new G3.out gp (by omega)
      try rw [if_pos rfl]
      refine ⟨_, _, _, _, _, _, _, _, _, rfl, ?_, G4⟩
      refine ⟨HR.out.kb G4 HNR.out, HF.out.kb G4 HNF.out, ?_, HNR.out, HNF.out⟩
      exact (O2.out.kept g3 (.inr (fun e => by have := HLT.out _ e; omega))).kept gp (.inr (fun e => by have := HLT.out _ e; omega))
end Go.Proofs.Ytpfahdogedchpaa
