/- Several texts in one. -/
import Derived.Test.YtpfahdogedchpaaGrpC
import Derived.Test.YtpfahdogedchpaaRqF4
import Derived.Test.YtpfahdogedchpaaGrpH
/- Contract of bytes.Clone. -/
namespace Go.Proofs.Ytpfahdogedchpaa
set_option linter.unusedVariables false
open Go.RowKit P

theorem bclone_any (B : Nat) (v : Value) (zs : List Int) (w : World) (hB : B ≤ w.heap.size) (h : BSl w B v zs) (hm : zs.length ≤ 140737488355328) :
    Calls Try.prog 32 #[v] w fun e w' => ∃ u, e = .returned u ∧ w'.ownsRow w.heap.size 5 1 u zs.length (zs.map (.int .u8)) ∧ Below w.heap.size w w' := by
  obtain ⟨A, c, rfl, h1, h2, hn, h3⟩ := h.ex
  rcases A with _ | a
  · have e0 : zs = [] := by
      rcases Nat.eq_zero_or_pos zs.length with e | e
      · exact List.eq_nil_of_length_eq_zero e
      · obtain ⟨b, off, e, _⟩ := h3.2 e; cases e
    subst e0
    obtain rfl := hn rfl
    clear hn
    have hnil := fun w => Lib.run_eql_slice_nil (P := Try.prog) w 22 5 none 0 0 0 0 Try.underlying22
    go_enter Try.func32, Try.ntmps32
    go_wp2
    go_ret
    exact ⟨_, rfl, World.ownsRow_nil _ _ _ _, Below.refl _ _⟩
  · obtain ⟨i0, hi0, hz0, hz1, hz2⟩ := info_parts infoB1
    have HI := Lib.hid hi0
    have HZ := Lib.hid hz0
    have HZ1 := Lib.hid hz1
    have HZ2 := Lib.hid hz2
    have H3 := Lib.hid (h3.more hB)
    clear hi0 hz0 hz1 hz2 h3
    have hnil := fun w => Lib.run_eql_slice_nil (P := Try.prog) w 22 5 (some a) zs.length c 0 0 Try.underlying22
    go_enter Try.func32, Try.ntmps32
    go_wp2_with (first
      | (at_builtin
         refine wpList_app _ rfl (.tmp 5) (.tmp 6) _ rfl w.heap.size 5 i0 Try.underlying22 HI.out HZ.out HZ1.out HZ2.out (.slice (some ⟨w.heap.size, 0, none⟩) 0 0) 0 [] rfl (own_mtB w w.heap.size 5 (Nat.le_refl _)) w.heap.size (some a) zs.length c zs rfl (H3.out.below ((Below.refl w.heap.size w).alloc (Nat.le_refl _) (.cells #[] 5))) rfl (fun h => by cases h) (by omega) (by simp <;> omega) ?_
         intro v1 u1 own1 g1 _
         have O1 := Lib.hid own1
         have B1 := Lib.hid (((Below.refl w.heap.size w).alloc (Nat.le_refl _) (.cells #[] 5)).grown g1 (by simp <;> omega) (fun k hk => ((own_mtB w w.heap.size 5 (Nat.le_refl _)).lt k hk).1))
         clear own1 g1))
    go_ret
    exact ⟨_, rfl, by simpa using O1.out, B1.out⟩
end Go.Proofs.Ytpfahdogedchpaa
/- The project's request: copied. -/
namespace Go.Proofs.Ytpfahdogedchpaa.P
set_option linter.unusedVariables false
open Go.RowKit
theorem notIn_of {v s : Value} (h : ∀ k, v.ownBlock = some k → s.ownBlock ≠ some k) : NotIn v s := fun g hg b off sp n c e hn q => h g hg (by rw [e, ← q]; rfl)
end Go.Proofs.Ytpfahdogedchpaa.P
namespace Go.Proofs.Ytpfahdogedchpaa
set_option linter.unusedVariables false
open Go.RowKit P
theorem fcloneL_any (B : Nat) (A : Option Addr) (n c : Nat) (l : List Fld) (w : World) (hB : B ≤ w.heap.size) (h : RowE FdE w B A l) (hn : l.length = n) (hm : n ≤ 4398046510976) :
    Calls Try.prog 33 #[.slice A n c] w fun e w' => Below w.heap.size w w' ∧ ∃ v, e = .returned v ∧ OwnE FdE w' w.heap.size 66 v l := by
  rcases A with _ | a
  · have e0 : l = [] := by
      rcases Nat.eq_zero_or_pos l.length with e | e
      · exact List.eq_nil_of_length_eq_zero e
      · obtain ⟨b, off, e, _⟩ := h e; cases e
    subst e0
    have hnil := fun w => Lib.run_eql_slice_nil (P := Try.prog) w 23 66 none n c 0 0 Try.underlying23
    go_enter Try.func33, Try.ntmps33
    go_wp2
    go_ret
    exact ⟨Below.refl _ _, _, rfl, OwnE.nil _ _ _⟩
  · obtain ⟨i0, hi0, hz0, hz1, hz2⟩ := info_partsE infoFd
    have HI := Lib.hid hi0
    have HZ := Lib.hid hz0
    have HZ1 := Lib.hid hz1
    have HZ2 := Lib.hid hz2
    have H3 := Lib.hid (h.more hB)
    have HN := Lib.hid hn
    clear hi0 hz0 hz1 hz2 h hn
    have hnil := fun w => Lib.run_eql_slice_nil (P := Try.prog) w 23 66 (some a) n c 0 0 Try.underlying23
    have OE := Lib.hid (OwnE.empty (E := FdE) w w.heap.size 66 w.heap.size rfl (Nat.le_refl _))
    have BE := Lib.hid ((Below.refl w.heap.size w).alloc (Nat.le_refl _) (.cells #[] 66))
    go_enter Try.func33, Try.ntmps33
    go_wp2_with (first
      | (at_builtin
         refine wpList_appE _ rfl (.tmp 5) (.tmp 6) _ rfl w.heap.size 66 i0 (.agg #[.string ⟨#[]⟩, .string ⟨#[]⟩]) 32 Try.underlying23 HI.out HZ.out HZ1.out HZ2.out rfl (by decide) (.slice (some ⟨w.heap.size, 0, none⟩) 0 0) [] rfl OE.out w.heap.size (some a) n c l rfl (H3.out.below BE.out) HN.out (by simp only [List.length_nil]; omega) BE.out.size ?_
         intro v1 u1 own1 g1
         have O1 := Lib.hid own1
         have B1 := Lib.hid (BE.out.grown g1 BE.out.size (fun k hk => (OwnE.lt OE.out k hk).1))
         clear own1 g1))
    go_ret
    exact ⟨B1.out, _, rfl, by simpa using O1.out⟩
theorem fclone_use (A : Option Addr) (n c : Nat) (l : List Fld) (w : World) (h : FSl w w.heap.size (.slice A n c) l) (hm : n ≤ 4398046510976) :
    Calls Try.prog 33 #[.slice A n c] w fun e w' => Below w.heap.size w w' ∧ ∃ v, e = .returned v ∧ OwnE FdE w' w.heap.size 66 v l := by
  obtain ⟨A', c', e, h1, h2, h3⟩ := h.ex
  cases e
  exact fcloneL_any w.heap.size A l.length c l w (Nat.le_refl _) h3 rfl hm
/-- a reader's three slices own rows of their own -/
structure RdO (base : Nat) (w : World) (hs fs bs : Value) (r : Rd) : Prop where
  h : w.ownsRow base 5 1 hs r.held.length (r.held.map (.int .u8))
  f : OwnE FdE w base 66 fs r.flds
  b : w.ownsRow base 5 1 bs r.body.length (r.body.map (.int .u8))
  hf : ∀ k, hs.ownBlock = some k → fs.ownBlock ≠ some k
  hb : ∀ k, hs.ownBlock = some k → bs.ownBlock ≠ some k
  bf : ∀ k, bs.ownBlock = some k → fs.ownBlock ≠ some k
set_option maxRecDepth 100000 in
set_option maxHeartbeats 4000000 in
theorem copied_any (Ah Af Ab : Option Addr) (nh ch nf cf nb cb : Nat) (r : Rd) (W : World) (hh : BSl W W.heap.size (.slice Ah nh ch) r.held) (hf : FSl W W.heap.size (.slice Af nf cf) r.flds) (hb : BSl W W.heap.size (.slice Ab nb cb) r.body) (h1 : r.held.length ≤ 10000) (h2 : nf ≤ 4398046510976) (h3 : r.body.length ≤ 10000) :
    Calls Try.prog 20 #[.agg #[.slice Ah nh ch, .slice Af nf cf, .bool r.begun, .slice Ab nb cb, .bool r.ended]] W fun e w' => Below W.heap.size W w' ∧ ∃ Ah ch Af cf Ab cb, e = .returned (.agg #[.slice Ah r.held.length ch, .slice Af r.flds.length cf, .bool r.begun, .slice Ab r.body.length cb, .bool r.ended]) ∧ RdO (W.heap.size + 2) w' (.slice Ah r.held.length ch) (.slice Af r.flds.length cf) (.slice Ab r.body.length cb) r := by
  obtain ⟨held, fl, bg, bd, en⟩ := r
  dsimp only at *
  have HH := Lib.hid (fun w (b : Below W.heap.size W w) => bclone_any w.heap.size (.slice Ah nh ch) held w (Nat.le_refl _) (bsl_onF hh b) (by omega))
  have HB := Lib.hid (fun w (b : Below W.heap.size W w) => bclone_any w.heap.size (.slice Ab nb cb) bd w (Nat.le_refl _) (bsl_onF hb b) (by omega))
  have HF := Lib.hid (fun w (b : Below W.heap.size W w) => fclone_use Af nf cf fl w (hf.on b) h2)
  obtain ⟨g1, g2, g3⟩ := two_bk W #[.slice Ah nh ch, .slice Af nf cf, .bool bg, .slice Ab nb cb, .bool en] zrd 25 25
  have X0 := Lib.hid g1
  have Z0 := Lib.hid g2
  have B0 := Lib.hid g3
  obtain ⟨V0, hV0⟩ : ∃ V, (W.alloc (.cells #[.slice Ah nh ch, .slice Af nf cf, .bool bg, .slice Ab nb cb, .bool en] 25)).alloc (.cells zrd 25) = V := ⟨_, rfl⟩
  rw [hV0] at X0 Z0 B0
  unfold zrd at hV0 Z0
  have HZ0 := Lib.hid (lt_of_block Z0.out)
  obtain ⟨lh, hlh⟩ : ∃ n, held.length = n := ⟨_, rfl⟩
  obtain ⟨lf, hlf⟩ : ∃ n, fl.length = n := ⟨_, rfl⟩
  obtain ⟨lb, hlb⟩ : ∃ n, bd.length = n := ⟨_, rfl⟩
  have HLH := Lib.hid hlh
  have HLF := Lib.hid hlf
  have HLB := Lib.hid hlb
  rw [hlh] at HH
  rw [hlb] at HB
  rw [hlh, hlf, hlb]
  clear hh hf hb h1 h2 h3 g1 g2 g3 hlh hlf hlb
  obtain ⟨x0, x1, x2, x3, x4⟩ := bk5T X0.out
  go_enter Try.func20, Try.ntmps20
  go_wp2_with fail
  refine (HH.out _ B0.out).mono ?_
  clear x0 x1 x2 x3 x4
  rintro e w1 ⟨u1, rfl, o1, b1⟩
  obtain ⟨A1, c1, rfl, _, _⟩ := own_slice o1
  have X1 := (b1.block _ (lt_of_block X0.out)).trans X0.out
  have Z1 := (b1.block _ (lt_of_block Z0.out)).trans Z0.out
  have B1 := B0.out.trans (b1.mono B0.out.size)
  have xf := fun i => bk_frz X1 i
  have x0 := (bk5T X1).1
  have HK1 := Lib.hid (fun k hk => o1.lt k hk)
  go_upto_region 2 with fail
  have X2 : (w1.setCell ⟨W.heap.size, 0, none⟩ (.slice A1 lh c1)).heap[W.heap.size]? = some (.cells #[.slice A1 lh c1, .slice Af nf cf, .bool bg, .slice Ab nb cb, .bool en] 25 (0, 0)) := by simpa using bk_set X1 0 (.slice A1 lh c1)
  have g2 := gr_set w1 W.heap.size 0 (.slice A1 lh c1)
  obtain ⟨w2, hw2⟩ : ∃ q, w1.setCell ⟨W.heap.size, 0, none⟩ (.slice A1 lh c1) = q := ⟨_, rfl⟩
  rw [hw2] at X2 g2 ⊢
  have HX2 := Lib.hid X2
  have Z2 := Lib.hid ((g2.block _ (lt_of_block Z1) (by simp)).trans Z1)
  have B2 := Lib.hid (gr_from B1 B1.size (Nat.le_refl _) g2)
  have O2 := Lib.hid (o1.kept g2 (.inr (fun e => by have := (o1.lt _ e).1; have := HZ0.out; omega)))
  have HS2 := Lib.hid (show V0.heap.size ≤ w1.heap.size ∧ w1.heap.size ≤ w2.heap.size from ⟨b1.size, g2.size⟩)
  clear x0 xf X1 Z1 B1 b1 o1 hw2 g2 X2
  obtain ⟨x0, x1, x2, x3, x4⟩ := bk5T HX2.out
  go_wp2_with fail
  refine (HF.out _ B2.out).mono ?_
  clear x0 x1 x2 x3 x4
  rintro e w3 ⟨b3, u3, rfl, o3⟩
  obtain ⟨A3, c3, rfl, _, _, _⟩ := o3.slice
  have X3 := (b3.block _ (lt_of_block HX2.out)).trans HX2.out
  have Z3 := (b3.block _ (lt_of_block Z2.out)).trans Z2.out
  have B3 := B2.out.trans (b3.mono B2.out.size)
  have O3 := O2.out.kept (below_gr b3 none) (none_or _)
  have xf := fun i => bk_frz X3 i
  have x1 := (bk5T X3).2.1
  have HK3 := Lib.hid (fun k hk => OwnE.lt o3 k hk)
  rw [HLF.out] at o3 HK3 ⊢
  go_upto_region 3 with fail
  have X4 : (w3.setCell ⟨W.heap.size, 1, none⟩ (.slice A3 lf c3)).heap[W.heap.size]? = some (.cells #[.slice A1 lh c1, .slice A3 lf c3, .bool bg, .slice Ab nb cb, .bool en] 25 (0, 0)) := by simpa using bk_set X3 1 (.slice A3 lf c3)
  have g4 := gr_set w3 W.heap.size 1 (.slice A3 lf c3)
  obtain ⟨w4, hw4⟩ : ∃ q, w3.setCell ⟨W.heap.size, 1, none⟩ (.slice A3 lf c3) = q := ⟨_, rfl⟩
  rw [hw4] at X4 g4 ⊢
  have HX4 := Lib.hid X4
  have Z4 := Lib.hid ((g4.block _ (lt_of_block Z3) (by simp)).trans Z3)
  have B4 := Lib.hid (gr_from B3 B3.size (Nat.le_refl _) g4)
  have O4 := Lib.hid (O3.kept g4 (.inr (fun e => by have := (HK1.out _ e).1; have := HZ0.out; omega)))
  have F4 := Lib.hid (OwnE.kept o3 g4 (fun e => by have := (HK3.out _ e).1; have := HZ0.out; have := HS2.out; omega))
  have HS4 := Lib.hid (show w2.heap.size ≤ w3.heap.size ∧ w3.heap.size ≤ w4.heap.size from ⟨b3.size, g4.size⟩)
  clear x1 xf X3 Z3 B3 b3 o3 hw4 g4 X4 O3
  obtain ⟨x0, x1, x2, x3, x4⟩ := bk5T HX4.out
  go_wp2_with fail
  refine (HB.out _ B4.out).mono ?_
  clear x0 x1 x2 x3 x4
  rintro e w5 ⟨u5, rfl, o5, b5⟩
  obtain ⟨A5, c5, rfl, _, _⟩ := own_slice o5
  have X5 := (b5.block _ (lt_of_block HX4.out)).trans HX4.out
  have Z5 := (b5.block _ (lt_of_block Z4.out)).trans Z4.out
  have B5 := B4.out.trans (b5.mono B4.out.size)
  have O5 := O4.out.kept (below_gr b5 none) (none_or _)
  have F5 := OwnE.later F4.out b5
  have xf := fun i => bk_frz X5 i
  have x3 := (bk5T X5).2.2.2.1
  have HK5 := Lib.hid (fun k hk => o5.lt k hk)
  go_upto_region 4 with fail
  have X6 : (w5.setCell ⟨W.heap.size, 3, none⟩ (.slice A5 lb c5)).heap[W.heap.size]? = some (.cells #[.slice A1 lh c1, .slice A3 lf c3, .bool bg, .slice A5 lb c5, .bool en] 25 (0, 0)) := by simpa using bk_set X5 3 (.slice A5 lb c5)
  have g6 := gr_set w5 W.heap.size 3 (.slice A5 lb c5)
  obtain ⟨w6, hw6⟩ : ∃ q, w5.setCell ⟨W.heap.size, 3, none⟩ (.slice A5 lb c5) = q := ⟨_, rfl⟩
  rw [hw6] at X6 g6 ⊢
  have HX6 := Lib.hid X6
  have Z6 := Lib.hid ((g6.block _ (lt_of_block Z5) (by simp)).trans Z5)
  have B6 := Lib.hid (gr_from B5 B5.size (Nat.le_refl _) g6)
  have O6 := Lib.hid (O5.kept g6 (.inr (fun e => by have := (HK1.out _ e).1; have := HZ0.out; omega)))
  have F6 := Lib.hid (OwnE.kept F5 g6 (fun e => by have := (HK3.out _ e).1; have := HZ0.out; have := HS2.out; omega))
  have D6 := Lib.hid (o5.kept g6 (.inr (fun e => by have := (HK5.out _ e).1; have := HZ0.out; have := HS2.out; have := HS4.out; omega)))
  clear x3 xf X5 Z5 B5 b5 o5 hw6 g6 X6 O5 F5
  obtain ⟨x0, x1, x2, x3, x4⟩ := bk5T HX6.out
  obtain ⟨z0, z1, z2, z3, z4⟩ := bk5T Z6.out
  have zf := fun i => bk_frz Z6.out i
  go_wp2_with fail
  obtain ⟨k1, gp⟩ := bk5_blk Z6.out (.slice A1 lh c1) (.slice A3 lf c3) (.bool bg) (.slice A5 lb c5) (.bool en)
  obtain ⟨r0, r1, r2, r3, r4⟩ := bk5T k1
  refine bodyPost_ret (by simp [results, Try.results20, go_sem, r0, r1, r2, r3, r4]; try rfl) rfl ?_
  have hz := HZ0.out
  have s2 := HS2.out
  have s4 := HS4.out
  refine ⟨gr_from B6.out B6.out.size (by omega) gp, A1, c1, A3, c3, A5, c5, rfl, ⟨?_, ?_, ?_, fun k hk e => ?_, fun k hk e => ?_, fun k hk e => ?_⟩⟩
  · dsimp only
    rw [HLH.out]
    exact own_base (O6.out.kept gp (.inr (fun e => by have := (HK1.out _ e).1; omega))) (by omega)
  · exact (OwnE.kept F6.out gp (fun e => by have := (HK3.out _ e).1; omega)).low (by omega)
  · dsimp only
    rw [HLB.out]
    exact own_base (D6.out.kept gp (.inr (fun e => by have := (HK5.out _ e).1; omega))) (by omega)
  · have := (HK1.out k hk).2; have := (HK3.out k e).1; omega
  · have := (HK1.out k hk).2; have := (HK5.out k e).1; omega
  · have := (HK5.out k hk).1; have := (HK3.out k e).2; omega
end Go.Proofs.Ytpfahdogedchpaa
/- The project's readers of requests in memory: Feed's boxes. -/
namespace Go.Proofs.Ytpfahdogedchpaa.P
set_option linter.unusedVariables false
open Go.RowKit
/-! ## Mathematics -/
theorem firstR_dat (b : List Int) : (firstR b).1.dat.length ≤ 400 := by
  rcases firstR_way b with q | q | ⟨k, n, s, u, h1, h2, h3, h4, q⟩
  · rw [q]; exact Nat.zero_le _
  · rw [q]; exact Nat.zero_le _
  · rw [q]
    simp only [List.length_take]
    omega
theorem firstR_none {b : List Int} (h : (firstR b).2 ≠ 0) : (firstR b).1 = prt0 := by
  rcases firstR_way b with q | q | ⟨k, n, s, u, h1, h2, h3, h4, q⟩
  · rw [q]
  · rw [q]
  · rw [q] at h; exact absurd rfl h
theorem takeR_le {t : Tb} {fl : List Fld} {bg : Bool} {bd : List Int} {p : Prt} (h : (takeR t fl bg bd p).2 = 0) (hb : bd.length ≤ 200) : (takeR t fl bg bd p).1.2.2.length ≤ 200 := by
  unfold takeR at h ⊢
  by_cases h1 : p.kind = 1
  · rw [if_pos h1] at h ⊢
    by_cases h2 : bg = true
    · rw [if_pos h2]; exact Nat.zero_le _
    · rw [if_neg h2] at h ⊢
      by_cases h3 : (decFl t p.dat).2 = 14
      · rw [if_pos h3]; exact hb
      · rw [if_neg h3] at h ⊢
        by_cases h4 : (decFl t p.dat).2 ≠ 0
        · rw [if_pos h4]; exact Nat.zero_le _
        · rw [if_neg h4] at h ⊢
          by_cases h5 : faultRq (decFl t p.dat).1 ≠ 0
          · rw [if_pos h5]; exact Nat.zero_le _
          · rw [if_neg h5]; exact hb
  · rw [if_neg h1] at h ⊢
    by_cases h2 : p.kind = 0
    · rw [if_pos h2] at h ⊢
      by_cases h3 : bg = false
      · rw [if_pos h3]; exact Nat.zero_le _
      · rw [if_neg h3] at h ⊢
        by_cases h4 : 200 < bd.length + p.dat.length
        · rw [if_pos h4]; exact Nat.zero_le _
        · rw [if_neg h4]; simp only [List.length_append]; omega
    · rw [if_neg h2]; exact hb
theorem takeR_byt {t : Tb} {fl : List Fld} {bg : Bool} {bd : List Int} {p : Prt} (hb : Byt bd) (hp : Byt p.dat) : Byt (takeR t fl bg bd p).1.2.2 := by
  have h0 : Byt [] := Byt.nil
  unfold takeR
  split
  · split
    · exact h0
    · split
      · exact hb
      · split
        · exact h0
        · split
          · exact h0
          · exact hb
  · split
    · split
      · exact h0
      · split
        · exact h0
        · exact hb.append hp
    · exact hb
/-! ## Memory -/
/-- a number, a slice or a truth value -/
def Plain (u : Value) : Prop := (∃ z, u = .int .i64 z) ∨ (∃ A n c, u = .slice A n c) ∨ ∃ b, u = .bool b
theorem plain5 {A1 A2 A4 : Option Addr} {n1 c1 n2 c2 n4 c4 : Nat} {b3 b5 : Bool} (j : Nat) (u : Value) (h : (#[Value.slice A1 n1 c1, Value.slice A2 n2 c2, Value.bool b3, Value.slice A4 n4 c4, Value.bool b5] : Array Value)[j]? = some u) : Plain u := by
  rcases j with _ | _ | _ | _ | _ | j
  · cases h; exact .inr (.inl ⟨_, _, _, rfl⟩)
  · cases h; exact .inr (.inl ⟨_, _, _, rfl⟩)
  · cases h; exact .inr (.inr ⟨_, rfl⟩)
  · cases h; exact .inr (.inl ⟨_, _, _, rfl⟩)
  · cases h; exact .inr (.inr ⟨_, rfl⟩)
  · simp at h
theorem BSl.grX {w w' : World} {B : Nat} {v : Value} {zs : List Int} {k : Nat} {cs : Array Value} {T : TypeId} (h : BSl w B v zs) (hk : w.heap[k]? = some (.cells cs T (0, 0))) (hi : ∀ (j : Nat) (u : Value), cs[j]? = some u → Plain u) (g : w.grownBy w' (some k)) : BSl w' B v zs := by
  obtain ⟨A, cp, e, h1, h2, h3, h4⟩ := h.ex
  refine ⟨A, cp, e, h1, h2, h3, h4.1, fun hn => ?_⟩
  obtain ⟨b, off, e', hb, hc⟩ := h4.2 hn
  refine ⟨b, off, e', hb, fun j hj => g.cell (hc j hj) ?_⟩
  intro q
  cases q
  have := hc 0 hn
  rw [bk_cell hk] at this
  rcases hi _ _ this with ⟨z, hz⟩ | ⟨_, _, _, hz⟩ | ⟨_, hz⟩ <;> cases hz
theorem FSl.grX {w w' : World} {B : Nat} {v : Value} {l : List Fld} {k : Nat} {cs : Array Value} {T : TypeId} (h : FSl w B v l) (hk : w.heap[k]? = some (.cells cs T (0, 0))) (hi : ∀ (j : Nat) (u : Value), cs[j]? = some u → Plain u) (g : w.grownBy w' (some k)) : FSl w' B v l := by
  obtain ⟨A, cp, e, h1, h2, h3⟩ := h.ex
  refine ⟨A, cp, e, h1, h2, fun hn => ?_⟩
  obtain ⟨b, off, e', hb, hc⟩ := h3 hn
  refine ⟨b, off, e', hb, fun j u hj => g.cell (hc j u hj) ?_⟩
  intro q
  cases q
  have := RowE.at hc 0 0 hn (by decide)
  rw [bk_cell hk] at this
  rcases hi _ _ this with ⟨z, hz⟩ | ⟨_, _, _, hz⟩ | ⟨_, hz⟩ <;> cases hz
theorem bslN0 (w : World) (B : Nat) : BSl w B (.slice none 0 0) [] := ⟨none, 0, rfl, Nat.le_refl _, by unfold maxLen; omega, fun _ => rfl, BRow.nil _ _ _⟩
/-- v says a reader -/
structure RdVal (w : World) (v : Value) (r : Rd) : Prop where
  ex : ∃ Ah ch Af cf Ab cb, v = .agg #[.slice Ah r.held.length ch, .slice Af r.flds.length cf, .bool r.begun, .slice Ab r.body.length cb, .bool r.ended] ∧ BSl w w.heap.size (.slice Ah r.held.length ch) r.held ∧ FSl w w.heap.size (.slice Af r.flds.length cf) r.flds ∧ BSl w w.heap.size (.slice Ab r.body.length cb) r.body
theorem RdVal.zero (w : World) : RdVal w (.agg #[.slice none 0 0, .slice none 0 0, .bool false, .slice none 0 0, .bool false]) rd0 := ⟨none, 0, none, 0, none, 0, rfl, bslN0 _ _, ⟨none, 0, rfl, Nat.le_refl _, by unfold maxLen; omega, RowE.nil _ _ _⟩, bslN0 _ _⟩
end Go.Proofs.Ytpfahdogedchpaa.P
namespace Go.Proofs.Ytpfahdogedchpaa
set_option linter.unusedVariables false
open Go.RowKit P
theorem RdI.grX {base : Nat} {w w' : World} {hs fs bs : Value} {r : Rd} {k : Nat} {cs : Array Value} {T : TypeId} (h : RdI base w hs fs bs r) (hk : w.heap[k]? = some (.cells cs T (0, 0))) (hi : ∀ (j : Nat) (u : Value), cs[j]? = some u → Plain u) (g : w.grownBy w' (some k)) (hb : k < base) : RdI base w' hs fs bs r :=
  ⟨(h.h.grX hk hi g).more g.size, (h.f.grX hk hi g).more g.size, h.b.kept g (.inr (fun e => by have := (h.b.lt _ e).1; omega)), h.nh, h.nf⟩
theorem RdI.gr {base : Nat} {w w' : World} {hs fs bs : Value} {r : Rd} (h : RdI base w hs fs bs r) (g : w.grownBy w' none) : RdI base w' hs fs bs r :=
  ⟨h.h.kb g (fun k hk => by cases hk), h.f.kb g (fun k hk => by cases hk), h.b.kept g (none_or _), h.nh, h.nf⟩
theorem RdI.val {base : Nat} {w : World} {Ah Af Ab : Option Addr} {nh ch nf cf nb cb : Nat} {r : Rd} (h : RdI base w (.slice Ah nh ch) (.slice Af nf cf) (.slice Ab nb cb) r) (hb : Byt r.body) : RdVal w (.agg #[.slice Ah nh ch, .slice Af nf cf, .bool r.begun, .slice Ab nb cb, .bool r.ended]) r := by
  have e1 : r.held.length = nh := by obtain ⟨_, _, e, _⟩ := h.h.ex; cases e; rfl
  have e2 : r.flds.length = nf := by obtain ⟨_, _, e, _⟩ := h.f.ex; cases e; rfl
  have h3 := own_bsl h.b hb
  have e3 : r.body.length = nb := by obtain ⟨_, _, e, _⟩ := h3.ex; cases e; rfl
  subst e1 e2 e3
  exact ⟨Ah, ch, Af, cf, Ab, cb, rfl, h.h, h.f, h3⟩
/-- Feed's three boxes, and the reader in the first -/
structure FK (W : World) (oX oY oZ : Obj) (hs fs bs : Value) (r : Rd) (w : World) : Prop where
  x : w.heap[W.heap.size]? = some oX
  y : w.heap[W.heap.size + 1]? = some oY
  z : w.heap[W.heap.size + 1 + 1]? = some oZ
  b : Below W.heap.size W w
  r : RdI (W.heap.size + 3) w hs fs bs r
theorem FK.gr {W : World} {oX oY oZ : Obj} {hs fs bs : Value} {r : Rd} {w w' : World} (h : FK W oX oY oZ hs fs bs r w) (g : w.grownBy w' none) : FK W oX oY oZ hs fs bs r w' :=
  ⟨(g.block _ (lt_of_block h.x) (by simp)).trans h.x, (g.block _ (lt_of_block h.y) (by simp)).trans h.y, (g.block _ (lt_of_block h.z) (by simp)).trans h.z, h.b.grown g h.b.size (fun k e => by cases e), h.r.gr g⟩
/-- another reader is put into the first box -/
theorem FK.set {W : World} {oX' oY oZ : Obj} {hs fs bs hs' fs' bs' : Value} {r r' : Rd} {w w1 w2 : World} {cs : Array Value} {T : TypeId} {rr : Option Nat} (h : FK W (.cells cs T (0, 0)) oY oZ hs fs bs r w) (hi : ∀ (j : Nat) (u : Value), cs[j]? = some u → Plain u) (g1 : w.grownBy w1 rr) (hrr : ∀ k, rr = some k → W.heap.size + 3 ≤ k) (hr : RdI (W.heap.size + 3) w1 hs' fs' bs' r') (hx : w2.heap[W.heap.size]? = some oX') (g2 : w1.grownBy w2 (some W.heap.size)) : FK W oX' oY oZ hs' fs' bs' r' w2 := by
  have hx1 := (g1.block _ (lt_of_block h.x) (fun e => by have := hrr _ e.symm; omega)).trans h.x
  have hy1 := (g1.block _ (lt_of_block h.y) (fun e => by have := hrr _ e.symm; omega)).trans h.y
  have hz1 := (g1.block _ (lt_of_block h.z) (fun e => by have := hrr _ e.symm; omega)).trans h.z
  exact ⟨hx, (g2.block _ (lt_of_block hy1) (by simp)).trans hy1, (g2.block _ (lt_of_block hz1) (by simp; omega)).trans hz1, (h.b.grown g1 h.b.size (fun k e => by have := hrr k e; omega)).grown g2 (Nat.le_trans h.b.size g1.size) (fun k e => by cases e; exact Nat.le_refl _), hr.grX hx1 hi g2 (by omega)⟩
/-- the answer is put into the third box -/
theorem FK.fin {W : World} {oX oY : Obj} {Ah Af Ab : Option Addr} {nh ch nf cf nb cb : Nat} {r : Rd} {w w2 : World} {cs : Array Value} {T : TypeId} (h : FK W oX oY (.cells cs T (0, 0)) (.slice Ah nh ch) (.slice Af nf cf) (.slice Ab nb cb) r w) (hi : ∀ (j : Nat) (u : Value), cs[j]? = some u → Plain u) (g : w.grownBy w2 (some (W.heap.size + 1 + 1))) (hb : Byt r.body) : Below W.heap.size W w2 ∧ RdVal w2 (.agg #[.slice Ah nh ch, .slice Af nf cf, .bool r.begun, .slice Ab nb cb, .bool r.ended]) r :=
  ⟨h.b.grown g h.b.size (fun k e => by cases e; omega), (h.r.grX h.z hi g (by omega)).val hb⟩
/-- a frame in memory; its rest lies in no block that 'bv' owns -/
def PtVal (bv : Value) (w : World) (v : Value) (p : Prt) : Prop := ∃ A1 n1 c1 A2 n2 c2, v = .agg #[.int .i64 p.kind, .slice A1 n1 c1, .slice A2 n2 c2] ∧ BSl w w.heap.size (.slice A1 n1 c1) p.dat ∧ BSl w w.heap.size (.slice A2 n2 c2) p.rest ∧ NotIn bv (.slice A2 n2 c2)
theorem PtVal.on {bv : Value} {w w' : World} {v : Value} {p : Prt} (h : PtVal bv w v p) (b : Below w.heap.size w w') : PtVal bv w' v p := by
  obtain ⟨A1, n1, c1, A2, n2, c2, e, h1, h2, h3⟩ := h
  exact ⟨A1, n1, c1, A2, n2, c2, e, bsl_onF h1 b, bsl_onF h2 b, h3⟩
theorem first_all (bv : Value) (A : Option Addr) (n c : Nat) (b : List Int) (W : World) (hb : BSl W W.heap.size (.slice A n c) b) (hn : NotIn bv (.slice A n c)) :
    Calls Try.prog 21 #[.slice A n c] W fun e w' => Below W.heap.size W w' ∧ ∃ u, e = .returned (.tuple #[u, .int .i64 (firstR b).2]) ∧ PtVal bv w' u (firstR b).1 := by
  refine (first_any A n c b W hb).mono ?_
  rintro e w' ⟨b1, h⟩
  refine ⟨b1, ?_⟩
  by_cases h0 : (firstR b).2 = 0
  · rw [if_pos h0] at h
    obtain ⟨A1, n1, c1, A2, n2, c2, rfl, h1, h2, h3⟩ := h
    rw [h0]
    exact ⟨_, rfl, A1, n1, c1, A2, n2, c2, rfl, h1, h2, h3 bv hn⟩
  · rw [if_neg h0] at h
    subst h
    rw [firstR_none h0]
    exact ⟨_, rfl, none, 0, 0, none, 0, 0, rfl, bslN0 _ _, bslN0 _ _, fun g hg b off sp n c e => by cases e⟩
end Go.Proofs.Ytpfahdogedchpaa
