/- Contract of package space: copied. -/
import Derived.Test.YtnccibaifffhhaaGrpSd
import Derived.Test.YtnccibaifffhhaaGrpSc
import Derived.Test.YtnccibaifffhhaaGrpC
import Derived.Deep.CutRange
namespace Go.Proofs.Ytnccibaifffhhaa
set_option linter.unusedVariables false
open Go.RowKit P

theorem sp5 {w : World} {b : Nat} {a0 a1 a2 a3 a4 : Value} {T : TypeId} (h : w.heap[b]? = some (.cells #[a0, a1, a2, a3, a4] T (0, 0))) :
    w.cell? ⟨b, 0, none⟩ = some a0 ∧ w.cell? ⟨b, 1, none⟩ = some a1 ∧ w.cell? ⟨b, 2, none⟩ = some a2 ∧ w.cell? ⟨b, 3, none⟩ = some a3 ∧ w.cell? ⟨b, 4, none⟩ = some a4 := ⟨bk_cell h 0, bk_cell h 1, bk_cell h 2, bk_cell h 3, bk_cell h 4⟩
theorem sp5_put {w : World} {b : Nat} {a0 a1 a2 a3 a4 : Value} {T : TypeId} (h : w.heap[b]? = some (.cells #[a0, a1, a2, a3, a4] T (0, 0))) (v0 v1 v2 v3 v4 : Value) :
    (((((w.setCell ⟨b, 0, none⟩ v0).setCell ⟨b, 1, none⟩ v1).setCell ⟨b, 2, none⟩ v2).setCell ⟨b, 3, none⟩ v3).setCell ⟨b, 4, none⟩ v4).heap[b]? = some (.cells #[v0, v1, v2, v3, v4] T (0, 0)) ∧
    w.grownBy (((((w.setCell ⟨b, 0, none⟩ v0).setCell ⟨b, 1, none⟩ v1).setCell ⟨b, 2, none⟩ v2).setCell ⟨b, 3, none⟩ v3).setCell ⟨b, 4, none⟩ v4) (some b) :=
  let k := setAll_full h [v0, v1, v2, v3, v4] rfl
  ⟨k.1, k.2.2⟩
theorem sp5_set {w : World} {b : Nat} {a0 a1 a2 a3 a4 : Value} {T : TypeId} (h : w.heap[b]? = some (.cells #[a0, a1, a2, a3, a4] T (0, 0))) (v : Value) :
    (w.setCell ⟨b, 0, none⟩ v).heap[b]? = some (.cells #[v, a1, a2, a3, a4] T (0, 0)) ∧ (w.setCell ⟨b, 1, none⟩ v).heap[b]? = some (.cells #[a0, v, a2, a3, a4] T (0, 0)) ∧ (w.setCell ⟨b, 2, none⟩ v).heap[b]? = some (.cells #[a0, a1, v, a3, a4] T (0, 0)) ∧ (w.setCell ⟨b, 3, none⟩ v).heap[b]? = some (.cells #[a0, a1, a2, v, a4] T (0, 0)) ∧ (w.setCell ⟨b, 4, none⟩ v).heap[b]? = some (.cells #[a0, a1, a2, a3, v] T (0, 0)) :=
  ⟨by simpa using bk_set h 0 v, by simpa using bk_set h 1 v, by simpa using bk_set h 2 v, by simpa using bk_set h 3 v, by simpa using bk_set h 4 v⟩
/-- frames in new memory, as a slice of so many -/
def FsN (w : World) (lo : Nat) (v : Value) (n : Nat) (fs : List Fr) : Prop := ∃ A c, v = .slice A n c ∧ FsU lo w v fs
theorem FsN.later {w w' : World} {lo n : Nat} {v : Value} {fs : List Fr} (h : FsN w lo v n fs) (b : Below w.heap.size w w') : FsN w' lo v n fs := by
  obtain ⟨A, c, e, h⟩ := h
  exact ⟨A, c, e, StS.later h b⟩
theorem FsN.low {w : World} {lo lo' n : Nat} {v : Value} {fs : List Fr} (h : FsN w lo v n fs) (hl : lo' ≤ lo) : FsN w lo' v n fs := by
  obtain ⟨A, c, e, h⟩ := h
  exact ⟨A, c, e, StS.anti h fun j hj => Nat.lt_of_lt_of_le hj hl⟩
theorem FsN.of {w : World} {lo : Nat} {v : Value} {fs : List Fr} (h : FsU lo w v fs) : FsN w lo v fs.length fs := by
  obtain ⟨A, c, _, e, _⟩ := (StS.now h).ex
  exact ⟨A, c, e, h⟩
/-- the cells of an own row of packets -/
theorem own4 {w : World} {base g n c : Nat} {e : TypeId} {css : List (Cells 4)} (h : OwnE pc4 w base e (.slice (some ⟨g, 0, none⟩) n c) css) (i k : Nat) (hi : i < css.length) (hk : k < 4) : w.cell? ⟨g, i * 4 + k, none⟩ = (css[i]).l[k]? := by
  obtain ⟨A', c', e1, h1, h2, hr⟩ := h.slice
  injection e1 with e1 e2 e3
  obtain ⟨b, off, e4, _, hc⟩ := hr (by omega)
  rw [← e1] at e4
  cases e4
  have := RowE.at hc i k hi hk
  simpa [pc4, cellLay] using this
/-- blocks that the copy's rows do not lie in -/
def CpS (B : Nat) (Au : Option Addr) : Nat → Prop := fun j => j < B ∨ Au = some ⟨j, 0, none⟩
/-- between the rounds of copied -/
structure CpP (w wr : World) (Au : Option Addr) (n cu : Nat) (nx tp : Int) (Ah : Option Addr) (nh ch : Nat) (Ak : Option Addr) (nk ck : Nat) (z : Array Value) (css : List (Cells 4)) (ps : List Pcl) (k : Nat) : Prop where
  own : OwnE pc4 wr (w.heap.size + 2) 54 (.slice Au n cu) css
  b : Below w.heap.size w wr
  box : wr.heap[w.heap.size]? = some (.cells #[.int .i64 nx, .slice Au n cu, .int .i64 tp, .slice Ah nh ch, .slice Ak nk ck] 48 (0, 0))
  res : wr.heap[w.heap.size + 1]? = some (.cells z 48 (0, 0))
  len : css.length = n ∧ ps.length = n
  new : ∀ i (h1 : i < css.length) (h2 : i < ps.length), i < k → StS wr (CpS (w.heap.size + 2) Au) (fun w => PcC w w.heap.size css[i] ps[i])
  old : ∀ i (h1 : i < css.length) (h2 : i < ps.length), k ≤ i → PcC w w.heap.size css[i] ps[i]
theorem CpP.step {w X w2 : World} {g n cu k nf : Nat} {nx tp : Int} {Ah Ak Af : Option Addr} {nh ch nk ck cf : Nat} {z : Array Value} {ct : List (Cells 4)} {ps : List Pcl} (h : CpP w X (some ⟨g, 0, none⟩) n cu nx tp Ah nh ch Ak nk ck z ct ps k) (hk : k < ct.length) (hkp : k < ps.length) (b2 : Below X.heap.size X w2)
    (hu : FsU X.heap.size w2 (.slice Af nf cf) (ps[k]).frs) : ∃ css, CpP w (w2.setCell ⟨g, k * 4 + 3, none⟩ (.slice Af nf cf)) (some ⟨g, 0, none⟩) n cu nx tp Ah nh ch Ak nk ck z css ps (k + 1) := by
  obtain ⟨o1, o2, o3, o4⟩ := own_cell (h.own.later b2) k 3 hk (by decide) (.slice Af nf cf) rfl
  have hgx : g < X.heap.size := by obtain ⟨cur, hc⟩ := own_blkE h.own; exact lt_of_block hc
  have k1 : KpS (CpS (w.heap.size + 2) (some ⟨g, 0, none⟩)) X (w2.setCell ⟨g, k * 4 + 3, none⟩ (.slice Af nf cf)) := (KpS.below b2).trans (KpS.gr o2 (.inr rfl))
  have hx0 := lt_of_block h.box
  have hx1 := lt_of_block h.res
  refine ⟨_, ⟨o1, gr_from (h.b.trans (b2.mono h.b.size)) (Nat.le_trans h.b.size b2.size) (by omega) o2, ?_, ?_, by rw [List.length_set]; exact h.len, fun i h1 h2 h3 => ?_, fun i h1 h2 h3 => ?_⟩⟩
  · rw [o2.block _ (Nat.lt_of_lt_of_le hx0 b2.size) (by intro e; cases e; omega), b2.block _ hx0]
    exact h.box
  · rw [o2.block _ (Nat.lt_of_lt_of_le hx1 b2.size) (by intro e; cases e; omega), b2.block _ hx1]
    exact h.res
  · have h1' := h1
    rw [List.length_set] at h1'
    by_cases e : i = k
    · subst e
      rw [List.getElem_set_self]
      obtain ⟨v, hv, _⟩ := h.old i h1' h2 (Nat.le_refl _)
      have h5 : StS (w2.setCell ⟨g, i * 4 + 3, none⟩ (.slice Af nf cf)) (CpS (w.heap.size + 2) (some ⟨g, 0, none⟩)) (fun w => FsSl w w.heap.size (.slice Af nf cf) (ps[i]).frs) := (StS.anti hu (fun j hj => by
        rcases hj with hj | hj
        · show j < X.heap.size; omega
        · cases hj; exact hgx)).on (KpS.gr o2 (.inr rfl))
      intro w' q
      refine ⟨.slice Af nf cf, ?_, h5 w' q⟩
      show (ct[i]).l.set 3 (.slice Af nf cf) = _
      rw [hv]
      rfl
    · rw [List.getElem_set_ne (fun q => e q.symm)]
      exact (h.new i h1' h2 (by omega)).on k1
  · have h1' := h1
    rw [List.length_set] at h1'
    rw [List.getElem_set_ne (by omega)]
    exact h.old i h1' h2 (by omega)
theorem CpP.done {w wr : World} {Au : Option Addr} {n cu : Nat} {nx tp : Int} {Ah Ak : Option Addr} {nh ch nk ck : Nat} {z : Array Value} {css : List (Cells 4)} {ps : List Pcl} (h : CpP w wr Au n cu nx tp Ah nh ch Ak nk ck z css ps n) : PlU (w.heap.size + 2) wr (.slice Au n cu) ps := by
  obtain ⟨hl1, hl2⟩ := h.len
  obtain ⟨A', c', e1, h1, h2, _⟩ := h.own.slice
  injection e1 with e1 e2 e3
  intro w'' k
  obtain ⟨A2, c2, e4, _, _, hr⟩ := (own_stE h.own w'' k).slice
  injection e4 with e4 e5 e6
  refine ⟨Au, cu, css, by rw [hl2], by omega, by omega, by rw [e4]; exact hr, All2.of (by omega) fun i q1 q2 => ?_⟩
  exact StS.anti (h.new i q1 q2 (by omega)) (fun j hj => .inl hj) w'' k
theorem isl_st {w : World} {base : Nat} {e : TypeId} {v : Value} {zs : List Int} (h : OwnE intE w base e v zs) : StS w (fun j => j < base) (fun w => ISl w w.heap.size v zs) := fun w'' k => by
  obtain ⟨A2, c2, e4, h1, h2, hr⟩ := (own_stE h w'' k).slice
  exact ⟨A2, c2, e4, h1, h2, hr⟩
theorem rsl_st {w : World} {base lo : Nat} {e : TypeId} {v : Value} {ps : List (Int × Int)} (h : OwnR w base e v ps) (hl : lo ≤ base) : StS w (fun j => j < lo) (fun w => RSl w w.heap.size v ps) := fun w' k => rf_own h hl w' (keeps_kpS k)
theorem ready_neD {l : List Nat} (h : l.isEmpty = false) : l ≠ [] := by
  intro e
  rw [e] at h
  cases h
structure SpCp5 (w0 : World) (k0 g k na c1 nf cf : Nat) (Af : Option Addr) (frs : List Fr) (R : World → Prop) (V0 V1 V2 V3 V4 V5 V6 V7 V8 V10 V11 : Value) (ab0 ab1 ab2 ab3 ab4 ab5 ab6 ab7 ab8 ab9 ab10 ab11 ab12 : Bool) (ax0 ax1 ax2 ax3 ax4 ax5 ax6 ax7 ax8 ax9 ax10 ax11 ax12 : Value) (w : World) : Prop where
  be : ab12 = false → Below w0.heap.size w0 w
  d1 : ab1 = true → ab0 = true
  d4 : ab4 = true → ab3 = true
  d6 : ab6 = true → ab4 = true ∧ ab5 = true
  d7 : ab7 = true → ab6 = true
  d8 : ab8 = true → ab7 = true
  d9 : ab9 = true → ab8 = true
  d10 : ab10 = true → ab0 = true ∧ ab1 = true ∧ ab2 = true ∧ ab3 = true ∧ ab4 = true ∧ ab5 = true ∧ ab6 = true ∧ ab7 = true ∧ ab8 = true ∧ ab9 = true
  d11 : ab11 = true → ab0 = true ∧ ab1 = true ∧ ab2 = true ∧ ab3 = true ∧ ab4 = true ∧ ab5 = true ∧ ab6 = true ∧ ab7 = true ∧ ab8 = true ∧ ab9 = true ∧ ab10 = true
  d12 : ab12 = true → ab0 = true ∧ ab1 = true ∧ ab2 = true ∧ ab3 = true ∧ ab4 = true ∧ ab5 = true ∧ ab6 = true ∧ ab7 = true ∧ ab8 = true ∧ ab9 = true ∧ ab11 = true
  h0 : ab0 = true → ax0 = V0
  h1 : ab1 = true → ax1 = V1
  h2 : ab2 = true → ax2 = V2
  h3 : ab3 = true → ax3 = V3
  h4 : ab4 = true → ax4 = V4
  h5 : ab5 = true → ax5 = V5
  h6 : ab6 = true → ax6 = V6
  h7 : ab7 = true → ax7 = V7
  h8 : ab8 = true → ax8 = V8
  h9 : ab9 = true → ab12 = false → FsN w w0.heap.size ax9 nf frs
  h10 : ab10 = true → ax10 = V10
  h11 : ab11 = true → ax11 = V11
  h12 : ab12 = true → R w
set_option maxRecDepth 100000 in
set_option maxHeartbeats 4000000 in
theorem spCopied_any (v : Value) (s : Sp) (w : World) (hv : SpVal w w.heap.size v s) (hw : SpWf s) : Calls Try.prog 48 #[v] w fun e w' => ∃ Au cu Hu cv Ku cw css, e = .returned (.agg #[.int .i64 s.next, .slice Au s.sent.length cu, .int .i64 s.top, .slice Hu s.heard.length cv, .slice Ku s.skip.length cw]) ∧ SpN w.heap.size w' Au cu Hu cv Ku cw css s ∧ Below w.heap.size w w' := by
  obtain ⟨a, h, kk, rfl, ha, hh, hk⟩ := hv.ex
  obtain ⟨Aa, ca, csa, rfl, ha1, ha2, ha3, ha4⟩ := ha.ex
  obtain ⟨Ah, ch, rfl, hh1, hh2, hh3⟩ := hh.ex
  obtain ⟨Ak, ck, rfl, hk1, hk2, hk3⟩ := hk.ex
  obtain ⟨g0, g1, g2⟩ := twoX w #[.int .i64 s.next, .slice Aa s.sent.length ca, .int .i64 s.top, .slice Ah s.heard.length ch, .slice Ak s.skip.length ck] #[.int .i64 0, .slice none 0 0, .int .i64 0, .slice none 0 0, .slice none 0 0] 48 48
  have F0 := Lib.hid g0
  have Z0 := Lib.hid g1
  have B0 := Lib.hid g2
  have HC := Lib.hid (fun w' (hb : Below w.heap.size w w') => cln_pcl Aa s.sent.length ca csa w' ((ha3.below hb).more hb.size) ha4.len hw.sl)
  have HH := Lib.hid (fun w' (hb : Below w.heap.size w w') => rcloneB_any w'.heap.size (.slice Ah s.heard.length ch) s.heard w' (Nat.le_refl _) ((hh.below hb).more hb.size) hw.hl)
  have HK := Lib.hid (fun w' (hb : Below w.heap.size w w') => cln_int Ak s.skip.length ck s.skip w' ((hk3.below hb).more hb.size) rfl hw.kl)
  have HO := Lib.hid ha4
  have HWF := Lib.hid hw.p
  obtain ⟨nx, hnx⟩ : ∃ x, s.next = x := ⟨_, rfl⟩
  obtain ⟨tp, htp⟩ : ∃ x, s.top = x := ⟨_, rfl⟩
  obtain ⟨na, hna⟩ : ∃ x, s.sent.length = x := ⟨_, rfl⟩
  obtain ⟨nh, hnh⟩ : ∃ x, s.heard.length = x := ⟨_, rfl⟩
  obtain ⟨nk, hnk⟩ : ∃ x, s.skip.length = x := ⟨_, rfl⟩
  have hna9 : na ≤ 2932031007403 := by have := hw.sl; omega
  have HNX := Lib.hid hnx
  have HTP := Lib.hid htp
  have HNA := Lib.hid hna
  have HNH := Lib.hid hnh
  have HNK := Lib.hid hnk
  rw [hnx, htp, hna, hnh, hnk] at F0
  rw [hna] at HC
  rw [hnh] at HH
  rw [hnk] at HK
  rw [hnx, htp, hna, hnh, hnk] at B0 Z0
  rw [hnx, htp, hna, hnh, hnk]
  clear hv ha hh hk hw ha1 ha2 ha3 ha4 hh1 hh2 hh3 hk1 hk2 hk3 g0 g1 g2 hnx htp hna hnh hnk
  go_enter Try.func48, Try.ntmps48
  obtain ⟨q0, q1, q2, q3, q4⟩ := sp5 F0.out
  go_wp2_with fail
  refine (HC.out _ B0.out).mono ?_
  rintro e w1 ⟨u1, rfl, o1, b1⟩
  obtain ⟨A1, c1, rfl, hc11, hc12, _⟩ := o1.slice
  have hs0 : (((w.alloc (.cells #[.int .i64 nx, .slice Aa na ca, .int .i64 tp, .slice Ah nh ch, .slice Ak nk ck] 48)).alloc (.cells #[.int .i64 0, .slice none 0 0, .int .i64 0, .slice none 0 0, .slice none 0 0] 48)).heap.size) = w.heap.size + 2 := by simp
  rw [hs0, show csa.length = na from by rw [HO.out.len, HNA.out]] at o1
  have O1 := Lib.hid o1
  have B1 := Lib.hid (B0.out.trans (b1.mono B0.out.size))
  have F1 := Lib.hid ((b1.block _ (lt_of_block F0.out)).trans F0.out)
  have Z1 := Lib.hid ((b1.block _ (lt_of_block Z0.out)).trans Z0.out)
  have hLA := Lib.hid (show csa.length = na from by rw [HO.out.len, HNA.out])
  rw [show csa.length = na from hLA.out]
  clear b1 o1 q0 q1 q2 q3 q4 hs0 hc11 hc12
  obtain ⟨Y1, hY1⟩ : ∃ x, w1.setCell ⟨w.heap.size, 1, none⟩ (.slice A1 na c1) = x := ⟨_, rfl⟩
  have g1 := gr_set w1 w.heap.size 1 (.slice A1 na c1)
  have FY1 := Lib.hid ((sp5_set F1.out (.slice A1 na c1)).2.1)
  have qf := fun i => bk_frz F1.out i
  obtain ⟨p0, p1, p2, p3, p4⟩ := sp5 F1.out
  rw [hY1] at g1 FY1
  have ZY1 := Lib.hid ((g1.block _ (lt_of_block Z1.out) (by simp)).trans Z1.out)
  have BY1 := Lib.hid (gr_from B1.out B1.out.size (Nat.le_refl _) g1)
  have OY1 := Lib.hid (OwnE.kept O1.out g1 (fun e => by have := (OwnE.lt O1.out _ e).1; omega))
  have K0 := Lib.hid (show CpP w Y1 A1 na c1 nx tp Ah nh ch Ak nk ck _ csa s.sent 0 from ⟨OY1.out, BY1.out, FY1.out, ZY1.out, ⟨hLA.out, HNA.out⟩, fun i _ _ h => by omega, fun i q1 q2 _ => HO.out.at i q1 q2⟩)
  obtain ⟨q0, q1, q2, q3, q4⟩ := sp5 FY1.out
  clear g1 HC
  go_wp2_with fail
  clear hY1 qf p0 p1 p2 p3 p4 q0 q1 q2 q3 q4 FY1 ZY1 BY1 OY1 O1 B1 F1 Z1
  obtain ⟨z, hz⟩ : ∃ z, z = (#[.int .i64 0, .slice none 0 0, .int .i64 0, .slice none 0 0, .slice none 0 0] : Array Value) := ⟨_, rfl⟩
  rw [← hz] at K0
  have HZZ := Lib.hid hz
  clear hz
  go_loopg [11] na (fun gq iv wr => ∃ (k : Nat) (css : List (Cells 4)), iv = .int .i64 k ∧ k + gq = na ∧ Hid (CpP w wr A1 na c1 nx tp Ah nh ch Ak nk ck z css s.sent k))
  case atStart => exact ⟨0, csa, rfl, by omega, K0⟩
  case round =>
    obtain ⟨k, ct, rfl, hk, KK⟩ := hrel
    obtain ⟨X, hX⟩ : ∃ X, X = wr := ⟨_, rfl⟩
    subst hX
    by_cases hlt : k < na
    · obtain ⟨g, hg⟩ : ∃ g, A1 = some ⟨g, 0, none⟩ := by
        rcases KK.out.own.2 with ⟨e0, h0⟩ | ⟨g, cap, cur, ev, _⟩
        · injection e0 with _ e0; omega
        · injection ev with ea; exact ⟨g, ea⟩
      subst hg
      have hkc : k < ct.length := by rw [KK.out.len.1]; exact hlt
      have hkp : k < s.sent.length := by rw [HNA.out]; exact hlt
      obtain ⟨vf, hcv, hvf⟩ := KK.out.old k hkc hkp (Nat.le_refl _)
      obtain ⟨Af, cf, csf, rfl, _, _, _, _⟩ := hvf.ex
      have hwf := (HWF.out _ (List.getElem_mem hkp)).2
      obtain ⟨R, hR⟩ : ∃ R : World → Prop, (fun wq => ∃ css, CpP w wq (some ⟨g, 0, none⟩) na c1 nx tp Ah nh ch Ak nk ck z css s.sent (k + 1)) = R := ⟨_, rfl⟩
      have HR := Lib.hid hR
      have HST := Lib.hid (fun w2 A9 c9 (hb : Below X.heap.size X w2) (hu : FsU X.heap.size w2 (.slice A9 (s.sent[k]).frs.length c9) (s.sent[k]).frs) => show R (w2.setCell ⟨g, k * 4 + 3, none⟩ (.slice A9 (s.sent[k]).frs.length c9)) from by rw [← HR.out]; exact KK.out.step hkc hkp hb hu)
      have HBX := Lib.hid (fun w' (hb : Below X.heap.size X w') => (hb.block _ (lt_of_block KK.out.box)).trans KK.out.box)
      have HQ4 := Lib.hid (fun w' (hb : Below X.heap.size X w') => show w'.cell? ⟨g, k * 4 + 3, none⟩ = some (.slice Af (s.sent[k]).frs.length cf) from by
        have := own4 (KK.out.own.later hb) k 3 hkc (by decide)
        rw [this, hcv]
        rfl)
      have HFZ := Lib.hid (fun w' (hb : Below X.heap.size X w') => show ∀ i, w'.frozen? ⟨g, i, none⟩ = false from by
        obtain ⟨cur2, hcur2⟩ := own_blkE (KK.out.own.later hb)
        exact fun i => bk_frz hcur2 i)
      have HCP := Lib.hid (fun w' (hb : Below X.heap.size X w') => (cpFrames_any (.slice Af (s.sent[k]).frs.length cf) (s.sent[k]).frs w' ((hvf.below (KK.out.b.trans (hb.mono KK.out.b.size))).more (Nat.le_trans KK.out.b.size hb.size)) hwf).mono (R' := fun e w'' => ∃ u, e = .returned u ∧ FsN w'' w'.heap.size u (s.sent[k]).frs.length (s.sent[k]).frs ∧ Below w'.heap.size w' w'') (by rintro e w'' ⟨u, rfl, h1, h2⟩; exact ⟨u, rfl, FsN.of h1, h2⟩))
      obtain ⟨frs, hfrs⟩ : ∃ x, (s.sent[k]).frs = x := ⟨_, rfl⟩
      obtain ⟨nf, hnf⟩ : ∃ x, frs.length = x := ⟨_, rfl⟩
      rw [hfrs, hnf] at HST HQ4 HCP
      have hki : (k : Int) < (na : Int) := by omega
      obtain ⟨k0, hk0⟩ : ∃ x, w.heap.size = x := ⟨_, rfl⟩
      have HK0 := Lib.hid hk0
      rw [hk0] at HBX
      clear hcv hvf hwf hfrs hnf hR
      rw [hk0]
      clear hk0
      go_upto_region 5 with fail
      refine wp_region_inv (fun lis_ act_ wld_ => ∃ (ab0 ab1 ab2 ab3 ab4 ab5 ab6 ab7 ab8 ab9 ab10 ab11 ab12 : Bool) (ax0 ax1 ax2 ax3 ax4 ax5 ax6 ax7 ax8 ax9 ax10 ax11 ax12 : Value), lis_ = #[ab0, ab1, ab2, ab3, ab4, ab5, ab6, ab7, ab8, ab9, ab10, ab11, ab12] ∧ act_ = { tmps := #[Value.agg #[Value.int IntKind.i64 nx, Value.slice Aa na ca, Value.int IntKind.i64 tp, Value.slice Ah nh ch, Value.slice Ak nk ck], Value.pointer (some { block := k0, off := 0 }), Value.pointer (some { block := k0 + 1, off := 0 }), Value.int IntKind.i64 ↑k, Value.pointer (some { block := k0, off := 1 }), Value.slice Aa na ca, Value.slice (some { block := g, off := 0 }) na c1, Value.pointer (some { block := k0, off := 1 }), Value.pointer (some { block := k0, off := 1 }), Value.slice (some { block := g, off := 0 }) na c1, Value.int IntKind.i64 ↑na, Value.int IntKind.i64 ↑k, Value.bool true, Value.int IntKind.i64 ↑k, ax0, ax1, ax2, ax3, ax4, ax5, ax6, ax7, ax8, ax9, ax10, ax11, u26, undef, undef, undef, undef, undef, undef, undef, undef, undef], defers := [] } ∧ SpCp5 X k0 g k na c1 nf cf Af frs R (.pointer (some ⟨k0, 1, none⟩)) (.slice (some ⟨g, 0, none⟩) na c1) (.int .i64 (k : Int)) (.pointer (some ⟨k0, 1, none⟩)) (.slice (some ⟨g, 0, none⟩) na c1) (.int .i64 (k : Int)) (.pointer (some ⟨g, k * 4, none⟩)) (.pointer (some ⟨g, k * 4 + 3, none⟩)) (.slice Af nf cf) (.pointer (some ⟨g, k * 4, none⟩)) (.pointer (some ⟨g, k * 4 + 3, none⟩)) ab0 ab1 ab2 ab3 ab4 ab5 ab6 ab7 ab8 ab9 ab10 ab11 ab12 ax0 ax1 ax2 ax3 ax4 ax5 ax6 ax7 ax8 ax9 ax10 ax11 ax12 wld_) (by kernel_rfl) ?h0 ?hfin ?hI
      case h0 => exact ⟨_, _, _, _, _, _, _, _, _, _, _, _, _, _, _, _, _, _, _, _, _, _, _, _, _, undef, rfl, rfl, ⟨(fun _ => (Below.refl _ _).drew), (fun h => by cases h), (fun h => by cases h), (fun h => by cases h), (fun h => by cases h), (fun h => by cases h), (fun h => by cases h), (fun h => by cases h), (fun h => by cases h), (fun h => by cases h), (fun h => by cases h), (fun h => by cases h), (fun h => by cases h), (fun h => by cases h), (fun h => by cases h), (fun h => by cases h), (fun h => by cases h), (fun h => by cases h), (fun h => by cases h), (fun h => by cases h), (fun h => by cases h), (fun h => by cases h), (fun h => by cases h)⟩⟩
      case hI =>
        rintro listed a w ⟨ab0, ab1, ab2, ab3, ab4, ab5, ab6, ab7, ab8, ab9, ab10, ab11, ab12, ax0, ax1, ax2, ax3, ax4, ax5, ax6, ax7, ax8, ax9, ax10, ax11, ax12, rfl, rfl, H⟩ i hi
        obtain ⟨hun, oj, hoj, hall⟩ := mem_ready.1 hi
        clear hi
        rcases i with _ | _ | _ | _ | _ | _ | _ | _ | _ | _ | _ | _ | _ | i
        · have ho := hoj
          simp only [List.getElem?_toArray, List.getElem?_cons_zero, Option.some.injEq] at hoj
          subst hoj
          obtain rfl : ab0 = false := hun
          clear hall
          obtain rfl : ab1 = false := Bool.eq_false_iff.2 fun h => Bool.false_ne_true (H.d1 h)
          obtain rfl : ab10 = false := Bool.eq_false_iff.2 fun h => Bool.false_ne_true (H.d10 h).1
          obtain rfl : ab11 = false := Bool.eq_false_iff.2 fun h => Bool.false_ne_true (H.d11 h).1
          obtain rfl : ab12 = false := Bool.eq_false_iff.2 fun h => Bool.false_ne_true (H.d12 h).1
          have hbe := H.be rfl
          refine wpOp_step ho (fun K' hK => ?_)
          have HK := Lib.hid hK
          clear hK ho
          go_simp
          exact HK.out _ _ ⟨_, _, _, _, _, _, _, _, _, _, _, _, _, _, _, _, _, _, _, _, _, _, _, _, _, ax12, rfl, rfl, ⟨(fun _ => hbe), (fun h => by cases h), H.d4, H.d6, H.d7, H.d8, H.d9, (fun h => by cases h), (fun h => by cases h), (fun h => by cases h), (fun _ => rfl), H.h1, H.h2, H.h3, H.h4, H.h5, H.h6, H.h7, H.h8, H.h9, H.h10, H.h11, (fun h => by cases h)⟩⟩
        · have ho := hoj
          simp only [List.getElem?_toArray, List.getElem?_cons_succ, List.getElem?_cons_zero, Option.some.injEq] at hoj
          subst hoj
          obtain rfl : ab1 = false := hun
          obtain rfl : ab0 = true := hall ⟨0, .data⟩ (by simp) (by kernel_rfl)
          clear hall
          obtain rfl : ab10 = false := Bool.eq_false_iff.2 fun h => Bool.false_ne_true (H.d10 h).2.1
          obtain rfl : ab11 = false := Bool.eq_false_iff.2 fun h => Bool.false_ne_true (H.d11 h).2.1
          obtain rfl : ab12 = false := Bool.eq_false_iff.2 fun h => Bool.false_ne_true (H.d12 h).2.1
          have hbe := H.be rfl
          obtain rfl := H.h0 rfl
          obtain ⟨q0, q1, q2, q3, q4⟩ := sp5 (HBX.out _ hbe)
          refine wpOp_step ho (fun K' hK => ?_)
          have HK := Lib.hid hK
          clear hK ho
          go_simp
          exact HK.out _ _ ⟨_, _, _, _, _, _, _, _, _, _, _, _, _, _, _, _, _, _, _, _, _, _, _, _, _, ax12, rfl, rfl, ⟨(fun _ => hbe), (fun _ => rfl), H.d4, H.d6, H.d7, H.d8, H.d9, (fun h => by cases h), (fun h => by cases h), (fun h => by cases h), H.h0, (fun _ => rfl), H.h2, H.h3, H.h4, H.h5, H.h6, H.h7, H.h8, H.h9, H.h10, H.h11, (fun h => by cases h)⟩⟩
        · have ho := hoj
          simp only [List.getElem?_toArray, List.getElem?_cons_succ, List.getElem?_cons_zero, Option.some.injEq] at hoj
          subst hoj
          obtain rfl : ab2 = false := hun
          clear hall
          obtain rfl : ab10 = false := Bool.eq_false_iff.2 fun h => Bool.false_ne_true (H.d10 h).2.2.1
          obtain rfl : ab11 = false := Bool.eq_false_iff.2 fun h => Bool.false_ne_true (H.d11 h).2.2.1
          obtain rfl : ab12 = false := Bool.eq_false_iff.2 fun h => Bool.false_ne_true (H.d12 h).2.2.1
          have hbe := H.be rfl
          refine wpOp_step ho (fun K' hK => ?_)
          have HK := Lib.hid hK
          clear hK ho
          go_simp
          exact HK.out _ _ ⟨_, _, _, _, _, _, _, _, _, _, _, _, _, _, _, _, _, _, _, _, _, _, _, _, _, ax12, rfl, rfl, ⟨(fun _ => hbe), H.d1, H.d4, H.d6, H.d7, H.d8, H.d9, (fun h => by cases h), (fun h => by cases h), (fun h => by cases h), H.h0, H.h1, (fun _ => rfl), H.h3, H.h4, H.h5, H.h6, H.h7, H.h8, H.h9, H.h10, H.h11, (fun h => by cases h)⟩⟩
        · have ho := hoj
          simp only [List.getElem?_toArray, List.getElem?_cons_succ, List.getElem?_cons_zero, Option.some.injEq] at hoj
          subst hoj
          obtain rfl : ab3 = false := hun
          clear hall
          obtain rfl : ab4 = false := Bool.eq_false_iff.2 fun h => Bool.false_ne_true (H.d4 h)
          obtain rfl : ab6 = false := Bool.eq_false_iff.2 fun h => Bool.false_ne_true (H.d6 h).1
          obtain rfl : ab7 = false := Bool.eq_false_iff.2 fun h => Bool.false_ne_true (H.d7 h)
          obtain rfl : ab8 = false := Bool.eq_false_iff.2 fun h => Bool.false_ne_true (H.d8 h)
          obtain rfl : ab9 = false := Bool.eq_false_iff.2 fun h => Bool.false_ne_true (H.d9 h)
          obtain rfl : ab10 = false := Bool.eq_false_iff.2 fun h => Bool.false_ne_true (H.d10 h).2.2.2.1
          obtain rfl : ab11 = false := Bool.eq_false_iff.2 fun h => Bool.false_ne_true (H.d11 h).2.2.2.1
          obtain rfl : ab12 = false := Bool.eq_false_iff.2 fun h => Bool.false_ne_true (H.d12 h).2.2.2.1
          have hbe := H.be rfl
          refine wpOp_step ho (fun K' hK => ?_)
          have HK := Lib.hid hK
          clear hK ho
          go_simp
          exact HK.out _ _ ⟨_, _, _, _, _, _, _, _, _, _, _, _, _, _, _, _, _, _, _, _, _, _, _, _, _, ax12, rfl, rfl, ⟨(fun _ => hbe), H.d1, (fun h => by cases h), H.d6, H.d7, H.d8, H.d9, (fun h => by cases h), (fun h => by cases h), (fun h => by cases h), H.h0, H.h1, H.h2, (fun _ => rfl), H.h4, H.h5, H.h6, H.h7, H.h8, (fun h => by cases h), H.h10, H.h11, (fun h => by cases h)⟩⟩
        · have ho := hoj
          simp only [List.getElem?_toArray, List.getElem?_cons_succ, List.getElem?_cons_zero, Option.some.injEq] at hoj
          subst hoj
          obtain rfl : ab4 = false := hun
          obtain rfl : ab3 = true := hall ⟨3, .data⟩ (by simp) (by kernel_rfl)
          clear hall
          obtain rfl : ab6 = false := Bool.eq_false_iff.2 fun h => Bool.false_ne_true (H.d6 h).1
          obtain rfl : ab7 = false := Bool.eq_false_iff.2 fun h => Bool.false_ne_true (H.d7 h)
          obtain rfl : ab8 = false := Bool.eq_false_iff.2 fun h => Bool.false_ne_true (H.d8 h)
          obtain rfl : ab9 = false := Bool.eq_false_iff.2 fun h => Bool.false_ne_true (H.d9 h)
          obtain rfl : ab10 = false := Bool.eq_false_iff.2 fun h => Bool.false_ne_true (H.d10 h).2.2.2.2.1
          obtain rfl : ab11 = false := Bool.eq_false_iff.2 fun h => Bool.false_ne_true (H.d11 h).2.2.2.2.1
          obtain rfl : ab12 = false := Bool.eq_false_iff.2 fun h => Bool.false_ne_true (H.d12 h).2.2.2.2.1
          have hbe := H.be rfl
          obtain rfl := H.h3 rfl
          obtain ⟨q0, q1, q2, q3, q4⟩ := sp5 (HBX.out _ hbe)
          refine wpOp_step ho (fun K' hK => ?_)
          have HK := Lib.hid hK
          clear hK ho
          go_simp
          exact HK.out _ _ ⟨_, _, _, _, _, _, _, _, _, _, _, _, _, _, _, _, _, _, _, _, _, _, _, _, _, ax12, rfl, rfl, ⟨(fun _ => hbe), H.d1, (fun _ => rfl), (fun h => by cases h), H.d7, H.d8, H.d9, (fun h => by cases h), (fun h => by cases h), (fun h => by cases h), H.h0, H.h1, H.h2, H.h3, (fun _ => rfl), H.h5, H.h6, H.h7, H.h8, (fun h => by cases h), H.h10, H.h11, (fun h => by cases h)⟩⟩
        · have ho := hoj
          simp only [List.getElem?_toArray, List.getElem?_cons_succ, List.getElem?_cons_zero, Option.some.injEq] at hoj
          subst hoj
          obtain rfl : ab5 = false := hun
          clear hall
          obtain rfl : ab6 = false := Bool.eq_false_iff.2 fun h => Bool.false_ne_true (H.d6 h).2
          obtain rfl : ab7 = false := Bool.eq_false_iff.2 fun h => Bool.false_ne_true (H.d7 h)
          obtain rfl : ab8 = false := Bool.eq_false_iff.2 fun h => Bool.false_ne_true (H.d8 h)
          obtain rfl : ab9 = false := Bool.eq_false_iff.2 fun h => Bool.false_ne_true (H.d9 h)
          obtain rfl : ab10 = false := Bool.eq_false_iff.2 fun h => Bool.false_ne_true (H.d10 h).2.2.2.2.2.1
          obtain rfl : ab11 = false := Bool.eq_false_iff.2 fun h => Bool.false_ne_true (H.d11 h).2.2.2.2.2.1
          obtain rfl : ab12 = false := Bool.eq_false_iff.2 fun h => Bool.false_ne_true (H.d12 h).2.2.2.2.2.1
          have hbe := H.be rfl
          refine wpOp_step ho (fun K' hK => ?_)
          have HK := Lib.hid hK
          clear hK ho
          go_simp
          exact HK.out _ _ ⟨_, _, _, _, _, _, _, _, _, _, _, _, _, _, _, _, _, _, _, _, _, _, _, _, _, ax12, rfl, rfl, ⟨(fun _ => hbe), H.d1, H.d4, (fun h => by cases h), H.d7, H.d8, H.d9, (fun h => by cases h), (fun h => by cases h), (fun h => by cases h), H.h0, H.h1, H.h2, H.h3, H.h4, (fun _ => rfl), H.h6, H.h7, H.h8, (fun h => by cases h), H.h10, H.h11, (fun h => by cases h)⟩⟩
        · have ho := hoj
          simp only [List.getElem?_toArray, List.getElem?_cons_succ, List.getElem?_cons_zero, Option.some.injEq] at hoj
          subst hoj
          obtain rfl : ab6 = false := hun
          obtain rfl : ab4 = true := hall ⟨4, .data⟩ (by simp) (by kernel_rfl)
          obtain rfl : ab5 = true := hall ⟨5, .data⟩ (by simp) (by kernel_rfl)
          obtain rfl : ab3 = true := (H.d4 rfl)
          clear hall
          obtain rfl : ab7 = false := Bool.eq_false_iff.2 fun h => Bool.false_ne_true (H.d7 h)
          obtain rfl : ab8 = false := Bool.eq_false_iff.2 fun h => Bool.false_ne_true (H.d8 h)
          obtain rfl : ab9 = false := Bool.eq_false_iff.2 fun h => Bool.false_ne_true (H.d9 h)
          obtain rfl : ab10 = false := Bool.eq_false_iff.2 fun h => Bool.false_ne_true (H.d10 h).2.2.2.2.2.2.1
          obtain rfl : ab11 = false := Bool.eq_false_iff.2 fun h => Bool.false_ne_true (H.d11 h).2.2.2.2.2.2.1
          obtain rfl : ab12 = false := Bool.eq_false_iff.2 fun h => Bool.false_ne_true (H.d12 h).2.2.2.2.2.2.1
          have hbe := H.be rfl
          obtain rfl := H.h3 rfl
          obtain rfl := H.h4 rfl
          obtain rfl := H.h5 rfl
          refine wpOp_step ho (fun K' hK => ?_)
          have HK := Lib.hid hK
          clear hK ho
          go_simp
          exact HK.out _ _ ⟨_, _, _, _, _, _, _, _, _, _, _, _, _, _, _, _, _, _, _, _, _, _, _, _, _, ax12, rfl, rfl, ⟨(fun _ => hbe), H.d1, H.d4, (fun _ => ⟨rfl, rfl⟩), (fun h => by cases h), H.d8, H.d9, (fun h => by cases h), (fun h => by cases h), (fun h => by cases h), H.h0, H.h1, H.h2, H.h3, H.h4, H.h5, (fun _ => rfl), H.h7, H.h8, (fun h => by cases h), H.h10, H.h11, (fun h => by cases h)⟩⟩
        · have ho := hoj
          simp only [List.getElem?_toArray, List.getElem?_cons_succ, List.getElem?_cons_zero, Option.some.injEq] at hoj
          subst hoj
          obtain rfl : ab7 = false := hun
          obtain rfl : ab6 = true := hall ⟨6, .data⟩ (by simp) (by kernel_rfl)
          obtain rfl : ab4 = true := (H.d6 rfl).1
          obtain rfl : ab5 = true := (H.d6 rfl).2
          obtain rfl : ab3 = true := (H.d4 rfl)
          clear hall
          obtain rfl : ab8 = false := Bool.eq_false_iff.2 fun h => Bool.false_ne_true (H.d8 h)
          obtain rfl : ab9 = false := Bool.eq_false_iff.2 fun h => Bool.false_ne_true (H.d9 h)
          obtain rfl : ab10 = false := Bool.eq_false_iff.2 fun h => Bool.false_ne_true (H.d10 h).2.2.2.2.2.2.2.1
          obtain rfl : ab11 = false := Bool.eq_false_iff.2 fun h => Bool.false_ne_true (H.d11 h).2.2.2.2.2.2.2.1
          obtain rfl : ab12 = false := Bool.eq_false_iff.2 fun h => Bool.false_ne_true (H.d12 h).2.2.2.2.2.2.2.1
          have hbe := H.be rfl
          obtain rfl := H.h3 rfl
          obtain rfl := H.h4 rfl
          obtain rfl := H.h5 rfl
          obtain rfl := H.h6 rfl
          refine wpOp_step ho (fun K' hK => ?_)
          have HK := Lib.hid hK
          clear hK ho
          go_simp
          exact HK.out _ _ ⟨_, _, _, _, _, _, _, _, _, _, _, _, _, _, _, _, _, _, _, _, _, _, _, _, _, ax12, rfl, rfl, ⟨(fun _ => hbe), H.d1, H.d4, H.d6, (fun _ => rfl), (fun h => by cases h), H.d9, (fun h => by cases h), (fun h => by cases h), (fun h => by cases h), H.h0, H.h1, H.h2, H.h3, H.h4, H.h5, H.h6, (fun _ => rfl), H.h8, (fun h => by cases h), H.h10, H.h11, (fun h => by cases h)⟩⟩
        · have ho := hoj
          simp only [List.getElem?_toArray, List.getElem?_cons_succ, List.getElem?_cons_zero, Option.some.injEq] at hoj
          subst hoj
          obtain rfl : ab8 = false := hun
          obtain rfl : ab7 = true := hall ⟨7, .data⟩ (by simp) (by kernel_rfl)
          obtain rfl : ab6 = true := (H.d7 rfl)
          obtain rfl : ab4 = true := (H.d6 rfl).1
          obtain rfl : ab5 = true := (H.d6 rfl).2
          obtain rfl : ab3 = true := (H.d4 rfl)
          clear hall
          obtain rfl : ab9 = false := Bool.eq_false_iff.2 fun h => Bool.false_ne_true (H.d9 h)
          obtain rfl : ab10 = false := Bool.eq_false_iff.2 fun h => Bool.false_ne_true (H.d10 h).2.2.2.2.2.2.2.2.1
          obtain rfl : ab11 = false := Bool.eq_false_iff.2 fun h => Bool.false_ne_true (H.d11 h).2.2.2.2.2.2.2.2.1
          obtain rfl : ab12 = false := Bool.eq_false_iff.2 fun h => Bool.false_ne_true (H.d12 h).2.2.2.2.2.2.2.2.1
          have hbe := H.be rfl
          obtain rfl := H.h3 rfl
          obtain rfl := H.h4 rfl
          obtain rfl := H.h5 rfl
          obtain rfl := H.h6 rfl
          obtain rfl := H.h7 rfl
          have q3 := HQ4.out _ hbe
          refine wpOp_step ho (fun K' hK => ?_)
          have HK := Lib.hid hK
          clear hK ho
          go_simp
          exact HK.out _ _ ⟨_, _, _, _, _, _, _, _, _, _, _, _, _, _, _, _, _, _, _, _, _, _, _, _, _, ax12, rfl, rfl, ⟨(fun _ => hbe), H.d1, H.d4, H.d6, H.d7, (fun _ => rfl), (fun h => by cases h), (fun h => by cases h), (fun h => by cases h), (fun h => by cases h), H.h0, H.h1, H.h2, H.h3, H.h4, H.h5, H.h6, H.h7, (fun _ => rfl), (fun h => by cases h), H.h10, H.h11, (fun h => by cases h)⟩⟩
        · have ho := hoj
          simp only [List.getElem?_toArray, List.getElem?_cons_succ, List.getElem?_cons_zero, Option.some.injEq] at hoj
          subst hoj
          obtain rfl : ab9 = false := hun
          obtain rfl : ab8 = true := hall ⟨8, .data⟩ (by simp) (by kernel_rfl)
          obtain rfl : ab7 = true := (H.d8 rfl)
          obtain rfl : ab6 = true := (H.d7 rfl)
          obtain rfl : ab4 = true := (H.d6 rfl).1
          obtain rfl : ab5 = true := (H.d6 rfl).2
          obtain rfl : ab3 = true := (H.d4 rfl)
          clear hall
          obtain rfl : ab10 = false := Bool.eq_false_iff.2 fun h => Bool.false_ne_true (H.d10 h).2.2.2.2.2.2.2.2.2
          obtain rfl : ab11 = false := Bool.eq_false_iff.2 fun h => Bool.false_ne_true (H.d11 h).2.2.2.2.2.2.2.2.2.1
          obtain rfl : ab12 = false := Bool.eq_false_iff.2 fun h => Bool.false_ne_true (H.d12 h).2.2.2.2.2.2.2.2.2.1
          have hbe := H.be rfl
          obtain rfl := H.h3 rfl
          obtain rfl := H.h4 rfl
          obtain rfl := H.h5 rfl
          obtain rfl := H.h6 rfl
          obtain rfl := H.h7 rfl
          obtain rfl := H.h8 rfl
          refine wpOp_step ho (fun K' hK => ?_)
          have HK := Lib.hid hK
          clear hK ho
          go_wp2_with fail
          refine (HCP.out _ hbe).mono ?_
          rintro e w1 ⟨u1, rfl, o1, ab1⟩
          have BC := Lib.hid ab1
          have OC := Lib.hid (FsN.low o1 hbe.size)
          clear o1 ab1
          go_wp2_with fail
          exact HK.out _ _ ⟨_, _, _, _, _, _, _, _, _, _, _, _, _, _, _, _, _, _, _, _, _, _, _, _, _, ax12, rfl, rfl, ⟨(fun _ => hbe.trans (BC.out.mono hbe.size)), H.d1, H.d4, H.d6, H.d7, H.d8, (fun _ => rfl), (fun h => by cases h), (fun h => by cases h), (fun h => by cases h), H.h0, H.h1, H.h2, H.h3, H.h4, H.h5, H.h6, H.h7, H.h8, (fun _ _ => OC.out), H.h10, H.h11, (fun h => by cases h)⟩⟩
        · have ho := hoj
          simp only [List.getElem?_toArray, List.getElem?_cons_succ, List.getElem?_cons_zero, Option.some.injEq] at hoj
          subst hoj
          obtain rfl : ab10 = false := hun
          obtain rfl : ab0 = true := hall ⟨0, .phase⟩ (by simp) (by kernel_rfl)
          obtain rfl : ab1 = true := hall ⟨1, .data⟩ (by simp) (by kernel_rfl)
          obtain rfl : ab2 = true := hall ⟨2, .data⟩ (by simp) (by kernel_rfl)
          obtain rfl : ab3 = true := hall ⟨3, .phase⟩ (by simp) (by kernel_rfl)
          obtain rfl : ab4 = true := hall ⟨4, .phase⟩ (by simp) (by kernel_rfl)
          obtain rfl : ab5 = true := hall ⟨5, .phase⟩ (by simp) (by kernel_rfl)
          obtain rfl : ab6 = true := hall ⟨6, .phase⟩ (by simp) (by kernel_rfl)
          obtain rfl : ab7 = true := hall ⟨7, .phase⟩ (by simp) (by kernel_rfl)
          obtain rfl : ab8 = true := hall ⟨8, .phase⟩ (by simp) (by kernel_rfl)
          obtain rfl : ab9 = true := hall ⟨9, .phase⟩ (by simp) (by kernel_rfl)
          clear hall
          obtain rfl : ab11 = false := Bool.eq_false_iff.2 fun h => Bool.false_ne_true (H.d11 h).2.2.2.2.2.2.2.2.2.2
          obtain rfl : ab12 = false := Bool.eq_false_iff.2 fun h => Bool.false_ne_true (H.d12 h).2.2.2.2.2.2.2.2.2.2
          have hbe := H.be rfl
          obtain rfl := H.h0 rfl
          obtain rfl := H.h1 rfl
          obtain rfl := H.h2 rfl
          obtain rfl := H.h3 rfl
          obtain rfl := H.h4 rfl
          obtain rfl := H.h5 rfl
          obtain rfl := H.h6 rfl
          obtain rfl := H.h7 rfl
          obtain rfl := H.h8 rfl
          have P9 := H.h9 rfl rfl
          refine wpOp_step ho (fun K' hK => ?_)
          have HK := Lib.hid hK
          clear hK ho
          go_simp
          exact HK.out _ _ ⟨_, _, _, _, _, _, _, _, _, _, _, _, _, _, _, _, _, _, _, _, _, _, _, _, _, ax12, rfl, rfl, ⟨(fun _ => hbe), H.d1, H.d4, H.d6, H.d7, H.d8, H.d9, (fun _ => ⟨rfl, rfl, rfl, rfl, rfl, rfl, rfl, rfl, rfl, rfl⟩), (fun h => by cases h), H.d12, H.h0, H.h1, H.h2, H.h3, H.h4, H.h5, H.h6, H.h7, H.h8, H.h9, (fun _ => rfl), H.h11, (fun h => by cases h)⟩⟩
        · have ho := hoj
          simp only [List.getElem?_toArray, List.getElem?_cons_succ, List.getElem?_cons_zero, Option.some.injEq] at hoj
          subst hoj
          obtain rfl : ab11 = false := hun
          obtain rfl : ab0 = true := hall ⟨0, .phase⟩ (by simp) (by kernel_rfl)
          obtain rfl : ab1 = true := hall ⟨1, .phase⟩ (by simp) (by kernel_rfl)
          obtain rfl : ab2 = true := hall ⟨2, .phase⟩ (by simp) (by kernel_rfl)
          obtain rfl : ab3 = true := hall ⟨3, .phase⟩ (by simp) (by kernel_rfl)
          obtain rfl : ab4 = true := hall ⟨4, .phase⟩ (by simp) (by kernel_rfl)
          obtain rfl : ab5 = true := hall ⟨5, .phase⟩ (by simp) (by kernel_rfl)
          obtain rfl : ab6 = true := hall ⟨6, .phase⟩ (by simp) (by kernel_rfl)
          obtain rfl : ab7 = true := hall ⟨7, .phase⟩ (by simp) (by kernel_rfl)
          obtain rfl : ab8 = true := hall ⟨8, .phase⟩ (by simp) (by kernel_rfl)
          obtain rfl : ab9 = true := hall ⟨9, .phase⟩ (by simp) (by kernel_rfl)
          obtain rfl : ab10 = true := hall ⟨10, .data⟩ (by simp) (by kernel_rfl)
          clear hall
          obtain rfl : ab12 = false := Bool.eq_false_iff.2 fun h => Bool.false_ne_true (H.d12 h).2.2.2.2.2.2.2.2.2.2
          have hbe := H.be rfl
          obtain rfl := H.h0 rfl
          obtain rfl := H.h1 rfl
          obtain rfl := H.h2 rfl
          obtain rfl := H.h3 rfl
          obtain rfl := H.h4 rfl
          obtain rfl := H.h5 rfl
          obtain rfl := H.h6 rfl
          obtain rfl := H.h7 rfl
          obtain rfl := H.h8 rfl
          have P9 := H.h9 rfl rfl
          obtain rfl := H.h10 rfl
          refine wpOp_step ho (fun K' hK => ?_)
          have HK := Lib.hid hK
          clear hK ho
          go_simp
          exact HK.out _ _ ⟨_, _, _, _, _, _, _, _, _, _, _, _, _, _, _, _, _, _, _, _, _, _, _, _, _, ax12, rfl, rfl, ⟨(fun _ => hbe), H.d1, H.d4, H.d6, H.d7, H.d8, H.d9, H.d10, (fun _ => ⟨rfl, rfl, rfl, rfl, rfl, rfl, rfl, rfl, rfl, rfl, rfl⟩), (fun h => by cases h), H.h0, H.h1, H.h2, H.h3, H.h4, H.h5, H.h6, H.h7, H.h8, H.h9, H.h10, (fun _ => rfl), (fun h => by cases h)⟩⟩
        · have ho := hoj
          simp only [List.getElem?_toArray, List.getElem?_cons_succ, List.getElem?_cons_zero, Option.some.injEq] at hoj
          subst hoj
          obtain rfl : ab12 = false := hun
          obtain rfl : ab0 = true := hall ⟨0, .phase⟩ (by simp) (by kernel_rfl)
          obtain rfl : ab1 = true := hall ⟨1, .phase⟩ (by simp) (by kernel_rfl)
          obtain rfl : ab2 = true := hall ⟨2, .phase⟩ (by simp) (by kernel_rfl)
          obtain rfl : ab3 = true := hall ⟨3, .phase⟩ (by simp) (by kernel_rfl)
          obtain rfl : ab4 = true := hall ⟨4, .phase⟩ (by simp) (by kernel_rfl)
          obtain rfl : ab5 = true := hall ⟨5, .phase⟩ (by simp) (by kernel_rfl)
          obtain rfl : ab6 = true := hall ⟨6, .phase⟩ (by simp) (by kernel_rfl)
          obtain rfl : ab7 = true := hall ⟨7, .phase⟩ (by simp) (by kernel_rfl)
          obtain rfl : ab8 = true := hall ⟨8, .phase⟩ (by simp) (by kernel_rfl)
          obtain rfl : ab9 = true := hall ⟨9, .data⟩ (by simp) (by kernel_rfl)
          obtain rfl : ab11 = true := hall ⟨11, .data⟩ (by simp) (by kernel_rfl)
          obtain rfl : ab10 = true := (H.d11 rfl).2.2.2.2.2.2.2.2.2.2
          clear hall
          have hbe := H.be rfl
          obtain rfl := H.h0 rfl
          obtain rfl := H.h1 rfl
          obtain rfl := H.h2 rfl
          obtain rfl := H.h3 rfl
          obtain rfl := H.h4 rfl
          obtain rfl := H.h5 rfl
          obtain rfl := H.h6 rfl
          obtain rfl := H.h7 rfl
          obtain rfl := H.h8 rfl
          have P9 := H.h9 rfl rfl
          obtain rfl := H.h10 rfl
          obtain rfl := H.h11 rfl
          obtain ⟨A9, c9, rfl, hu9⟩ := P9
          have HU9 := Lib.hid hu9
          have q3 := HQ4.out _ hbe
          have qf := HFZ.out _ hbe
          have HBE := Lib.hid hbe
          clear hu9
          refine wpOp_step ho (fun K' hK => ?_)
          have HK := Lib.hid hK
          clear hK ho
          go_simp
          exact HK.out _ _ ⟨_, _, _, _, _, _, _, _, _, _, _, _, _, _, _, _, _, _, _, _, _, _, _, _, _, ax12, rfl, rfl, ⟨(fun h => by cases h), H.d1, H.d4, H.d6, H.d7, H.d8, H.d9, H.d10, H.d11, (fun _ => ⟨rfl, rfl, rfl, rfl, rfl, rfl, rfl, rfl, rfl, rfl, rfl⟩), H.h0, H.h1, H.h2, H.h3, H.h4, H.h5, H.h6, H.h7, H.h8, (fun _ h => by cases h), H.h10, H.h11, (fun _ => HST.out _ _ _ HBE.out HU9.out)⟩⟩
        · have ho := hoj
          simp at ho
      case hfin =>
        rintro listed a w ⟨ab0, ab1, ab2, ab3, ab4, ab5, ab6, ab7, ab8, ab9, ab10, ab11, ab12, ax0, ax1, ax2, ax3, ax4, ax5, ax6, ax7, ax8, ax9, ax10, ax11, ax12, rfl, rfl, H⟩ hr
        have hb : ab12 = true := by
          clear H
          obtain rfl : ab0 = true := by
            cases ab0
            · exact absurd hr (ready_neD (by kernel_rfl))
            · rfl
          obtain rfl : ab1 = true := by
            cases ab1
            · exact absurd hr (ready_neD (by kernel_rfl))
            · rfl
          obtain rfl : ab2 = true := by
            cases ab2
            · exact absurd hr (ready_neD (by kernel_rfl))
            · rfl
          obtain rfl : ab3 = true := by
            cases ab3
            · exact absurd hr (ready_neD (by kernel_rfl))
            · rfl
          obtain rfl : ab4 = true := by
            cases ab4
            · exact absurd hr (ready_neD (by kernel_rfl))
            · rfl
          obtain rfl : ab5 = true := by
            cases ab5
            · exact absurd hr (ready_neD (by kernel_rfl))
            · rfl
          obtain rfl : ab6 = true := by
            cases ab6
            · exact absurd hr (ready_neD (by kernel_rfl))
            · rfl
          obtain rfl : ab7 = true := by
            cases ab7
            · exact absurd hr (ready_neD (by kernel_rfl))
            · rfl
          obtain rfl : ab8 = true := by
            cases ab8
            · exact absurd hr (ready_neD (by kernel_rfl))
            · rfl
          obtain rfl : ab9 = true := by
            cases ab9
            · exact absurd hr (ready_neD (by kernel_rfl))
            · rfl
          obtain rfl : ab10 = true := by
            cases ab10
            · exact absurd hr (ready_neD (by kernel_rfl))
            · rfl
          obtain rfl : ab11 = true := by
            cases ab11
            · exact absurd hr (ready_neD (by kernel_rfl))
            · rfl
          obtain rfl : ab12 = true := by
            cases ab12
            · exact absurd hr (ready_neD (by kernel_rfl))
            · rfl
          rfl
        subst hb
        clear hr
        obtain rfl : ab0 = true := (H.d12 rfl).1
        obtain rfl : ab1 = true := (H.d12 rfl).2.1
        obtain rfl : ab2 = true := (H.d12 rfl).2.2.1
        obtain rfl : ab3 = true := (H.d12 rfl).2.2.2.1
        obtain rfl : ab4 = true := (H.d12 rfl).2.2.2.2.1
        obtain rfl : ab5 = true := (H.d12 rfl).2.2.2.2.2.1
        obtain rfl : ab6 = true := (H.d12 rfl).2.2.2.2.2.2.1
        obtain rfl : ab7 = true := (H.d12 rfl).2.2.2.2.2.2.2.1
        obtain rfl : ab8 = true := (H.d12 rfl).2.2.2.2.2.2.2.2.1
        obtain rfl : ab9 = true := (H.d12 rfl).2.2.2.2.2.2.2.2.2.1
        obtain rfl : ab11 = true := (H.d12 rfl).2.2.2.2.2.2.2.2.2.2
        obtain rfl : ab10 = true := (H.d11 rfl).2.2.2.2.2.2.2.2.2.2
        have KN := Lib.hid (H.h12 rfl)
        clear H
        obtain rfl := HK0.out
        rw [← HR.out] at KN
        go_wp2_with fail
        go_roundg (gk - 1)
        case measure => omega
        case rel =>
          obtain ⟨ct2, KN2⟩ := KN.out
          exact ⟨k + 1, ct2, by first | rfl | go_num, by omega, Lib.hid KN2⟩
    · have hkn : k = na := by omega
      subst k
      have BXX := Lib.hid KK.out.box
      have RES := Lib.hid (show X.heap[w.heap.size + 1]? = some (.cells #[.int .i64 0, .slice none 0 0, .int .i64 0, .slice none 0 0, .slice none 0 0] 48 (0, 0)) from by
        have := KK.out.res
        rw [HZZ.out] at this
        exact this)
      have BB := Lib.hid KK.out.b
      have OA := Lib.hid KK.out.own
      have NW := Lib.hid (fun i h1 h2 => KK.out.new i h1 h2 (by rw [← KK.out.len.2]; exact h2))
      have LN := Lib.hid KK.out.len
      have HAX := Lib.hid (fun j (hj : A1 = some ⟨j, 0, none⟩) => OwnE.lt KK.out.own j (own_blk hj))
      clear KK
      obtain ⟨q0, q1, q2, q3, q4⟩ := sp5 BXX.out
      go_wp2_with fail
      refine (HH.out _ BB.out).mono ?_
      rintro e w2 ⟨u2, rfl, o2, b2⟩
      obtain ⟨A2, c2, rfl, _, _, _⟩ := o2.slice
      have hX2 := lt_of_block RES.out
      have R2 := Lib.hid (rsl_st o2 (Nat.le_refl X.heap.size))
      rw [HNH.out] at R2 ⊢
      have B2 := Lib.hid (BB.out.trans (b2.mono BB.out.size))
      have F2 := Lib.hid ((b2.block _ (lt_of_block BXX.out)).trans BXX.out)
      have Z2 := Lib.hid ((b2.block _ (lt_of_block RES.out)).trans RES.out)
      have O2 := Lib.hid (OwnE.later OA.out b2)
      have N2 := Lib.hid (fun i h1 h2 => StS.later (NW.out i h1 h2) b2)
      have hsz2 := b2.size
      clear b2 o2 q0 q1 q2 q3 q4
      obtain ⟨Y2, hY2⟩ : ∃ x, w2.setCell ⟨w.heap.size, 3, none⟩ (.slice A2 nh c2) = x := ⟨_, rfl⟩
      have g2 := gr_set w2 w.heap.size 3 (.slice A2 nh c2)
      have FY2 := Lib.hid ((sp5_set F2.out (.slice A2 nh c2)).2.2.2.1)
      have qf := fun i => bk_frz F2.out i
      obtain ⟨p0, p1, p2, p3, p4⟩ := sp5 F2.out
      rw [hY2] at g2 FY2
      have ZY2 := Lib.hid ((g2.block _ (lt_of_block Z2.out) (by simp)).trans Z2.out)
      have OY2 := Lib.hid (OwnE.kept O2.out g2 (fun e => by have := (OwnE.lt O2.out _ e).1; omega))
      have NY2 := Lib.hid (fun i h1 h2 => StS.on (N2.out i h1 h2) (KpS.gr g2 (Or.inl (show w.heap.size < w.heap.size + 2 by omega))))
      have RY2 := Lib.hid (StS.on R2.out (KpS.gr g2 (show w.heap.size < X.heap.size by omega)))
      have BY2 := Lib.hid (gr_from B2.out B2.out.size (Nat.le_refl _) g2)
      have hszY2 := g2.size
      obtain ⟨q0, q1, q2, q3, q4⟩ := sp5 FY2.out
      clear g2
      go_wp2_with fail
      clear hY2 qf p0 p1 p2 p3 p4
      refine (HK.out _ BY2.out).mono ?_
      rintro e w3 ⟨u3, rfl, o3, b3⟩
      obtain ⟨A3, c3, rfl, _, _, _⟩ := o3.slice
      have HKX := Lib.hid (fun j (hj : A3 = some ⟨j, 0, none⟩) => OwnE.lt o3 j (own_blk hj))
      have O3 := Lib.hid o3
      rw [HNK.out] at O3 ⊢
      have B3 := Lib.hid (BY2.out.trans (b3.mono BY2.out.size))
      have F3 := Lib.hid ((b3.block _ (lt_of_block FY2.out)).trans FY2.out)
      have Z3 := Lib.hid ((b3.block _ (lt_of_block ZY2.out)).trans ZY2.out)
      have OA3 := Lib.hid (OwnE.later OY2.out b3)
      have N3 := Lib.hid (fun i h1 h2 => StS.new (NY2.out i h1 h2) b3)
      have R3 := Lib.hid (StS.new RY2.out b3)
      clear b3 o3 q0 q1 q2 q3 q4
      obtain ⟨Y3, hY3⟩ : ∃ x, w3.setCell ⟨w.heap.size, 4, none⟩ (.slice A3 nk c3) = x := ⟨_, rfl⟩
      have g3 := gr_set w3 w.heap.size 4 (.slice A3 nk c3)
      have FY3 := Lib.hid ((sp5_set F3.out (.slice A3 nk c3)).2.2.2.2)
      have qf := fun i => bk_frz F3.out i
      obtain ⟨p0, p1, p2, p3, p4⟩ := sp5 F3.out
      rw [hY3] at g3 FY3
      have ZY3 := Lib.hid ((g3.block _ (lt_of_block Z3.out) (by simp)).trans Z3.out)
      have OY3 := Lib.hid (OwnE.kept OA3.out g3 (fun e => by have := (OwnE.lt OA3.out _ e).1; omega))
      have KY3 := Lib.hid (OwnE.kept O3.out g3 (fun e => by have := (OwnE.lt O3.out _ e).1; omega))
      have NY3 := Lib.hid (fun i h1 h2 => StS.on (N3.out i h1 h2) (KpS.gr g3 (Or.inl (Or.inl (show w.heap.size < w.heap.size + 2 by omega)))))
      have RY3 := Lib.hid (StS.on R3.out (KpS.gr g3 (Or.inl (show w.heap.size < X.heap.size by omega))))
      have BY3 := Lib.hid (gr_from B3.out B3.out.size (Nat.le_refl _) g3)
      obtain ⟨q0, q1, q2, q3, q4⟩ := sp5 FY3.out
      obtain ⟨z0, z1, z2, z3, z4⟩ := sp5 ZY3.out
      clear g3
      have zf := fun i => bk_frz ZY3.out i
      go_wp2_with fail
      obtain ⟨RY, gp⟩ := sp5_put ZY3.out (.int .i64 nx) (.slice A1 na c1) (.int .i64 tp) (.slice A2 nh c2) (.slice A3 nk c3)
      obtain ⟨r0, r1, r2, r3, r4⟩ := sp5 RY
      refine bodyPost_ret (by simp [results, Try.results48, go_sem, r0, r1, r2, r3, r4]; try rfl) rfl ?_
      refine ⟨A1, c1, A2, c2, A3, c3, ct, rfl, ?_, gr_from BY3.out BY3.out.size (Nat.le_succ _) gp⟩
      refine SpN.low (lo := w.heap.size + 2) ?_ (by omega)
      have hY2X : X.heap.size ≤ Y2.heap.size := Nat.le_trans hsz2 hszY2
      have hS1 : ∀ j, SpS (w.heap.size + 2) A1 A3 j → CpS (w.heap.size + 2) A1 j ∨ Y2.heap.size ≤ j := fun j hj => by
        rcases hj with hj | hj | hj
        · exact .inl (.inl hj)
        · exact .inl (.inr hj)
        · exact .inr (HKX.out j hj).1
      have hS2 : ∀ j, SpS (w.heap.size + 2) A1 A3 j → j < X.heap.size ∨ Y2.heap.size ≤ j := fun j hj => by
        rcases hj with hj | hj | hj
        · exact .inl (by omega)
        · exact .inl (HAX.out j hj).2
        · exact .inr (HKX.out j hj).1
      have kk : KpS (SpS (w.heap.size + 2) A1 A3) Y3 _ := KpS.gr gp (Or.inl (show w.heap.size + 1 < w.heap.size + 2 by omega))
      refine ⟨?_, by rw [LN.out.1, HNA.out], fun i h1 h2 => StS.on (StS.anti (NY3.out i h1 h2) hS1) kk, ?_, ?_, fun j h1 h2 => ?_⟩
      · rw [HNA.out]
        exact OwnE.kept OY3.out gp (fun e => by have := (OwnE.lt OY3.out _ e).1; omega)
      · rw [HNH.out]
        exact StS.on (StS.anti RY3.out hS2) kk
      · rw [HNK.out]
        exact OwnE.low (OwnE.kept KY3.out gp (fun e => by have := (OwnE.lt KY3.out _ e).1; omega)) (by omega)
      · have := (HAX.out j h1).2
        have := (HKX.out j h2).1
        omega
end Go.Proofs.Ytnccibaifffhhaa
