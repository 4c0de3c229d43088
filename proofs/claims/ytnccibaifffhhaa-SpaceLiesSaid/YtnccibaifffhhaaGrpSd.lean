/- Several texts in one. -/
import Derived.Test.YtnccibaifffhhaaGrpSa
import Derived.Test.YtnccibaifffhhaaSnF
import Derived.Test.YtnccibaifffhhaaGrpZj
import Derived.Deep.CutRange
/- slices.Clone of frames, packets, numbers, in package space. -/
namespace Go.Proofs.Ytnccibaifffhhaa
set_option linter.unusedVariables false
open Go.RowKit P

theorem infoF7 : (Try.prog.info? 35).map (fun i => (i.zero, i.size, i.bytes)) = some (some (.agg #[.int .i64 0, .int .i64 0, .int .i64 0, .bool false, .int .i64 0, .slice none 0 0, .slice none 0 0]), 7, 88) := by kernel_rfl
theorem infoP4 : (Try.prog.info? 54).map (fun i => (i.zero, i.size, i.bytes)) = some (some (.agg #[.int .i64 0, .int .i64 0, .int .i64 0, .slice none 0 0]), 4, 48) := by kernel_rfl
theorem cln_frs (A : Option Addr) (n c : Nat) (l : List (Cells 7)) (w : World) (h : RowE fr7 w w.heap.size A l) (hn : l.length = n) (hm : n * 88 ≤ 140737488355328) :
    Calls Try.prog 70 #[.slice A n c] w fun e w' => ∃ u, e = .returned u ∧ OwnE fr7 w' w.heap.size 35 u l ∧ Below w.heap.size w w' := by
  rcases A with _ | a
  · have e0 : l = [] := by
      rcases Nat.eq_zero_or_pos l.length with e | e
      · exact List.eq_nil_of_length_eq_zero e
      · obtain ⟨b, off, e, _⟩ := h e; cases e
    subst e0
    obtain rfl : n = 0 := by rw [← hn]; rfl
    have hnil := fun w => Lib.run_eql_slice_nil (P := Try.prog) w 52 35 none 0 c 0 0 Try.underlying52
    clear h hn
    go_enter Try.func70, Try.ntmps70
    go_wp2
    go_ret
    exact ⟨_, rfl, OwnE.nil _ _ _, Below.refl _ _⟩
  · obtain ⟨i0, hi0, hz0, hz1, hz2⟩ := info_partsE infoF7
    have HI := Lib.hid hi0
    have HZ := Lib.hid hz0
    have HZ1 := Lib.hid hz1
    have HZ2 := Lib.hid hz2
    have H3 := Lib.hid h
    have HN := Lib.hid hn
    clear hi0 hz0 hz1 hz2 h hn
    have hnil := fun w => Lib.run_eql_slice_nil (P := Try.prog) w 52 35 (some a) n c 0 0 Try.underlying52
    go_enter Try.func70, Try.ntmps70
    go_wp2_with (first
      | (at_builtin
         refine wpList_appE _ rfl (.tmp 5) (.tmp 6) _ rfl w.heap.size 35 i0 _ 88 Try.underlying52 HI.out HZ.out HZ1.out HZ2.out rfl (by decide) (.slice (some ⟨w.heap.size, 0, none⟩) 0 0) [] rfl (OwnE.empty w w.heap.size 35 w.heap.size rfl (Nat.le_refl _)) w.heap.size (some a) n c l rfl (H3.out.below ((Below.refl w.heap.size w).alloc (Nat.le_refl _) (.cells #[] 35))) HN.out (by rw [List.length_nil]; omega) (by simp <;> omega) ?_
         intro v1 u1 own1 g1
         have O1 := Lib.hid own1
         have B1 := Lib.hid (((Below.refl w.heap.size w).alloc (Nat.le_refl _) (.cells #[] 35)).grown g1 (by simp <;> omega) (fun k hk => ((OwnE.empty (E := fr7) w w.heap.size 35 w.heap.size rfl (Nat.le_refl _)).lt k hk).1))
         clear own1 g1))
    go_ret
    exact ⟨_, rfl, by simpa using O1.out, B1.out⟩
theorem cln_pcl (A : Option Addr) (n c : Nat) (l : List (Cells 4)) (w : World) (h : RowE pc4 w w.heap.size A l) (hn : l.length = n) (hm : n * 48 ≤ 140737488355328) :
    Calls Try.prog 68 #[.slice A n c] w fun e w' => ∃ u, e = .returned u ∧ OwnE pc4 w' w.heap.size 54 u l ∧ Below w.heap.size w w' := by
  rcases A with _ | a
  · have e0 : l = [] := by
      rcases Nat.eq_zero_or_pos l.length with e | e
      · exact List.eq_nil_of_length_eq_zero e
      · obtain ⟨b, off, e, _⟩ := h e; cases e
    subst e0
    obtain rfl : n = 0 := by rw [← hn]; rfl
    have hnil := fun w => Lib.run_eql_slice_nil (P := Try.prog) w 45 54 none 0 c 0 0 Try.underlying45
    clear h hn
    go_enter Try.func68, Try.ntmps68
    go_wp2
    go_ret
    exact ⟨_, rfl, OwnE.nil _ _ _, Below.refl _ _⟩
  · obtain ⟨i0, hi0, hz0, hz1, hz2⟩ := info_partsE infoP4
    have HI := Lib.hid hi0
    have HZ := Lib.hid hz0
    have HZ1 := Lib.hid hz1
    have HZ2 := Lib.hid hz2
    have H3 := Lib.hid h
    have HN := Lib.hid hn
    clear hi0 hz0 hz1 hz2 h hn
    have hnil := fun w => Lib.run_eql_slice_nil (P := Try.prog) w 45 54 (some a) n c 0 0 Try.underlying45
    go_enter Try.func68, Try.ntmps68
    go_wp2_with (first
      | (at_builtin
         refine wpList_appE _ rfl (.tmp 5) (.tmp 6) _ rfl w.heap.size 54 i0 _ 48 Try.underlying45 HI.out HZ.out HZ1.out HZ2.out rfl (by decide) (.slice (some ⟨w.heap.size, 0, none⟩) 0 0) [] rfl (OwnE.empty w w.heap.size 54 w.heap.size rfl (Nat.le_refl _)) w.heap.size (some a) n c l rfl (H3.out.below ((Below.refl w.heap.size w).alloc (Nat.le_refl _) (.cells #[] 54))) HN.out (by rw [List.length_nil]; omega) (by simp <;> omega) ?_
         intro v1 u1 own1 g1
         have O1 := Lib.hid own1
         have B1 := Lib.hid (((Below.refl w.heap.size w).alloc (Nat.le_refl _) (.cells #[] 54)).grown g1 (by simp <;> omega) (fun k hk => ((OwnE.empty (E := pc4) w w.heap.size 54 w.heap.size rfl (Nat.le_refl _)).lt k hk).1))
         clear own1 g1))
    go_ret
    exact ⟨_, rfl, by simpa using O1.out, B1.out⟩
theorem cln_int (A : Option Addr) (n c : Nat) (l : List (Int)) (w : World) (h : RowE intE w w.heap.size A l) (hn : l.length = n) (hm : n * 8 ≤ 140737488355328) :
    Calls Try.prog 69 #[.slice A n c] w fun e w' => ∃ u, e = .returned u ∧ OwnE intE w' w.heap.size 3 u l ∧ Below w.heap.size w w' := by
  rcases A with _ | a
  · have e0 : l = [] := by
      rcases Nat.eq_zero_or_pos l.length with e | e
      · exact List.eq_nil_of_length_eq_zero e
      · obtain ⟨b, off, e, _⟩ := h e; cases e
    subst e0
    obtain rfl : n = 0 := by rw [← hn]; rfl
    have hnil := fun w => Lib.run_eql_slice_nil (P := Try.prog) w 46 3 none 0 c 0 0 Try.underlying46
    clear h hn
    go_enter Try.func69, Try.ntmps69
    go_wp2
    go_ret
    exact ⟨_, rfl, OwnE.nil _ _ _, Below.refl _ _⟩
  · obtain ⟨i0, hi0, hz0, hz1, hz2⟩ := info_partsE infoI
    have HI := Lib.hid hi0
    have HZ := Lib.hid hz0
    have HZ1 := Lib.hid hz1
    have HZ2 := Lib.hid hz2
    have H3 := Lib.hid h
    have HN := Lib.hid hn
    clear hi0 hz0 hz1 hz2 h hn
    have hnil := fun w => Lib.run_eql_slice_nil (P := Try.prog) w 46 3 (some a) n c 0 0 Try.underlying46
    go_enter Try.func69, Try.ntmps69
    go_wp2_with (first
      | (at_builtin
         refine wpList_appE _ rfl (.tmp 5) (.tmp 6) _ rfl w.heap.size 3 i0 _ 8 Try.underlying46 HI.out HZ.out HZ1.out HZ2.out rfl (by decide) (.slice (some ⟨w.heap.size, 0, none⟩) 0 0) [] rfl (OwnE.empty w w.heap.size 3 w.heap.size rfl (Nat.le_refl _)) w.heap.size (some a) n c l rfl (H3.out.below ((Below.refl w.heap.size w).alloc (Nat.le_refl _) (.cells #[] 3))) HN.out (by rw [List.length_nil]; omega) (by simp <;> omega) ?_
         intro v1 u1 own1 g1
         have O1 := Lib.hid own1
         have B1 := Lib.hid (((Below.refl w.heap.size w).alloc (Nat.le_refl _) (.cells #[] 3)).grown g1 (by simp <;> omega) (fun k hk => ((OwnE.empty (E := intE) w w.heap.size 3 w.heap.size rfl (Nat.le_refl _)).lt k hk).1))
         clear own1 g1))
    go_ret
    exact ⟨_, rfl, by simpa using O1.out, B1.out⟩
theorem rcloneB_any (B : Nat) (v : Value) (zs : List (Int × Int)) (w : World) (hB : B ≤ w.heap.size) (h : RSl w B v zs) (hm : zs.length * 16 ≤ 140737488355328) :
    Calls Try.prog 56 #[v] w fun e w' => ∃ u, e = .returned u ∧ OwnR w' w.heap.size 63 u zs ∧ Below w.heap.size w w' := by
  obtain ⟨A, c, rfl, h1, h2, h3⟩ := h.ex
  rcases A with _ | a
  · have e0 : zs = [] := by
      rcases Nat.eq_zero_or_pos zs.length with e | e
      · exact List.eq_nil_of_length_eq_zero e
      · obtain ⟨b, off, e, _⟩ := h3 e; cases e
    subst e0
    have hnil := fun w => Lib.run_eql_slice_nil (P := Try.prog) w 25 63 none 0 c 0 0 Try.underlying25
    go_enter Try.func56, Try.ntmps56
    go_wp2
    go_ret
    exact ⟨_, rfl, OwnR.nil _ _ _, Below.refl _ _⟩
  · obtain ⟨i0, hi0, hz0, hz1, hz2⟩ := info_parts infoR
    have HI := Lib.hid hi0
    have HZ := Lib.hid hz0
    have HZ1 := Lib.hid hz1
    have HZ2 := Lib.hid hz2
    have H3 := Lib.hid (h3.more hB)
    clear hi0 hz0 hz1 hz2 h3
    have hnil := fun w => Lib.run_eql_slice_nil (P := Try.prog) w 25 63 (some a) zs.length c 0 0 Try.underlying25
    go_enter Try.func56, Try.ntmps56
    go_wp2_with (first
      | (at_builtin
         refine wpList_appR _ rfl (.tmp 5) (.tmp 6) _ rfl w.heap.size 63 i0 _ Try.underlying25 HI.out HZ.out HZ1.out HZ2.out rfl (.slice (some ⟨w.heap.size, 0, none⟩) 0 0) [] rfl (own_mtR w w.heap.size 63 (Nat.le_refl _)) w.heap.size (some a) zs.length c zs rfl (H3.out.below ((Below.refl w.heap.size w).alloc (Nat.le_refl _) (.cells #[] 63))) rfl (by rw [List.length_nil]; omega) (by simp <;> omega) ?_
         intro v1 u1 own1 g1
         have O1 := Lib.hid own1
         have B1 := Lib.hid (((Below.refl w.heap.size w).alloc (Nat.le_refl _) (.cells #[] 63)).grown g1 (by simp <;> omega) (fun k hk => ((own_mtR w w.heap.size 63 (Nat.le_refl _)).lt k hk).1))
         clear own1 g1))
    go_ret
    exact ⟨_, rfl, by simpa using O1.out, B1.out⟩
end Go.Proofs.Ytnccibaifffhhaa
/- Contract of package space: copiedFrames. -/
namespace Go.Proofs.Ytnccibaifffhhaa
set_option linter.unusedVariables false
open Go.RowKit P

/-- a frame's cells -/
theorem fr7_cells {w : World} {B : Nat} {c : Cells 7} {f : Fr} (h : FrVal w B (.agg c.l.toArray) f) : ∃ Ar cr Ad cd, c.l = [.int .i64 f.kind, .int .i64 f.id, .int .i64 f.off, .bool f.fin, .int .i64 f.code, .slice Ar f.rs.length cr, .slice Ad f.data.length cd] ∧ RSl w B (.slice Ar f.rs.length cr) f.rs ∧ BSl w B (.slice Ad f.data.length cd) f.data := by
  obtain ⟨r, d, e, h1, h2⟩ := h.ex
  obtain ⟨Ar, cr, rfl, a1, a2, a3⟩ := h1.ex
  obtain ⟨Ad, cd, rfl, b1, b2, b3, b4⟩ := h2.ex
  refine ⟨Ar, cr, Ad, cd, ?_, ⟨Ar, cr, rfl, a1, a2, a3⟩, ⟨Ad, cd, rfl, b1, b2, b3, b4⟩⟩
  injection e with e
  have := congrArg Array.toList e
  simpa using this
/-- what holds of a frame's two slices -/
structure Fr2 (w : World) (c : Cells 7) (f : Fr) (r d : Value) : Prop where
  l : c.l = [.int .i64 f.kind, .int .i64 f.id, .int .i64 f.off, .bool f.fin, .int .i64 f.code, r, d]
  r : RSl w w.heap.size r f.rs
  d : BSl w w.heap.size d f.data
/-- the frame is copied: its rows lie in new memory, apart from block g -/
def FrNew (w : World) (lo g : Nat) (c : Cells 7) (f : Fr) : Prop := StS w (fun j => j < lo ∨ j = g) (fun w => FrVal w w.heap.size (.agg c.l.toArray) f)
theorem FrNew.on {w w' : World} {lo g : Nat} {c : Cells 7} {f : Fr} (h : FrNew w lo g c f) (k : KpS (fun j => j < lo ∨ j = g) w w') : FrNew w' lo g c f := StS.on h k
theorem rf_st {w : World} {lo g : Nat} {v : Value} {ps : List (Int × Int)} (h : RF w lo v ps) (hg : g < lo) : StS w (fun j => j < lo ∨ j = g) (fun w => RSl w w.heap.size v ps) := fun w' k => h w' ⟨k.size, fun i h1 h2 => k.block i (fun q => by rcases q with q | q <;> omega) h2⟩
theorem bf_st {w : World} {lo g : Nat} {v : Value} {ps : List Int} (h : BF w lo v ps) (hg : g < lo) : StS w (fun j => j < lo ∨ j = g) (fun w => BSl w w.heap.size v ps) := fun w' k => h w' ⟨k.size, fun i h1 h2 => k.block i (fun q => by rcases q with q | q <;> omega) h2⟩
theorem own_blkE {α : Type} {E : Lay α} {w : World} {base g n c : Nat} {e : TypeId} {xs : List α} (h : OwnE E w base e (.slice (some ⟨g, 0, none⟩) n c) xs) : ∃ cur, w.heap[g]? = some (.cells cur e (0, 0)) := by
  rcases h.2 with ⟨e0, _⟩ | ⟨g', cap, cur, ev, _, hh, _⟩
  · cases e0
  · injection ev with ea
    cases ea
    exact ⟨cur, hh⟩
/-- the cells of an own row of frames -/
theorem own7 {w : World} {base g n c : Nat} {e : TypeId} {css : List (Cells 7)} (h : OwnE fr7 w base e (.slice (some ⟨g, 0, none⟩) n c) css) (i k : Nat) (hi : i < css.length) (hk : k < 7) : w.cell? ⟨g, i * 7 + k, none⟩ = (css[i]).l[k]? := by
  obtain ⟨A', c', e1, h1, h2, hr⟩ := h.slice
  injection e1 with e1 e2 e3
  obtain ⟨b, off, e4, _, hc⟩ := hr (by omega)
  rw [← e1] at e4
  cases e4
  have := RowE.at hc i k hi hk
  simpa [fr7, cellLay] using this
/-- between the rounds of copiedFrames -/
structure CpF (w wr : World) (g n cu : Nat) (css : List (Cells 7)) (fs : List Fr) (k : Nat) : Prop where
  own : OwnE fr7 wr w.heap.size 35 (.slice (some ⟨g, 0, none⟩) n cu) css
  b : Below w.heap.size w wr
  len : css.length = n ∧ fs.length = n
  new : ∀ i (h1 : i < css.length) (h2 : i < fs.length), i < k → FrNew wr w.heap.size g css[i] fs[i]
  old : ∀ i (h1 : i < css.length) (h2 : i < fs.length), k ≤ i → FrVal w w.heap.size (.agg (css[i]).l.toArray) fs[i]
theorem CpF.on {w wr w' : World} {g n cu k : Nat} {css : List (Cells 7)} {fs : List Fr} (h : CpF w wr g n cu css fs k) (b : Below wr.heap.size wr w') : CpF w w' g n cu css fs k :=
  ⟨h.own.later b, h.b.trans (b.mono h.b.size), h.len, fun i h1 h2 h3 => (h.new i h1 h2 h3).on (KpS.below b), h.old⟩
/-- one cell of the frame at hand is written -/
theorem CpF.cell {w wr : World} {g n cu k : Nat} {css : List (Cells 7)} {fs : List Fr} (h : CpF w wr g n cu css fs k) (hk : k < css.length) (i : Nat) (hi : i < 7) (u : Value) (hu : u.oneCell' = true) :
    OwnE fr7 (wr.setCell ⟨g, k * 7 + i, none⟩ u) w.heap.size 35 (.slice (some ⟨g, 0, none⟩) n cu) (css.set k ((css[k]).set i u hu)) ∧ Below w.heap.size w (wr.setCell ⟨g, k * 7 + i, none⟩ u) ∧ KpS (fun j => j < w.heap.size ∨ j = g) wr (wr.setCell ⟨g, k * 7 + i, none⟩ u) ∧ w.heap.size ≤ g ∧ g < wr.heap.size := by
  obtain ⟨h1, h2, h3, h4⟩ := own_cell h.own k i hk hi u hu
  exact ⟨h1, gr_from h.b h.b.size h3 h2, KpS.gr h2 (.inr rfl), h3, h4⟩
end Go.Proofs.Ytnccibaifffhhaa
/- Contract of package space: copiedFrames. -/
namespace Go.Proofs.Ytnccibaifffhhaa
set_option linter.unusedVariables false
open Go.RowKit P

theorem own_stE {α : Type} {E : Lay α} {w : World} {base : Nat} {e : TypeId} {v : Value} {xs : List α} (h : OwnE E w base e v xs) : StS w (fun j => j < base) (fun w => OwnE E w base e v xs) := fun w'' k => by
  refine ⟨h.1, ?_⟩
  rcases h.2 with hn | ⟨g, cap, cur, hv, hg, hh, r⟩
  · exact .inl hn
  · exact .inr ⟨g, cap, cur, hv, hg, (k.block g (by omega) (lt_of_block hh)).trans hh, r⟩
/-- all frames are copied -/
theorem CpF.done {w wr : World} {g n cu : Nat} {css : List (Cells 7)} {fs : List Fr} (h : CpF w wr g n cu css fs n) : FsU w.heap.size wr (.slice (some ⟨g, 0, none⟩) n cu) fs := by
  obtain ⟨hl1, hl2⟩ := h.len
  obtain ⟨A', c', e1, h1, h2, _⟩ := h.own.slice
  injection e1 with e1 e2 e3
  intro w'' k
  obtain ⟨A2, c2, e4, _, _, hr⟩ := (own_stE h.own w'' k).slice
  injection e4 with e4 e5 e6
  refine ⟨some ⟨g, 0, none⟩, cu, css, by rw [hl2], by omega, by omega, by rw [e4]; exact hr, All2.of (by omega) fun i q1 q2 => ?_⟩
  exact StS.anti (h.new i q1 q2 (by omega)) (fun j hj => .inl hj) w'' k
/-- a round -/
theorem CpF.step {w X w2 W3 w4 W5 : World} {g n cu k : Nat} {ct : List (Cells 7)} {fs : List Fr} {c3 c5 : Cells 7} {u2 u4 : Value} (h : CpF w X g n cu ct fs k) (hk : k < ct.length) (hkf : k < fs.length) (b2 : Below X.heap.size X w2) (k3 : KpS (fun j => j < w.heap.size ∨ j = g) w2 W3) (b4 : Below W3.heap.size W3 w4) (k5 : KpS (fun j => j < w.heap.size ∨ j = g) w4 W5)
    (own : OwnE fr7 W5 w.heap.size 35 (.slice (some ⟨g, 0, none⟩) n cu) ((ct.set k c3).set k c5)) (B5 : Below w.heap.size w W5) (hc : c5.l = [.int .i64 (fs[k]).kind, .int .i64 (fs[k]).id, .int .i64 (fs[k]).off, .bool (fs[k]).fin, .int .i64 (fs[k]).code, u2, u4])
    (hr : StS W5 (fun j => j < w.heap.size ∨ j = g) (fun w => RSl w w.heap.size u2 (fs[k]).rs)) (hd : StS W5 (fun j => j < w.heap.size ∨ j = g) (fun w => BSl w w.heap.size u4 (fs[k]).data)) : CpF w W5 g n cu ((ct.set k c3).set k c5) fs (k + 1) := by
  have kk : KpS (fun j => j < w.heap.size ∨ j = g) X W5 := ((KpS.below b2).trans (k3.trans (KpS.below b4))).trans k5
  refine ⟨own, B5, by rw [List.length_set, List.length_set]; exact h.len, fun i h1 h2 h3 => ?_, fun i h1 h2 h3 => ?_⟩
  · by_cases e : i = k
    · subst e
      rw [List.getElem_set_self]
      intro w' q
      rw [hc]
      exact ⟨u2, u4, rfl, hr w' q, hd w' q⟩
    · rw [List.getElem_set_ne (fun q => e q.symm), List.getElem_set_ne (fun q => e q.symm)]
      rw [List.length_set, List.length_set] at h1
      exact (h.new i h1 h2 (by omega)).on kk
  · rw [List.getElem_set_ne (by omega), List.getElem_set_ne (by omega)]
    rw [List.length_set, List.length_set] at h1
    exact h.old i h1 h2 (by omega)
set_option maxRecDepth 100000 in
set_option maxHeartbeats 2000000 in
theorem cpFrames_any (v : Value) (fs : List Fr) (w : World) (hv : FsSl w w.heap.size v fs) (hw : FrsWf fs) : Calls Try.prog 49 #[v] w fun e w' => ∃ u, e = .returned u ∧ FsU w.heap.size w' u fs ∧ Below w.heap.size w w' := by
  obtain ⟨A, c, css, rfl, h1, h2, h3, h4⟩ := hv.ex
  have hlen := h4.len
  have hn88 := hw.n
  have HC := Lib.hid (cln_frs A fs.length c css w h3 hlen hn88)
  have HO := Lib.hid (fun i (q1 : i < css.length) (q2 : i < fs.length) => h4.at i q1 q2)
  have HWF := Lib.hid hw.f
  have HLN := Lib.hid hlen
  obtain ⟨n, hn⟩ : ∃ n, fs.length = n := ⟨_, rfl⟩
  have HN := Lib.hid hn
  rw [hn] at HC ⊢
  have hnm : n ≤ 1599289640401 := by omega
  clear hv hw h1 h2 h3 h4 hlen hn88 hn
  go_enter Try.func49, Try.ntmps49
  go_wp2_with fail
  refine (HC.out).mono ?_
  rintro e w1 ⟨u, rfl, ho, b1⟩
  have OU := Lib.hid ho
  have B1 := Lib.hid b1
  obtain ⟨Au, cu, hu, hu1, hu2, _⟩ := ho.slice
  rw [HLN.out, HN.out] at hu hu1
  subst hu
  by_cases hz : n = 0
  · subst hz
    have hfs : fs = [] := List.eq_nil_of_length_eq_zero HN.out
    clear ho b1 hu1 HC
    go_wp2_with fail
    go_loopg [8] 0 (fun gq iv wr => iv = .int .i64 0 ∧ Hid (wr = w1))
    case atStart => exact ⟨rfl, Lib.hid rfl⟩
    case round =>
      obtain ⟨rfl, HW⟩ := hrel
      obtain rfl := HW.out
      go_wp2_with fail
      go_ret
      exact ⟨_, rfl, by subst hfs; exact fun w'' k => ⟨Au, cu, [], rfl, Nat.zero_le _, hu2, RowE.nil _ _ _, trivial⟩, B1.out⟩
  obtain ⟨g, hg⟩ : ∃ g, Au = some ⟨g, 0, none⟩ := by
    rcases ho.2 with ⟨e0, h0⟩ | ⟨g, cap, cur, ev, _⟩
    · injection e0 with _ e0; omega
    · injection ev with ea; exact ⟨g, ea⟩
  subst hg
  have K0 := Lib.hid (show CpF w w1 g n cu css fs 0 from ⟨OU.out, B1.out, ⟨by rw [HLN.out, HN.out], HN.out⟩, fun i _ _ h => by omega, fun i q1 q2 _ => HO.out i q1 q2⟩)
  clear ho b1 hu1 hu2 HC OU B1
  go_wp2_with fail
  go_loopg [8] n (fun gq iv wr => ∃ (k : Nat) (css : List (Cells 7)), iv = .int .i64 k ∧ k + gq = n ∧ Hid (CpF w wr g n cu css fs k))
  case atStart => exact ⟨0, css, rfl, by omega, K0⟩
  case round =>
    obtain ⟨k, ct, rfl, hk, KK⟩ := hrel
    obtain ⟨X, hX⟩ : ∃ X, X = wr := ⟨_, rfl⟩
    subst hX
    by_cases hlt : k < n
    · have hkc : k < ct.length := by rw [KK.out.len.1]; exact hlt
      have hkf : k < fs.length := by rw [KK.out.len.2]; exact hlt
      have hfv := KK.out.old k hkc hkf (Nat.le_refl _)
      have hwf := HWF.out _ (List.getElem_mem hkf)
      obtain ⟨cc, hcc⟩ : ∃ c, ct[k] = c := ⟨_, rfl⟩
      obtain ⟨f, hf⟩ : ∃ f, fs[k] = f := ⟨_, rfl⟩
      rw [hcc, hf] at hfv
      rw [hf] at hwf
      obtain ⟨Ar, cr, Ad, cd, hl, hr, hd⟩ := fr7_cells hfv
      have a5 := own7 KK.out.own k 5 hkc (by decide)
      have a6 := own7 KK.out.own k 6 hkc (by decide)
      rw [hcc, hl] at a5 a6
      simp only [List.getElem?_cons_zero, List.getElem?_cons_succ] at a5 a6
      have HR := Lib.hid ((hr.below KK.out.b).more KK.out.b.size)
      have HD := Lib.hid ((hd.below KK.out.b).more KK.out.b.size)
      obtain ⟨nr, hnr⟩ : ∃ n, f.rs.length = n := ⟨_, rfl⟩
      obtain ⟨nd, hnd⟩ : ∃ n, f.data.length = n := ⟨_, rfl⟩
      have HNR := Lib.hid hnr
      have HND := Lib.hid hnd
      rw [hnr] at a5 HR hwf
      rw [hnd] at a6 HD hwf
      have HL := Lib.hid hl
      have HCC := Lib.hid hcc
      have HF := Lib.hid hf
      have hki : (k : Int) < (n : Int) := by omega
      have hwr := hwf.2.1
      have hwd := hwf.2.2
      have HBY := Lib.hid hd
      clear hfv hwf hl hr hd hnr hnd hcc hf
      go_wp2_with fail
      refine (rcloneB_any X.heap.size _ f.rs X (Nat.le_refl _) HR.out (by rw [HNR.out]; exact hwr)).mono ?_
      rintro e w2 ⟨u2, rfl, o2, b2⟩
      obtain ⟨Au2, cu2, hu2, _, _, _⟩ := o2.slice
      have RF2 := Lib.hid (rf_own o2 (Nat.le_refl _))
      rw [HNR.out] at hu2
      subst hu2
      have K2 := Lib.hid (KK.out.on b2)
      have B2 := Lib.hid b2
      have HX2 := Lib.hid b2.size
      clear o2 b2 a5 a6
      obtain ⟨h3, h4, h5, h6, h7⟩ := K2.out.cell hkc 5 (by decide) (.slice Au2 nr cu2) rfl
      obtain ⟨cur2, hcur2⟩ := own_blkE K2.out.own
      have q5 := own7 K2.out.own k 5 hkc (by decide)
      rw [HCC.out, HL.out] at q5
      simp only [List.getElem?_cons_zero, List.getElem?_cons_succ] at q5
      have qf := fun i => bk_frz hcur2 i
      have O3 := Lib.hid h3
      have B3 := Lib.hid h4
      have KP3 := Lib.hid h5
      have HG := Lib.hid h6
      have HG7 := Lib.hid h7
      clear h3 h4 h5 h6 h7 hcur2 cur2
      go_upto_region 6 with fail
      clear q5 qf
      obtain ⟨W3, hW3⟩ : ∃ W, w2.setCell ⟨g, k * 7 + 5, none⟩ (.slice Au2 nr cu2) = W := ⟨_, rfl⟩
      rw [hW3] at O3 B3 KP3
      try rw [hW3]
      clear hW3
      obtain ⟨c3, hc3⟩ : ∃ c, (ct[k]).set 5 (.slice Au2 nr cu2) rfl = c := ⟨_, rfl⟩
      have hl3 : c3.l = [.int .i64 f.kind, .int .i64 f.id, .int .i64 f.off, .bool f.fin, .int .i64 f.code, .slice Au2 nr cu2, .slice Ad nd cd] := by
        rw [← hc3]
        show (ct[k]).l.set 5 (.slice Au2 nr cu2) = _
        rw [HCC.out, HL.out]
        simp [HND.out]
      rw [hc3] at O3
      have hk3 : k < (ct.set k c3).length := by rw [List.length_set]; exact hkc
      have a6 := own7 O3.out k 6 hk3 (by decide)
      rw [List.getElem_set_self, hl3] at a6
      simp only [List.getElem?_cons_zero, List.getElem?_cons_succ] at a6
      have HL3 := Lib.hid hl3
      have HD3 := Lib.hid ((HBY.out.below B3.out).more B3.out.size)
      rw [HND.out] at HD3
      have HB := Lib.hid (show Byt f.data from by obtain ⟨_, _, _, _, _, _, hh⟩ := HBY.out.ex; exact hh.1)
      clear hl3 hc3
      go_wp2_with fail
      refine (bclone_any W3.heap.size _ f.data W3 (Nat.le_refl _) HD3.out (by rw [HND.out]; exact hwd)).mono ?_
      rintro e w4 ⟨u4, rfl, o4, b4⟩
      obtain ⟨Au4, cu4, hu4, _, _, _, _⟩ := (own_bsl o4 HB.out).ex
      have BF4 := Lib.hid (bf_own o4 HB.out (Nat.le_refl _))
      rw [HND.out] at hu4
      subst hu4
      have O4 := Lib.hid (O3.out.later b4)
      have B4 := Lib.hid (B3.out.trans (b4.mono B3.out.size))
      have BB4 := Lib.hid b4
      clear o4 b4 a6
      obtain ⟨h3, h4, h5, h6⟩ := own_cell O4.out k 6 hk3 (by decide) (.slice Au4 nd cu4) rfl
      obtain ⟨cur4, hcur4⟩ := own_blkE O4.out
      have q6 := own7 O4.out k 6 hk3 (by decide)
      rw [List.getElem_set_self, HL3.out] at q6
      simp only [List.getElem?_cons_zero, List.getElem?_cons_succ] at q6
      have qf := fun i => bk_frz hcur4 i
      have hg3 : g < W3.heap.size := Nat.lt_of_lt_of_le HG7.out KP3.out.size
      have KP5 := Lib.hid (KpS.gr (S := fun j => j < w.heap.size ∨ j = g) h4 (.inr rfl))
      have B5 := Lib.hid (gr_from B4.out B4.out.size HG.out h4)
      have O5 := Lib.hid h3
      obtain ⟨W5, hW5⟩ : ∃ W, w4.setCell ⟨g, k * 7 + 6, none⟩ (.slice Au4 nd cu4) = W := ⟨_, rfl⟩
      have HW5 := Lib.hid hW5
      rw [hW5] at O5 KP5 B5
      have KN := Lib.hid (KK.out.step hkc hkf B2.out KP3.out BB4.out KP5.out O5.out B5.out (u2 := .slice Au2 nr cu2) (u4 := .slice Au4 nd cu4) (by
          show ((ct.set k c3)[k]).l.set 6 (.slice Au4 nd cu4) = _
          rw [List.getElem_set_self, HL3.out, HF.out]
          simp)
        (by rw [HF.out]; exact (((rf_st RF2.out (Nat.lt_of_lt_of_le (by have := lt_of_block (own_blkE KK.out.own).choose_spec; exact this) (Nat.le_refl _))).anti (S' := fun j => j < w.heap.size ∨ j = g) (fun j hj => by rcases hj with hj | hj; exact .inl (Nat.lt_of_lt_of_le hj KK.out.b.size); exact .inr hj)).on (KP3.out.trans ((KpS.below BB4.out).trans KP5.out))))
        (by rw [HF.out]; exact (((bf_st BF4.out hg3).anti (S' := fun j => j < w.heap.size ∨ j = g) (fun j hj => by rcases hj with hj | hj; exact .inl (Nat.lt_of_lt_of_le hj B3.out.size); exact .inr hj)).on KP5.out)))
      clear h3 h4 h5 h6 hcur4 cur4 hW5 hg3
      go_wp2_with fail
      go_roundg (gk - 1)
      case measure => omega
      case rel => exact ⟨k + 1, _, by first | rfl | go_num, by omega, by rw [HW5.out]; exact KN⟩
    · obtain rfl : k = n := by omega
      obtain rfl : gk = 0 := by omega
      go_wp2_with fail
      go_ret
      exact ⟨_, rfl, KK.out.done, KK.out.b⟩
end Go.Proofs.Ytnccibaifffhhaa
/- A space in new memory whose packets and skipped numbers are rows of its own. -/
namespace Go.Proofs.Ytnccibaifffhhaa
set_option linter.unusedVariables false
open Go.RowKit P

/-- an own row stays as it is as long as its block does -/
theorem own_stX {α : Type} {E : Lay α} {w : World} {base : Nat} {e : TypeId} {v : Value} {xs : List α} {S : Nat → Prop} (h : OwnE E w base e v xs) (hS : ∀ g, v.ownBlock = some g → ¬ S g) : StS w S (fun w => OwnE E w base e v xs) := fun w'' k => by
  refine ⟨h.1, ?_⟩
  rcases h.2 with hn | ⟨g, cap, cur, hv, hg, hh, r⟩
  · exact .inl hn
  · exact .inr ⟨g, cap, cur, hv, hg, (k.block g (hS g (by rw [hv]; rfl)) (lt_of_block hh)).trans hh, r⟩
theorem own_blk {A : Option Addr} {n c j : Nat} (h : A = some ⟨j, 0, none⟩) : (Value.slice A n c).ownBlock = some j := by rw [h]; rfl
theorem own_at {α : Type} {E : Lay α} {w : World} {base n c : Nat} {A : Option Addr} {e : TypeId} {xs : List α} (h : OwnE E w base e (.slice A n c) xs) {g : Nat} (hg : (Value.slice A n c).ownBlock = some g) : A = some ⟨g, 0, none⟩ := by
  rcases h.2 with ⟨hn, _⟩ | ⟨g', cap, cur, hv, _⟩
  · injection hn with ha hb
    subst ha
    cases hg
  · injection hv with ha
    subst ha
    cases hg
    rfl
/-- the blocks that may change: those below lo, and the two rows' own -/
def SpS (lo : Nat) (Au Ku : Option Addr) : Nat → Prop := fun j => j < lo ∨ Au = some ⟨j, 0, none⟩ ∨ Ku = some ⟨j, 0, none⟩
structure SpN (lo : Nat) (w : World) (Au : Option Addr) (cu : Nat) (Hu : Option Addr) (cv : Nat) (Ku : Option Addr) (cw : Nat) (css : List (Cells 4)) (s : Sp) : Prop where
  own : OwnE pc4 w lo 54 (.slice Au s.sent.length cu) css
  len : css.length = s.sent.length
  cells : ∀ i (h1 : i < css.length) (h2 : i < s.sent.length), StS w (SpS lo Au Ku) (fun w => PcC w w.heap.size css[i] s.sent[i])
  h : StS w (SpS lo Au Ku) (fun w => RSl w w.heap.size (.slice Hu s.heard.length cv) s.heard)
  kown : OwnE intE w lo 3 (.slice Ku s.skip.length cw) s.skip
  ne : ∀ j, Au = some ⟨j, 0, none⟩ → Ku ≠ some ⟨j, 0, none⟩
theorem SpN.on {lo : Nat} {w w' : World} {Au Hu Ku : Option Addr} {cu cv cw : Nat} {css : List (Cells 4)} {s : Sp} (q : SpN lo w Au cu Hu cv Ku cw css s) (k : KpS (fun j => j < lo) w w') : SpN lo w' Au cu Hu cv Ku cw css s :=
  have k' : KpS (SpS lo Au Ku) w w' := k.mono fun j hj => .inl hj
  ⟨own_stE q.own w' k, q.len, fun i h1 h2 => StS.on (q.cells i h1 h2) k', StS.on q.h k', own_stE q.kown w' k, q.ne⟩
theorem SpN.low {lo lo' : Nat} {w : World} {Au Hu Ku : Option Addr} {cu cv cw : Nat} {css : List (Cells 4)} {s : Sp} (q : SpN lo w Au cu Hu cv Ku cw css s) (hl : lo' ≤ lo) : SpN lo' w Au cu Hu cv Ku cw css s :=
  have hs : ∀ j, SpS lo' Au Ku j → SpS lo Au Ku j := fun j hj => by
    rcases hj with hj | hj
    · exact .inl (Nat.lt_of_lt_of_le hj hl)
    · exact .inr hj
  ⟨q.own.low hl, q.len, fun i h1 h2 => StS.anti (q.cells i h1 h2) hs, StS.anti q.h hs, q.kown.low hl, q.ne⟩
/-- the packets of an own row -/
theorem pl_own {lo : Nat} {w : World} {Au : Option Addr} {n cu : Nat} {css : List (Cells 4)} {ps : List Pcl} {S : Nat → Prop} (h : OwnE pc4 w lo 54 (.slice Au n cu) css) (hl : css.length = ps.length) (hn : ps.length = n) (hc : ∀ i (h1 : i < css.length) (h2 : i < ps.length), StS w S (fun w => PcC w w.heap.size css[i] ps[i])) (hS : ∀ g, Au = some ⟨g, 0, none⟩ → ¬ S g) : StS w S (fun w => PlSl w w.heap.size (.slice Au n cu) ps) := by
  intro w'' k
  obtain ⟨A', c', e1, h1, h2, hr⟩ := (own_stX h (fun g hg => hS g (own_at h hg)) w'' k).slice
  injection e1 with e1 e2 e3
  refine ⟨Au, cu, css, by rw [hn], by omega, by omega, by rw [e1]; exact hr, All2.of (by omega) fun i q1 q2 => hc i q1 q2 w'' k⟩
theorem ints_own {lo : Nat} {w : World} {e : TypeId} {Ku : Option Addr} {n cw : Nat} {zs : List Int} {S : Nat → Prop} (h : OwnE intE w lo e (.slice Ku n cw) zs) (hS : ∀ g, Ku = some ⟨g, 0, none⟩ → ¬ S g) : StS w S (fun w => ISl w w.heap.size (.slice Ku n cw) zs) := by
  intro w'' k
  obtain ⟨A', c', e1, h1, h2, hr⟩ := (own_stX h (fun g hg => hS g (own_at h hg)) w'' k).slice
  exact ⟨A', c', e1, h1, h2, hr⟩
theorem SpN.toU {lo : Nat} {w : World} {Au Hu Ku : Option Addr} {cu cv cw : Nat} {css : List (Cells 4)} {s : Sp} (q : SpN lo w Au cu Hu cv Ku cw css s) : SpU lo w (.agg #[.int .i64 s.next, .slice Au s.sent.length cu, .int .i64 s.top, .slice Hu s.heard.length cv, .slice Ku s.skip.length cw]) s := fun w' k => by
  refine ⟨_, _, _, rfl, ?_, ?_, ?_⟩
  · refine pl_own q.own q.len rfl (S := fun j => j < lo) (fun i h1 h2 => StS.anti (q.cells i h1 h2) fun j hj => .inl hj) (fun g hg => ?_) w' k
    have := (OwnE.lt q.own g (own_blk hg)).1
    omega
  · exact StS.anti q.h (fun j hj => .inl hj) w' k
  · refine ints_own q.kown (S := fun j => j < lo) (fun g hg => ?_) w' k
    have := (OwnE.lt q.kown g (own_blk hg)).1
    omega
theorem SpN.nil (lo : Nat) (w : World) : SpN lo w none 0 none 0 none 0 [] sp0 := ⟨OwnE.nil _ _ _, rfl, fun i h1 => by simp at h1, fun _ _ => RSl.nil _ _, OwnE.nil _ _ _, fun j h => by cases h⟩
theorem SpN.same {lo : Nat} {w : World} {Au Hu Ku : Option Addr} {cu cv cw : Nat} {css : List (Cells 4)} {s t : Sp} (q : SpN lo w Au cu Hu cv Ku cw css s) (h1 : t.sent = s.sent) (h2 : t.heard = s.heard) (h3 : t.skip = s.skip) : SpN lo w Au cu Hu cv Ku cw css t := by
  obtain ⟨k1, k2, k3, k4, k5, k6⟩ := q
  cases t
  dsimp only at h1 h2 h3
  subst h1 h2 h3
  exact ⟨k1, k2, k3, k4, k5, k6⟩
theorem ints_cut {lo : Nat} {w : World} {e : TypeId} {g n c d : Nat} {zs : List Int} (h : OwnE intE w lo e (.slice (some ⟨g, 0, none⟩) n c) zs) (hn : zs.length = n) (hd : d < n) : StS w (fun j => j < lo) (fun w => ISl w w.heap.size (.slice (some ⟨g, d, none⟩) (n - d) (c - d)) (zs.drop d)) := by
  intro w'' k
  obtain ⟨A', c', e1, h1, h2, hr⟩ := (own_stE h w'' k).slice
  injection e1 with e1 e2 e3
  subst e1
  subst e3
  refine ⟨some ⟨g, d, none⟩, c - d, by rw [List.length_drop, hn], by rw [List.length_drop]; omega, by omega, ?_⟩
  have := hr.cut d c h1
  rw [if_neg (by omega)] at this
  rcases Nat.eq_zero_or_pos d with q | q
  · subst q
    simpa [intE, Addr.add] using this
  · simpa [intE, Addr.add, Nat.pos_iff_ne_zero.1 q] using this
/-- an answer of Quiet, in its parts -/
structure SpQuietN (r : Sp × Int × Int) (w : World) (e : Ending) (w' : World) : Prop where
  be : Below w.heap.size w w'
  ex : ∃ Au cu Hu cv Ku cw css, e = .returned (.tuple #[.agg #[.int .i64 r.1.next, .slice Au r.1.sent.length cu, .int .i64 r.1.top, .slice Hu r.1.heard.length cv, .slice Ku r.1.skip.length cw], .int .i64 r.2.1, .int .i64 r.2.2]) ∧ SpN w.heap.size w' Au cu Hu cv Ku cw css r.1
theorem SpQuietN.toU {r : Sp × Int × Int} {w : World} {e : Ending} {w' : World} (h : SpQuietN r w e w') : SpSendU r w e w' := by
  obtain ⟨be, _, _, _, _, _, _, _, e, q⟩ := h
  exact ⟨be, _, e, q.toU⟩
end Go.Proofs.Ytnccibaifffhhaa
