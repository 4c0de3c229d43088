/- Contract of package space: Check. -/
import Derived.Test.YtnccibaifffhhaaGrpSe
import Derived.Test.YtnccibaifffhhaaRngChk
import Derived.Test.YtnccibaifffhhaaGrpC
import Derived.Deep.CutRange
namespace Go.Proofs.Ytnccibaifffhhaa
set_option linter.unusedVariables false
open Go.RowKit P

theorem bk5P {w : World} {b : Nat} {a0 a1 a2 a3 a4 : Value} {T : TypeId} (h : w.heap[b]? = some (.cells #[a0, a1, a2, a3, a4] T (0, 0))) :
    w.cell? ⟨b, 0, none⟩ = some a0 ∧ w.cell? ⟨b, 1, none⟩ = some a1 ∧ w.cell? ⟨b, 2, none⟩ = some a2 ∧ w.cell? ⟨b, 3, none⟩ = some a3 ∧ w.cell? ⟨b, 4, none⟩ = some a4 := ⟨bk_cell h 0, bk_cell h 1, bk_cell h 2, bk_cell h 3, bk_cell h 4⟩
/-- what Check asks first, and then -/
def c1P (s : Sp) : Prop := (0 ≤ s.next ∧ s.next ≤ 4611686018427387903) ∧ -1 ≤ s.top ∧ s.top < s.next
def c2P (s : Sp) : Prop := s.sent.length ≤ 24 ∧ (∀ p ∈ s.sent, sentOk p) ∧ riseF (-1) (nums s.sent) s.next
def c3P (s : Sp) : Prop := s.heard.length ≤ 6 ∧ okL s.heard
def c4P (s : Sp) : Prop := s.skip.length ≤ 6 ∧ riseF (-1) s.skip s.next
def c5P (s : Sp) : Prop := (nums s.sent ++ [s.top]).any (fun x => decide (x ∈ s.skip)) = false
theorem okSp_parts (s : Sp) : okSp s ↔ c1P s ∧ c2P s ∧ c3P s ∧ c4P s ∧ c5P s := by
  have h5 : c5P s ↔ s.top ∉ s.skip ∧ ∀ n ∈ nums s.sent, n ∉ s.skip := by
    unfold c5P
    rw [← Bool.not_eq_true, List.any_eq_true]
    constructor
    · intro h
      refine ⟨fun q => h ⟨s.top, by simp, by simpa using q⟩, fun n hn q => h ⟨n, by simp [hn], by simpa using q⟩⟩
    · rintro ⟨h1, h2⟩ ⟨n, hn, q⟩
      rcases List.mem_append.1 hn with hn | hn
      · exact h2 n hn (by simpa using q)
      · obtain rfl : n = s.top := by simpa using hn
        exact h1 (by simpa using q)
  rw [h5]
  unfold okSp c1P c2P c3P c4P
  constructor
  · rintro ⟨k1, k2, k3, k4, k5, k6, k7, k8, k9, k10, k11⟩
    exact ⟨⟨k1, k2⟩, ⟨k3, k4, k5⟩, ⟨k6, k7⟩, ⟨k8, k9⟩, k10, k11⟩
  · rintro ⟨⟨k1, k2⟩, ⟨k3, k4, k5⟩, ⟨k6, k7⟩, ⟨k8, k9⟩, k10, k11⟩
    exact ⟨k1, k2, k3, k4, k5, k6, k7, k8, k9, k10, k11⟩
theorem fault9 {s : Sp} (h : ¬(c1P s ∧ c2P s ∧ c3P s ∧ c4P s ∧ c5P s)) : faultSp s = 9 := by unfold faultSp; rw [if_neg fun q => h ((okSp_parts s).1 q)]
theorem fault0 {s : Sp} (h : c1P s ∧ c2P s ∧ c3P s ∧ c4P s ∧ c5P s) : faultSp s = 0 := (faultSp_iff s).2 ((okSp_parts s).2 h)
theorem ready_neC {l : List Nat} (h : l.isEmpty = false) : l ≠ [] := by
  intro e
  rw [e] at h
  cases h
structure SpCk0 (w0 : World) (k0 : Nat) (nx : Int) (Aa : Option Addr) (na ca : Nat) (V0 V1 V2 V3 V4 V5 V6 V7 V8 V9 V10 V11 V12 V13 V14 V15 V16 V17 V18 V19 : Value) (ab0 ab1 ab2 ab3 ab4 ab5 ab6 ab7 ab8 ab9 ab10 ab11 ab12 ab13 ab14 ab15 ab16 ab17 ab18 ab19 : Bool) (ax0 ax1 ax2 ax3 ax4 ax5 ax6 ax7 ax8 ax9 ax10 ax11 ax12 ax13 ax14 ax15 ax16 ax17 ax18 ax19 : Value) (w : World) : Prop where
  be : Below w0.heap.size w0 w
  d1 : ab1 = true → ab0 = true
  d2 : ab2 = true → ab1 = true
  d3 : ab3 = true → ab2 = true
  d4 : ab4 = true → ab3 = true
  d5 : ab5 = true → ab4 = true
  d6 : ab6 = true → ab4 = true ∧ ab5 = true
  d7 : ab7 = true → ab4 = true ∧ ab6 = true
  d8 : ab8 = true → ab4 = true ∧ ab7 = true
  d9 : ab9 = true → ab4 = true ∧ ab8 = true
  d10 : ab10 = true → ab7 = true ∧ ab9 = true
  d11 : ab11 = true → ab10 = true
  d12 : ab12 = true → ab10 = true ∧ ab11 = true
  d13 : ab13 = true → ab10 = true ∧ ab12 = true
  d14 : ab14 = true → ab10 = true
  d15 : ab15 = true → ab10 = true ∧ ab14 = true
  d16 : ab16 = true → ab10 = true ∧ ab13 = true ∧ ab15 = true
  d17 : ab17 = true → ab10 = true ∧ ab16 = true
  d18 : ab18 = true → ab10 = true ∧ ab17 = true
  d19 : ab19 = true → ab16 = true ∧ ab18 = true
  h0 : ab0 = true → ax0 = V0
  h1 : ab1 = true → ax1 = V1
  h2 : ab2 = true → ax2 = V2
  h3 : ab3 = true → ax3 = V3
  h4 : ab4 = true → ax4 = V4
  h5 : ab5 = true → ax5 = V5
  h6 : ab6 = true → ax6 = V6
  h7 : ab7 = true → ax7 = V7
  h8 : ab8 = true → ax8 = V8
  h9 : ab9 = true → ax9 = V9
  h10 : ab10 = true → ax10 = V10
  h11 : ab11 = true → ax11 = V11
  h12 : ab12 = true → ax12 = V12
  h13 : ab13 = true → ax13 = V13
  h14 : ab14 = true → ax14 = V14
  h15 : ab15 = true → ax15 = V15
  h16 : ab16 = true → ax16 = V16
  h17 : ab17 = true → ax17 = V17
  h18 : ab18 = true → ax18 = V18
  h19 : ab19 = true → ax19 = V19
structure SpCk1 (w0 : World) (k0 : Nat) (nx : Int) (Aa : Option Addr) (na ca : Nat) (V0 V1 V2 V3 V4 V5 V6 V7 V8 V9 V10 V11 V12 V13 V14 V15 V16 V17 V18 V19 : Value) (bb0 bb1 bb2 bb3 bb4 bb5 bb6 bb7 bb8 bb9 bb10 bb11 bb12 bb13 bb14 bb15 bb16 bb17 bb18 bb19 : Bool) (bx0 bx1 bx2 bx3 bx4 bx5 bx6 bx7 bx8 bx9 bx10 bx11 bx12 bx13 bx14 bx15 bx16 bx17 bx18 bx19 : Value) (w : World) : Prop where
  be : Below w0.heap.size w0 w
  d1 : bb1 = true → bb0 = true
  d2 : bb2 = true → bb1 = true
  d3 : bb3 = true → bb2 = true
  d4 : bb4 = true → bb3 = true
  d5 : bb5 = true → bb4 = true
  d6 : bb6 = true → bb4 = true ∧ bb5 = true
  d7 : bb7 = true → bb4 = true ∧ bb6 = true
  d8 : bb8 = true → bb4 = true ∧ bb7 = true
  d9 : bb9 = true → bb4 = true ∧ bb8 = true
  d10 : bb10 = true → bb7 = true ∧ bb9 = true
  d11 : bb11 = true → bb10 = true
  d12 : bb12 = true → bb10 = true ∧ bb11 = true
  d13 : bb13 = true → bb10 = true ∧ bb12 = true
  d14 : bb14 = true → bb10 = true
  d15 : bb15 = true → bb10 = true ∧ bb14 = true
  d16 : bb16 = true → bb10 = true ∧ bb13 = true ∧ bb15 = true
  d17 : bb17 = true → bb10 = true ∧ bb16 = true
  d18 : bb18 = true → bb10 = true ∧ bb17 = true
  d19 : bb19 = true → bb16 = true ∧ bb18 = true
  h0 : bb0 = true → bx0 = V0
  h1 : bb1 = true → bx1 = V1
  h2 : bb2 = true → bx2 = V2
  h3 : bb3 = true → bx3 = V3
  h4 : bb4 = true → bx4 = V4
  h5 : bb5 = true → bx5 = V5
  h6 : bb6 = true → bx6 = V6
  h7 : bb7 = true → bx7 = V7
  h8 : bb8 = true → bx8 = V8
  h9 : bb9 = true → bx9 = V9
  h10 : bb10 = true → bx10 = V10
  h11 : bb11 = true → bx11 = V11
  h12 : bb12 = true → bx12 = V12
  h13 : bb13 = true → bx13 = V13
  h14 : bb14 = true → bx14 = V14
  h15 : bb15 = true → bx15 = V15
  h16 : bb16 = true → bx16 = V16
  h17 : bb17 = true → bx17 = V17
  h18 : bb18 = true → bx18 = V18
  h19 : bb19 = true → bx19 = V19
structure SpCk2 (w0 : World) (k0 : Nat) (nx : Int) (Aa : Option Addr) (na ca : Nat) (rb : Bool) (ns : List Int) (V0 V1 V2 V3 V4 V5 V6 V7 V8 V9 V10 V11 V12 V14 V15 V16 V17 V18 V19 : Value) (cb0 cb1 cb2 cb3 cb4 cb5 cb6 cb7 cb8 cb9 cb10 cb11 cb12 cb13 cb14 cb15 cb16 cb17 cb18 cb19 : Bool) (cx0 cx1 cx2 cx3 cx4 cx5 cx6 cx7 cx8 cx9 cx10 cx11 cx12 cx13 cx14 cx15 cx16 cx17 cx18 cx19 : Value) (w : World) : Prop where
  be : Below w0.heap.size w0 w
  d1 : cb1 = true → cb0 = true
  d2 : cb2 = true → cb1 = true
  d3 : cb3 = true → cb2 = true
  d4 : cb4 = true → cb3 = true
  d5 : cb5 = true → cb4 = true
  d6 : cb6 = true → cb4 = true ∧ cb5 = true
  d7 : cb7 = true → cb4 = true ∧ cb6 = true
  d8 : cb8 = true → cb4 = true ∧ cb7 = true
  d9 : cb9 = true → cb4 = true ∧ cb8 = true
  d10 : cb10 = true → cb7 = true ∧ cb9 = true
  d11 : cb11 = true → cb10 = true
  d12 : cb12 = true → cb10 = true ∧ cb11 = true
  d13 : cb13 = true → cb10 = true ∧ cb12 = true
  d14 : cb14 = true → cb10 = true
  d15 : cb15 = true → cb10 = true ∧ cb14 = true
  d16 : cb16 = true → cb10 = true ∧ cb13 = true ∧ cb15 = true
  d17 : cb17 = true → cb10 = true ∧ cb16 = true
  d18 : cb18 = true → cb10 = true ∧ cb17 = true
  d19 : cb19 = true → cb16 = true ∧ cb18 = true
  h0 : cb0 = true → cx0 = V0
  h1 : cb1 = true → cx1 = V1
  h2 : cb2 = true → cx2 = V2
  h3 : cb3 = true → cx3 = V3
  h4 : cb4 = true → cx4 = V4
  h5 : cb5 = true → cx5 = V5
  h6 : cb6 = true → cx6 = V6
  h7 : cb7 = true → cx7 = V7
  h8 : cb8 = true → cx8 = V8
  h9 : cb9 = true → cx9 = V9
  h10 : cb10 = true → cx10 = V10
  h11 : cb11 = true → cx11 = V11
  h12 : cb12 = true → cx12 = V12
  h13 : cb13 = true → OwnE intE w w0.heap.size 3 cx13 ns
  h14 : cb14 = true → cx14 = V14
  h15 : cb15 = true → cx15 = V15
  h16 : cb16 = true → cx16 = V16
  h17 : cb17 = true → cx17 = V17
  h18 : cb18 = true → cx18 = V18
  h19 : cb19 = true → cx19 = V19
structure SpCk9 (w0 : World) (k0 : Nat) (nx tp : Int) (Aa Ah Ak : Option Addr) (na ca nh ch nk ck : Nat) (ns : List Int) (kb : Bool) (V0 V1 V2 V4 V5 V8 V9 : Value) (db0 db1 db2 db3 db4 db5 db6 db7 db8 db9 : Bool) (dx0 dx1 dx2 dx3 dx4 dx5 dx6 dx7 dx8 dx9 : Value) (w : World) : Prop where
  be : Below w0.heap.size w0 w
  d2 : db2 = true → db1 = true
  d3 : db3 = true → db2 = true
  d5 : db5 = true → db4 = true
  d6 : db6 = true → db5 = true
  d7 : db7 = true → db3 = true ∧ db6 = true
  d8 : db8 = true → db0 = true ∧ db7 = true
  d9 : db9 = true → db8 = true
  h0 : db0 = true → dx0 = V0
  h1 : db1 = true → dx1 = V1
  h2 : db2 = true → dx2 = V2
  h3 : db3 = true → db7 = false → OwnE intE w w0.heap.size 3 dx3 ns
  h4 : db4 = true → dx4 = V4
  h5 : db5 = true → dx5 = V5
  h6 : db6 = true → db7 = false → ∃ k, dx6 = .slice (some ⟨k, 0, none⟩) 1 1 ∧ RowE intE w w.heap.size (some ⟨k, 0, none⟩) [tp]
  h7 : db7 = true → OwnE intE w w0.heap.size 3 dx7 (ns ++ [tp])
  h8 : db8 = true → dx8 = V8
  h9 : db9 = true → dx9 = V9
set_option maxRecDepth 100000 in
set_option maxHeartbeats 12000000 in
theorem spChk_any : SpChk Try.prog 19 := by
  intro v s w hv hw
  obtain ⟨a, h, k, rfl, ha, hh, hk⟩ := hv.ex
  obtain ⟨Aa, ca, csa, rfl, ha1, ha2, ha3, ha4⟩ := ha.ex
  obtain ⟨Ah, ch, rfl, hh1, hh2, hh3⟩ := hh.ex
  obtain ⟨Ak, ck, rfl, hk1, hk2, hk3⟩ := hk.ex
  have F0 := Lib.hid (heap_alloc_new w (.cells #[.int .i64 s.next, .slice Aa s.sent.length ca, .int .i64 s.top, .slice Ah s.heard.length ch, .slice Ak s.skip.length ck] 48))
  have B0 := Lib.hid ((Below.refl w.heap.size w).alloc (Nat.le_refl _) (.cells #[.int .i64 s.next, .slice Aa s.sent.length ca, .int .i64 s.top, .slice Ah s.heard.length ch, .slice Ak s.skip.length ck] 48))
  have hsl := hw.sl
  have hhl := hw.hl
  have hkl := hw.kl
  obtain ⟨W1, hW1⟩ : ∃ x, w.alloc (.cells #[.int .i64 s.next, .slice Aa s.sent.length ca, .int .i64 s.top, .slice Ah s.heard.length ch, .slice Ak s.skip.length ck] 48) = x := ⟨_, rfl⟩
  rw [hW1] at F0 B0
  have HSD := Lib.hid (fun w' (hb : Below W1.heap.size W1 w') => sendable_any Aa s.sent.length ca csa s.sent w' ((ha3.on B0.out).on hb) ((ha4.imp fun _ _ q => (q.below B0.out).more B0.out.size).imp fun _ _ q => (q.below hb).more hb.size) rfl (by omega))
  have HNU := Lib.hid (fun w' (hb : Below W1.heap.size W1 w') (hm : s.sent.length ≤ 1048576) => numbers_any Aa s.sent.length ca csa s.sent w' ((ha3.on B0.out).on hb) ((ha4.imp fun _ _ q => (q.below B0.out).more B0.out.size).imp fun _ _ q => (q.below hb).more hb.size) rfl hm)
  have HRI := Lib.hid (fun (ns : List Int) (hn : ns.length ≤ 100) (Au : Option Addr) (nu cu : Nat) (w' : World) (hr : RowE intE w' w'.heap.size Au ns) (hl : ns.length = nu) => rise_any Au nu cu ns s.next w' hr hl (by omega))
  have HRC := Lib.hid (fun w' (hb : Below W1.heap.size W1 w') => check_any Ah s.heard.length ch s.heard w' ((hh3.on B0.out).on hb) rfl (by omega))
  have HRK := Lib.hid (fun w' (hb : Below W1.heap.size W1 w') => rise_any Ak s.skip.length ck s.skip s.next w' ((hk3.on B0.out).on hb) rfl (by omega))
  have HSK := Lib.hid (fun (Al : Option Addr) (nl cl : Nat) (l : List Int) (w' : World) (hb : Below W1.heap.size W1 w') (hr : RowE intE w' w'.heap.size Al l) (hl : l.length = nl) (hm : nl ≤ 1000) => skips_any s.next s.top Aa Ah Ak Al s.sent.length ca s.heard.length ch s.skip.length ck nl cl s.skip l w' ((hk3.on B0.out).on hb) rfl (by omega) hr hl (by omega))
  obtain ⟨nx, hnx⟩ : ∃ x, s.next = x := ⟨_, rfl⟩
  obtain ⟨tp, htp⟩ : ∃ x, s.top = x := ⟨_, rfl⟩
  obtain ⟨na, hna⟩ : ∃ x, s.sent.length = x := ⟨_, rfl⟩
  obtain ⟨nh, hnh⟩ : ∃ x, s.heard.length = x := ⟨_, rfl⟩
  obtain ⟨nk, hnk⟩ : ∃ x, s.skip.length = x := ⟨_, rfl⟩
  obtain ⟨ns, hns⟩ : ∃ x, nums s.sent = x := ⟨_, rfl⟩
  obtain ⟨sb, hsb⟩ : ∃ x, decide (∀ p ∈ s.sent, sentOk p) = x := ⟨_, rfl⟩
  obtain ⟨rb, hrb⟩ : ∃ x, decide (riseF (-1) (nums s.sent) s.next) = x := ⟨_, rfl⟩
  obtain ⟨cv, hcv⟩ : ∃ x, ckV s.heard = x := ⟨_, rfl⟩
  obtain ⟨kr, hkr⟩ : ∃ x, decide (riseF (-1) s.skip s.next) = x := ⟨_, rfl⟩
  obtain ⟨kb, hkb⟩ : ∃ x, ((nums s.sent ++ [s.top]).any fun x => decide (x ∈ s.skip)) = x := ⟨_, rfl⟩
  have HC1 := Lib.hid (show c1P s ↔ (0 ≤ nx ∧ nx ≤ 4611686018427387903) ∧ -1 ≤ tp ∧ tp < nx from by rw [← hnx, ← htp]; exact Iff.rfl)
  have HC2 := Lib.hid (show c2P s ↔ na ≤ 24 ∧ sb = true ∧ rb = true from by rw [← hna, ← hsb, ← hrb, decide_eq_true_iff, decide_eq_true_iff]; exact Iff.rfl)
  have HC3 := Lib.hid (show c3P s ↔ nh ≤ 6 ∧ cv = 0 from by
    rw [← hnh, ← hcv]
    unfold c3P ckV
    by_cases q : okL s.heard
    · simp [q]
    · simp [q])
  have HCV := Lib.hid (show cv = 0 ∨ cv = 3 from by
    rw [← hcv]
    unfold ckV
    by_cases q : okL s.heard
    · simp [q]
    · simp [q])
  have HC4 := Lib.hid (show c4P s ↔ nk ≤ 6 ∧ kr = true from by rw [← hnk, ← hkr, decide_eq_true_iff]; exact Iff.rfl)
  have HC5 := Lib.hid (show c5P s ↔ kb = false from by rw [← hkb]; exact Iff.rfl)
  have HNL := Lib.hid (show ns.length = na from by rw [← hns, ← hna]; unfold nums; rw [List.length_map])
  have HF9 := Lib.hid (fun q => fault9 (s := s) q)
  have HF0 := Lib.hid (fun q => fault0 (s := s) q)
  have HRI2 := Lib.hid (fun (h24 : na ≤ 24) Au nu cu w' hr hl => HRI.out ns (by rw [HNL.out]; omega) Au nu cu w' hr hl)
  rw [hsb] at HSD
  rw [show nums s.sent = ns from hns] at HNU
  rw [hnx] at HRI2 HRK F0 HSK hW1 ⊢
  rw [htp] at F0 HSK hW1 ⊢
  rw [hna] at F0 HSD HNU HSK hW1 hsl ⊢
  rw [hnh] at F0 HRC HSK hW1 hhl ⊢
  rw [hnk] at F0 HRK HSK hW1 hkl ⊢
  rw [show decide (riseF (-1) s.skip nx) = kr from by rw [← hnx]; exact hkr] at HRK
  have HSK2 := Lib.hid (fun (h24 : na ≤ 24) Al nl cl w' hb hr hl => HSK.out Al nl cl (ns ++ [tp]) w' hb hr hl (by rw [← hl, List.length_append, HNL.out]; simp; omega))
  rw [show ((ns ++ [tp]).any fun x => decide (x ∈ s.skip)) = kb from by rw [← hns, ← htp]; exact hkb] at HSK2
  rw [show decide (riseF (-1) ns nx) = rb from by rw [← hns, ← hnx]; exact hrb] at HRI2
  unfold CheckPost at HRC
  rw [hcv] at HRC
  obtain ⟨FS, hFS⟩ : ∃ x, faultSp s = x := ⟨_, rfl⟩
  rw [hFS] at HF9 HF0 ⊢
  obtain ⟨i0, hi0, hz0, hz1, hz2⟩ := info_partsE infoI
  have HI := Lib.hid hi0
  have HZ := Lib.hid hz0
  have HZ1 := Lib.hid hz1
  have HZ2 := Lib.hid hz2
  clear HRI HSK hi0 hz0 hz1 hz2 hFS hkb hkr hcv hrb hsb hns hnk hnh hna htp hnx ha hh hk ha1 ha2 ha3 ha4 hh1 hh2 hh3 hk1 hk2 hk3 hv hw
  generalize nums s.sent = dead at *
  go_enter Try.func19, Try.ntmps19
  go_upto_region 1 with fail
  obtain ⟨k0, hk0⟩ : ∃ x, w.heap.size = x := ⟨_, rfl⟩
  have HK0 := Lib.hid hk0
  try rw [hW1]
  rw [hk0] at F0 ⊢
  clear hW1 hk0
  obtain ⟨q0, q1, q2, q3, q4⟩ := bk5P F0.out
  by_cases c1 : (0 ≤ nx ∧ nx ≤ 4611686018427387903) ∧ -1 ≤ tp ∧ tp < nx
  · have HC1' := Lib.hid (HC1.out.2 c1)
    have d1 : decide (nx < 0) = false := by simp; omega
    have d2 : decide (4611686018427387903 < nx) = false := by simp; omega
    have d3 : decide (tp < -1) = false := by simp; omega
    have d4 : decide (nx ≤ tp) = false := by simp; omega
    clear c1
    go_upto_region 3 with fail
    clear q0 q1 q2 q3 q4 d1 d2 d3 d4
    obtain ⟨c2n, hc2n⟩ : ∃ b : Bool, b = !(decide (na ≤ 24) && (sb && rb)) := ⟨_, rfl⟩
    have HCN := Lib.hid hc2n
    clear hc2n
    go_cut [24] from 25 to 43 (fun u wx => u = .bool c2n ∧ Hid (Below W1.heap.size W1 wx))
    case first =>
      by_cases m1 : na ≤ 24
      · have D5 := Lib.hid (show decide ((24 : Int) < (na : Int)) = false from by simp; omega)
        have HNU := Lib.hid (fun w' hb => HNU.out w' hb (by omega))
        have HRI := Lib.hid (fun Au nu cu w' hr (hl : ns.length = nu) => HRI2.out m1 Au nu cu w' hr hl)
        have hm1 : decide (na ≤ 24) = true := by simp [m1]
        cases sb with
        | true =>
          have HCN' := Lib.hid (show Value.bool c2n = .bool (!rb) from by rw [HCN.out, hm1]; cases rb <;> rfl)
          clear hm1 m1
          refine wp_region_inv (fun lis_ act_ wld_ => ∃ (cb0 cb1 cb2 cb3 cb4 cb5 cb6 cb7 cb8 cb9 cb10 cb11 cb12 cb13 cb14 cb15 cb16 cb17 cb18 cb19 : Bool) (cx0 cx1 cx2 cx3 cx4 cx5 cx6 cx7 cx8 cx9 cx10 cx11 cx12 cx13 cx14 cx15 cx16 cx17 cx18 cx19 : Value), lis_ = #[cb0, cb1, cb2, cb3, cb4, cb5, cb6, cb7, cb8, cb9, cb10, cb11, cb12, cb13, cb14, cb15, cb16, cb17, cb18, cb19] ∧ act_ = { tmps := #[Value.agg #[Value.int IntKind.i64 nx, Value.slice Aa na ca, Value.int IntKind.i64 tp, Value.slice Ah nh ch, Value.slice Ak nk ck], Value.pointer (some { block := k0, off := 0 }), Value.int IntKind.i64 0, Value.bool false, Value.pointer (some { block := k0, off := 0 }), Value.int IntKind.i64 nx, Value.bool false, Value.bool false, Value.pointer (some { block := k0, off := 0 }), Value.int IntKind.i64 nx, Value.bool false, Value.bool false, Value.bool false, Value.pointer (some { block := k0, off := 2 }), Value.int IntKind.i64 tp, Value.bool false, Value.bool false, Value.bool false, Value.pointer (some { block := k0, off := 2 }), Value.int IntKind.i64 tp, Value.pointer (some { block := k0, off := 0 }), Value.int IntKind.i64 nx, Value.bool false, Value.bool false, cx19, cx0, cx1, cx2, cx3, cx4, cx5, cx6, cx7, cx8, cx9, cx10, cx11, cx12, cx13, cx14, cx15, cx16, cx17, cx18, undef, undef, undef, undef, undef, undef, undef, undef, undef, undef, undef, undef, undef, undef, undef, undef, undef, undef, undef, undef, undef, undef, undef, undef, undef, undef, undef, undef, undef, undef, undef, undef, undef, undef], defers := [] } ∧ SpCk2 W1 k0 nx Aa na ca rb ns (.pointer (some ⟨k0, 1, none⟩)) (.slice Aa na ca) (.int .i64 (na : Int)) (.bool false) (.bool false) (.pointer (some ⟨k0, 1, none⟩)) (.slice Aa na ca) (.bool true) (.bool false) (.bool false) (.bool false) (.pointer (some ⟨k0, 1, none⟩)) (.slice Aa na ca) (.pointer (some ⟨k0, 0, none⟩)) (.int .i64 nx) (.bool rb) (.bool (!rb)) (.bool (!rb)) (.bool (!rb)) cb0 cb1 cb2 cb3 cb4 cb5 cb6 cb7 cb8 cb9 cb10 cb11 cb12 cb13 cb14 cb15 cb16 cb17 cb18 cb19 cx0 cx1 cx2 cx3 cx4 cx5 cx6 cx7 cx8 cx9 cx10 cx11 cx12 cx13 cx14 cx15 cx16 cx17 cx18 cx19 wld_) (by kernel_rfl) ?h0 ?hfin ?hI
          case h0 => exact ⟨_, _, _, _, _, _, _, _, _, _, _, _, _, _, _, _, _, _, _, _, _, _, _, _, _, _, _, _, _, _, _, _, _, _, _, _, _, _, _, _, rfl, rfl, ⟨(Below.refl _ _).drew, (fun h => by cases h), (fun h => by cases h), (fun h => by cases h), (fun h => by cases h), (fun h => by cases h), (fun h => by cases h), (fun h => by cases h), (fun h => by cases h), (fun h => by cases h), (fun h => by cases h), (fun h => by cases h), (fun h => by cases h), (fun h => by cases h), (fun h => by cases h), (fun h => by cases h), (fun h => by cases h), (fun h => by cases h), (fun h => by cases h), (fun h => by cases h), (fun h => by cases h), (fun h => by cases h), (fun h => by cases h), (fun h => by cases h), (fun h => by cases h), (fun h => by cases h), (fun h => by cases h), (fun h => by cases h), (fun h => by cases h), (fun h => by cases h), (fun h => by cases h), (fun h => by cases h), (fun h => by cases h), (fun h => by cases h), (fun h => by cases h), (fun h => by cases h), (fun h => by cases h), (fun h => by cases h), (fun h => by cases h), (fun h => by cases h)⟩⟩
          case hI =>
            rintro listed a w ⟨cb0, cb1, cb2, cb3, cb4, cb5, cb6, cb7, cb8, cb9, cb10, cb11, cb12, cb13, cb14, cb15, cb16, cb17, cb18, cb19, cx0, cx1, cx2, cx3, cx4, cx5, cx6, cx7, cx8, cx9, cx10, cx11, cx12, cx13, cx14, cx15, cx16, cx17, cx18, cx19, rfl, rfl, H⟩ i hi
            obtain ⟨hun, oj, hoj, hall⟩ := mem_ready.1 hi
            clear hi
            rcases i with _ | _ | _ | _ | _ | _ | _ | _ | _ | _ | _ | _ | _ | _ | _ | _ | _ | _ | _ | _ | i
            · have ho := hoj
              simp only [List.getElem?_toArray, List.getElem?_cons_zero, Option.some.injEq] at hoj
              subst hoj
              obtain rfl : cb0 = false := hun
              clear hall
              obtain rfl : cb1 = false := Bool.eq_false_iff.2 fun h => Bool.false_ne_true (H.d1 h)
              obtain rfl : cb2 = false := Bool.eq_false_iff.2 fun h => Bool.false_ne_true (H.d2 h)
              obtain rfl : cb3 = false := Bool.eq_false_iff.2 fun h => Bool.false_ne_true (H.d3 h)
              obtain rfl : cb4 = false := Bool.eq_false_iff.2 fun h => Bool.false_ne_true (H.d4 h)
              obtain rfl : cb5 = false := Bool.eq_false_iff.2 fun h => Bool.false_ne_true (H.d5 h)
              obtain rfl : cb6 = false := Bool.eq_false_iff.2 fun h => Bool.false_ne_true (H.d6 h).1
              obtain rfl : cb7 = false := Bool.eq_false_iff.2 fun h => Bool.false_ne_true (H.d7 h).1
              obtain rfl : cb8 = false := Bool.eq_false_iff.2 fun h => Bool.false_ne_true (H.d8 h).1
              obtain rfl : cb9 = false := Bool.eq_false_iff.2 fun h => Bool.false_ne_true (H.d9 h).1
              obtain rfl : cb10 = false := Bool.eq_false_iff.2 fun h => Bool.false_ne_true (H.d10 h).1
              obtain rfl : cb11 = false := Bool.eq_false_iff.2 fun h => Bool.false_ne_true (H.d11 h)
              obtain rfl : cb12 = false := Bool.eq_false_iff.2 fun h => Bool.false_ne_true (H.d12 h).1
              obtain rfl : cb13 = false := Bool.eq_false_iff.2 fun h => Bool.false_ne_true (H.d13 h).1
              obtain rfl : cb14 = false := Bool.eq_false_iff.2 fun h => Bool.false_ne_true (H.d14 h)
              obtain rfl : cb15 = false := Bool.eq_false_iff.2 fun h => Bool.false_ne_true (H.d15 h).1
              obtain rfl : cb16 = false := Bool.eq_false_iff.2 fun h => Bool.false_ne_true (H.d16 h).1
              obtain rfl : cb17 = false := Bool.eq_false_iff.2 fun h => Bool.false_ne_true (H.d17 h).1
              obtain rfl : cb18 = false := Bool.eq_false_iff.2 fun h => Bool.false_ne_true (H.d18 h).1
              obtain rfl : cb19 = false := Bool.eq_false_iff.2 fun h => Bool.false_ne_true (H.d19 h).1
              have hbe := H.be
              refine wpOp_step ho (fun K' hK => ?_)
              have HK := Lib.hid hK
              clear hK ho
              go_simp
              exact HK.out _ _ ⟨_, _, _, _, _, _, _, _, _, _, _, _, _, _, _, _, _, _, _, _, _, _, _, _, _, _, _, _, _, _, _, _, _, _, _, _, _, _, _, _, rfl, rfl, ⟨hbe, (fun h => by cases h), H.d2, H.d3, H.d4, H.d5, H.d6, H.d7, H.d8, H.d9, H.d10, H.d11, H.d12, H.d13, H.d14, H.d15, H.d16, H.d17, H.d18, H.d19, (fun _ => rfl), H.h1, H.h2, H.h3, H.h4, H.h5, H.h6, H.h7, H.h8, H.h9, H.h10, H.h11, H.h12, (fun h => by cases h), H.h14, H.h15, H.h16, H.h17, H.h18, H.h19⟩⟩
            · have ho := hoj
              simp only [List.getElem?_toArray, List.getElem?_cons_succ, List.getElem?_cons_zero, Option.some.injEq] at hoj
              subst hoj
              obtain rfl : cb1 = false := hun
              obtain rfl : cb0 = true := hall ⟨0, .data⟩ (by simp) (by kernel_rfl)
              clear hall
              obtain rfl : cb2 = false := Bool.eq_false_iff.2 fun h => Bool.false_ne_true (H.d2 h)
              obtain rfl : cb3 = false := Bool.eq_false_iff.2 fun h => Bool.false_ne_true (H.d3 h)
              obtain rfl : cb4 = false := Bool.eq_false_iff.2 fun h => Bool.false_ne_true (H.d4 h)
              obtain rfl : cb5 = false := Bool.eq_false_iff.2 fun h => Bool.false_ne_true (H.d5 h)
              obtain rfl : cb6 = false := Bool.eq_false_iff.2 fun h => Bool.false_ne_true (H.d6 h).1
              obtain rfl : cb7 = false := Bool.eq_false_iff.2 fun h => Bool.false_ne_true (H.d7 h).1
              obtain rfl : cb8 = false := Bool.eq_false_iff.2 fun h => Bool.false_ne_true (H.d8 h).1
              obtain rfl : cb9 = false := Bool.eq_false_iff.2 fun h => Bool.false_ne_true (H.d9 h).1
              obtain rfl : cb10 = false := Bool.eq_false_iff.2 fun h => Bool.false_ne_true (H.d10 h).1
              obtain rfl : cb11 = false := Bool.eq_false_iff.2 fun h => Bool.false_ne_true (H.d11 h)
              obtain rfl : cb12 = false := Bool.eq_false_iff.2 fun h => Bool.false_ne_true (H.d12 h).1
              obtain rfl : cb13 = false := Bool.eq_false_iff.2 fun h => Bool.false_ne_true (H.d13 h).1
              obtain rfl : cb14 = false := Bool.eq_false_iff.2 fun h => Bool.false_ne_true (H.d14 h)
              obtain rfl : cb15 = false := Bool.eq_false_iff.2 fun h => Bool.false_ne_true (H.d15 h).1
              obtain rfl : cb16 = false := Bool.eq_false_iff.2 fun h => Bool.false_ne_true (H.d16 h).1
              obtain rfl : cb17 = false := Bool.eq_false_iff.2 fun h => Bool.false_ne_true (H.d17 h).1
              obtain rfl : cb18 = false := Bool.eq_false_iff.2 fun h => Bool.false_ne_true (H.d18 h).1
              obtain rfl : cb19 = false := Bool.eq_false_iff.2 fun h => Bool.false_ne_true (H.d19 h).1
              have hbe := H.be
              obtain rfl := H.h0 rfl
              obtain ⟨q0, q1, q2, q3, q4⟩ := bk5P ((hbe.block _ (lt_of_block F0.out)).trans F0.out)
              refine wpOp_step ho (fun K' hK => ?_)
              have HK := Lib.hid hK
              clear hK ho
              go_simp
              exact HK.out _ _ ⟨_, _, _, _, _, _, _, _, _, _, _, _, _, _, _, _, _, _, _, _, _, _, _, _, _, _, _, _, _, _, _, _, _, _, _, _, _, _, _, _, rfl, rfl, ⟨hbe, (fun _ => rfl), (fun h => by cases h), H.d3, H.d4, H.d5, H.d6, H.d7, H.d8, H.d9, H.d10, H.d11, H.d12, H.d13, H.d14, H.d15, H.d16, H.d17, H.d18, H.d19, H.h0, (fun _ => rfl), H.h2, H.h3, H.h4, H.h5, H.h6, H.h7, H.h8, H.h9, H.h10, H.h11, H.h12, (fun h => by cases h), H.h14, H.h15, H.h16, H.h17, H.h18, H.h19⟩⟩
            · have ho := hoj
              simp only [List.getElem?_toArray, List.getElem?_cons_succ, List.getElem?_cons_zero, Option.some.injEq] at hoj
              subst hoj
              obtain rfl : cb2 = false := hun
              obtain rfl : cb1 = true := hall ⟨1, .data⟩ (by simp) (by kernel_rfl)
              obtain rfl : cb0 = true := (H.d1 rfl)
              clear hall
              obtain rfl : cb3 = false := Bool.eq_false_iff.2 fun h => Bool.false_ne_true (H.d3 h)
              obtain rfl : cb4 = false := Bool.eq_false_iff.2 fun h => Bool.false_ne_true (H.d4 h)
              obtain rfl : cb5 = false := Bool.eq_false_iff.2 fun h => Bool.false_ne_true (H.d5 h)
              obtain rfl : cb6 = false := Bool.eq_false_iff.2 fun h => Bool.false_ne_true (H.d6 h).1
              obtain rfl : cb7 = false := Bool.eq_false_iff.2 fun h => Bool.false_ne_true (H.d7 h).1
              obtain rfl : cb8 = false := Bool.eq_false_iff.2 fun h => Bool.false_ne_true (H.d8 h).1
              obtain rfl : cb9 = false := Bool.eq_false_iff.2 fun h => Bool.false_ne_true (H.d9 h).1
              obtain rfl : cb10 = false := Bool.eq_false_iff.2 fun h => Bool.false_ne_true (H.d10 h).1
              obtain rfl : cb11 = false := Bool.eq_false_iff.2 fun h => Bool.false_ne_true (H.d11 h)
              obtain rfl : cb12 = false := Bool.eq_false_iff.2 fun h => Bool.false_ne_true (H.d12 h).1
              obtain rfl : cb13 = false := Bool.eq_false_iff.2 fun h => Bool.false_ne_true (H.d13 h).1
              obtain rfl : cb14 = false := Bool.eq_false_iff.2 fun h => Bool.false_ne_true (H.d14 h)
              obtain rfl : cb15 = false := Bool.eq_false_iff.2 fun h => Bool.false_ne_true (H.d15 h).1
              obtain rfl : cb16 = false := Bool.eq_false_iff.2 fun h => Bool.false_ne_true (H.d16 h).1
              obtain rfl : cb17 = false := Bool.eq_false_iff.2 fun h => Bool.false_ne_true (H.d17 h).1
              obtain rfl : cb18 = false := Bool.eq_false_iff.2 fun h => Bool.false_ne_true (H.d18 h).1
              obtain rfl : cb19 = false := Bool.eq_false_iff.2 fun h => Bool.false_ne_true (H.d19 h).1
              have hbe := H.be
              obtain rfl := H.h0 rfl
              obtain rfl := H.h1 rfl
              refine wpOp_step ho (fun K' hK => ?_)
              have HK := Lib.hid hK
              clear hK ho
              go_simp
              exact HK.out _ _ ⟨_, _, _, _, _, _, _, _, _, _, _, _, _, _, _, _, _, _, _, _, _, _, _, _, _, _, _, _, _, _, _, _, _, _, _, _, _, _, _, _, rfl, rfl, ⟨hbe, H.d1, (fun _ => rfl), (fun h => by cases h), H.d4, H.d5, H.d6, H.d7, H.d8, H.d9, H.d10, H.d11, H.d12, H.d13, H.d14, H.d15, H.d16, H.d17, H.d18, H.d19, H.h0, H.h1, (fun _ => rfl), H.h3, H.h4, H.h5, H.h6, H.h7, H.h8, H.h9, H.h10, H.h11, H.h12, (fun h => by cases h), H.h14, H.h15, H.h16, H.h17, H.h18, H.h19⟩⟩
            · have ho := hoj
              simp only [List.getElem?_toArray, List.getElem?_cons_succ, List.getElem?_cons_zero, Option.some.injEq] at hoj
              subst hoj
              obtain rfl : cb3 = false := hun
              obtain rfl : cb2 = true := hall ⟨2, .data⟩ (by simp) (by kernel_rfl)
              obtain rfl : cb1 = true := (H.d2 rfl)
              obtain rfl : cb0 = true := (H.d1 rfl)
              clear hall
              obtain rfl : cb4 = false := Bool.eq_false_iff.2 fun h => Bool.false_ne_true (H.d4 h)
              obtain rfl : cb5 = false := Bool.eq_false_iff.2 fun h => Bool.false_ne_true (H.d5 h)
              obtain rfl : cb6 = false := Bool.eq_false_iff.2 fun h => Bool.false_ne_true (H.d6 h).1
              obtain rfl : cb7 = false := Bool.eq_false_iff.2 fun h => Bool.false_ne_true (H.d7 h).1
              obtain rfl : cb8 = false := Bool.eq_false_iff.2 fun h => Bool.false_ne_true (H.d8 h).1
              obtain rfl : cb9 = false := Bool.eq_false_iff.2 fun h => Bool.false_ne_true (H.d9 h).1
              obtain rfl : cb10 = false := Bool.eq_false_iff.2 fun h => Bool.false_ne_true (H.d10 h).1
              obtain rfl : cb11 = false := Bool.eq_false_iff.2 fun h => Bool.false_ne_true (H.d11 h)
              obtain rfl : cb12 = false := Bool.eq_false_iff.2 fun h => Bool.false_ne_true (H.d12 h).1
              obtain rfl : cb13 = false := Bool.eq_false_iff.2 fun h => Bool.false_ne_true (H.d13 h).1
              obtain rfl : cb14 = false := Bool.eq_false_iff.2 fun h => Bool.false_ne_true (H.d14 h)
              obtain rfl : cb15 = false := Bool.eq_false_iff.2 fun h => Bool.false_ne_true (H.d15 h).1
              obtain rfl : cb16 = false := Bool.eq_false_iff.2 fun h => Bool.false_ne_true (H.d16 h).1
              obtain rfl : cb17 = false := Bool.eq_false_iff.2 fun h => Bool.false_ne_true (H.d17 h).1
              obtain rfl : cb18 = false := Bool.eq_false_iff.2 fun h => Bool.false_ne_true (H.d18 h).1
              obtain rfl : cb19 = false := Bool.eq_false_iff.2 fun h => Bool.false_ne_true (H.d19 h).1
              have hbe := H.be
              obtain rfl := H.h0 rfl
              obtain rfl := H.h1 rfl
              obtain rfl := H.h2 rfl
              have d5 := D5.out
              refine wpOp_step ho (fun K' hK => ?_)
              have HK := Lib.hid hK
              clear hK ho
              go_simp
              exact HK.out _ _ ⟨_, _, _, _, _, _, _, _, _, _, _, _, _, _, _, _, _, _, _, _, _, _, _, _, _, _, _, _, _, _, _, _, _, _, _, _, _, _, _, _, rfl, rfl, ⟨hbe, H.d1, H.d2, (fun _ => rfl), (fun h => by cases h), H.d5, H.d6, H.d7, H.d8, H.d9, H.d10, H.d11, H.d12, H.d13, H.d14, H.d15, H.d16, H.d17, H.d18, H.d19, H.h0, H.h1, H.h2, (fun _ => rfl), H.h4, H.h5, H.h6, H.h7, H.h8, H.h9, H.h10, H.h11, H.h12, (fun h => by cases h), H.h14, H.h15, H.h16, H.h17, H.h18, H.h19⟩⟩
            · have ho := hoj
              simp only [List.getElem?_toArray, List.getElem?_cons_succ, List.getElem?_cons_zero, Option.some.injEq] at hoj
              subst hoj
              obtain rfl : cb4 = false := hun
              obtain rfl : cb3 = true := hall ⟨3, .data⟩ (by simp) (by kernel_rfl)
              obtain rfl : cb2 = true := (H.d3 rfl)
              obtain rfl : cb1 = true := (H.d2 rfl)
              obtain rfl : cb0 = true := (H.d1 rfl)
              clear hall
              obtain rfl : cb5 = false := Bool.eq_false_iff.2 fun h => Bool.false_ne_true (H.d5 h)
              obtain rfl : cb6 = false := Bool.eq_false_iff.2 fun h => Bool.false_ne_true (H.d6 h).1
              obtain rfl : cb7 = false := Bool.eq_false_iff.2 fun h => Bool.false_ne_true (H.d7 h).1
              obtain rfl : cb8 = false := Bool.eq_false_iff.2 fun h => Bool.false_ne_true (H.d8 h).1
              obtain rfl : cb9 = false := Bool.eq_false_iff.2 fun h => Bool.false_ne_true (H.d9 h).1
              obtain rfl : cb10 = false := Bool.eq_false_iff.2 fun h => Bool.false_ne_true (H.d10 h).1
              obtain rfl : cb11 = false := Bool.eq_false_iff.2 fun h => Bool.false_ne_true (H.d11 h)
              obtain rfl : cb12 = false := Bool.eq_false_iff.2 fun h => Bool.false_ne_true (H.d12 h).1
              obtain rfl : cb13 = false := Bool.eq_false_iff.2 fun h => Bool.false_ne_true (H.d13 h).1
              obtain rfl : cb14 = false := Bool.eq_false_iff.2 fun h => Bool.false_ne_true (H.d14 h)
              obtain rfl : cb15 = false := Bool.eq_false_iff.2 fun h => Bool.false_ne_true (H.d15 h).1
              obtain rfl : cb16 = false := Bool.eq_false_iff.2 fun h => Bool.false_ne_true (H.d16 h).1
              obtain rfl : cb17 = false := Bool.eq_false_iff.2 fun h => Bool.false_ne_true (H.d17 h).1
              obtain rfl : cb18 = false := Bool.eq_false_iff.2 fun h => Bool.false_ne_true (H.d18 h).1
              obtain rfl : cb19 = false := Bool.eq_false_iff.2 fun h => Bool.false_ne_true (H.d19 h).1
              have hbe := H.be
              obtain rfl := H.h0 rfl
              obtain rfl := H.h1 rfl
              obtain rfl := H.h2 rfl
              obtain rfl := H.h3 rfl
              refine wpOp_step ho (fun K' hK => ?_)
              have HK := Lib.hid hK
              clear hK ho
              go_simp
              exact HK.out _ _ ⟨_, _, _, _, _, _, _, _, _, _, _, _, _, _, _, _, _, _, _, _, _, _, _, _, _, _, _, _, _, _, _, _, _, _, _, _, _, _, _, _, rfl, rfl, ⟨hbe, H.d1, H.d2, H.d3, (fun _ => rfl), (fun h => by cases h), (fun h => by cases h), (fun h => by cases h), (fun h => by cases h), (fun h => by cases h), H.d10, H.d11, H.d12, H.d13, H.d14, H.d15, H.d16, H.d17, H.d18, H.d19, H.h0, H.h1, H.h2, H.h3, (fun _ => rfl), H.h5, H.h6, H.h7, H.h8, H.h9, H.h10, H.h11, H.h12, (fun h => by cases h), H.h14, H.h15, H.h16, H.h17, H.h18, H.h19⟩⟩
            · have ho := hoj
              simp only [List.getElem?_toArray, List.getElem?_cons_succ, List.getElem?_cons_zero, Option.some.injEq] at hoj
              subst hoj
              obtain rfl : cb5 = false := hun
              obtain rfl : cb4 = true := hall ⟨4, .guard⟩ (by simp) (by kernel_rfl)
              obtain rfl : cb3 = true := (H.d4 rfl)
              obtain rfl : cb2 = true := (H.d3 rfl)
              obtain rfl : cb1 = true := (H.d2 rfl)
              obtain rfl : cb0 = true := (H.d1 rfl)
              clear hall
              obtain rfl : cb6 = false := Bool.eq_false_iff.2 fun h => Bool.false_ne_true (H.d6 h).2
              obtain rfl : cb7 = false := Bool.eq_false_iff.2 fun h => Bool.false_ne_true (H.d7 h).2
              obtain rfl : cb8 = false := Bool.eq_false_iff.2 fun h => Bool.false_ne_true (H.d8 h).2
              obtain rfl : cb9 = false := Bool.eq_false_iff.2 fun h => Bool.false_ne_true (H.d9 h).2
              obtain rfl : cb10 = false := Bool.eq_false_iff.2 fun h => Bool.false_ne_true (H.d10 h).1
              obtain rfl : cb11 = false := Bool.eq_false_iff.2 fun h => Bool.false_ne_true (H.d11 h)
              obtain rfl : cb12 = false := Bool.eq_false_iff.2 fun h => Bool.false_ne_true (H.d12 h).1
              obtain rfl : cb13 = false := Bool.eq_false_iff.2 fun h => Bool.false_ne_true (H.d13 h).1
              obtain rfl : cb14 = false := Bool.eq_false_iff.2 fun h => Bool.false_ne_true (H.d14 h)
              obtain rfl : cb15 = false := Bool.eq_false_iff.2 fun h => Bool.false_ne_true (H.d15 h).1
              obtain rfl : cb16 = false := Bool.eq_false_iff.2 fun h => Bool.false_ne_true (H.d16 h).1
              obtain rfl : cb17 = false := Bool.eq_false_iff.2 fun h => Bool.false_ne_true (H.d17 h).1
              obtain rfl : cb18 = false := Bool.eq_false_iff.2 fun h => Bool.false_ne_true (H.d18 h).1
              obtain rfl : cb19 = false := Bool.eq_false_iff.2 fun h => Bool.false_ne_true (H.d19 h).1
              have hbe := H.be
              obtain rfl := H.h0 rfl
              obtain rfl := H.h1 rfl
              obtain rfl := H.h2 rfl
              obtain rfl := H.h3 rfl
              obtain rfl := H.h4 rfl
              refine wpOp_step ho (fun K' hK => ?_)
              have HK := Lib.hid hK
              clear hK ho
              go_simp
              exact HK.out _ _ ⟨_, _, _, _, _, _, _, _, _, _, _, _, _, _, _, _, _, _, _, _, _, _, _, _, _, _, _, _, _, _, _, _, _, _, _, _, _, _, _, _, rfl, rfl, ⟨hbe, H.d1, H.d2, H.d3, H.d4, (fun _ => rfl), (fun h => by cases h), H.d7, H.d8, H.d9, H.d10, H.d11, H.d12, H.d13, H.d14, H.d15, H.d16, H.d17, H.d18, H.d19, H.h0, H.h1, H.h2, H.h3, H.h4, (fun _ => rfl), H.h6, H.h7, H.h8, H.h9, H.h10, H.h11, H.h12, (fun h => by cases h), H.h14, H.h15, H.h16, H.h17, H.h18, H.h19⟩⟩
            · have ho := hoj
              simp only [List.getElem?_toArray, List.getElem?_cons_succ, List.getElem?_cons_zero, Option.some.injEq] at hoj
              subst hoj
              obtain rfl : cb6 = false := hun
              obtain rfl : cb4 = true := hall ⟨4, .guard⟩ (by simp) (by kernel_rfl)
              obtain rfl : cb5 = true := hall ⟨5, .data⟩ (by simp) (by kernel_rfl)
              obtain rfl : cb3 = true := (H.d4 rfl)
              obtain rfl : cb2 = true := (H.d3 rfl)
              obtain rfl : cb1 = true := (H.d2 rfl)
              obtain rfl : cb0 = true := (H.d1 rfl)
              clear hall
              obtain rfl : cb7 = false := Bool.eq_false_iff.2 fun h => Bool.false_ne_true (H.d7 h).2
              obtain rfl : cb8 = false := Bool.eq_false_iff.2 fun h => Bool.false_ne_true (H.d8 h).2
              obtain rfl : cb9 = false := Bool.eq_false_iff.2 fun h => Bool.false_ne_true (H.d9 h).2
              obtain rfl : cb10 = false := Bool.eq_false_iff.2 fun h => Bool.false_ne_true (H.d10 h).1
              obtain rfl : cb11 = false := Bool.eq_false_iff.2 fun h => Bool.false_ne_true (H.d11 h)
              obtain rfl : cb12 = false := Bool.eq_false_iff.2 fun h => Bool.false_ne_true (H.d12 h).1
              obtain rfl : cb13 = false := Bool.eq_false_iff.2 fun h => Bool.false_ne_true (H.d13 h).1
              obtain rfl : cb14 = false := Bool.eq_false_iff.2 fun h => Bool.false_ne_true (H.d14 h)
              obtain rfl : cb15 = false := Bool.eq_false_iff.2 fun h => Bool.false_ne_true (H.d15 h).1
              obtain rfl : cb16 = false := Bool.eq_false_iff.2 fun h => Bool.false_ne_true (H.d16 h).1
              obtain rfl : cb17 = false := Bool.eq_false_iff.2 fun h => Bool.false_ne_true (H.d17 h).1
              obtain rfl : cb18 = false := Bool.eq_false_iff.2 fun h => Bool.false_ne_true (H.d18 h).1
              obtain rfl : cb19 = false := Bool.eq_false_iff.2 fun h => Bool.false_ne_true (H.d19 h).1
              have hbe := H.be
              obtain rfl := H.h0 rfl
              obtain rfl := H.h1 rfl
              obtain rfl := H.h2 rfl
              obtain rfl := H.h3 rfl
              obtain rfl := H.h4 rfl
              obtain rfl := H.h5 rfl
              obtain ⟨q0, q1, q2, q3, q4⟩ := bk5P ((hbe.block _ (lt_of_block F0.out)).trans F0.out)
              refine wpOp_step ho (fun K' hK => ?_)
              have HK := Lib.hid hK
              clear hK ho
              go_simp
              exact HK.out _ _ ⟨_, _, _, _, _, _, _, _, _, _, _, _, _, _, _, _, _, _, _, _, _, _, _, _, _, _, _, _, _, _, _, _, _, _, _, _, _, _, _, _, rfl, rfl, ⟨hbe, H.d1, H.d2, H.d3, H.d4, H.d5, (fun _ => ⟨rfl, rfl⟩), (fun h => by cases h), H.d8, H.d9, H.d10, H.d11, H.d12, H.d13, H.d14, H.d15, H.d16, H.d17, H.d18, H.d19, H.h0, H.h1, H.h2, H.h3, H.h4, H.h5, (fun _ => rfl), H.h7, H.h8, H.h9, H.h10, H.h11, H.h12, (fun h => by cases h), H.h14, H.h15, H.h16, H.h17, H.h18, H.h19⟩⟩
            · have ho := hoj
              simp only [List.getElem?_toArray, List.getElem?_cons_succ, List.getElem?_cons_zero, Option.some.injEq] at hoj
              subst hoj
              obtain rfl : cb7 = false := hun
              obtain rfl : cb4 = true := hall ⟨4, .chain⟩ (by simp) (by kernel_rfl)
              obtain rfl : cb6 = true := hall ⟨6, .data⟩ (by simp) (by kernel_rfl)
              obtain rfl : cb3 = true := (H.d4 rfl)
              obtain rfl : cb5 = true := (H.d6 rfl).2
              obtain rfl : cb2 = true := (H.d3 rfl)
              obtain rfl : cb1 = true := (H.d2 rfl)
              obtain rfl : cb0 = true := (H.d1 rfl)
              clear hall
              obtain rfl : cb8 = false := Bool.eq_false_iff.2 fun h => Bool.false_ne_true (H.d8 h).2
              obtain rfl : cb9 = false := Bool.eq_false_iff.2 fun h => Bool.false_ne_true (H.d9 h).2
              obtain rfl : cb10 = false := Bool.eq_false_iff.2 fun h => Bool.false_ne_true (H.d10 h).1
              obtain rfl : cb11 = false := Bool.eq_false_iff.2 fun h => Bool.false_ne_true (H.d11 h)
              obtain rfl : cb12 = false := Bool.eq_false_iff.2 fun h => Bool.false_ne_true (H.d12 h).1
              obtain rfl : cb13 = false := Bool.eq_false_iff.2 fun h => Bool.false_ne_true (H.d13 h).1
              obtain rfl : cb14 = false := Bool.eq_false_iff.2 fun h => Bool.false_ne_true (H.d14 h)
              obtain rfl : cb15 = false := Bool.eq_false_iff.2 fun h => Bool.false_ne_true (H.d15 h).1
              obtain rfl : cb16 = false := Bool.eq_false_iff.2 fun h => Bool.false_ne_true (H.d16 h).1
              obtain rfl : cb17 = false := Bool.eq_false_iff.2 fun h => Bool.false_ne_true (H.d17 h).1
              obtain rfl : cb18 = false := Bool.eq_false_iff.2 fun h => Bool.false_ne_true (H.d18 h).1
              obtain rfl : cb19 = false := Bool.eq_false_iff.2 fun h => Bool.false_ne_true (H.d19 h).1
              have hbe := H.be
              obtain rfl := H.h0 rfl
              obtain rfl := H.h1 rfl
              obtain rfl := H.h2 rfl
              obtain rfl := H.h3 rfl
              obtain rfl := H.h4 rfl
              obtain rfl := H.h5 rfl
              obtain rfl := H.h6 rfl
              refine wpOp_step ho (fun K' hK => ?_)
              have HK := Lib.hid hK
              clear hK ho
              go_wp2_with fail
              refine (HSD.out _ hbe).mono ?_
              rintro e w1 ⟨rfl, cb1⟩
              have BC := Lib.hid cb1
              clear cb1
              go_wp2_with fail
              exact HK.out _ _ ⟨_, _, _, _, _, _, _, _, _, _, _, _, _, _, _, _, _, _, _, _, _, _, _, _, _, _, _, _, _, _, _, _, _, _, _, _, _, _, _, _, rfl, rfl, ⟨hbe.trans (BC.out.mono hbe.size), H.d1, H.d2, H.d3, H.d4, H.d5, H.d6, (fun _ => ⟨rfl, rfl⟩), (fun h => by cases h), H.d9, (fun h => by cases h), H.d11, H.d12, H.d13, H.d14, H.d15, H.d16, H.d17, H.d18, H.d19, H.h0, H.h1, H.h2, H.h3, H.h4, H.h5, H.h6, (fun _ => rfl), H.h8, H.h9, H.h10, H.h11, H.h12, (fun h => by cases h), H.h14, H.h15, H.h16, H.h17, H.h18, H.h19⟩⟩
            · have ho := hoj
              simp only [List.getElem?_toArray, List.getElem?_cons_succ, List.getElem?_cons_zero, Option.some.injEq] at hoj
              subst hoj
              obtain rfl : cb8 = false := hun
              obtain rfl : cb4 = true := hall ⟨4, .guard⟩ (by simp) (by kernel_rfl)
              obtain rfl : cb7 = true := hall ⟨7, .data⟩ (by simp) (by kernel_rfl)
              obtain rfl : cb3 = true := (H.d4 rfl)
              obtain rfl : cb6 = true := (H.d7 rfl).2
              obtain rfl : cb2 = true := (H.d3 rfl)
              obtain rfl : cb5 = true := (H.d6 rfl).2
              obtain rfl : cb1 = true := (H.d2 rfl)
              obtain rfl : cb0 = true := (H.d1 rfl)
              clear hall
              obtain rfl : cb9 = false := Bool.eq_false_iff.2 fun h => Bool.false_ne_true (H.d9 h).2
              obtain rfl : cb10 = false := Bool.eq_false_iff.2 fun h => Bool.false_ne_true (H.d10 h).2
              obtain rfl : cb11 = false := Bool.eq_false_iff.2 fun h => Bool.false_ne_true (H.d11 h)
              obtain rfl : cb12 = false := Bool.eq_false_iff.2 fun h => Bool.false_ne_true (H.d12 h).1
              obtain rfl : cb13 = false := Bool.eq_false_iff.2 fun h => Bool.false_ne_true (H.d13 h).1
              obtain rfl : cb14 = false := Bool.eq_false_iff.2 fun h => Bool.false_ne_true (H.d14 h)
              obtain rfl : cb15 = false := Bool.eq_false_iff.2 fun h => Bool.false_ne_true (H.d15 h).1
              obtain rfl : cb16 = false := Bool.eq_false_iff.2 fun h => Bool.false_ne_true (H.d16 h).1
              obtain rfl : cb17 = false := Bool.eq_false_iff.2 fun h => Bool.false_ne_true (H.d17 h).1
              obtain rfl : cb18 = false := Bool.eq_false_iff.2 fun h => Bool.false_ne_true (H.d18 h).1
              obtain rfl : cb19 = false := Bool.eq_false_iff.2 fun h => Bool.false_ne_true (H.d19 h).1
              have hbe := H.be
              obtain rfl := H.h0 rfl
              obtain rfl := H.h1 rfl
              obtain rfl := H.h2 rfl
              obtain rfl := H.h3 rfl
              obtain rfl := H.h4 rfl
              obtain rfl := H.h5 rfl
              obtain rfl := H.h6 rfl
              obtain rfl := H.h7 rfl
              refine wpOp_step ho (fun K' hK => ?_)
              have HK := Lib.hid hK
              clear hK ho
              go_simp
              exact HK.out _ _ ⟨_, _, _, _, _, _, _, _, _, _, _, _, _, _, _, _, _, _, _, _, _, _, _, _, _, _, _, _, _, _, _, _, _, _, _, _, _, _, _, _, rfl, rfl, ⟨hbe, H.d1, H.d2, H.d3, H.d4, H.d5, H.d6, H.d7, (fun _ => ⟨rfl, rfl⟩), (fun h => by cases h), H.d10, H.d11, H.d12, H.d13, H.d14, H.d15, H.d16, H.d17, H.d18, H.d19, H.h0, H.h1, H.h2, H.h3, H.h4, H.h5, H.h6, H.h7, (fun _ => rfl), H.h9, H.h10, H.h11, H.h12, (fun h => by cases h), H.h14, H.h15, H.h16, H.h17, H.h18, H.h19⟩⟩
            · have ho := hoj
              simp only [List.getElem?_toArray, List.getElem?_cons_succ, List.getElem?_cons_zero, Option.some.injEq] at hoj
              subst hoj
              obtain rfl : cb9 = false := hun
              obtain rfl : cb4 = true := hall ⟨4, .data⟩ (by simp) (by kernel_rfl)
              obtain rfl : cb8 = true := hall ⟨8, .data⟩ (by simp) (by kernel_rfl)
              obtain rfl : cb3 = true := (H.d4 rfl)
              obtain rfl : cb7 = true := (H.d8 rfl).2
              obtain rfl : cb2 = true := (H.d3 rfl)
              obtain rfl : cb6 = true := (H.d7 rfl).2
              obtain rfl : cb1 = true := (H.d2 rfl)
              obtain rfl : cb5 = true := (H.d6 rfl).2
              obtain rfl : cb0 = true := (H.d1 rfl)
              clear hall
              obtain rfl : cb10 = false := Bool.eq_false_iff.2 fun h => Bool.false_ne_true (H.d10 h).2
              obtain rfl : cb11 = false := Bool.eq_false_iff.2 fun h => Bool.false_ne_true (H.d11 h)
              obtain rfl : cb12 = false := Bool.eq_false_iff.2 fun h => Bool.false_ne_true (H.d12 h).1
              obtain rfl : cb13 = false := Bool.eq_false_iff.2 fun h => Bool.false_ne_true (H.d13 h).1
              obtain rfl : cb14 = false := Bool.eq_false_iff.2 fun h => Bool.false_ne_true (H.d14 h)
              obtain rfl : cb15 = false := Bool.eq_false_iff.2 fun h => Bool.false_ne_true (H.d15 h).1
              obtain rfl : cb16 = false := Bool.eq_false_iff.2 fun h => Bool.false_ne_true (H.d16 h).1
              obtain rfl : cb17 = false := Bool.eq_false_iff.2 fun h => Bool.false_ne_true (H.d17 h).1
              obtain rfl : cb18 = false := Bool.eq_false_iff.2 fun h => Bool.false_ne_true (H.d18 h).1
              obtain rfl : cb19 = false := Bool.eq_false_iff.2 fun h => Bool.false_ne_true (H.d19 h).1
              have hbe := H.be
              obtain rfl := H.h0 rfl
              obtain rfl := H.h1 rfl
              obtain rfl := H.h2 rfl
              obtain rfl := H.h3 rfl
              obtain rfl := H.h4 rfl
              obtain rfl := H.h5 rfl
              obtain rfl := H.h6 rfl
              obtain rfl := H.h7 rfl
              obtain rfl := H.h8 rfl
              refine wpOp_step ho (fun K' hK => ?_)
              have HK := Lib.hid hK
              clear hK ho
              go_simp
              exact HK.out _ _ ⟨_, _, _, _, _, _, _, _, _, _, _, _, _, _, _, _, _, _, _, _, _, _, _, _, _, _, _, _, _, _, _, _, _, _, _, _, _, _, _, _, rfl, rfl, ⟨hbe, H.d1, H.d2, H.d3, H.d4, H.d5, H.d6, H.d7, H.d8, (fun _ => ⟨rfl, rfl⟩), (fun h => by cases h), H.d11, H.d12, H.d13, H.d14, H.d15, H.d16, H.d17, H.d18, H.d19, H.h0, H.h1, H.h2, H.h3, H.h4, H.h5, H.h6, H.h7, H.h8, (fun _ => rfl), H.h10, H.h11, H.h12, (fun h => by cases h), H.h14, H.h15, H.h16, H.h17, H.h18, H.h19⟩⟩
            · have ho := hoj
              simp only [List.getElem?_toArray, List.getElem?_cons_succ, List.getElem?_cons_zero, Option.some.injEq] at hoj
              subst hoj
              obtain rfl : cb10 = false := hun
              obtain rfl : cb7 = true := hall ⟨7, .chain⟩ (by simp) (by kernel_rfl)
              obtain rfl : cb9 = true := hall ⟨9, .data⟩ (by simp) (by kernel_rfl)
              obtain rfl : cb4 = true := (H.d7 rfl).1
              obtain rfl : cb6 = true := (H.d7 rfl).2
              obtain rfl : cb8 = true := (H.d9 rfl).2
              obtain rfl : cb3 = true := (H.d4 rfl)
              obtain rfl : cb5 = true := (H.d6 rfl).2
              obtain rfl : cb2 = true := (H.d3 rfl)
              obtain rfl : cb1 = true := (H.d2 rfl)
              obtain rfl : cb0 = true := (H.d1 rfl)
              clear hall
              obtain rfl : cb11 = false := Bool.eq_false_iff.2 fun h => Bool.false_ne_true (H.d11 h)
              obtain rfl : cb12 = false := Bool.eq_false_iff.2 fun h => Bool.false_ne_true (H.d12 h).1
              obtain rfl : cb13 = false := Bool.eq_false_iff.2 fun h => Bool.false_ne_true (H.d13 h).1
              obtain rfl : cb14 = false := Bool.eq_false_iff.2 fun h => Bool.false_ne_true (H.d14 h)
              obtain rfl : cb15 = false := Bool.eq_false_iff.2 fun h => Bool.false_ne_true (H.d15 h).1
              obtain rfl : cb16 = false := Bool.eq_false_iff.2 fun h => Bool.false_ne_true (H.d16 h).1
              obtain rfl : cb17 = false := Bool.eq_false_iff.2 fun h => Bool.false_ne_true (H.d17 h).1
              obtain rfl : cb18 = false := Bool.eq_false_iff.2 fun h => Bool.false_ne_true (H.d18 h).1
              obtain rfl : cb19 = false := Bool.eq_false_iff.2 fun h => Bool.false_ne_true (H.d19 h).1
              have hbe := H.be
              obtain rfl := H.h0 rfl
              obtain rfl := H.h1 rfl
              obtain rfl := H.h2 rfl
              obtain rfl := H.h3 rfl
              obtain rfl := H.h4 rfl
              obtain rfl := H.h5 rfl
              obtain rfl := H.h6 rfl
              obtain rfl := H.h7 rfl
              obtain rfl := H.h8 rfl
              obtain rfl := H.h9 rfl
              refine wpOp_step ho (fun K' hK => ?_)
              have HK := Lib.hid hK
              clear hK ho
              go_simp
              exact HK.out _ _ ⟨_, _, _, _, _, _, _, _, _, _, _, _, _, _, _, _, _, _, _, _, _, _, _, _, _, _, _, _, _, _, _, _, _, _, _, _, _, _, _, _, rfl, rfl, ⟨hbe, H.d1, H.d2, H.d3, H.d4, H.d5, H.d6, H.d7, H.d8, H.d9, (fun _ => ⟨rfl, rfl⟩), (fun h => by cases h), (fun h => by cases h), (fun h => by cases h), (fun h => by cases h), (fun h => by cases h), (fun h => by cases h), (fun h => by cases h), (fun h => by cases h), H.d19, H.h0, H.h1, H.h2, H.h3, H.h4, H.h5, H.h6, H.h7, H.h8, H.h9, (fun _ => rfl), H.h11, H.h12, (fun h => by cases h), H.h14, H.h15, H.h16, H.h17, H.h18, H.h19⟩⟩
            · have ho := hoj
              simp only [List.getElem?_toArray, List.getElem?_cons_succ, List.getElem?_cons_zero, Option.some.injEq] at hoj
              subst hoj
              obtain rfl : cb11 = false := hun
              obtain rfl : cb10 = true := hall ⟨10, .guard⟩ (by simp) (by kernel_rfl)
              obtain rfl : cb7 = true := (H.d10 rfl).1
              obtain rfl : cb9 = true := (H.d10 rfl).2
              obtain rfl : cb4 = true := (H.d7 rfl).1
              obtain rfl : cb6 = true := (H.d7 rfl).2
              obtain rfl : cb8 = true := (H.d9 rfl).2
              obtain rfl : cb3 = true := (H.d4 rfl)
              obtain rfl : cb5 = true := (H.d6 rfl).2
              obtain rfl : cb2 = true := (H.d3 rfl)
              obtain rfl : cb1 = true := (H.d2 rfl)
              obtain rfl : cb0 = true := (H.d1 rfl)
              clear hall
              obtain rfl : cb12 = false := Bool.eq_false_iff.2 fun h => Bool.false_ne_true (H.d12 h).2
              obtain rfl : cb13 = false := Bool.eq_false_iff.2 fun h => Bool.false_ne_true (H.d13 h).2
              obtain rfl : cb16 = false := Bool.eq_false_iff.2 fun h => Bool.false_ne_true (H.d16 h).2.1
              obtain rfl : cb17 = false := Bool.eq_false_iff.2 fun h => Bool.false_ne_true (H.d17 h).2
              obtain rfl : cb18 = false := Bool.eq_false_iff.2 fun h => Bool.false_ne_true (H.d18 h).2
              obtain rfl : cb19 = false := Bool.eq_false_iff.2 fun h => Bool.false_ne_true (H.d19 h).1
              have hbe := H.be
              obtain rfl := H.h0 rfl
              obtain rfl := H.h1 rfl
              obtain rfl := H.h2 rfl
              obtain rfl := H.h3 rfl
              obtain rfl := H.h4 rfl
              obtain rfl := H.h5 rfl
              obtain rfl := H.h6 rfl
              obtain rfl := H.h7 rfl
              obtain rfl := H.h8 rfl
              obtain rfl := H.h9 rfl
              obtain rfl := H.h10 rfl
              refine wpOp_step ho (fun K' hK => ?_)
              have HK := Lib.hid hK
              clear hK ho
              go_simp
              exact HK.out _ _ ⟨_, _, _, _, _, _, _, _, _, _, _, _, _, _, _, _, _, _, _, _, _, _, _, _, _, _, _, _, _, _, _, _, _, _, _, _, _, _, _, _, rfl, rfl, ⟨hbe, H.d1, H.d2, H.d3, H.d4, H.d5, H.d6, H.d7, H.d8, H.d9, H.d10, (fun _ => rfl), (fun h => by cases h), H.d13, H.d14, H.d15, H.d16, H.d17, H.d18, H.d19, H.h0, H.h1, H.h2, H.h3, H.h4, H.h5, H.h6, H.h7, H.h8, H.h9, H.h10, (fun _ => rfl), H.h12, (fun h => by cases h), H.h14, H.h15, H.h16, H.h17, H.h18, H.h19⟩⟩
            · have ho := hoj
              simp only [List.getElem?_toArray, List.getElem?_cons_succ, List.getElem?_cons_zero, Option.some.injEq] at hoj
              subst hoj
              obtain rfl : cb12 = false := hun
              obtain rfl : cb10 = true := hall ⟨10, .guard⟩ (by simp) (by kernel_rfl)
              obtain rfl : cb11 = true := hall ⟨11, .data⟩ (by simp) (by kernel_rfl)
              obtain rfl : cb7 = true := (H.d10 rfl).1
              obtain rfl : cb9 = true := (H.d10 rfl).2
              obtain rfl : cb4 = true := (H.d7 rfl).1
              obtain rfl : cb6 = true := (H.d7 rfl).2
              obtain rfl : cb8 = true := (H.d9 rfl).2
              obtain rfl : cb3 = true := (H.d4 rfl)
              obtain rfl : cb5 = true := (H.d6 rfl).2
              obtain rfl : cb2 = true := (H.d3 rfl)
              obtain rfl : cb1 = true := (H.d2 rfl)
              obtain rfl : cb0 = true := (H.d1 rfl)
              clear hall
              obtain rfl : cb13 = false := Bool.eq_false_iff.2 fun h => Bool.false_ne_true (H.d13 h).2
              obtain rfl : cb16 = false := Bool.eq_false_iff.2 fun h => Bool.false_ne_true (H.d16 h).2.1
              obtain rfl : cb17 = false := Bool.eq_false_iff.2 fun h => Bool.false_ne_true (H.d17 h).2
              obtain rfl : cb18 = false := Bool.eq_false_iff.2 fun h => Bool.false_ne_true (H.d18 h).2
              obtain rfl : cb19 = false := Bool.eq_false_iff.2 fun h => Bool.false_ne_true (H.d19 h).1
              have hbe := H.be
              obtain rfl := H.h0 rfl
              obtain rfl := H.h1 rfl
              obtain rfl := H.h2 rfl
              obtain rfl := H.h3 rfl
              obtain rfl := H.h4 rfl
              obtain rfl := H.h5 rfl
              obtain rfl := H.h6 rfl
              obtain rfl := H.h7 rfl
              obtain rfl := H.h8 rfl
              obtain rfl := H.h9 rfl
              obtain rfl := H.h10 rfl
              obtain rfl := H.h11 rfl
              obtain ⟨q0, q1, q2, q3, q4⟩ := bk5P ((hbe.block _ (lt_of_block F0.out)).trans F0.out)
              refine wpOp_step ho (fun K' hK => ?_)
              have HK := Lib.hid hK
              clear hK ho
              go_simp
              exact HK.out _ _ ⟨_, _, _, _, _, _, _, _, _, _, _, _, _, _, _, _, _, _, _, _, _, _, _, _, _, _, _, _, _, _, _, _, _, _, _, _, _, _, _, _, rfl, rfl, ⟨hbe, H.d1, H.d2, H.d3, H.d4, H.d5, H.d6, H.d7, H.d8, H.d9, H.d10, H.d11, (fun _ => ⟨rfl, rfl⟩), (fun h => by cases h), H.d14, H.d15, H.d16, H.d17, H.d18, H.d19, H.h0, H.h1, H.h2, H.h3, H.h4, H.h5, H.h6, H.h7, H.h8, H.h9, H.h10, H.h11, (fun _ => rfl), (fun h => by cases h), H.h14, H.h15, H.h16, H.h17, H.h18, H.h19⟩⟩
            · have ho := hoj
              simp only [List.getElem?_toArray, List.getElem?_cons_succ, List.getElem?_cons_zero, Option.some.injEq] at hoj
              subst hoj
              obtain rfl : cb13 = false := hun
              obtain rfl : cb10 = true := hall ⟨10, .chain⟩ (by simp) (by kernel_rfl)
              obtain rfl : cb12 = true := hall ⟨12, .data⟩ (by simp) (by kernel_rfl)
              obtain rfl : cb7 = true := (H.d10 rfl).1
              obtain rfl : cb9 = true := (H.d10 rfl).2
              obtain rfl : cb11 = true := (H.d12 rfl).2
              obtain rfl : cb4 = true := (H.d7 rfl).1
              obtain rfl : cb6 = true := (H.d7 rfl).2
              obtain rfl : cb8 = true := (H.d9 rfl).2
              obtain rfl : cb3 = true := (H.d4 rfl)
              obtain rfl : cb5 = true := (H.d6 rfl).2
              obtain rfl : cb2 = true := (H.d3 rfl)
              obtain rfl : cb1 = true := (H.d2 rfl)
              obtain rfl : cb0 = true := (H.d1 rfl)
              clear hall
              obtain rfl : cb16 = false := Bool.eq_false_iff.2 fun h => Bool.false_ne_true (H.d16 h).2.1
              obtain rfl : cb17 = false := Bool.eq_false_iff.2 fun h => Bool.false_ne_true (H.d17 h).2
              obtain rfl : cb18 = false := Bool.eq_false_iff.2 fun h => Bool.false_ne_true (H.d18 h).2
              obtain rfl : cb19 = false := Bool.eq_false_iff.2 fun h => Bool.false_ne_true (H.d19 h).1
              have hbe := H.be
              obtain rfl := H.h0 rfl
              obtain rfl := H.h1 rfl
              obtain rfl := H.h2 rfl
              obtain rfl := H.h3 rfl
              obtain rfl := H.h4 rfl
              obtain rfl := H.h5 rfl
              obtain rfl := H.h6 rfl
              obtain rfl := H.h7 rfl
              obtain rfl := H.h8 rfl
              obtain rfl := H.h9 rfl
              obtain rfl := H.h10 rfl
              obtain rfl := H.h11 rfl
              obtain rfl := H.h12 rfl
              refine wpOp_step ho (fun K' hK => ?_)
              have HK := Lib.hid hK
              clear hK ho
              go_wp2_with fail
              refine (HNU.out _ hbe).mono ?_
              rintro e w1 ⟨u1, rfl, o1, cb1⟩
              have BC := Lib.hid cb1
              have OC := Lib.hid (OwnE.low o1 hbe.size)
              clear o1 cb1
              go_wp2_with fail
              exact HK.out _ _ ⟨_, _, _, _, _, _, _, _, _, _, _, _, _, _, _, _, _, _, _, _, _, _, _, _, _, _, _, _, _, _, _, _, _, _, _, _, _, _, _, _, rfl, rfl, ⟨hbe.trans (BC.out.mono hbe.size), H.d1, H.d2, H.d3, H.d4, H.d5, H.d6, H.d7, H.d8, H.d9, H.d10, H.d11, H.d12, (fun _ => ⟨rfl, rfl⟩), H.d14, H.d15, (fun h => by cases h), H.d17, H.d18, H.d19, H.h0, H.h1, H.h2, H.h3, H.h4, H.h5, H.h6, H.h7, H.h8, H.h9, H.h10, H.h11, H.h12, (fun _ => OC.out), H.h14, H.h15, H.h16, H.h17, H.h18, H.h19⟩⟩
            · have ho := hoj
              simp only [List.getElem?_toArray, List.getElem?_cons_succ, List.getElem?_cons_zero, Option.some.injEq] at hoj
              subst hoj
              obtain rfl : cb14 = false := hun
              obtain rfl : cb10 = true := hall ⟨10, .guard⟩ (by simp) (by kernel_rfl)
              obtain rfl : cb7 = true := (H.d10 rfl).1
              obtain rfl : cb9 = true := (H.d10 rfl).2
              obtain rfl : cb4 = true := (H.d7 rfl).1
              obtain rfl : cb6 = true := (H.d7 rfl).2
              obtain rfl : cb8 = true := (H.d9 rfl).2
              obtain rfl : cb3 = true := (H.d4 rfl)
              obtain rfl : cb5 = true := (H.d6 rfl).2
              obtain rfl : cb2 = true := (H.d3 rfl)
              obtain rfl : cb1 = true := (H.d2 rfl)
              obtain rfl : cb0 = true := (H.d1 rfl)
              clear hall
              obtain rfl : cb15 = false := Bool.eq_false_iff.2 fun h => Bool.false_ne_true (H.d15 h).2
              obtain rfl : cb16 = false := Bool.eq_false_iff.2 fun h => Bool.false_ne_true (H.d16 h).2.2
              obtain rfl : cb17 = false := Bool.eq_false_iff.2 fun h => Bool.false_ne_true (H.d17 h).2
              obtain rfl : cb18 = false := Bool.eq_false_iff.2 fun h => Bool.false_ne_true (H.d18 h).2
              obtain rfl : cb19 = false := Bool.eq_false_iff.2 fun h => Bool.false_ne_true (H.d19 h).1
              have hbe := H.be
              obtain rfl := H.h0 rfl
              obtain rfl := H.h1 rfl
              obtain rfl := H.h2 rfl
              obtain rfl := H.h3 rfl
              obtain rfl := H.h4 rfl
              obtain rfl := H.h5 rfl
              obtain rfl := H.h6 rfl
              obtain rfl := H.h7 rfl
              obtain rfl := H.h8 rfl
              obtain rfl := H.h9 rfl
              obtain rfl := H.h10 rfl
              refine wpOp_step ho (fun K' hK => ?_)
              have HK := Lib.hid hK
              clear hK ho
              go_simp
              exact HK.out _ _ ⟨_, _, _, _, _, _, _, _, _, _, _, _, _, _, _, _, _, _, _, _, _, _, _, _, _, _, _, _, _, _, _, _, _, _, _, _, _, _, _, _, rfl, rfl, ⟨hbe, H.d1, H.d2, H.d3, H.d4, H.d5, H.d6, H.d7, H.d8, H.d9, H.d10, H.d11, H.d12, H.d13, (fun _ => rfl), (fun h => by cases h), H.d16, H.d17, H.d18, H.d19, H.h0, H.h1, H.h2, H.h3, H.h4, H.h5, H.h6, H.h7, H.h8, H.h9, H.h10, H.h11, H.h12, H.h13, (fun _ => rfl), H.h15, H.h16, H.h17, H.h18, H.h19⟩⟩
            · have ho := hoj
              simp only [List.getElem?_toArray, List.getElem?_cons_succ, List.getElem?_cons_zero, Option.some.injEq] at hoj
              subst hoj
              obtain rfl : cb15 = false := hun
              obtain rfl : cb10 = true := hall ⟨10, .guard⟩ (by simp) (by kernel_rfl)
              obtain rfl : cb14 = true := hall ⟨14, .data⟩ (by simp) (by kernel_rfl)
              obtain rfl : cb7 = true := (H.d10 rfl).1
              obtain rfl : cb9 = true := (H.d10 rfl).2
              obtain rfl : cb4 = true := (H.d7 rfl).1
              obtain rfl : cb6 = true := (H.d7 rfl).2
              obtain rfl : cb8 = true := (H.d9 rfl).2
              obtain rfl : cb3 = true := (H.d4 rfl)
              obtain rfl : cb5 = true := (H.d6 rfl).2
              obtain rfl : cb2 = true := (H.d3 rfl)
              obtain rfl : cb1 = true := (H.d2 rfl)
              obtain rfl : cb0 = true := (H.d1 rfl)
              clear hall
              obtain rfl : cb16 = false := Bool.eq_false_iff.2 fun h => Bool.false_ne_true (H.d16 h).2.2
              obtain rfl : cb17 = false := Bool.eq_false_iff.2 fun h => Bool.false_ne_true (H.d17 h).2
              obtain rfl : cb18 = false := Bool.eq_false_iff.2 fun h => Bool.false_ne_true (H.d18 h).2
              obtain rfl : cb19 = false := Bool.eq_false_iff.2 fun h => Bool.false_ne_true (H.d19 h).1
              have hbe := H.be
              obtain rfl := H.h0 rfl
              obtain rfl := H.h1 rfl
              obtain rfl := H.h2 rfl
              obtain rfl := H.h3 rfl
              obtain rfl := H.h4 rfl
              obtain rfl := H.h5 rfl
              obtain rfl := H.h6 rfl
              obtain rfl := H.h7 rfl
              obtain rfl := H.h8 rfl
              obtain rfl := H.h9 rfl
              obtain rfl := H.h10 rfl
              obtain rfl := H.h14 rfl
              obtain ⟨q0, q1, q2, q3, q4⟩ := bk5P ((hbe.block _ (lt_of_block F0.out)).trans F0.out)
              refine wpOp_step ho (fun K' hK => ?_)
              have HK := Lib.hid hK
              clear hK ho
              go_simp
              exact HK.out _ _ ⟨_, _, _, _, _, _, _, _, _, _, _, _, _, _, _, _, _, _, _, _, _, _, _, _, _, _, _, _, _, _, _, _, _, _, _, _, _, _, _, _, rfl, rfl, ⟨hbe, H.d1, H.d2, H.d3, H.d4, H.d5, H.d6, H.d7, H.d8, H.d9, H.d10, H.d11, H.d12, H.d13, H.d14, (fun _ => ⟨rfl, rfl⟩), (fun h => by cases h), H.d17, H.d18, H.d19, H.h0, H.h1, H.h2, H.h3, H.h4, H.h5, H.h6, H.h7, H.h8, H.h9, H.h10, H.h11, H.h12, H.h13, H.h14, (fun _ => rfl), H.h16, H.h17, H.h18, H.h19⟩⟩
            · have ho := hoj
              simp only [List.getElem?_toArray, List.getElem?_cons_succ, List.getElem?_cons_zero, Option.some.injEq] at hoj
              subst hoj
              obtain rfl : cb16 = false := hun
              obtain rfl : cb10 = true := hall ⟨10, .guard⟩ (by simp) (by kernel_rfl)
              obtain rfl : cb13 = true := hall ⟨13, .data⟩ (by simp) (by kernel_rfl)
              obtain rfl : cb15 = true := hall ⟨15, .data⟩ (by simp) (by kernel_rfl)
              obtain rfl : cb7 = true := (H.d10 rfl).1
              obtain rfl : cb9 = true := (H.d10 rfl).2
              obtain rfl : cb12 = true := (H.d13 rfl).2
              obtain rfl : cb14 = true := (H.d15 rfl).2
              obtain rfl : cb4 = true := (H.d7 rfl).1
              obtain rfl : cb6 = true := (H.d7 rfl).2
              obtain rfl : cb8 = true := (H.d9 rfl).2
              obtain rfl : cb11 = true := (H.d12 rfl).2
              obtain rfl : cb3 = true := (H.d4 rfl)
              obtain rfl : cb5 = true := (H.d6 rfl).2
              obtain rfl : cb2 = true := (H.d3 rfl)
              obtain rfl : cb1 = true := (H.d2 rfl)
              obtain rfl : cb0 = true := (H.d1 rfl)
              clear hall
              obtain rfl : cb17 = false := Bool.eq_false_iff.2 fun h => Bool.false_ne_true (H.d17 h).2
              obtain rfl : cb18 = false := Bool.eq_false_iff.2 fun h => Bool.false_ne_true (H.d18 h).2
              obtain rfl : cb19 = false := Bool.eq_false_iff.2 fun h => Bool.false_ne_true (H.d19 h).1
              have hbe := H.be
              obtain rfl := H.h0 rfl
              obtain rfl := H.h1 rfl
              obtain rfl := H.h2 rfl
              obtain rfl := H.h3 rfl
              obtain rfl := H.h4 rfl
              obtain rfl := H.h5 rfl
              obtain rfl := H.h6 rfl
              obtain rfl := H.h7 rfl
              obtain rfl := H.h8 rfl
              obtain rfl := H.h9 rfl
              obtain rfl := H.h10 rfl
              obtain rfl := H.h11 rfl
              obtain rfl := H.h12 rfl
              have P13 := H.h13 rfl
              obtain rfl := H.h14 rfl
              obtain rfl := H.h15 rfl
              obtain ⟨Au, cu, rfl, hu1, hu2, hur⟩ := OwnE.slice P13
              have HUR := Lib.hid hur
              clear hu1 hu2 hur
              refine wpOp_step ho (fun K' hK => ?_)
              have HK := Lib.hid hK
              clear hK ho
              go_wp2_with fail
              refine (HRI.out _ _ _ _ HUR.out rfl).mono ?_
              rintro e w1 ⟨rfl, rfl⟩
              go_wp2_with fail
              exact HK.out _ _ ⟨_, _, _, _, _, _, _, _, _, _, _, _, _, _, _, _, _, _, _, _, _, _, _, _, _, _, _, _, _, _, _, _, _, _, _, _, _, _, _, _, rfl, rfl, ⟨hbe, H.d1, H.d2, H.d3, H.d4, H.d5, H.d6, H.d7, H.d8, H.d9, H.d10, H.d11, H.d12, H.d13, H.d14, H.d15, (fun _ => ⟨rfl, rfl, rfl⟩), (fun h => by cases h), H.d18, (fun h => by cases h), H.h0, H.h1, H.h2, H.h3, H.h4, H.h5, H.h6, H.h7, H.h8, H.h9, H.h10, H.h11, H.h12, H.h13, H.h14, H.h15, (fun _ => rfl), H.h17, H.h18, H.h19⟩⟩
            · have ho := hoj
              simp only [List.getElem?_toArray, List.getElem?_cons_succ, List.getElem?_cons_zero, Option.some.injEq] at hoj
              subst hoj
              obtain rfl : cb17 = false := hun
              obtain rfl : cb10 = true := hall ⟨10, .guard⟩ (by simp) (by kernel_rfl)
              obtain rfl : cb16 = true := hall ⟨16, .data⟩ (by simp) (by kernel_rfl)
              obtain rfl : cb7 = true := (H.d10 rfl).1
              obtain rfl : cb9 = true := (H.d10 rfl).2
              obtain rfl : cb13 = true := (H.d16 rfl).2.1
              obtain rfl : cb15 = true := (H.d16 rfl).2.2
              obtain rfl : cb4 = true := (H.d7 rfl).1
              obtain rfl : cb6 = true := (H.d7 rfl).2
              obtain rfl : cb8 = true := (H.d9 rfl).2
              obtain rfl : cb12 = true := (H.d13 rfl).2
              obtain rfl : cb14 = true := (H.d15 rfl).2
              obtain rfl : cb3 = true := (H.d4 rfl)
              obtain rfl : cb5 = true := (H.d6 rfl).2
              obtain rfl : cb11 = true := (H.d12 rfl).2
              obtain rfl : cb2 = true := (H.d3 rfl)
              obtain rfl : cb1 = true := (H.d2 rfl)
              obtain rfl : cb0 = true := (H.d1 rfl)
              clear hall
              obtain rfl : cb18 = false := Bool.eq_false_iff.2 fun h => Bool.false_ne_true (H.d18 h).2
              obtain rfl : cb19 = false := Bool.eq_false_iff.2 fun h => Bool.false_ne_true (H.d19 h).2
              have hbe := H.be
              obtain rfl := H.h0 rfl
              obtain rfl := H.h1 rfl
              obtain rfl := H.h2 rfl
              obtain rfl := H.h3 rfl
              obtain rfl := H.h4 rfl
              obtain rfl := H.h5 rfl
              obtain rfl := H.h6 rfl
              obtain rfl := H.h7 rfl
              obtain rfl := H.h8 rfl
              obtain rfl := H.h9 rfl
              obtain rfl := H.h10 rfl
              obtain rfl := H.h11 rfl
              obtain rfl := H.h12 rfl
              have P13 := H.h13 rfl
              obtain rfl := H.h14 rfl
              obtain rfl := H.h15 rfl
              obtain rfl := H.h16 rfl
              refine wpOp_step ho (fun K' hK => ?_)
              have HK := Lib.hid hK
              clear hK ho
              go_simp
              exact HK.out _ _ ⟨_, _, _, _, _, _, _, _, _, _, _, _, _, _, _, _, _, _, _, _, _, _, _, _, _, _, _, _, _, _, _, _, _, _, _, _, _, _, _, _, rfl, rfl, ⟨hbe, H.d1, H.d2, H.d3, H.d4, H.d5, H.d6, H.d7, H.d8, H.d9, H.d10, H.d11, H.d12, H.d13, H.d14, H.d15, H.d16, (fun _ => ⟨rfl, rfl⟩), (fun h => by cases h), H.d19, H.h0, H.h1, H.h2, H.h3, H.h4, H.h5, H.h6, H.h7, H.h8, H.h9, H.h10, H.h11, H.h12, H.h13, H.h14, H.h15, H.h16, (fun _ => rfl), H.h18, H.h19⟩⟩
            · have ho := hoj
              simp only [List.getElem?_toArray, List.getElem?_cons_succ, List.getElem?_cons_zero, Option.some.injEq] at hoj
              subst hoj
              obtain rfl : cb18 = false := hun
              obtain rfl : cb10 = true := hall ⟨10, .data⟩ (by simp) (by kernel_rfl)
              obtain rfl : cb17 = true := hall ⟨17, .data⟩ (by simp) (by kernel_rfl)
              obtain rfl : cb7 = true := (H.d10 rfl).1
              obtain rfl : cb9 = true := (H.d10 rfl).2
              obtain rfl : cb16 = true := (H.d17 rfl).2
              obtain rfl : cb4 = true := (H.d7 rfl).1
              obtain rfl : cb6 = true := (H.d7 rfl).2
              obtain rfl : cb8 = true := (H.d9 rfl).2
              obtain rfl : cb13 = true := (H.d16 rfl).2.1
              obtain rfl : cb15 = true := (H.d16 rfl).2.2
              obtain rfl : cb3 = true := (H.d4 rfl)
              obtain rfl : cb5 = true := (H.d6 rfl).2
              obtain rfl : cb12 = true := (H.d13 rfl).2
              obtain rfl : cb14 = true := (H.d15 rfl).2
              obtain rfl : cb2 = true := (H.d3 rfl)
              obtain rfl : cb11 = true := (H.d12 rfl).2
              obtain rfl : cb1 = true := (H.d2 rfl)
              obtain rfl : cb0 = true := (H.d1 rfl)
              clear hall
              obtain rfl : cb19 = false := Bool.eq_false_iff.2 fun h => Bool.false_ne_true (H.d19 h).2
              have hbe := H.be
              obtain rfl := H.h0 rfl
              obtain rfl := H.h1 rfl
              obtain rfl := H.h2 rfl
              obtain rfl := H.h3 rfl
              obtain rfl := H.h4 rfl
              obtain rfl := H.h5 rfl
              obtain rfl := H.h6 rfl
              obtain rfl := H.h7 rfl
              obtain rfl := H.h8 rfl
              obtain rfl := H.h9 rfl
              obtain rfl := H.h10 rfl
              obtain rfl := H.h11 rfl
              obtain rfl := H.h12 rfl
              have P13 := H.h13 rfl
              obtain rfl := H.h14 rfl
              obtain rfl := H.h15 rfl
              obtain rfl := H.h16 rfl
              obtain rfl := H.h17 rfl
              refine wpOp_step ho (fun K' hK => ?_)
              have HK := Lib.hid hK
              clear hK ho
              go_simp
              exact HK.out _ _ ⟨_, _, _, _, _, _, _, _, _, _, _, _, _, _, _, _, _, _, _, _, _, _, _, _, _, _, _, _, _, _, _, _, _, _, _, _, _, _, _, _, rfl, rfl, ⟨hbe, H.d1, H.d2, H.d3, H.d4, H.d5, H.d6, H.d7, H.d8, H.d9, H.d10, H.d11, H.d12, H.d13, H.d14, H.d15, H.d16, H.d17, (fun _ => ⟨rfl, rfl⟩), (fun h => by cases h), H.h0, H.h1, H.h2, H.h3, H.h4, H.h5, H.h6, H.h7, H.h8, H.h9, H.h10, H.h11, H.h12, H.h13, H.h14, H.h15, H.h16, H.h17, (fun _ => rfl), H.h19⟩⟩
            · have ho := hoj
              simp only [List.getElem?_toArray, List.getElem?_cons_succ, List.getElem?_cons_zero, Option.some.injEq] at hoj
              subst hoj
              obtain rfl : cb19 = false := hun
              obtain rfl : cb16 = true := hall ⟨16, .chain⟩ (by simp) (by kernel_rfl)
              obtain rfl : cb18 = true := hall ⟨18, .data⟩ (by simp) (by kernel_rfl)
              obtain rfl : cb10 = true := (H.d16 rfl).1
              obtain rfl : cb13 = true := (H.d16 rfl).2.1
              obtain rfl : cb15 = true := (H.d16 rfl).2.2
              obtain rfl : cb17 = true := (H.d18 rfl).2
              obtain rfl : cb7 = true := (H.d10 rfl).1
              obtain rfl : cb9 = true := (H.d10 rfl).2
              obtain rfl : cb12 = true := (H.d13 rfl).2
              obtain rfl : cb14 = true := (H.d15 rfl).2
              obtain rfl : cb4 = true := (H.d7 rfl).1
              obtain rfl : cb6 = true := (H.d7 rfl).2
              obtain rfl : cb8 = true := (H.d9 rfl).2
              obtain rfl : cb11 = true := (H.d12 rfl).2
              obtain rfl : cb3 = true := (H.d4 rfl)
              obtain rfl : cb5 = true := (H.d6 rfl).2
              obtain rfl : cb2 = true := (H.d3 rfl)
              obtain rfl : cb1 = true := (H.d2 rfl)
              obtain rfl : cb0 = true := (H.d1 rfl)
              clear hall
              have hbe := H.be
              obtain rfl := H.h0 rfl
              obtain rfl := H.h1 rfl
              obtain rfl := H.h2 rfl
              obtain rfl := H.h3 rfl
              obtain rfl := H.h4 rfl
              obtain rfl := H.h5 rfl
              obtain rfl := H.h6 rfl
              obtain rfl := H.h7 rfl
              obtain rfl := H.h8 rfl
              obtain rfl := H.h9 rfl
              obtain rfl := H.h10 rfl
              obtain rfl := H.h11 rfl
              obtain rfl := H.h12 rfl
              have P13 := H.h13 rfl
              obtain rfl := H.h14 rfl
              obtain rfl := H.h15 rfl
              obtain rfl := H.h16 rfl
              obtain rfl := H.h17 rfl
              obtain rfl := H.h18 rfl
              refine wpOp_step ho (fun K' hK => ?_)
              have HK := Lib.hid hK
              clear hK ho
              go_simp
              exact HK.out _ _ ⟨_, _, _, _, _, _, _, _, _, _, _, _, _, _, _, _, _, _, _, _, _, _, _, _, _, _, _, _, _, _, _, _, _, _, _, _, _, _, _, _, rfl, rfl, ⟨hbe, H.d1, H.d2, H.d3, H.d4, H.d5, H.d6, H.d7, H.d8, H.d9, H.d10, H.d11, H.d12, H.d13, H.d14, H.d15, H.d16, H.d17, H.d18, (fun _ => ⟨rfl, rfl⟩), H.h0, H.h1, H.h2, H.h3, H.h4, H.h5, H.h6, H.h7, H.h8, H.h9, H.h10, H.h11, H.h12, H.h13, H.h14, H.h15, H.h16, H.h17, H.h18, (fun _ => rfl)⟩⟩
            · have ho := hoj
              simp at ho
          case hfin =>
            rintro listed a w ⟨cb0, cb1, cb2, cb3, cb4, cb5, cb6, cb7, cb8, cb9, cb10, cb11, cb12, cb13, cb14, cb15, cb16, cb17, cb18, cb19, cx0, cx1, cx2, cx3, cx4, cx5, cx6, cx7, cx8, cx9, cx10, cx11, cx12, cx13, cx14, cx15, cx16, cx17, cx18, cx19, rfl, rfl, H⟩ hr
            have hb : cb19 = true := by
              clear H
              obtain rfl : cb0 = true := by
                cases cb0
                · exact absurd hr (ready_neC (by kernel_rfl))
                · rfl
              obtain rfl : cb1 = true := by
                cases cb1
                · exact absurd hr (ready_neC (by kernel_rfl))
                · rfl
              obtain rfl : cb2 = true := by
                cases cb2
                · exact absurd hr (ready_neC (by kernel_rfl))
                · rfl
              obtain rfl : cb3 = true := by
                cases cb3
                · exact absurd hr (ready_neC (by kernel_rfl))
                · rfl
              obtain rfl : cb4 = true := by
                cases cb4
                · exact absurd hr (ready_neC (by kernel_rfl))
                · rfl
              obtain rfl : cb5 = true := by
                cases cb5
                · exact absurd hr (ready_neC (by kernel_rfl))
                · rfl
              obtain rfl : cb6 = true := by
                cases cb6
                · exact absurd hr (ready_neC (by kernel_rfl))
                · rfl
              obtain rfl : cb7 = true := by
                cases cb7
                · exact absurd hr (ready_neC (by kernel_rfl))
                · rfl
              obtain rfl : cb8 = true := by
                cases cb8
                · exact absurd hr (ready_neC (by kernel_rfl))
                · rfl
              obtain rfl : cb9 = true := by
                cases cb9
                · exact absurd hr (ready_neC (by kernel_rfl))
                · rfl
              obtain rfl : cb10 = true := by
                cases cb10
                · exact absurd hr (ready_neC (by kernel_rfl))
                · rfl
              obtain rfl : cb11 = true := by
                cases cb11
                · exact absurd hr (ready_neC (by kernel_rfl))
                · rfl
              obtain rfl : cb12 = true := by
                cases cb12
                · exact absurd hr (ready_neC (by kernel_rfl))
                · rfl
              obtain rfl : cb13 = true := by
                cases cb13
                · exact absurd hr (ready_neC (by kernel_rfl))
                · rfl
              obtain rfl : cb14 = true := by
                cases cb14
                · exact absurd hr (ready_neC (by kernel_rfl))
                · rfl
              obtain rfl : cb15 = true := by
                cases cb15
                · exact absurd hr (ready_neC (by kernel_rfl))
                · rfl
              obtain rfl : cb16 = true := by
                cases cb16
                · exact absurd hr (ready_neC (by kernel_rfl))
                · rfl
              obtain rfl : cb17 = true := by
                cases cb17
                · exact absurd hr (ready_neC (by kernel_rfl))
                · rfl
              obtain rfl : cb18 = true := by
                cases cb18
                · exact absurd hr (ready_neC (by kernel_rfl))
                · rfl
              obtain rfl : cb19 = true := by
                cases cb19
                · exact absurd hr (ready_neC (by kernel_rfl))
                · rfl
              rfl
            subst hb
            clear hr
            obtain rfl : cb16 = true := (H.d19 rfl).1
            obtain rfl : cb18 = true := (H.d19 rfl).2
            obtain rfl : cb10 = true := (H.d16 rfl).1
            obtain rfl : cb13 = true := (H.d16 rfl).2.1
            obtain rfl : cb15 = true := (H.d16 rfl).2.2
            obtain rfl : cb17 = true := (H.d18 rfl).2
            obtain rfl : cb7 = true := (H.d10 rfl).1
            obtain rfl : cb9 = true := (H.d10 rfl).2
            obtain rfl : cb12 = true := (H.d13 rfl).2
            obtain rfl : cb14 = true := (H.d15 rfl).2
            obtain rfl : cb4 = true := (H.d7 rfl).1
            obtain rfl : cb6 = true := (H.d7 rfl).2
            obtain rfl : cb8 = true := (H.d9 rfl).2
            obtain rfl : cb11 = true := (H.d12 rfl).2
            obtain rfl : cb3 = true := (H.d4 rfl)
            obtain rfl : cb5 = true := (H.d6 rfl).2
            obtain rfl : cb2 = true := (H.d3 rfl)
            obtain rfl : cb1 = true := (H.d2 rfl)
            obtain rfl : cb0 = true := (H.d1 rfl)
            have e19 := H.h19 rfl
            have hb := H.be
            subst e19
            clear H
            go_wp2_with fail
            go_meet
            exact ⟨HCN'.out.symm, Lib.hid hb⟩
        | false =>
          have HCN' := Lib.hid (show Value.bool c2n = .bool true from by rw [HCN.out, hm1]; rfl)
          clear hm1 m1
          refine wp_region_inv (fun lis_ act_ wld_ => ∃ (bb0 bb1 bb2 bb3 bb4 bb5 bb6 bb7 bb8 bb9 bb10 bb11 bb12 bb13 bb14 bb15 bb16 bb17 bb18 bb19 : Bool) (bx0 bx1 bx2 bx3 bx4 bx5 bx6 bx7 bx8 bx9 bx10 bx11 bx12 bx13 bx14 bx15 bx16 bx17 bx18 bx19 : Value), lis_ = #[bb0, bb1, bb2, bb3, bb4, bb5, bb6, bb7, bb8, bb9, bb10, bb11, bb12, bb13, bb14, bb15, bb16, bb17, bb18, bb19] ∧ act_ = { tmps := #[Value.agg #[Value.int IntKind.i64 nx, Value.slice Aa na ca, Value.int IntKind.i64 tp, Value.slice Ah nh ch, Value.slice Ak nk ck], Value.pointer (some { block := k0, off := 0 }), Value.int IntKind.i64 0, Value.bool false, Value.pointer (some { block := k0, off := 0 }), Value.int IntKind.i64 nx, Value.bool false, Value.bool false, Value.pointer (some { block := k0, off := 0 }), Value.int IntKind.i64 nx, Value.bool false, Value.bool false, Value.bool false, Value.pointer (some { block := k0, off := 2 }), Value.int IntKind.i64 tp, Value.bool false, Value.bool false, Value.bool false, Value.pointer (some { block := k0, off := 2 }), Value.int IntKind.i64 tp, Value.pointer (some { block := k0, off := 0 }), Value.int IntKind.i64 nx, Value.bool false, Value.bool false, bx19, bx0, bx1, bx2, bx3, bx4, bx5, bx6, bx7, bx8, bx9, bx10, bx11, bx12, bx13, bx14, bx15, bx16, bx17, bx18, undef, undef, undef, undef, undef, undef, undef, undef, undef, undef, undef, undef, undef, undef, undef, undef, undef, undef, undef, undef, undef, undef, undef, undef, undef, undef, undef, undef, undef, undef, undef, undef, undef, undef], defers := [] } ∧ SpCk1 W1 k0 nx Aa na ca (.pointer (some ⟨k0, 1, none⟩)) (.slice Aa na ca) (.int .i64 (na : Int)) (.bool false) (.bool false) (.pointer (some ⟨k0, 1, none⟩)) (.slice Aa na ca) (.bool false) (.bool true) (.bool true) (.bool true) (undef) (undef) (undef) (undef) (undef) (undef) (undef) (.bool true) (.bool true) bb0 bb1 bb2 bb3 bb4 bb5 bb6 bb7 bb8 bb9 bb10 bb11 bb12 bb13 bb14 bb15 bb16 bb17 bb18 bb19 bx0 bx1 bx2 bx3 bx4 bx5 bx6 bx7 bx8 bx9 bx10 bx11 bx12 bx13 bx14 bx15 bx16 bx17 bx18 bx19 wld_) (by kernel_rfl) ?h0 ?hfin ?hI
          case h0 => exact ⟨_, _, _, _, _, _, _, _, _, _, _, _, _, _, _, _, _, _, _, _, _, _, _, _, _, _, _, _, _, _, _, _, _, _, _, _, _, _, _, _, rfl, rfl, ⟨(Below.refl _ _).drew, (fun h => by cases h), (fun h => by cases h), (fun h => by cases h), (fun h => by cases h), (fun h => by cases h), (fun h => by cases h), (fun h => by cases h), (fun h => by cases h), (fun h => by cases h), (fun h => by cases h), (fun h => by cases h), (fun h => by cases h), (fun h => by cases h), (fun h => by cases h), (fun h => by cases h), (fun h => by cases h), (fun h => by cases h), (fun h => by cases h), (fun h => by cases h), (fun h => by cases h), (fun h => by cases h), (fun h => by cases h), (fun h => by cases h), (fun h => by cases h), (fun h => by cases h), (fun h => by cases h), (fun h => by cases h), (fun h => by cases h), (fun h => by cases h), (fun h => by cases h), (fun h => by cases h), (fun h => by cases h), (fun h => by cases h), (fun h => by cases h), (fun h => by cases h), (fun h => by cases h), (fun h => by cases h), (fun h => by cases h), (fun h => by cases h)⟩⟩
          case hI =>
            rintro listed a w ⟨bb0, bb1, bb2, bb3, bb4, bb5, bb6, bb7, bb8, bb9, bb10, bb11, bb12, bb13, bb14, bb15, bb16, bb17, bb18, bb19, bx0, bx1, bx2, bx3, bx4, bx5, bx6, bx7, bx8, bx9, bx10, bx11, bx12, bx13, bx14, bx15, bx16, bx17, bx18, bx19, rfl, rfl, H⟩ i hi
            obtain ⟨hun, oj, hoj, hall⟩ := mem_ready.1 hi
            clear hi
            rcases i with _ | _ | _ | _ | _ | _ | _ | _ | _ | _ | _ | _ | _ | _ | _ | _ | _ | _ | _ | _ | i
            · have ho := hoj
              simp only [List.getElem?_toArray, List.getElem?_cons_zero, Option.some.injEq] at hoj
              subst hoj
              obtain rfl : bb0 = false := hun
              clear hall
              obtain rfl : bb1 = false := Bool.eq_false_iff.2 fun h => Bool.false_ne_true (H.d1 h)
              obtain rfl : bb2 = false := Bool.eq_false_iff.2 fun h => Bool.false_ne_true (H.d2 h)
              obtain rfl : bb3 = false := Bool.eq_false_iff.2 fun h => Bool.false_ne_true (H.d3 h)
              obtain rfl : bb4 = false := Bool.eq_false_iff.2 fun h => Bool.false_ne_true (H.d4 h)
              obtain rfl : bb5 = false := Bool.eq_false_iff.2 fun h => Bool.false_ne_true (H.d5 h)
              obtain rfl : bb6 = false := Bool.eq_false_iff.2 fun h => Bool.false_ne_true (H.d6 h).1
              obtain rfl : bb7 = false := Bool.eq_false_iff.2 fun h => Bool.false_ne_true (H.d7 h).1
              obtain rfl : bb8 = false := Bool.eq_false_iff.2 fun h => Bool.false_ne_true (H.d8 h).1
              obtain rfl : bb9 = false := Bool.eq_false_iff.2 fun h => Bool.false_ne_true (H.d9 h).1
              obtain rfl : bb10 = false := Bool.eq_false_iff.2 fun h => Bool.false_ne_true (H.d10 h).1
              obtain rfl : bb11 = false := Bool.eq_false_iff.2 fun h => Bool.false_ne_true (H.d11 h)
              obtain rfl : bb12 = false := Bool.eq_false_iff.2 fun h => Bool.false_ne_true (H.d12 h).1
              obtain rfl : bb13 = false := Bool.eq_false_iff.2 fun h => Bool.false_ne_true (H.d13 h).1
              obtain rfl : bb14 = false := Bool.eq_false_iff.2 fun h => Bool.false_ne_true (H.d14 h)
              obtain rfl : bb15 = false := Bool.eq_false_iff.2 fun h => Bool.false_ne_true (H.d15 h).1
              obtain rfl : bb16 = false := Bool.eq_false_iff.2 fun h => Bool.false_ne_true (H.d16 h).1
              obtain rfl : bb17 = false := Bool.eq_false_iff.2 fun h => Bool.false_ne_true (H.d17 h).1
              obtain rfl : bb18 = false := Bool.eq_false_iff.2 fun h => Bool.false_ne_true (H.d18 h).1
              obtain rfl : bb19 = false := Bool.eq_false_iff.2 fun h => Bool.false_ne_true (H.d19 h).1
              have hbe := H.be
              refine wpOp_step ho (fun K' hK => ?_)
              have HK := Lib.hid hK
              clear hK ho
              go_simp
              exact HK.out _ _ ⟨_, _, _, _, _, _, _, _, _, _, _, _, _, _, _, _, _, _, _, _, _, _, _, _, _, _, _, _, _, _, _, _, _, _, _, _, _, _, _, _, rfl, rfl, ⟨hbe, (fun h => by cases h), H.d2, H.d3, H.d4, H.d5, H.d6, H.d7, H.d8, H.d9, H.d10, H.d11, H.d12, H.d13, H.d14, H.d15, H.d16, H.d17, H.d18, H.d19, (fun _ => rfl), H.h1, H.h2, H.h3, H.h4, H.h5, H.h6, H.h7, H.h8, H.h9, H.h10, H.h11, H.h12, H.h13, H.h14, H.h15, H.h16, H.h17, H.h18, H.h19⟩⟩
            · have ho := hoj
              simp only [List.getElem?_toArray, List.getElem?_cons_succ, List.getElem?_cons_zero, Option.some.injEq] at hoj
              subst hoj
              obtain rfl : bb1 = false := hun
              obtain rfl : bb0 = true := hall ⟨0, .data⟩ (by simp) (by kernel_rfl)
              clear hall
              obtain rfl : bb2 = false := Bool.eq_false_iff.2 fun h => Bool.false_ne_true (H.d2 h)
              obtain rfl : bb3 = false := Bool.eq_false_iff.2 fun h => Bool.false_ne_true (H.d3 h)
              obtain rfl : bb4 = false := Bool.eq_false_iff.2 fun h => Bool.false_ne_true (H.d4 h)
              obtain rfl : bb5 = false := Bool.eq_false_iff.2 fun h => Bool.false_ne_true (H.d5 h)
              obtain rfl : bb6 = false := Bool.eq_false_iff.2 fun h => Bool.false_ne_true (H.d6 h).1
              obtain rfl : bb7 = false := Bool.eq_false_iff.2 fun h => Bool.false_ne_true (H.d7 h).1
              obtain rfl : bb8 = false := Bool.eq_false_iff.2 fun h => Bool.false_ne_true (H.d8 h).1
              obtain rfl : bb9 = false := Bool.eq_false_iff.2 fun h => Bool.false_ne_true (H.d9 h).1
              obtain rfl : bb10 = false := Bool.eq_false_iff.2 fun h => Bool.false_ne_true (H.d10 h).1
              obtain rfl : bb11 = false := Bool.eq_false_iff.2 fun h => Bool.false_ne_true (H.d11 h)
              obtain rfl : bb12 = false := Bool.eq_false_iff.2 fun h => Bool.false_ne_true (H.d12 h).1
              obtain rfl : bb13 = false := Bool.eq_false_iff.2 fun h => Bool.false_ne_true (H.d13 h).1
              obtain rfl : bb14 = false := Bool.eq_false_iff.2 fun h => Bool.false_ne_true (H.d14 h)
              obtain rfl : bb15 = false := Bool.eq_false_iff.2 fun h => Bool.false_ne_true (H.d15 h).1
              obtain rfl : bb16 = false := Bool.eq_false_iff.2 fun h => Bool.false_ne_true (H.d16 h).1
              obtain rfl : bb17 = false := Bool.eq_false_iff.2 fun h => Bool.false_ne_true (H.d17 h).1
              obtain rfl : bb18 = false := Bool.eq_false_iff.2 fun h => Bool.false_ne_true (H.d18 h).1
              obtain rfl : bb19 = false := Bool.eq_false_iff.2 fun h => Bool.false_ne_true (H.d19 h).1
              have hbe := H.be
              obtain rfl := H.h0 rfl
              obtain ⟨q0, q1, q2, q3, q4⟩ := bk5P ((hbe.block _ (lt_of_block F0.out)).trans F0.out)
              refine wpOp_step ho (fun K' hK => ?_)
              have HK := Lib.hid hK
              clear hK ho
              go_simp
              exact HK.out _ _ ⟨_, _, _, _, _, _, _, _, _, _, _, _, _, _, _, _, _, _, _, _, _, _, _, _, _, _, _, _, _, _, _, _, _, _, _, _, _, _, _, _, rfl, rfl, ⟨hbe, (fun _ => rfl), (fun h => by cases h), H.d3, H.d4, H.d5, H.d6, H.d7, H.d8, H.d9, H.d10, H.d11, H.d12, H.d13, H.d14, H.d15, H.d16, H.d17, H.d18, H.d19, H.h0, (fun _ => rfl), H.h2, H.h3, H.h4, H.h5, H.h6, H.h7, H.h8, H.h9, H.h10, H.h11, H.h12, H.h13, H.h14, H.h15, H.h16, H.h17, H.h18, H.h19⟩⟩
            · have ho := hoj
              simp only [List.getElem?_toArray, List.getElem?_cons_succ, List.getElem?_cons_zero, Option.some.injEq] at hoj
              subst hoj
              obtain rfl : bb2 = false := hun
              obtain rfl : bb1 = true := hall ⟨1, .data⟩ (by simp) (by kernel_rfl)
              obtain rfl : bb0 = true := (H.d1 rfl)
              clear hall
              obtain rfl : bb3 = false := Bool.eq_false_iff.2 fun h => Bool.false_ne_true (H.d3 h)
              obtain rfl : bb4 = false := Bool.eq_false_iff.2 fun h => Bool.false_ne_true (H.d4 h)
              obtain rfl : bb5 = false := Bool.eq_false_iff.2 fun h => Bool.false_ne_true (H.d5 h)
              obtain rfl : bb6 = false := Bool.eq_false_iff.2 fun h => Bool.false_ne_true (H.d6 h).1
              obtain rfl : bb7 = false := Bool.eq_false_iff.2 fun h => Bool.false_ne_true (H.d7 h).1
              obtain rfl : bb8 = false := Bool.eq_false_iff.2 fun h => Bool.false_ne_true (H.d8 h).1
              obtain rfl : bb9 = false := Bool.eq_false_iff.2 fun h => Bool.false_ne_true (H.d9 h).1
              obtain rfl : bb10 = false := Bool.eq_false_iff.2 fun h => Bool.false_ne_true (H.d10 h).1
              obtain rfl : bb11 = false := Bool.eq_false_iff.2 fun h => Bool.false_ne_true (H.d11 h)
              obtain rfl : bb12 = false := Bool.eq_false_iff.2 fun h => Bool.false_ne_true (H.d12 h).1
              obtain rfl : bb13 = false := Bool.eq_false_iff.2 fun h => Bool.false_ne_true (H.d13 h).1
              obtain rfl : bb14 = false := Bool.eq_false_iff.2 fun h => Bool.false_ne_true (H.d14 h)
              obtain rfl : bb15 = false := Bool.eq_false_iff.2 fun h => Bool.false_ne_true (H.d15 h).1
              obtain rfl : bb16 = false := Bool.eq_false_iff.2 fun h => Bool.false_ne_true (H.d16 h).1
              obtain rfl : bb17 = false := Bool.eq_false_iff.2 fun h => Bool.false_ne_true (H.d17 h).1
              obtain rfl : bb18 = false := Bool.eq_false_iff.2 fun h => Bool.false_ne_true (H.d18 h).1
              obtain rfl : bb19 = false := Bool.eq_false_iff.2 fun h => Bool.false_ne_true (H.d19 h).1
              have hbe := H.be
              obtain rfl := H.h0 rfl
              obtain rfl := H.h1 rfl
              refine wpOp_step ho (fun K' hK => ?_)
              have HK := Lib.hid hK
              clear hK ho
              go_simp
              exact HK.out _ _ ⟨_, _, _, _, _, _, _, _, _, _, _, _, _, _, _, _, _, _, _, _, _, _, _, _, _, _, _, _, _, _, _, _, _, _, _, _, _, _, _, _, rfl, rfl, ⟨hbe, H.d1, (fun _ => rfl), (fun h => by cases h), H.d4, H.d5, H.d6, H.d7, H.d8, H.d9, H.d10, H.d11, H.d12, H.d13, H.d14, H.d15, H.d16, H.d17, H.d18, H.d19, H.h0, H.h1, (fun _ => rfl), H.h3, H.h4, H.h5, H.h6, H.h7, H.h8, H.h9, H.h10, H.h11, H.h12, H.h13, H.h14, H.h15, H.h16, H.h17, H.h18, H.h19⟩⟩
            · have ho := hoj
              simp only [List.getElem?_toArray, List.getElem?_cons_succ, List.getElem?_cons_zero, Option.some.injEq] at hoj
              subst hoj
              obtain rfl : bb3 = false := hun
              obtain rfl : bb2 = true := hall ⟨2, .data⟩ (by simp) (by kernel_rfl)
              obtain rfl : bb1 = true := (H.d2 rfl)
              obtain rfl : bb0 = true := (H.d1 rfl)
              clear hall
              obtain rfl : bb4 = false := Bool.eq_false_iff.2 fun h => Bool.false_ne_true (H.d4 h)
              obtain rfl : bb5 = false := Bool.eq_false_iff.2 fun h => Bool.false_ne_true (H.d5 h)
              obtain rfl : bb6 = false := Bool.eq_false_iff.2 fun h => Bool.false_ne_true (H.d6 h).1
              obtain rfl : bb7 = false := Bool.eq_false_iff.2 fun h => Bool.false_ne_true (H.d7 h).1
              obtain rfl : bb8 = false := Bool.eq_false_iff.2 fun h => Bool.false_ne_true (H.d8 h).1
              obtain rfl : bb9 = false := Bool.eq_false_iff.2 fun h => Bool.false_ne_true (H.d9 h).1
              obtain rfl : bb10 = false := Bool.eq_false_iff.2 fun h => Bool.false_ne_true (H.d10 h).1
              obtain rfl : bb11 = false := Bool.eq_false_iff.2 fun h => Bool.false_ne_true (H.d11 h)
              obtain rfl : bb12 = false := Bool.eq_false_iff.2 fun h => Bool.false_ne_true (H.d12 h).1
              obtain rfl : bb13 = false := Bool.eq_false_iff.2 fun h => Bool.false_ne_true (H.d13 h).1
              obtain rfl : bb14 = false := Bool.eq_false_iff.2 fun h => Bool.false_ne_true (H.d14 h)
              obtain rfl : bb15 = false := Bool.eq_false_iff.2 fun h => Bool.false_ne_true (H.d15 h).1
              obtain rfl : bb16 = false := Bool.eq_false_iff.2 fun h => Bool.false_ne_true (H.d16 h).1
              obtain rfl : bb17 = false := Bool.eq_false_iff.2 fun h => Bool.false_ne_true (H.d17 h).1
              obtain rfl : bb18 = false := Bool.eq_false_iff.2 fun h => Bool.false_ne_true (H.d18 h).1
              obtain rfl : bb19 = false := Bool.eq_false_iff.2 fun h => Bool.false_ne_true (H.d19 h).1
              have hbe := H.be
              obtain rfl := H.h0 rfl
              obtain rfl := H.h1 rfl
              obtain rfl := H.h2 rfl
              have d5 := D5.out
              refine wpOp_step ho (fun K' hK => ?_)
              have HK := Lib.hid hK
              clear hK ho
              go_simp
              exact HK.out _ _ ⟨_, _, _, _, _, _, _, _, _, _, _, _, _, _, _, _, _, _, _, _, _, _, _, _, _, _, _, _, _, _, _, _, _, _, _, _, _, _, _, _, rfl, rfl, ⟨hbe, H.d1, H.d2, (fun _ => rfl), (fun h => by cases h), H.d5, H.d6, H.d7, H.d8, H.d9, H.d10, H.d11, H.d12, H.d13, H.d14, H.d15, H.d16, H.d17, H.d18, H.d19, H.h0, H.h1, H.h2, (fun _ => rfl), H.h4, H.h5, H.h6, H.h7, H.h8, H.h9, H.h10, H.h11, H.h12, H.h13, H.h14, H.h15, H.h16, H.h17, H.h18, H.h19⟩⟩
            · have ho := hoj
              simp only [List.getElem?_toArray, List.getElem?_cons_succ, List.getElem?_cons_zero, Option.some.injEq] at hoj
              subst hoj
              obtain rfl : bb4 = false := hun
              obtain rfl : bb3 = true := hall ⟨3, .data⟩ (by simp) (by kernel_rfl)
              obtain rfl : bb2 = true := (H.d3 rfl)
              obtain rfl : bb1 = true := (H.d2 rfl)
              obtain rfl : bb0 = true := (H.d1 rfl)
              clear hall
              obtain rfl : bb5 = false := Bool.eq_false_iff.2 fun h => Bool.false_ne_true (H.d5 h)
              obtain rfl : bb6 = false := Bool.eq_false_iff.2 fun h => Bool.false_ne_true (H.d6 h).1
              obtain rfl : bb7 = false := Bool.eq_false_iff.2 fun h => Bool.false_ne_true (H.d7 h).1
              obtain rfl : bb8 = false := Bool.eq_false_iff.2 fun h => Bool.false_ne_true (H.d8 h).1
              obtain rfl : bb9 = false := Bool.eq_false_iff.2 fun h => Bool.false_ne_true (H.d9 h).1
              obtain rfl : bb10 = false := Bool.eq_false_iff.2 fun h => Bool.false_ne_true (H.d10 h).1
              obtain rfl : bb11 = false := Bool.eq_false_iff.2 fun h => Bool.false_ne_true (H.d11 h)
              obtain rfl : bb12 = false := Bool.eq_false_iff.2 fun h => Bool.false_ne_true (H.d12 h).1
              obtain rfl : bb13 = false := Bool.eq_false_iff.2 fun h => Bool.false_ne_true (H.d13 h).1
              obtain rfl : bb14 = false := Bool.eq_false_iff.2 fun h => Bool.false_ne_true (H.d14 h)
              obtain rfl : bb15 = false := Bool.eq_false_iff.2 fun h => Bool.false_ne_true (H.d15 h).1
              obtain rfl : bb16 = false := Bool.eq_false_iff.2 fun h => Bool.false_ne_true (H.d16 h).1
              obtain rfl : bb17 = false := Bool.eq_false_iff.2 fun h => Bool.false_ne_true (H.d17 h).1
              obtain rfl : bb18 = false := Bool.eq_false_iff.2 fun h => Bool.false_ne_true (H.d18 h).1
              obtain rfl : bb19 = false := Bool.eq_false_iff.2 fun h => Bool.false_ne_true (H.d19 h).1
              have hbe := H.be
              obtain rfl := H.h0 rfl
              obtain rfl := H.h1 rfl
              obtain rfl := H.h2 rfl
              obtain rfl := H.h3 rfl
              refine wpOp_step ho (fun K' hK => ?_)
              have HK := Lib.hid hK
              clear hK ho
              go_simp
              exact HK.out _ _ ⟨_, _, _, _, _, _, _, _, _, _, _, _, _, _, _, _, _, _, _, _, _, _, _, _, _, _, _, _, _, _, _, _, _, _, _, _, _, _, _, _, rfl, rfl, ⟨hbe, H.d1, H.d2, H.d3, (fun _ => rfl), (fun h => by cases h), (fun h => by cases h), (fun h => by cases h), (fun h => by cases h), (fun h => by cases h), H.d10, H.d11, H.d12, H.d13, H.d14, H.d15, H.d16, H.d17, H.d18, H.d19, H.h0, H.h1, H.h2, H.h3, (fun _ => rfl), H.h5, H.h6, H.h7, H.h8, H.h9, H.h10, H.h11, H.h12, H.h13, H.h14, H.h15, H.h16, H.h17, H.h18, H.h19⟩⟩
            · have ho := hoj
              simp only [List.getElem?_toArray, List.getElem?_cons_succ, List.getElem?_cons_zero, Option.some.injEq] at hoj
              subst hoj
              obtain rfl : bb5 = false := hun
              obtain rfl : bb4 = true := hall ⟨4, .guard⟩ (by simp) (by kernel_rfl)
              obtain rfl : bb3 = true := (H.d4 rfl)
              obtain rfl : bb2 = true := (H.d3 rfl)
              obtain rfl : bb1 = true := (H.d2 rfl)
              obtain rfl : bb0 = true := (H.d1 rfl)
              clear hall
              obtain rfl : bb6 = false := Bool.eq_false_iff.2 fun h => Bool.false_ne_true (H.d6 h).2
              obtain rfl : bb7 = false := Bool.eq_false_iff.2 fun h => Bool.false_ne_true (H.d7 h).2
              obtain rfl : bb8 = false := Bool.eq_false_iff.2 fun h => Bool.false_ne_true (H.d8 h).2
              obtain rfl : bb9 = false := Bool.eq_false_iff.2 fun h => Bool.false_ne_true (H.d9 h).2
              obtain rfl : bb10 = false := Bool.eq_false_iff.2 fun h => Bool.false_ne_true (H.d10 h).1
              obtain rfl : bb11 = false := Bool.eq_false_iff.2 fun h => Bool.false_ne_true (H.d11 h)
              obtain rfl : bb12 = false := Bool.eq_false_iff.2 fun h => Bool.false_ne_true (H.d12 h).1
              obtain rfl : bb13 = false := Bool.eq_false_iff.2 fun h => Bool.false_ne_true (H.d13 h).1
              obtain rfl : bb14 = false := Bool.eq_false_iff.2 fun h => Bool.false_ne_true (H.d14 h)
              obtain rfl : bb15 = false := Bool.eq_false_iff.2 fun h => Bool.false_ne_true (H.d15 h).1
              obtain rfl : bb16 = false := Bool.eq_false_iff.2 fun h => Bool.false_ne_true (H.d16 h).1
              obtain rfl : bb17 = false := Bool.eq_false_iff.2 fun h => Bool.false_ne_true (H.d17 h).1
              obtain rfl : bb18 = false := Bool.eq_false_iff.2 fun h => Bool.false_ne_true (H.d18 h).1
              obtain rfl : bb19 = false := Bool.eq_false_iff.2 fun h => Bool.false_ne_true (H.d19 h).1
              have hbe := H.be
              obtain rfl := H.h0 rfl
              obtain rfl := H.h1 rfl
              obtain rfl := H.h2 rfl
              obtain rfl := H.h3 rfl
              obtain rfl := H.h4 rfl
              refine wpOp_step ho (fun K' hK => ?_)
              have HK := Lib.hid hK
              clear hK ho
              go_simp
              exact HK.out _ _ ⟨_, _, _, _, _, _, _, _, _, _, _, _, _, _, _, _, _, _, _, _, _, _, _, _, _, _, _, _, _, _, _, _, _, _, _, _, _, _, _, _, rfl, rfl, ⟨hbe, H.d1, H.d2, H.d3, H.d4, (fun _ => rfl), (fun h => by cases h), H.d7, H.d8, H.d9, H.d10, H.d11, H.d12, H.d13, H.d14, H.d15, H.d16, H.d17, H.d18, H.d19, H.h0, H.h1, H.h2, H.h3, H.h4, (fun _ => rfl), H.h6, H.h7, H.h8, H.h9, H.h10, H.h11, H.h12, H.h13, H.h14, H.h15, H.h16, H.h17, H.h18, H.h19⟩⟩
            · have ho := hoj
              simp only [List.getElem?_toArray, List.getElem?_cons_succ, List.getElem?_cons_zero, Option.some.injEq] at hoj
              subst hoj
              obtain rfl : bb6 = false := hun
              obtain rfl : bb4 = true := hall ⟨4, .guard⟩ (by simp) (by kernel_rfl)
              obtain rfl : bb5 = true := hall ⟨5, .data⟩ (by simp) (by kernel_rfl)
              obtain rfl : bb3 = true := (H.d4 rfl)
              obtain rfl : bb2 = true := (H.d3 rfl)
              obtain rfl : bb1 = true := (H.d2 rfl)
              obtain rfl : bb0 = true := (H.d1 rfl)
              clear hall
              obtain rfl : bb7 = false := Bool.eq_false_iff.2 fun h => Bool.false_ne_true (H.d7 h).2
              obtain rfl : bb8 = false := Bool.eq_false_iff.2 fun h => Bool.false_ne_true (H.d8 h).2
              obtain rfl : bb9 = false := Bool.eq_false_iff.2 fun h => Bool.false_ne_true (H.d9 h).2
              obtain rfl : bb10 = false := Bool.eq_false_iff.2 fun h => Bool.false_ne_true (H.d10 h).1
              obtain rfl : bb11 = false := Bool.eq_false_iff.2 fun h => Bool.false_ne_true (H.d11 h)
              obtain rfl : bb12 = false := Bool.eq_false_iff.2 fun h => Bool.false_ne_true (H.d12 h).1
              obtain rfl : bb13 = false := Bool.eq_false_iff.2 fun h => Bool.false_ne_true (H.d13 h).1
              obtain rfl : bb14 = false := Bool.eq_false_iff.2 fun h => Bool.false_ne_true (H.d14 h)
              obtain rfl : bb15 = false := Bool.eq_false_iff.2 fun h => Bool.false_ne_true (H.d15 h).1
              obtain rfl : bb16 = false := Bool.eq_false_iff.2 fun h => Bool.false_ne_true (H.d16 h).1
              obtain rfl : bb17 = false := Bool.eq_false_iff.2 fun h => Bool.false_ne_true (H.d17 h).1
              obtain rfl : bb18 = false := Bool.eq_false_iff.2 fun h => Bool.false_ne_true (H.d18 h).1
              obtain rfl : bb19 = false := Bool.eq_false_iff.2 fun h => Bool.false_ne_true (H.d19 h).1
              have hbe := H.be
              obtain rfl := H.h0 rfl
              obtain rfl := H.h1 rfl
              obtain rfl := H.h2 rfl
              obtain rfl := H.h3 rfl
              obtain rfl := H.h4 rfl
              obtain rfl := H.h5 rfl
              obtain ⟨q0, q1, q2, q3, q4⟩ := bk5P ((hbe.block _ (lt_of_block F0.out)).trans F0.out)
              refine wpOp_step ho (fun K' hK => ?_)
              have HK := Lib.hid hK
              clear hK ho
              go_simp
              exact HK.out _ _ ⟨_, _, _, _, _, _, _, _, _, _, _, _, _, _, _, _, _, _, _, _, _, _, _, _, _, _, _, _, _, _, _, _, _, _, _, _, _, _, _, _, rfl, rfl, ⟨hbe, H.d1, H.d2, H.d3, H.d4, H.d5, (fun _ => ⟨rfl, rfl⟩), (fun h => by cases h), H.d8, H.d9, H.d10, H.d11, H.d12, H.d13, H.d14, H.d15, H.d16, H.d17, H.d18, H.d19, H.h0, H.h1, H.h2, H.h3, H.h4, H.h5, (fun _ => rfl), H.h7, H.h8, H.h9, H.h10, H.h11, H.h12, H.h13, H.h14, H.h15, H.h16, H.h17, H.h18, H.h19⟩⟩
            · have ho := hoj
              simp only [List.getElem?_toArray, List.getElem?_cons_succ, List.getElem?_cons_zero, Option.some.injEq] at hoj
              subst hoj
              obtain rfl : bb7 = false := hun
              obtain rfl : bb4 = true := hall ⟨4, .chain⟩ (by simp) (by kernel_rfl)
              obtain rfl : bb6 = true := hall ⟨6, .data⟩ (by simp) (by kernel_rfl)
              obtain rfl : bb3 = true := (H.d4 rfl)
              obtain rfl : bb5 = true := (H.d6 rfl).2
              obtain rfl : bb2 = true := (H.d3 rfl)
              obtain rfl : bb1 = true := (H.d2 rfl)
              obtain rfl : bb0 = true := (H.d1 rfl)
              clear hall
              obtain rfl : bb8 = false := Bool.eq_false_iff.2 fun h => Bool.false_ne_true (H.d8 h).2
              obtain rfl : bb9 = false := Bool.eq_false_iff.2 fun h => Bool.false_ne_true (H.d9 h).2
              obtain rfl : bb10 = false := Bool.eq_false_iff.2 fun h => Bool.false_ne_true (H.d10 h).1
              obtain rfl : bb11 = false := Bool.eq_false_iff.2 fun h => Bool.false_ne_true (H.d11 h)
              obtain rfl : bb12 = false := Bool.eq_false_iff.2 fun h => Bool.false_ne_true (H.d12 h).1
              obtain rfl : bb13 = false := Bool.eq_false_iff.2 fun h => Bool.false_ne_true (H.d13 h).1
              obtain rfl : bb14 = false := Bool.eq_false_iff.2 fun h => Bool.false_ne_true (H.d14 h)
              obtain rfl : bb15 = false := Bool.eq_false_iff.2 fun h => Bool.false_ne_true (H.d15 h).1
              obtain rfl : bb16 = false := Bool.eq_false_iff.2 fun h => Bool.false_ne_true (H.d16 h).1
              obtain rfl : bb17 = false := Bool.eq_false_iff.2 fun h => Bool.false_ne_true (H.d17 h).1
              obtain rfl : bb18 = false := Bool.eq_false_iff.2 fun h => Bool.false_ne_true (H.d18 h).1
              obtain rfl : bb19 = false := Bool.eq_false_iff.2 fun h => Bool.false_ne_true (H.d19 h).1
              have hbe := H.be
              obtain rfl := H.h0 rfl
              obtain rfl := H.h1 rfl
              obtain rfl := H.h2 rfl
              obtain rfl := H.h3 rfl
              obtain rfl := H.h4 rfl
              obtain rfl := H.h5 rfl
              obtain rfl := H.h6 rfl
              refine wpOp_step ho (fun K' hK => ?_)
              have HK := Lib.hid hK
              clear hK ho
              go_wp2_with fail
              refine (HSD.out _ hbe).mono ?_
              rintro e w1 ⟨rfl, bb1⟩
              have BC := Lib.hid bb1
              clear bb1
              go_wp2_with fail
              exact HK.out _ _ ⟨_, _, _, _, _, _, _, _, _, _, _, _, _, _, _, _, _, _, _, _, _, _, _, _, _, _, _, _, _, _, _, _, _, _, _, _, _, _, _, _, rfl, rfl, ⟨hbe.trans (BC.out.mono hbe.size), H.d1, H.d2, H.d3, H.d4, H.d5, H.d6, (fun _ => ⟨rfl, rfl⟩), (fun h => by cases h), H.d9, (fun h => by cases h), H.d11, H.d12, H.d13, H.d14, H.d15, H.d16, H.d17, H.d18, H.d19, H.h0, H.h1, H.h2, H.h3, H.h4, H.h5, H.h6, (fun _ => rfl), H.h8, H.h9, H.h10, H.h11, H.h12, H.h13, H.h14, H.h15, H.h16, H.h17, H.h18, H.h19⟩⟩
            · have ho := hoj
              simp only [List.getElem?_toArray, List.getElem?_cons_succ, List.getElem?_cons_zero, Option.some.injEq] at hoj
              subst hoj
              obtain rfl : bb8 = false := hun
              obtain rfl : bb4 = true := hall ⟨4, .guard⟩ (by simp) (by kernel_rfl)
              obtain rfl : bb7 = true := hall ⟨7, .data⟩ (by simp) (by kernel_rfl)
              obtain rfl : bb3 = true := (H.d4 rfl)
              obtain rfl : bb6 = true := (H.d7 rfl).2
              obtain rfl : bb2 = true := (H.d3 rfl)
              obtain rfl : bb5 = true := (H.d6 rfl).2
              obtain rfl : bb1 = true := (H.d2 rfl)
              obtain rfl : bb0 = true := (H.d1 rfl)
              clear hall
              obtain rfl : bb9 = false := Bool.eq_false_iff.2 fun h => Bool.false_ne_true (H.d9 h).2
              obtain rfl : bb10 = false := Bool.eq_false_iff.2 fun h => Bool.false_ne_true (H.d10 h).2
              obtain rfl : bb11 = false := Bool.eq_false_iff.2 fun h => Bool.false_ne_true (H.d11 h)
              obtain rfl : bb12 = false := Bool.eq_false_iff.2 fun h => Bool.false_ne_true (H.d12 h).1
              obtain rfl : bb13 = false := Bool.eq_false_iff.2 fun h => Bool.false_ne_true (H.d13 h).1
              obtain rfl : bb14 = false := Bool.eq_false_iff.2 fun h => Bool.false_ne_true (H.d14 h)
              obtain rfl : bb15 = false := Bool.eq_false_iff.2 fun h => Bool.false_ne_true (H.d15 h).1
              obtain rfl : bb16 = false := Bool.eq_false_iff.2 fun h => Bool.false_ne_true (H.d16 h).1
              obtain rfl : bb17 = false := Bool.eq_false_iff.2 fun h => Bool.false_ne_true (H.d17 h).1
              obtain rfl : bb18 = false := Bool.eq_false_iff.2 fun h => Bool.false_ne_true (H.d18 h).1
              obtain rfl : bb19 = false := Bool.eq_false_iff.2 fun h => Bool.false_ne_true (H.d19 h).1
              have hbe := H.be
              obtain rfl := H.h0 rfl
              obtain rfl := H.h1 rfl
              obtain rfl := H.h2 rfl
              obtain rfl := H.h3 rfl
              obtain rfl := H.h4 rfl
              obtain rfl := H.h5 rfl
              obtain rfl := H.h6 rfl
              obtain rfl := H.h7 rfl
              refine wpOp_step ho (fun K' hK => ?_)
              have HK := Lib.hid hK
              clear hK ho
              go_simp
              exact HK.out _ _ ⟨_, _, _, _, _, _, _, _, _, _, _, _, _, _, _, _, _, _, _, _, _, _, _, _, _, _, _, _, _, _, _, _, _, _, _, _, _, _, _, _, rfl, rfl, ⟨hbe, H.d1, H.d2, H.d3, H.d4, H.d5, H.d6, H.d7, (fun _ => ⟨rfl, rfl⟩), (fun h => by cases h), H.d10, H.d11, H.d12, H.d13, H.d14, H.d15, H.d16, H.d17, H.d18, H.d19, H.h0, H.h1, H.h2, H.h3, H.h4, H.h5, H.h6, H.h7, (fun _ => rfl), H.h9, H.h10, H.h11, H.h12, H.h13, H.h14, H.h15, H.h16, H.h17, H.h18, H.h19⟩⟩
            · have ho := hoj
              simp only [List.getElem?_toArray, List.getElem?_cons_succ, List.getElem?_cons_zero, Option.some.injEq] at hoj
              subst hoj
              obtain rfl : bb9 = false := hun
              obtain rfl : bb4 = true := hall ⟨4, .data⟩ (by simp) (by kernel_rfl)
              obtain rfl : bb8 = true := hall ⟨8, .data⟩ (by simp) (by kernel_rfl)
              obtain rfl : bb3 = true := (H.d4 rfl)
              obtain rfl : bb7 = true := (H.d8 rfl).2
              obtain rfl : bb2 = true := (H.d3 rfl)
              obtain rfl : bb6 = true := (H.d7 rfl).2
              obtain rfl : bb1 = true := (H.d2 rfl)
              obtain rfl : bb5 = true := (H.d6 rfl).2
              obtain rfl : bb0 = true := (H.d1 rfl)
              clear hall
              obtain rfl : bb10 = false := Bool.eq_false_iff.2 fun h => Bool.false_ne_true (H.d10 h).2
              obtain rfl : bb11 = false := Bool.eq_false_iff.2 fun h => Bool.false_ne_true (H.d11 h)
              obtain rfl : bb12 = false := Bool.eq_false_iff.2 fun h => Bool.false_ne_true (H.d12 h).1
              obtain rfl : bb13 = false := Bool.eq_false_iff.2 fun h => Bool.false_ne_true (H.d13 h).1
              obtain rfl : bb14 = false := Bool.eq_false_iff.2 fun h => Bool.false_ne_true (H.d14 h)
              obtain rfl : bb15 = false := Bool.eq_false_iff.2 fun h => Bool.false_ne_true (H.d15 h).1
              obtain rfl : bb16 = false := Bool.eq_false_iff.2 fun h => Bool.false_ne_true (H.d16 h).1
              obtain rfl : bb17 = false := Bool.eq_false_iff.2 fun h => Bool.false_ne_true (H.d17 h).1
              obtain rfl : bb18 = false := Bool.eq_false_iff.2 fun h => Bool.false_ne_true (H.d18 h).1
              obtain rfl : bb19 = false := Bool.eq_false_iff.2 fun h => Bool.false_ne_true (H.d19 h).1
              have hbe := H.be
              obtain rfl := H.h0 rfl
              obtain rfl := H.h1 rfl
              obtain rfl := H.h2 rfl
              obtain rfl := H.h3 rfl
              obtain rfl := H.h4 rfl
              obtain rfl := H.h5 rfl
              obtain rfl := H.h6 rfl
              obtain rfl := H.h7 rfl
              obtain rfl := H.h8 rfl
              refine wpOp_step ho (fun K' hK => ?_)
              have HK := Lib.hid hK
              clear hK ho
              go_simp
              exact HK.out _ _ ⟨_, _, _, _, _, _, _, _, _, _, _, _, _, _, _, _, _, _, _, _, _, _, _, _, _, _, _, _, _, _, _, _, _, _, _, _, _, _, _, _, rfl, rfl, ⟨hbe, H.d1, H.d2, H.d3, H.d4, H.d5, H.d6, H.d7, H.d8, (fun _ => ⟨rfl, rfl⟩), (fun h => by cases h), H.d11, H.d12, H.d13, H.d14, H.d15, H.d16, H.d17, H.d18, H.d19, H.h0, H.h1, H.h2, H.h3, H.h4, H.h5, H.h6, H.h7, H.h8, (fun _ => rfl), H.h10, H.h11, H.h12, H.h13, H.h14, H.h15, H.h16, H.h17, H.h18, H.h19⟩⟩
            · have ho := hoj
              simp only [List.getElem?_toArray, List.getElem?_cons_succ, List.getElem?_cons_zero, Option.some.injEq] at hoj
              subst hoj
              obtain rfl : bb10 = false := hun
              obtain rfl : bb7 = true := hall ⟨7, .chain⟩ (by simp) (by kernel_rfl)
              obtain rfl : bb9 = true := hall ⟨9, .data⟩ (by simp) (by kernel_rfl)
              obtain rfl : bb4 = true := (H.d7 rfl).1
              obtain rfl : bb6 = true := (H.d7 rfl).2
              obtain rfl : bb8 = true := (H.d9 rfl).2
              obtain rfl : bb3 = true := (H.d4 rfl)
              obtain rfl : bb5 = true := (H.d6 rfl).2
              obtain rfl : bb2 = true := (H.d3 rfl)
              obtain rfl : bb1 = true := (H.d2 rfl)
              obtain rfl : bb0 = true := (H.d1 rfl)
              clear hall
              obtain rfl : bb11 = false := Bool.eq_false_iff.2 fun h => Bool.false_ne_true (H.d11 h)
              obtain rfl : bb12 = false := Bool.eq_false_iff.2 fun h => Bool.false_ne_true (H.d12 h).1
              obtain rfl : bb13 = false := Bool.eq_false_iff.2 fun h => Bool.false_ne_true (H.d13 h).1
              obtain rfl : bb14 = false := Bool.eq_false_iff.2 fun h => Bool.false_ne_true (H.d14 h)
              obtain rfl : bb15 = false := Bool.eq_false_iff.2 fun h => Bool.false_ne_true (H.d15 h).1
              obtain rfl : bb16 = false := Bool.eq_false_iff.2 fun h => Bool.false_ne_true (H.d16 h).1
              obtain rfl : bb17 = false := Bool.eq_false_iff.2 fun h => Bool.false_ne_true (H.d17 h).1
              obtain rfl : bb18 = false := Bool.eq_false_iff.2 fun h => Bool.false_ne_true (H.d18 h).1
              obtain rfl : bb19 = false := Bool.eq_false_iff.2 fun h => Bool.false_ne_true (H.d19 h).1
              have hbe := H.be
              obtain rfl := H.h0 rfl
              obtain rfl := H.h1 rfl
              obtain rfl := H.h2 rfl
              obtain rfl := H.h3 rfl
              obtain rfl := H.h4 rfl
              obtain rfl := H.h5 rfl
              obtain rfl := H.h6 rfl
              obtain rfl := H.h7 rfl
              obtain rfl := H.h8 rfl
              obtain rfl := H.h9 rfl
              refine wpOp_step ho (fun K' hK => ?_)
              have HK := Lib.hid hK
              clear hK ho
              go_simp
              exact HK.out _ _ ⟨_, _, _, _, _, _, _, _, _, _, _, _, _, _, _, _, _, _, _, _, _, _, _, _, _, _, _, _, _, _, _, _, _, _, _, _, _, _, _, _, rfl, rfl, ⟨hbe, H.d1, H.d2, H.d3, H.d4, H.d5, H.d6, H.d7, H.d8, H.d9, (fun _ => ⟨rfl, rfl⟩), (fun h => by cases h), (fun h => by cases h), (fun h => by cases h), (fun h => by cases h), (fun h => by cases h), (fun h => by cases h), (fun h => by cases h), (fun h => by cases h), H.d19, H.h0, H.h1, H.h2, H.h3, H.h4, H.h5, H.h6, H.h7, H.h8, H.h9, (fun _ => rfl), H.h11, H.h12, H.h13, H.h14, H.h15, H.h16, H.h17, H.h18, H.h19⟩⟩
            · have ho := hoj
              simp only [List.getElem?_toArray, List.getElem?_cons_succ, List.getElem?_cons_zero, Option.some.injEq] at hoj
              subst hoj
              obtain rfl : bb11 = false := hun
              obtain rfl : bb10 = true := hall ⟨10, .guard⟩ (by simp) (by kernel_rfl)
              obtain rfl : bb7 = true := (H.d10 rfl).1
              obtain rfl : bb9 = true := (H.d10 rfl).2
              obtain rfl : bb4 = true := (H.d7 rfl).1
              obtain rfl : bb6 = true := (H.d7 rfl).2
              obtain rfl : bb8 = true := (H.d9 rfl).2
              obtain rfl : bb3 = true := (H.d4 rfl)
              obtain rfl : bb5 = true := (H.d6 rfl).2
              obtain rfl : bb2 = true := (H.d3 rfl)
              obtain rfl : bb1 = true := (H.d2 rfl)
              obtain rfl : bb0 = true := (H.d1 rfl)
              clear hall
              obtain rfl : bb12 = false := Bool.eq_false_iff.2 fun h => Bool.false_ne_true (H.d12 h).2
              obtain rfl : bb13 = false := Bool.eq_false_iff.2 fun h => Bool.false_ne_true (H.d13 h).2
              obtain rfl : bb16 = false := Bool.eq_false_iff.2 fun h => Bool.false_ne_true (H.d16 h).2.1
              obtain rfl : bb17 = false := Bool.eq_false_iff.2 fun h => Bool.false_ne_true (H.d17 h).2
              obtain rfl : bb18 = false := Bool.eq_false_iff.2 fun h => Bool.false_ne_true (H.d18 h).2
              obtain rfl : bb19 = false := Bool.eq_false_iff.2 fun h => Bool.false_ne_true (H.d19 h).1
              have hbe := H.be
              obtain rfl := H.h0 rfl
              obtain rfl := H.h1 rfl
              obtain rfl := H.h2 rfl
              obtain rfl := H.h3 rfl
              obtain rfl := H.h4 rfl
              obtain rfl := H.h5 rfl
              obtain rfl := H.h6 rfl
              obtain rfl := H.h7 rfl
              obtain rfl := H.h8 rfl
              obtain rfl := H.h9 rfl
              obtain rfl := H.h10 rfl
              refine wpOp_step ho (fun K' hK => ?_)
              have HK := Lib.hid hK
              clear hK ho
              go_simp
              exact HK.out _ _ ⟨_, _, _, _, _, _, _, _, _, _, _, _, _, _, _, _, _, _, _, _, _, _, _, _, _, _, _, _, _, _, _, _, _, _, _, _, _, _, _, _, rfl, rfl, ⟨hbe, H.d1, H.d2, H.d3, H.d4, H.d5, H.d6, H.d7, H.d8, H.d9, H.d10, (fun _ => rfl), (fun h => by cases h), H.d13, H.d14, H.d15, H.d16, H.d17, H.d18, H.d19, H.h0, H.h1, H.h2, H.h3, H.h4, H.h5, H.h6, H.h7, H.h8, H.h9, H.h10, (fun _ => rfl), H.h12, H.h13, H.h14, H.h15, H.h16, H.h17, H.h18, H.h19⟩⟩
            · have ho := hoj
              simp only [List.getElem?_toArray, List.getElem?_cons_succ, List.getElem?_cons_zero, Option.some.injEq] at hoj
              subst hoj
              obtain rfl : bb12 = false := hun
              obtain rfl : bb10 = true := hall ⟨10, .guard⟩ (by simp) (by kernel_rfl)
              obtain rfl : bb11 = true := hall ⟨11, .data⟩ (by simp) (by kernel_rfl)
              obtain rfl : bb7 = true := (H.d10 rfl).1
              obtain rfl : bb9 = true := (H.d10 rfl).2
              obtain rfl : bb4 = true := (H.d7 rfl).1
              obtain rfl : bb6 = true := (H.d7 rfl).2
              obtain rfl : bb8 = true := (H.d9 rfl).2
              obtain rfl : bb3 = true := (H.d4 rfl)
              obtain rfl : bb5 = true := (H.d6 rfl).2
              obtain rfl : bb2 = true := (H.d3 rfl)
              obtain rfl : bb1 = true := (H.d2 rfl)
              obtain rfl : bb0 = true := (H.d1 rfl)
              clear hall
              obtain rfl : bb13 = false := Bool.eq_false_iff.2 fun h => Bool.false_ne_true (H.d13 h).2
              obtain rfl : bb16 = false := Bool.eq_false_iff.2 fun h => Bool.false_ne_true (H.d16 h).2.1
              obtain rfl : bb17 = false := Bool.eq_false_iff.2 fun h => Bool.false_ne_true (H.d17 h).2
              obtain rfl : bb18 = false := Bool.eq_false_iff.2 fun h => Bool.false_ne_true (H.d18 h).2
              obtain rfl : bb19 = false := Bool.eq_false_iff.2 fun h => Bool.false_ne_true (H.d19 h).1
              have hbe := H.be
              obtain rfl := H.h0 rfl
              obtain rfl := H.h1 rfl
              obtain rfl := H.h2 rfl
              obtain rfl := H.h3 rfl
              obtain rfl := H.h4 rfl
              obtain rfl := H.h5 rfl
              obtain rfl := H.h6 rfl
              obtain rfl := H.h7 rfl
              obtain rfl := H.h8 rfl
              obtain rfl := H.h9 rfl
              obtain rfl := H.h10 rfl
              obtain rfl := H.h11 rfl
              refine wpOp_step ho (fun K' hK => ?_)
              have HK := Lib.hid hK
              clear hK ho
              go_simp
              exact HK.out _ _ ⟨_, _, _, _, _, _, _, _, _, _, _, _, _, _, _, _, _, _, _, _, _, _, _, _, _, _, _, _, _, _, _, _, _, _, _, _, _, _, _, _, rfl, rfl, ⟨hbe, H.d1, H.d2, H.d3, H.d4, H.d5, H.d6, H.d7, H.d8, H.d9, H.d10, H.d11, (fun _ => ⟨rfl, rfl⟩), (fun h => by cases h), H.d14, H.d15, H.d16, H.d17, H.d18, H.d19, H.h0, H.h1, H.h2, H.h3, H.h4, H.h5, H.h6, H.h7, H.h8, H.h9, H.h10, H.h11, (fun _ => rfl), H.h13, H.h14, H.h15, H.h16, H.h17, H.h18, H.h19⟩⟩
            · have ho := hoj
              simp only [List.getElem?_toArray, List.getElem?_cons_succ, List.getElem?_cons_zero, Option.some.injEq] at hoj
              subst hoj
              obtain rfl : bb13 = false := hun
              obtain rfl : bb10 = true := hall ⟨10, .chain⟩ (by simp) (by kernel_rfl)
              obtain rfl : bb12 = true := hall ⟨12, .data⟩ (by simp) (by kernel_rfl)
              obtain rfl : bb7 = true := (H.d10 rfl).1
              obtain rfl : bb9 = true := (H.d10 rfl).2
              obtain rfl : bb11 = true := (H.d12 rfl).2
              obtain rfl : bb4 = true := (H.d7 rfl).1
              obtain rfl : bb6 = true := (H.d7 rfl).2
              obtain rfl : bb8 = true := (H.d9 rfl).2
              obtain rfl : bb3 = true := (H.d4 rfl)
              obtain rfl : bb5 = true := (H.d6 rfl).2
              obtain rfl : bb2 = true := (H.d3 rfl)
              obtain rfl : bb1 = true := (H.d2 rfl)
              obtain rfl : bb0 = true := (H.d1 rfl)
              clear hall
              obtain rfl : bb16 = false := Bool.eq_false_iff.2 fun h => Bool.false_ne_true (H.d16 h).2.1
              obtain rfl : bb17 = false := Bool.eq_false_iff.2 fun h => Bool.false_ne_true (H.d17 h).2
              obtain rfl : bb18 = false := Bool.eq_false_iff.2 fun h => Bool.false_ne_true (H.d18 h).2
              obtain rfl : bb19 = false := Bool.eq_false_iff.2 fun h => Bool.false_ne_true (H.d19 h).1
              have hbe := H.be
              obtain rfl := H.h0 rfl
              obtain rfl := H.h1 rfl
              obtain rfl := H.h2 rfl
              obtain rfl := H.h3 rfl
              obtain rfl := H.h4 rfl
              obtain rfl := H.h5 rfl
              obtain rfl := H.h6 rfl
              obtain rfl := H.h7 rfl
              obtain rfl := H.h8 rfl
              obtain rfl := H.h9 rfl
              obtain rfl := H.h10 rfl
              obtain rfl := H.h11 rfl
              obtain rfl := H.h12 rfl
              refine wpOp_step ho (fun K' hK => ?_)
              have HK := Lib.hid hK
              clear hK ho
              go_simp
              exact HK.out _ _ ⟨_, _, _, _, _, _, _, _, _, _, _, _, _, _, _, _, _, _, _, _, _, _, _, _, _, _, _, _, _, _, _, _, _, _, _, _, _, _, _, _, rfl, rfl, ⟨hbe, H.d1, H.d2, H.d3, H.d4, H.d5, H.d6, H.d7, H.d8, H.d9, H.d10, H.d11, H.d12, (fun _ => ⟨rfl, rfl⟩), H.d14, H.d15, (fun h => by cases h), H.d17, H.d18, H.d19, H.h0, H.h1, H.h2, H.h3, H.h4, H.h5, H.h6, H.h7, H.h8, H.h9, H.h10, H.h11, H.h12, (fun _ => rfl), H.h14, H.h15, H.h16, H.h17, H.h18, H.h19⟩⟩
            · have ho := hoj
              simp only [List.getElem?_toArray, List.getElem?_cons_succ, List.getElem?_cons_zero, Option.some.injEq] at hoj
              subst hoj
              obtain rfl : bb14 = false := hun
              obtain rfl : bb10 = true := hall ⟨10, .guard⟩ (by simp) (by kernel_rfl)
              obtain rfl : bb7 = true := (H.d10 rfl).1
              obtain rfl : bb9 = true := (H.d10 rfl).2
              obtain rfl : bb4 = true := (H.d7 rfl).1
              obtain rfl : bb6 = true := (H.d7 rfl).2
              obtain rfl : bb8 = true := (H.d9 rfl).2
              obtain rfl : bb3 = true := (H.d4 rfl)
              obtain rfl : bb5 = true := (H.d6 rfl).2
              obtain rfl : bb2 = true := (H.d3 rfl)
              obtain rfl : bb1 = true := (H.d2 rfl)
              obtain rfl : bb0 = true := (H.d1 rfl)
              clear hall
              obtain rfl : bb15 = false := Bool.eq_false_iff.2 fun h => Bool.false_ne_true (H.d15 h).2
              obtain rfl : bb16 = false := Bool.eq_false_iff.2 fun h => Bool.false_ne_true (H.d16 h).2.2
              obtain rfl : bb17 = false := Bool.eq_false_iff.2 fun h => Bool.false_ne_true (H.d17 h).2
              obtain rfl : bb18 = false := Bool.eq_false_iff.2 fun h => Bool.false_ne_true (H.d18 h).2
              obtain rfl : bb19 = false := Bool.eq_false_iff.2 fun h => Bool.false_ne_true (H.d19 h).1
              have hbe := H.be
              obtain rfl := H.h0 rfl
              obtain rfl := H.h1 rfl
              obtain rfl := H.h2 rfl
              obtain rfl := H.h3 rfl
              obtain rfl := H.h4 rfl
              obtain rfl := H.h5 rfl
              obtain rfl := H.h6 rfl
              obtain rfl := H.h7 rfl
              obtain rfl := H.h8 rfl
              obtain rfl := H.h9 rfl
              obtain rfl := H.h10 rfl
              refine wpOp_step ho (fun K' hK => ?_)
              have HK := Lib.hid hK
              clear hK ho
              go_simp
              exact HK.out _ _ ⟨_, _, _, _, _, _, _, _, _, _, _, _, _, _, _, _, _, _, _, _, _, _, _, _, _, _, _, _, _, _, _, _, _, _, _, _, _, _, _, _, rfl, rfl, ⟨hbe, H.d1, H.d2, H.d3, H.d4, H.d5, H.d6, H.d7, H.d8, H.d9, H.d10, H.d11, H.d12, H.d13, (fun _ => rfl), (fun h => by cases h), H.d16, H.d17, H.d18, H.d19, H.h0, H.h1, H.h2, H.h3, H.h4, H.h5, H.h6, H.h7, H.h8, H.h9, H.h10, H.h11, H.h12, H.h13, (fun _ => rfl), H.h15, H.h16, H.h17, H.h18, H.h19⟩⟩
            · have ho := hoj
              simp only [List.getElem?_toArray, List.getElem?_cons_succ, List.getElem?_cons_zero, Option.some.injEq] at hoj
              subst hoj
              obtain rfl : bb15 = false := hun
              obtain rfl : bb10 = true := hall ⟨10, .guard⟩ (by simp) (by kernel_rfl)
              obtain rfl : bb14 = true := hall ⟨14, .data⟩ (by simp) (by kernel_rfl)
              obtain rfl : bb7 = true := (H.d10 rfl).1
              obtain rfl : bb9 = true := (H.d10 rfl).2
              obtain rfl : bb4 = true := (H.d7 rfl).1
              obtain rfl : bb6 = true := (H.d7 rfl).2
              obtain rfl : bb8 = true := (H.d9 rfl).2
              obtain rfl : bb3 = true := (H.d4 rfl)
              obtain rfl : bb5 = true := (H.d6 rfl).2
              obtain rfl : bb2 = true := (H.d3 rfl)
              obtain rfl : bb1 = true := (H.d2 rfl)
              obtain rfl : bb0 = true := (H.d1 rfl)
              clear hall
              obtain rfl : bb16 = false := Bool.eq_false_iff.2 fun h => Bool.false_ne_true (H.d16 h).2.2
              obtain rfl : bb17 = false := Bool.eq_false_iff.2 fun h => Bool.false_ne_true (H.d17 h).2
              obtain rfl : bb18 = false := Bool.eq_false_iff.2 fun h => Bool.false_ne_true (H.d18 h).2
              obtain rfl : bb19 = false := Bool.eq_false_iff.2 fun h => Bool.false_ne_true (H.d19 h).1
              have hbe := H.be
              obtain rfl := H.h0 rfl
              obtain rfl := H.h1 rfl
              obtain rfl := H.h2 rfl
              obtain rfl := H.h3 rfl
              obtain rfl := H.h4 rfl
              obtain rfl := H.h5 rfl
              obtain rfl := H.h6 rfl
              obtain rfl := H.h7 rfl
              obtain rfl := H.h8 rfl
              obtain rfl := H.h9 rfl
              obtain rfl := H.h10 rfl
              obtain rfl := H.h14 rfl
              refine wpOp_step ho (fun K' hK => ?_)
              have HK := Lib.hid hK
              clear hK ho
              go_simp
              exact HK.out _ _ ⟨_, _, _, _, _, _, _, _, _, _, _, _, _, _, _, _, _, _, _, _, _, _, _, _, _, _, _, _, _, _, _, _, _, _, _, _, _, _, _, _, rfl, rfl, ⟨hbe, H.d1, H.d2, H.d3, H.d4, H.d5, H.d6, H.d7, H.d8, H.d9, H.d10, H.d11, H.d12, H.d13, H.d14, (fun _ => ⟨rfl, rfl⟩), (fun h => by cases h), H.d17, H.d18, H.d19, H.h0, H.h1, H.h2, H.h3, H.h4, H.h5, H.h6, H.h7, H.h8, H.h9, H.h10, H.h11, H.h12, H.h13, H.h14, (fun _ => rfl), H.h16, H.h17, H.h18, H.h19⟩⟩
            · have ho := hoj
              simp only [List.getElem?_toArray, List.getElem?_cons_succ, List.getElem?_cons_zero, Option.some.injEq] at hoj
              subst hoj
              obtain rfl : bb16 = false := hun
              obtain rfl : bb10 = true := hall ⟨10, .guard⟩ (by simp) (by kernel_rfl)
              obtain rfl : bb13 = true := hall ⟨13, .data⟩ (by simp) (by kernel_rfl)
              obtain rfl : bb15 = true := hall ⟨15, .data⟩ (by simp) (by kernel_rfl)
              obtain rfl : bb7 = true := (H.d10 rfl).1
              obtain rfl : bb9 = true := (H.d10 rfl).2
              obtain rfl : bb12 = true := (H.d13 rfl).2
              obtain rfl : bb14 = true := (H.d15 rfl).2
              obtain rfl : bb4 = true := (H.d7 rfl).1
              obtain rfl : bb6 = true := (H.d7 rfl).2
              obtain rfl : bb8 = true := (H.d9 rfl).2
              obtain rfl : bb11 = true := (H.d12 rfl).2
              obtain rfl : bb3 = true := (H.d4 rfl)
              obtain rfl : bb5 = true := (H.d6 rfl).2
              obtain rfl : bb2 = true := (H.d3 rfl)
              obtain rfl : bb1 = true := (H.d2 rfl)
              obtain rfl : bb0 = true := (H.d1 rfl)
              clear hall
              obtain rfl : bb17 = false := Bool.eq_false_iff.2 fun h => Bool.false_ne_true (H.d17 h).2
              obtain rfl : bb18 = false := Bool.eq_false_iff.2 fun h => Bool.false_ne_true (H.d18 h).2
              obtain rfl : bb19 = false := Bool.eq_false_iff.2 fun h => Bool.false_ne_true (H.d19 h).1
              have hbe := H.be
              obtain rfl := H.h0 rfl
              obtain rfl := H.h1 rfl
              obtain rfl := H.h2 rfl
              obtain rfl := H.h3 rfl
              obtain rfl := H.h4 rfl
              obtain rfl := H.h5 rfl
              obtain rfl := H.h6 rfl
              obtain rfl := H.h7 rfl
              obtain rfl := H.h8 rfl
              obtain rfl := H.h9 rfl
              obtain rfl := H.h10 rfl
              obtain rfl := H.h11 rfl
              obtain rfl := H.h12 rfl
              obtain rfl := H.h13 rfl
              obtain rfl := H.h14 rfl
              obtain rfl := H.h15 rfl
              refine wpOp_step ho (fun K' hK => ?_)
              have HK := Lib.hid hK
              clear hK ho
              go_simp
              exact HK.out _ _ ⟨_, _, _, _, _, _, _, _, _, _, _, _, _, _, _, _, _, _, _, _, _, _, _, _, _, _, _, _, _, _, _, _, _, _, _, _, _, _, _, _, rfl, rfl, ⟨hbe, H.d1, H.d2, H.d3, H.d4, H.d5, H.d6, H.d7, H.d8, H.d9, H.d10, H.d11, H.d12, H.d13, H.d14, H.d15, (fun _ => ⟨rfl, rfl, rfl⟩), (fun h => by cases h), H.d18, (fun h => by cases h), H.h0, H.h1, H.h2, H.h3, H.h4, H.h5, H.h6, H.h7, H.h8, H.h9, H.h10, H.h11, H.h12, H.h13, H.h14, H.h15, (fun _ => rfl), H.h17, H.h18, H.h19⟩⟩
            · have ho := hoj
              simp only [List.getElem?_toArray, List.getElem?_cons_succ, List.getElem?_cons_zero, Option.some.injEq] at hoj
              subst hoj
              obtain rfl : bb17 = false := hun
              obtain rfl : bb10 = true := hall ⟨10, .guard⟩ (by simp) (by kernel_rfl)
              obtain rfl : bb16 = true := hall ⟨16, .data⟩ (by simp) (by kernel_rfl)
              obtain rfl : bb7 = true := (H.d10 rfl).1
              obtain rfl : bb9 = true := (H.d10 rfl).2
              obtain rfl : bb13 = true := (H.d16 rfl).2.1
              obtain rfl : bb15 = true := (H.d16 rfl).2.2
              obtain rfl : bb4 = true := (H.d7 rfl).1
              obtain rfl : bb6 = true := (H.d7 rfl).2
              obtain rfl : bb8 = true := (H.d9 rfl).2
              obtain rfl : bb12 = true := (H.d13 rfl).2
              obtain rfl : bb14 = true := (H.d15 rfl).2
              obtain rfl : bb3 = true := (H.d4 rfl)
              obtain rfl : bb5 = true := (H.d6 rfl).2
              obtain rfl : bb11 = true := (H.d12 rfl).2
              obtain rfl : bb2 = true := (H.d3 rfl)
              obtain rfl : bb1 = true := (H.d2 rfl)
              obtain rfl : bb0 = true := (H.d1 rfl)
              clear hall
              obtain rfl : bb18 = false := Bool.eq_false_iff.2 fun h => Bool.false_ne_true (H.d18 h).2
              obtain rfl : bb19 = false := Bool.eq_false_iff.2 fun h => Bool.false_ne_true (H.d19 h).2
              have hbe := H.be
              obtain rfl := H.h0 rfl
              obtain rfl := H.h1 rfl
              obtain rfl := H.h2 rfl
              obtain rfl := H.h3 rfl
              obtain rfl := H.h4 rfl
              obtain rfl := H.h5 rfl
              obtain rfl := H.h6 rfl
              obtain rfl := H.h7 rfl
              obtain rfl := H.h8 rfl
              obtain rfl := H.h9 rfl
              obtain rfl := H.h10 rfl
              obtain rfl := H.h11 rfl
              obtain rfl := H.h12 rfl
              obtain rfl := H.h13 rfl
              obtain rfl := H.h14 rfl
              obtain rfl := H.h15 rfl
              obtain rfl := H.h16 rfl
              refine wpOp_step ho (fun K' hK => ?_)
              have HK := Lib.hid hK
              clear hK ho
              go_simp
              exact HK.out _ _ ⟨_, _, _, _, _, _, _, _, _, _, _, _, _, _, _, _, _, _, _, _, _, _, _, _, _, _, _, _, _, _, _, _, _, _, _, _, _, _, _, _, rfl, rfl, ⟨hbe, H.d1, H.d2, H.d3, H.d4, H.d5, H.d6, H.d7, H.d8, H.d9, H.d10, H.d11, H.d12, H.d13, H.d14, H.d15, H.d16, (fun _ => ⟨rfl, rfl⟩), (fun h => by cases h), H.d19, H.h0, H.h1, H.h2, H.h3, H.h4, H.h5, H.h6, H.h7, H.h8, H.h9, H.h10, H.h11, H.h12, H.h13, H.h14, H.h15, H.h16, (fun _ => rfl), H.h18, H.h19⟩⟩
            · have ho := hoj
              simp only [List.getElem?_toArray, List.getElem?_cons_succ, List.getElem?_cons_zero, Option.some.injEq] at hoj
              subst hoj
              obtain rfl : bb18 = false := hun
              obtain rfl : bb10 = true := hall ⟨10, .data⟩ (by simp) (by kernel_rfl)
              obtain rfl : bb17 = true := hall ⟨17, .data⟩ (by simp) (by kernel_rfl)
              obtain rfl : bb7 = true := (H.d10 rfl).1
              obtain rfl : bb9 = true := (H.d10 rfl).2
              obtain rfl : bb16 = true := (H.d17 rfl).2
              obtain rfl : bb4 = true := (H.d7 rfl).1
              obtain rfl : bb6 = true := (H.d7 rfl).2
              obtain rfl : bb8 = true := (H.d9 rfl).2
              obtain rfl : bb13 = true := (H.d16 rfl).2.1
              obtain rfl : bb15 = true := (H.d16 rfl).2.2
              obtain rfl : bb3 = true := (H.d4 rfl)
              obtain rfl : bb5 = true := (H.d6 rfl).2
              obtain rfl : bb12 = true := (H.d13 rfl).2
              obtain rfl : bb14 = true := (H.d15 rfl).2
              obtain rfl : bb2 = true := (H.d3 rfl)
              obtain rfl : bb11 = true := (H.d12 rfl).2
              obtain rfl : bb1 = true := (H.d2 rfl)
              obtain rfl : bb0 = true := (H.d1 rfl)
              clear hall
              obtain rfl : bb19 = false := Bool.eq_false_iff.2 fun h => Bool.false_ne_true (H.d19 h).2
              have hbe := H.be
              obtain rfl := H.h0 rfl
              obtain rfl := H.h1 rfl
              obtain rfl := H.h2 rfl
              obtain rfl := H.h3 rfl
              obtain rfl := H.h4 rfl
              obtain rfl := H.h5 rfl
              obtain rfl := H.h6 rfl
              obtain rfl := H.h7 rfl
              obtain rfl := H.h8 rfl
              obtain rfl := H.h9 rfl
              obtain rfl := H.h10 rfl
              obtain rfl := H.h11 rfl
              obtain rfl := H.h12 rfl
              obtain rfl := H.h13 rfl
              obtain rfl := H.h14 rfl
              obtain rfl := H.h15 rfl
              obtain rfl := H.h16 rfl
              obtain rfl := H.h17 rfl
              refine wpOp_step ho (fun K' hK => ?_)
              have HK := Lib.hid hK
              clear hK ho
              go_simp
              exact HK.out _ _ ⟨_, _, _, _, _, _, _, _, _, _, _, _, _, _, _, _, _, _, _, _, _, _, _, _, _, _, _, _, _, _, _, _, _, _, _, _, _, _, _, _, rfl, rfl, ⟨hbe, H.d1, H.d2, H.d3, H.d4, H.d5, H.d6, H.d7, H.d8, H.d9, H.d10, H.d11, H.d12, H.d13, H.d14, H.d15, H.d16, H.d17, (fun _ => ⟨rfl, rfl⟩), (fun h => by cases h), H.h0, H.h1, H.h2, H.h3, H.h4, H.h5, H.h6, H.h7, H.h8, H.h9, H.h10, H.h11, H.h12, H.h13, H.h14, H.h15, H.h16, H.h17, (fun _ => rfl), H.h19⟩⟩
            · have ho := hoj
              simp only [List.getElem?_toArray, List.getElem?_cons_succ, List.getElem?_cons_zero, Option.some.injEq] at hoj
              subst hoj
              obtain rfl : bb19 = false := hun
              obtain rfl : bb16 = true := hall ⟨16, .chain⟩ (by simp) (by kernel_rfl)
              obtain rfl : bb18 = true := hall ⟨18, .data⟩ (by simp) (by kernel_rfl)
              obtain rfl : bb10 = true := (H.d16 rfl).1
              obtain rfl : bb13 = true := (H.d16 rfl).2.1
              obtain rfl : bb15 = true := (H.d16 rfl).2.2
              obtain rfl : bb17 = true := (H.d18 rfl).2
              obtain rfl : bb7 = true := (H.d10 rfl).1
              obtain rfl : bb9 = true := (H.d10 rfl).2
              obtain rfl : bb12 = true := (H.d13 rfl).2
              obtain rfl : bb14 = true := (H.d15 rfl).2
              obtain rfl : bb4 = true := (H.d7 rfl).1
              obtain rfl : bb6 = true := (H.d7 rfl).2
              obtain rfl : bb8 = true := (H.d9 rfl).2
              obtain rfl : bb11 = true := (H.d12 rfl).2
              obtain rfl : bb3 = true := (H.d4 rfl)
              obtain rfl : bb5 = true := (H.d6 rfl).2
              obtain rfl : bb2 = true := (H.d3 rfl)
              obtain rfl : bb1 = true := (H.d2 rfl)
              obtain rfl : bb0 = true := (H.d1 rfl)
              clear hall
              have hbe := H.be
              obtain rfl := H.h0 rfl
              obtain rfl := H.h1 rfl
              obtain rfl := H.h2 rfl
              obtain rfl := H.h3 rfl
              obtain rfl := H.h4 rfl
              obtain rfl := H.h5 rfl
              obtain rfl := H.h6 rfl
              obtain rfl := H.h7 rfl
              obtain rfl := H.h8 rfl
              obtain rfl := H.h9 rfl
              obtain rfl := H.h10 rfl
              obtain rfl := H.h11 rfl
              obtain rfl := H.h12 rfl
              obtain rfl := H.h13 rfl
              obtain rfl := H.h14 rfl
              obtain rfl := H.h15 rfl
              obtain rfl := H.h16 rfl
              obtain rfl := H.h17 rfl
              obtain rfl := H.h18 rfl
              refine wpOp_step ho (fun K' hK => ?_)
              have HK := Lib.hid hK
              clear hK ho
              go_simp
              exact HK.out _ _ ⟨_, _, _, _, _, _, _, _, _, _, _, _, _, _, _, _, _, _, _, _, _, _, _, _, _, _, _, _, _, _, _, _, _, _, _, _, _, _, _, _, rfl, rfl, ⟨hbe, H.d1, H.d2, H.d3, H.d4, H.d5, H.d6, H.d7, H.d8, H.d9, H.d10, H.d11, H.d12, H.d13, H.d14, H.d15, H.d16, H.d17, H.d18, (fun _ => ⟨rfl, rfl⟩), H.h0, H.h1, H.h2, H.h3, H.h4, H.h5, H.h6, H.h7, H.h8, H.h9, H.h10, H.h11, H.h12, H.h13, H.h14, H.h15, H.h16, H.h17, H.h18, (fun _ => rfl)⟩⟩
            · have ho := hoj
              simp at ho
          case hfin =>
            rintro listed a w ⟨bb0, bb1, bb2, bb3, bb4, bb5, bb6, bb7, bb8, bb9, bb10, bb11, bb12, bb13, bb14, bb15, bb16, bb17, bb18, bb19, bx0, bx1, bx2, bx3, bx4, bx5, bx6, bx7, bx8, bx9, bx10, bx11, bx12, bx13, bx14, bx15, bx16, bx17, bx18, bx19, rfl, rfl, H⟩ hr
            have hb : bb19 = true := by
              clear H
              obtain rfl : bb0 = true := by
                cases bb0
                · exact absurd hr (ready_neC (by kernel_rfl))
                · rfl
              obtain rfl : bb1 = true := by
                cases bb1
                · exact absurd hr (ready_neC (by kernel_rfl))
                · rfl
              obtain rfl : bb2 = true := by
                cases bb2
                · exact absurd hr (ready_neC (by kernel_rfl))
                · rfl
              obtain rfl : bb3 = true := by
                cases bb3
                · exact absurd hr (ready_neC (by kernel_rfl))
                · rfl
              obtain rfl : bb4 = true := by
                cases bb4
                · exact absurd hr (ready_neC (by kernel_rfl))
                · rfl
              obtain rfl : bb5 = true := by
                cases bb5
                · exact absurd hr (ready_neC (by kernel_rfl))
                · rfl
              obtain rfl : bb6 = true := by
                cases bb6
                · exact absurd hr (ready_neC (by kernel_rfl))
                · rfl
              obtain rfl : bb7 = true := by
                cases bb7
                · exact absurd hr (ready_neC (by kernel_rfl))
                · rfl
              obtain rfl : bb8 = true := by
                cases bb8
                · exact absurd hr (ready_neC (by kernel_rfl))
                · rfl
              obtain rfl : bb9 = true := by
                cases bb9
                · exact absurd hr (ready_neC (by kernel_rfl))
                · rfl
              obtain rfl : bb10 = true := by
                cases bb10
                · exact absurd hr (ready_neC (by kernel_rfl))
                · rfl
              obtain rfl : bb11 = true := by
                cases bb11
                · exact absurd hr (ready_neC (by kernel_rfl))
                · rfl
              obtain rfl : bb12 = true := by
                cases bb12
                · exact absurd hr (ready_neC (by kernel_rfl))
                · rfl
              obtain rfl : bb13 = true := by
                cases bb13
                · exact absurd hr (ready_neC (by kernel_rfl))
                · rfl
              obtain rfl : bb14 = true := by
                cases bb14
                · exact absurd hr (ready_neC (by kernel_rfl))
                · rfl
              obtain rfl : bb15 = true := by
                cases bb15
                · exact absurd hr (ready_neC (by kernel_rfl))
                · rfl
              obtain rfl : bb16 = true := by
                cases bb16
                · exact absurd hr (ready_neC (by kernel_rfl))
                · rfl
              obtain rfl : bb17 = true := by
                cases bb17
                · exact absurd hr (ready_neC (by kernel_rfl))
                · rfl
              obtain rfl : bb18 = true := by
                cases bb18
                · exact absurd hr (ready_neC (by kernel_rfl))
                · rfl
              obtain rfl : bb19 = true := by
                cases bb19
                · exact absurd hr (ready_neC (by kernel_rfl))
                · rfl
              rfl
            subst hb
            clear hr
            obtain rfl : bb16 = true := (H.d19 rfl).1
            obtain rfl : bb18 = true := (H.d19 rfl).2
            obtain rfl : bb10 = true := (H.d16 rfl).1
            obtain rfl : bb13 = true := (H.d16 rfl).2.1
            obtain rfl : bb15 = true := (H.d16 rfl).2.2
            obtain rfl : bb17 = true := (H.d18 rfl).2
            obtain rfl : bb7 = true := (H.d10 rfl).1
            obtain rfl : bb9 = true := (H.d10 rfl).2
            obtain rfl : bb12 = true := (H.d13 rfl).2
            obtain rfl : bb14 = true := (H.d15 rfl).2
            obtain rfl : bb4 = true := (H.d7 rfl).1
            obtain rfl : bb6 = true := (H.d7 rfl).2
            obtain rfl : bb8 = true := (H.d9 rfl).2
            obtain rfl : bb11 = true := (H.d12 rfl).2
            obtain rfl : bb3 = true := (H.d4 rfl)
            obtain rfl : bb5 = true := (H.d6 rfl).2
            obtain rfl : bb2 = true := (H.d3 rfl)
            obtain rfl : bb1 = true := (H.d2 rfl)
            obtain rfl : bb0 = true := (H.d1 rfl)
            have e19 := H.h19 rfl
            have hb := H.be
            subst e19
            clear H
            go_wp2_with fail
            go_meet
            exact ⟨HCN'.out.symm, Lib.hid hb⟩
      · have D5 := Lib.hid (show decide ((24 : Int) < (na : Int)) = true from by simp; omega)
        have HCN' := Lib.hid (show Value.bool c2n = .bool true from by rw [HCN.out, show decide (na ≤ 24) = false from by simp; omega]; rfl)
        clear m1
        refine wp_region_inv (fun lis_ act_ wld_ => ∃ (ab0 ab1 ab2 ab3 ab4 ab5 ab6 ab7 ab8 ab9 ab10 ab11 ab12 ab13 ab14 ab15 ab16 ab17 ab18 ab19 : Bool) (ax0 ax1 ax2 ax3 ax4 ax5 ax6 ax7 ax8 ax9 ax10 ax11 ax12 ax13 ax14 ax15 ax16 ax17 ax18 ax19 : Value), lis_ = #[ab0, ab1, ab2, ab3, ab4, ab5, ab6, ab7, ab8, ab9, ab10, ab11, ab12, ab13, ab14, ab15, ab16, ab17, ab18, ab19] ∧ act_ = { tmps := #[Value.agg #[Value.int IntKind.i64 nx, Value.slice Aa na ca, Value.int IntKind.i64 tp, Value.slice Ah nh ch, Value.slice Ak nk ck], Value.pointer (some { block := k0, off := 0 }), Value.int IntKind.i64 0, Value.bool false, Value.pointer (some { block := k0, off := 0 }), Value.int IntKind.i64 nx, Value.bool false, Value.bool false, Value.pointer (some { block := k0, off := 0 }), Value.int IntKind.i64 nx, Value.bool false, Value.bool false, Value.bool false, Value.pointer (some { block := k0, off := 2 }), Value.int IntKind.i64 tp, Value.bool false, Value.bool false, Value.bool false, Value.pointer (some { block := k0, off := 2 }), Value.int IntKind.i64 tp, Value.pointer (some { block := k0, off := 0 }), Value.int IntKind.i64 nx, Value.bool false, Value.bool false, ax19, ax0, ax1, ax2, ax3, ax4, ax5, ax6, ax7, ax8, ax9, ax10, ax11, ax12, ax13, ax14, ax15, ax16, ax17, ax18, undef, undef, undef, undef, undef, undef, undef, undef, undef, undef, undef, undef, undef, undef, undef, undef, undef, undef, undef, undef, undef, undef, undef, undef, undef, undef, undef, undef, undef, undef, undef, undef, undef, undef], defers := [] } ∧ SpCk0 W1 k0 nx Aa na ca (.pointer (some ⟨k0, 1, none⟩)) (.slice Aa na ca) (.int .i64 (na : Int)) (.bool true) (.bool true) (undef) (undef) (undef) (undef) (.bool true) (.bool true) (undef) (undef) (undef) (undef) (undef) (undef) (undef) (.bool true) (.bool true) ab0 ab1 ab2 ab3 ab4 ab5 ab6 ab7 ab8 ab9 ab10 ab11 ab12 ab13 ab14 ab15 ab16 ab17 ab18 ab19 ax0 ax1 ax2 ax3 ax4 ax5 ax6 ax7 ax8 ax9 ax10 ax11 ax12 ax13 ax14 ax15 ax16 ax17 ax18 ax19 wld_) (by kernel_rfl) ?h0 ?hfin ?hI
        case h0 => exact ⟨_, _, _, _, _, _, _, _, _, _, _, _, _, _, _, _, _, _, _, _, _, _, _, _, _, _, _, _, _, _, _, _, _, _, _, _, _, _, _, _, rfl, rfl, ⟨(Below.refl _ _).drew, (fun h => by cases h), (fun h => by cases h), (fun h => by cases h), (fun h => by cases h), (fun h => by cases h), (fun h => by cases h), (fun h => by cases h), (fun h => by cases h), (fun h => by cases h), (fun h => by cases h), (fun h => by cases h), (fun h => by cases h), (fun h => by cases h), (fun h => by cases h), (fun h => by cases h), (fun h => by cases h), (fun h => by cases h), (fun h => by cases h), (fun h => by cases h), (fun h => by cases h), (fun h => by cases h), (fun h => by cases h), (fun h => by cases h), (fun h => by cases h), (fun h => by cases h), (fun h => by cases h), (fun h => by cases h), (fun h => by cases h), (fun h => by cases h), (fun h => by cases h), (fun h => by cases h), (fun h => by cases h), (fun h => by cases h), (fun h => by cases h), (fun h => by cases h), (fun h => by cases h), (fun h => by cases h), (fun h => by cases h), (fun h => by cases h)⟩⟩
        case hI =>
          rintro listed a w ⟨ab0, ab1, ab2, ab3, ab4, ab5, ab6, ab7, ab8, ab9, ab10, ab11, ab12, ab13, ab14, ab15, ab16, ab17, ab18, ab19, ax0, ax1, ax2, ax3, ax4, ax5, ax6, ax7, ax8, ax9, ax10, ax11, ax12, ax13, ax14, ax15, ax16, ax17, ax18, ax19, rfl, rfl, H⟩ i hi
          obtain ⟨hun, oj, hoj, hall⟩ := mem_ready.1 hi
          clear hi
          rcases i with _ | _ | _ | _ | _ | _ | _ | _ | _ | _ | _ | _ | _ | _ | _ | _ | _ | _ | _ | _ | i
          · have ho := hoj
            simp only [List.getElem?_toArray, List.getElem?_cons_zero, Option.some.injEq] at hoj
            subst hoj
            obtain rfl : ab0 = false := hun
            clear hall
            obtain rfl : ab1 = false := Bool.eq_false_iff.2 fun h => Bool.false_ne_true (H.d1 h)
            obtain rfl : ab2 = false := Bool.eq_false_iff.2 fun h => Bool.false_ne_true (H.d2 h)
            obtain rfl : ab3 = false := Bool.eq_false_iff.2 fun h => Bool.false_ne_true (H.d3 h)
            obtain rfl : ab4 = false := Bool.eq_false_iff.2 fun h => Bool.false_ne_true (H.d4 h)
            obtain rfl : ab5 = false := Bool.eq_false_iff.2 fun h => Bool.false_ne_true (H.d5 h)
            obtain rfl : ab6 = false := Bool.eq_false_iff.2 fun h => Bool.false_ne_true (H.d6 h).1
            obtain rfl : ab7 = false := Bool.eq_false_iff.2 fun h => Bool.false_ne_true (H.d7 h).1
            obtain rfl : ab8 = false := Bool.eq_false_iff.2 fun h => Bool.false_ne_true (H.d8 h).1
            obtain rfl : ab9 = false := Bool.eq_false_iff.2 fun h => Bool.false_ne_true (H.d9 h).1
            obtain rfl : ab10 = false := Bool.eq_false_iff.2 fun h => Bool.false_ne_true (H.d10 h).1
            obtain rfl : ab11 = false := Bool.eq_false_iff.2 fun h => Bool.false_ne_true (H.d11 h)
            obtain rfl : ab12 = false := Bool.eq_false_iff.2 fun h => Bool.false_ne_true (H.d12 h).1
            obtain rfl : ab13 = false := Bool.eq_false_iff.2 fun h => Bool.false_ne_true (H.d13 h).1
            obtain rfl : ab14 = false := Bool.eq_false_iff.2 fun h => Bool.false_ne_true (H.d14 h)
            obtain rfl : ab15 = false := Bool.eq_false_iff.2 fun h => Bool.false_ne_true (H.d15 h).1
            obtain rfl : ab16 = false := Bool.eq_false_iff.2 fun h => Bool.false_ne_true (H.d16 h).1
            obtain rfl : ab17 = false := Bool.eq_false_iff.2 fun h => Bool.false_ne_true (H.d17 h).1
            obtain rfl : ab18 = false := Bool.eq_false_iff.2 fun h => Bool.false_ne_true (H.d18 h).1
            obtain rfl : ab19 = false := Bool.eq_false_iff.2 fun h => Bool.false_ne_true (H.d19 h).1
            have hbe := H.be
            refine wpOp_step ho (fun K' hK => ?_)
            have HK := Lib.hid hK
            clear hK ho
            go_simp
            exact HK.out _ _ ⟨_, _, _, _, _, _, _, _, _, _, _, _, _, _, _, _, _, _, _, _, _, _, _, _, _, _, _, _, _, _, _, _, _, _, _, _, _, _, _, _, rfl, rfl, ⟨hbe, (fun h => by cases h), H.d2, H.d3, H.d4, H.d5, H.d6, H.d7, H.d8, H.d9, H.d10, H.d11, H.d12, H.d13, H.d14, H.d15, H.d16, H.d17, H.d18, H.d19, (fun _ => rfl), H.h1, H.h2, H.h3, H.h4, H.h5, H.h6, H.h7, H.h8, H.h9, H.h10, H.h11, H.h12, H.h13, H.h14, H.h15, H.h16, H.h17, H.h18, H.h19⟩⟩
          · have ho := hoj
            simp only [List.getElem?_toArray, List.getElem?_cons_succ, List.getElem?_cons_zero, Option.some.injEq] at hoj
            subst hoj
            obtain rfl : ab1 = false := hun
            obtain rfl : ab0 = true := hall ⟨0, .data⟩ (by simp) (by kernel_rfl)
            clear hall
            obtain rfl : ab2 = false := Bool.eq_false_iff.2 fun h => Bool.false_ne_true (H.d2 h)
            obtain rfl : ab3 = false := Bool.eq_false_iff.2 fun h => Bool.false_ne_true (H.d3 h)
            obtain rfl : ab4 = false := Bool.eq_false_iff.2 fun h => Bool.false_ne_true (H.d4 h)
            obtain rfl : ab5 = false := Bool.eq_false_iff.2 fun h => Bool.false_ne_true (H.d5 h)
            obtain rfl : ab6 = false := Bool.eq_false_iff.2 fun h => Bool.false_ne_true (H.d6 h).1
            obtain rfl : ab7 = false := Bool.eq_false_iff.2 fun h => Bool.false_ne_true (H.d7 h).1
            obtain rfl : ab8 = false := Bool.eq_false_iff.2 fun h => Bool.false_ne_true (H.d8 h).1
            obtain rfl : ab9 = false := Bool.eq_false_iff.2 fun h => Bool.false_ne_true (H.d9 h).1
            obtain rfl : ab10 = false := Bool.eq_false_iff.2 fun h => Bool.false_ne_true (H.d10 h).1
            obtain rfl : ab11 = false := Bool.eq_false_iff.2 fun h => Bool.false_ne_true (H.d11 h)
            obtain rfl : ab12 = false := Bool.eq_false_iff.2 fun h => Bool.false_ne_true (H.d12 h).1
            obtain rfl : ab13 = false := Bool.eq_false_iff.2 fun h => Bool.false_ne_true (H.d13 h).1
            obtain rfl : ab14 = false := Bool.eq_false_iff.2 fun h => Bool.false_ne_true (H.d14 h)
            obtain rfl : ab15 = false := Bool.eq_false_iff.2 fun h => Bool.false_ne_true (H.d15 h).1
            obtain rfl : ab16 = false := Bool.eq_false_iff.2 fun h => Bool.false_ne_true (H.d16 h).1
            obtain rfl : ab17 = false := Bool.eq_false_iff.2 fun h => Bool.false_ne_true (H.d17 h).1
            obtain rfl : ab18 = false := Bool.eq_false_iff.2 fun h => Bool.false_ne_true (H.d18 h).1
            obtain rfl : ab19 = false := Bool.eq_false_iff.2 fun h => Bool.false_ne_true (H.d19 h).1
            have hbe := H.be
            obtain rfl := H.h0 rfl
            obtain ⟨q0, q1, q2, q3, q4⟩ := bk5P ((hbe.block _ (lt_of_block F0.out)).trans F0.out)
            refine wpOp_step ho (fun K' hK => ?_)
            have HK := Lib.hid hK
            clear hK ho
            go_simp
            exact HK.out _ _ ⟨_, _, _, _, _, _, _, _, _, _, _, _, _, _, _, _, _, _, _, _, _, _, _, _, _, _, _, _, _, _, _, _, _, _, _, _, _, _, _, _, rfl, rfl, ⟨hbe, (fun _ => rfl), (fun h => by cases h), H.d3, H.d4, H.d5, H.d6, H.d7, H.d8, H.d9, H.d10, H.d11, H.d12, H.d13, H.d14, H.d15, H.d16, H.d17, H.d18, H.d19, H.h0, (fun _ => rfl), H.h2, H.h3, H.h4, H.h5, H.h6, H.h7, H.h8, H.h9, H.h10, H.h11, H.h12, H.h13, H.h14, H.h15, H.h16, H.h17, H.h18, H.h19⟩⟩
          · have ho := hoj
            simp only [List.getElem?_toArray, List.getElem?_cons_succ, List.getElem?_cons_zero, Option.some.injEq] at hoj
            subst hoj
            obtain rfl : ab2 = false := hun
            obtain rfl : ab1 = true := hall ⟨1, .data⟩ (by simp) (by kernel_rfl)
            obtain rfl : ab0 = true := (H.d1 rfl)
            clear hall
            obtain rfl : ab3 = false := Bool.eq_false_iff.2 fun h => Bool.false_ne_true (H.d3 h)
            obtain rfl : ab4 = false := Bool.eq_false_iff.2 fun h => Bool.false_ne_true (H.d4 h)
            obtain rfl : ab5 = false := Bool.eq_false_iff.2 fun h => Bool.false_ne_true (H.d5 h)
            obtain rfl : ab6 = false := Bool.eq_false_iff.2 fun h => Bool.false_ne_true (H.d6 h).1
            obtain rfl : ab7 = false := Bool.eq_false_iff.2 fun h => Bool.false_ne_true (H.d7 h).1
            obtain rfl : ab8 = false := Bool.eq_false_iff.2 fun h => Bool.false_ne_true (H.d8 h).1
            obtain rfl : ab9 = false := Bool.eq_false_iff.2 fun h => Bool.false_ne_true (H.d9 h).1
            obtain rfl : ab10 = false := Bool.eq_false_iff.2 fun h => Bool.false_ne_true (H.d10 h).1
            obtain rfl : ab11 = false := Bool.eq_false_iff.2 fun h => Bool.false_ne_true (H.d11 h)
            obtain rfl : ab12 = false := Bool.eq_false_iff.2 fun h => Bool.false_ne_true (H.d12 h).1
            obtain rfl : ab13 = false := Bool.eq_false_iff.2 fun h => Bool.false_ne_true (H.d13 h).1
            obtain rfl : ab14 = false := Bool.eq_false_iff.2 fun h => Bool.false_ne_true (H.d14 h)
            obtain rfl : ab15 = false := Bool.eq_false_iff.2 fun h => Bool.false_ne_true (H.d15 h).1
            obtain rfl : ab16 = false := Bool.eq_false_iff.2 fun h => Bool.false_ne_true (H.d16 h).1
            obtain rfl : ab17 = false := Bool.eq_false_iff.2 fun h => Bool.false_ne_true (H.d17 h).1
            obtain rfl : ab18 = false := Bool.eq_false_iff.2 fun h => Bool.false_ne_true (H.d18 h).1
            obtain rfl : ab19 = false := Bool.eq_false_iff.2 fun h => Bool.false_ne_true (H.d19 h).1
            have hbe := H.be
            obtain rfl := H.h0 rfl
            obtain rfl := H.h1 rfl
            refine wpOp_step ho (fun K' hK => ?_)
            have HK := Lib.hid hK
            clear hK ho
            go_simp
            exact HK.out _ _ ⟨_, _, _, _, _, _, _, _, _, _, _, _, _, _, _, _, _, _, _, _, _, _, _, _, _, _, _, _, _, _, _, _, _, _, _, _, _, _, _, _, rfl, rfl, ⟨hbe, H.d1, (fun _ => rfl), (fun h => by cases h), H.d4, H.d5, H.d6, H.d7, H.d8, H.d9, H.d10, H.d11, H.d12, H.d13, H.d14, H.d15, H.d16, H.d17, H.d18, H.d19, H.h0, H.h1, (fun _ => rfl), H.h3, H.h4, H.h5, H.h6, H.h7, H.h8, H.h9, H.h10, H.h11, H.h12, H.h13, H.h14, H.h15, H.h16, H.h17, H.h18, H.h19⟩⟩
          · have ho := hoj
            simp only [List.getElem?_toArray, List.getElem?_cons_succ, List.getElem?_cons_zero, Option.some.injEq] at hoj
            subst hoj
            obtain rfl : ab3 = false := hun
            obtain rfl : ab2 = true := hall ⟨2, .data⟩ (by simp) (by kernel_rfl)
            obtain rfl : ab1 = true := (H.d2 rfl)
            obtain rfl : ab0 = true := (H.d1 rfl)
            clear hall
            obtain rfl : ab4 = false := Bool.eq_false_iff.2 fun h => Bool.false_ne_true (H.d4 h)
            obtain rfl : ab5 = false := Bool.eq_false_iff.2 fun h => Bool.false_ne_true (H.d5 h)
            obtain rfl : ab6 = false := Bool.eq_false_iff.2 fun h => Bool.false_ne_true (H.d6 h).1
            obtain rfl : ab7 = false := Bool.eq_false_iff.2 fun h => Bool.false_ne_true (H.d7 h).1
            obtain rfl : ab8 = false := Bool.eq_false_iff.2 fun h => Bool.false_ne_true (H.d8 h).1
            obtain rfl : ab9 = false := Bool.eq_false_iff.2 fun h => Bool.false_ne_true (H.d9 h).1
            obtain rfl : ab10 = false := Bool.eq_false_iff.2 fun h => Bool.false_ne_true (H.d10 h).1
            obtain rfl : ab11 = false := Bool.eq_false_iff.2 fun h => Bool.false_ne_true (H.d11 h)
            obtain rfl : ab12 = false := Bool.eq_false_iff.2 fun h => Bool.false_ne_true (H.d12 h).1
            obtain rfl : ab13 = false := Bool.eq_false_iff.2 fun h => Bool.false_ne_true (H.d13 h).1
            obtain rfl : ab14 = false := Bool.eq_false_iff.2 fun h => Bool.false_ne_true (H.d14 h)
            obtain rfl : ab15 = false := Bool.eq_false_iff.2 fun h => Bool.false_ne_true (H.d15 h).1
            obtain rfl : ab16 = false := Bool.eq_false_iff.2 fun h => Bool.false_ne_true (H.d16 h).1
            obtain rfl : ab17 = false := Bool.eq_false_iff.2 fun h => Bool.false_ne_true (H.d17 h).1
            obtain rfl : ab18 = false := Bool.eq_false_iff.2 fun h => Bool.false_ne_true (H.d18 h).1
            obtain rfl : ab19 = false := Bool.eq_false_iff.2 fun h => Bool.false_ne_true (H.d19 h).1
            have hbe := H.be
            obtain rfl := H.h0 rfl
            obtain rfl := H.h1 rfl
            obtain rfl := H.h2 rfl
            have d5 := D5.out
            refine wpOp_step ho (fun K' hK => ?_)
            have HK := Lib.hid hK
            clear hK ho
            go_simp
            exact HK.out _ _ ⟨_, _, _, _, _, _, _, _, _, _, _, _, _, _, _, _, _, _, _, _, _, _, _, _, _, _, _, _, _, _, _, _, _, _, _, _, _, _, _, _, rfl, rfl, ⟨hbe, H.d1, H.d2, (fun _ => rfl), (fun h => by cases h), H.d5, H.d6, H.d7, H.d8, H.d9, H.d10, H.d11, H.d12, H.d13, H.d14, H.d15, H.d16, H.d17, H.d18, H.d19, H.h0, H.h1, H.h2, (fun _ => rfl), H.h4, H.h5, H.h6, H.h7, H.h8, H.h9, H.h10, H.h11, H.h12, H.h13, H.h14, H.h15, H.h16, H.h17, H.h18, H.h19⟩⟩
          · have ho := hoj
            simp only [List.getElem?_toArray, List.getElem?_cons_succ, List.getElem?_cons_zero, Option.some.injEq] at hoj
            subst hoj
            obtain rfl : ab4 = false := hun
            obtain rfl : ab3 = true := hall ⟨3, .data⟩ (by simp) (by kernel_rfl)
            obtain rfl : ab2 = true := (H.d3 rfl)
            obtain rfl : ab1 = true := (H.d2 rfl)
            obtain rfl : ab0 = true := (H.d1 rfl)
            clear hall
            obtain rfl : ab5 = false := Bool.eq_false_iff.2 fun h => Bool.false_ne_true (H.d5 h)
            obtain rfl : ab6 = false := Bool.eq_false_iff.2 fun h => Bool.false_ne_true (H.d6 h).1
            obtain rfl : ab7 = false := Bool.eq_false_iff.2 fun h => Bool.false_ne_true (H.d7 h).1
            obtain rfl : ab8 = false := Bool.eq_false_iff.2 fun h => Bool.false_ne_true (H.d8 h).1
            obtain rfl : ab9 = false := Bool.eq_false_iff.2 fun h => Bool.false_ne_true (H.d9 h).1
            obtain rfl : ab10 = false := Bool.eq_false_iff.2 fun h => Bool.false_ne_true (H.d10 h).1
            obtain rfl : ab11 = false := Bool.eq_false_iff.2 fun h => Bool.false_ne_true (H.d11 h)
            obtain rfl : ab12 = false := Bool.eq_false_iff.2 fun h => Bool.false_ne_true (H.d12 h).1
            obtain rfl : ab13 = false := Bool.eq_false_iff.2 fun h => Bool.false_ne_true (H.d13 h).1
            obtain rfl : ab14 = false := Bool.eq_false_iff.2 fun h => Bool.false_ne_true (H.d14 h)
            obtain rfl : ab15 = false := Bool.eq_false_iff.2 fun h => Bool.false_ne_true (H.d15 h).1
            obtain rfl : ab16 = false := Bool.eq_false_iff.2 fun h => Bool.false_ne_true (H.d16 h).1
            obtain rfl : ab17 = false := Bool.eq_false_iff.2 fun h => Bool.false_ne_true (H.d17 h).1
            obtain rfl : ab18 = false := Bool.eq_false_iff.2 fun h => Bool.false_ne_true (H.d18 h).1
            obtain rfl : ab19 = false := Bool.eq_false_iff.2 fun h => Bool.false_ne_true (H.d19 h).1
            have hbe := H.be
            obtain rfl := H.h0 rfl
            obtain rfl := H.h1 rfl
            obtain rfl := H.h2 rfl
            obtain rfl := H.h3 rfl
            refine wpOp_step ho (fun K' hK => ?_)
            have HK := Lib.hid hK
            clear hK ho
            go_simp
            exact HK.out _ _ ⟨_, _, _, _, _, _, _, _, _, _, _, _, _, _, _, _, _, _, _, _, _, _, _, _, _, _, _, _, _, _, _, _, _, _, _, _, _, _, _, _, rfl, rfl, ⟨hbe, H.d1, H.d2, H.d3, (fun _ => rfl), (fun h => by cases h), (fun h => by cases h), (fun h => by cases h), (fun h => by cases h), (fun h => by cases h), H.d10, H.d11, H.d12, H.d13, H.d14, H.d15, H.d16, H.d17, H.d18, H.d19, H.h0, H.h1, H.h2, H.h3, (fun _ => rfl), H.h5, H.h6, H.h7, H.h8, H.h9, H.h10, H.h11, H.h12, H.h13, H.h14, H.h15, H.h16, H.h17, H.h18, H.h19⟩⟩
          · have ho := hoj
            simp only [List.getElem?_toArray, List.getElem?_cons_succ, List.getElem?_cons_zero, Option.some.injEq] at hoj
            subst hoj
            obtain rfl : ab5 = false := hun
            obtain rfl : ab4 = true := hall ⟨4, .guard⟩ (by simp) (by kernel_rfl)
            obtain rfl : ab3 = true := (H.d4 rfl)
            obtain rfl : ab2 = true := (H.d3 rfl)
            obtain rfl : ab1 = true := (H.d2 rfl)
            obtain rfl : ab0 = true := (H.d1 rfl)
            clear hall
            obtain rfl : ab6 = false := Bool.eq_false_iff.2 fun h => Bool.false_ne_true (H.d6 h).2
            obtain rfl : ab7 = false := Bool.eq_false_iff.2 fun h => Bool.false_ne_true (H.d7 h).2
            obtain rfl : ab8 = false := Bool.eq_false_iff.2 fun h => Bool.false_ne_true (H.d8 h).2
            obtain rfl : ab9 = false := Bool.eq_false_iff.2 fun h => Bool.false_ne_true (H.d9 h).2
            obtain rfl : ab10 = false := Bool.eq_false_iff.2 fun h => Bool.false_ne_true (H.d10 h).1
            obtain rfl : ab11 = false := Bool.eq_false_iff.2 fun h => Bool.false_ne_true (H.d11 h)
            obtain rfl : ab12 = false := Bool.eq_false_iff.2 fun h => Bool.false_ne_true (H.d12 h).1
            obtain rfl : ab13 = false := Bool.eq_false_iff.2 fun h => Bool.false_ne_true (H.d13 h).1
            obtain rfl : ab14 = false := Bool.eq_false_iff.2 fun h => Bool.false_ne_true (H.d14 h)
            obtain rfl : ab15 = false := Bool.eq_false_iff.2 fun h => Bool.false_ne_true (H.d15 h).1
            obtain rfl : ab16 = false := Bool.eq_false_iff.2 fun h => Bool.false_ne_true (H.d16 h).1
            obtain rfl : ab17 = false := Bool.eq_false_iff.2 fun h => Bool.false_ne_true (H.d17 h).1
            obtain rfl : ab18 = false := Bool.eq_false_iff.2 fun h => Bool.false_ne_true (H.d18 h).1
            obtain rfl : ab19 = false := Bool.eq_false_iff.2 fun h => Bool.false_ne_true (H.d19 h).1
            have hbe := H.be
            obtain rfl := H.h0 rfl
            obtain rfl := H.h1 rfl
            obtain rfl := H.h2 rfl
            obtain rfl := H.h3 rfl
            obtain rfl := H.h4 rfl
            refine wpOp_step ho (fun K' hK => ?_)
            have HK := Lib.hid hK
            clear hK ho
            go_simp
            exact HK.out _ _ ⟨_, _, _, _, _, _, _, _, _, _, _, _, _, _, _, _, _, _, _, _, _, _, _, _, _, _, _, _, _, _, _, _, _, _, _, _, _, _, _, _, rfl, rfl, ⟨hbe, H.d1, H.d2, H.d3, H.d4, (fun _ => rfl), (fun h => by cases h), H.d7, H.d8, H.d9, H.d10, H.d11, H.d12, H.d13, H.d14, H.d15, H.d16, H.d17, H.d18, H.d19, H.h0, H.h1, H.h2, H.h3, H.h4, (fun _ => rfl), H.h6, H.h7, H.h8, H.h9, H.h10, H.h11, H.h12, H.h13, H.h14, H.h15, H.h16, H.h17, H.h18, H.h19⟩⟩
          · have ho := hoj
            simp only [List.getElem?_toArray, List.getElem?_cons_succ, List.getElem?_cons_zero, Option.some.injEq] at hoj
            subst hoj
            obtain rfl : ab6 = false := hun
            obtain rfl : ab4 = true := hall ⟨4, .guard⟩ (by simp) (by kernel_rfl)
            obtain rfl : ab5 = true := hall ⟨5, .data⟩ (by simp) (by kernel_rfl)
            obtain rfl : ab3 = true := (H.d4 rfl)
            obtain rfl : ab2 = true := (H.d3 rfl)
            obtain rfl : ab1 = true := (H.d2 rfl)
            obtain rfl : ab0 = true := (H.d1 rfl)
            clear hall
            obtain rfl : ab7 = false := Bool.eq_false_iff.2 fun h => Bool.false_ne_true (H.d7 h).2
            obtain rfl : ab8 = false := Bool.eq_false_iff.2 fun h => Bool.false_ne_true (H.d8 h).2
            obtain rfl : ab9 = false := Bool.eq_false_iff.2 fun h => Bool.false_ne_true (H.d9 h).2
            obtain rfl : ab10 = false := Bool.eq_false_iff.2 fun h => Bool.false_ne_true (H.d10 h).1
            obtain rfl : ab11 = false := Bool.eq_false_iff.2 fun h => Bool.false_ne_true (H.d11 h)
            obtain rfl : ab12 = false := Bool.eq_false_iff.2 fun h => Bool.false_ne_true (H.d12 h).1
            obtain rfl : ab13 = false := Bool.eq_false_iff.2 fun h => Bool.false_ne_true (H.d13 h).1
            obtain rfl : ab14 = false := Bool.eq_false_iff.2 fun h => Bool.false_ne_true (H.d14 h)
            obtain rfl : ab15 = false := Bool.eq_false_iff.2 fun h => Bool.false_ne_true (H.d15 h).1
            obtain rfl : ab16 = false := Bool.eq_false_iff.2 fun h => Bool.false_ne_true (H.d16 h).1
            obtain rfl : ab17 = false := Bool.eq_false_iff.2 fun h => Bool.false_ne_true (H.d17 h).1
            obtain rfl : ab18 = false := Bool.eq_false_iff.2 fun h => Bool.false_ne_true (H.d18 h).1
            obtain rfl : ab19 = false := Bool.eq_false_iff.2 fun h => Bool.false_ne_true (H.d19 h).1
            have hbe := H.be
            obtain rfl := H.h0 rfl
            obtain rfl := H.h1 rfl
            obtain rfl := H.h2 rfl
            obtain rfl := H.h3 rfl
            obtain rfl := H.h4 rfl
            obtain rfl := H.h5 rfl
            refine wpOp_step ho (fun K' hK => ?_)
            have HK := Lib.hid hK
            clear hK ho
            go_simp
            exact HK.out _ _ ⟨_, _, _, _, _, _, _, _, _, _, _, _, _, _, _, _, _, _, _, _, _, _, _, _, _, _, _, _, _, _, _, _, _, _, _, _, _, _, _, _, rfl, rfl, ⟨hbe, H.d1, H.d2, H.d3, H.d4, H.d5, (fun _ => ⟨rfl, rfl⟩), (fun h => by cases h), H.d8, H.d9, H.d10, H.d11, H.d12, H.d13, H.d14, H.d15, H.d16, H.d17, H.d18, H.d19, H.h0, H.h1, H.h2, H.h3, H.h4, H.h5, (fun _ => rfl), H.h7, H.h8, H.h9, H.h10, H.h11, H.h12, H.h13, H.h14, H.h15, H.h16, H.h17, H.h18, H.h19⟩⟩
          · have ho := hoj
            simp only [List.getElem?_toArray, List.getElem?_cons_succ, List.getElem?_cons_zero, Option.some.injEq] at hoj
            subst hoj
            obtain rfl : ab7 = false := hun
            obtain rfl : ab4 = true := hall ⟨4, .chain⟩ (by simp) (by kernel_rfl)
            obtain rfl : ab6 = true := hall ⟨6, .data⟩ (by simp) (by kernel_rfl)
            obtain rfl : ab3 = true := (H.d4 rfl)
            obtain rfl : ab5 = true := (H.d6 rfl).2
            obtain rfl : ab2 = true := (H.d3 rfl)
            obtain rfl : ab1 = true := (H.d2 rfl)
            obtain rfl : ab0 = true := (H.d1 rfl)
            clear hall
            obtain rfl : ab8 = false := Bool.eq_false_iff.2 fun h => Bool.false_ne_true (H.d8 h).2
            obtain rfl : ab9 = false := Bool.eq_false_iff.2 fun h => Bool.false_ne_true (H.d9 h).2
            obtain rfl : ab10 = false := Bool.eq_false_iff.2 fun h => Bool.false_ne_true (H.d10 h).1
            obtain rfl : ab11 = false := Bool.eq_false_iff.2 fun h => Bool.false_ne_true (H.d11 h)
            obtain rfl : ab12 = false := Bool.eq_false_iff.2 fun h => Bool.false_ne_true (H.d12 h).1
            obtain rfl : ab13 = false := Bool.eq_false_iff.2 fun h => Bool.false_ne_true (H.d13 h).1
            obtain rfl : ab14 = false := Bool.eq_false_iff.2 fun h => Bool.false_ne_true (H.d14 h)
            obtain rfl : ab15 = false := Bool.eq_false_iff.2 fun h => Bool.false_ne_true (H.d15 h).1
            obtain rfl : ab16 = false := Bool.eq_false_iff.2 fun h => Bool.false_ne_true (H.d16 h).1
            obtain rfl : ab17 = false := Bool.eq_false_iff.2 fun h => Bool.false_ne_true (H.d17 h).1
            obtain rfl : ab18 = false := Bool.eq_false_iff.2 fun h => Bool.false_ne_true (H.d18 h).1
            obtain rfl : ab19 = false := Bool.eq_false_iff.2 fun h => Bool.false_ne_true (H.d19 h).1
            have hbe := H.be
            obtain rfl := H.h0 rfl
            obtain rfl := H.h1 rfl
            obtain rfl := H.h2 rfl
            obtain rfl := H.h3 rfl
            obtain rfl := H.h4 rfl
            obtain rfl := H.h5 rfl
            obtain rfl := H.h6 rfl
            refine wpOp_step ho (fun K' hK => ?_)
            have HK := Lib.hid hK
            clear hK ho
            go_simp
            exact HK.out _ _ ⟨_, _, _, _, _, _, _, _, _, _, _, _, _, _, _, _, _, _, _, _, _, _, _, _, _, _, _, _, _, _, _, _, _, _, _, _, _, _, _, _, rfl, rfl, ⟨hbe, H.d1, H.d2, H.d3, H.d4, H.d5, H.d6, (fun _ => ⟨rfl, rfl⟩), (fun h => by cases h), H.d9, (fun h => by cases h), H.d11, H.d12, H.d13, H.d14, H.d15, H.d16, H.d17, H.d18, H.d19, H.h0, H.h1, H.h2, H.h3, H.h4, H.h5, H.h6, (fun _ => rfl), H.h8, H.h9, H.h10, H.h11, H.h12, H.h13, H.h14, H.h15, H.h16, H.h17, H.h18, H.h19⟩⟩
          · have ho := hoj
            simp only [List.getElem?_toArray, List.getElem?_cons_succ, List.getElem?_cons_zero, Option.some.injEq] at hoj
            subst hoj
            obtain rfl : ab8 = false := hun
            obtain rfl : ab4 = true := hall ⟨4, .guard⟩ (by simp) (by kernel_rfl)
            obtain rfl : ab7 = true := hall ⟨7, .data⟩ (by simp) (by kernel_rfl)
            obtain rfl : ab3 = true := (H.d4 rfl)
            obtain rfl : ab6 = true := (H.d7 rfl).2
            obtain rfl : ab2 = true := (H.d3 rfl)
            obtain rfl : ab5 = true := (H.d6 rfl).2
            obtain rfl : ab1 = true := (H.d2 rfl)
            obtain rfl : ab0 = true := (H.d1 rfl)
            clear hall
            obtain rfl : ab9 = false := Bool.eq_false_iff.2 fun h => Bool.false_ne_true (H.d9 h).2
            obtain rfl : ab10 = false := Bool.eq_false_iff.2 fun h => Bool.false_ne_true (H.d10 h).2
            obtain rfl : ab11 = false := Bool.eq_false_iff.2 fun h => Bool.false_ne_true (H.d11 h)
            obtain rfl : ab12 = false := Bool.eq_false_iff.2 fun h => Bool.false_ne_true (H.d12 h).1
            obtain rfl : ab13 = false := Bool.eq_false_iff.2 fun h => Bool.false_ne_true (H.d13 h).1
            obtain rfl : ab14 = false := Bool.eq_false_iff.2 fun h => Bool.false_ne_true (H.d14 h)
            obtain rfl : ab15 = false := Bool.eq_false_iff.2 fun h => Bool.false_ne_true (H.d15 h).1
            obtain rfl : ab16 = false := Bool.eq_false_iff.2 fun h => Bool.false_ne_true (H.d16 h).1
            obtain rfl : ab17 = false := Bool.eq_false_iff.2 fun h => Bool.false_ne_true (H.d17 h).1
            obtain rfl : ab18 = false := Bool.eq_false_iff.2 fun h => Bool.false_ne_true (H.d18 h).1
            obtain rfl : ab19 = false := Bool.eq_false_iff.2 fun h => Bool.false_ne_true (H.d19 h).1
            have hbe := H.be
            obtain rfl := H.h0 rfl
            obtain rfl := H.h1 rfl
            obtain rfl := H.h2 rfl
            obtain rfl := H.h3 rfl
            obtain rfl := H.h4 rfl
            obtain rfl := H.h5 rfl
            obtain rfl := H.h6 rfl
            obtain rfl := H.h7 rfl
            refine wpOp_step ho (fun K' hK => ?_)
            have HK := Lib.hid hK
            clear hK ho
            go_simp
            exact HK.out _ _ ⟨_, _, _, _, _, _, _, _, _, _, _, _, _, _, _, _, _, _, _, _, _, _, _, _, _, _, _, _, _, _, _, _, _, _, _, _, _, _, _, _, rfl, rfl, ⟨hbe, H.d1, H.d2, H.d3, H.d4, H.d5, H.d6, H.d7, (fun _ => ⟨rfl, rfl⟩), (fun h => by cases h), H.d10, H.d11, H.d12, H.d13, H.d14, H.d15, H.d16, H.d17, H.d18, H.d19, H.h0, H.h1, H.h2, H.h3, H.h4, H.h5, H.h6, H.h7, (fun _ => rfl), H.h9, H.h10, H.h11, H.h12, H.h13, H.h14, H.h15, H.h16, H.h17, H.h18, H.h19⟩⟩
          · have ho := hoj
            simp only [List.getElem?_toArray, List.getElem?_cons_succ, List.getElem?_cons_zero, Option.some.injEq] at hoj
            subst hoj
            obtain rfl : ab9 = false := hun
            obtain rfl : ab4 = true := hall ⟨4, .data⟩ (by simp) (by kernel_rfl)
            obtain rfl : ab8 = true := hall ⟨8, .data⟩ (by simp) (by kernel_rfl)
            obtain rfl : ab3 = true := (H.d4 rfl)
            obtain rfl : ab7 = true := (H.d8 rfl).2
            obtain rfl : ab2 = true := (H.d3 rfl)
            obtain rfl : ab6 = true := (H.d7 rfl).2
            obtain rfl : ab1 = true := (H.d2 rfl)
            obtain rfl : ab5 = true := (H.d6 rfl).2
            obtain rfl : ab0 = true := (H.d1 rfl)
            clear hall
            obtain rfl : ab10 = false := Bool.eq_false_iff.2 fun h => Bool.false_ne_true (H.d10 h).2
            obtain rfl : ab11 = false := Bool.eq_false_iff.2 fun h => Bool.false_ne_true (H.d11 h)
            obtain rfl : ab12 = false := Bool.eq_false_iff.2 fun h => Bool.false_ne_true (H.d12 h).1
            obtain rfl : ab13 = false := Bool.eq_false_iff.2 fun h => Bool.false_ne_true (H.d13 h).1
            obtain rfl : ab14 = false := Bool.eq_false_iff.2 fun h => Bool.false_ne_true (H.d14 h)
            obtain rfl : ab15 = false := Bool.eq_false_iff.2 fun h => Bool.false_ne_true (H.d15 h).1
            obtain rfl : ab16 = false := Bool.eq_false_iff.2 fun h => Bool.false_ne_true (H.d16 h).1
            obtain rfl : ab17 = false := Bool.eq_false_iff.2 fun h => Bool.false_ne_true (H.d17 h).1
            obtain rfl : ab18 = false := Bool.eq_false_iff.2 fun h => Bool.false_ne_true (H.d18 h).1
            obtain rfl : ab19 = false := Bool.eq_false_iff.2 fun h => Bool.false_ne_true (H.d19 h).1
            have hbe := H.be
            obtain rfl := H.h0 rfl
            obtain rfl := H.h1 rfl
            obtain rfl := H.h2 rfl
            obtain rfl := H.h3 rfl
            obtain rfl := H.h4 rfl
            obtain rfl := H.h5 rfl
            obtain rfl := H.h6 rfl
            obtain rfl := H.h7 rfl
            obtain rfl := H.h8 rfl
            refine wpOp_step ho (fun K' hK => ?_)
            have HK := Lib.hid hK
            clear hK ho
            go_simp
            exact HK.out _ _ ⟨_, _, _, _, _, _, _, _, _, _, _, _, _, _, _, _, _, _, _, _, _, _, _, _, _, _, _, _, _, _, _, _, _, _, _, _, _, _, _, _, rfl, rfl, ⟨hbe, H.d1, H.d2, H.d3, H.d4, H.d5, H.d6, H.d7, H.d8, (fun _ => ⟨rfl, rfl⟩), (fun h => by cases h), H.d11, H.d12, H.d13, H.d14, H.d15, H.d16, H.d17, H.d18, H.d19, H.h0, H.h1, H.h2, H.h3, H.h4, H.h5, H.h6, H.h7, H.h8, (fun _ => rfl), H.h10, H.h11, H.h12, H.h13, H.h14, H.h15, H.h16, H.h17, H.h18, H.h19⟩⟩
          · have ho := hoj
            simp only [List.getElem?_toArray, List.getElem?_cons_succ, List.getElem?_cons_zero, Option.some.injEq] at hoj
            subst hoj
            obtain rfl : ab10 = false := hun
            obtain rfl : ab7 = true := hall ⟨7, .chain⟩ (by simp) (by kernel_rfl)
            obtain rfl : ab9 = true := hall ⟨9, .data⟩ (by simp) (by kernel_rfl)
            obtain rfl : ab4 = true := (H.d7 rfl).1
            obtain rfl : ab6 = true := (H.d7 rfl).2
            obtain rfl : ab8 = true := (H.d9 rfl).2
            obtain rfl : ab3 = true := (H.d4 rfl)
            obtain rfl : ab5 = true := (H.d6 rfl).2
            obtain rfl : ab2 = true := (H.d3 rfl)
            obtain rfl : ab1 = true := (H.d2 rfl)
            obtain rfl : ab0 = true := (H.d1 rfl)
            clear hall
            obtain rfl : ab11 = false := Bool.eq_false_iff.2 fun h => Bool.false_ne_true (H.d11 h)
            obtain rfl : ab12 = false := Bool.eq_false_iff.2 fun h => Bool.false_ne_true (H.d12 h).1
            obtain rfl : ab13 = false := Bool.eq_false_iff.2 fun h => Bool.false_ne_true (H.d13 h).1
            obtain rfl : ab14 = false := Bool.eq_false_iff.2 fun h => Bool.false_ne_true (H.d14 h)
            obtain rfl : ab15 = false := Bool.eq_false_iff.2 fun h => Bool.false_ne_true (H.d15 h).1
            obtain rfl : ab16 = false := Bool.eq_false_iff.2 fun h => Bool.false_ne_true (H.d16 h).1
            obtain rfl : ab17 = false := Bool.eq_false_iff.2 fun h => Bool.false_ne_true (H.d17 h).1
            obtain rfl : ab18 = false := Bool.eq_false_iff.2 fun h => Bool.false_ne_true (H.d18 h).1
            obtain rfl : ab19 = false := Bool.eq_false_iff.2 fun h => Bool.false_ne_true (H.d19 h).1
            have hbe := H.be
            obtain rfl := H.h0 rfl
            obtain rfl := H.h1 rfl
            obtain rfl := H.h2 rfl
            obtain rfl := H.h3 rfl
            obtain rfl := H.h4 rfl
            obtain rfl := H.h5 rfl
            obtain rfl := H.h6 rfl
            obtain rfl := H.h7 rfl
            obtain rfl := H.h8 rfl
            obtain rfl := H.h9 rfl
            refine wpOp_step ho (fun K' hK => ?_)
            have HK := Lib.hid hK
            clear hK ho
            go_simp
            exact HK.out _ _ ⟨_, _, _, _, _, _, _, _, _, _, _, _, _, _, _, _, _, _, _, _, _, _, _, _, _, _, _, _, _, _, _, _, _, _, _, _, _, _, _, _, rfl, rfl, ⟨hbe, H.d1, H.d2, H.d3, H.d4, H.d5, H.d6, H.d7, H.d8, H.d9, (fun _ => ⟨rfl, rfl⟩), (fun h => by cases h), (fun h => by cases h), (fun h => by cases h), (fun h => by cases h), (fun h => by cases h), (fun h => by cases h), (fun h => by cases h), (fun h => by cases h), H.d19, H.h0, H.h1, H.h2, H.h3, H.h4, H.h5, H.h6, H.h7, H.h8, H.h9, (fun _ => rfl), H.h11, H.h12, H.h13, H.h14, H.h15, H.h16, H.h17, H.h18, H.h19⟩⟩
          · have ho := hoj
            simp only [List.getElem?_toArray, List.getElem?_cons_succ, List.getElem?_cons_zero, Option.some.injEq] at hoj
            subst hoj
            obtain rfl : ab11 = false := hun
            obtain rfl : ab10 = true := hall ⟨10, .guard⟩ (by simp) (by kernel_rfl)
            obtain rfl : ab7 = true := (H.d10 rfl).1
            obtain rfl : ab9 = true := (H.d10 rfl).2
            obtain rfl : ab4 = true := (H.d7 rfl).1
            obtain rfl : ab6 = true := (H.d7 rfl).2
            obtain rfl : ab8 = true := (H.d9 rfl).2
            obtain rfl : ab3 = true := (H.d4 rfl)
            obtain rfl : ab5 = true := (H.d6 rfl).2
            obtain rfl : ab2 = true := (H.d3 rfl)
            obtain rfl : ab1 = true := (H.d2 rfl)
            obtain rfl : ab0 = true := (H.d1 rfl)
            clear hall
            obtain rfl : ab12 = false := Bool.eq_false_iff.2 fun h => Bool.false_ne_true (H.d12 h).2
            obtain rfl : ab13 = false := Bool.eq_false_iff.2 fun h => Bool.false_ne_true (H.d13 h).2
            obtain rfl : ab16 = false := Bool.eq_false_iff.2 fun h => Bool.false_ne_true (H.d16 h).2.1
            obtain rfl : ab17 = false := Bool.eq_false_iff.2 fun h => Bool.false_ne_true (H.d17 h).2
            obtain rfl : ab18 = false := Bool.eq_false_iff.2 fun h => Bool.false_ne_true (H.d18 h).2
            obtain rfl : ab19 = false := Bool.eq_false_iff.2 fun h => Bool.false_ne_true (H.d19 h).1
            have hbe := H.be
            obtain rfl := H.h0 rfl
            obtain rfl := H.h1 rfl
            obtain rfl := H.h2 rfl
            obtain rfl := H.h3 rfl
            obtain rfl := H.h4 rfl
            obtain rfl := H.h5 rfl
            obtain rfl := H.h6 rfl
            obtain rfl := H.h7 rfl
            obtain rfl := H.h8 rfl
            obtain rfl := H.h9 rfl
            obtain rfl := H.h10 rfl
            refine wpOp_step ho (fun K' hK => ?_)
            have HK := Lib.hid hK
            clear hK ho
            go_simp
            exact HK.out _ _ ⟨_, _, _, _, _, _, _, _, _, _, _, _, _, _, _, _, _, _, _, _, _, _, _, _, _, _, _, _, _, _, _, _, _, _, _, _, _, _, _, _, rfl, rfl, ⟨hbe, H.d1, H.d2, H.d3, H.d4, H.d5, H.d6, H.d7, H.d8, H.d9, H.d10, (fun _ => rfl), (fun h => by cases h), H.d13, H.d14, H.d15, H.d16, H.d17, H.d18, H.d19, H.h0, H.h1, H.h2, H.h3, H.h4, H.h5, H.h6, H.h7, H.h8, H.h9, H.h10, (fun _ => rfl), H.h12, H.h13, H.h14, H.h15, H.h16, H.h17, H.h18, H.h19⟩⟩
          · have ho := hoj
            simp only [List.getElem?_toArray, List.getElem?_cons_succ, List.getElem?_cons_zero, Option.some.injEq] at hoj
            subst hoj
            obtain rfl : ab12 = false := hun
            obtain rfl : ab10 = true := hall ⟨10, .guard⟩ (by simp) (by kernel_rfl)
            obtain rfl : ab11 = true := hall ⟨11, .data⟩ (by simp) (by kernel_rfl)
            obtain rfl : ab7 = true := (H.d10 rfl).1
            obtain rfl : ab9 = true := (H.d10 rfl).2
            obtain rfl : ab4 = true := (H.d7 rfl).1
            obtain rfl : ab6 = true := (H.d7 rfl).2
            obtain rfl : ab8 = true := (H.d9 rfl).2
            obtain rfl : ab3 = true := (H.d4 rfl)
            obtain rfl : ab5 = true := (H.d6 rfl).2
            obtain rfl : ab2 = true := (H.d3 rfl)
            obtain rfl : ab1 = true := (H.d2 rfl)
            obtain rfl : ab0 = true := (H.d1 rfl)
            clear hall
            obtain rfl : ab13 = false := Bool.eq_false_iff.2 fun h => Bool.false_ne_true (H.d13 h).2
            obtain rfl : ab16 = false := Bool.eq_false_iff.2 fun h => Bool.false_ne_true (H.d16 h).2.1
            obtain rfl : ab17 = false := Bool.eq_false_iff.2 fun h => Bool.false_ne_true (H.d17 h).2
            obtain rfl : ab18 = false := Bool.eq_false_iff.2 fun h => Bool.false_ne_true (H.d18 h).2
            obtain rfl : ab19 = false := Bool.eq_false_iff.2 fun h => Bool.false_ne_true (H.d19 h).1
            have hbe := H.be
            obtain rfl := H.h0 rfl
            obtain rfl := H.h1 rfl
            obtain rfl := H.h2 rfl
            obtain rfl := H.h3 rfl
            obtain rfl := H.h4 rfl
            obtain rfl := H.h5 rfl
            obtain rfl := H.h6 rfl
            obtain rfl := H.h7 rfl
            obtain rfl := H.h8 rfl
            obtain rfl := H.h9 rfl
            obtain rfl := H.h10 rfl
            obtain rfl := H.h11 rfl
            refine wpOp_step ho (fun K' hK => ?_)
            have HK := Lib.hid hK
            clear hK ho
            go_simp
            exact HK.out _ _ ⟨_, _, _, _, _, _, _, _, _, _, _, _, _, _, _, _, _, _, _, _, _, _, _, _, _, _, _, _, _, _, _, _, _, _, _, _, _, _, _, _, rfl, rfl, ⟨hbe, H.d1, H.d2, H.d3, H.d4, H.d5, H.d6, H.d7, H.d8, H.d9, H.d10, H.d11, (fun _ => ⟨rfl, rfl⟩), (fun h => by cases h), H.d14, H.d15, H.d16, H.d17, H.d18, H.d19, H.h0, H.h1, H.h2, H.h3, H.h4, H.h5, H.h6, H.h7, H.h8, H.h9, H.h10, H.h11, (fun _ => rfl), H.h13, H.h14, H.h15, H.h16, H.h17, H.h18, H.h19⟩⟩
          · have ho := hoj
            simp only [List.getElem?_toArray, List.getElem?_cons_succ, List.getElem?_cons_zero, Option.some.injEq] at hoj
            subst hoj
            obtain rfl : ab13 = false := hun
            obtain rfl : ab10 = true := hall ⟨10, .chain⟩ (by simp) (by kernel_rfl)
            obtain rfl : ab12 = true := hall ⟨12, .data⟩ (by simp) (by kernel_rfl)
            obtain rfl : ab7 = true := (H.d10 rfl).1
            obtain rfl : ab9 = true := (H.d10 rfl).2
            obtain rfl : ab11 = true := (H.d12 rfl).2
            obtain rfl : ab4 = true := (H.d7 rfl).1
            obtain rfl : ab6 = true := (H.d7 rfl).2
            obtain rfl : ab8 = true := (H.d9 rfl).2
            obtain rfl : ab3 = true := (H.d4 rfl)
            obtain rfl : ab5 = true := (H.d6 rfl).2
            obtain rfl : ab2 = true := (H.d3 rfl)
            obtain rfl : ab1 = true := (H.d2 rfl)
            obtain rfl : ab0 = true := (H.d1 rfl)
            clear hall
            obtain rfl : ab16 = false := Bool.eq_false_iff.2 fun h => Bool.false_ne_true (H.d16 h).2.1
            obtain rfl : ab17 = false := Bool.eq_false_iff.2 fun h => Bool.false_ne_true (H.d17 h).2
            obtain rfl : ab18 = false := Bool.eq_false_iff.2 fun h => Bool.false_ne_true (H.d18 h).2
            obtain rfl : ab19 = false := Bool.eq_false_iff.2 fun h => Bool.false_ne_true (H.d19 h).1
            have hbe := H.be
            obtain rfl := H.h0 rfl
            obtain rfl := H.h1 rfl
            obtain rfl := H.h2 rfl
            obtain rfl := H.h3 rfl
            obtain rfl := H.h4 rfl
            obtain rfl := H.h5 rfl
            obtain rfl := H.h6 rfl
            obtain rfl := H.h7 rfl
            obtain rfl := H.h8 rfl
            obtain rfl := H.h9 rfl
            obtain rfl := H.h10 rfl
            obtain rfl := H.h11 rfl
            obtain rfl := H.h12 rfl
            refine wpOp_step ho (fun K' hK => ?_)
            have HK := Lib.hid hK
            clear hK ho
            go_simp
            exact HK.out _ _ ⟨_, _, _, _, _, _, _, _, _, _, _, _, _, _, _, _, _, _, _, _, _, _, _, _, _, _, _, _, _, _, _, _, _, _, _, _, _, _, _, _, rfl, rfl, ⟨hbe, H.d1, H.d2, H.d3, H.d4, H.d5, H.d6, H.d7, H.d8, H.d9, H.d10, H.d11, H.d12, (fun _ => ⟨rfl, rfl⟩), H.d14, H.d15, (fun h => by cases h), H.d17, H.d18, H.d19, H.h0, H.h1, H.h2, H.h3, H.h4, H.h5, H.h6, H.h7, H.h8, H.h9, H.h10, H.h11, H.h12, (fun _ => rfl), H.h14, H.h15, H.h16, H.h17, H.h18, H.h19⟩⟩
          · have ho := hoj
            simp only [List.getElem?_toArray, List.getElem?_cons_succ, List.getElem?_cons_zero, Option.some.injEq] at hoj
            subst hoj
            obtain rfl : ab14 = false := hun
            obtain rfl : ab10 = true := hall ⟨10, .guard⟩ (by simp) (by kernel_rfl)
            obtain rfl : ab7 = true := (H.d10 rfl).1
            obtain rfl : ab9 = true := (H.d10 rfl).2
            obtain rfl : ab4 = true := (H.d7 rfl).1
            obtain rfl : ab6 = true := (H.d7 rfl).2
            obtain rfl : ab8 = true := (H.d9 rfl).2
            obtain rfl : ab3 = true := (H.d4 rfl)
            obtain rfl : ab5 = true := (H.d6 rfl).2
            obtain rfl : ab2 = true := (H.d3 rfl)
            obtain rfl : ab1 = true := (H.d2 rfl)
            obtain rfl : ab0 = true := (H.d1 rfl)
            clear hall
            obtain rfl : ab15 = false := Bool.eq_false_iff.2 fun h => Bool.false_ne_true (H.d15 h).2
            obtain rfl : ab16 = false := Bool.eq_false_iff.2 fun h => Bool.false_ne_true (H.d16 h).2.2
            obtain rfl : ab17 = false := Bool.eq_false_iff.2 fun h => Bool.false_ne_true (H.d17 h).2
            obtain rfl : ab18 = false := Bool.eq_false_iff.2 fun h => Bool.false_ne_true (H.d18 h).2
            obtain rfl : ab19 = false := Bool.eq_false_iff.2 fun h => Bool.false_ne_true (H.d19 h).1
            have hbe := H.be
            obtain rfl := H.h0 rfl
            obtain rfl := H.h1 rfl
            obtain rfl := H.h2 rfl
            obtain rfl := H.h3 rfl
            obtain rfl := H.h4 rfl
            obtain rfl := H.h5 rfl
            obtain rfl := H.h6 rfl
            obtain rfl := H.h7 rfl
            obtain rfl := H.h8 rfl
            obtain rfl := H.h9 rfl
            obtain rfl := H.h10 rfl
            refine wpOp_step ho (fun K' hK => ?_)
            have HK := Lib.hid hK
            clear hK ho
            go_simp
            exact HK.out _ _ ⟨_, _, _, _, _, _, _, _, _, _, _, _, _, _, _, _, _, _, _, _, _, _, _, _, _, _, _, _, _, _, _, _, _, _, _, _, _, _, _, _, rfl, rfl, ⟨hbe, H.d1, H.d2, H.d3, H.d4, H.d5, H.d6, H.d7, H.d8, H.d9, H.d10, H.d11, H.d12, H.d13, (fun _ => rfl), (fun h => by cases h), H.d16, H.d17, H.d18, H.d19, H.h0, H.h1, H.h2, H.h3, H.h4, H.h5, H.h6, H.h7, H.h8, H.h9, H.h10, H.h11, H.h12, H.h13, (fun _ => rfl), H.h15, H.h16, H.h17, H.h18, H.h19⟩⟩
          · have ho := hoj
            simp only [List.getElem?_toArray, List.getElem?_cons_succ, List.getElem?_cons_zero, Option.some.injEq] at hoj
            subst hoj
            obtain rfl : ab15 = false := hun
            obtain rfl : ab10 = true := hall ⟨10, .guard⟩ (by simp) (by kernel_rfl)
            obtain rfl : ab14 = true := hall ⟨14, .data⟩ (by simp) (by kernel_rfl)
            obtain rfl : ab7 = true := (H.d10 rfl).1
            obtain rfl : ab9 = true := (H.d10 rfl).2
            obtain rfl : ab4 = true := (H.d7 rfl).1
            obtain rfl : ab6 = true := (H.d7 rfl).2
            obtain rfl : ab8 = true := (H.d9 rfl).2
            obtain rfl : ab3 = true := (H.d4 rfl)
            obtain rfl : ab5 = true := (H.d6 rfl).2
            obtain rfl : ab2 = true := (H.d3 rfl)
            obtain rfl : ab1 = true := (H.d2 rfl)
            obtain rfl : ab0 = true := (H.d1 rfl)
            clear hall
            obtain rfl : ab16 = false := Bool.eq_false_iff.2 fun h => Bool.false_ne_true (H.d16 h).2.2
            obtain rfl : ab17 = false := Bool.eq_false_iff.2 fun h => Bool.false_ne_true (H.d17 h).2
            obtain rfl : ab18 = false := Bool.eq_false_iff.2 fun h => Bool.false_ne_true (H.d18 h).2
            obtain rfl : ab19 = false := Bool.eq_false_iff.2 fun h => Bool.false_ne_true (H.d19 h).1
            have hbe := H.be
            obtain rfl := H.h0 rfl
            obtain rfl := H.h1 rfl
            obtain rfl := H.h2 rfl
            obtain rfl := H.h3 rfl
            obtain rfl := H.h4 rfl
            obtain rfl := H.h5 rfl
            obtain rfl := H.h6 rfl
            obtain rfl := H.h7 rfl
            obtain rfl := H.h8 rfl
            obtain rfl := H.h9 rfl
            obtain rfl := H.h10 rfl
            obtain rfl := H.h14 rfl
            refine wpOp_step ho (fun K' hK => ?_)
            have HK := Lib.hid hK
            clear hK ho
            go_simp
            exact HK.out _ _ ⟨_, _, _, _, _, _, _, _, _, _, _, _, _, _, _, _, _, _, _, _, _, _, _, _, _, _, _, _, _, _, _, _, _, _, _, _, _, _, _, _, rfl, rfl, ⟨hbe, H.d1, H.d2, H.d3, H.d4, H.d5, H.d6, H.d7, H.d8, H.d9, H.d10, H.d11, H.d12, H.d13, H.d14, (fun _ => ⟨rfl, rfl⟩), (fun h => by cases h), H.d17, H.d18, H.d19, H.h0, H.h1, H.h2, H.h3, H.h4, H.h5, H.h6, H.h7, H.h8, H.h9, H.h10, H.h11, H.h12, H.h13, H.h14, (fun _ => rfl), H.h16, H.h17, H.h18, H.h19⟩⟩
          · have ho := hoj
            simp only [List.getElem?_toArray, List.getElem?_cons_succ, List.getElem?_cons_zero, Option.some.injEq] at hoj
            subst hoj
            obtain rfl : ab16 = false := hun
            obtain rfl : ab10 = true := hall ⟨10, .guard⟩ (by simp) (by kernel_rfl)
            obtain rfl : ab13 = true := hall ⟨13, .data⟩ (by simp) (by kernel_rfl)
            obtain rfl : ab15 = true := hall ⟨15, .data⟩ (by simp) (by kernel_rfl)
            obtain rfl : ab7 = true := (H.d10 rfl).1
            obtain rfl : ab9 = true := (H.d10 rfl).2
            obtain rfl : ab12 = true := (H.d13 rfl).2
            obtain rfl : ab14 = true := (H.d15 rfl).2
            obtain rfl : ab4 = true := (H.d7 rfl).1
            obtain rfl : ab6 = true := (H.d7 rfl).2
            obtain rfl : ab8 = true := (H.d9 rfl).2
            obtain rfl : ab11 = true := (H.d12 rfl).2
            obtain rfl : ab3 = true := (H.d4 rfl)
            obtain rfl : ab5 = true := (H.d6 rfl).2
            obtain rfl : ab2 = true := (H.d3 rfl)
            obtain rfl : ab1 = true := (H.d2 rfl)
            obtain rfl : ab0 = true := (H.d1 rfl)
            clear hall
            obtain rfl : ab17 = false := Bool.eq_false_iff.2 fun h => Bool.false_ne_true (H.d17 h).2
            obtain rfl : ab18 = false := Bool.eq_false_iff.2 fun h => Bool.false_ne_true (H.d18 h).2
            obtain rfl : ab19 = false := Bool.eq_false_iff.2 fun h => Bool.false_ne_true (H.d19 h).1
            have hbe := H.be
            obtain rfl := H.h0 rfl
            obtain rfl := H.h1 rfl
            obtain rfl := H.h2 rfl
            obtain rfl := H.h3 rfl
            obtain rfl := H.h4 rfl
            obtain rfl := H.h5 rfl
            obtain rfl := H.h6 rfl
            obtain rfl := H.h7 rfl
            obtain rfl := H.h8 rfl
            obtain rfl := H.h9 rfl
            obtain rfl := H.h10 rfl
            obtain rfl := H.h11 rfl
            obtain rfl := H.h12 rfl
            obtain rfl := H.h13 rfl
            obtain rfl := H.h14 rfl
            obtain rfl := H.h15 rfl
            refine wpOp_step ho (fun K' hK => ?_)
            have HK := Lib.hid hK
            clear hK ho
            go_simp
            exact HK.out _ _ ⟨_, _, _, _, _, _, _, _, _, _, _, _, _, _, _, _, _, _, _, _, _, _, _, _, _, _, _, _, _, _, _, _, _, _, _, _, _, _, _, _, rfl, rfl, ⟨hbe, H.d1, H.d2, H.d3, H.d4, H.d5, H.d6, H.d7, H.d8, H.d9, H.d10, H.d11, H.d12, H.d13, H.d14, H.d15, (fun _ => ⟨rfl, rfl, rfl⟩), (fun h => by cases h), H.d18, (fun h => by cases h), H.h0, H.h1, H.h2, H.h3, H.h4, H.h5, H.h6, H.h7, H.h8, H.h9, H.h10, H.h11, H.h12, H.h13, H.h14, H.h15, (fun _ => rfl), H.h17, H.h18, H.h19⟩⟩
          · have ho := hoj
            simp only [List.getElem?_toArray, List.getElem?_cons_succ, List.getElem?_cons_zero, Option.some.injEq] at hoj
            subst hoj
            obtain rfl : ab17 = false := hun
            obtain rfl : ab10 = true := hall ⟨10, .guard⟩ (by simp) (by kernel_rfl)
            obtain rfl : ab16 = true := hall ⟨16, .data⟩ (by simp) (by kernel_rfl)
            obtain rfl : ab7 = true := (H.d10 rfl).1
            obtain rfl : ab9 = true := (H.d10 rfl).2
            obtain rfl : ab13 = true := (H.d16 rfl).2.1
            obtain rfl : ab15 = true := (H.d16 rfl).2.2
            obtain rfl : ab4 = true := (H.d7 rfl).1
            obtain rfl : ab6 = true := (H.d7 rfl).2
            obtain rfl : ab8 = true := (H.d9 rfl).2
            obtain rfl : ab12 = true := (H.d13 rfl).2
            obtain rfl : ab14 = true := (H.d15 rfl).2
            obtain rfl : ab3 = true := (H.d4 rfl)
            obtain rfl : ab5 = true := (H.d6 rfl).2
            obtain rfl : ab11 = true := (H.d12 rfl).2
            obtain rfl : ab2 = true := (H.d3 rfl)
            obtain rfl : ab1 = true := (H.d2 rfl)
            obtain rfl : ab0 = true := (H.d1 rfl)
            clear hall
            obtain rfl : ab18 = false := Bool.eq_false_iff.2 fun h => Bool.false_ne_true (H.d18 h).2
            obtain rfl : ab19 = false := Bool.eq_false_iff.2 fun h => Bool.false_ne_true (H.d19 h).2
            have hbe := H.be
            obtain rfl := H.h0 rfl
            obtain rfl := H.h1 rfl
            obtain rfl := H.h2 rfl
            obtain rfl := H.h3 rfl
            obtain rfl := H.h4 rfl
            obtain rfl := H.h5 rfl
            obtain rfl := H.h6 rfl
            obtain rfl := H.h7 rfl
            obtain rfl := H.h8 rfl
            obtain rfl := H.h9 rfl
            obtain rfl := H.h10 rfl
            obtain rfl := H.h11 rfl
            obtain rfl := H.h12 rfl
            obtain rfl := H.h13 rfl
            obtain rfl := H.h14 rfl
            obtain rfl := H.h15 rfl
            obtain rfl := H.h16 rfl
            refine wpOp_step ho (fun K' hK => ?_)
            have HK := Lib.hid hK
            clear hK ho
            go_simp
            exact HK.out _ _ ⟨_, _, _, _, _, _, _, _, _, _, _, _, _, _, _, _, _, _, _, _, _, _, _, _, _, _, _, _, _, _, _, _, _, _, _, _, _, _, _, _, rfl, rfl, ⟨hbe, H.d1, H.d2, H.d3, H.d4, H.d5, H.d6, H.d7, H.d8, H.d9, H.d10, H.d11, H.d12, H.d13, H.d14, H.d15, H.d16, (fun _ => ⟨rfl, rfl⟩), (fun h => by cases h), H.d19, H.h0, H.h1, H.h2, H.h3, H.h4, H.h5, H.h6, H.h7, H.h8, H.h9, H.h10, H.h11, H.h12, H.h13, H.h14, H.h15, H.h16, (fun _ => rfl), H.h18, H.h19⟩⟩
          · have ho := hoj
            simp only [List.getElem?_toArray, List.getElem?_cons_succ, List.getElem?_cons_zero, Option.some.injEq] at hoj
            subst hoj
            obtain rfl : ab18 = false := hun
            obtain rfl : ab10 = true := hall ⟨10, .data⟩ (by simp) (by kernel_rfl)
            obtain rfl : ab17 = true := hall ⟨17, .data⟩ (by simp) (by kernel_rfl)
            obtain rfl : ab7 = true := (H.d10 rfl).1
            obtain rfl : ab9 = true := (H.d10 rfl).2
            obtain rfl : ab16 = true := (H.d17 rfl).2
            obtain rfl : ab4 = true := (H.d7 rfl).1
            obtain rfl : ab6 = true := (H.d7 rfl).2
            obtain rfl : ab8 = true := (H.d9 rfl).2
            obtain rfl : ab13 = true := (H.d16 rfl).2.1
            obtain rfl : ab15 = true := (H.d16 rfl).2.2
            obtain rfl : ab3 = true := (H.d4 rfl)
            obtain rfl : ab5 = true := (H.d6 rfl).2
            obtain rfl : ab12 = true := (H.d13 rfl).2
            obtain rfl : ab14 = true := (H.d15 rfl).2
            obtain rfl : ab2 = true := (H.d3 rfl)
            obtain rfl : ab11 = true := (H.d12 rfl).2
            obtain rfl : ab1 = true := (H.d2 rfl)
            obtain rfl : ab0 = true := (H.d1 rfl)
            clear hall
            obtain rfl : ab19 = false := Bool.eq_false_iff.2 fun h => Bool.false_ne_true (H.d19 h).2
            have hbe := H.be
            obtain rfl := H.h0 rfl
            obtain rfl := H.h1 rfl
            obtain rfl := H.h2 rfl
            obtain rfl := H.h3 rfl
            obtain rfl := H.h4 rfl
            obtain rfl := H.h5 rfl
            obtain rfl := H.h6 rfl
            obtain rfl := H.h7 rfl
            obtain rfl := H.h8 rfl
            obtain rfl := H.h9 rfl
            obtain rfl := H.h10 rfl
            obtain rfl := H.h11 rfl
            obtain rfl := H.h12 rfl
            obtain rfl := H.h13 rfl
            obtain rfl := H.h14 rfl
            obtain rfl := H.h15 rfl
            obtain rfl := H.h16 rfl
            obtain rfl := H.h17 rfl
            refine wpOp_step ho (fun K' hK => ?_)
            have HK := Lib.hid hK
            clear hK ho
            go_simp
            exact HK.out _ _ ⟨_, _, _, _, _, _, _, _, _, _, _, _, _, _, _, _, _, _, _, _, _, _, _, _, _, _, _, _, _, _, _, _, _, _, _, _, _, _, _, _, rfl, rfl, ⟨hbe, H.d1, H.d2, H.d3, H.d4, H.d5, H.d6, H.d7, H.d8, H.d9, H.d10, H.d11, H.d12, H.d13, H.d14, H.d15, H.d16, H.d17, (fun _ => ⟨rfl, rfl⟩), (fun h => by cases h), H.h0, H.h1, H.h2, H.h3, H.h4, H.h5, H.h6, H.h7, H.h8, H.h9, H.h10, H.h11, H.h12, H.h13, H.h14, H.h15, H.h16, H.h17, (fun _ => rfl), H.h19⟩⟩
          · have ho := hoj
            simp only [List.getElem?_toArray, List.getElem?_cons_succ, List.getElem?_cons_zero, Option.some.injEq] at hoj
            subst hoj
            obtain rfl : ab19 = false := hun
            obtain rfl : ab16 = true := hall ⟨16, .chain⟩ (by simp) (by kernel_rfl)
            obtain rfl : ab18 = true := hall ⟨18, .data⟩ (by simp) (by kernel_rfl)
            obtain rfl : ab10 = true := (H.d16 rfl).1
            obtain rfl : ab13 = true := (H.d16 rfl).2.1
            obtain rfl : ab15 = true := (H.d16 rfl).2.2
            obtain rfl : ab17 = true := (H.d18 rfl).2
            obtain rfl : ab7 = true := (H.d10 rfl).1
            obtain rfl : ab9 = true := (H.d10 rfl).2
            obtain rfl : ab12 = true := (H.d13 rfl).2
            obtain rfl : ab14 = true := (H.d15 rfl).2
            obtain rfl : ab4 = true := (H.d7 rfl).1
            obtain rfl : ab6 = true := (H.d7 rfl).2
            obtain rfl : ab8 = true := (H.d9 rfl).2
            obtain rfl : ab11 = true := (H.d12 rfl).2
            obtain rfl : ab3 = true := (H.d4 rfl)
            obtain rfl : ab5 = true := (H.d6 rfl).2
            obtain rfl : ab2 = true := (H.d3 rfl)
            obtain rfl : ab1 = true := (H.d2 rfl)
            obtain rfl : ab0 = true := (H.d1 rfl)
            clear hall
            have hbe := H.be
            obtain rfl := H.h0 rfl
            obtain rfl := H.h1 rfl
            obtain rfl := H.h2 rfl
            obtain rfl := H.h3 rfl
            obtain rfl := H.h4 rfl
            obtain rfl := H.h5 rfl
            obtain rfl := H.h6 rfl
            obtain rfl := H.h7 rfl
            obtain rfl := H.h8 rfl
            obtain rfl := H.h9 rfl
            obtain rfl := H.h10 rfl
            obtain rfl := H.h11 rfl
            obtain rfl := H.h12 rfl
            obtain rfl := H.h13 rfl
            obtain rfl := H.h14 rfl
            obtain rfl := H.h15 rfl
            obtain rfl := H.h16 rfl
            obtain rfl := H.h17 rfl
            obtain rfl := H.h18 rfl
            refine wpOp_step ho (fun K' hK => ?_)
            have HK := Lib.hid hK
            clear hK ho
            go_simp
            exact HK.out _ _ ⟨_, _, _, _, _, _, _, _, _, _, _, _, _, _, _, _, _, _, _, _, _, _, _, _, _, _, _, _, _, _, _, _, _, _, _, _, _, _, _, _, rfl, rfl, ⟨hbe, H.d1, H.d2, H.d3, H.d4, H.d5, H.d6, H.d7, H.d8, H.d9, H.d10, H.d11, H.d12, H.d13, H.d14, H.d15, H.d16, H.d17, H.d18, (fun _ => ⟨rfl, rfl⟩), H.h0, H.h1, H.h2, H.h3, H.h4, H.h5, H.h6, H.h7, H.h8, H.h9, H.h10, H.h11, H.h12, H.h13, H.h14, H.h15, H.h16, H.h17, H.h18, (fun _ => rfl)⟩⟩
          · have ho := hoj
            simp at ho
        case hfin =>
          rintro listed a w ⟨ab0, ab1, ab2, ab3, ab4, ab5, ab6, ab7, ab8, ab9, ab10, ab11, ab12, ab13, ab14, ab15, ab16, ab17, ab18, ab19, ax0, ax1, ax2, ax3, ax4, ax5, ax6, ax7, ax8, ax9, ax10, ax11, ax12, ax13, ax14, ax15, ax16, ax17, ax18, ax19, rfl, rfl, H⟩ hr
          have hb : ab19 = true := by
            clear H
            obtain rfl : ab0 = true := by
              cases ab0
              · exact absurd hr (ready_neC (by kernel_rfl))
              · rfl
            obtain rfl : ab1 = true := by
              cases ab1
              · exact absurd hr (ready_neC (by kernel_rfl))
              · rfl
            obtain rfl : ab2 = true := by
              cases ab2
              · exact absurd hr (ready_neC (by kernel_rfl))
              · rfl
            obtain rfl : ab3 = true := by
              cases ab3
              · exact absurd hr (ready_neC (by kernel_rfl))
              · rfl
            obtain rfl : ab4 = true := by
              cases ab4
              · exact absurd hr (ready_neC (by kernel_rfl))
              · rfl
            obtain rfl : ab5 = true := by
              cases ab5
              · exact absurd hr (ready_neC (by kernel_rfl))
              · rfl
            obtain rfl : ab6 = true := by
              cases ab6
              · exact absurd hr (ready_neC (by kernel_rfl))
              · rfl
            obtain rfl : ab7 = true := by
              cases ab7
              · exact absurd hr (ready_neC (by kernel_rfl))
              · rfl
            obtain rfl : ab8 = true := by
              cases ab8
              · exact absurd hr (ready_neC (by kernel_rfl))
              · rfl
            obtain rfl : ab9 = true := by
              cases ab9
              · exact absurd hr (ready_neC (by kernel_rfl))
              · rfl
            obtain rfl : ab10 = true := by
              cases ab10
              · exact absurd hr (ready_neC (by kernel_rfl))
              · rfl
            obtain rfl : ab11 = true := by
              cases ab11
              · exact absurd hr (ready_neC (by kernel_rfl))
              · rfl
            obtain rfl : ab12 = true := by
              cases ab12
              · exact absurd hr (ready_neC (by kernel_rfl))
              · rfl
            obtain rfl : ab13 = true := by
              cases ab13
              · exact absurd hr (ready_neC (by kernel_rfl))
              · rfl
            obtain rfl : ab14 = true := by
              cases ab14
              · exact absurd hr (ready_neC (by kernel_rfl))
              · rfl
            obtain rfl : ab15 = true := by
              cases ab15
              · exact absurd hr (ready_neC (by kernel_rfl))
              · rfl
            obtain rfl : ab16 = true := by
              cases ab16
              · exact absurd hr (ready_neC (by kernel_rfl))
              · rfl
            obtain rfl : ab17 = true := by
              cases ab17
              · exact absurd hr (ready_neC (by kernel_rfl))
              · rfl
            obtain rfl : ab18 = true := by
              cases ab18
              · exact absurd hr (ready_neC (by kernel_rfl))
              · rfl
            obtain rfl : ab19 = true := by
              cases ab19
              · exact absurd hr (ready_neC (by kernel_rfl))
              · rfl
            rfl
          subst hb
          clear hr
          obtain rfl : ab16 = true := (H.d19 rfl).1
          obtain rfl : ab18 = true := (H.d19 rfl).2
          obtain rfl : ab10 = true := (H.d16 rfl).1
          obtain rfl : ab13 = true := (H.d16 rfl).2.1
          obtain rfl : ab15 = true := (H.d16 rfl).2.2
          obtain rfl : ab17 = true := (H.d18 rfl).2
          obtain rfl : ab7 = true := (H.d10 rfl).1
          obtain rfl : ab9 = true := (H.d10 rfl).2
          obtain rfl : ab12 = true := (H.d13 rfl).2
          obtain rfl : ab14 = true := (H.d15 rfl).2
          obtain rfl : ab4 = true := (H.d7 rfl).1
          obtain rfl : ab6 = true := (H.d7 rfl).2
          obtain rfl : ab8 = true := (H.d9 rfl).2
          obtain rfl : ab11 = true := (H.d12 rfl).2
          obtain rfl : ab3 = true := (H.d4 rfl)
          obtain rfl : ab5 = true := (H.d6 rfl).2
          obtain rfl : ab2 = true := (H.d3 rfl)
          obtain rfl : ab1 = true := (H.d2 rfl)
          obtain rfl : ab0 = true := (H.d1 rfl)
          have e19 := H.h19 rfl
          have hb := H.be
          subst e19
          clear H
          go_wp2_with fail
          go_meet
          exact ⟨HCN'.out.symm, Lib.hid hb⟩
    case rest =>
    obtain ⟨rfl, HB2⟩ := hcut
    obtain ⟨W2, hW2⟩ : ∃ x, x = wc := ⟨_, rfl⟩
    subst wc
    have F2 := Lib.hid ((HB2.out.block _ (lt_of_block F0.out)).trans F0.out)
    have BLW := Lib.hid (B0.out.trans (HB2.out.mono B0.out.size))
    cases c2n with
    | true =>
      have HF := Lib.hid (HF9.out fun q => by
        obtain ⟨x1, x2, x3⟩ := HC2.out.1 q.2.1
        have := HCN.out
        rw [x2, x3, show decide (na ≤ 24) = true from by simp [x1]] at this
        cases this)
      go_wp2_with fail
      go_ret
      exact ⟨by rw [HF.out]; rfl, BLW.out⟩
    | false =>
      have HC2' := Lib.hid (HC2.out.2 (by
        have := HCN.out
        have e : (decide (na ≤ 24) && (sb && rb)) = true := by
          cases q : (decide (na ≤ 24) && (sb && rb)) with
          | true => rfl
          | false => rw [q] at this; cases this
        simp only [Bool.and_eq_true, decide_eq_true_iff] at e
        exact e))
      have m1 := (HC2.out.1 HC2'.out).1
      obtain ⟨q0, q1, q2, q3, q4⟩ := bk5P F2.out
      by_cases c3 : nh ≤ 6
      · have d5 : decide ((6 : Int) < (nh : Int)) = false := by simp; omega
        go_wp2_with fail
        refine (HRC.out _ HB2.out).mono ?_
        clear q0 q1 q2 q3 q4
        rintro e W3 ⟨rfl, b3⟩
        have HB3 := Lib.hid (HB2.out.trans (b3.mono HB2.out.size))
        have F3 := Lib.hid ((b3.block _ (lt_of_block F2.out)).trans F2.out)
        have BL3 := Lib.hid (B0.out.trans (HB3.out.mono B0.out.size))
        clear b3
        rcases HCV.out with hv0 | hv3
        · have HC3' := Lib.hid (HC3.out.2 ⟨c3, hv0⟩)
          subst hv0
          obtain ⟨q0, q1, q2, q3, q4⟩ := bk5P F3.out
          by_cases c4 : nk ≤ 6
          · have d6 : decide ((6 : Int) < (nk : Int)) = false := by simp; omega
            go_wp2_with fail
            refine (HRK.out _ HB3.out).mono ?_
            clear q0 q1 q2 q3 q4
            rintro e W4 ⟨rfl, rfl⟩
            cases kr with
            | false =>
              have HF := Lib.hid (HF9.out fun q => by have := (HC4.out.1 q.2.2.2.1).2; cases this)
              go_wp2_with fail
              go_ret
              exact ⟨by rw [HF.out]; rfl, BL3.out⟩
            | true =>
              have HC4' := Lib.hid (HC4.out.2 ⟨c4, rfl⟩)
              have HF := Lib.hid (show FS = if kb = true then 9 else 0 from by
                cases kb with
                | true => exact HF9.out fun q => by have := HC5.out.1 q.2.2.2.2; cases this
                | false => exact HF0.out ⟨HC1'.out, HC2'.out, HC3'.out, HC4'.out, HC5.out.2 rfl⟩)
              have HNU := Lib.hid (fun w' hb => HNU.out w' hb (by omega))
              have HSK := Lib.hid (fun Al nl cl w' hb hr (hl : (ns ++ [tp]).length = nl) => HSK2.out m1 Al nl cl w' hb hr hl)
              have HNL2 := Lib.hid (show ns.length ≤ 24 by rw [HNL.out]; exact m1)
              clear m1 c3 c4 d5 d6
              go_upto_region 9 with fail
              obtain ⟨W5, hW5⟩ : ∃ x, x = W3 := ⟨_, rfl⟩
              subst W3
              obtain ⟨W2', hW2'⟩ : ∃ x, x = W2 := ⟨_, rfl⟩
              subst W2
              obtain ⟨W2, hW2⟩ : ∃ x, x = W5 := ⟨_, rfl⟩
              subst W5
              have F2 := F3
              have B2 := HB3
              refine wp_region_inv (fun lis_ act_ wld_ => ∃ (db0 db1 db2 db3 db4 db5 db6 db7 db8 db9 : Bool) (dx0 dx1 dx2 dx3 dx4 dx5 dx6 dx7 dx8 dx9 : Value), lis_ = #[db0, db1, db2, db3, db4, db5, db6, db7, db8, db9] ∧ act_ = { tmps := #[Value.agg #[Value.int IntKind.i64 nx, Value.slice Aa na ca, Value.int IntKind.i64 tp, Value.slice Ah nh ch, Value.slice Ak nk ck], Value.pointer (some { block := k0, off := 0 }), Value.int IntKind.i64 0, Value.bool false, Value.pointer (some { block := k0, off := 0 }), Value.int IntKind.i64 nx, Value.bool false, Value.bool false, Value.pointer (some { block := k0, off := 0 }), Value.int IntKind.i64 nx, Value.bool false, Value.bool false, Value.bool false, Value.pointer (some { block := k0, off := 2 }), Value.int IntKind.i64 tp, Value.bool false, Value.bool false, Value.bool false, Value.pointer (some { block := k0, off := 2 }), Value.int IntKind.i64 tp, Value.pointer (some { block := k0, off := 0 }), Value.int IntKind.i64 nx, Value.bool false, Value.bool false, Value.bool false, u25, u26, u27, u28, u29, u30, u31, u32, u33, u34, u35, u36, u37, u38, u39, u40, u41, u42, u43, Value.bool false, Value.pointer (some { block := k0, off := 3 }), Value.slice Ah nh ch, Value.int IntKind.i64 ↑nh, Value.bool false, Value.bool false, Value.pointer (some { block := k0, off := 3 }), Value.slice Ah nh ch, Value.int IntKind.i64 0, Value.bool false, Value.bool false, Value.bool false, Value.pointer (some { block := k0, off := 4 }), Value.slice Ak nk ck, Value.int IntKind.i64 ↑nk, Value.bool false, Value.bool false, Value.pointer (some { block := k0, off := 4 }), Value.slice Ak nk ck, Value.pointer (some { block := k0, off := 0 }), Value.int IntKind.i64 nx, Value.bool true, Value.bool false, Value.bool false, dx9, dx0, dx1, dx2, dx3, dx4, dx5, dx6, dx7, dx8], defers := [] } ∧ SpCk9 W2 k0 nx tp Aa Ah Ak na ca nh ch nk ck ns kb (.agg #[.int .i64 nx, .slice Aa na ca, .int .i64 tp, .slice Ah nh ch, .slice Ak nk ck]) (.pointer (some ⟨k0, 1, none⟩)) (.slice Aa na ca) (.pointer (some ⟨k0, 2, none⟩)) (.int .i64 tp) (.bool kb) (.bool kb) db0 db1 db2 db3 db4 db5 db6 db7 db8 db9 dx0 dx1 dx2 dx3 dx4 dx5 dx6 dx7 dx8 dx9 wld_) (by kernel_rfl) ?h0 ?hfin ?hI
              case h0 => exact ⟨_, _, _, _, _, _, _, _, _, _, _, _, _, _, _, _, _, _, _, _, rfl, rfl, ⟨(Below.refl _ _).drew, (fun h => by cases h), (fun h => by cases h), (fun h => by cases h), (fun h => by cases h), (fun h => by cases h), (fun h => by cases h), (fun h => by cases h), (fun h => by cases h), (fun h => by cases h), (fun h => by cases h), (fun h => by cases h), (fun h => by cases h), (fun h => by cases h), (fun h => by cases h), (fun h => by cases h), (fun h => by cases h), (fun h => by cases h)⟩⟩
              case hI =>
                rintro listed a w ⟨db0, db1, db2, db3, db4, db5, db6, db7, db8, db9, dx0, dx1, dx2, dx3, dx4, dx5, dx6, dx7, dx8, dx9, rfl, rfl, H⟩ i hi
                obtain ⟨hun, oj, hoj, hall⟩ := mem_ready.1 hi
                clear hi
                rcases i with _ | _ | _ | _ | _ | _ | _ | _ | _ | _ | i
                · have ho := hoj
                  simp only [List.getElem?_toArray, List.getElem?_cons_zero, Option.some.injEq] at hoj
                  subst hoj
                  obtain rfl : db0 = false := hun
                  clear hall
                  obtain rfl : db8 = false := Bool.eq_false_iff.2 fun h => Bool.false_ne_true (H.d8 h).1
                  obtain rfl : db9 = false := Bool.eq_false_iff.2 fun h => Bool.false_ne_true (H.d9 h)
                  have hbe := H.be
                  obtain ⟨q0, q1, q2, q3, q4⟩ := bk5P ((hbe.block _ (lt_of_block F2.out)).trans F2.out)
                  refine wpOp_step ho (fun K' hK => ?_)
                  have HK := Lib.hid hK
                  clear hK ho
                  go_simp
                  exact HK.out _ _ ⟨_, _, _, _, _, _, _, _, _, _, _, _, _, _, _, _, _, _, _, _, rfl, rfl, ⟨hbe, H.d2, H.d3, H.d5, H.d6, H.d7, (fun h => by cases h), H.d9, (fun _ => rfl), H.h1, H.h2, H.h3, H.h4, H.h5, H.h6, H.h7, H.h8, H.h9⟩⟩
                · have ho := hoj
                  simp only [List.getElem?_toArray, List.getElem?_cons_succ, List.getElem?_cons_zero, Option.some.injEq] at hoj
                  subst hoj
                  obtain rfl : db1 = false := hun
                  clear hall
                  obtain rfl : db2 = false := Bool.eq_false_iff.2 fun h => Bool.false_ne_true (H.d2 h)
                  obtain rfl : db3 = false := Bool.eq_false_iff.2 fun h => Bool.false_ne_true (H.d3 h)
                  obtain rfl : db7 = false := Bool.eq_false_iff.2 fun h => Bool.false_ne_true (H.d7 h).1
                  obtain rfl : db8 = false := Bool.eq_false_iff.2 fun h => Bool.false_ne_true (H.d8 h).2
                  obtain rfl : db9 = false := Bool.eq_false_iff.2 fun h => Bool.false_ne_true (H.d9 h)
                  have hbe := H.be
                  refine wpOp_step ho (fun K' hK => ?_)
                  have HK := Lib.hid hK
                  clear hK ho
                  go_simp
                  exact HK.out _ _ ⟨_, _, _, _, _, _, _, _, _, _, _, _, _, _, _, _, _, _, _, _, rfl, rfl, ⟨hbe, (fun h => by cases h), H.d3, H.d5, H.d6, H.d7, H.d8, H.d9, H.h0, (fun _ => rfl), H.h2, (fun h => by cases h), H.h4, H.h5, H.h6, (fun h => by cases h), H.h8, H.h9⟩⟩
                · have ho := hoj
                  simp only [List.getElem?_toArray, List.getElem?_cons_succ, List.getElem?_cons_zero, Option.some.injEq] at hoj
                  subst hoj
                  obtain rfl : db2 = false := hun
                  obtain rfl : db1 = true := hall ⟨1, .data⟩ (by simp) (by kernel_rfl)
                  clear hall
                  obtain rfl : db3 = false := Bool.eq_false_iff.2 fun h => Bool.false_ne_true (H.d3 h)
                  obtain rfl : db7 = false := Bool.eq_false_iff.2 fun h => Bool.false_ne_true (H.d7 h).1
                  obtain rfl : db8 = false := Bool.eq_false_iff.2 fun h => Bool.false_ne_true (H.d8 h).2
                  obtain rfl : db9 = false := Bool.eq_false_iff.2 fun h => Bool.false_ne_true (H.d9 h)
                  have hbe := H.be
                  obtain rfl := H.h1 rfl
                  obtain ⟨q0, q1, q2, q3, q4⟩ := bk5P ((hbe.block _ (lt_of_block F2.out)).trans F2.out)
                  refine wpOp_step ho (fun K' hK => ?_)
                  have HK := Lib.hid hK
                  clear hK ho
                  go_simp
                  exact HK.out _ _ ⟨_, _, _, _, _, _, _, _, _, _, _, _, _, _, _, _, _, _, _, _, rfl, rfl, ⟨hbe, (fun _ => rfl), (fun h => by cases h), H.d5, H.d6, H.d7, H.d8, H.d9, H.h0, H.h1, (fun _ => rfl), (fun h => by cases h), H.h4, H.h5, H.h6, (fun h => by cases h), H.h8, H.h9⟩⟩
                · have ho := hoj
                  simp only [List.getElem?_toArray, List.getElem?_cons_succ, List.getElem?_cons_zero, Option.some.injEq] at hoj
                  subst hoj
                  obtain rfl : db3 = false := hun
                  obtain rfl : db2 = true := hall ⟨2, .data⟩ (by simp) (by kernel_rfl)
                  obtain rfl : db1 = true := (H.d2 rfl)
                  clear hall
                  obtain rfl : db7 = false := Bool.eq_false_iff.2 fun h => Bool.false_ne_true (H.d7 h).1
                  obtain rfl : db8 = false := Bool.eq_false_iff.2 fun h => Bool.false_ne_true (H.d8 h).2
                  obtain rfl : db9 = false := Bool.eq_false_iff.2 fun h => Bool.false_ne_true (H.d9 h)
                  have hbe := H.be
                  obtain rfl := H.h1 rfl
                  obtain rfl := H.h2 rfl
                  refine wpOp_step ho (fun K' hK => ?_)
                  have HK := Lib.hid hK
                  clear hK ho
                  go_wp2_with fail
                  refine (HNU.out _ (B2.out.trans (hbe.mono B2.out.size))).mono ?_
                  rintro e w1 ⟨u1, rfl, o1, db1⟩
                  have BC := Lib.hid db1
                  have OC := Lib.hid (OwnE.low o1 hbe.size)
                  clear o1 db1
                  go_wp2_with fail
                  exact HK.out _ _ ⟨_, _, _, _, _, _, _, _, _, _, _, _, _, _, _, _, _, _, _, _, rfl, rfl, ⟨hbe.trans (BC.out.mono hbe.size), H.d2, (fun _ => rfl), H.d5, H.d6, (fun h => by cases h), H.d8, H.d9, H.h0, H.h1, H.h2, (fun _ _ => OC.out), H.h4, H.h5, (fun e f => let ⟨k, e1, e2⟩ := (H.h6 e f); ⟨k, e1, e2.on BC.out⟩), (fun h => by cases h), H.h8, H.h9⟩⟩
                · have ho := hoj
                  simp only [List.getElem?_toArray, List.getElem?_cons_succ, List.getElem?_cons_zero, Option.some.injEq] at hoj
                  subst hoj
                  obtain rfl : db4 = false := hun
                  clear hall
                  obtain rfl : db5 = false := Bool.eq_false_iff.2 fun h => Bool.false_ne_true (H.d5 h)
                  obtain rfl : db6 = false := Bool.eq_false_iff.2 fun h => Bool.false_ne_true (H.d6 h)
                  obtain rfl : db7 = false := Bool.eq_false_iff.2 fun h => Bool.false_ne_true (H.d7 h).2
                  obtain rfl : db8 = false := Bool.eq_false_iff.2 fun h => Bool.false_ne_true (H.d8 h).2
                  obtain rfl : db9 = false := Bool.eq_false_iff.2 fun h => Bool.false_ne_true (H.d9 h)
                  have hbe := H.be
                  refine wpOp_step ho (fun K' hK => ?_)
                  have HK := Lib.hid hK
                  clear hK ho
                  go_simp
                  exact HK.out _ _ ⟨_, _, _, _, _, _, _, _, _, _, _, _, _, _, _, _, _, _, _, _, rfl, rfl, ⟨hbe, H.d2, H.d3, (fun h => by cases h), H.d6, H.d7, H.d8, H.d9, H.h0, H.h1, H.h2, H.h3, (fun _ => rfl), H.h5, (fun h => by cases h), (fun h => by cases h), H.h8, H.h9⟩⟩
                · have ho := hoj
                  simp only [List.getElem?_toArray, List.getElem?_cons_succ, List.getElem?_cons_zero, Option.some.injEq] at hoj
                  subst hoj
                  obtain rfl : db5 = false := hun
                  obtain rfl : db4 = true := hall ⟨4, .data⟩ (by simp) (by kernel_rfl)
                  clear hall
                  obtain rfl : db6 = false := Bool.eq_false_iff.2 fun h => Bool.false_ne_true (H.d6 h)
                  obtain rfl : db7 = false := Bool.eq_false_iff.2 fun h => Bool.false_ne_true (H.d7 h).2
                  obtain rfl : db8 = false := Bool.eq_false_iff.2 fun h => Bool.false_ne_true (H.d8 h).2
                  obtain rfl : db9 = false := Bool.eq_false_iff.2 fun h => Bool.false_ne_true (H.d9 h)
                  have hbe := H.be
                  obtain rfl := H.h4 rfl
                  obtain ⟨q0, q1, q2, q3, q4⟩ := bk5P ((hbe.block _ (lt_of_block F2.out)).trans F2.out)
                  refine wpOp_step ho (fun K' hK => ?_)
                  have HK := Lib.hid hK
                  clear hK ho
                  go_simp
                  exact HK.out _ _ ⟨_, _, _, _, _, _, _, _, _, _, _, _, _, _, _, _, _, _, _, _, rfl, rfl, ⟨hbe, H.d2, H.d3, (fun _ => rfl), (fun h => by cases h), H.d7, H.d8, H.d9, H.h0, H.h1, H.h2, H.h3, H.h4, (fun _ => rfl), (fun h => by cases h), (fun h => by cases h), H.h8, H.h9⟩⟩
                · have ho := hoj
                  simp only [List.getElem?_toArray, List.getElem?_cons_succ, List.getElem?_cons_zero, Option.some.injEq] at hoj
                  subst hoj
                  obtain rfl : db6 = false := hun
                  obtain rfl : db5 = true := hall ⟨5, .data⟩ (by simp) (by kernel_rfl)
                  obtain rfl : db4 = true := (H.d5 rfl)
                  clear hall
                  obtain rfl : db7 = false := Bool.eq_false_iff.2 fun h => Bool.false_ne_true (H.d7 h).2
                  obtain rfl : db8 = false := Bool.eq_false_iff.2 fun h => Bool.false_ne_true (H.d8 h).2
                  obtain rfl : db9 = false := Bool.eq_false_iff.2 fun h => Bool.false_ne_true (H.d9 h)
                  have hbe := H.be
                  obtain rfl := H.h4 rfl
                  obtain rfl := H.h5 rfl
                  have BA := Lib.hid ((Below.refl w.heap.size w).alloc (Nat.le_refl _) (.cells #[.int .i64 tp] 3))
                  have NA := Lib.hid ((RowE.one (E := intE) w tp #[.int .i64 tp] 3 w.heap.size rfl rfl).more (show w.heap.size + 1 ≤ (w.alloc (.cells #[.int .i64 tp] 3)).heap.size by simp))
                  refine wpOp_step ho (fun K' hK => ?_)
                  have HK := Lib.hid hK
                  clear hK ho
                  go_simp
                  exact HK.out _ _ ⟨_, _, _, _, _, _, _, _, _, _, _, _, _, _, _, _, _, _, _, _, rfl, rfl, ⟨hbe.trans (BA.out.mono hbe.size), H.d2, H.d3, H.d5, (fun _ => rfl), (fun h => by cases h), H.d8, H.d9, H.h0, H.h1, H.h2, (fun e f => OwnE.later (H.h3 e f) BA.out), H.h4, H.h5, (fun _ _ => ⟨_, rfl, NA.out⟩), (fun h => by cases h), H.h8, H.h9⟩⟩
                · have ho := hoj
                  simp only [List.getElem?_toArray, List.getElem?_cons_succ, List.getElem?_cons_zero, Option.some.injEq] at hoj
                  subst hoj
                  obtain rfl : db7 = false := hun
                  obtain rfl : db3 = true := hall ⟨3, .data⟩ (by simp) (by kernel_rfl)
                  obtain rfl : db6 = true := hall ⟨6, .data⟩ (by simp) (by kernel_rfl)
                  obtain rfl : db2 = true := (H.d3 rfl)
                  obtain rfl : db5 = true := (H.d6 rfl)
                  obtain rfl : db1 = true := (H.d2 rfl)
                  obtain rfl : db4 = true := (H.d5 rfl)
                  clear hall
                  obtain rfl : db8 = false := Bool.eq_false_iff.2 fun h => Bool.false_ne_true (H.d8 h).2
                  obtain rfl : db9 = false := Bool.eq_false_iff.2 fun h => Bool.false_ne_true (H.d9 h)
                  have hbe := H.be
                  obtain rfl := H.h1 rfl
                  obtain rfl := H.h2 rfl
                  have P3 := H.h3 rfl rfl
                  obtain rfl := H.h4 rfl
                  obtain rfl := H.h5 rfl
                  have P6 := H.h6 rfl rfl
                  obtain ⟨k3, rfl, hk3⟩ := P6
                  have K3 := Lib.hid hk3
                  have OA := Lib.hid P3
                  have HBE := Lib.hid hbe
                  clear hk3
                  refine wpOp_step ho (fun K' hK => ?_)
                  have HK := Lib.hid hK
                  clear hK ho
                  refine step_appE w rfl (.tmp 72) (.tmp 75) _ rfl W2.heap.size 3 i0 _ 8 Try.underlying46 HI.out HZ.out HZ1.out HZ2.out rfl (by decide) _ ns rfl OA.out w.heap.size (some ⟨k3, 0, none⟩) 1 1 [tp] rfl K3.out rfl (by have := HNL2.out; omega) HBE.out.size ?_
                  intro v9 u9 own9 g9
                  have O9 := Lib.hid own9
                  have B9 := Lib.hid (HBE.out.grown g9 HBE.out.size (fun q hq => (OA.out.lt q hq).1))
                  clear own9 g9
                  exact HK.out _ _ ⟨_, _, _, _, _, _, _, _, _, _, _, _, _, _, _, _, _, _, _, _, rfl, rfl, ⟨B9.out, H.d2, H.d3, H.d5, H.d6, (fun _ => ⟨rfl, rfl⟩), (fun h => by cases h), H.d9, H.h0, H.h1, H.h2, (fun _ h => by cases h), H.h4, H.h5, (fun _ h => by cases h), (fun _ => O9.out), H.h8, H.h9⟩⟩
                · have ho := hoj
                  simp only [List.getElem?_toArray, List.getElem?_cons_succ, List.getElem?_cons_zero, Option.some.injEq] at hoj
                  subst hoj
                  obtain rfl : db8 = false := hun
                  obtain rfl : db0 = true := hall ⟨0, .data⟩ (by simp) (by kernel_rfl)
                  obtain rfl : db7 = true := hall ⟨7, .data⟩ (by simp) (by kernel_rfl)
                  obtain rfl : db3 = true := (H.d7 rfl).1
                  obtain rfl : db6 = true := (H.d7 rfl).2
                  obtain rfl : db2 = true := (H.d3 rfl)
                  obtain rfl : db5 = true := (H.d6 rfl)
                  obtain rfl : db1 = true := (H.d2 rfl)
                  obtain rfl : db4 = true := (H.d5 rfl)
                  clear hall
                  obtain rfl : db9 = false := Bool.eq_false_iff.2 fun h => Bool.false_ne_true (H.d9 h)
                  have hbe := H.be
                  obtain rfl := H.h0 rfl
                  obtain rfl := H.h1 rfl
                  obtain rfl := H.h2 rfl
                  obtain rfl := H.h4 rfl
                  obtain rfl := H.h5 rfl
                  have P7 := H.h7 rfl
                  obtain ⟨Au, cu, hu0, hu1, hu2, hur⟩ := OwnE.slice P7
                  obtain ⟨nu, hnu⟩ : ∃ n, (ns ++ [tp]).length = n := ⟨_, rfl⟩
                  rw [hnu] at hu0
                  have HNU2 := Lib.hid hnu
                  have HUR := Lib.hid hur
                  have B7 := Lib.hid hbe
                  subst hu0
                  clear hu1 hu2 hur hnu
                  refine wpOp_step ho (fun K' hK => ?_)
                  have HK := Lib.hid hK
                  clear hK ho
                  go_wp2_with fail
                  refine (HSK.out _ _ _ _ (B2.out.trans (B7.out.mono B2.out.size)) HUR.out HNU2.out).mono ?_
                  rintro e w1 ⟨rfl, db1⟩
                  have BC := Lib.hid db1
                  clear db1
                  go_wp2_with fail
                  exact HK.out _ _ ⟨_, _, _, _, _, _, _, _, _, _, _, _, _, _, _, _, _, _, _, _, rfl, rfl, ⟨hbe.trans (BC.out.mono hbe.size), H.d2, H.d3, H.d5, H.d6, H.d7, (fun _ => ⟨rfl, rfl⟩), (fun h => by cases h), H.h0, H.h1, H.h2, (fun _ h => by cases h), H.h4, H.h5, (fun _ h => by cases h), (fun e => OwnE.later ((H.h7 e)) BC.out), (fun _ => rfl), H.h9⟩⟩
                · have ho := hoj
                  simp only [List.getElem?_toArray, List.getElem?_cons_succ, List.getElem?_cons_zero, Option.some.injEq] at hoj
                  subst hoj
                  obtain rfl : db9 = false := hun
                  obtain rfl : db8 = true := hall ⟨8, .data⟩ (by simp) (by kernel_rfl)
                  obtain rfl : db0 = true := (H.d8 rfl).1
                  obtain rfl : db7 = true := (H.d8 rfl).2
                  obtain rfl : db3 = true := (H.d7 rfl).1
                  obtain rfl : db6 = true := (H.d7 rfl).2
                  obtain rfl : db2 = true := (H.d3 rfl)
                  obtain rfl : db5 = true := (H.d6 rfl)
                  obtain rfl : db1 = true := (H.d2 rfl)
                  obtain rfl : db4 = true := (H.d5 rfl)
                  clear hall
                  have hbe := H.be
                  obtain rfl := H.h0 rfl
                  obtain rfl := H.h1 rfl
                  obtain rfl := H.h2 rfl
                  obtain rfl := H.h4 rfl
                  obtain rfl := H.h5 rfl
                  have P7 := H.h7 rfl
                  obtain rfl := H.h8 rfl
                  refine wpOp_step ho (fun K' hK => ?_)
                  have HK := Lib.hid hK
                  clear hK ho
                  go_simp
                  exact HK.out _ _ ⟨_, _, _, _, _, _, _, _, _, _, _, _, _, _, _, _, _, _, _, _, rfl, rfl, ⟨hbe, H.d2, H.d3, H.d5, H.d6, H.d7, H.d8, (fun _ => rfl), H.h0, H.h1, H.h2, (fun _ h => by cases h), H.h4, H.h5, (fun _ h => by cases h), H.h7, H.h8, (fun _ => rfl)⟩⟩
                · have ho := hoj
                  simp at ho
              case hfin =>
                rintro listed a w ⟨db0, db1, db2, db3, db4, db5, db6, db7, db8, db9, dx0, dx1, dx2, dx3, dx4, dx5, dx6, dx7, dx8, dx9, rfl, rfl, H⟩ hr
                have hb : db9 = true := by
                  clear H
                  revert db0 db1 db2 db3 db4 db5 db6 db7 db8 db9
                  decide +kernel
                subst hb
                clear hr
                obtain rfl : db8 = true := (H.d9 rfl)
                obtain rfl : db0 = true := (H.d8 rfl).1
                obtain rfl : db7 = true := (H.d8 rfl).2
                obtain rfl : db3 = true := (H.d7 rfl).1
                obtain rfl : db6 = true := (H.d7 rfl).2
                obtain rfl : db2 = true := (H.d3 rfl)
                obtain rfl : db5 = true := (H.d6 rfl)
                obtain rfl : db1 = true := (H.d2 rfl)
                obtain rfl : db4 = true := (H.d5 rfl)
                have hb := H.be
                have e9 := H.h9 rfl
                have BX := Lib.hid (B2.out.trans (hb.mono B2.out.size))
                clear H hb
                subst e9
                cases kb
                · go_wp2_with fail
                  go_ret
                  exact ⟨by rw [HF.out]; rfl, B0.out.trans (BX.out.mono B0.out.size)⟩
                · go_wp2_with fail
                  go_ret
                  exact ⟨by rw [HF.out]; rfl, B0.out.trans (BX.out.mono B0.out.size)⟩
          · have d6 : decide ((6 : Int) < (nk : Int)) = true := by simp; omega
            have HF := Lib.hid (HF9.out fun q => by have := (HC4.out.1 q.2.2.2.1).1; omega)
            go_wp2_with fail
            go_ret
            exact ⟨by rw [HF.out]; rfl, BL3.out⟩
        · have HF := Lib.hid (HF9.out fun q => by have := (HC3.out.1 q.2.2.1).2; omega)
          subst hv3
          go_wp2_with fail
          go_ret
          exact ⟨by rw [HF.out]; rfl, BL3.out⟩
      · have d5 : decide ((6 : Int) < (nh : Int)) = true := by simp; omega
        have HF := Lib.hid (HF9.out fun q => by have := (HC3.out.1 q.2.2.1).1; omega)
        go_wp2_with fail
        go_ret
        exact ⟨by rw [HF.out]; rfl, BLW.out⟩
  · have HF := Lib.hid (HF9.out fun q => c1 (HC1.out.1 q.1))
    by_cases a1 : nx < 0
    · have d1 : decide (nx < 0) = true := by simp [a1]
      clear c1
      go_wp2_with fail
      go_ret
      exact ⟨by rw [HF.out]; rfl, B0.out⟩
    have d1 : decide (nx < 0) = false := by simp; omega
    by_cases a2 : 4611686018427387903 < nx
    · have d2 : decide (4611686018427387903 < nx) = true := by simp [a2]
      clear c1
      go_wp2_with fail
      go_ret
      exact ⟨by rw [HF.out]; rfl, B0.out⟩
    have d2 : decide (4611686018427387903 < nx) = false := by simp; omega
    by_cases a3 : tp < -1
    · have d3 : decide (tp < -1) = true := by simp [a3]
      clear c1
      go_wp2_with fail
      go_ret
      exact ⟨by rw [HF.out]; rfl, B0.out⟩
    have d3 : decide (tp < -1) = false := by simp; omega
    have d4 : decide (nx ≤ tp) = true := by simp; omega
    clear c1
    go_wp2_with fail
    go_ret
    exact ⟨by rw [HF.out]; rfl, B0.out⟩
end Go.Proofs.Ytnccibaifffhhaa
