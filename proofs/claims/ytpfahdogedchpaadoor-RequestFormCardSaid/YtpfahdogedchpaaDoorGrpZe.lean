/- Several texts in one. -/
import Derived.Test.YtpfahdogedchpaaDoorRqOfM
import Derived.Test.YtpfahdogedchpaaDoorGrpB
import Derived.Test.YtpfahdogedchpaaDoorGrpZd
import Derived.Test.YtpfahdogedchpaaDoorGrpT
/- The statements' own requestOf. -/
namespace Go.Proofs.YtpfahdogedchpaaDoor
set_option linter.unusedVariables false
open Go.RowKit P
/-- requestOf's two boxes: the answer's, and its own at k7; the blocks from lo to k7 are as they were -/
structure RqO (W : World) (lo : Nat) (wt : World) (k7 : Nat) (oX : Obj) (w : World) : Prop where
  x : w.heap[k7]? = some oX
  z : w.heap[W.heap.size]? = some (.cells #[.slice none 0 0, .slice none 0 0] 27 (0, 0))
  b : Below W.heap.size W w
  k : Keeps lo wt w
  e : wt.heap.size = k7
theorem RqO.later {W : World} {lo : Nat} {wt : World} {k7 : Nat} {oX : Obj} {w w' : World} (h : RqO W lo wt k7 oX w) (b : Below w.heap.size w w') : RqO W lo wt k7 oX w' :=
  ⟨(b.block _ (lt_of_block h.x)).trans h.x, (b.block _ (lt_of_block h.z)).trans h.z, h.b.trans (b.mono h.b.size), h.k.trans (Keeps.below b), h.e⟩
theorem RqO.gr {W : World} {lo : Nat} {wt : World} {k7 : Nat} {oX : Obj} {w w' : World} {r : Option Nat} (h : RqO W lo wt k7 oX w) (g : w.grownBy w' r) (hr : ∀ k, r = some k → W.heap.size + 1 ≤ k ∧ (k < lo ∨ k7 < k)) (hlo : lo ≤ k7) : RqO W lo wt k7 oX w' :=
  ⟨(g.block _ (lt_of_block h.x) (fun e => by have := hr _ e.symm; omega)).trans h.x, (g.block _ (lt_of_block h.z) (fun e => by have := hr _ e.symm; omega)).trans h.z, h.b.grown g h.b.size (fun k e => by have := hr k e; omega), ⟨Nat.le_trans h.k.size g.size, fun k h1 h2 => (g.block k (Nat.lt_of_lt_of_le h2 h.k.size) (fun e => by have := hr _ e.symm; have := h.e; omega)).trans (h.k.block k h1 h2)⟩, h.e⟩
theorem RqO.set {W : World} {lo : Nat} {wt : World} {k7 : Nat} {oX oX' : Obj} {w w' : World} (h : RqO W lo wt k7 oX w) (hx : w'.heap[k7]? = some oX') (g : w.grownBy w' (some k7)) (hk : W.heap.size < k7) : RqO W lo wt k7 oX' w' :=
  ⟨hx, (g.block _ (lt_of_block h.z) (by simp; omega)).trans h.z, h.b.grown g h.b.size (fun k e => by cases e; omega), ⟨Nat.le_trans h.k.size g.size, fun k h1 h2 => (g.block k (Nat.lt_of_lt_of_le h2 h.k.size) (fun e => by cases e; have := h.e; omega)).trans (h.k.block k h1 h2)⟩, h.e⟩
theorem strOfNums_cat (x y : List Int) : strOfNums (x ++ y) = strOfNums x ++ strOfNums y := by
  apply ByteArray.ext
  simp [strOfNums]
theorem strOfNums_sz (x : List Int) : (strOfNums x).size = x.length := by simp [strOfNums, ByteArray.size]
theorem own_two (w : World) (base k : Nat) (hk : w.heap.size = k) (f1 f2 : Fld) (a b c d : Value) (h1 : FdE.f f1 = [a, b]) (h2 : FdE.f f2 = [c, d]) (hb : base ≤ k) : OwnE FdE (w.alloc (.cells #[a, b, c, d] 54)) base 54 (.slice (some ⟨k, 0, none⟩) 2 2) [f1, f2] := by
  subst hk
  exact ⟨by simp [Lay.cat, h1, h2]; rfl, .inr ⟨w.heap.size, 2, #[a, b, c, d], rfl, hb, heap_alloc_new w (.cells #[a, b, c, d] 54), Nat.le_refl _, by unfold maxLen; omega, rfl, by simp [Lay.cat, h1, h2]; rfl⟩⟩
theorem some5 (A : Option Addr) (len cap : Nat) (w : World) (hl : len ≤ cap) (hc : cap ≤ maxLen) :
    Calls Tryd.prog 31 #[.slice A len cap, .int .i64 5] w fun e w' => e = .returned (.slice A (min len 5) cap) ∧ w = w' := by
  unfold maxLen at hc
  by_cases h : 5 < len
  · have e := Lib.hid (show min len 5 = 5 by omega)
    go_enter Tryd.func31, Tryd.ntmps31
    go_wp2
    go_ret
    exact ⟨by rw [e.out]; rfl, rfl⟩
  · have e := Lib.hid (show min len 5 = len by omega)
    go_enter Tryd.func31, Tryd.ntmps31
    go_wp2
    go_ret
    exact ⟨by rw [e.out]; rfl, rfl⟩
structure RqR (w0 : World) (W wt : World) (lo k7 m ca nb cb : Nat) (A1 Ab : Option Addr) (kd ra rb : Int) (tx S1 S2 : ByteArray) (f : Fld) (out : List Fld) (V0 V1 V2 V3 V6 : Value) (tb0 tb1 tb2 tb3 tb4 tb5 tb6 tb7 : Bool) (tx0 tx1 tx2 tx3 tx4 tx5 tx6 tx7 : Value) (w : World) : Prop where
  be : tb5 = false → Below w0.heap.size w0 w
  d1 : tb1 = true → tb0 = true
  d3 : tb3 = true → tb2 = true
  d4 : tb4 = true → tb3 = true
  d5 : tb5 = true → tb1 = true ∧ tb3 = true ∧ tb4 = true
  d6 : tb6 = true → tb0 = true ∧ tb1 = true ∧ tb2 = true ∧ tb3 = true ∧ tb4 = true ∧ tb5 = true
  d7 : tb7 = true → tb0 = true ∧ tb1 = true ∧ tb2 = true ∧ tb3 = true ∧ tb4 = true ∧ tb5 = true ∧ tb6 = true
  tk : tb7 = false → RqO W lo wt k7 (.cells #[.slice A1 m ca, .slice Ab nb cb] 27 (0, 0)) w
  oa : tb5 = false → OwnE FdE w (W.heap.size + 1) 54 (.slice A1 m ca) out
  h0 : tb0 = true → tx0 = V0
  h1 : tb1 = true → tx1 = V1
  h2 : tb2 = true → tx2 = V2
  h3 : tb3 = true → tx3 = V3
  h4 : tb4 = true → tb5 = false → ∃ k, tx4 = .slice (some ⟨k, 0, none⟩) 1 1 ∧ RowE FdE w w.heap.size (some ⟨k, 0, none⟩) [f]
  h5 : tb5 = true → tb7 = false → ∃ A2 c2, tx5 = .slice A2 (m + 1) c2 ∧ OwnE FdE w (W.heap.size + 1) 54 (.slice A2 (m + 1) c2) (out ++ [f]) ∧ (∀ g, (Value.slice A2 (m + 1) c2).ownBlock = some g → g < lo ∨ k7 < g)
  h6 : tb6 = true → tx6 = V6
  h7 : tb7 = true → ∃ A2 c2, OwnE FdE w (W.heap.size + 1) 54 (.slice A2 (m + 1) c2) (out ++ [f]) ∧ (∀ g, (Value.slice A2 (m + 1) c2).ownBlock = some g → g < lo ∨ k7 < g) ∧ RqO W lo wt k7 (.cells #[.slice A2 (m + 1) c2, .slice Ab nb cb] 27 (0, 0)) w
set_option maxRecDepth 100000 in
set_option maxHeartbeats 4000000 in
theorem requestOf_any (A : Option Addr) (n c : Nat) (rs : List RawT) (s : ByteArray) (k : Int) (W : World) (hrow : RawRow W W.heap.size A rs) (hn : rs.length = n) (hnc : n ≤ c) (hc : c ≤ maxLen) (hbt : ∀ i, i < n → (rs.getD i raw0).text.size ≤ maxLen) (hs : s.size ≤ maxLen) :
    Calls Tryd.prog 12 #[.slice A n c, .string s, .int .i64 k] W fun e w' => Below W.heap.size W w' ∧ ∃ Af cf zs Ab cb, e = .returned (.agg #[.slice Af (rqFs s rs).length cf, .slice Ab zs.length cb]) ∧ FSl w' w'.heap.size (.slice Af (rqFs s rs).length cf) (rqFs s rs) ∧ (zs.length : Int) = k % 201 ∧ BSl w' w'.heap.size (.slice Ab zs.length cb) zs := by
  have HR := Lib.hid hrow
  have HN := Lib.hid hn
  have HBT := Lib.hid hbt
  have HS := Lib.hid (fun w => some5 A n c w hnc hc)
  have HCT := Lib.hid (fun w => cut_any s 9 (by decide) hs w)
  have HTX := Lib.hid (fun w => text_any s k 200 (by decide) hs w)
  obtain ⟨N, hN⟩ : ∃ N, min n 5 = N := ⟨_, rfl⟩
  rw [hN] at HS
  have hN5 : N ≤ 5 := by omega
  have hNn : N ≤ n := by omega
  have hFL : ((rs.take 5).map fldOf).length = N := by rw [List.length_map, List.length_take]; omega
  have HFL := Lib.hid hFL
  have HFA := Lib.hid (fun i (h : i < N) => show ((rs.take 5).map fldOf).take (i + 1) = ((rs.take 5).map fldOf).take i ++ [fldOf (rs.getD i raw0)] by
    have h1 : i < ((rs.take 5).map fldOf).length := by omega
    have h2 : i < rs.length := by omega
    rw [List.take_succ_eq_append_getElem h1, List.getElem_map, List.getElem_take, List.getD_eq_getElem?_getD, List.getElem?_eq_getElem h2]
    rfl)
  obtain ⟨f2, hf2⟩ : ∃ f : Fld, (⟨nmP, 47 :: (numsOf s).take 9⟩ : Fld) = f := ⟨_, rfl⟩
  have hRF : rqFs s rs = [⟨nmM, [71, 69, 84]⟩, f2] ++ (rs.take 5).map fldOf := by rw [← hf2]; rfl
  obtain ⟨SC, hSC⟩ : ∃ S, strOfNums ((numsOf s).take 9) = S := ⟨_, rfl⟩
  rw [hSC] at HCT
  obtain ⟨SP, hSP⟩ : ∃ S, (⟨#[47]⟩ : ByteArray) ++ SC = S := ⟨_, rfl⟩
  have hE2 : FdE.f f2 = [.string ⟨#[58, 112, 97, 116, 104]⟩, .string SP] := by
    rw [← hf2, ← hSP, ← hSC]
    show [Value.string (strOfNums nmP), Value.string (strOfNums (47 :: (numsOf s).take 9))] = _
    rw [show (47 : Int) :: (numsOf s).take 9 = [47] ++ (numsOf s).take 9 from rfl]
    rw [strOfNums_cat]
    rfl
  have HE2 := Lib.hid hE2
  have hsl : SC.size ≤ 9 := by
    rw [← hSC, strOfNums_sz, List.length_take]
    omega
  have HSP := Lib.hid hSP
  obtain ⟨i0, hi0, hz0, hz1, hz2⟩ := info_partsE infoFd
  have HI := Lib.hid hi0
  have HZ := Lib.hid hz0
  have HZ1 := Lib.hid hz1
  have HZ2 := Lib.hid hz2
  have BZ := Lib.hid ((Below.refl W.heap.size W).alloc (Nat.le_refl _) (.cells #[.slice none 0 0, .slice none 0 0] 27))
  have ZZ := Lib.hid (heap_alloc_new W (.cells #[.slice none 0 0, .slice none 0 0] 27))
  unfold maxLen at hc
  obtain ⟨L, hL⟩ : ∃ L, ([⟨nmM, [71, 69, 84]⟩, f2] ++ (rs.take 5).map fldOf : List Fld) = L := ⟨_, rfl⟩
  have hLn : L.length = N + 2 := by rw [← hL, List.length_append, hFL]; simp; omega
  rw [hRF, hL, hLn]
  have HL := Lib.hid hL
  have HLN := Lib.hid hLn
  clear hL hLn hrow hn hbt hi0 hz0 hz1 hz2 hN hFL hf2 hRF hSC hSP hE2 hs
  go_enter Tryd.func12, Tryd.ntmps12
  go_upto_region 1 with fail
  obtain ⟨w0, hw0⟩ : ∃ q, W.alloc (.cells #[.slice none 0 0, .slice none 0 0] 27) = q := ⟨_, rfl⟩
  have hsz0 : w0.heap.size = W.heap.size + 1 := by rw [← hw0]; simp
  rw [hw0] at BZ ZZ ⊢
  clear hw0
  have hsp := HSP.out
  go_wp2_with fail
  refine (HCT.out _).mono ?_
  rintro e w' ⟨rfl, rfl⟩
  have BL := Lib.hid ((Below.refl w0.heap.size w0).alloc (Nat.le_refl _) (.cells #[.string ⟨#[58, 109, 101, 116, 104, 111, 100]⟩, .string ⟨#[71, 69, 84]⟩, .string ⟨#[58, 112, 97, 116, 104]⟩, .string SP] 54))
  have OL := Lib.hid (own_two w0 (W.heap.size + 1) (W.heap.size + 1) hsz0 ⟨nmM, [71, 69, 84]⟩ f2 (.string ⟨#[58, 109, 101, 116, 104, 111, 100]⟩) (.string ⟨#[71, 69, 84]⟩) (.string ⟨#[58, 112, 97, 116, 104]⟩) (.string SP) rfl HE2.out (by omega))
  obtain ⟨wl, hwl⟩ : ∃ q, w0.alloc (.cells #[.string ⟨#[58, 109, 101, 116, 104, 111, 100]⟩, .string ⟨#[71, 69, 84]⟩, .string ⟨#[58, 112, 97, 116, 104]⟩, .string SP] 54) = q := ⟨_, rfl⟩
  have hszl : wl.heap.size = W.heap.size + 2 := by rw [← hwl]; simp [hsz0]
  rw [hwl] at BL OL
  go_wp2_with fail
  refine (HTX.out _).mono ?_
  rintro e wt ⟨⟨zs, Ab, cb, rfl, hzl, hzf⟩, hbe⟩
  have HZL := Lib.hid hzl
  have HZF := Lib.hid hzf
  have BT := Lib.hid hbe
  obtain ⟨nb, hnb⟩ : ∃ x, zs.length = x := ⟨_, rfl⟩
  rw [hnb] at HZL HZF ⊢
  have HNB := Lib.hid hnb
  have B2 := (Below.refl wt.heap.size wt).alloc (Nat.le_refl _) (.cells #[.slice (some ⟨W.heap.size + 1, 0, none⟩) 2 2, .slice Ab nb cb] 27)
  have X2 := heap_alloc_new wt (.cells #[.slice (some ⟨W.heap.size + 1, 0, none⟩) 2 2, .slice Ab nb cb] 27)
  clear hzl hzf hbe hnb hwl
  go_upto_region 2 with fail
  obtain ⟨w2, hw2⟩ : ∃ q, wt.alloc (.cells #[.slice (some ⟨W.heap.size + 1, 0, none⟩) 2 2, .slice Ab nb cb] 27) = q := ⟨_, rfl⟩
  rw [hw2] at B2 X2 ⊢
  obtain ⟨k7, hk7⟩ : ∃ x, wt.heap.size = x := ⟨_, rfl⟩
  obtain ⟨lo, hlo⟩ : ∃ x, wl.heap.size = x := ⟨_, rfl⟩
  have HK7 := Lib.hid (show W.heap.size < k7 ∧ lo ≤ k7 ∧ lo = W.heap.size + 2 by have := BT.out.size; omega)
  have z0 := (BL.out.block _ (by rw [hsz0]; omega)).trans ZZ.out
  have RQ2 : Hid (RqO W lo wt k7 (.cells #[.slice (some ⟨W.heap.size + 1, 0, none⟩) 2 2, .slice Ab nb cb] 27 (0, 0)) w2) := Lib.hid ⟨hk7 ▸ X2, ((B2.block _ (by have := HK7.out; omega)).trans (BT.out.block _ (by omega))).trans z0, (BZ.out.trans (BL.out.mono (by omega))).trans ((BT.out.mono (by omega)).trans (B2.mono (by have := BT.out.size; omega))), Keeps.below B2, hk7⟩
  have OA2 := Lib.hid ((OL.out.later BT.out).later B2)
  have HG2 := Lib.hid (show ∀ g, (Value.slice (some ⟨W.heap.size + 1, 0, none⟩) 2 2).ownBlock = some g → g < lo ∨ k7 < g from fun g hg => by cases hg; have := HK7.out; exact .inl (by show W.heap.size + 1 < lo; omega))
  rw [hlo] at HZF
  rw [hk7]
  clear hw2 B2 X2 z0 BL OL BT ZZ BZ hk7 hlo hszl hsz0 HSP hsp HCT HTX
  go_wp2_with (go_at_call 31; refine (HS.out _).mono ?_; rintro e w' ⟨rfl, rfl⟩)
  go_loopg [23] N (fun gq iv wr => ∃ (i m : Nat) (out : List Fld) (A1 : Option Addr) (ca : Nat), iv = .int .i64 i ∧ i + gq = N ∧ Hid (m = i + 2) ∧ Hid (out = [⟨nmM, [71, 69, 84]⟩, f2] ++ ((rs.take 5).map fldOf).take i) ∧ Hid (OwnE FdE wr (W.heap.size + 1) 54 (.slice A1 m ca) out) ∧ Hid (∀ g, (Value.slice A1 m ca).ownBlock = some g → g < lo ∨ k7 < g) ∧ Hid (RqO W lo wt k7 (.cells #[.slice A1 m ca, .slice Ab nb cb] 27 (0, 0)) wr))
  case atStart => exact ⟨0, 2, [⟨nmM, [71, 69, 84]⟩, f2], some ⟨W.heap.size + 1, 0, none⟩, 2, rfl, by omega, Lib.hid rfl, Lib.hid rfl, OA2, HG2, RQ2⟩
  case round =>
    obtain ⟨i, m, out, A1, ca, rfl, hig, hm, HOUT, OA, HG, RQr⟩ := hrel
    have HLO := Lib.hid (show out.length = m by rw [HOUT.out, List.length_append, List.length_take, HFL.out, hm.out]; simp; omega)
    by_cases hlt : i < N
    · have hir : i < rs.length := by rw [HN.out]; omega
      have HLL := Lib.hid (show out.length ≤ 7 by rw [HLO.out, hm.out]; omega)
      obtain ⟨b, off, hA, hbl, hcell⟩ := HR.out (by omega)
      obtain ⟨x0, x1, x2, x3⟩ := hcell i hir
      have HTY := Lib.hid (HBT.out i (by omega))
      have HTK := Lib.hid (HFA.out i hlt)
      obtain ⟨rw0, hrw⟩ : ∃ r, rs.getD i raw0 = r := ⟨_, rfl⟩
      rw [hrw] at x0 x1 x2 x3 HTY HTK
      obtain ⟨kd, ra, rb, tx⟩ := rw0
      simp only at x0 x1 x2 x3 HTY
      have HFO := Lib.hid (fun w => fieldOf_any kd ra rb tx HTY.out w)
      obtain ⟨f, hf⟩ : ∃ f, fldOf ⟨kd, ra, rb, tx⟩ = f := ⟨_, rfl⟩
      rw [hf] at HFO HTK
      subst hA
      have y0 := (RQr.out.b.cell (p := ⟨b, off + i * 4, none⟩) hbl).trans x0
      have y1 := (RQr.out.b.cell (p := ⟨b, off + i * 4 + 1, none⟩) hbl).trans x1
      have y2 := (RQr.out.b.cell (p := ⟨b, off + i * 4 + 2, none⟩) hbl).trans x2
      have y3 := (RQr.out.b.cell (p := ⟨b, off + i * 4 + 3, none⟩) hbl).trans x3
      unfold fdV at HFO
      obtain ⟨S1, hS1⟩ : ∃ S, strOfNums f.name = S := ⟨_, rfl⟩
      obtain ⟨S2, hS2⟩ : ∃ S, strOfNums f.val = S := ⟨_, rfl⟩
      have HFX := Lib.hid (show FdE.f f = [.string S1, .string S2] by rw [← hS1, ← hS2]; rfl)
      rw [hS1, hS2] at HFO
      have hnk : (i : Int) < (N : Int) := by omega
      have BX := (Below.refl wr.heap.size wr).alloc (Nat.le_refl _) (.cells #[.int .i64 kd, .int .i64 ra, .int .i64 rb, .string tx] 66)
      have RX := heap_alloc_new wr (.cells #[.int .i64 kd, .int .i64 ra, .int .i64 rb, .string tx] 66)
      clear x0 x1 x2 x3 hcell hrw hf hS1 hS2 hir hbl
      go_upto_region 5 with fail
      obtain ⟨w1, hw1⟩ : ∃ q, wr.alloc (.cells #[.int .i64 kd, .int .i64 ra, .int .i64 rb, .string tx] 66) = q := ⟨_, rfl⟩
      rw [hw1] at BX RX ⊢
      obtain ⟨q9, hq9⟩ : ∃ x, wr.heap.size = x := ⟨_, rfl⟩
      have RQ1 := Lib.hid (RQr.out.later BX)
      have OA1 := Lib.hid (OA.out.later BX)
      have HBS := Lib.hid (show W.heap.size + 1 ≤ w1.heap.size by have := lt_of_block RQ1.out.x; have := HK7.out; omega)
      rw [hq9] at RX ⊢
      have R1 := Lib.hid RX
      clear RX BX hw1 hq9 y0 y1 y2 y3 OA RQr
      refine wp_region_inv (fun lis_ act_ wld_ => ∃ (tb0 tb1 tb2 tb3 tb4 tb5 tb6 tb7 : Bool) (tx0 tx1 tx2 tx3 tx4 tx5 tx6 tx7 : Value), lis_ = #[tb0, tb1, tb2, tb3, tb4, tb5, tb6, tb7] ∧ act_ = { tmps := #[Value.slice (some { block := b, off := off }) n c, Value.string s, Value.int IntKind.i64 k, undef, undef, undef, Value.pointer (some { block := W.heap.size, off := 0 }), Value.pointer (some { block := k7, off := 0 }), undef, Value.pointer (some { block := q9, off := 0 }), Value.agg #[Value.string { data := #[58, 109, 101, 116, 104, 111, 100] }, Value.string { data := #[71, 69, 84] }], Value.string s, Value.string SC, Value.string SP, Value.agg #[Value.string { data := #[58, 112, 97, 116, 104] }, Value.string SP], Value.slice (some { block := W.heap.size + 1, off := 0 }) 2 2, Value.string s, Value.int IntKind.i64 k, Value.slice Ab nb cb, Value.agg #[Value.slice (some { block := W.heap.size + 1, off := 0 }) 2 2, Value.slice Ab nb cb], Value.slice (some { block := b, off := off }) n c, Value.slice (some { block := b, off := off }) N c, Value.int IntKind.i64 ↑N, Value.int IntKind.i64 ↑i, Value.bool true, Value.pointer (some { block := b, off := off + i * 4 }), Value.agg #[Value.int IntKind.i64 kd, Value.int IntKind.i64 ra, Value.int IntKind.i64 rb, Value.string tx], tx0, tx1, tx2, tx3, tx4, tx5, tx6, u34, undef], defers := [] } ∧ RqR w1 W wt lo k7 m ca nb cb A1 Ab kd ra rb tx S1 S2 f out (.pointer (some ⟨k7, 0, none⟩)) (.slice A1 m ca) (.agg #[.int .i64 kd, .int .i64 ra, .int .i64 rb, .string tx]) (.agg #[.string S1, .string S2]) (.pointer (some ⟨k7, 0, none⟩)) tb0 tb1 tb2 tb3 tb4 tb5 tb6 tb7 tx0 tx1 tx2 tx3 tx4 tx5 tx6 tx7 wld_) (by kernel_rfl) ?h0 ?hfin ?hI
      case h0 => exact ⟨_, _, _, _, _, _, _, _, _, _, _, _, _, _, _, undef, rfl, rfl, ⟨(fun _ => (Below.refl _ _).drew), (fun h => by cases h), (fun h => by cases h), (fun h => by cases h), (fun h => by cases h), (fun h => by cases h), (fun h => by cases h), (fun _ => RQ1.out.later (Below.refl _ _).drew), (fun _ => OwnE.later OA1.out (Below.refl _ _).drew), (fun h => by cases h), (fun h => by cases h), (fun h => by cases h), (fun h => by cases h), (fun h => by cases h), (fun h => by cases h), (fun h => by cases h), (fun h => by cases h)⟩⟩
      case hI =>
        rintro listed a w ⟨tb0, tb1, tb2, tb3, tb4, tb5, tb6, tb7, tx0, tx1, tx2, tx3, tx4, tx5, tx6, tx7, rfl, rfl, H⟩ i hi
        obtain ⟨hun, oj, hoj, hall⟩ := mem_ready.1 hi
        clear hi
        rcases i with _ | _ | _ | _ | _ | _ | _ | _ | i
        · have ho := hoj
          simp only [List.getElem?_toArray, List.getElem?_cons_zero, Option.some.injEq] at hoj
          subst hoj
          obtain rfl : tb0 = false := hun
          clear hall
          obtain rfl : tb1 = false := Bool.eq_false_iff.2 fun h => Bool.false_ne_true (H.d1 h)
          obtain rfl : tb5 = false := Bool.eq_false_iff.2 fun h => Bool.false_ne_true (H.d5 h).1
          obtain rfl : tb6 = false := Bool.eq_false_iff.2 fun h => Bool.false_ne_true (H.d6 h).1
          obtain rfl : tb7 = false := Bool.eq_false_iff.2 fun h => Bool.false_ne_true (H.d7 h).1
          have hbe := H.be rfl
          have hx_tk := H.tk rfl
          have hx_oa := H.oa rfl
          refine wpOp_step ho (fun K' hK => ?_)
          have HK := Lib.hid hK
          clear hK ho
          go_simp
          exact HK.out _ _ ⟨_, _, _, _, _, _, _, _, _, _, _, _, _, _, _, tx7, rfl, rfl, ⟨(fun _ => hbe), (fun h => by cases h), H.d3, H.d4, H.d5, (fun h => by cases h), (fun h => by cases h), H.tk, H.oa, (fun _ => rfl), H.h1, H.h2, H.h3, H.h4, (fun h => by cases h), H.h6, (fun h => by cases h)⟩⟩
        · have ho := hoj
          simp only [List.getElem?_toArray, List.getElem?_cons_succ, List.getElem?_cons_zero, Option.some.injEq] at hoj
          subst hoj
          obtain rfl : tb1 = false := hun
          obtain rfl : tb0 = true := hall ⟨0, .data⟩ (by simp) (by kernel_rfl)
          clear hall
          obtain rfl : tb5 = false := Bool.eq_false_iff.2 fun h => Bool.false_ne_true (H.d5 h).1
          obtain rfl : tb6 = false := Bool.eq_false_iff.2 fun h => Bool.false_ne_true (H.d6 h).2.1
          obtain rfl : tb7 = false := Bool.eq_false_iff.2 fun h => Bool.false_ne_true (H.d7 h).2.1
          have hbe := H.be rfl
          have hx_tk := H.tk rfl
          have hx_oa := H.oa rfl
          obtain rfl := H.h0 rfl
          obtain ⟨tx0, tx1⟩ := bk2F ((hbe.block _ (lt_of_block RQ1.out.x)).trans RQ1.out.x)
          refine wpOp_step ho (fun K' hK => ?_)
          have HK := Lib.hid hK
          clear hK ho
          go_simp
          exact HK.out _ _ ⟨_, _, _, _, _, _, _, _, _, _, _, _, _, _, _, tx7, rfl, rfl, ⟨(fun _ => hbe), (fun _ => rfl), H.d3, H.d4, (fun h => by cases h), (fun h => by cases h), (fun h => by cases h), H.tk, H.oa, H.h0, (fun _ => rfl), H.h2, H.h3, H.h4, (fun h => by cases h), H.h6, (fun h => by cases h)⟩⟩
        · have ho := hoj
          simp only [List.getElem?_toArray, List.getElem?_cons_succ, List.getElem?_cons_zero, Option.some.injEq] at hoj
          subst hoj
          obtain rfl : tb2 = false := hun
          clear hall
          obtain rfl : tb3 = false := Bool.eq_false_iff.2 fun h => Bool.false_ne_true (H.d3 h)
          obtain rfl : tb4 = false := Bool.eq_false_iff.2 fun h => Bool.false_ne_true (H.d4 h)
          obtain rfl : tb5 = false := Bool.eq_false_iff.2 fun h => Bool.false_ne_true (H.d5 h).2.1
          obtain rfl : tb6 = false := Bool.eq_false_iff.2 fun h => Bool.false_ne_true (H.d6 h).2.2.1
          obtain rfl : tb7 = false := Bool.eq_false_iff.2 fun h => Bool.false_ne_true (H.d7 h).2.2.1
          have hbe := H.be rfl
          have hx_tk := H.tk rfl
          have hx_oa := H.oa rfl
          obtain ⟨y0, y1, y2, y3⟩ := bk4R ((hbe.block _ (lt_of_block R1.out)).trans R1.out)
          refine wpOp_step ho (fun K' hK => ?_)
          have HK := Lib.hid hK
          clear hK ho
          go_simp
          exact HK.out _ _ ⟨_, _, _, _, _, _, _, _, _, _, _, _, _, _, _, tx7, rfl, rfl, ⟨(fun _ => hbe), H.d1, (fun h => by cases h), H.d4, H.d5, (fun h => by cases h), (fun h => by cases h), H.tk, H.oa, H.h0, H.h1, (fun _ => rfl), H.h3, (fun h => by cases h), (fun h => by cases h), H.h6, (fun h => by cases h)⟩⟩
        · have ho := hoj
          simp only [List.getElem?_toArray, List.getElem?_cons_succ, List.getElem?_cons_zero, Option.some.injEq] at hoj
          subst hoj
          obtain rfl : tb3 = false := hun
          obtain rfl : tb2 = true := hall ⟨2, .data⟩ (by simp) (by kernel_rfl)
          clear hall
          obtain rfl : tb4 = false := Bool.eq_false_iff.2 fun h => Bool.false_ne_true (H.d4 h)
          obtain rfl : tb5 = false := Bool.eq_false_iff.2 fun h => Bool.false_ne_true (H.d5 h).2.1
          obtain rfl : tb6 = false := Bool.eq_false_iff.2 fun h => Bool.false_ne_true (H.d6 h).2.2.2.1
          obtain rfl : tb7 = false := Bool.eq_false_iff.2 fun h => Bool.false_ne_true (H.d7 h).2.2.2.1
          have hbe := H.be rfl
          have hx_tk := H.tk rfl
          have hx_oa := H.oa rfl
          obtain rfl := H.h2 rfl
          refine wpOp_step ho (fun K' hK => ?_)
          have HK := Lib.hid hK
          clear hK ho
          go_wp2_with fail
          refine (HFO.out _).mono ?_
          rintro e w9 ⟨rfl, tb9⟩
          have BC := Lib.hid tb9
          clear tb9
          go_wp2_with fail
          exact HK.out _ _ ⟨_, _, _, _, _, _, _, _, _, _, _, _, _, _, _, tx7, rfl, rfl, ⟨(fun _ => hbe.trans (BC.out.mono hbe.size)), H.d1, (fun _ => rfl), (fun h => by cases h), (fun h => by cases h), (fun h => by cases h), (fun h => by cases h), (fun _ => RqO.later hx_tk BC.out), (fun _ => OwnE.later hx_oa BC.out), H.h0, H.h1, H.h2, (fun _ => rfl), (fun h => by cases h), (fun h => by cases h), H.h6, (fun h => by cases h)⟩⟩
        · have ho := hoj
          simp only [List.getElem?_toArray, List.getElem?_cons_succ, List.getElem?_cons_zero, Option.some.injEq] at hoj
          subst hoj
          obtain rfl : tb4 = false := hun
          obtain rfl : tb3 = true := hall ⟨3, .data⟩ (by simp) (by kernel_rfl)
          obtain rfl : tb2 = true := (H.d3 rfl)
          clear hall
          obtain rfl : tb5 = false := Bool.eq_false_iff.2 fun h => Bool.false_ne_true (H.d5 h).2.2
          obtain rfl : tb6 = false := Bool.eq_false_iff.2 fun h => Bool.false_ne_true (H.d6 h).2.2.2.2.1
          obtain rfl : tb7 = false := Bool.eq_false_iff.2 fun h => Bool.false_ne_true (H.d7 h).2.2.2.2.1
          have hbe := H.be rfl
          have hx_tk := H.tk rfl
          have hx_oa := H.oa rfl
          obtain rfl := H.h2 rfl
          obtain rfl := H.h3 rfl
          have BA := Lib.hid ((Below.refl w.heap.size w).alloc (Nat.le_refl _) (.cells #[.string S1, .string S2] 54))
          have NA := Lib.hid ((RowE.one (E := FdE) w f #[.string S1, .string S2] 54 w.heap.size rfl (HFX.out.symm)).more (show w.heap.size + 1 ≤ (w.alloc (.cells #[.string S1, .string S2] 54)).heap.size by simp))
          refine wpOp_step ho (fun K' hK => ?_)
          have HK := Lib.hid hK
          clear hK ho
          go_simp
          exact HK.out _ _ ⟨_, _, _, _, _, _, _, _, _, _, _, _, _, _, _, tx7, rfl, rfl, ⟨(fun _ => hbe.trans (BA.out.mono hbe.size)), H.d1, H.d3, (fun _ => rfl), (fun h => by cases h), (fun h => by cases h), (fun h => by cases h), (fun _ => RqO.later hx_tk BA.out), (fun _ => OwnE.later hx_oa BA.out), H.h0, H.h1, H.h2, H.h3, (fun _ _ => ⟨_, rfl, NA.out⟩), (fun h => by cases h), H.h6, (fun h => by cases h)⟩⟩
        · have ho := hoj
          simp only [List.getElem?_toArray, List.getElem?_cons_succ, List.getElem?_cons_zero, Option.some.injEq] at hoj
          subst hoj
          obtain rfl : tb5 = false := hun
          obtain rfl : tb1 = true := hall ⟨1, .data⟩ (by simp) (by kernel_rfl)
          obtain rfl : tb3 = true := hall ⟨3, .chain⟩ (by simp) (by kernel_rfl)
          obtain rfl : tb4 = true := hall ⟨4, .data⟩ (by simp) (by kernel_rfl)
          obtain rfl : tb0 = true := (H.d1 rfl)
          obtain rfl : tb2 = true := (H.d3 rfl)
          clear hall
          obtain rfl : tb6 = false := Bool.eq_false_iff.2 fun h => Bool.false_ne_true (H.d6 h).2.2.2.2.2
          obtain rfl : tb7 = false := Bool.eq_false_iff.2 fun h => Bool.false_ne_true (H.d7 h).2.2.2.2.2.1
          have hbe := H.be rfl
          have hx_tk := H.tk rfl
          have hx_oa := H.oa rfl
          obtain rfl := H.h0 rfl
          obtain rfl := H.h1 rfl
          obtain rfl := H.h2 rfl
          obtain rfl := H.h3 rfl
          have P4 := H.h4 rfl rfl
          have hlo : W.heap.size + 1 ≤ w.heap.size := Nat.le_trans HBS.out hbe.size
          obtain ⟨k3, rfl, hk3⟩ := P4
          have K3 := Lib.hid hk3
          have OA := Lib.hid hx_oa
          have TKK := Lib.hid hx_tk
          have hll := HLL.out
          clear hk3
          refine wpOp_step ho (fun K' hK => ?_)
          have HK := Lib.hid hK
          clear hK ho
          refine step_appE2 w rfl (.tmp 28) (.tmp 31) _ rfl (W.heap.size + 1) 54 i0 (.agg #[.string ⟨#[]⟩, .string ⟨#[]⟩]) 32 Tryd.underlying22 HI.out HZ.out HZ1.out HZ2.out rfl (by decide) _ out rfl OA.out w.heap.size (some ⟨k3, 0, none⟩) 1 1 [f] rfl K3.out rfl (by omega) hlo ?_
          intro v9 u9 own9 g9 hv9
          obtain ⟨A2, c2, e2, _, _, _⟩ := own9.slice
          rw [List.length_append, HLO.out, List.length_singleton] at e2
          subst e2
          have O9 := Lib.hid own9
          have TG := Lib.hid (TKK.out.gr g9 (fun k e => ⟨(OwnE.lt OA.out k e).1, HG.out k e⟩) HK7.out.2.1)
          have HG9 := Lib.hid (show ∀ g, (Value.slice A2 (m + 1) c2).ownBlock = some g → g < lo ∨ k7 < g from fun g hg => by rcases hv9 with e | e; exact HG.out g (e ▸ hg); rw [e] at hg; cases hg; exact .inr (lt_of_block TKK.out.x))
          clear own9 g9 hv9
          exact HK.out _ _ ⟨_, _, _, _, _, _, _, _, _, _, _, _, _, _, _, tx7, rfl, rfl, ⟨(fun h => by cases h), H.d1, H.d3, H.d4, (fun _ => ⟨rfl, rfl, rfl⟩), (fun h => by cases h), (fun h => by cases h), (fun _ => TG.out), (fun h => by cases h), H.h0, H.h1, H.h2, H.h3, (fun _ h => by cases h), (fun _ _ => ⟨_, _, rfl, O9.out, HG9.out⟩), H.h6, (fun h => by cases h)⟩⟩
        · have ho := hoj
          simp only [List.getElem?_toArray, List.getElem?_cons_succ, List.getElem?_cons_zero, Option.some.injEq] at hoj
          subst hoj
          obtain rfl : tb6 = false := hun
          obtain rfl : tb0 = true := hall ⟨0, .phase⟩ (by simp) (by kernel_rfl)
          obtain rfl : tb1 = true := hall ⟨1, .phase⟩ (by simp) (by kernel_rfl)
          obtain rfl : tb2 = true := hall ⟨2, .phase⟩ (by simp) (by kernel_rfl)
          obtain rfl : tb3 = true := hall ⟨3, .phase⟩ (by simp) (by kernel_rfl)
          obtain rfl : tb4 = true := hall ⟨4, .phase⟩ (by simp) (by kernel_rfl)
          obtain rfl : tb5 = true := hall ⟨5, .phase⟩ (by simp) (by kernel_rfl)
          clear hall
          obtain rfl : tb7 = false := Bool.eq_false_iff.2 fun h => Bool.false_ne_true (H.d7 h).2.2.2.2.2.2
          have hx_tk := H.tk rfl
          obtain rfl := H.h0 rfl
          obtain rfl := H.h1 rfl
          obtain rfl := H.h2 rfl
          obtain rfl := H.h3 rfl
          have P5 := H.h5 rfl rfl
          refine wpOp_step ho (fun K' hK => ?_)
          have HK := Lib.hid hK
          clear hK ho
          go_simp
          exact HK.out _ _ ⟨_, _, _, _, _, _, _, _, _, _, _, _, _, _, _, tx7, rfl, rfl, ⟨(fun h => by cases h), H.d1, H.d3, H.d4, H.d5, (fun _ => ⟨rfl, rfl, rfl, rfl, rfl, rfl⟩), (fun h => by cases h), H.tk, (fun h => by cases h), H.h0, H.h1, H.h2, H.h3, (fun _ h => by cases h), H.h5, (fun _ => rfl), (fun h => by cases h)⟩⟩
        · have ho := hoj
          simp only [List.getElem?_toArray, List.getElem?_cons_succ, List.getElem?_cons_zero, Option.some.injEq] at hoj
          subst hoj
          obtain rfl : tb7 = false := hun
          obtain rfl : tb0 = true := hall ⟨0, .phase⟩ (by simp) (by kernel_rfl)
          obtain rfl : tb1 = true := hall ⟨1, .phase⟩ (by simp) (by kernel_rfl)
          obtain rfl : tb2 = true := hall ⟨2, .phase⟩ (by simp) (by kernel_rfl)
          obtain rfl : tb3 = true := hall ⟨3, .phase⟩ (by simp) (by kernel_rfl)
          obtain rfl : tb4 = true := hall ⟨4, .phase⟩ (by simp) (by kernel_rfl)
          obtain rfl : tb5 = true := hall ⟨5, .data⟩ (by simp) (by kernel_rfl)
          obtain rfl : tb6 = true := hall ⟨6, .data⟩ (by simp) (by kernel_rfl)
          clear hall
          have hx_tk := H.tk rfl
          obtain rfl := H.h0 rfl
          obtain rfl := H.h1 rfl
          obtain rfl := H.h2 rfl
          obtain rfl := H.h3 rfl
          have P5 := H.h5 rfl rfl
          obtain rfl := H.h6 rfl
          obtain ⟨A2, c2, rfl, ho9, hg9⟩ := P5
          have k1 := bk_set hx_tk.x 0 (.slice A2 (m + 1) c2)
          have g9 := gr_set w k7 0 (.slice A2 (m + 1) c2)
          have TG := Lib.hid (hx_tk.set (by simpa using k1) g9 HK7.out.1)
          have O9 := Lib.hid (OwnE.kept ho9 g9 (fun e => by have := hg9 _ e; have := HK7.out; omega))
          have HG9 := Lib.hid hg9
          obtain ⟨tx0, tx1⟩ := bk2F hx_tk.x
          have xf := fun i => bk_frz hx_tk.x i
          clear k1 g9 ho9 hg9
          refine wpOp_step ho (fun K' hK => ?_)
          have HK := Lib.hid hK
          clear hK ho
          go_simp
          exact HK.out _ _ ⟨_, _, _, _, _, _, _, _, _, _, _, _, _, _, _, tx7, rfl, rfl, ⟨(fun h => by cases h), H.d1, H.d3, H.d4, H.d5, H.d6, (fun _ => ⟨rfl, rfl, rfl, rfl, rfl, rfl, rfl⟩), (fun h => by cases h), (fun h => by cases h), H.h0, H.h1, H.h2, H.h3, (fun _ h => by cases h), (fun _ h => by cases h), H.h6, (fun _ => ⟨_, _, O9.out, HG9.out, TG.out⟩)⟩⟩
        · have ho := hoj
          simp at ho
      case hfin =>
        rintro listed a w ⟨tb0, tb1, tb2, tb3, tb4, tb5, tb6, tb7, tx0, tx1, tx2, tx3, tx4, tx5, tx6, tx7, rfl, rfl, H⟩ hr
        have hb : tb7 = true := by
          clear H
          revert tb0 tb1 tb2 tb3 tb4 tb5 tb6 tb7
          decide +kernel
        subst hb
        clear hr
        obtain rfl : tb0 = true := (H.d7 rfl).1
        obtain rfl : tb1 = true := (H.d7 rfl).2.1
        obtain rfl : tb2 = true := (H.d7 rfl).2.2.1
        obtain rfl : tb3 = true := (H.d7 rfl).2.2.2.1
        obtain rfl : tb4 = true := (H.d7 rfl).2.2.2.2.1
        obtain rfl : tb5 = true := (H.d7 rfl).2.2.2.2.2.1
        obtain rfl : tb6 = true := (H.d7 rfl).2.2.2.2.2.2
        obtain ⟨A2, c2, ho, hg, tk⟩ := H.h7 rfl
        have O9 := Lib.hid ho
        have G9 := Lib.hid hg
        have T9 := Lib.hid tk
        clear ho hg tk H
        obtain ⟨w4, hw4⟩ : ∃ x, x = w := ⟨_, rfl⟩
        subst w
        have HOUT2 := Lib.hid (show out ++ [f] = [⟨nmM, [71, 69, 84]⟩, f2] ++ ((rs.take 5).map fldOf).take (i + 1) by rw [HTK.out, HOUT.out, List.append_assoc])
        obtain ⟨g, rfl⟩ : ∃ g, gk = g + 1 := ⟨gk - 1, by omega⟩
        have hwr : IntKind.i64.wrap ((i : Int) + 1) = ((i + 1 : Nat) : Int) := by rw [IntKind.wrap_i64]; omega
        go_wp2_with fail
        go_roundg g
        case measure => omega
        case rel => exact ⟨i + 1, m + 1, out ++ [f], A2, c2, by first | rfl | go_num, by omega, Lib.hid (by rw [hm.out]), HOUT2, O9, G9, T9⟩
    · obtain rfl : i = N := by omega
      have hnk : ¬ (i : Int) < (i : Int) := by omega
      obtain ⟨x0, x1⟩ := bk2F RQr.out.x
      obtain ⟨z0, z1⟩ := bk2F RQr.out.z
      have zf := fun j => bk_frz RQr.out.z j
      go_wp2_with fail
      obtain ⟨k1, gp⟩ := bk2_blk RQr.out.z (.slice A1 m ca) (.slice Ab nb cb)
      obtain ⟨r0, r1⟩ := bk2F k1
      refine bodyPost_ret (by simp [results, Tryd.results12, go_sem, r0, r1]; try rfl) rfl ?_
      have hOL : out = L := by rw [HOUT.out, ← HL.out, List.take_of_length_le (by rw [HFL.out]; omega)]
      subst hOL
      have hF := fsl_own (OwnE.kept OA.out gp (fun e => by have := (OwnE.lt OA.out _ e).1; omega))
      have hB := HZF.out _ (RQr.out.k.trans (Keeps.gr gp (by have := HK7.out; omega)))
      obtain rfl := hm.out
      have hzz := HNB.out
      exact ⟨gr_from RQr.out.b RQr.out.b.size (Nat.le_refl _) gp, A1, ca, zs, Ab, cb, by rw [hzz], hF, by rw [hzz]; exact HZL.out, by rw [hzz]; exact hB⟩
end Go.Proofs.YtpfahdogedchpaaDoor
/- The statements' own requestTells. -/
namespace Go.Proofs.YtpfahdogedchpaaDoor
set_option linter.unusedVariables false
open Go.RowKit P
theorem run_rq_fields (a b : Value) (w : World) : (Instr.field 27 (.agg #[a, b]) 0).run Tryd.prog w = .ok a w := by
  kernel_rfl
theorem faultRq_nil : faultRq [] = 3 := by decide
set_option maxRecDepth 100000 in
set_option maxHeartbeats 2000000 in
theorem requestTells_any (W : World) : Calls Tryd.prog 15 #[] W fun e w' => e = .returned (.bool true) ∧ Below W.heap.size W w' := by
  have HC1 := Lib.hid (rqchk_any none 0 0 [] W (RowE.nil _ _ _) rfl (Nat.le_refl _) (by unfold maxLen; omega) (fun x hx => by cases hx) (by decide))
  have HRO := Lib.hid (fun w => requestOf_any none 0 0 [] ⟨#[]⟩ 0 w (fun h => by cases h) rfl (Nat.le_refl _) (by unfold maxLen; omega) (fun i hi => by omega) (by decide))
  rw [faultRq_nil] at HC1
  go_enter Tryd.func15, Tryd.ntmps15
  go_wp2_with fail
  refine (HC1.out).mono ?_
  rintro e w1 ⟨rfl, b1⟩
  go_wp2_with fail
  refine (HRO.out _).mono ?_
  rintro e w2 ⟨b2, Af, cf, zs, Ab, cb, rfl, hF, _, _⟩
  have B2 := Lib.hid (b1.trans (b2.mono b1.size))
  obtain ⟨A', c', e', l1, l2, h3⟩ := hF.ex
  injection e' with e1 e2 e3
  subst e1 e3
  have HC2 := Lib.hid (rqchk_any Af (rqFs ⟨#[]⟩ []).length cf (rqFs ⟨#[]⟩ []) w2 h3 rfl l1 l2 (fun x hx => (rqFs_ok hx).2.1) (by rw [rqFs_len]; decide))
  rw [rqFs_fault] at HC2
  obtain ⟨m, hm⟩ : ∃ m, (rqFs ⟨#[]⟩ []).length = m := ⟨_, rfl⟩
  rw [hm] at HC2 ⊢
  clear b1 b2 hF l1 l2 h3 e2 hm
  have RW := run_rq_fields (.slice Af m cf) (.slice Ab zs.length cb) w2
  go_wp2_with fail
  refine (HC2.out).mono ?_
  rintro e w3 ⟨rfl, b3⟩
  have B3 := Lib.hid (B2.out.trans (b3.mono B2.out.size))
  clear b3
  go_wp2_with fail
  go_ret
  exact ⟨rfl, B3.out⟩
end Go.Proofs.YtpfahdogedchpaaDoor
