/- The statements' own tableOf, over what is asked of the project. -/
import Derived.Test.YtlddbojfikkhfaaTabFo
import Derived.Test.YtlddbojfikkhfaaTabLawC
import Derived.Test.YtlddbojfikkhfaaTabN
import Derived.Test.YtlddbojfikkhfaaGrpA
import Derived.Test.YtlddbojfikkhfaaGrpC
namespace Go.Proofs.Ytlddbojfikkhfaa
set_option linter.unusedVariables false
open Go.RowKit P

/-- what lies in memory between the steps of a round: result, table, answer, field -/
structure TK (W : World) (R T Y F : Nat) (oR oT oY oF : Obj) (A : Option Addr) (l : List Fld) (w : World) : Prop where
  r : w.heap[R]? = some oR
  t : w.heap[T]? = some oT
  y : w.heap[Y]? = some oY
  f : w.heap[F]? = some oF
  b : Below W.heap.size W w
  n : RowN w (W.heap.size + 2) A l
theorem TK.later {W : World} {R T Y F : Nat} {oR oT oY oF : Obj} {A : Option Addr} {l : List Fld} {w w' : World} (h : TK W R T Y F oR oT oY oF A l w) (b : Below w.heap.size w w') : TK W R T Y F oR oT oY oF A l w' :=
  ⟨(b.block _ (lt_of_block h.r)).trans h.r, (b.block _ (lt_of_block h.t)).trans h.t, (b.block _ (lt_of_block h.y)).trans h.y, (b.block _ (lt_of_block h.f)).trans h.f, h.b.trans (b.mono h.b.size), h.n.below b⟩
/-- an own row, beyond them, turns -/
theorem TK.gr {W : World} {Y F : Nat} {oR oT oY oF : Obj} {A : Option Addr} {l : List Fld} {w w' : World} {v : Value} (h : TK W W.heap.size (W.heap.size + 1) Y F oR oT oY oF A l w) (g : w.grownBy w' v.ownBlock)
    (hk : ∀ k, v.ownBlock = some k → W.heap.size + 2 ≤ k ∧ k < F ∧ k < Y) (ha : ApartN v A l) : TK W W.heap.size (W.heap.size + 1) Y F oR oT oY oF A l w' :=
  ⟨(g.block _ (lt_of_block h.r) (fun e => by have := (hk _ e.symm).1; omega)).trans h.r, (g.block _ (lt_of_block h.t) (fun e => by have := (hk _ e.symm).1; omega)).trans h.t,
   (g.block _ (lt_of_block h.y) (fun e => by have := (hk _ e.symm).2.2; omega)).trans h.y, (g.block _ (lt_of_block h.f) (fun e => by have := (hk _ e.symm).2.1; omega)).trans h.f,
   h.b.grown g h.b.size (fun k e => by have := (hk _ e).1; omega), h.n.gr g (fun b off e hl hb q => ha b q.symm hl b off e rfl)⟩
/-- the table turns -/
theorem TK.put {W : World} {Y F : Nat} {oR oT oT' oY oF : Obj} {A : Option Addr} {l : List Fld} {w w' : World} (h : TK W W.heap.size (W.heap.size + 1) Y F oR oT oY oF A l w) (ht : w'.heap[W.heap.size + 1]? = some oT') (g : w.grownBy w' (some (W.heap.size + 1)))
    (hY : W.heap.size + 2 ≤ Y) (hF : W.heap.size + 2 ≤ F) : TK W W.heap.size (W.heap.size + 1) Y F oR oT' oY oF A l w' :=
  ⟨(g.block _ (lt_of_block h.r) (by simp)).trans h.r, ht, (g.block _ (lt_of_block h.y) (by simp; omega)).trans h.y, (g.block _ (lt_of_block h.f) (by simp; omega)).trans h.f,
   h.b.grown g h.b.size (fun k e => by cases e; omega), h.n.gr g (fun b off e hl hb q => by cases q; omega)⟩
theorem some12 (A : Option Addr) (len cap : Nat) (w : World) (hl : len ≤ cap) (hc : cap ≤ maxLen) :
    Calls Try.prog 27 #[.slice A len cap, .int .i64 12] w fun e w' => e = .returned (.slice A (min len 12) cap) ∧ w = w' := by
  unfold maxLen at hc
  by_cases h : 12 < len
  · have e := Lib.hid (show min len 12 = 12 by omega)
    go_enter Try.func27, Try.ntmps27
    go_wp2
    go_ret
    exact ⟨by rw [e.out]; rfl, rfl⟩
  · have e := Lib.hid (show min len 12 = len by omega)
    go_enter Try.func27, Try.ntmps27
    go_wp2
    go_ret
    exact ⟨by rw [e.out]; rfl, rfl⟩
/-- the fields of raw things -/
def fldsOf (rs : List RawT) : List Fld := (rs.take 12).map fldOf
theorem fldsOf_len (rs : List RawT) : (fldsOf rs).length = min rs.length 12 := by unfold fldsOf; rw [List.length_map, List.length_take]; omega
theorem fldsOf_ok (rs : List RawT) : ∀ f ∈ fldsOf rs, okFd f ∧ FdWf f := fun f hf => by
  obtain ⟨r, _, rfl⟩ := List.mem_map.1 hf
  exact fldOf_ok r
theorem fldsOf_at (rs : List RawT) {i : Nat} (h : i < (fldsOf rs).length) : (fldsOf rs).take (i + 1) = (fldsOf rs).take i ++ [fldOf (rs.getD i raw0)] := by
  have h2 : i < rs.length := by rw [fldsOf_len] at h; omega
  rw [List.take_succ_eq_append_getElem h, show (fldsOf rs)[i] = fldOf rs[i] by simp [fldsOf], List.getD_eq_getElem?_getD, List.getElem?_eq_getElem h2]
  rfl
/-- what tableOf answers -/
def TabOfPost (room : Int) (rs : List RawT) (W : World) (e : Ending) (w' : World) : Prop := ∃ (all : List Fld) (At Aa : Option Addr) (ct ca : Nat), all = putL room (fldsOf rs) ∧
  e = .returned (.tuple #[.agg #[.int .i64 room, .int .i64 (all.length : Int), .slice At (young room all).length ct], .slice Aa all.length ca, .bool true]) ∧
  (young room all).length ≤ ct ∧ ct ≤ maxLen ∧ all.length ≤ ca ∧ ca ≤ maxLen ∧ RowE FdE w' w'.heap.size At (young room all) ∧ RowE FdE w' w'.heap.size Aa all ∧ Below W.heap.size W w'
theorem tabWf {room : Int} (h : 0 ≤ room ∧ room ≤ 160) {all : List Fld} (hl : all.length ≤ 1000) (ha : ∀ f ∈ all, FdWf f) : TbWf (tabF room all) := by
  obtain ⟨k, h1, h2⟩ := young_suffix room all
  refine ⟨by simp only [tabF]; omega, by simp only [tabF]; omega, by simp only [tabF, h2, List.length_drop]; omega, fun x hx => ?_⟩
  simp only [tabF, h2] at hx
  exact ha x (List.mem_of_mem_drop hx)
structure TOf (w0 : World) (W : World) (S1 S2 : ByteArray) (f : Fld) (room pn : Int) (all Yn : List Fld) (L ca Mn cn Y F : Nat) (Aa An : Option Addr) (zR oT oF : Obj) (V0 V1 V2 : Value) (tb0 tb1 tb2 tb3 tb4 tb5 tb6 : Bool) (tx0 tx1 tx2 tx3 tx4 tx5 tx6 : Value) (w : World) : Prop where
  be : tb4 = false → Below w0.heap.size w0 w
  d3 : tb3 = true → tb2 = true
  d4 : tb4 = true → tb1 = true ∧ tb3 = true
  d5 : tb5 = true → tb0 = true ∧ tb4 = true
  d6 : tb6 = true → tb0 = true ∧ tb1 = true ∧ tb2 = true ∧ tb3 = true ∧ tb4 = true ∧ tb5 = true
  tk : tb5 = false → TK W W.heap.size (W.heap.size + 1) Y F zR oT (.cells #[.int .i64 room, .int .i64 pn, .slice An Mn cn] 24 (0, 0)) oF An Yn w
  oa : tb4 = false → OwnE FdE w (W.heap.size + 2) 57 (.slice Aa L ca) all
  s8 : tb6 = false → tx6 = .slice Aa L ca
  h0 : tb0 = true → tx0 = V0
  h1 : tb1 = true → tx1 = V1
  h2 : tb2 = true → tx2 = V2
  h3 : tb3 = true → tb4 = false → ∃ k, tx3 = .slice (some ⟨k, 0, none⟩) 1 1 ∧ RowE FdE w w.heap.size (some ⟨k, 0, none⟩) [f]
  h4 : tb4 = true → tb5 = false → OwnE FdE w (W.heap.size + 2) 57 tx4 (all ++ [f]) ∧ ApartN tx4 An Yn
  h5 : tb5 = true → TK W W.heap.size (W.heap.size + 1) Y F zR (.cells #[.int .i64 room, .int .i64 pn, .slice An Mn cn] 24 (0, 0)) (.cells #[.int .i64 room, .int .i64 pn, .slice An Mn cn] 24 (0, 0)) oF An Yn w ∧ OwnE FdE w (W.heap.size + 2) 57 tx4 (all ++ [f]) ∧ ApartN tx4 An Yn
  h6 : tb6 = true → tx6 = tx4
set_option maxRecDepth 100000 in
set_option maxHeartbeats 8000000 in
theorem tableOf_any (hI : TbInsN Try.prog 28) (hZ : TbSzf Try.prog 49) (r0 : Int) (A : Option Addr) (n c : Nat) (rs : List RawT) (W : World) (hrow : RawRow W W.heap.size A rs) (hn : rs.length = n) (hnc : n ≤ c) (hc : c ≤ maxLen)
    (hbt : ∀ i, i < n → (rs.getD i raw0).text.size ≤ maxLen) : Calls Try.prog 22 #[.int .i64 r0, .slice A n c] W (TabOfPost (40 + r0 % 121) rs W) := by
  have HR := Lib.hid hrow
  have HN := Lib.hid hn
  have HBT := Lib.hid hbt
  obtain ⟨q, hq⟩ : ∃ q, r0 % 121 = q := ⟨_, rfl⟩
  have hq0 : 0 ≤ q := by omega
  have hq1 : q ≤ 120 := by omega
  have HPK := Lib.hid (fun w => hq ▸ picked_any r0 121 (by decide) (by decide) w)
  have HS := Lib.hid (fun w => some12 A n c w hnc hc)
  obtain ⟨room, hroom⟩ : ∃ room, 40 + q = room := ⟨_, rfl⟩
  have hrb : 0 ≤ room ∧ room ≤ 160 := by omega
  rw [hq, hroom]
  obtain ⟨N, hN⟩ : ∃ N, min n 12 = N := ⟨_, rfl⟩
  rw [hN] at HS
  have hN12 : N ≤ 12 := by omega
  have hNn : N ≤ n := by omega
  have HFL := Lib.hid (show (fldsOf rs).length = N by rw [fldsOf_len, HN.out, hN])
  have HFOK := Lib.hid (fldsOf_ok rs)
  have HPM := Lib.hid (fun i => putL_mem (room := room) (p := fun f => okFd f ∧ FdWf f) ((fldsOf rs).take i) (fun f hf => fldsOf_ok rs f (List.mem_of_mem_take hf)))
  have HPL := Lib.hid (fun i => putL_len (room := room) ((fldsOf rs).take i))
  have HWF := Lib.hid (fun (all : List Fld) (h1 : all.length ≤ 1000) h2 => tabWf hrb (all := all) h1 h2)
  have HINS := Lib.hid (fun (all : List Fld) (h1 : all.length ≤ 1000) h2 (f : Fld) h3 => tabF_ins hrb (all := all) h1 h2 (f := f) h3)
  obtain ⟨i0, hi0, hz0, hz1, hz2⟩ := info_partsE infoFd
  have HI := Lib.hid hi0
  have HZ := Lib.hid hz0
  have HZ1 := Lib.hid hz1
  have HZ2 := Lib.hid hz2
  unfold maxLen at hc
  obtain ⟨g0, g1, g3⟩ := two_bk W #[.int .i64 0, .int .i64 0, .slice none 0 0] #[.int .i64 room, .int .i64 0, .slice none 0 0] 24 24
  have Z0 := Lib.hid g0
  have T0 := Lib.hid g1
  have B0 := Lib.hid g3
  clear hrow hn hbt hq hi0 hz0 hz1 hz2 hN g0 g1 g3
  go_enter Try.func22, Try.ntmps22
  go_wp2_with (first
    | (go_at_call 26; refine (HPK.out _).mono ?_; rintro e w' ⟨rfl, rfl⟩)
    | (go_at_call 27; refine (HS.out _).mono ?_; rintro e w' ⟨rfl, rfl⟩))
  obtain ⟨V0, hV0⟩ : ∃ V, (W.alloc (.cells #[.int .i64 0, .int .i64 0, .slice none 0 0] 24)).alloc (.cells #[.int .i64 room, .int .i64 0, .slice none 0 0] 24) = V := ⟨_, rfl⟩
  rw [hV0] at Z0 T0 B0 ⊢
  clear hV0
  go_loopg [8, 9, 22] N (fun gq av okv iv wr => ∃ (i L : Nat) (all : List Fld) (Aa At : Option Addr) (ca ct M : Nat), iv = .int .i64 i ∧ okv = .bool true ∧ av = .slice Aa L ca ∧ i + gq = N ∧ L ≤ i ∧ M ≤ L ∧ L ≤ ca ∧ M ≤ ct ∧ ct ≤ 9223372036854775807 ∧ Hid (all = putL room ((fldsOf rs).take i)) ∧ Hid (all.length = L) ∧ Hid ((young room all).length = M) ∧
    Hid (wr.heap[W.heap.size]? = some (.cells #[.int .i64 0, .int .i64 0, .slice none 0 0] 24 (0, 0))) ∧ Hid (wr.heap[W.heap.size + 1]? = some (.cells #[.int .i64 room, .int .i64 L, .slice At M ct] 24 (0, 0))) ∧
    Hid (RowN wr (W.heap.size + 2) At (young room all)) ∧ Hid (OwnE FdE wr (W.heap.size + 2) 57 (.slice Aa L ca) all) ∧ Hid (ApartN (.slice Aa L ca) At (young room all)) ∧ Hid (Below W.heap.size W wr))
  case atStart => exact ⟨0, 0, [], none, none, 0, 0, 0, rfl, rfl, rfl, by omega, Nat.le_refl _, Nat.le_refl _, Nat.le_refl _, Nat.le_refl _, by omega, Lib.hid rfl, Lib.hid rfl, Lib.hid rfl, Z0, T0, Lib.hid (RowN.nil _ _ _), Lib.hid (OwnE.nil _ _ _), Lib.hid (fun k hk => by cases hk), B0⟩
  case round =>
    obtain ⟨i, L, all, Aa, At, ca, ct, M, rfl, rfl, rfl, hig, hLi, hML, hLc, hMt, hct, HALL, HLA, HYL, ZR, TR, RN, OA, AP, BK⟩ := hrel
    by_cases hlt : i < N
    · have hir : i < rs.length := by rw [HN.out]; omega
      obtain ⟨b, off, hA, hbl, hcell⟩ := HR.out (by omega)
      obtain ⟨x0, x1, x2, x3⟩ := hcell i hir
      have HTX := Lib.hid (HBT.out i (by omega))
      have HTK := Lib.hid (fldsOf_at rs (i := i) (by rw [HFL.out]; exact hlt))
      have hfw := fldOf_ok (rs.getD i raw0)
      obtain ⟨rw0, hrw⟩ : ∃ r, rs.getD i raw0 = r := ⟨_, rfl⟩
      rw [hrw] at x0 x1 x2 x3 HTX HTK hfw
      obtain ⟨kd, ra, rb, tx⟩ := rw0
      simp only at x0 x1 x2 x3 HTX
      have HFO := Lib.hid (fun w => fieldOf_any kd ra rb tx HTX.out w)
      obtain ⟨f, hf⟩ : ∃ f, fldOf ⟨kd, ra, rb, tx⟩ = f := ⟨_, rfl⟩
      rw [hf] at HFO HTK hfw
      have HFW := Lib.hid hfw.2
      have HFK := Lib.hid hfw.1
      subst hA
      have y0 := (BK.out.cell (p := ⟨b, off + i * 4, none⟩) hbl).trans x0
      have y1 := (BK.out.cell (p := ⟨b, off + i * 4 + 1, none⟩) hbl).trans x1
      have y2 := (BK.out.cell (p := ⟨b, off + i * 4 + 2, none⟩) hbl).trans x2
      have y3 := (BK.out.cell (p := ⟨b, off + i * 4 + 3, none⟩) hbl).trans x3
      have HALN := Lib.hid (show putL room ((fldsOf rs).take (i + 1)) = if room < (szF f : Int) then all else all ++ [f] by rw [HTK.out, putL_snoc, ← HALL.out]; rfl)
      have HAW := Lib.hid (show ∀ x ∈ all, okFd x ∧ FdWf x by rw [HALL.out]; exact HPM.out i)
      have HWT := Lib.hid (HWF.out all (by rw [HLA.out]; omega) (fun x hx => (HAW.out x hx).2))
      have HIT := Lib.hid (HINS.out all (by rw [HLA.out]; omega) (fun x hx => (HAW.out x hx).1) f HFK.out)
      have HIN := Lib.hid (fun w (h1 : RowN w (W.heap.size + 2) At (young room all)) => hI (.agg #[.int .i64 room, .int .i64 L, .slice At M ct]) (tabF room all) f w ⟨.slice At M ct, by rw [← HLA.out]; rfl, ⟨At, ct, by rw [← HYL.out]; rfl, by show (young room all).length ≤ ct; rw [HYL.out]; exact hMt, by unfold maxLen; exact hct, h1.row⟩⟩ HWT.out HFW.out)
      rw [HIT.out] at HIN
      unfold TbResN fdV at HIN
      unfold fdV at HFO
      have HSZ := Lib.hid (fun w => hZ f w HFW.out)
      unfold fdV at HSZ
      have hq92 : szF f ≤ 92 := by have := HFK.out; unfold okFd at this; unfold szF; omega
      obtain ⟨S1, hS1⟩ : ∃ S, strOfNums f.name = S := ⟨_, rfl⟩
      obtain ⟨S2, hS2⟩ : ∃ S, strOfNums f.val = S := ⟨_, rfl⟩
      have HFX := Lib.hid (show FdE.f f = [.string S1, .string S2] by rw [← hS1, ← hS2]; rfl)
      rw [hS1, hS2] at HFO HSZ HIN
      obtain ⟨qs, hqs⟩ : ∃ q, szF f = q := ⟨_, rfl⟩
      rw [hqs] at HSZ HIN HALN hq92
      have hnk : (i : Int) < (N : Int) := by omega
      have BKX := Lib.hid ((Below.refl wr.heap.size wr).alloc (Nat.le_refl _) (.cells #[.int .i64 kd, .int .i64 ra, .int .i64 rb, .string tx] 53))
      clear x0 x1 x2 x3 hcell hrw hf hfw hS1 hS2 hqs hir HIT HWT HTK hbl
      by_cases hbig : room < (qs : Int)
      · rw [if_pos hbig] at HIN HALN
        have e1 : decide (room < (qs : Int)) = true := by simp [hbig]
        clear hbig
        go_wp2_with fail
        refine (HFO.out _).mono ?_
        rintro e w1 ⟨rfl, b1⟩
        have b1' := BKX.out.trans (b1.mono BKX.out.size)
        have X1 := Lib.hid (b1'.alloc b1'.size (.cells #[.string S1, .string S2] 57))
        have G1 := Lib.hid (heap_alloc_new w1 (.cells #[.string S1, .string S2] 57))
        have B1 := Lib.hid (BK.out.trans (X1.out.mono BK.out.size))
        have Z1 := Lib.hid ((X1.out.block _ (lt_of_block ZR.out)).trans ZR.out)
        have T1 := Lib.hid ((X1.out.block _ (lt_of_block TR.out)).trans TR.out)
        have R1 := Lib.hid (RN.out.below X1.out)
        have O1 := Lib.hid (OwnE.later OA.out X1.out)
        clear b1 b1' y0 y1 y2 y3
        obtain ⟨q0, q1, q2⟩ := bk3T T1.out
        obtain ⟨y0, y1⟩ := bk2F G1.out
        go_wp2_with fail
        refine (HIN.out _ R1.out).mono ?_
        rintro e w2 ⟨b2, A2, c2, rfl, -, -, -⟩
        have X2 := Lib.hid (b2.alloc b2.size (.cells #[.int .i64 0, .int .i64 0, .slice A2 0 c2] 24))
        have B2 := Lib.hid (B1.out.trans (X2.out.mono B1.out.size))
        have G2 := Lib.hid ((X2.out.block _ (lt_of_block G1.out)).trans G1.out)
        have Z2 := Lib.hid ((X2.out.block _ (lt_of_block Z1.out)).trans Z1.out)
        have T2 := Lib.hid ((X2.out.block _ (lt_of_block T1.out)).trans T1.out)
        have R2 := Lib.hid (R1.out.below X2.out)
        have O2 := Lib.hid (OwnE.later O1.out X2.out)
        clear b2 q0 q1 q2 y0 y1
        simp only [tb0]
        go_upto_region 11 with fail
        obtain ⟨q0, q1, q2⟩ := bk3T T2.out
        obtain ⟨y0, y1⟩ := bk2F G2.out
        have z0 := Ext.cell q0
        have z3 := Ext.cell y0
        have z4 := Ext.cell y1
        clear q0 q1 q2 y0 y1
        refine wp_region_ext (by kernel_rfl) (by kernel_rfl) ?_
        repeat (go_big_quiet_step (first | (go_at_call 49; with_reducible exact Ext.call (HSZ.out _))))
        refine wpQuiet_nil ?_
        intro w4 hb4
        have B4 := Lib.hid (B2.out.trans (hb4.mono B2.out.size))
        have Z4 := Lib.hid ((hb4.block _ (lt_of_block Z2.out)).trans Z2.out)
        have T4 := Lib.hid ((hb4.block _ (lt_of_block T2.out)).trans T2.out)
        have R4 := Lib.hid (R2.out.below hb4)
        have O4 := Lib.hid (OwnE.later O2.out hb4)
        have HAS := Lib.hid HALN.out.symm
        clear z0 z3 z4 hb4
        go_wp2_with fail
        go_roundg (gk - 1)
        case measure => omega
        case rel => exact ⟨i + 1, L, all, Aa, At, ca, ct, M, by first | rfl | go_num, by first | rfl | simp, rfl, by omega, by omega, hML, hLc, hMt, hct, HAS, HLA, HYL, Z4, T4, R4, O4, AP, B4⟩
      · rw [if_neg hbig] at HIN HALN
        have HI2 := Lib.hid (fun w h => show Calls Try.prog 28 #[.agg #[.int .i64 room, .int .i64 L, .slice At M ct], .agg #[.string S1, .string S2]] w (fun e w' => Below w.heap.size w w' ∧ ∃ A c, e = .returned (.tuple #[.agg #[.int .i64 room, .int .i64 ((all ++ [f]).length : Int), .slice A (young room (all ++ [f])).length c], .int .i64 0]) ∧ (young room (all ++ [f])).length ≤ c ∧ c ≤ maxLen ∧ RowN w' w.heap.size A (young room (all ++ [f]))) from HIN.out w h)
        have HML1 := Lib.hid (show (young room (all ++ [f])).length ≤ L + 1 by obtain ⟨k, h1, h2⟩ := young_suffix room (all ++ [f]); rw [h2, List.length_drop, List.length_append, HLA.out, List.length_singleton]; omega)
        have hpn : ((all ++ [f]).length : Int) = (L : Int) + 1 := by rw [List.length_append, HLA.out, List.length_singleton]; omega
        have HL1 := Lib.hid (show (all ++ [f]).length = L + 1 by rw [List.length_append, HLA.out, List.length_singleton])
        obtain ⟨pn, hpn1⟩ : ∃ p : Int, ((all ++ [f]).length : Int) = p := ⟨_, rfl⟩
        rw [hpn1] at HI2 hpn
        obtain ⟨Yn, hYn⟩ : ∃ Y, young room (all ++ [f]) = Y := ⟨_, rfl⟩
        have HYN := Lib.hid hYn
        rw [hYn] at HI2 HML1
        obtain ⟨Mn, hMn⟩ : ∃ M, Yn.length = M := ⟨_, rfl⟩
        have HMN := Lib.hid hMn
        rw [hMn] at HI2 HML1
        have HPN := Lib.hid hpn
        clear hbig HIN hYn hMn hpn hpn1
        go_wp2_with fail
        refine (HFO.out _).mono ?_
        rintro e w1 ⟨rfl, b1⟩
        have b1' := BKX.out.trans (b1.mono BKX.out.size)
        have X1 := Lib.hid (b1'.alloc b1'.size (.cells #[.string S1, .string S2] 57))
        have G1 := Lib.hid (heap_alloc_new w1 (.cells #[.string S1, .string S2] 57))
        have B1 := Lib.hid (BK.out.trans (X1.out.mono BK.out.size))
        have Z1 := Lib.hid ((X1.out.block _ (lt_of_block ZR.out)).trans ZR.out)
        have T1 := Lib.hid ((X1.out.block _ (lt_of_block TR.out)).trans TR.out)
        have R1 := Lib.hid (RN.out.below X1.out)
        have O1 := Lib.hid (OwnE.later OA.out X1.out)
        have hs1 : wr.heap.size ≤ w1.heap.size := b1'.size
        have HKF := Lib.hid (fun k hk => show W.heap.size + 2 ≤ k ∧ k < w1.heap.size from ⟨(OwnE.lt OA.out k hk).1, Nat.lt_of_lt_of_le (OwnE.lt OA.out k hk).2 b1'.size⟩)
        clear b1 b1' y0 y1 y2 y3
        obtain ⟨q0, q1, q2⟩ := bk3T T1.out
        obtain ⟨y0, y1⟩ := bk2F G1.out
        go_wp2_with fail
        refine (HI2.out _ R1.out).mono ?_
        rintro e w2 ⟨b2, An, cn, rfl, s1, s2, rn2⟩
        have X2 := Lib.hid (b2.alloc b2.size (.cells #[.int .i64 room, .int .i64 pn, .slice An Mn cn] 24))
        have N2 := Lib.hid (heap_alloc_new w2 (.cells #[.int .i64 room, .int .i64 pn, .slice An Mn cn] 24))
        have B2 := Lib.hid (B1.out.trans (X2.out.mono B1.out.size))
        have G2 := Lib.hid ((X2.out.block _ (lt_of_block G1.out)).trans G1.out)
        have Z2 := Lib.hid ((X2.out.block _ (lt_of_block Z1.out)).trans Z1.out)
        have T2 := Lib.hid ((X2.out.block _ (lt_of_block T1.out)).trans T1.out)
        have O2 := Lib.hid (OwnE.later O1.out X2.out)
        have hs2 : w1.heap.size < w2.heap.size := Nat.lt_of_lt_of_le (lt_of_block G1.out) b2.size
        have ht2 := lt_of_block TR.out
        have hsz1 : (w1.alloc (.cells #[.string S1, .string S2] 57)).heap.size = w1.heap.size + 1 := by simp
        have R2 := Lib.hid ((rn2.low (show W.heap.size + 2 ≤ _ by rw [hsz1]; omega)).below ((Below.refl w2.heap.size w2).alloc (Nat.le_refl _) (.cells #[.int .i64 room, .int .i64 pn, .slice An Mn cn] 24)))
        have HAP := Lib.hid (show ApartN (.slice Aa L ca) An Yn from fun k hk hl b off ha e => by obtain ⟨b', off', e1, e2, _⟩ := rn2 hl; rw [ha] at e1; cases e1; have := (HKF.out k hk).2; rw [hsz1] at e2; omega)
        have HKK := Lib.hid (fun k hk => show W.heap.size + 2 ≤ k ∧ k < w1.heap.size ∧ k < w2.heap.size from ⟨(HKF.out k hk).1, (HKF.out k hk).2, Nat.lt_trans (HKF.out k hk).2 hs2⟩)
        have HYF := Lib.hid (show W.heap.size + 2 ≤ w2.heap.size ∧ W.heap.size + 2 ≤ w1.heap.size by omega)
        have HLL := Lib.hid (show all.length ≤ 12 by rw [HLA.out]; omega)
        have TK3 := Lib.hid (TK.mk (W := W) (R := W.heap.size) (T := W.heap.size + 1) (Y := w2.heap.size) (F := w1.heap.size) (A := An) (l := Yn) Z2.out T2.out N2.out G2.out B2.out R2.out)
        clear b2 q0 q1 q2 y0 y1 rn2
        go_upto_region 10 with fail
        have OA3 := Lib.hid O2.out
        obtain ⟨w3, hw3⟩ : ∃ x, w2.alloc (.cells #[.int .i64 room, .int .i64 pn, .slice An Mn cn] 24) = x := ⟨_, rfl⟩
        rw [hw3] at TK3 OA3 ⊢
        clear hw3
        refine wp_region_inv (fun lis_ act_ wld_ => ∃ (tb0 tb1 tb2 tb3 tb4 tb5 tb6 : Bool) (tx0 tx1 tx2 tx3 tx4 tx5 tx6 : Value), lis_ = #[tb0, tb1, tb2, tb3, tb4, tb5, tb6] ∧ act_ = { tmps := #[Value.int IntKind.i64 r0, Value.slice (some { block := b, off := off }) n c, undef, undef, Value.pointer (some { block := W.heap.size, off := 0 }), Value.slice none 0 0, Value.bool false, Value.pointer (some { block := W.heap.size + 1, off := 0 }), tx6, Value.bool true, undef, Value.pointer (some { block := wr.heap.size, off := 0 }), Value.pointer (some { block := w1.heap.size, off := 0 }), Value.pointer (some { block := w2.heap.size, off := 0 }), Value.int IntKind.i64 0, Value.int IntKind.i64 r0, Value.int IntKind.i64 q, Value.int IntKind.i64 room, Value.agg #[Value.int IntKind.i64 room, Value.int IntKind.i64 0, Value.slice none 0 0], Value.slice (some { block := b, off := off }) n c, Value.slice (some { block := b, off := off }) N c, Value.int IntKind.i64 ↑N, Value.int IntKind.i64 ↑i, Value.bool true, Value.pointer (some { block := b, off := off + i * 4 }), Value.agg #[Value.int IntKind.i64 kd, Value.int IntKind.i64 ra, Value.int IntKind.i64 rb, Value.string tx], Value.agg #[Value.int IntKind.i64 kd, Value.int IntKind.i64 ra, Value.int IntKind.i64 rb, Value.string tx], Value.agg #[Value.string S1, Value.string S2], Value.tuple #[Value.agg #[Value.int IntKind.i64 room, Value.int IntKind.i64 pn, Value.slice An Mn cn], Value.int IntKind.i64 0], Value.agg #[Value.int IntKind.i64 room, Value.int IntKind.i64 ↑L, Value.slice At M ct], Value.agg #[Value.string S1, Value.string S2], Value.tuple #[Value.agg #[Value.int IntKind.i64 room, Value.int IntKind.i64 pn, Value.slice An Mn cn], Value.int IntKind.i64 0], Value.agg #[Value.int IntKind.i64 room, Value.int IntKind.i64 pn, Value.slice An Mn cn], Value.int IntKind.i64 0, Value.int IntKind.i64 0, Value.bool true, tx0, tx1, tx2, tx3, tx4, u41, u42, u43, u44, u45, u46, u47, u48, u49, u50, u51, u52, u53, u54, u55, u56, u57, undef, undef, undef], defers := [] } ∧ TOf w3 W S1 S2 f room pn all Yn L ca Mn cn w2.heap.size w1.heap.size Aa An (.cells #[.int .i64 0, .int .i64 0, .slice none 0 0] 24 (0, 0)) (.cells #[.int .i64 room, .int .i64 L, .slice At M ct] 24 (0, 0)) (.cells #[.string S1, .string S2] 57 (0, 0)) (.agg #[.int .i64 room, .int .i64 pn, .slice An Mn cn]) (.slice Aa L ca) (.agg #[.string S1, .string S2]) tb0 tb1 tb2 tb3 tb4 tb5 tb6 tx0 tx1 tx2 tx3 tx4 tx5 tx6 wld_) (by kernel_rfl) ?h0 ?hfin ?hI
        case h0 => exact ⟨_, _, _, _, _, _, _, _, _, _, _, _, undef, _, rfl, rfl, ⟨(fun _ => (Below.refl _ _).drew), (fun h => by cases h), (fun h => by cases h), (fun h => by cases h), (fun h => by cases h), (fun _ => TK3.out.later (Below.refl _ _).drew), (fun _ => OwnE.later OA3.out (Below.refl _ _).drew), (fun _ => rfl), (fun h => by cases h), (fun h => by cases h), (fun h => by cases h), (fun h => by cases h), (fun h => by cases h), (fun h => by cases h), (fun h => by cases h)⟩⟩
        case hI =>
          rintro listed a w ⟨tb0, tb1, tb2, tb3, tb4, tb5, tb6, tx0, tx1, tx2, tx3, tx4, tx5, tx6, rfl, rfl, H⟩ i hi
          obtain ⟨hun, oj, hoj, hall⟩ := mem_ready.1 hi
          clear hi
          rcases i with _ | _ | _ | _ | _ | _ | _ | i
          · have ho := hoj
            simp only [List.getElem?_toArray, List.getElem?_cons_succ, List.getElem?_cons_zero, Option.some.injEq] at hoj
            subst hoj
            obtain rfl : tb0 = false := hun
            clear hall
            obtain rfl : tb5 = false := Bool.eq_false_iff.2 fun h => Bool.false_ne_true (H.d5 h).1
            obtain rfl : tb6 = false := Bool.eq_false_iff.2 fun h => Bool.false_ne_true (H.d6 h).1
            have hx_tk := H.tk rfl
            have hx_s8 := H.s8 rfl
            subst hx_s8
            obtain ⟨n0, n1, n2⟩ := bk3T hx_tk.y
            refine wpOp_step ho (fun K' hK => ?_)
            have HK := Lib.hid hK
            clear hK ho
            go_simp
            exact HK.out _ _ ⟨_, _, _, _, _, _, _, _, _, _, _, _, tx5, _, rfl, rfl, ⟨H.be, H.d3, H.d4, (fun h => by cases h), (fun h => by cases h), H.tk, H.oa, H.s8, (fun _ => rfl), H.h1, H.h2, H.h3, H.h4, (fun h => by cases h), (fun h => by cases h)⟩⟩
          · have ho := hoj
            simp only [List.getElem?_toArray, List.getElem?_cons_succ, List.getElem?_cons_zero, Option.some.injEq] at hoj
            subst hoj
            obtain rfl : tb1 = false := hun
            clear hall
            obtain rfl : tb4 = false := Bool.eq_false_iff.2 fun h => Bool.false_ne_true (H.d4 h).1
            obtain rfl : tb5 = false := Bool.eq_false_iff.2 fun h => Bool.false_ne_true (H.d5 h).2
            obtain rfl : tb6 = false := Bool.eq_false_iff.2 fun h => Bool.false_ne_true (H.d6 h).2.1
            have hbe := H.be rfl
            have hx_tk := H.tk rfl
            have hx_oa := H.oa rfl
            have hx_s8 := H.s8 rfl
            subst hx_s8
            refine wpOp_step ho (fun K' hK => ?_)
            have HK := Lib.hid hK
            clear hK ho
            go_simp
            exact HK.out _ _ ⟨_, _, _, _, _, _, _, _, _, _, _, _, tx5, _, rfl, rfl, ⟨(fun _ => hbe), H.d3, (fun h => by cases h), H.d5, (fun h => by cases h), H.tk, H.oa, H.s8, H.h0, (fun _ => rfl), H.h2, H.h3, (fun h => by cases h), (fun h => by cases h), (fun h => by cases h)⟩⟩
          · have ho := hoj
            simp only [List.getElem?_toArray, List.getElem?_cons_succ, List.getElem?_cons_zero, Option.some.injEq] at hoj
            subst hoj
            obtain rfl : tb2 = false := hun
            clear hall
            obtain rfl : tb3 = false := Bool.eq_false_iff.2 fun h => Bool.false_ne_true (H.d3 h)
            obtain rfl : tb4 = false := Bool.eq_false_iff.2 fun h => Bool.false_ne_true (H.d4 h).2
            obtain rfl : tb5 = false := Bool.eq_false_iff.2 fun h => Bool.false_ne_true (H.d5 h).2
            obtain rfl : tb6 = false := Bool.eq_false_iff.2 fun h => Bool.false_ne_true (H.d6 h).2.2.1
            have hbe := H.be rfl
            have hx_tk := H.tk rfl
            have hx_oa := H.oa rfl
            have hx_s8 := H.s8 rfl
            subst hx_s8
            obtain ⟨y0, y1⟩ := bk2F hx_tk.f
            refine wpOp_step ho (fun K' hK => ?_)
            have HK := Lib.hid hK
            clear hK ho
            go_simp
            exact HK.out _ _ ⟨_, _, _, _, _, _, _, _, _, _, _, _, tx5, _, rfl, rfl, ⟨(fun _ => hbe), (fun h => by cases h), H.d4, H.d5, (fun h => by cases h), H.tk, H.oa, H.s8, H.h0, H.h1, (fun _ => rfl), (fun h => by cases h), (fun h => by cases h), (fun h => by cases h), (fun h => by cases h)⟩⟩
          · have ho := hoj
            simp only [List.getElem?_toArray, List.getElem?_cons_succ, List.getElem?_cons_zero, Option.some.injEq] at hoj
            subst hoj
            obtain rfl : tb3 = false := hun
            obtain rfl : tb2 = true := hall ⟨2, .data⟩ (by simp) (by kernel_rfl)
            clear hall
            obtain rfl : tb4 = false := Bool.eq_false_iff.2 fun h => Bool.false_ne_true (H.d4 h).2
            obtain rfl : tb5 = false := Bool.eq_false_iff.2 fun h => Bool.false_ne_true (H.d5 h).2
            obtain rfl : tb6 = false := Bool.eq_false_iff.2 fun h => Bool.false_ne_true (H.d6 h).2.2.2.1
            have hbe := H.be rfl
            have hx_tk := H.tk rfl
            have hx_oa := H.oa rfl
            have hx_s8 := H.s8 rfl
            obtain rfl := H.h2 rfl
            subst hx_s8
            have BA := Lib.hid ((Below.refl w.heap.size w).alloc (Nat.le_refl _) (.cells #[.string S1, .string S2] 57))
            have NA := Lib.hid ((RowE.one (E := FdE) w f #[.string S1, .string S2] 57 w.heap.size rfl (HFX.out.symm)).more (show w.heap.size + 1 ≤ (w.alloc (.cells #[.string S1, .string S2] 57)).heap.size by simp))
            refine wpOp_step ho (fun K' hK => ?_)
            have HK := Lib.hid hK
            clear hK ho
            go_simp
            exact HK.out _ _ ⟨_, _, _, _, _, _, _, _, _, _, _, _, tx5, _, rfl, rfl, ⟨(fun _ => hbe.trans (BA.out.mono hbe.size)), (fun _ => rfl), (fun h => by cases h), H.d5, (fun h => by cases h), (fun _ => TK.later hx_tk BA.out), (fun _ => OwnE.later hx_oa BA.out), (fun _ => rfl), H.h0, H.h1, H.h2, (fun _ _ => ⟨_, rfl, NA.out⟩), (fun h => by cases h), (fun h => by cases h), (fun h => by cases h)⟩⟩
          · have ho := hoj
            simp only [List.getElem?_toArray, List.getElem?_cons_succ, List.getElem?_cons_zero, Option.some.injEq] at hoj
            subst hoj
            obtain rfl : tb4 = false := hun
            obtain rfl : tb1 = true := hall ⟨1, .data⟩ (by simp) (by kernel_rfl)
            obtain rfl : tb3 = true := hall ⟨3, .data⟩ (by simp) (by kernel_rfl)
            obtain rfl : tb2 = true := (H.d3 rfl)
            clear hall
            obtain rfl : tb5 = false := Bool.eq_false_iff.2 fun h => Bool.false_ne_true (H.d5 h).2
            obtain rfl : tb6 = false := Bool.eq_false_iff.2 fun h => Bool.false_ne_true (H.d6 h).2.2.2.2.1
            have hbe := H.be rfl
            have hx_tk := H.tk rfl
            have hx_oa := H.oa rfl
            have hx_s8 := H.s8 rfl
            obtain rfl := H.h1 rfl
            obtain rfl := H.h2 rfl
            have P3 := H.h3 rfl rfl
            subst hx_s8
            have hlo : W.heap.size + 2 ≤ w.heap.size := lt_of_block hx_tk.t
            obtain ⟨k3, rfl, hk3⟩ := P3
            have K3 := Lib.hid hk3
            have OA := Lib.hid hx_oa
            have TKK := Lib.hid hx_tk
            have hll := HLL.out
            clear hk3
            refine wpOp_step ho (fun K' hK => ?_)
            have HK := Lib.hid hK
            clear hK ho
            refine step_appE2 w rfl (.tmp 37) (.tmp 39) _ rfl (W.heap.size + 2) 57 i0 (.agg #[.string ⟨#[]⟩, .string ⟨#[]⟩]) 32 Try.underlying22 HI.out HZ.out HZ1.out HZ2.out rfl (by decide) _ all rfl OA.out w.heap.size (some ⟨k3, 0, none⟩) 1 1 [f] rfl K3.out rfl (by omega) hlo ?_
            intro v9 u9 own9 g9 hw9
            have O9 := Lib.hid own9
            have TG := Lib.hid (TKK.out.gr g9 HKK.out HAP.out)
            have AP9 := Lib.hid (show ApartN v9 An Yn from fun k hk hl b off ha => by rcases hw9 with e | e; (exact HAP.out k (e ▸ hk) hl b off ha); (obtain ⟨b', off', e1, _, e3, _⟩ := TKK.out.n hl; rw [ha] at e1; cases e1; rw [e] at hk; cases hk; exact Nat.ne_of_lt e3))
            clear own9 g9 hw9
            exact HK.out _ _ ⟨_, _, _, _, _, _, _, _, _, _, _, _, tx5, _, rfl, rfl, ⟨(fun h => by cases h), H.d3, (fun _ => ⟨rfl, rfl⟩), (fun h => by cases h), (fun h => by cases h), (fun _ => TG.out), (fun h => by cases h), H.s8, H.h0, H.h1, H.h2, (fun _ h => by cases h), (fun _ _ => ⟨O9.out, AP9.out⟩), (fun h => by cases h), (fun h => by cases h)⟩⟩
          · have ho := hoj
            simp only [List.getElem?_toArray, List.getElem?_cons_succ, List.getElem?_cons_zero, Option.some.injEq] at hoj
            subst hoj
            obtain rfl : tb5 = false := hun
            obtain rfl : tb0 = true := hall ⟨0, .data⟩ (by simp) (by kernel_rfl)
            obtain rfl : tb4 = true := hall ⟨4, .chain⟩ (by simp) (by kernel_rfl)
            obtain rfl : tb1 = true := (H.d4 rfl).1
            obtain rfl : tb3 = true := (H.d4 rfl).2
            obtain rfl : tb2 = true := (H.d3 rfl)
            clear hall
            obtain rfl : tb6 = false := Bool.eq_false_iff.2 fun h => Bool.false_ne_true (H.d6 h).2.2.2.2.2
            have hx_tk := H.tk rfl
            have hx_s8 := H.s8 rfl
            obtain rfl := H.h0 rfl
            obtain rfl := H.h1 rfl
            obtain rfl := H.h2 rfl
            have P4 := H.h4 rfl rfl
            subst hx_s8
            obtain ⟨o4, a4⟩ := P4
            obtain ⟨k1, gp⟩ := bk3_blk hx_tk.t (.int .i64 room) (.int .i64 pn) (.slice An Mn cn)
            have TK9 := Lib.hid (hx_tk.put k1 gp (HYF.out.1) (HYF.out.2))
            have O5 := Lib.hid (OwnE.kept o4 gp (fun e => by have := (OwnE.lt o4 _ e).1; omega))
            have A5 := Lib.hid a4
            obtain ⟨q0, q1, q2⟩ := bk3T hx_tk.t
            have qf := fun i => bk_frz hx_tk.t i
            clear k1 gp o4 a4
            refine wpOp_step ho (fun K' hK => ?_)
            have HK := Lib.hid hK
            clear hK ho
            go_simp
            exact HK.out _ _ ⟨_, _, _, _, _, _, _, _, _, _, _, _, tx5, _, rfl, rfl, ⟨(fun h => by cases h), H.d3, H.d4, (fun _ => ⟨rfl, rfl⟩), (fun h => by cases h), (fun h => by cases h), (fun h => by cases h), H.s8, H.h0, H.h1, H.h2, (fun _ h => by cases h), (fun _ h => by cases h), (fun _ => ⟨TK9.out, O5.out, A5.out⟩), (fun h => by cases h)⟩⟩
          · have ho := hoj
            simp only [List.getElem?_toArray, List.getElem?_cons_succ, List.getElem?_cons_zero, Option.some.injEq] at hoj
            subst hoj
            obtain rfl : tb6 = false := hun
            obtain rfl : tb0 = true := hall ⟨0, .phase⟩ (by simp) (by kernel_rfl)
            obtain rfl : tb1 = true := hall ⟨1, .phase⟩ (by simp) (by kernel_rfl)
            obtain rfl : tb2 = true := hall ⟨2, .phase⟩ (by simp) (by kernel_rfl)
            obtain rfl : tb3 = true := hall ⟨3, .phase⟩ (by simp) (by kernel_rfl)
            obtain rfl : tb4 = true := hall ⟨4, .data⟩ (by simp) (by kernel_rfl)
            obtain rfl : tb5 = true := hall ⟨5, .chain⟩ (by simp) (by kernel_rfl)
            clear hall
            have hx_s8 := H.s8 rfl
            obtain rfl := H.h0 rfl
            obtain rfl := H.h1 rfl
            obtain rfl := H.h2 rfl
            have P5 := H.h5 rfl
            refine wpOp_step ho (fun K' hK => ?_)
            have HK := Lib.hid hK
            clear hK ho
            go_simp
            exact HK.out _ _ ⟨_, _, _, _, _, _, _, _, _, _, _, _, tx5, _, rfl, rfl, ⟨(fun h => by cases h), H.d3, H.d4, H.d5, (fun _ => ⟨rfl, rfl, rfl, rfl, rfl, rfl⟩), (fun h => by cases h), (fun h => by cases h), (fun h => by cases h), H.h0, H.h1, H.h2, (fun _ h => by cases h), (fun _ h => by cases h), H.h5, (fun _ => rfl)⟩⟩
          · have ho := hoj
            simp at ho
        case hfin =>
          rintro listed a w ⟨tb0, tb1, tb2, tb3, tb4, tb5, tb6, tx0, tx1, tx2, tx3, tx4, tx5, tx6, rfl, rfl, H⟩ hr
          have hb : tb6 = true := by
            clear H
            revert tb0 tb1 tb2 tb3 tb4 tb5 tb6
            decide +kernel
          subst hb
          clear hr
          obtain rfl : tb0 = true := (H.d6 rfl).1
          obtain rfl : tb1 = true := (H.d6 rfl).2.1
          obtain rfl : tb2 = true := (H.d6 rfl).2.2.1
          obtain rfl : tb3 = true := (H.d6 rfl).2.2.2.1
          obtain rfl : tb4 = true := (H.d6 rfl).2.2.2.2.1
          obtain rfl : tb5 = true := (H.d6 rfl).2.2.2.2.2
          obtain ⟨tk, ow, ap⟩ := H.h5 rfl
          have e6 := H.h6 rfl
          have TKQ := Lib.hid tk
          have OWQ := Lib.hid ow
          have APQ := Lib.hid ap
          clear tk ow ap H
          obtain ⟨w4, hw4⟩ : ∃ x, x = w := ⟨_, rfl⟩
          subst w
          obtain ⟨A8, c8, h8, l8, _, _⟩ := OWQ.out.slice
          rw [HL1.out] at h8 l8
          subst h8
          subst e6
          go_upto_region 11 with fail
          refine wp_region_ext (by kernel_rfl) (by kernel_rfl) ?_
          repeat (go_big_quiet_step (first | fail))
          refine wpQuiet_nil ?_
          intro w5 hb5
          have TK5 := Lib.hid (TKQ.out.later hb5)
          have O5 := Lib.hid (OwnE.later OWQ.out hb5)
          have HAS := Lib.hid HALN.out.symm
          have ZZ := Lib.hid TK5.out.r
          have TT := Lib.hid (show w5.heap[W.heap.size + 1]? = some (.cells #[.int .i64 room, .int .i64 ((L + 1 : Nat) : Int), .slice An Mn cn] 24 (0, 0)) by rw [show ((L + 1 : Nat) : Int) = pn by rw [HPN.out]; omega]; exact TK5.out.t)
          have RR := Lib.hid (show RowN w5 (W.heap.size + 2) An (young room (all ++ [f])) by rw [HYN.out]; exact TK5.out.n)
          have AA := Lib.hid (show ApartN (.slice A8 (L + 1) c8) An (young room (all ++ [f])) by rw [HYN.out]; exact APQ.out)
          have BB := Lib.hid TK5.out.b
          have HM := Lib.hid (show (young room (all ++ [f])).length = Mn by rw [HYN.out]; exact HMN.out)
          have hml := HML1.out
          unfold maxLen at s2
          clear hb5
          go_wp2_with fail
          go_roundg (gk - 1)
          case measure => omega
          case rel => exact ⟨i + 1, L + 1, all ++ [f], A8, An, c8, cn, Mn, by first | rfl | go_num, by first | rfl | simp, rfl, by omega, by omega, hml, l8, s1, s2, HAS, HL1, HM, ZZ, TT, RR, O5, AA, BB⟩
    · obtain rfl : i = N := by omega
      have HAE := Lib.hid (show all = putL room (fldsOf rs) by rw [HALL.out, List.take_of_length_le (by rw [HFL.out]; exact Nat.le_refl _)])
      obtain ⟨q0, q1, q2⟩ := bk3T TR.out
      obtain ⟨z0, z1, z2⟩ := bk3T ZR.out
      have zf := fun i => bk_frz ZR.out i
      go_wp2_with fail
      obtain ⟨k1, gp⟩ := bk3_blk ZR.out (.int .i64 room) (.int .i64 L) (.slice At M ct)
      obtain ⟨r0, r1, r2⟩ := bk3T k1
      have O6 := OwnE.kept OA.out gp (fun e => by have := (OwnE.lt OA.out _ e).1; omega)
      have R6 := RN.out.gr gp (fun b off e hl hb q => by cases q; omega)
      refine bodyPost_ret (by simp [results, Try.results22, go_sem, r0, r1, r2]; try rfl) rfl ?_
      obtain ⟨A8, c8, h8, l8, m8, r8⟩ := O6.slice
      injection h8 with e1 e2 e3
      subst e1 e3
      exact ⟨all, At, Aa, ct, ca, HAE.out, by rw [HLA.out, HYL.out], by rw [HYL.out]; exact hMt, by unfold maxLen; exact hct, l8, m8, R6.row, r8, gr_from BK.out BK.out.size (Nat.le_refl _) gp⟩
end Go.Proofs.Ytlddbojfikkhfaa
