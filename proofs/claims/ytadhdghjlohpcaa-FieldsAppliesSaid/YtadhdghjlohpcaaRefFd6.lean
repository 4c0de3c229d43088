/- The document's answers on fields: Applied. -/
import Derived.Test.YtadhdghjlohpcaaRefFd5
namespace Go.Proofs.Ytadhdghjlohpcaa.P
set_option linter.unusedVariables false
open Go.RowKit
theorem pxTR_pos {b : List Int} {w : Int} (hb : Byt b) (h : (pxTR b w).2.2 = 0) : 1 ≤ (pxTR b w).2.1 := by
  unfold pxTR at h ⊢
  by_cases c : (pxR b w).2.2 ≠ 0
  · rw [if_pos c] at h; exact absurd h c
  · rw [if_neg c] at h ⊢
    have i := pxR_in (fun j => (hb j).1) (Decidable.byContradiction c)
    by_cases d : 120 < (pxR b w).1
    · rw [if_pos d] at h; cases h
    · rw [if_neg d] at h ⊢
      by_cases e : (b.length : Int) < (pxR b w).2.1 + (pxR b w).1
      · rw [if_pos e] at h; cases h
      · rw [if_neg e]
        simp only
        omega
/-- a step that is done takes bytes that are there -/
theorem appR_in {t : Tb} {b : List Int} (hb : Byt b) (h : (appR t b).2.2 = 0) : 1 ≤ (appR t b).2.1 ∧ (appR t b).2.1 ≤ b.length := by
  unfold appR at h ⊢
  by_cases c1 : 32 ≤ b.getD 0 0 ∧ b.getD 0 0 < 64
  · rw [if_pos c1] at h ⊢
    by_cases x : (pxR b 5).2.2 ≠ 0
    · rw [if_pos x] at h; exact absurd h x
    · rw [if_neg x]
      have i := pxR_in (fun j => (hb j).1) (Decidable.byContradiction x)
      exact ⟨i.2.2.1, i.2.2.2.2⟩
  · rw [if_neg c1] at h ⊢
    by_cases c2 : 64 ≤ b.getD 0 0 ∧ b.getD 0 0 < 96
    · rw [if_pos c2] at h ⊢
      by_cases x : (pxTR b 5).2.2 ≠ 0
      · rw [if_pos x] at h; exact absurd h x
      · rw [if_neg x] at h ⊢
        have h1 := pxTR_in (w := 5) hb
        have h1' := pxTR_pos hb (Decidable.byContradiction x)
        have h2 := pxTR_in (w := 7) (hb.drop (pxTR b 5).2.1.toNat)
        rw [List.length_drop] at h2
        by_cases y : (pxTR (b.drop (pxTR b 5).2.1.toNat) 7).2.2 ≠ 0
        · rw [if_pos y] at h; exact absurd h y
        · rw [if_neg y]
          simp only
          omega
    · rw [if_neg c2] at h; cases h
theorem resT_wf {t : Tb} {n : Int} (hw : TbWf t) : TbWf (resT t n).1 := by
  have hz : TbWf tb0 := ⟨by decide, by decide, by decide, fun x hx => by cases hx⟩
  unfold resT
  split
  · exact hz
  · split
    · exact hz
    · obtain ⟨k, h1, h2⟩ := young_suffix n t.rows
      refine ⟨by simp only; omega, hw.put, ?_, fun x hx => ?_⟩
      · simp only [h2, List.length_drop]; have := hw.len; omega
      · simp only [h2] at hx; exact hw.rows x (List.mem_of_mem_drop hx)
theorem insT_wf {t : Tb} {f : Fld} (hw : TbWf t) (hf : FdWf f) : TbWf (insT t f).1 := by
  have hz : TbWf tb0 := ⟨by decide, by decide, by decide, fun x hx => by cases hx⟩
  unfold insT
  by_cases c : faultTb t ≠ 0
  · rw [if_pos c]; exact hz
  · rw [if_neg c]
    have ok := ((faultTb_iff t).1 (Decidable.byContradiction c))
    have h4 := wtL_len t.rows
    have h5 := ok.2.2.2.1
    have h6 := ok.1.2
    have h7 := ok.2.1
    split
    · exact hz
    · split
      · exact hz
      · split
        · exact hz
        · obtain ⟨k, h1, h2⟩ := young_suffix t.room (t.rows ++ [f])
          refine ⟨hw.room, by simp only; omega, ?_, fun x hx => ?_⟩
          · simp only [h2, List.length_drop, List.length_append, List.length_singleton]; omega
          · simp only [h2] at hx
            rcases List.mem_append.1 (List.mem_of_mem_drop hx) with q | q
            · exact hw.rows x q
            · rw [List.mem_singleton.1 q]; exact hf
theorem appR_wf {t : Tb} {b : List Int} (hw : TbWf t) (hb : Byt b) (hl : b.length ≤ 140737488355328) : TbWf (appR t b).1 := by
  unfold appR
  split
  · split
    · exact hw
    · exact resT_wf hw
  · split
    · split
      · exact hw
      · split
        · exact hw
        · have h1 := pxTR_wf 5 hb
          have h2 := pxTR_wf 7 (hb.drop (pxTR b 5).2.1.toNat)
          rw [List.length_drop] at h2
          exact insT_wf hw ⟨h1.1, h2.1, Nat.le_trans h1.2 hl, by simp only; omega⟩
    · exact hw
/-- all that is told ahead, from a place on -/
def appsR : Nat → Tb → List Int → Nat → Tb × Int × Int
  | 0, t, b, a => (t, (a : Int), 0)
  | g + 1, t, b, a => if b.length ≤ a then (t, (a : Int), 0) else if (appR t (b.drop a)).2.2 = 4 then (t, (a : Int), 0) else if (appR t (b.drop a)).2.2 ≠ 0 then (tb0, 0, (appR t (b.drop a)).2.2) else appsR g (appR t (b.drop a)).1 b (a + (appR t (b.drop a)).2.1.toNat)
/-- what Apply says, by P15.5 -/
def appAll (t : Tb) (b : List Int) : Tb × Int × Int := if faultTb t ≠ 0 then (tb0, 0, faultTb t) else appsR (b.length + 1) t b 0
/-- a table and an answer in their boxes, old memory as it was -/
structure TKA (W : World) (oZ oY : Obj) (v : Value) (t : Tb) (w : World) : Prop where
  z : w.heap[W.heap.size]? = some oZ
  y : w.heap[W.heap.size + 1]? = some oY
  b : Below W.heap.size W w
  v : TbVal w w.heap.size v t
theorem TKA.later {W : World} {oZ oY : Obj} {v : Value} {t : Tb} {w w' : World} (h : TKA W oZ oY v t w) (b : Below w.heap.size w w') : TKA W oZ oY v t w' :=
  ⟨(b.block _ (lt_of_block h.z)).trans h.z, (b.block _ (lt_of_block h.y)).trans h.y, h.b.trans (b.mono h.b.size), h.v.on b⟩
theorem TKA.put {W : World} {oZ oY : Obj} {v : Value} {t : Tb} {w w' : World} {q : Nat} {a0 a1 : Int} {p : Option Addr} {n c : Nat} {T : TypeId} (h : TKA W oZ oY v t w) (hk : w.heap[q]? = some (.cells #[.int .i64 a0, .int .i64 a1, .slice p n c] T (0, 0))) (g : w.grownBy w' (some q)) (hq : W.heap.size + 2 ≤ q) : TKA W oZ oY v t w' :=
  ⟨(g.block _ (lt_of_block h.z) (by simp; omega)).trans h.z, (g.block _ (lt_of_block h.y) (by simp; omega)).trans h.y, h.b.grown g h.b.size (fun k e => by cases e; omega), (h.v.gr hk g).more g.size⟩
/-- another table is put into the first box -/
theorem TKA.set {W : World} {oY : Obj} {v v' : Value} {t t' : Tb} {w w' : World} {a0 a1 : Int} {p : Option Addr} {n c : Nat} {T : TypeId} {oZ' : Obj} (h : TKA W (.cells #[.int .i64 a0, .int .i64 a1, .slice p n c] T (0, 0)) oY v t w) (hz : w'.heap[W.heap.size]? = some oZ') (g : w.grownBy w' (some W.heap.size)) (hv : TbVal w w.heap.size v' t') : TKA W oZ' oY v' t' w' :=
  ⟨hz, (g.block _ (lt_of_block h.y) (by simp)).trans h.y, h.b.grown g h.b.size (fun k e => by cases e; exact Nat.le_refl _), (hv.gr h.z g).more g.size⟩
end Go.Proofs.Ytadhdghjlohpcaa.P
namespace Go.Proofs.Ytadhdghjlohpcaa
set_option linter.unusedVariables false
open Go.RowKit P

structure Fd6 (w0 : World) (W : World) (S X : ByteArray) (T T2 : Tb) (A1 : Option Addr) (n1 c1 K : Nat) (r1 p1 k y : Int) (V0 V1 V2 V3 V7 V8 V11 V12 : Value) (tb0 tb1 tb2 tb3 tb4 tb5 tb6 tb7 tb8 tb9 tb10 tb11 tb12 : Bool) (tx0 tx1 tx2 tx3 tx4 tx5 tx6 tx7 tx8 tx9 tx10 tx11 tx12 : Value) (w : World) : Prop where
  be : tb10 = false → Below w0.heap.size w0 w
  d3 : tb3 = true → tb1 = true ∧ tb2 = true
  d4 : tb4 = true → tb0 = true ∧ tb3 = true
  d5 : tb5 = true → tb4 = true
  d6 : tb6 = true → tb5 = true
  d7 : tb7 = true → tb5 = true
  d8 : tb8 = true → tb5 = true
  d10 : tb10 = true → tb0 = true ∧ tb1 = true ∧ tb2 = true ∧ tb3 = true ∧ tb4 = true ∧ tb5 = true ∧ tb6 = true ∧ tb9 = true
  d11 : tb11 = true → tb0 = true ∧ tb1 = true ∧ tb2 = true ∧ tb3 = true ∧ tb4 = true ∧ tb5 = true ∧ tb6 = true ∧ tb7 = true ∧ tb9 = true ∧ tb10 = true
  d12 : tb12 = true → tb0 = true ∧ tb1 = true ∧ tb2 = true ∧ tb3 = true ∧ tb4 = true ∧ tb5 = true ∧ tb6 = true ∧ tb7 = true ∧ tb8 = true ∧ tb9 = true ∧ tb10 = true ∧ tb11 = true
  tk : tb10 = false → TKA W (.cells #[.int .i64 r1, .int .i64 p1, .slice A1 n1 c1] 24 (0, 0)) (.cells #[.int .i64 0, .int .i64 0, .slice none 0 0] 24 (0, 0)) (.agg #[.int .i64 r1, .int .i64 p1, .slice A1 n1 c1]) T w
  t4 : tb4 = true → ∃ u, tx4 = .tuple #[u, .int .i64 k, .int .i64 y]
  t5 : tb5 = true → ∃ u, tx5 = .tuple #[u, .int .i64 k, .int .i64 y]
  h0 : tb0 = true → tx0 = V0
  h1 : tb1 = true → tx1 = V1
  h2 : tb2 = true → tx2 = V2
  h3 : tb3 = true → tx3 = V3
  h4 : tb4 = true → tb10 = false → ∃ u, tx4 = .tuple #[u, .int .i64 k, .int .i64 y] ∧ TbVal w w.heap.size u T2
  h5 : tb5 = true → tb10 = false → ∃ u, tx5 = .tuple #[u, .int .i64 k, .int .i64 y] ∧ TbVal w w.heap.size u T2
  h6 : tb6 = true → tb10 = false → TbVal w w.heap.size tx6 T2
  h7 : tb7 = true → tx7 = V7
  h8 : tb8 = true → tx8 = V8
  h9 : tb9 = true → tb10 = false → ∃ q, tx9 = .pointer (some ⟨q, 0, none⟩) ∧ w0.heap.size ≤ q ∧ w.heap[q]? = some (.cells #[.int .i64 0, .int .i64 0, .slice none 0 0] 24 (0, 0))
  h10 : tb10 = true → ∃ q A n c r p, tx9 = .pointer (some ⟨q, 0, none⟩) ∧ w0.heap.size ≤ q ∧ w.heap[q]? = some (.cells #[.int .i64 r, .int .i64 p, .slice A n c] 24 (0, 0)) ∧ TbVal w w.heap.size (.agg #[.int .i64 r, .int .i64 p, .slice A n c]) T2 ∧ TKA W (.cells #[.int .i64 r1, .int .i64 p1, .slice A1 n1 c1] 24 (0, 0)) (.cells #[.int .i64 0, .int .i64 0, .slice none 0 0] 24 (0, 0)) (.agg #[.int .i64 r1, .int .i64 p1, .slice A1 n1 c1]) T w
  h11 : tb11 = true → tx11 = V11
  h12 : tb12 = true → tx12 = V12
set_option maxRecDepth 100000 in
set_option maxHeartbeats 2000000 in
theorem refAps_any (v : Value) (t : Tb) (b : List Int) (W : World) (hv : TbVal W W.heap.size v t) (hw : TbWf t) (hb : Byt b) (hl : b.length ≤ 140737488355328) :
    Calls Try.prog 21 #[v, .string (strOfNums b)] W (TbRes3 (appAll t b) W) := by
  have HFT := Lib.hid (fun w (hb : Below W.heap.size W w) => refTabF_any v t w (hv.on hb) hw)
  have hD : appAll t b = if faultTb t ≠ 0 then (tb0, 0, faultTb t) else appsR (b.length + 1) t b 0 := rfl
  rw [hD]
  obtain ⟨A, N, cp, room, put, rfl, hv'⟩ := tb_partsR hv
  obtain ⟨g1, g2, g3⟩ := two_bk W #[.int .i64 room, .int .i64 put, .slice A N cp] #[.int .i64 0, .int .i64 0, .slice none 0 0] 24 24
  have B0 := Lib.hid g3
  have TK0 : Hid (TKA _ _ _ _ _ _) := Lib.hid ⟨g1, g2, g3, hv'.on g3⟩
  have HWT0 := Lib.hid hw
  have HBY := Lib.hid hb
  have HBL := Lib.hid hl
  have hsz : (strOfNums b).size = b.length := strOfNums_size b
  obtain ⟨S, hS⟩ : ∃ S, strOfNums b = S := ⟨_, rfl⟩
  have HSS := Lib.hid hS
  rw [hS] at hsz ⊢
  have HSZ := Lib.hid hsz
  have HS47 := Lib.hid (show S.size ≤ 140737488355328 by omega)
  obtain ⟨x, hx⟩ : ∃ x, faultTb t = x := ⟨_, rfl⟩
  rw [hx] at HFT ⊢
  unfold TbRes3
  clear hS hx hsz hv hv' hw hb hl hD g1 g2 g3
  by_cases h0 : x = 0
  · subst h0
    rw [if_neg (fun k => k rfl)]
    obtain ⟨R, hR⟩ : ∃ R, appsR (b.length + 1) t b 0 = R := ⟨_, rfl⟩
    rw [hR]
    have HRR := Lib.hid hR
    clear hR
    go_enter Try.func21, Try.ntmps21
    go_wp2_with (go_at_call 36; refine (HFT.out _ B0.out).mono ?_; rintro e w1 ⟨rfl, b1⟩; have TK1 := Lib.hid (TK0.out.later b1); clear b1; obtain ⟨q0, q1, q2⟩ := bk3T TK1.out.z; have zf := fun j => bk_frz TK1.out.z j; obtain ⟨y0, y1, y2⟩ := bk3T TK1.out.y; have yf := fun j => bk_frz TK1.out.y j)
    clear q0 q1 q2 zf y0 y1 y2 yf
    go_loopg [8] (b.length + 1) (fun gq av wr => ∃ (K : Nat) (T : Tb) (A1 : Option Addr) (n1 c1 : Nat) (r1 p1 : Int), av = .int .i64 (K : Int) ∧ K ≤ b.length ∧ b.length + 1 ≤ K + gq ∧ Hid (appsR gq T b K = R) ∧ Hid (TbWf T) ∧ wr.heap[W.heap.size]? = some (.cells #[.int .i64 r1, .int .i64 p1, .slice A1 n1 c1] 24 (0, 0)) ∧ Hid (TKA W (.cells #[.int .i64 r1, .int .i64 p1, .slice A1 n1 c1] 24 (0, 0)) (.cells #[.int .i64 0, .int .i64 0, .slice none 0 0] 24 (0, 0)) (.agg #[.int .i64 r1, .int .i64 p1, .slice A1 n1 c1]) T wr))
    case atStart => exact ⟨0, t, A, N, cp, room, put, rfl, Nat.zero_le _, by omega, HRR, HWT0, TK1.out.z, TK1⟩
    case round =>
      obtain ⟨K, T, A1, n1, c1, r1, p1, rfl, hKl, hg, HLR, HWT, hz9, TK⟩ := hrel
      clear hz9
      have hsz := HSZ.out
      by_cases hend : b.length ≤ K
      · obtain rfl : R = (T, (K : Int), 0) := by
          have := HLR.out
          cases gk with
          | zero => rw [appsR] at this; exact this.symm
          | succ g => rw [appsR, if_pos hend] at this; exact this.symm
        have e1 : decide ((K : Int) < (S.size : Int)) = false := by simp; omega
        have e1n : decide (K < S.size) = false := by simp; omega
        have e1p : ¬ K < S.size := by omega
        obtain ⟨q0, q1, q2⟩ := bk3T TK.out.z
        have yf := fun j => bk_frz TK.out.y j
        obtain ⟨y0, y1, y2⟩ := bk3T TK.out.y
        clear hsz hend HLR hg hKl
        go_wp2_with fail
        obtain ⟨k1, gp⟩ := bk3_blk TK.out.y (.int .i64 r1) (.int .i64 p1) (.slice A1 n1 c1)
        obtain ⟨r0, r1', r2⟩ := bk3T k1
        refine bodyPost_ret (by simp [results, Try.results21, go_sem, r0, r1', r2]; try rfl) rfl ?_
        exact ⟨gr_from TK.out.b TK.out.b.size (Nat.le_succ _) gp, _, rfl, (TK.out.v.gr TK.out.y gp).more gp.size⟩
      · have hKl2 : K < b.length := by omega
        obtain ⟨g, rfl⟩ : ∃ g, gk = g + 1 := ⟨gk - 1, by omega⟩
        have HLS := Lib.hid (show R = if (appR T (b.drop K)).2.2 = 4 then (T, (K : Int), 0) else if (appR T (b.drop K)).2.2 ≠ 0 then (tb0, 0, (appR T (b.drop K)).2.2) else appsR g (appR T (b.drop K)).1 b (K + (appR T (b.drop K)).2.1.toNat) by
          have := HLR.out
          rw [appsR, if_neg hend] at this
          exact this.symm)
        have hdl : (b.drop K).length = b.length - K := List.length_drop
        have hbl := HBL.out
        have HAP := Lib.hid (fun w h => refAp_any (.agg #[.int .i64 r1, .int .i64 p1, .slice A1 n1 c1]) T (b.drop K) w h HWT.out (HBY.out.drop K) (by omega) (by omega))
        have HIN := Lib.hid (fun h => appR_in (t := T) (b := b.drop K) (HBY.out.drop K) h)
        have HWF := Lib.hid (appR_wf (t := T) (b := b.drop K) HWT.out (HBY.out.drop K) (by omega))
        have HX := Lib.hid (show S.extract K S.size = strOfNums (b.drop K) by rw [← HSS.out, str_mid2, strOfNums_size, List.take_of_length_le (by omega)])
        obtain ⟨⟨T2, k, y⟩, hap⟩ : ∃ r, appR T (b.drop K) = r := ⟨_, rfl⟩
        rw [hap] at HAP HIN HWF HLS
        unfold TbRes3 at HAP
        dsimp only at HAP HIN HWF HLS
        obtain ⟨X, hX⟩ : ∃ X, strOfNums (b.drop K) = X := ⟨_, rfl⟩
        rw [hX] at HAP HX
        rw [hdl] at HIN
        have HKI := Lib.hid (show (K : Int) ≤ (S.size : Int) by omega)
        have e1 : decide ((K : Int) < (S.size : Int)) = true := by simp; omega
        have e1n : decide (K < S.size) = true := by simp; omega
        have e1p : K < S.size := by omega
        have HRI := Lib.hid (show 0 < b.length - K by omega)
        clear hap hX hdl HLR hend hbl hsz
        go_upto_region 6 with fail
        refine wp_region_inv (fun lis_ act_ wld_ => ∃ (tb0 tb1 tb2 tb3 tb4 tb5 tb6 tb7 tb8 tb9 tb10 tb11 tb12 : Bool) (tx0 tx1 tx2 tx3 tx4 tx5 tx6 tx7 tx8 tx9 tx10 tx11 tx12 : Value), lis_ = #[tb0, tb1, tb2, tb3, tb4, tb5, tb6, tb7, tb8, tb9, tb10, tb11, tb12] ∧ act_ = { tmps := #[Value.agg #[Value.int IntKind.i64 room, Value.int IntKind.i64 put, Value.slice A N cp], Value.string S, Value.pointer (some { block := W.heap.size, off := 0 }), undef, Value.pointer (some { block := W.heap.size + 1, off := 0 }), u5, u6, Value.int IntKind.i64 0, Value.int IntKind.i64 ↑K, tx9, tx11, tx12, Value.agg #[Value.int IntKind.i64 room, Value.int IntKind.i64 put, Value.slice A N cp], Value.int IntKind.i64 0, Value.int IntKind.i64 0, Value.bool false, undef, undef, Value.int IntKind.i64 ↑K, Value.string S, Value.int IntKind.i64 ↑S.size, Value.bool true, tx5, tx0, tx1, tx2, tx3, tx4, tx6, tx7, tx8, u31, u32, u33, u34, u35, u36, u37, u38, u39, u40, u41, u42, undef, undef], defers := [] } ∧ Fd6 wr W S X T T2 A1 n1 c1 K r1 p1 k y (.agg #[.int .i64 r1, .int .i64 p1, .slice A1 n1 c1]) (.string S) (.int .i64 (K : Int)) (.string X) (.int .i64 k) (.int .i64 y) (.int .i64 k) (.int .i64 y) tb0 tb1 tb2 tb3 tb4 tb5 tb6 tb7 tb8 tb9 tb10 tb11 tb12 tx0 tx1 tx2 tx3 tx4 tx5 tx6 tx7 tx8 tx9 tx10 tx11 tx12 wld_) (by kernel_rfl) ?h0 ?hfin ?hI
        case h0 => exact ⟨_, _, _, _, _, _, _, _, _, _, _, _, _, _, _, _, _, _, _, _, _, _, _, undef, _, _, rfl, rfl, ⟨(fun _ => (Below.refl _ _).drew), (fun h => by cases h), (fun h => by cases h), (fun h => by cases h), (fun h => by cases h), (fun h => by cases h), (fun h => by cases h), (fun h => by cases h), (fun h => by cases h), (fun h => by cases h), (fun _ => TK.out.later (Below.refl _ _).drew), (fun h => by cases h), (fun h => by cases h), (fun h => by cases h), (fun h => by cases h), (fun h => by cases h), (fun h => by cases h), (fun h => by cases h), (fun h => by cases h), (fun h => by cases h), (fun h => by cases h), (fun h => by cases h), (fun h => by cases h), (fun h => by cases h), (fun h => by cases h), (fun h => by cases h)⟩⟩
        case hI =>
          rintro listed a w ⟨tb0, tb1, tb2, tb3, tb4, tb5, tb6, tb7, tb8, tb9, tb10, tb11, tb12, tx0, tx1, tx2, tx3, tx4, tx5, tx6, tx7, tx8, tx9, tx10, tx11, tx12, rfl, rfl, H⟩ i hi
          obtain ⟨hun, oj, hoj, hall⟩ := mem_ready.1 hi
          clear hi
          rcases i with _ | _ | _ | _ | _ | _ | _ | _ | _ | _ | _ | _ | _ | i
          · have ho := hoj
            simp only [List.getElem?_toArray, List.getElem?_cons_succ, List.getElem?_cons_zero, Option.some.injEq] at hoj
            subst hoj
            obtain rfl : tb0 = false := hun
            clear hall
            obtain rfl : tb4 = false := Bool.eq_false_iff.2 fun h => Bool.false_ne_true (H.d4 h).1
            obtain rfl : tb5 = false := Bool.eq_false_iff.2 fun h => Bool.false_ne_true (H.d5 h)
            obtain rfl : tb6 = false := Bool.eq_false_iff.2 fun h => Bool.false_ne_true (H.d6 h)
            obtain rfl : tb7 = false := Bool.eq_false_iff.2 fun h => Bool.false_ne_true (H.d7 h)
            obtain rfl : tb8 = false := Bool.eq_false_iff.2 fun h => Bool.false_ne_true (H.d8 h)
            obtain rfl : tb10 = false := Bool.eq_false_iff.2 fun h => Bool.false_ne_true (H.d10 h).1
            obtain rfl : tb11 = false := Bool.eq_false_iff.2 fun h => Bool.false_ne_true (H.d11 h).1
            obtain rfl : tb12 = false := Bool.eq_false_iff.2 fun h => Bool.false_ne_true (H.d12 h).1
            have hbe := H.be rfl
            have hx_tk := H.tk rfl
            have hx_t4 := H.t4
            have hx_t5 := H.t5
            obtain ⟨q0, q1, q2⟩ := bk3T hx_tk.z
            refine wpOp_step ho (fun K' hK => ?_)
            have HK := Lib.hid hK
            clear hK ho
            go_simp
            exact HK.out _ _ ⟨_, _, _, _, _, _, _, _, _, _, _, _, _, _, _, _, _, _, _, _, _, _, _, tx10, _, _, rfl, rfl, ⟨(fun _ => hbe), H.d3, (fun h => by cases h), H.d5, H.d6, H.d7, H.d8, (fun h => by cases h), (fun h => by cases h), (fun h => by cases h), H.tk, H.t4, H.t5, (fun _ => rfl), H.h1, H.h2, H.h3, (fun h => by cases h), (fun h => by cases h), (fun h => by cases h), H.h7, H.h8, H.h9, (fun h => by cases h), H.h11, H.h12⟩⟩
          · have ho := hoj
            simp only [List.getElem?_toArray, List.getElem?_cons_succ, List.getElem?_cons_zero, Option.some.injEq] at hoj
            subst hoj
            obtain rfl : tb1 = false := hun
            clear hall
            obtain rfl : tb3 = false := Bool.eq_false_iff.2 fun h => Bool.false_ne_true (H.d3 h).1
            obtain rfl : tb4 = false := Bool.eq_false_iff.2 fun h => Bool.false_ne_true (H.d4 h).2
            obtain rfl : tb5 = false := Bool.eq_false_iff.2 fun h => Bool.false_ne_true (H.d5 h)
            obtain rfl : tb6 = false := Bool.eq_false_iff.2 fun h => Bool.false_ne_true (H.d6 h)
            obtain rfl : tb7 = false := Bool.eq_false_iff.2 fun h => Bool.false_ne_true (H.d7 h)
            obtain rfl : tb8 = false := Bool.eq_false_iff.2 fun h => Bool.false_ne_true (H.d8 h)
            obtain rfl : tb10 = false := Bool.eq_false_iff.2 fun h => Bool.false_ne_true (H.d10 h).2.1
            obtain rfl : tb11 = false := Bool.eq_false_iff.2 fun h => Bool.false_ne_true (H.d11 h).2.1
            obtain rfl : tb12 = false := Bool.eq_false_iff.2 fun h => Bool.false_ne_true (H.d12 h).2.1
            have hbe := H.be rfl
            have hx_tk := H.tk rfl
            have hx_t4 := H.t4
            have hx_t5 := H.t5
            refine wpOp_step ho (fun K' hK => ?_)
            have HK := Lib.hid hK
            clear hK ho
            go_simp
            exact HK.out _ _ ⟨_, _, _, _, _, _, _, _, _, _, _, _, _, _, _, _, _, _, _, _, _, _, _, tx10, _, _, rfl, rfl, ⟨(fun _ => hbe), (fun h => by cases h), H.d4, H.d5, H.d6, H.d7, H.d8, (fun h => by cases h), (fun h => by cases h), (fun h => by cases h), H.tk, H.t4, H.t5, H.h0, (fun _ => rfl), H.h2, H.h3, (fun h => by cases h), (fun h => by cases h), (fun h => by cases h), H.h7, H.h8, H.h9, (fun h => by cases h), H.h11, H.h12⟩⟩
          · have ho := hoj
            simp only [List.getElem?_toArray, List.getElem?_cons_succ, List.getElem?_cons_zero, Option.some.injEq] at hoj
            subst hoj
            obtain rfl : tb2 = false := hun
            clear hall
            obtain rfl : tb3 = false := Bool.eq_false_iff.2 fun h => Bool.false_ne_true (H.d3 h).2
            obtain rfl : tb4 = false := Bool.eq_false_iff.2 fun h => Bool.false_ne_true (H.d4 h).2
            obtain rfl : tb5 = false := Bool.eq_false_iff.2 fun h => Bool.false_ne_true (H.d5 h)
            obtain rfl : tb6 = false := Bool.eq_false_iff.2 fun h => Bool.false_ne_true (H.d6 h)
            obtain rfl : tb7 = false := Bool.eq_false_iff.2 fun h => Bool.false_ne_true (H.d7 h)
            obtain rfl : tb8 = false := Bool.eq_false_iff.2 fun h => Bool.false_ne_true (H.d8 h)
            obtain rfl : tb10 = false := Bool.eq_false_iff.2 fun h => Bool.false_ne_true (H.d10 h).2.2.1
            obtain rfl : tb11 = false := Bool.eq_false_iff.2 fun h => Bool.false_ne_true (H.d11 h).2.2.1
            obtain rfl : tb12 = false := Bool.eq_false_iff.2 fun h => Bool.false_ne_true (H.d12 h).2.2.1
            have hbe := H.be rfl
            have hx_tk := H.tk rfl
            have hx_t4 := H.t4
            have hx_t5 := H.t5
            refine wpOp_step ho (fun K' hK => ?_)
            have HK := Lib.hid hK
            clear hK ho
            go_simp
            exact HK.out _ _ ⟨_, _, _, _, _, _, _, _, _, _, _, _, _, _, _, _, _, _, _, _, _, _, _, tx10, _, _, rfl, rfl, ⟨(fun _ => hbe), (fun h => by cases h), H.d4, H.d5, H.d6, H.d7, H.d8, (fun h => by cases h), (fun h => by cases h), (fun h => by cases h), H.tk, H.t4, H.t5, H.h0, H.h1, (fun _ => rfl), H.h3, (fun h => by cases h), (fun h => by cases h), (fun h => by cases h), H.h7, H.h8, H.h9, (fun h => by cases h), H.h11, H.h12⟩⟩
          · have ho := hoj
            simp only [List.getElem?_toArray, List.getElem?_cons_succ, List.getElem?_cons_zero, Option.some.injEq] at hoj
            subst hoj
            obtain rfl : tb3 = false := hun
            obtain rfl : tb1 = true := hall ⟨1, .data⟩ (by simp) (by kernel_rfl)
            obtain rfl : tb2 = true := hall ⟨2, .data⟩ (by simp) (by kernel_rfl)
            clear hall
            obtain rfl : tb4 = false := Bool.eq_false_iff.2 fun h => Bool.false_ne_true (H.d4 h).2
            obtain rfl : tb5 = false := Bool.eq_false_iff.2 fun h => Bool.false_ne_true (H.d5 h)
            obtain rfl : tb6 = false := Bool.eq_false_iff.2 fun h => Bool.false_ne_true (H.d6 h)
            obtain rfl : tb7 = false := Bool.eq_false_iff.2 fun h => Bool.false_ne_true (H.d7 h)
            obtain rfl : tb8 = false := Bool.eq_false_iff.2 fun h => Bool.false_ne_true (H.d8 h)
            obtain rfl : tb10 = false := Bool.eq_false_iff.2 fun h => Bool.false_ne_true (H.d10 h).2.2.2.1
            obtain rfl : tb11 = false := Bool.eq_false_iff.2 fun h => Bool.false_ne_true (H.d11 h).2.2.2.1
            obtain rfl : tb12 = false := Bool.eq_false_iff.2 fun h => Bool.false_ne_true (H.d12 h).2.2.2.1
            have hbe := H.be rfl
            have hx_tk := H.tk rfl
            have hx_t4 := H.t4
            have hx_t5 := H.t5
            obtain rfl := H.h1 rfl
            obtain rfl := H.h2 rfl
            have hxx := HX.out
            have hkI := HKI.out
            have hs47 := HS47.out
            refine wpOp_step ho (fun K' hK => ?_)
            have HK := Lib.hid hK
            clear hK ho
            go_simp
            exact HK.out _ _ ⟨_, _, _, _, _, _, _, _, _, _, _, _, _, _, _, _, _, _, _, _, _, _, _, tx10, _, _, rfl, rfl, ⟨(fun _ => hbe), (fun _ => ⟨rfl, rfl⟩), (fun h => by cases h), H.d5, H.d6, H.d7, H.d8, (fun h => by cases h), (fun h => by cases h), (fun h => by cases h), H.tk, H.t4, H.t5, H.h0, H.h1, H.h2, (fun _ => rfl), (fun h => by cases h), (fun h => by cases h), (fun h => by cases h), H.h7, H.h8, H.h9, (fun h => by cases h), H.h11, H.h12⟩⟩
          · have ho := hoj
            simp only [List.getElem?_toArray, List.getElem?_cons_succ, List.getElem?_cons_zero, Option.some.injEq] at hoj
            subst hoj
            obtain rfl : tb4 = false := hun
            obtain rfl : tb0 = true := hall ⟨0, .data⟩ (by simp) (by kernel_rfl)
            obtain rfl : tb3 = true := hall ⟨3, .data⟩ (by simp) (by kernel_rfl)
            obtain rfl : tb1 = true := (H.d3 rfl).1
            obtain rfl : tb2 = true := (H.d3 rfl).2
            clear hall
            obtain rfl : tb5 = false := Bool.eq_false_iff.2 fun h => Bool.false_ne_true (H.d5 h)
            obtain rfl : tb6 = false := Bool.eq_false_iff.2 fun h => Bool.false_ne_true (H.d6 h)
            obtain rfl : tb7 = false := Bool.eq_false_iff.2 fun h => Bool.false_ne_true (H.d7 h)
            obtain rfl : tb8 = false := Bool.eq_false_iff.2 fun h => Bool.false_ne_true (H.d8 h)
            obtain rfl : tb10 = false := Bool.eq_false_iff.2 fun h => Bool.false_ne_true (H.d10 h).2.2.2.2.1
            obtain rfl : tb11 = false := Bool.eq_false_iff.2 fun h => Bool.false_ne_true (H.d11 h).2.2.2.2.1
            obtain rfl : tb12 = false := Bool.eq_false_iff.2 fun h => Bool.false_ne_true (H.d12 h).2.2.2.2.1
            have hbe := H.be rfl
            have hx_tk := H.tk rfl
            have hx_t4 := H.t4
            have hx_t5 := H.t5
            obtain rfl := H.h0 rfl
            obtain rfl := H.h1 rfl
            obtain rfl := H.h2 rfl
            obtain rfl := H.h3 rfl
            refine wpOp_step ho (fun K' hK => ?_)
            have HK := Lib.hid hK
            clear hK ho
            go_wp2_with fail
            refine (HAP.out _ hx_tk.v).mono ?_
            rintro e w9 ⟨tb9, v9, rfl, hv9⟩
            have BC := Lib.hid tb9
            have VC := Lib.hid hv9
            clear tb9 hv9
            go_wp2_with fail
            exact HK.out _ _ ⟨_, _, _, _, _, _, _, _, _, _, _, _, _, _, _, _, _, _, _, _, _, _, _, tx10, _, _, rfl, rfl, ⟨(fun _ => hbe.trans (BC.out.mono hbe.size)), H.d3, (fun _ => ⟨rfl, rfl⟩), (fun h => by cases h), H.d6, H.d7, H.d8, (fun h => by cases h), (fun h => by cases h), (fun h => by cases h), (fun _ => TKA.later hx_tk BC.out), fun _ => ⟨_, rfl⟩, hx_t5, H.h0, H.h1, H.h2, H.h3, (fun _ _ => ⟨_, rfl, VC.out⟩), (fun h => by cases h), (fun h => by cases h), H.h7, H.h8, (fun e f => let ⟨q, e1, e2, e3⟩ := (H.h9 e f); ⟨q, e1, e2, (BC.out.block _ (lt_of_block e3)).trans e3⟩), (fun h => by cases h), H.h11, H.h12⟩⟩
          · have ho := hoj
            simp only [List.getElem?_toArray, List.getElem?_cons_succ, List.getElem?_cons_zero, Option.some.injEq] at hoj
            subst hoj
            obtain rfl : tb5 = false := hun
            obtain rfl : tb4 = true := hall ⟨4, .data⟩ (by simp) (by kernel_rfl)
            obtain rfl : tb0 = true := (H.d4 rfl).1
            obtain rfl : tb3 = true := (H.d4 rfl).2
            obtain rfl : tb1 = true := (H.d3 rfl).1
            obtain rfl : tb2 = true := (H.d3 rfl).2
            clear hall
            obtain rfl : tb6 = false := Bool.eq_false_iff.2 fun h => Bool.false_ne_true (H.d6 h)
            obtain rfl : tb7 = false := Bool.eq_false_iff.2 fun h => Bool.false_ne_true (H.d7 h)
            obtain rfl : tb8 = false := Bool.eq_false_iff.2 fun h => Bool.false_ne_true (H.d8 h)
            obtain rfl : tb10 = false := Bool.eq_false_iff.2 fun h => Bool.false_ne_true (H.d10 h).2.2.2.2.2.1
            obtain rfl : tb11 = false := Bool.eq_false_iff.2 fun h => Bool.false_ne_true (H.d11 h).2.2.2.2.2.1
            obtain rfl : tb12 = false := Bool.eq_false_iff.2 fun h => Bool.false_ne_true (H.d12 h).2.2.2.2.2.1
            have hbe := H.be rfl
            have hx_tk := H.tk rfl
            have hx_t4 := H.t4
            have hx_t5 := H.t5
            obtain rfl := H.h0 rfl
            obtain rfl := H.h1 rfl
            obtain rfl := H.h2 rfl
            obtain rfl := H.h3 rfl
            have P4 := H.h4 rfl rfl
            have PT := Lib.hid P4
            have TT := Lib.hid (H.t4 rfl)
            clear P4
            refine wpOp_step ho (fun K' hK => ?_)
            have HK := Lib.hid hK
            clear hK ho
            go_simp
            exact HK.out _ _ ⟨_, _, _, _, _, _, _, _, _, _, _, _, _, _, _, _, _, _, _, _, _, _, _, tx10, _, _, rfl, rfl, ⟨(fun _ => hbe), H.d3, H.d4, (fun _ => rfl), (fun h => by cases h), (fun h => by cases h), (fun h => by cases h), (fun h => by cases h), (fun h => by cases h), (fun h => by cases h), H.tk, H.t4, fun _ => TT.out, H.h0, H.h1, H.h2, H.h3, H.h4, (fun _ _ => PT.out), (fun h => by cases h), H.h7, H.h8, H.h9, (fun h => by cases h), H.h11, H.h12⟩⟩
          · have ho := hoj
            simp only [List.getElem?_toArray, List.getElem?_cons_succ, List.getElem?_cons_zero, Option.some.injEq] at hoj
            subst hoj
            obtain rfl : tb6 = false := hun
            obtain rfl : tb5 = true := hall ⟨5, .data⟩ (by simp) (by kernel_rfl)
            obtain rfl : tb4 = true := (H.d5 rfl)
            obtain rfl : tb0 = true := (H.d4 rfl).1
            obtain rfl : tb3 = true := (H.d4 rfl).2
            obtain rfl : tb1 = true := (H.d3 rfl).1
            obtain rfl : tb2 = true := (H.d3 rfl).2
            clear hall
            obtain rfl : tb10 = false := Bool.eq_false_iff.2 fun h => Bool.false_ne_true (H.d10 h).2.2.2.2.2.2.1
            obtain rfl : tb11 = false := Bool.eq_false_iff.2 fun h => Bool.false_ne_true (H.d11 h).2.2.2.2.2.2.1
            obtain rfl : tb12 = false := Bool.eq_false_iff.2 fun h => Bool.false_ne_true (H.d12 h).2.2.2.2.2.2.1
            have hbe := H.be rfl
            have hx_tk := H.tk rfl
            have hx_t4 := H.t4
            have hx_t5 := H.t5
            obtain rfl := H.h0 rfl
            obtain rfl := H.h1 rfl
            obtain rfl := H.h2 rfl
            obtain rfl := H.h3 rfl
            have P4 := H.h4 rfl rfl
            have P5 := H.h5 rfl rfl
            obtain ⟨u, rfl, hu⟩ := P5
            have HU := Lib.hid hu
            clear hu
            refine wpOp_step ho (fun K' hK => ?_)
            have HK := Lib.hid hK
            clear hK ho
            go_simp
            exact HK.out _ _ ⟨_, _, _, _, _, _, _, _, _, _, _, _, _, _, _, _, _, _, _, _, _, _, _, tx10, _, _, rfl, rfl, ⟨(fun _ => hbe), H.d3, H.d4, H.d5, (fun _ => rfl), H.d7, H.d8, (fun h => by cases h), (fun h => by cases h), (fun h => by cases h), H.tk, H.t4, H.t5, H.h0, H.h1, H.h2, H.h3, H.h4, H.h5, (fun _ _ => HU.out), H.h7, H.h8, H.h9, (fun h => by cases h), H.h11, H.h12⟩⟩
          · have ho := hoj
            simp only [List.getElem?_toArray, List.getElem?_cons_succ, List.getElem?_cons_zero, Option.some.injEq] at hoj
            subst hoj
            obtain rfl : tb7 = false := hun
            obtain rfl : tb5 = true := hall ⟨5, .data⟩ (by simp) (by kernel_rfl)
            obtain rfl : tb4 = true := (H.d5 rfl)
            obtain rfl : tb0 = true := (H.d4 rfl).1
            obtain rfl : tb3 = true := (H.d4 rfl).2
            obtain rfl : tb1 = true := (H.d3 rfl).1
            obtain rfl : tb2 = true := (H.d3 rfl).2
            clear hall
            obtain rfl : tb11 = false := Bool.eq_false_iff.2 fun h => Bool.false_ne_true (H.d11 h).2.2.2.2.2.2.2.1
            obtain rfl : tb12 = false := Bool.eq_false_iff.2 fun h => Bool.false_ne_true (H.d12 h).2.2.2.2.2.2.2.1
            have hx_t4 := H.t4
            have hx_t5 := H.t5
            obtain rfl := H.h0 rfl
            obtain rfl := H.h1 rfl
            obtain rfl := H.h2 rfl
            obtain rfl := H.h3 rfl
            obtain ⟨u, rfl⟩ := H.t5 rfl
            refine wpOp_step ho (fun K' hK => ?_)
            have HK := Lib.hid hK
            clear hK ho
            go_simp
            exact HK.out _ _ ⟨_, _, _, _, _, _, _, _, _, _, _, _, _, _, _, _, _, _, _, _, _, _, _, tx10, _, _, rfl, rfl, ⟨H.be, H.d3, H.d4, H.d5, H.d6, (fun _ => rfl), H.d8, H.d10, (fun h => by cases h), (fun h => by cases h), H.tk, H.t4, H.t5, H.h0, H.h1, H.h2, H.h3, H.h4, H.h5, H.h6, (fun _ => rfl), H.h8, H.h9, H.h10, H.h11, H.h12⟩⟩
          · have ho := hoj
            simp only [List.getElem?_toArray, List.getElem?_cons_succ, List.getElem?_cons_zero, Option.some.injEq] at hoj
            subst hoj
            obtain rfl : tb8 = false := hun
            obtain rfl : tb5 = true := hall ⟨5, .data⟩ (by simp) (by kernel_rfl)
            obtain rfl : tb4 = true := (H.d5 rfl)
            obtain rfl : tb0 = true := (H.d4 rfl).1
            obtain rfl : tb3 = true := (H.d4 rfl).2
            obtain rfl : tb1 = true := (H.d3 rfl).1
            obtain rfl : tb2 = true := (H.d3 rfl).2
            clear hall
            obtain rfl : tb12 = false := Bool.eq_false_iff.2 fun h => Bool.false_ne_true (H.d12 h).2.2.2.2.2.2.2.2.1
            have hx_t4 := H.t4
            have hx_t5 := H.t5
            obtain rfl := H.h0 rfl
            obtain rfl := H.h1 rfl
            obtain rfl := H.h2 rfl
            obtain rfl := H.h3 rfl
            obtain ⟨u, rfl⟩ := H.t5 rfl
            refine wpOp_step ho (fun K' hK => ?_)
            have HK := Lib.hid hK
            clear hK ho
            go_simp
            exact HK.out _ _ ⟨_, _, _, _, _, _, _, _, _, _, _, _, _, _, _, _, _, _, _, _, _, _, _, tx10, _, _, rfl, rfl, ⟨H.be, H.d3, H.d4, H.d5, H.d6, H.d7, (fun _ => rfl), H.d10, H.d11, (fun h => by cases h), H.tk, H.t4, H.t5, H.h0, H.h1, H.h2, H.h3, H.h4, H.h5, H.h6, H.h7, (fun _ => rfl), H.h9, H.h10, H.h11, H.h12⟩⟩
          · have ho := hoj
            simp only [List.getElem?_toArray, List.getElem?_cons_succ, List.getElem?_cons_zero, Option.some.injEq] at hoj
            subst hoj
            obtain rfl : tb9 = false := hun
            clear hall
            obtain rfl : tb10 = false := Bool.eq_false_iff.2 fun h => Bool.false_ne_true (H.d10 h).2.2.2.2.2.2.2
            obtain rfl : tb11 = false := Bool.eq_false_iff.2 fun h => Bool.false_ne_true (H.d11 h).2.2.2.2.2.2.2.2.1
            obtain rfl : tb12 = false := Bool.eq_false_iff.2 fun h => Bool.false_ne_true (H.d12 h).2.2.2.2.2.2.2.2.2.1
            have hbe := H.be rfl
            have hx_tk := H.tk rfl
            have hx_t4 := H.t4
            have hx_t5 := H.t5
            have BA := Lib.hid ((Below.refl w.heap.size w).alloc (Nat.le_refl _) (.cells #[.int .i64 0, .int .i64 0, .slice none 0 0] 24))
            have NA := Lib.hid (heap_alloc_new w (.cells #[.int .i64 0, .int .i64 0, .slice none 0 0] 24))
            have hsz := hbe.size
            refine wpOp_step ho (fun K' hK => ?_)
            have HK := Lib.hid hK
            clear hK ho
            go_simp
            exact HK.out _ _ ⟨_, _, _, _, _, _, _, _, _, _, _, _, _, _, _, _, _, _, _, _, _, _, _, tx10, _, _, rfl, rfl, ⟨(fun _ => hbe.trans (BA.out.mono hbe.size)), H.d3, H.d4, H.d5, H.d6, H.d7, H.d8, (fun h => by cases h), (fun h => by cases h), (fun h => by cases h), (fun _ => TKA.later hx_tk BA.out), hx_t4, hx_t5, H.h0, H.h1, H.h2, H.h3, (fun e f => let ⟨u, e1, e2⟩ := (H.h4 e f); ⟨u, e1, e2.on BA.out⟩), (fun e f => let ⟨u, e1, e2⟩ := (H.h5 e f); ⟨u, e1, e2.on BA.out⟩), (fun e f => (H.h6 e f).on BA.out), H.h7, H.h8, (fun _ _ => ⟨_, rfl, hsz, NA.out⟩), (fun h => by cases h), H.h11, H.h12⟩⟩
          · have ho := hoj
            simp only [List.getElem?_toArray, List.getElem?_cons_succ, List.getElem?_cons_zero, Option.some.injEq] at hoj
            subst hoj
            obtain rfl : tb10 = false := hun
            obtain rfl : tb0 = true := hall ⟨0, .phase⟩ (by simp) (by kernel_rfl)
            obtain rfl : tb1 = true := hall ⟨1, .phase⟩ (by simp) (by kernel_rfl)
            obtain rfl : tb2 = true := hall ⟨2, .phase⟩ (by simp) (by kernel_rfl)
            obtain rfl : tb3 = true := hall ⟨3, .phase⟩ (by simp) (by kernel_rfl)
            obtain rfl : tb4 = true := hall ⟨4, .chain⟩ (by simp) (by kernel_rfl)
            obtain rfl : tb5 = true := hall ⟨5, .phase⟩ (by simp) (by kernel_rfl)
            obtain rfl : tb6 = true := hall ⟨6, .data⟩ (by simp) (by kernel_rfl)
            obtain rfl : tb9 = true := hall ⟨9, .data⟩ (by simp) (by kernel_rfl)
            clear hall
            obtain rfl : tb11 = false := Bool.eq_false_iff.2 fun h => Bool.false_ne_true (H.d11 h).2.2.2.2.2.2.2.2.2
            obtain rfl : tb12 = false := Bool.eq_false_iff.2 fun h => Bool.false_ne_true (H.d12 h).2.2.2.2.2.2.2.2.2.2.1
            have hbe := H.be rfl
            have hx_tk := H.tk rfl
            have hx_t4 := H.t4
            have hx_t5 := H.t5
            obtain rfl := H.h0 rfl
            obtain rfl := H.h1 rfl
            obtain rfl := H.h2 rfl
            obtain rfl := H.h3 rfl
            have P4 := H.h4 rfl rfl
            have P5 := H.h5 rfl rfl
            have P6 := H.h6 rfl rfl
            have P9 := H.h9 rfl rfl
            obtain ⟨q, rfl, hq0, hq⟩ := P9
            obtain ⟨A9, n9, c9, r9, p9, rfl, hv9⟩ := tb_partsR P6
            obtain ⟨k1, gp⟩ := bk3_blk hq (.int .i64 r9) (.int .i64 p9) (.slice A9 n9 c9)
            have KQ := Lib.hid k1
            have VQ := Lib.hid ((hv9.gr hq gp).more gp.size)
            have TKQ := Lib.hid (hx_tk.put hq gp (by have := lt_of_block TK.out.y; omega))
            obtain ⟨q0, q1, q2⟩ := bk3T hq
            have qf := fun i => bk_frz hq i
            clear hq hv9 k1 gp
            refine wpOp_step ho (fun K' hK => ?_)
            have HK := Lib.hid hK
            clear hK ho
            go_simp
            exact HK.out _ _ ⟨_, _, _, _, _, _, _, _, _, _, _, _, _, _, _, _, _, _, _, _, _, _, _, tx10, _, _, rfl, rfl, ⟨(fun h => by cases h), H.d3, H.d4, H.d5, H.d6, H.d7, H.d8, (fun _ => ⟨rfl, rfl, rfl, rfl, rfl, rfl, rfl, rfl⟩), (fun h => by cases h), (fun h => by cases h), (fun h => by cases h), H.t4, H.t5, H.h0, H.h1, H.h2, H.h3, (fun _ h => by cases h), (fun _ h => by cases h), (fun _ h => by cases h), H.h7, H.h8, (fun _ h => by cases h), (fun _ => ⟨_, _, _, _, _, _, rfl, hq0, KQ.out, VQ.out, TKQ.out⟩), H.h11, H.h12⟩⟩
          · have ho := hoj
            simp only [List.getElem?_toArray, List.getElem?_cons_succ, List.getElem?_cons_zero, Option.some.injEq] at hoj
            subst hoj
            obtain rfl : tb11 = false := hun
            obtain rfl : tb0 = true := hall ⟨0, .phase⟩ (by simp) (by kernel_rfl)
            obtain rfl : tb1 = true := hall ⟨1, .phase⟩ (by simp) (by kernel_rfl)
            obtain rfl : tb2 = true := hall ⟨2, .phase⟩ (by simp) (by kernel_rfl)
            obtain rfl : tb3 = true := hall ⟨3, .phase⟩ (by simp) (by kernel_rfl)
            obtain rfl : tb4 = true := hall ⟨4, .phase⟩ (by simp) (by kernel_rfl)
            obtain rfl : tb5 = true := hall ⟨5, .phase⟩ (by simp) (by kernel_rfl)
            obtain rfl : tb6 = true := hall ⟨6, .phase⟩ (by simp) (by kernel_rfl)
            obtain rfl : tb7 = true := hall ⟨7, .data⟩ (by simp) (by kernel_rfl)
            obtain rfl : tb9 = true := hall ⟨9, .phase⟩ (by simp) (by kernel_rfl)
            obtain rfl : tb10 = true := hall ⟨10, .chain⟩ (by simp) (by kernel_rfl)
            clear hall
            obtain rfl : tb12 = false := Bool.eq_false_iff.2 fun h => Bool.false_ne_true (H.d12 h).2.2.2.2.2.2.2.2.2.2.2
            have hx_t4 := H.t4
            have hx_t5 := H.t5
            obtain rfl := H.h0 rfl
            obtain rfl := H.h1 rfl
            obtain rfl := H.h2 rfl
            obtain rfl := H.h3 rfl
            obtain rfl := H.h7 rfl
            have P10 := H.h10 rfl
            refine wpOp_step ho (fun K' hK => ?_)
            have HK := Lib.hid hK
            clear hK ho
            go_simp
            exact HK.out _ _ ⟨_, _, _, _, _, _, _, _, _, _, _, _, _, _, _, _, _, _, _, _, _, _, _, tx10, _, _, rfl, rfl, ⟨(fun h => by cases h), H.d3, H.d4, H.d5, H.d6, H.d7, H.d8, H.d10, (fun _ => ⟨rfl, rfl, rfl, rfl, rfl, rfl, rfl, rfl, rfl, rfl⟩), (fun h => by cases h), (fun h => by cases h), H.t4, H.t5, H.h0, H.h1, H.h2, H.h3, (fun _ h => by cases h), (fun _ h => by cases h), (fun _ h => by cases h), H.h7, H.h8, (fun _ h => by cases h), H.h10, (fun _ => rfl), H.h12⟩⟩
          · have ho := hoj
            simp only [List.getElem?_toArray, List.getElem?_cons_succ, List.getElem?_cons_zero, Option.some.injEq] at hoj
            subst hoj
            obtain rfl : tb12 = false := hun
            obtain rfl : tb0 = true := hall ⟨0, .phase⟩ (by simp) (by kernel_rfl)
            obtain rfl : tb1 = true := hall ⟨1, .phase⟩ (by simp) (by kernel_rfl)
            obtain rfl : tb2 = true := hall ⟨2, .phase⟩ (by simp) (by kernel_rfl)
            obtain rfl : tb3 = true := hall ⟨3, .phase⟩ (by simp) (by kernel_rfl)
            obtain rfl : tb4 = true := hall ⟨4, .phase⟩ (by simp) (by kernel_rfl)
            obtain rfl : tb5 = true := hall ⟨5, .phase⟩ (by simp) (by kernel_rfl)
            obtain rfl : tb6 = true := hall ⟨6, .phase⟩ (by simp) (by kernel_rfl)
            obtain rfl : tb7 = true := hall ⟨7, .phase⟩ (by simp) (by kernel_rfl)
            obtain rfl : tb8 = true := hall ⟨8, .data⟩ (by simp) (by kernel_rfl)
            obtain rfl : tb9 = true := hall ⟨9, .phase⟩ (by simp) (by kernel_rfl)
            obtain rfl : tb10 = true := hall ⟨10, .phase⟩ (by simp) (by kernel_rfl)
            obtain rfl : tb11 = true := hall ⟨11, .chain⟩ (by simp) (by kernel_rfl)
            clear hall
            have hx_t4 := H.t4
            have hx_t5 := H.t5
            obtain rfl := H.h0 rfl
            obtain rfl := H.h1 rfl
            obtain rfl := H.h2 rfl
            obtain rfl := H.h3 rfl
            obtain rfl := H.h7 rfl
            obtain rfl := H.h8 rfl
            have P10 := H.h10 rfl
            obtain rfl := H.h11 rfl
            refine wpOp_step ho (fun K' hK => ?_)
            have HK := Lib.hid hK
            clear hK ho
            go_simp
            exact HK.out _ _ ⟨_, _, _, _, _, _, _, _, _, _, _, _, _, _, _, _, _, _, _, _, _, _, _, tx10, _, _, rfl, rfl, ⟨(fun h => by cases h), H.d3, H.d4, H.d5, H.d6, H.d7, H.d8, H.d10, H.d11, (fun _ => ⟨rfl, rfl, rfl, rfl, rfl, rfl, rfl, rfl, rfl, rfl, rfl, rfl⟩), (fun h => by cases h), H.t4, H.t5, H.h0, H.h1, H.h2, H.h3, (fun _ h => by cases h), (fun _ h => by cases h), (fun _ h => by cases h), H.h7, H.h8, (fun _ h => by cases h), H.h10, H.h11, (fun _ => rfl)⟩⟩
          · have ho := hoj
            simp at ho
        case hfin =>
          rintro listed a w ⟨tb0, tb1, tb2, tb3, tb4, tb5, tb6, tb7, tb8, tb9, tb10, tb11, tb12, tx0, tx1, tx2, tx3, tx4, tx5, tx6, tx7, tx8, tx9, tx10, tx11, tx12, rfl, rfl, H⟩ hr
          have hb : tb12 = true := by
            clear H
            obtain rfl : tb0 = true := by
              cases tb0
              · exact absurd hr (ready_ne4 (by kernel_rfl))
              · rfl
            obtain rfl : tb1 = true := by
              cases tb1
              · exact absurd hr (ready_ne4 (by kernel_rfl))
              · rfl
            obtain rfl : tb2 = true := by
              cases tb2
              · exact absurd hr (ready_ne4 (by kernel_rfl))
              · rfl
            obtain rfl : tb3 = true := by
              cases tb3
              · exact absurd hr (ready_ne4 (by kernel_rfl))
              · rfl
            obtain rfl : tb4 = true := by
              cases tb4
              · exact absurd hr (ready_ne4 (by kernel_rfl))
              · rfl
            obtain rfl : tb5 = true := by
              cases tb5
              · exact absurd hr (ready_ne4 (by kernel_rfl))
              · rfl
            obtain rfl : tb6 = true := by
              cases tb6
              · exact absurd hr (ready_ne4 (by kernel_rfl))
              · rfl
            obtain rfl : tb7 = true := by
              cases tb7
              · exact absurd hr (ready_ne4 (by kernel_rfl))
              · rfl
            obtain rfl : tb8 = true := by
              cases tb8
              · exact absurd hr (ready_ne4 (by kernel_rfl))
              · rfl
            obtain rfl : tb9 = true := by
              cases tb9
              · exact absurd hr (ready_ne4 (by kernel_rfl))
              · rfl
            obtain rfl : tb10 = true := by
              cases tb10
              · exact absurd hr (ready_ne4 (by kernel_rfl))
              · rfl
            obtain rfl : tb11 = true := by
              cases tb11
              · exact absurd hr (ready_ne4 (by kernel_rfl))
              · rfl
            obtain rfl : tb12 = true := by
              cases tb12
              · exact absurd hr (ready_ne4 (by kernel_rfl))
              · rfl
            rfl
          subst hb
          clear hr
          obtain rfl : tb0 = true := (H.d12 rfl).1
          obtain rfl : tb1 = true := (H.d12 rfl).2.1
          obtain rfl : tb2 = true := (H.d12 rfl).2.2.1
          obtain rfl : tb3 = true := (H.d12 rfl).2.2.2.1
          obtain rfl : tb4 = true := (H.d12 rfl).2.2.2.2.1
          obtain rfl : tb5 = true := (H.d12 rfl).2.2.2.2.2.1
          obtain rfl : tb6 = true := (H.d12 rfl).2.2.2.2.2.2.1
          obtain rfl : tb7 = true := (H.d12 rfl).2.2.2.2.2.2.2.1
          obtain rfl : tb8 = true := (H.d12 rfl).2.2.2.2.2.2.2.2.1
          obtain rfl : tb9 = true := (H.d12 rfl).2.2.2.2.2.2.2.2.2.1
          obtain rfl : tb10 = true := (H.d12 rfl).2.2.2.2.2.2.2.2.2.2.1
          obtain rfl : tb11 = true := (H.d12 rfl).2.2.2.2.2.2.2.2.2.2.2
          obtain ⟨q, A9, n9, c9, r9, p9, e9, hq0, hq, hv9, tk⟩ := H.h10 rfl
          have e7 := H.h11 rfl
          have e8 := H.h12 rfl
          have TKQ := Lib.hid tk
          have HQ := Lib.hid hq
          have HVQ := Lib.hid hv9
          have hqW : W.heap.size + 2 ≤ q := by have := lt_of_block TK.out.y; omega
          clear tk hq hv9 H hq0 TK
          obtain ⟨w4, hw4⟩ : ∃ x, x = w := ⟨_, rfl⟩
          subst w
          subst e7 e8 e9
          by_cases h4 : y = 4
          · subst h4
            obtain rfl : R = (T, (K : Int), 0) := by rw [HLS.out, if_pos rfl]
            obtain ⟨q0, q1, q2⟩ := bk3T TKQ.out.z
            have yf := fun j => bk_frz TKQ.out.y j
            obtain ⟨y0, y1, y2⟩ := bk3T TKQ.out.y
            clear HLS HIN
            go_wp2_with fail
            obtain ⟨k1, gp⟩ := bk3_blk TKQ.out.y (.int .i64 r1) (.int .i64 p1) (.slice A1 n1 c1)
            obtain ⟨r0, r1', r2⟩ := bk3T k1
            refine bodyPost_ret (by simp [results, Try.results21, go_sem, r0, r1', r2]; try rfl) rfl ?_
            exact ⟨gr_from TKQ.out.b TKQ.out.b.size (Nat.le_succ _) gp, _, rfl, (TKQ.out.v.gr TKQ.out.y gp).more gp.size⟩
          · have e4 : (y == 4) = false := by simp [h4]
            by_cases hy : y = 0
            · subst hy
              obtain ⟨i0, i1⟩ := HIN.out rfl
              obtain ⟨kn, rfl⟩ : ∃ kn : Nat, k = kn := ⟨k.toNat, by omega⟩
              have HLE := Lib.hid (show appsR g T2 b (K + kn) = R by rw [HLS.out, if_neg h4, if_neg (fun k => k rfl), Int.toNat_natCast])
              have hbl := HBL.out
              have hwr : IntKind.i64.wrap ((K : Int) + (kn : Int)) = ((K + kn : Nat) : Int) := by rw [IntKind.wrap_i64]; omega
              obtain ⟨q0, q1, q2⟩ := bk3T HQ.out
              have zf := fun j => bk_frz TKQ.out.z j
              obtain ⟨z0, z1, z2⟩ := bk3T TKQ.out.z
              obtain ⟨kz, gz⟩ := bk3_blk TKQ.out.z (.int .i64 r9) (.int .i64 p9) (.slice A9 n9 c9)
              have TKN := Lib.hid (TKQ.out.set kz gz HVQ.out)
              clear HLS HIN e4 kz gz
              go_wp2_with fail
              go_roundg g
              case measure => omega
              case rel => exact ⟨K + kn, T2, A9, n9, c9, r9, p9, by first | rfl | go_num, by omega, by omega, HLE, HWF, TKN.out.z, TKN⟩
            · obtain rfl : R = (tb0, 0, y) := by rw [HLS.out, if_neg h4, if_pos hy]
              have e5 : (y != 0) = true := by simp [hy]
              have yf := fun j => bk_frz TKQ.out.y j
              obtain ⟨y0, y1, y2⟩ := bk3T TKQ.out.y
              clear HLS HIN h4 hy
              go_wp2_with fail
              obtain ⟨k1, gp⟩ := bk3_blk TKQ.out.y (.int .i64 0) (.int .i64 0) (.slice none 0 0)
              obtain ⟨r0, r1', r2⟩ := bk3T k1
              refine bodyPost_ret (by simp [results, Try.results21, go_sem, r0, r1', r2]; try rfl) rfl ?_
              exact ⟨gr_from TKQ.out.b TKQ.out.b.size (Nat.le_succ _) gp, _, rfl, TbVal.zero _ _⟩
  · rw [if_pos h0]
    have e1 : (x != 0) = true := by simp [h0]
    clear h0
    go_enter Try.func21, Try.ntmps21
    go_wp2_with (go_at_call 36; refine (HFT.out _ B0.out).mono ?_; rintro e w1 ⟨rfl, b1⟩; have TK1 := Lib.hid (TK0.out.later b1); clear b1; obtain ⟨q0, q1, q2⟩ := bk3T TK1.out.z; have zf := fun j => bk_frz TK1.out.z j; obtain ⟨y0, y1, y2⟩ := bk3T TK1.out.y; have yf := fun j => bk_frz TK1.out.y j)
    obtain ⟨k1, gp⟩ := bk3_blk TK1.out.y (.int .i64 0) (.int .i64 0) (.slice none 0 0)
    obtain ⟨r0, r1', r2⟩ := bk3T k1
    refine bodyPost_ret (by simp [results, Try.results21, go_sem, r0, r1', r2]; try rfl) rfl ?_
    exact ⟨gr_from TK1.out.b TK1.out.b.size (Nat.le_succ _) gp, _, rfl, TbVal.zero _ _⟩
end Go.Proofs.Ytadhdghjlohpcaa
