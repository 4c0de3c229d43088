/- Several texts in one. -/
import Derived.Test.YtpfahdogedchpaaRefFd3
/- The document's answers on fields: FieldsOf. -/
namespace Go.Proofs.Ytpfahdogedchpaa.P
set_option linter.unusedVariables false
open Go.RowKit
theorem pxTR_wf {b : List Int} (w : Int) (hb : Byt b) : Byt (pxTR b w).1 ∧ (pxTR b w).1.length ≤ b.length := by
  unfold pxTR
  split
  · exact ⟨Byt.nil, Nat.zero_le _⟩
  · split
    · exact ⟨Byt.nil, Nat.zero_le _⟩
    · split
      · exact ⟨Byt.nil, Nat.zero_le _⟩
      · exact ⟨(hb.drop _).take _, by simp only [List.length_take, List.length_drop]; omega⟩
theorem knL_getD_wf (j : Nat) : FdWf (knL.getD j fd0) := by
  rw [List.getD_eq_getElem?_getD]
  rcases Nat.lt_or_ge j knL.length with q | q
  · rw [List.getElem?_eq_getElem q]; exact knL_wf _ (List.getElem_mem q)
  · rw [List.getElem?_eq_none q]; exact fdWf0
theorem knR_wf (b : List Int) (w : Int) : FdWf (knR b w).1 := by
  unfold knR
  split
  · exact fdWf0
  · split
    · exact fdWf0
    · exact knL_getD_wf _
theorem lineR_wf {t : Tb} (hw : TbWf t) (need : Int) {b : List Int} (hb : Byt b) (hl : b.length ≤ 140737488355328) : FdWf (lineR t need b).1 := by
  have hv (k : Nat) := pxTR_wf 7 (hb.drop k)
  have hd (k : Nat) : (b.drop k).length ≤ 140737488355328 := by rw [List.length_drop]; omega
  unfold lineR
  split
  · exact knR_wf _ _
  · split
    · split
      · exact fdWf0
      · split
        · exact fdWf0
        · unfold getT
          split
          · exact fdWf0
          · split
            · exact fdWf0
            · split
              · exact fdWf0
              · rw [List.getD_eq_getElem?_getD]
                rcases Nat.lt_or_ge (t.rows.length - (t.put - (need - 1 - (pxR b 6).1)).toNat) t.rows.length with q | q
                · simp only [List.getElem?_eq_getElem q]; exact hw.rows _ (List.getElem_mem q)
                · simp only [List.getElem?_eq_none q]; exact fdWf0
    · split
      · split
        · exact fdWf0
        · have h1 := knR_wf b 4
          exact ⟨h1.1, (hv _).1, h1.2.2.1, Nat.le_trans (hv _).2 (hd _)⟩
      · split
        · split
          · exact fdWf0
          · have h1 := pxTR_wf 3 hb
            exact ⟨h1.1, (hv _).1, Nat.le_trans h1.2 hl, Nat.le_trans (hv _).2 (hd _)⟩
        · exact fdWf0
theorem lineR_in {t : Tb} {need : Int} {b : List Int} (hb : Byt b) (h : (lineR t need b).2.2 = 0) : 0 ≤ (lineR t need b).2.1 ∧ (lineR t need b).2.1 ≤ b.length := by
  have hv (k : Nat) := pxTR_in (w := 7) (hb.drop k)
  unfold lineR at h ⊢
  by_cases c1 : 192 ≤ b.getD 0 0
  · rw [if_pos c1] at h ⊢
    exact knR_in hb h
  · rw [if_neg c1] at h ⊢
    by_cases c2 : 128 ≤ b.getD 0 0
    · rw [if_pos c2] at h ⊢
      by_cases x : (pxR b 6).2.2 ≠ 0
      · rw [if_pos x] at h; exact absurd h x
      · rw [if_neg x] at h ⊢
        have := pxR_in (fun j => (hb j).1) (Decidable.byContradiction x)
        by_cases y : need ≤ (pxR b 6).1
        · rw [if_pos y] at h; cases h
        · rw [if_neg y]
          simp only
          omega
    · rw [if_neg c2] at h ⊢
      by_cases c3 : 64 ≤ b.getD 0 0 ∧ b.getD 0 0 < 80
      · rw [if_pos c3] at h ⊢
        by_cases x : (knR b 4).2.2 ≠ 0
        · rw [if_pos x] at h; exact absurd h x
        · rw [if_neg x] at h ⊢
          have h1 := knR_in hb (Decidable.byContradiction x)
          have h2 := hv (knR b 4).2.1.toNat
          rw [List.length_drop] at h2
          simp only
          omega
      · rw [if_neg c3] at h ⊢
        by_cases c4 : 32 ≤ b.getD 0 0 ∧ b.getD 0 0 < 40
        · rw [if_pos c4] at h ⊢
          by_cases x : (pxTR b 3).2.2 ≠ 0
          · rw [if_pos x] at h; exact absurd h x
          · rw [if_neg x] at h ⊢
            have h1 := pxTR_in (w := 3) hb
            have h2 := hv (pxTR b 3).2.1.toNat
            rw [List.length_drop] at h2
            simp only
            omega
        · rw [if_neg c4] at h; cases h
/-- what an answer of fields is: a row and an error -/
def FlRes (r : List Fld × Int) (w : World) (e : Ending) (w' : World) : Prop := Below w.heap.size w w' ∧ ∃ v, e = .returned (.tuple #[v, .int .i64 r.2]) ∧ FSl w' w'.heap.size v r.1
/-- the table in its box, old memory as it was -/
structure TKF (W : World) (o : Obj) (w : World) : Prop where
  t : w.heap[W.heap.size]? = some o
  b : Below W.heap.size W w
theorem TKF.later {W : World} {o : Obj} {w w' : World} (h : TKF W o w) (b : Below w.heap.size w w') : TKF W o w' := ⟨(b.block _ (lt_of_block h.t)).trans h.t, h.b.trans (b.mono h.b.size)⟩
theorem TKF.gr {W : World} {o : Obj} {w w' : World} {r : Option Nat} (h : TKF W o w) (g : w.grownBy w' r) (hr : ∀ k, r = some k → W.heap.size + 1 ≤ k) : TKF W o w' :=
  ⟨(g.block _ (lt_of_block h.t) (fun e => by have := hr _ e.symm; omega)).trans h.t, h.b.grown g h.b.size (fun k e => by have := hr _ e; omega)⟩
theorem ready_ne4 {l : List Nat} (h : l.isEmpty = false) : l ≠ [] := by
  intro e
  rw [e] at h
  cases h
end Go.Proofs.Ytpfahdogedchpaa.P
namespace Go.Proofs.Ytpfahdogedchpaa
set_option linter.unusedVariables false
open Go.RowKit P

structure Fd4 (w0 : World) (W : World) (S S1 S2 X : ByteArray) (f : Fld) (out : List Fld) (room put : Int) (At A : Option Addr) (Nt ct n c K : Nat) (V0 V1 V4 V5 V6 V8 : Value) (tb0 tb1 tb2 tb3 tb4 tb5 tb6 tb7 tb8 : Bool) (tx0 tx1 tx2 tx3 tx4 tx5 tx6 tx7 tx8 : Value) (w : World) : Prop where
  be : tb3 = false → Below w0.heap.size w0 w
  d2 : tb2 = true → tb1 = true
  d3 : tb3 = true → tb0 = true ∧ tb2 = true
  d6 : tb6 = true → tb4 = true ∧ tb5 = true
  d7 : tb7 = true → tb0 = true ∧ tb1 = true ∧ tb2 = true ∧ tb3 = true
  d8 : tb8 = true → tb0 = true ∧ tb1 = true ∧ tb2 = true ∧ tb3 = true ∧ tb4 = true ∧ tb5 = true ∧ tb6 = true ∧ tb7 = true
  tk : TKF W (.cells #[.int .i64 room, .int .i64 put, .slice At Nt ct] 27 (0, 0)) w
  oa : tb3 = false → OwnE FdE w (W.heap.size + 1) 66 (.slice A n c) out
  sa : tb7 = false → tx7 = .slice A n c
  sb : tb8 = false → tx8 = .string S
  h0 : tb0 = true → tx0 = V0
  h1 : tb1 = true → tx1 = V1
  h2 : tb2 = true → tb3 = false → ∃ k, tx2 = .slice (some ⟨k, 0, none⟩) 1 1 ∧ RowE FdE w w.heap.size (some ⟨k, 0, none⟩) [f]
  h3 : tb3 = true → OwnE FdE w (W.heap.size + 1) 66 tx3 (out ++ [f])
  h4 : tb4 = true → tx4 = V4
  h5 : tb5 = true → tx5 = V5
  h6 : tb6 = true → tx6 = V6
  h7 : tb7 = true → tx7 = tx3
  h8 : tb8 = true → tx8 = V8
set_option maxRecDepth 100000 in
set_option maxHeartbeats 2000000 in
theorem refFlO_any (v : Value) (t : Tb) (b : List Int) (W : World) (hv : TbVal W W.heap.size v t) (hw : TbWf t) (hb : Byt b) (hl : b.length ≤ 140737488355328) :
    Calls Try.prog 24 #[v, .string (strOfNums b)] W (FlRes (decFl t b) W) := by
  have HFT := Lib.hid (fun w (hb : Below W.heap.size W w) => refTabF_any v t w (hv.on hb) hw)
  have HPO := Lib.hid (fun w => refPxO_any b 8 w hb hl (by decide) (by decide))
  have HPI := Lib.hid (fun h => pxR_in (b := b) (w := 8) (fun j => (hb j).1) h)
  have HLN := Lib.hid (fun need bs h1 h2 h3 h4 w (hb : Below W.heap.size W w) => refLn_any v t need bs w (hv.on hb) hw h1 h2 h3 h4)
  have HLW := Lib.hid (fun need bs h1 h2 => lineR_wf hw need (b := bs) h1 h2)
  have hD : decFl t b = if faultTb t ≠ 0 then ([], faultTb t) else if (pxR b 8).2.2 ≠ 0 then ([], (pxR b 8).2.2) else if t.put < (pxR b 8).1 then ([], 14)
    else if (linesR t (pxR b 8).1 9 (b.drop (pxR b 8).2.1.toNat) []).2 ≠ 0 then ([], (linesR t (pxR b 8).1 9 (b.drop (pxR b 8).2.1.toNat) []).2)
    else if faultFl (linesR t (pxR b 8).1 9 (b.drop (pxR b 8).2.1.toNat) []).1 ≠ 0 then ([], faultFl (linesR t (pxR b 8).1 9 (b.drop (pxR b 8).2.1.toNat) []).1) else linesR t (pxR b 8).1 9 (b.drop (pxR b 8).2.1.toNat) [] := rfl
  rw [hD]
  obtain ⟨A, cp, rfl⟩ := tb_slicesR hv
  have pb := hw.put
  have B0 := Lib.hid ((Below.refl W.heap.size W).alloc (Nat.le_refl _) (.cells #[.int .i64 t.room, .int .i64 t.put, .slice A t.rows.length cp] 27))
  have F0 := Lib.hid (heap_alloc_new W (.cells #[.int .i64 t.room, .int .i64 t.put, .slice A t.rows.length cp] 27))
  obtain ⟨S0, hS⟩ : ∃ S, strOfNums b = S := ⟨_, rfl⟩
  have HSS := Lib.hid hS
  have HBY := Lib.hid hb
  have HBL := Lib.hid hl
  rw [hS] at HPO ⊢
  obtain ⟨x, hx⟩ : ∃ x, faultTb t = x := ⟨_, rfl⟩
  have HOKT := Lib.hid (fun h : x = 0 => (faultTb_iff t).1 (hx.trans h))
  rw [hx] at HFT ⊢
  obtain ⟨⟨need, u, y⟩, hr⟩ : ∃ r, pxR b 8 = r := ⟨_, rfl⟩
  rw [hr] at HPO HPI ⊢
  unfold pxRV at HPO
  dsimp only at HPO HPI ⊢
  unfold FlRes
  obtain ⟨room, put, rows⟩ := t
  simp only at pb HFT HLN HLW B0 F0 HOKT ⊢
  obtain ⟨Nt, hNt⟩ : ∃ n, rows.length = n := ⟨_, rfl⟩
  rw [hNt] at HFT HLN B0 F0 ⊢
  clear hS hx hr hv hw hb hl hD
  by_cases h0 : x = 0
  · subst h0
    rw [if_neg (fun k => k rfl)]
    by_cases hy : y = 0
    · subst hy
      rw [if_neg (fun k => k rfl)]
      obtain ⟨n0, n1, u0, u1, u2⟩ := HPI.out rfl
      by_cases hp : put < need
      · rw [if_pos hp]
        have e1 : decide (put < need) = true := by simp [hp]
        clear hNt
        go_enter Try.func24, Try.ntmps24
        go_wp2_with (first
          | (go_at_call 38; refine (HFT.out _ B0.out).mono ?_; rintro e w1 ⟨rfl, b1⟩; have B1 := Lib.hid (B0.out.trans (b1.mono B0.out.size)); have F1 := Lib.hid ((b1.block _ (lt_of_block F0.out)).trans F0.out); clear b1; obtain ⟨q0, q1, q2⟩ := bk3T F1.out)
          | (go_at_call 39; refine (HPO.out _).mono ?_; rintro e w2 ⟨rfl, b2⟩; have B2 := Lib.hid (B1.out.trans (b2.mono B1.out.size)); have F2 := Lib.hid ((b2.block _ (lt_of_block F1.out)).trans F1.out); clear b2 q0 q1 q2; obtain ⟨q0, q1, q2⟩ := bk3T F2.out))
        go_ret2
        exact ⟨B2.out, _, rfl, FSl.nil _ _⟩
      · rw [if_neg hp]
        have e1 : decide (put < need) = false := by simp; omega
        obtain ⟨U, rfl⟩ : ∃ U : Nat, u = U := ⟨u.toNat, by omega⟩
        rw [Int.toNat_natCast]
        have HXT := Lib.hid (fun (bs : List Int) (K : Nat) (h : K ≤ bs.length) => show (strOfNums bs).extract K (strOfNums bs).size = strOfNums (bs.drop K) by rw [str_mid2, strOfNums_size, List.take_of_length_le (by rw [List.length_drop]; omega)])
        have HX0 := Lib.hid (show S0.extract U S0.size = strOfNums (b.drop U) by rw [← HSS.out]; exact HXT.out b U (by omega))
        have hUS : (U : Int) ≤ (S0.size : Int) := by rw [← HSS.out, strOfNums_size]; omega
        have hs47 : S0.size ≤ 140737488355328 := by rw [← HSS.out, strOfNums_size]; exact HBL.out
        have HD1 := Lib.hid (HBY.out.drop U)
        have HD2 := Lib.hid (show (b.drop U).length ≤ 140737488355328 by rw [List.length_drop]; have := HBL.out; omega)
        obtain ⟨X0, hX0⟩ : ∃ X, strOfNums (b.drop U) = X := ⟨_, rfl⟩
        rw [hX0] at HX0
        have HXX := Lib.hid hX0
        have hx0 := HX0.out
        obtain ⟨T, hT⟩ : ∃ T : Tb, (⟨room, put, rows⟩ : Tb) = T := ⟨_, rfl⟩
        rw [hT] at HLN HLW ⊢
        obtain ⟨R, hR⟩ : ∃ R, linesR T need 9 (b.drop U) [] = R := ⟨_, rfl⟩
        rw [hR]
        have HRR := Lib.hid hR
        obtain ⟨RS, hRS⟩ : ∃ RS : List Fld × Int, (if R.2 ≠ 0 then ([], R.2) else if faultFl R.1 ≠ 0 then ([], faultFl R.1) else R) = RS := ⟨_, rfl⟩
        rw [hRS]
        have HRS := Lib.hid hRS
        obtain ⟨i0, hi0, hz0, hz1, hz2⟩ := info_partsE infoFd
        have HI := Lib.hid hi0
        have HZ := Lib.hid hz0
        have HZ1 := Lib.hid hz1
        have HZ2 := Lib.hid hz2
        have hn99 : 0 ≤ need ∧ need ≤ 4611686018427387904 := by omega
        clear hR hRS hX0 hNt hT hp HX0 hi0 hz0 hz1 hz2 HOKT
        go_enter Try.func24, Try.ntmps24
        go_wp2_with (first
          | (go_at_call 38; refine (HFT.out _ B0.out).mono ?_; rintro e w1 ⟨rfl, b1⟩; have B1 := Lib.hid (B0.out.trans (b1.mono B0.out.size)); have F1 := Lib.hid ((b1.block _ (lt_of_block F0.out)).trans F0.out); clear b1; obtain ⟨q0, q1, q2⟩ := bk3T F1.out)
          | (go_at_call 39; refine (HPO.out _).mono ?_; rintro e w2 ⟨rfl, b2⟩; have B2 := Lib.hid (B1.out.trans (b2.mono B1.out.size)); have F2 := Lib.hid ((b2.block _ (lt_of_block F1.out)).trans F1.out); clear b2 q0 q1 q2; obtain ⟨q0, q1, q2⟩ := bk3T F2.out))
        clear q0 q1 q2 hx0 hUS hs47
        go_loopg [1, 10] 9 (fun gq sv ov wr => ∃ (bs : List Int) (out : List Fld) (A1 : Option Addr) (n c : Nat), sv = .string (strOfNums bs) ∧ ov = .slice A1 n c ∧ n + gq = 9 ∧ Hid (out.length = n) ∧ Hid (Byt bs) ∧ Hid (bs.length ≤ 140737488355328) ∧ Hid (linesR T need gq bs out = R) ∧ Hid (∀ x ∈ out, FdWf x) ∧ Hid (OwnE FdE wr (W.heap.size + 1) 66 (.slice A1 n c) out) ∧ Hid (TKF W (.cells #[.int .i64 room, .int .i64 put, .slice A Nt cp] 27 (0, 0)) wr))
        case atStart => exact ⟨b.drop U, [], none, 0, 0, by rw [HXX.out], rfl, rfl, Lib.hid rfl, HD1, HD2, HRR, Lib.hid (fun x hx => by cases hx), Lib.hid (OwnE.nil _ _ _), Lib.hid ⟨F2.out, B2.out⟩⟩
        case round =>
          obtain ⟨bs, out, A1, n, c, rfl, rfl, hng, HNL, HBB, HBBL, HLR, HOW, OB, TK⟩ := hrel
          cases bs with
          | nil =>
            have hRo : R = (out, 0) := by
              have := HLR.out
              cases gk with
              | zero => rw [linesR, if_pos rfl] at this; exact this.symm
              | succ g => rw [linesR, if_pos rfl] at this; exact this.symm
            obtain ⟨A2, c2, h8, l8, m8, r8⟩ := OB.out.slice
            injection h8 with a1 a2 a3
            have HFF := Lib.hid (fun w (hb : Below wr.heap.size wr w) => refFlF_any A1 n c out w (a1 ▸ r8.on hb) HNL.out HOW.out (by omega))
            have HFS := Lib.hid (fun w (hb : Below wr.heap.size wr w) => (⟨A1, c, by rw [HNL.out], by rw [a3]; exact l8, by rw [a3]; exact m8, a1 ▸ r8.on hb⟩ : FSl w w.heap.size (.slice A1 n c) out))
            obtain ⟨ff, hff⟩ : ∃ e, faultFl out = e := ⟨_, rfl⟩
            rw [hff] at HFF
            have HRQ := Lib.hid (show RS = if ff ≠ 0 then ([], ff) else (out, 0) by rw [← HRS.out, hRo, if_neg (fun k => k rfl), hff])
            rw [show strOfNums ([] : List Int) = ⟨#[]⟩ from rfl]
            have BK := Lib.hid TK.out.b
            clear hRo a1 a2 a3 l8 m8 r8 hff HRS HRR
            by_cases hf : ff = 0
            · subst hf
              obtain rfl : RS = (out, 0) := by rw [HRQ.out, if_neg (fun k => k rfl)]
              clear HRQ
              go_wp2_with fail
              refine (HFF.out _ (Below.refl _ _)).mono ?_
              rintro e w3 ⟨rfl, b3⟩
              have B3 := Lib.hid (BK.out.trans (b3.mono BK.out.size))
              have S3 := Lib.hid (HFS.out w3 b3)
              clear b3
              go_wp2_with fail
              go_ret2
              exact ⟨B3.out, _, rfl, S3.out⟩
            · obtain rfl : RS = ([], ff) := by rw [HRQ.out, if_pos hf]
              have g : (ff != 0) = true := by simp [hf]
              clear hf HRQ
              go_wp2_with fail
              refine (HFF.out _ (Below.refl _ _)).mono ?_
              rintro e w3 ⟨rfl, b3⟩
              have B3 := Lib.hid (BK.out.trans (b3.mono BK.out.size))
              clear b3
              go_wp2_with fail
              go_ret2
              exact ⟨B3.out, _, rfl, FSl.nil _ _⟩
          | cons z l =>
            have hemp := str_empty (z :: l)
            have hszz : (strOfNums (z :: l)).size = (z :: l).length := strOfNums_size _
            have HXQ := Lib.hid (fun K h => HXT.out (z :: l) K h)
            have hLN := HLN.out need (z :: l) HBB.out HBBL.out (by simp) hn99
            have HIN := Lib.hid (fun h => lineR_in (t := T) (need := need) HBB.out h)
            have HFW := Lib.hid (HLW.out need (z :: l) HBB.out HBBL.out)
            have HBD := Lib.hid (fun K => HBB.out.drop K)
            have HBL2 := Lib.hid (fun K => show ((z :: l).drop K).length ≤ 140737488355328 by rw [List.length_drop]; have := HBBL.out; omega)
            obtain ⟨S, hS⟩ : ∃ S, strOfNums (z :: l) = S := ⟨_, rfl⟩
            rw [hS] at hemp hszz hLN ⊢
            have HSZ := Lib.hid hszz
            have HS := Lib.hid hS
            have HLNE := Lib.hid hLN
            have e1 : S.toList.isEmpty = false := by rw [hemp]; simp
            have e2 : (S.toList == []) = false := by
              cases hq : S.toList with
              | nil => rw [hq] at e1; cases e1
              | cons a b => rfl
            have hs47 : S.size ≤ 140737488355328 := by rw [hszz]; exact HBBL.out
            clear hemp hszz hLN hS
            by_cases h8 : 8 ≤ n
            · have hRo : R = ([], 1) := by
                have := HLR.out
                cases gk with
                | zero => rw [linesR, if_neg (by simp)] at this; exact this.symm
                | succ g => rw [linesR, if_neg (by simp), if_pos (by rw [HNL.out]; exact h8)] at this; exact this.symm
              obtain rfl : RS = ([], 1) := by rw [← HRS.out, hRo, if_pos (by decide)]
              have BK := Lib.hid TK.out.b
              have h8i : (8 : Int) ≤ (n : Int) := by omega
              clear hRo HRS HRR
              go_wp2_with fail
              go_ret2
              exact ⟨BK.out, _, rfl, FSl.nil _ _⟩
            · have h8i : ¬ (8 : Int) ≤ (n : Int) := by omega
              obtain ⟨g, rfl⟩ : ∃ g, gk = g + 1 := ⟨gk - 1, by omega⟩
              have HLS := Lib.hid (show R = if (lineR T need (z :: l)).2.2 ≠ 0 then ([], (lineR T need (z :: l)).2.2) else linesR T need g ((z :: l).drop (lineR T need (z :: l)).2.1.toNat) (out ++ [(lineR T need (z :: l)).1]) by
                have := HLR.out
                rw [linesR, if_neg (by simp), if_neg (by rw [HNL.out]; exact h8)] at this
                exact this.symm)
              obtain ⟨⟨f, u, y⟩, hln⟩ : ∃ r, lineR T need (z :: l) = r := ⟨_, rfl⟩
              rw [hln] at HIN HFW HLNE HLS
              unfold fdRV fdV at HLNE
              dsimp only at HIN HFW HLNE HLS
              obtain ⟨S1, hS1⟩ : ∃ S, strOfNums f.name = S := ⟨_, rfl⟩
              obtain ⟨S2, hS2⟩ : ∃ S, strOfNums f.val = S := ⟨_, rfl⟩
              have HFX := Lib.hid (show FdE.f f = [.string S1, .string S2] by rw [← hS1, ← hS2]; rfl)
              rw [hS1, hS2] at HLNE
              obtain ⟨q0, q1, q2⟩ := bk3T TK.out.t
              clear hln hS1 hS2 HLR h8
              by_cases hy : y = 0
              · subst hy
                rw [if_neg (fun k => k rfl)] at HLS
                obtain ⟨u0, u1⟩ := HIN.out rfl
                obtain ⟨K, rfl⟩ : ∃ K : Nat, u = K := ⟨u.toNat, by omega⟩
                rw [Int.toNat_natCast] at HLS
                have hKl : K ≤ (z :: l).length := by omega
                have HX1 := HXQ.out K hKl
                rw [HS.out] at HX1
                obtain ⟨X, hX⟩ : ∃ X, strOfNums ((z :: l).drop K) = X := ⟨_, rfl⟩
                rw [hX] at HX1
                have HX := Lib.hid HX1
                have HXN := Lib.hid hX
                have HKI := Lib.hid (show (K : Int) ≤ (S.size : Int) by rw [HSZ.out]; omega)
                have HLL := Lib.hid (show out.length ≤ 8 by rw [HNL.out]; omega)
                clear HX1 hX hKl u0 u1
                go_wp2_with fail
                refine (HLNE.out _ TK.out.b).mono ?_
                clear q0 q1 q2
                rintro e w2 ⟨rfl, b2⟩
                have X2 := Lib.hid (b2.alloc b2.size (.cells #[.string S1, .string S2] 66))
                have G3 := Lib.hid (heap_alloc_new w2 (.cells #[.string S1, .string S2] 66))
                have TK3 := Lib.hid (TK.out.later X2.out)
                have OA3 := Lib.hid (OwnE.later OB.out X2.out)
                clear b2
                go_upto_region 17 with fail
                obtain ⟨w3, hw3⟩ : ∃ x, w2.alloc (.cells #[.string S1, .string S2] 66) = x := ⟨_, rfl⟩
                rw [hw3] at G3 TK3 OA3 ⊢
                clear hw3 X2
                refine wp_region_inv (fun lis_ act_ wld_ => ∃ (tb0 tb1 tb2 tb3 tb4 tb5 tb6 tb7 tb8 : Bool) (tx0 tx1 tx2 tx3 tx4 tx5 tx6 tx7 tx8 : Value), lis_ = #[tb0, tb1, tb2, tb3, tb4, tb5, tb6, tb7, tb8] ∧ act_ = { tmps := #[Value.agg #[Value.int IntKind.i64 room, Value.int IntKind.i64 put, Value.slice A Nt cp], tx8, Value.pointer (some { block := W.heap.size, off := 0 }), undef, u4, u5, Value.int IntKind.i64 0, Value.int IntKind.i64 need, Value.int IntKind.i64 ↑U, Value.int IntKind.i64 0, tx7, Value.pointer (some { block := w2.heap.size, off := 0 }), Value.int IntKind.i64 ↑K, Value.int IntKind.i64 0, undef, Value.agg #[Value.int IntKind.i64 room, Value.int IntKind.i64 put, Value.slice A Nt cp], Value.int IntKind.i64 0, Value.int IntKind.i64 0, Value.bool false, undef, Value.tuple #[Value.int IntKind.i64 need, Value.int IntKind.i64 ↑U, Value.int IntKind.i64 0], Value.string S0, Value.tuple #[Value.int IntKind.i64 need, Value.int IntKind.i64 ↑U, Value.int IntKind.i64 0], Value.int IntKind.i64 need, Value.int IntKind.i64 ↑U, Value.int IntKind.i64 0, Value.int IntKind.i64 0, Value.bool false, undef, Value.int IntKind.i64 need, Value.pointer (some { block := W.heap.size, off := 1 }), Value.int IntKind.i64 put, Value.bool false, Value.string S0, Value.int IntKind.i64 ↑U, Value.string X0, Value.string S, Value.bool true, Value.slice A1 n c, Value.int IntKind.i64 ↑n, Value.bool false, Value.tuple #[Value.agg #[Value.string S1, Value.string S2], Value.int IntKind.i64 ↑K, Value.int IntKind.i64 0], Value.agg #[Value.int IntKind.i64 room, Value.int IntKind.i64 put, Value.slice A Nt cp], Value.int IntKind.i64 need, Value.string S, Value.tuple #[Value.agg #[Value.string S1, Value.string S2], Value.int IntKind.i64 ↑K, Value.int IntKind.i64 0], Value.agg #[Value.string S1, Value.string S2], Value.int IntKind.i64 ↑K, Value.int IntKind.i64 0, Value.int IntKind.i64 0, Value.bool false, u51, tx0, tx1, tx2, tx3, tx4, tx5, tx6, undef, undef, undef, undef, undef, undef], defers := [] } ∧ Fd4 w3 W S S1 S2 X f out room put A A1 Nt cp n c K (.slice A1 n c) (.agg #[.string S1, .string S2]) (.string S) (.int .i64 (K : Int)) (.string X) (.string X) tb0 tb1 tb2 tb3 tb4 tb5 tb6 tb7 tb8 tx0 tx1 tx2 tx3 tx4 tx5 tx6 tx7 tx8 wld_) (by kernel_rfl) ?h0 ?hfin ?hI
                case h0 => exact ⟨_, _, _, _, _, _, _, _, _, _, _, _, _, _, _, _, _, _, rfl, rfl, ⟨(fun _ => (Below.refl _ _).drew), (fun h => by cases h), (fun h => by cases h), (fun h => by cases h), (fun h => by cases h), (fun h => by cases h), TK3.out.later (Below.refl _ _).drew, (fun _ => OwnE.later OA3.out (Below.refl _ _).drew), (fun _ => rfl), (fun _ => rfl), (fun h => by cases h), (fun h => by cases h), (fun h => by cases h), (fun h => by cases h), (fun h => by cases h), (fun h => by cases h), (fun h => by cases h), (fun h => by cases h), (fun h => by cases h)⟩⟩
                case hI =>
                  rintro listed a w ⟨tb0, tb1, tb2, tb3, tb4, tb5, tb6, tb7, tb8, tx0, tx1, tx2, tx3, tx4, tx5, tx6, tx7, tx8, rfl, rfl, H⟩ i hi
                  obtain ⟨hun, oj, hoj, hall⟩ := mem_ready.1 hi
                  clear hi
                  rcases i with _ | _ | _ | _ | _ | _ | _ | _ | _ | i
                  · have ho := hoj
                    simp only [List.getElem?_toArray, List.getElem?_cons_succ, List.getElem?_cons_zero, Option.some.injEq] at hoj
                    subst hoj
                    obtain rfl : tb0 = false := hun
                    clear hall
                    obtain rfl : tb3 = false := Bool.eq_false_iff.2 fun h => Bool.false_ne_true (H.d3 h).1
                    obtain rfl : tb7 = false := Bool.eq_false_iff.2 fun h => Bool.false_ne_true (H.d7 h).1
                    obtain rfl : tb8 = false := Bool.eq_false_iff.2 fun h => Bool.false_ne_true (H.d8 h).1
                    have hbe := H.be rfl
                    have hx_tk := H.tk
                    have hx_oa := H.oa rfl
                    have hx_sa := H.sa rfl
                    have hx_sb := H.sb rfl
                    subst hx_sa
                    subst hx_sb
                    refine wpOp_step ho (fun K' hK => ?_)
                    have HK := Lib.hid hK
                    clear hK ho
                    go_simp
                    exact HK.out _ _ ⟨_, _, _, _, _, _, _, _, _, _, _, _, _, _, _, _, _, _, rfl, rfl, ⟨(fun _ => hbe), H.d2, (fun h => by cases h), H.d6, (fun h => by cases h), (fun h => by cases h), H.tk, H.oa, H.sa, H.sb, (fun _ => rfl), H.h1, H.h2, (fun h => by cases h), H.h4, H.h5, H.h6, (fun h => by cases h), H.h8⟩⟩
                  · have ho := hoj
                    simp only [List.getElem?_toArray, List.getElem?_cons_succ, List.getElem?_cons_zero, Option.some.injEq] at hoj
                    subst hoj
                    obtain rfl : tb1 = false := hun
                    clear hall
                    obtain rfl : tb2 = false := Bool.eq_false_iff.2 fun h => Bool.false_ne_true (H.d2 h)
                    obtain rfl : tb3 = false := Bool.eq_false_iff.2 fun h => Bool.false_ne_true (H.d3 h).2
                    obtain rfl : tb7 = false := Bool.eq_false_iff.2 fun h => Bool.false_ne_true (H.d7 h).2.1
                    obtain rfl : tb8 = false := Bool.eq_false_iff.2 fun h => Bool.false_ne_true (H.d8 h).2.1
                    have hbe := H.be rfl
                    have hx_tk := H.tk
                    have hx_oa := H.oa rfl
                    have hx_sa := H.sa rfl
                    have hx_sb := H.sb rfl
                    subst hx_sa
                    subst hx_sb
                    obtain ⟨y0, y1⟩ := bk2F ((hbe.block _ (lt_of_block G3.out)).trans G3.out)
                    refine wpOp_step ho (fun K' hK => ?_)
                    have HK := Lib.hid hK
                    clear hK ho
                    go_simp
                    exact HK.out _ _ ⟨_, _, _, _, _, _, _, _, _, _, _, _, _, _, _, _, _, _, rfl, rfl, ⟨(fun _ => hbe), (fun h => by cases h), H.d3, H.d6, (fun h => by cases h), (fun h => by cases h), H.tk, H.oa, H.sa, H.sb, H.h0, (fun _ => rfl), (fun h => by cases h), (fun h => by cases h), H.h4, H.h5, H.h6, (fun h => by cases h), H.h8⟩⟩
                  · have ho := hoj
                    simp only [List.getElem?_toArray, List.getElem?_cons_succ, List.getElem?_cons_zero, Option.some.injEq] at hoj
                    subst hoj
                    obtain rfl : tb2 = false := hun
                    obtain rfl : tb1 = true := hall ⟨1, .data⟩ (by simp) (by kernel_rfl)
                    clear hall
                    obtain rfl : tb3 = false := Bool.eq_false_iff.2 fun h => Bool.false_ne_true (H.d3 h).2
                    obtain rfl : tb7 = false := Bool.eq_false_iff.2 fun h => Bool.false_ne_true (H.d7 h).2.2.1
                    obtain rfl : tb8 = false := Bool.eq_false_iff.2 fun h => Bool.false_ne_true (H.d8 h).2.2.1
                    have hbe := H.be rfl
                    have hx_tk := H.tk
                    have hx_oa := H.oa rfl
                    have hx_sa := H.sa rfl
                    have hx_sb := H.sb rfl
                    obtain rfl := H.h1 rfl
                    subst hx_sa
                    subst hx_sb
                    have BA := Lib.hid ((Below.refl w.heap.size w).alloc (Nat.le_refl _) (.cells #[.string S1, .string S2] 66))
                    have NA := Lib.hid ((RowE.one (E := FdE) w f #[.string S1, .string S2] 66 w.heap.size rfl (HFX.out.symm)).more (show w.heap.size + 1 ≤ (w.alloc (.cells #[.string S1, .string S2] 66)).heap.size by simp))
                    refine wpOp_step ho (fun K' hK => ?_)
                    have HK := Lib.hid hK
                    clear hK ho
                    go_simp
                    exact HK.out _ _ ⟨_, _, _, _, _, _, _, _, _, _, _, _, _, _, _, _, _, _, rfl, rfl, ⟨(fun _ => hbe.trans (BA.out.mono hbe.size)), (fun _ => rfl), (fun h => by cases h), H.d6, (fun h => by cases h), (fun h => by cases h), TKF.later hx_tk BA.out, (fun _ => OwnE.later hx_oa BA.out), (fun _ => rfl), (fun _ => rfl), H.h0, H.h1, (fun _ _ => ⟨_, rfl, NA.out⟩), (fun h => by cases h), H.h4, H.h5, H.h6, (fun h => by cases h), H.h8⟩⟩
                  · have ho := hoj
                    simp only [List.getElem?_toArray, List.getElem?_cons_succ, List.getElem?_cons_zero, Option.some.injEq] at hoj
                    subst hoj
                    obtain rfl : tb3 = false := hun
                    obtain rfl : tb0 = true := hall ⟨0, .data⟩ (by simp) (by kernel_rfl)
                    obtain rfl : tb2 = true := hall ⟨2, .data⟩ (by simp) (by kernel_rfl)
                    obtain rfl : tb1 = true := (H.d2 rfl)
                    clear hall
                    obtain rfl : tb7 = false := Bool.eq_false_iff.2 fun h => Bool.false_ne_true (H.d7 h).2.2.2
                    obtain rfl : tb8 = false := Bool.eq_false_iff.2 fun h => Bool.false_ne_true (H.d8 h).2.2.2.1
                    have hbe := H.be rfl
                    have hx_tk := H.tk
                    have hx_oa := H.oa rfl
                    have hx_sa := H.sa rfl
                    have hx_sb := H.sb rfl
                    obtain rfl := H.h0 rfl
                    obtain rfl := H.h1 rfl
                    have P2 := H.h2 rfl rfl
                    subst hx_sa
                    subst hx_sb
                    have hlo : W.heap.size + 1 ≤ w.heap.size := lt_of_block hx_tk.t
                    obtain ⟨k3, rfl, hk3⟩ := P2
                    have K3 := Lib.hid hk3
                    have OA := Lib.hid hx_oa
                    have TKK := Lib.hid hx_tk
                    have hll := HLL.out
                    clear hk3
                    refine wpOp_step ho (fun K' hK => ?_)
                    have HK := Lib.hid hK
                    clear hK ho
                    refine step_appE w rfl (.tmp 52) (.tmp 54) _ rfl (W.heap.size + 1) 66 i0 (.agg #[.string ⟨#[]⟩, .string ⟨#[]⟩]) 32 Try.underlying23 HI.out HZ.out HZ1.out HZ2.out rfl (by decide) _ out rfl OA.out w.heap.size (some ⟨k3, 0, none⟩) 1 1 [f] rfl K3.out rfl (by omega) hlo ?_
                    intro v9 u9 own9 g9
                    have O9 := Lib.hid own9
                    have TG := Lib.hid (TKK.out.gr g9 (fun k e => (OwnE.lt OA.out k e).1))
                    clear own9 g9
                    exact HK.out _ _ ⟨_, _, _, _, _, _, _, _, _, _, _, _, _, _, _, _, _, _, rfl, rfl, ⟨(fun h => by cases h), H.d2, (fun _ => ⟨rfl, rfl⟩), H.d6, (fun h => by cases h), (fun h => by cases h), TG.out, (fun h => by cases h), H.sa, H.sb, H.h0, H.h1, (fun _ h => by cases h), (fun _ => O9.out), H.h4, H.h5, H.h6, (fun h => by cases h), H.h8⟩⟩
                  · have ho := hoj
                    simp only [List.getElem?_toArray, List.getElem?_cons_succ, List.getElem?_cons_zero, Option.some.injEq] at hoj
                    subst hoj
                    obtain rfl : tb4 = false := hun
                    clear hall
                    obtain rfl : tb6 = false := Bool.eq_false_iff.2 fun h => Bool.false_ne_true (H.d6 h).1
                    obtain rfl : tb8 = false := Bool.eq_false_iff.2 fun h => Bool.false_ne_true (H.d8 h).2.2.2.2.1
                    have hx_tk := H.tk
                    have hx_sb := H.sb rfl
                    subst hx_sb
                    refine wpOp_step ho (fun K' hK => ?_)
                    have HK := Lib.hid hK
                    clear hK ho
                    go_simp
                    exact HK.out _ _ ⟨_, _, _, _, _, _, _, _, _, _, _, _, _, _, _, _, _, _, rfl, rfl, ⟨H.be, H.d2, H.d3, (fun h => by cases h), H.d7, (fun h => by cases h), H.tk, H.oa, H.sa, H.sb, H.h0, H.h1, H.h2, H.h3, (fun _ => rfl), H.h5, H.h6, H.h7, H.h8⟩⟩
                  · have ho := hoj
                    simp only [List.getElem?_toArray, List.getElem?_cons_succ, List.getElem?_cons_zero, Option.some.injEq] at hoj
                    subst hoj
                    obtain rfl : tb5 = false := hun
                    clear hall
                    obtain rfl : tb6 = false := Bool.eq_false_iff.2 fun h => Bool.false_ne_true (H.d6 h).2
                    obtain rfl : tb8 = false := Bool.eq_false_iff.2 fun h => Bool.false_ne_true (H.d8 h).2.2.2.2.2.1
                    have hx_tk := H.tk
                    have hx_sb := H.sb rfl
                    subst hx_sb
                    refine wpOp_step ho (fun K' hK => ?_)
                    have HK := Lib.hid hK
                    clear hK ho
                    go_simp
                    exact HK.out _ _ ⟨_, _, _, _, _, _, _, _, _, _, _, _, _, _, _, _, _, _, rfl, rfl, ⟨H.be, H.d2, H.d3, (fun h => by cases h), H.d7, (fun h => by cases h), H.tk, H.oa, H.sa, H.sb, H.h0, H.h1, H.h2, H.h3, H.h4, (fun _ => rfl), H.h6, H.h7, H.h8⟩⟩
                  · have ho := hoj
                    simp only [List.getElem?_toArray, List.getElem?_cons_succ, List.getElem?_cons_zero, Option.some.injEq] at hoj
                    subst hoj
                    obtain rfl : tb6 = false := hun
                    obtain rfl : tb4 = true := hall ⟨4, .data⟩ (by simp) (by kernel_rfl)
                    obtain rfl : tb5 = true := hall ⟨5, .data⟩ (by simp) (by kernel_rfl)
                    clear hall
                    obtain rfl : tb8 = false := Bool.eq_false_iff.2 fun h => Bool.false_ne_true (H.d8 h).2.2.2.2.2.2.1
                    have hx_tk := H.tk
                    have hx_sb := H.sb rfl
                    obtain rfl := H.h4 rfl
                    obtain rfl := H.h5 rfl
                    subst hx_sb
                    have hxx := HX.out
                    have hkI := HKI.out
                    refine wpOp_step ho (fun K' hK => ?_)
                    have HK := Lib.hid hK
                    clear hK ho
                    go_simp
                    exact HK.out _ _ ⟨_, _, _, _, _, _, _, _, _, _, _, _, _, _, _, _, _, _, rfl, rfl, ⟨H.be, H.d2, H.d3, (fun _ => ⟨rfl, rfl⟩), H.d7, (fun h => by cases h), H.tk, H.oa, H.sa, H.sb, H.h0, H.h1, H.h2, H.h3, H.h4, H.h5, (fun _ => rfl), H.h7, H.h8⟩⟩
                  · have ho := hoj
                    simp only [List.getElem?_toArray, List.getElem?_cons_succ, List.getElem?_cons_zero, Option.some.injEq] at hoj
                    subst hoj
                    obtain rfl : tb7 = false := hun
                    obtain rfl : tb0 = true := hall ⟨0, .phase⟩ (by simp) (by kernel_rfl)
                    obtain rfl : tb1 = true := hall ⟨1, .phase⟩ (by simp) (by kernel_rfl)
                    obtain rfl : tb2 = true := hall ⟨2, .phase⟩ (by simp) (by kernel_rfl)
                    obtain rfl : tb3 = true := hall ⟨3, .data⟩ (by simp) (by kernel_rfl)
                    clear hall
                    obtain rfl : tb8 = false := Bool.eq_false_iff.2 fun h => Bool.false_ne_true (H.d8 h).2.2.2.2.2.2.2
                    have hx_tk := H.tk
                    have hx_sa := H.sa rfl
                    have hx_sb := H.sb rfl
                    obtain rfl := H.h0 rfl
                    obtain rfl := H.h1 rfl
                    have P3 := H.h3 rfl
                    subst hx_sb
                    refine wpOp_step ho (fun K' hK => ?_)
                    have HK := Lib.hid hK
                    clear hK ho
                    go_simp
                    exact HK.out _ _ ⟨_, _, _, _, _, _, _, _, _, _, _, _, _, _, _, _, _, _, rfl, rfl, ⟨(fun h => by cases h), H.d2, H.d3, H.d6, (fun _ => ⟨rfl, rfl, rfl, rfl⟩), (fun h => by cases h), H.tk, (fun h => by cases h), (fun h => by cases h), H.sb, H.h0, H.h1, (fun _ h => by cases h), H.h3, H.h4, H.h5, H.h6, (fun _ => rfl), H.h8⟩⟩
                  · have ho := hoj
                    simp only [List.getElem?_toArray, List.getElem?_cons_succ, List.getElem?_cons_zero, Option.some.injEq] at hoj
                    subst hoj
                    obtain rfl : tb8 = false := hun
                    obtain rfl : tb0 = true := hall ⟨0, .phase⟩ (by simp) (by kernel_rfl)
                    obtain rfl : tb1 = true := hall ⟨1, .phase⟩ (by simp) (by kernel_rfl)
                    obtain rfl : tb2 = true := hall ⟨2, .phase⟩ (by simp) (by kernel_rfl)
                    obtain rfl : tb3 = true := hall ⟨3, .phase⟩ (by simp) (by kernel_rfl)
                    obtain rfl : tb4 = true := hall ⟨4, .phase⟩ (by simp) (by kernel_rfl)
                    obtain rfl : tb5 = true := hall ⟨5, .phase⟩ (by simp) (by kernel_rfl)
                    obtain rfl : tb6 = true := hall ⟨6, .data⟩ (by simp) (by kernel_rfl)
                    obtain rfl : tb7 = true := hall ⟨7, .chain⟩ (by simp) (by kernel_rfl)
                    clear hall
                    have hx_tk := H.tk
                    have hx_sb := H.sb rfl
                    obtain rfl := H.h0 rfl
                    obtain rfl := H.h1 rfl
                    have P3 := H.h3 rfl
                    obtain rfl := H.h4 rfl
                    obtain rfl := H.h5 rfl
                    obtain rfl := H.h6 rfl
                    have P7 := H.h7 rfl
                    subst P7
                    refine wpOp_step ho (fun K' hK => ?_)
                    have HK := Lib.hid hK
                    clear hK ho
                    go_simp
                    exact HK.out _ _ ⟨_, _, _, _, _, _, _, _, _, _, _, _, _, _, _, _, _, _, rfl, rfl, ⟨(fun h => by cases h), H.d2, H.d3, H.d6, H.d7, (fun _ => ⟨rfl, rfl, rfl, rfl, rfl, rfl, rfl, rfl⟩), H.tk, (fun h => by cases h), (fun h => by cases h), (fun h => by cases h), H.h0, H.h1, (fun _ h => by cases h), H.h3, H.h4, H.h5, H.h6, H.h7, (fun _ => rfl)⟩⟩
                  · have ho := hoj
                    simp at ho
                case hfin =>
                  rintro listed a w ⟨tb0, tb1, tb2, tb3, tb4, tb5, tb6, tb7, tb8, tx0, tx1, tx2, tx3, tx4, tx5, tx6, tx7, tx8, rfl, rfl, H⟩ hr
                  have hb : tb8 = true := by
                    clear H
                    revert tb0 tb1 tb2 tb3 tb4 tb5 tb6 tb7 tb8
                    decide +kernel
                  subst hb
                  clear hr
                  obtain rfl : tb0 = true := (H.d8 rfl).1
                  obtain rfl : tb1 = true := (H.d8 rfl).2.1
                  obtain rfl : tb2 = true := (H.d8 rfl).2.2.1
                  obtain rfl : tb3 = true := (H.d8 rfl).2.2.2.1
                  obtain rfl : tb4 = true := (H.d8 rfl).2.2.2.2.1
                  obtain rfl : tb5 = true := (H.d8 rfl).2.2.2.2.2.1
                  obtain rfl : tb6 = true := (H.d8 rfl).2.2.2.2.2.2.1
                  obtain rfl : tb7 = true := (H.d8 rfl).2.2.2.2.2.2.2
                  have tk := H.tk
                  have ow := H.h3 rfl
                  have e6 := H.h7 rfl
                  obtain rfl := H.h8 rfl
                  have TKQ := Lib.hid tk
                  have OWQ := Lib.hid ow
                  clear tk ow H
                  obtain ⟨w4, hw4⟩ : ∃ x, x = w := ⟨_, rfl⟩
                  subst w
                  obtain ⟨A8, c8, h8, l8, _, _⟩ := OWQ.out.slice
                  have hl1 : (out ++ [f]).length = n + 1 := by rw [List.length_append, HNL.out]; rfl
                  rw [hl1] at h8
                  subst h8
                  subst e6
                  have HL1 := Lib.hid hl1
                  clear hl1 l8
                  go_wp2_with fail
                  go_roundg g
                  case measure => omega
                  case rel => exact ⟨(z :: l).drop K, out ++ [f], A8, n + 1, c8, by rw [HXN.out], rfl, by omega, HL1, Lib.hid (HBD.out K), Lib.hid (HBL2.out K), Lib.hid HLS.out.symm, Lib.hid (fun x hx => by rcases List.mem_append.1 hx with hx | hx; (exact HOW.out x hx); (rw [List.mem_singleton.1 hx]; exact HFW.out)), OWQ, TKQ⟩
              · rw [if_pos hy] at HLS
                have g9 : (y != 0) = true := by simp [hy]
                have hRo := HLS.out
                obtain rfl : RS = ([], y) := by rw [← HRS.out, hRo, if_pos (show (([], y) : List Fld × Int).2 ≠ 0 from hy)]
                have BK := Lib.hid TK.out.b
                clear hRo HLS hy HRS HRR
                go_wp2_with fail
                refine (HLNE.out _ TK.out.b).mono ?_
                clear q0 q1 q2
                rintro e w2 ⟨rfl, b2⟩
                have B3 := Lib.hid (BK.out.trans ((b2.alloc b2.size (.cells #[.string S1, .string S2] 66)).mono BK.out.size))
                clear b2
                go_wp2_with fail
                go_ret2
                exact ⟨B3.out, _, rfl, FSl.nil _ _⟩
    · rw [if_pos hy]
      have g : (y != 0) = true := by simp [hy]
      clear hNt hy
      go_enter Try.func24, Try.ntmps24
      go_wp2_with (first
        | (go_at_call 38; refine (HFT.out _ B0.out).mono ?_; rintro e w1 ⟨rfl, b1⟩; have B1 := Lib.hid (B0.out.trans (b1.mono B0.out.size)); have F1 := Lib.hid ((b1.block _ (lt_of_block F0.out)).trans F0.out); clear b1; obtain ⟨q0, q1, q2⟩ := bk3T F1.out)
        | (go_at_call 39; refine (HPO.out _).mono ?_; rintro e w2 ⟨rfl, b2⟩; have B2 := Lib.hid (B1.out.trans (b2.mono B1.out.size)); have F2 := Lib.hid ((b2.block _ (lt_of_block F1.out)).trans F1.out); clear b2 q0 q1 q2; obtain ⟨q0, q1, q2⟩ := bk3T F2.out))
      go_ret2
      exact ⟨B2.out, _, rfl, FSl.nil _ _⟩
  · rw [if_pos h0]
    have g : (x != 0) = true := by simp [h0]
    clear hNt h0
    go_enter Try.func24, Try.ntmps24
    go_wp2_with (go_at_call 38; refine (HFT.out _ B0.out).mono ?_; rintro e w1 ⟨rfl, b1⟩; have B1 := Lib.hid (B0.out.trans (b1.mono B0.out.size)); have F1 := Lib.hid ((b1.block _ (lt_of_block F0.out)).trans F0.out); clear b1; obtain ⟨q0, q1, q2⟩ := bk3T F1.out)
    go_ret2
    exact ⟨B1.out, _, rfl, FSl.nil _ _⟩
end Go.Proofs.Ytpfahdogedchpaa
/- The document's answers on fields: applied. -/
namespace Go.Proofs.Ytpfahdogedchpaa.P
set_option linter.unusedVariables false
open Go.RowKit
/-- one step of what is told ahead: (table, how many bytes, error), by P15.5 -/
def appR (t : Tb) (b : List Int) : Tb × Int × Int :=
  if 32 ≤ b.getD 0 0 ∧ b.getD 0 0 < 64 then (if (pxR b 5).2.2 ≠ 0 then (t, 0, (pxR b 5).2.2) else ((resT t (pxR b 5).1).1, (pxR b 5).2.1, (resT t (pxR b 5).1).2))
  else if 64 ≤ b.getD 0 0 ∧ b.getD 0 0 < 96 then (if (pxTR b 5).2.2 ≠ 0 then (t, 0, (pxTR b 5).2.2) else if (pxTR (b.drop (pxTR b 5).2.1.toNat) 7).2.2 ≠ 0 then (t, 0, (pxTR (b.drop (pxTR b 5).2.1.toNat) 7).2.2) else ((insT t ⟨(pxTR b 5).1, (pxTR (b.drop (pxTR b 5).2.1.toNat) 7).1⟩).1, (pxTR b 5).2.1 + (pxTR (b.drop (pxTR b 5).2.1.toNat) 7).2.1, (insT t ⟨(pxTR b 5).1, (pxTR (b.drop (pxTR b 5).2.1.toNat) 7).1⟩).2))
  else (t, 0, 2)
/-- an answer: a table, a number and an error -/
def TbRes3 (r : Tb × Int × Int) (w : World) (e : Ending) (w' : World) : Prop := Below w.heap.size w w' ∧ ∃ v, e = .returned (.tuple #[v, .int .i64 r.2.1, .int .i64 r.2.2]) ∧ TbVal w' w'.heap.size v r.1
/-- a row of fields lies in no block that holds a table: what is put there leaves it as it was -/
theorem FSl.gr {w w' : World} {B : Nat} {v : Value} {l : List Fld} {k : Nat} {a0 a1 : Int} {p : Option Addr} {n c : Nat} {T : TypeId} (h : FSl w B v l) (hk : w.heap[k]? = some (.cells #[.int .i64 a0, .int .i64 a1, .slice p n c] T (0, 0))) (g : w.grownBy w' (some k)) : FSl w' B v l := by
  obtain ⟨A, cp, e, h1, h2, h3⟩ := h.ex
  refine ⟨A, cp, e, h1, h2, fun hn => ?_⟩
  obtain ⟨b, off, e', hb, hc⟩ := h3 hn
  refine ⟨b, off, e', hb, fun j u hj => g.cell (hc j u hj) ?_⟩
  intro q
  cases q
  have := RowE.at hc 0 0 hn (by decide)
  rw [bk_cell hk] at this
  generalize off + (0 * FdE.k + 0) = o at this
  rcases o with _ | _ | _ | o
  · cases this
  · cases this
  · cases this
  · cases this
theorem TbVal.gr {w w' : World} {B : Nat} {v : Value} {t : Tb} {k : Nat} {a0 a1 : Int} {p : Option Addr} {n c : Nat} {T : TypeId} (h : TbVal w B v t) (hk : w.heap[k]? = some (.cells #[.int .i64 a0, .int .i64 a1, .slice p n c] T (0, 0))) (g : w.grownBy w' (some k)) : TbVal w' B v t := by
  obtain ⟨s, e, h1⟩ := h.ex
  exact ⟨s, e, h1.gr hk g⟩
theorem TbVal.more {w : World} {B B' : Nat} {v : Value} {t : Tb} (h : TbVal w B v t) (hB : B ≤ B') : TbVal w B' v t := by
  obtain ⟨s, e, h1⟩ := h.ex
  exact ⟨s, e, h1.more hB⟩
theorem tb_partsR {w : World} {B : Nat} {v : Value} {t : Tb} (h : TbVal w B v t) : ∃ A n c room put, v = .agg #[.int .i64 room, .int .i64 put, .slice A n c] ∧ TbVal w B (.agg #[.int .i64 room, .int .i64 put, .slice A n c]) t := by
  obtain ⟨s, rfl, h1⟩ := h.ex
  obtain ⟨A, c, rfl, h2⟩ := h1.ex
  exact ⟨A, t.rows.length, c, t.room, t.put, rfl, ⟨_, rfl, ⟨A, c, rfl, h2⟩⟩⟩
end Go.Proofs.Ytpfahdogedchpaa.P
namespace Go.Proofs.Ytpfahdogedchpaa
set_option linter.unusedVariables false
open Go.RowKit P

end Go.Proofs.Ytpfahdogedchpaa
/- The document's answers on fields: Applied. -/
namespace Go.Proofs.Ytpfahdogedchpaa.P
set_option linter.unusedVariables false
open Go.RowKit
theorem pxTR_pos {b : List Int} {w : Int} (hb : Byt b) (h : (pxTR b w).2.2 = 0) : 1 ≤ (pxTR b w).2.1 := by
  unfold pxTR at h ⊢
  by_cases c : (pxR b w).2.2 ≠ 0
  · rw [if_pos c] at h; exact absurd h c
  · rw [if_neg c] at h ⊢
    have i := pxR_in (fun j => (hb j).1) (Decidable.byContradiction c)
    by_cases d : 120 < (pxR b w).1
    · rw [if_pos d] at h; cases h
    · rw [if_neg d] at h ⊢
      by_cases e : (b.length : Int) < (pxR b w).2.1 + (pxR b w).1
      · rw [if_pos e] at h; cases h
      · rw [if_neg e]
        simp only
        omega
/-- a step that is done takes bytes that are there -/
theorem appR_in {t : Tb} {b : List Int} (hb : Byt b) (h : (appR t b).2.2 = 0) : 1 ≤ (appR t b).2.1 ∧ (appR t b).2.1 ≤ b.length := by
  unfold appR at h ⊢
  by_cases c1 : 32 ≤ b.getD 0 0 ∧ b.getD 0 0 < 64
  · rw [if_pos c1] at h ⊢
    by_cases x : (pxR b 5).2.2 ≠ 0
    · rw [if_pos x] at h; exact absurd h x
    · rw [if_neg x]
      have i := pxR_in (fun j => (hb j).1) (Decidable.byContradiction x)
      exact ⟨i.2.2.1, i.2.2.2.2⟩
  · rw [if_neg c1] at h ⊢
    by_cases c2 : 64 ≤ b.getD 0 0 ∧ b.getD 0 0 < 96
    · rw [if_pos c2] at h ⊢
      by_cases x : (pxTR b 5).2.2 ≠ 0
      · rw [if_pos x] at h; exact absurd h x
      · rw [if_neg x] at h ⊢
        have h1 := pxTR_in (w := 5) hb
        have h1' := pxTR_pos hb (Decidable.byContradiction x)
        have h2 := pxTR_in (w := 7) (hb.drop (pxTR b 5).2.1.toNat)
        rw [List.length_drop] at h2
        by_cases y : (pxTR (b.drop (pxTR b 5).2.1.toNat) 7).2.2 ≠ 0
        · rw [if_pos y] at h; exact absurd h y
        · rw [if_neg y]
          simp only
          omega
    · rw [if_neg c2] at h; cases h
theorem resT_wf {t : Tb} {n : Int} (hw : TbWf t) : TbWf (resT t n).1 := by
  have hz : TbWf tb0 := ⟨by decide, by decide, by decide, fun x hx => by cases hx⟩
  unfold resT
  split
  · exact hz
  · split
    · exact hz
    · obtain ⟨k, h1, h2⟩ := young_suffix n t.rows
      refine ⟨by simp only; omega, hw.put, ?_, fun x hx => ?_⟩
      · simp only [h2, List.length_drop]; have := hw.len; omega
      · simp only [h2] at hx; exact hw.rows x (List.mem_of_mem_drop hx)
theorem insT_wf {t : Tb} {f : Fld} (hw : TbWf t) (hf : FdWf f) : TbWf (insT t f).1 := by
  have hz : TbWf tb0 := ⟨by decide, by decide, by decide, fun x hx => by cases hx⟩
  unfold insT
  by_cases c : faultTb t ≠ 0
  · rw [if_pos c]; exact hz
  · rw [if_neg c]
    have ok := ((faultTb_iff t).1 (Decidable.byContradiction c))
    have h4 := wtL_len t.rows
    have h5 := ok.2.2.2.1
    have h6 := ok.1.2
    have h7 := ok.2.1
    split
    · exact hz
    · split
      · exact hz
      · split
        · exact hz
        · obtain ⟨k, h1, h2⟩ := young_suffix t.room (t.rows ++ [f])
          refine ⟨hw.room, by simp only; omega, ?_, fun x hx => ?_⟩
          · simp only [h2, List.length_drop, List.length_append, List.length_singleton]; omega
          · simp only [h2] at hx
            rcases List.mem_append.1 (List.mem_of_mem_drop hx) with q | q
            · exact hw.rows x q
            · rw [List.mem_singleton.1 q]; exact hf
theorem appR_wf {t : Tb} {b : List Int} (hw : TbWf t) (hb : Byt b) (hl : b.length ≤ 140737488355328) : TbWf (appR t b).1 := by
  unfold appR
  split
  · split
    · exact hw
    · exact resT_wf hw
  · split
    · split
      · exact hw
      · split
        · exact hw
        · have h1 := pxTR_wf 5 hb
          have h2 := pxTR_wf 7 (hb.drop (pxTR b 5).2.1.toNat)
          rw [List.length_drop] at h2
          exact insT_wf hw ⟨h1.1, h2.1, Nat.le_trans h1.2 hl, by simp only; omega⟩
    · exact hw
/-- all that is told ahead, from a place on -/
def appsR : Nat → Tb → List Int → Nat → Tb × Int × Int
  | 0, t, b, a => (t, (a : Int), 0)
  | g + 1, t, b, a => if b.length ≤ a then (t, (a : Int), 0) else if (appR t (b.drop a)).2.2 = 4 then (t, (a : Int), 0) else if (appR t (b.drop a)).2.2 ≠ 0 then (tb0, 0, (appR t (b.drop a)).2.2) else appsR g (appR t (b.drop a)).1 b (a + (appR t (b.drop a)).2.1.toNat)
/-- what Apply says, by P15.5 -/
def appAll (t : Tb) (b : List Int) : Tb × Int × Int := if faultTb t ≠ 0 then (tb0, 0, faultTb t) else appsR (b.length + 1) t b 0
/-- a table and an answer in their boxes, old memory as it was -/
structure TKA (W : World) (oZ oY : Obj) (v : Value) (t : Tb) (w : World) : Prop where
  z : w.heap[W.heap.size]? = some oZ
  y : w.heap[W.heap.size + 1]? = some oY
  b : Below W.heap.size W w
  v : TbVal w w.heap.size v t
theorem TKA.later {W : World} {oZ oY : Obj} {v : Value} {t : Tb} {w w' : World} (h : TKA W oZ oY v t w) (b : Below w.heap.size w w') : TKA W oZ oY v t w' :=
  ⟨(b.block _ (lt_of_block h.z)).trans h.z, (b.block _ (lt_of_block h.y)).trans h.y, h.b.trans (b.mono h.b.size), h.v.on b⟩
theorem TKA.put {W : World} {oZ oY : Obj} {v : Value} {t : Tb} {w w' : World} {q : Nat} {a0 a1 : Int} {p : Option Addr} {n c : Nat} {T : TypeId} (h : TKA W oZ oY v t w) (hk : w.heap[q]? = some (.cells #[.int .i64 a0, .int .i64 a1, .slice p n c] T (0, 0))) (g : w.grownBy w' (some q)) (hq : W.heap.size + 2 ≤ q) : TKA W oZ oY v t w' :=
  ⟨(g.block _ (lt_of_block h.z) (by simp; omega)).trans h.z, (g.block _ (lt_of_block h.y) (by simp; omega)).trans h.y, h.b.grown g h.b.size (fun k e => by cases e; omega), (h.v.gr hk g).more g.size⟩
/-- another table is put into the first box -/
theorem TKA.set {W : World} {oY : Obj} {v v' : Value} {t t' : Tb} {w w' : World} {a0 a1 : Int} {p : Option Addr} {n c : Nat} {T : TypeId} {oZ' : Obj} (h : TKA W (.cells #[.int .i64 a0, .int .i64 a1, .slice p n c] T (0, 0)) oY v t w) (hz : w'.heap[W.heap.size]? = some oZ') (g : w.grownBy w' (some W.heap.size)) (hv : TbVal w w.heap.size v' t') : TKA W oZ' oY v' t' w' :=
  ⟨hz, (g.block _ (lt_of_block h.y) (by simp)).trans h.y, h.b.grown g h.b.size (fun k e => by cases e; exact Nat.le_refl _), (hv.gr h.z g).more g.size⟩
end Go.Proofs.Ytpfahdogedchpaa.P
namespace Go.Proofs.Ytpfahdogedchpaa
set_option linter.unusedVariables false
open Go.RowKit P

structure Fd6 (w0 : World) (W : World) (S X : ByteArray) (T T2 : Tb) (A1 : Option Addr) (n1 c1 K : Nat) (r1 p1 k y : Int) (V0 V1 V2 V3 V7 V8 V11 V12 : Value) (tb0 tb1 tb2 tb3 tb4 tb5 tb6 tb7 tb8 tb9 tb10 tb11 tb12 : Bool) (tx0 tx1 tx2 tx3 tx4 tx5 tx6 tx7 tx8 tx9 tx10 tx11 tx12 : Value) (w : World) : Prop where
  be : tb10 = false → Below w0.heap.size w0 w
  d3 : tb3 = true → tb1 = true ∧ tb2 = true
  d4 : tb4 = true → tb0 = true ∧ tb3 = true
  d5 : tb5 = true → tb4 = true
  d6 : tb6 = true → tb5 = true
  d7 : tb7 = true → tb5 = true
  d8 : tb8 = true → tb5 = true
  d10 : tb10 = true → tb0 = true ∧ tb1 = true ∧ tb2 = true ∧ tb3 = true ∧ tb4 = true ∧ tb5 = true ∧ tb6 = true ∧ tb9 = true
  d11 : tb11 = true → tb0 = true ∧ tb1 = true ∧ tb2 = true ∧ tb3 = true ∧ tb4 = true ∧ tb5 = true ∧ tb6 = true ∧ tb7 = true ∧ tb9 = true ∧ tb10 = true
  d12 : tb12 = true → tb0 = true ∧ tb1 = true ∧ tb2 = true ∧ tb3 = true ∧ tb4 = true ∧ tb5 = true ∧ tb6 = true ∧ tb7 = true ∧ tb8 = true ∧ tb9 = true ∧ tb10 = true ∧ tb11 = true
  tk : tb10 = false → TKA W (.cells #[.int .i64 r1, .int .i64 p1, .slice A1 n1 c1] 27 (0, 0)) (.cells #[.int .i64 0, .int .i64 0, .slice none 0 0] 27 (0, 0)) (.agg #[.int .i64 r1, .int .i64 p1, .slice A1 n1 c1]) T w
  t4 : tb4 = true → ∃ u, tx4 = .tuple #[u, .int .i64 k, .int .i64 y]
  t5 : tb5 = true → ∃ u, tx5 = .tuple #[u, .int .i64 k, .int .i64 y]
  h0 : tb0 = true → tx0 = V0
  h1 : tb1 = true → tx1 = V1
  h2 : tb2 = true → tx2 = V2
  h3 : tb3 = true → tx3 = V3
  h4 : tb4 = true → tb10 = false → ∃ u, tx4 = .tuple #[u, .int .i64 k, .int .i64 y] ∧ TbVal w w.heap.size u T2
  h5 : tb5 = true → tb10 = false → ∃ u, tx5 = .tuple #[u, .int .i64 k, .int .i64 y] ∧ TbVal w w.heap.size u T2
  h6 : tb6 = true → tb10 = false → TbVal w w.heap.size tx6 T2
  h7 : tb7 = true → tx7 = V7
  h8 : tb8 = true → tx8 = V8
  h9 : tb9 = true → tb10 = false → ∃ q, tx9 = .pointer (some ⟨q, 0, none⟩) ∧ w0.heap.size ≤ q ∧ w.heap[q]? = some (.cells #[.int .i64 0, .int .i64 0, .slice none 0 0] 27 (0, 0))
  h10 : tb10 = true → ∃ q A n c r p, tx9 = .pointer (some ⟨q, 0, none⟩) ∧ w0.heap.size ≤ q ∧ w.heap[q]? = some (.cells #[.int .i64 r, .int .i64 p, .slice A n c] 27 (0, 0)) ∧ TbVal w w.heap.size (.agg #[.int .i64 r, .int .i64 p, .slice A n c]) T2 ∧ TKA W (.cells #[.int .i64 r1, .int .i64 p1, .slice A1 n1 c1] 27 (0, 0)) (.cells #[.int .i64 0, .int .i64 0, .slice none 0 0] 27 (0, 0)) (.agg #[.int .i64 r1, .int .i64 p1, .slice A1 n1 c1]) T w
  h11 : tb11 = true → tx11 = V11
  h12 : tb12 = true → tx12 = V12
end Go.Proofs.Ytpfahdogedchpaa
