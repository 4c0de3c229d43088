/- Several texts in one. -/
import Derived.Test.YtpfahdogedchpaaDoorGrpM
import Derived.Laws.StructEq
import Derived.Lib.SlBytesConst
import Derived.Test.YtpfahdogedchpaaDoorGrpC
/- The document's answers on tables: TableFound. -/
namespace Go.Proofs.YtpfahdogedchpaaDoor.P
set_option linter.unusedVariables false
theorem lastAt_snoc (p : Fld → Bool) (x : Fld) : ∀ l : List Fld, lastAt p (l ++ [x]) = if p x then some l.length else lastAt p l
  | [] => by
    show (match lastAt p [] with | some i => some (i + 1) | none => if p x then some 0 else none) = _
    simp [lastAt]
  | y :: l => by
    have h := lastAt_snoc p x l
    show (match lastAt p (l ++ [x]) with | some i => some (i + 1) | none => if p y then some 0 else none) = _
    rw [h]
    by_cases q : p x
    · simp [q]
    · simp only [q]; rfl
theorem lastAt_lt (p : Fld → Bool) : ∀ {l : List Fld} {i : Nat}, lastAt p l = some i → i < l.length ∧ p (l.getD i fd0) = true
  | [], i, h => by cases h
  | y :: l, i, h => by
    have e : lastAt p (y :: l) = (match lastAt p l with | some i => some (i + 1) | none => if p y then some 0 else none) := rfl
    rw [e] at h
    cases q : lastAt p l with
    | some j =>
      rw [q] at h
      simp only [Option.some.injEq] at h
      subst h
      have := lastAt_lt p q
      exact ⟨by rw [List.length_cons]; omega, by rw [List.getD_cons_succ]; exact this.2⟩
    | none =>
      rw [q] at h
      simp only at h
      by_cases k : p y
      · rw [if_pos k] at h
        cases h
        exact ⟨by rw [List.length_cons]; omega, k⟩
      · rw [if_neg k] at h; cases h
theorem lastAt_none {p : Fld → Bool} : ∀ {l : List Fld}, lastAt p l = none → ∀ x ∈ l, p x = false
  | [], h, x, hx => by cases hx
  | y :: l, h, x, hx => by
    have e : lastAt p (y :: l) = (match lastAt p l with | some i => some (i + 1) | none => if p y then some 0 else none) := rfl
    rw [e] at h
    cases q : lastAt p l with
    | some j => rw [q] at h; cases h
    | none =>
      rw [q] at h
      simp only at h
      by_cases k : p y
      · rw [if_pos k] at h; cases h
      · rcases List.mem_cons.1 hx with rfl | hx
        · simpa using k
        · exact lastAt_none q x hx
/-- a place as the document's number -/
def fpos (put n : Int) (o : Option Nat) : Int := match o with
  | some j => put - n + j
  | none => -1
theorem lastAt_take {p : Fld → Bool} {l : List Fld} {i : Nat} (h : i < l.length) : lastAt p (l.take (i + 1)) = if p (l.getD i fd0) then some i else lastAt p (l.take i) := by
  rw [List.take_succ_eq_append_getElem h, lastAt_snoc, List.getD_eq_getElem?_getD, List.getElem?_eq_getElem h, List.length_take, Nat.min_eq_left (by omega)]
  rfl
end Go.Proofs.YtpfahdogedchpaaDoor.P
namespace Go.Proofs.YtpfahdogedchpaaDoor
set_option linter.unusedVariables false
open Go.RowKit P

theorem fld_iff {y f : Fld} : y = f ↔ y.name = f.name ∧ y.val = f.val := by
  constructor
  · rintro rfl; exact ⟨rfl, rfl⟩
  · rintro ⟨h1, h2⟩; cases y; cases f; simp only at h1 h2; rw [h1, h2]
theorem fl_inj {xs ys : List Int} (hx : Byt xs) (hy : Byt ys) (h : strOfNums xs = strOfNums ys) : xs = ys := by
  have hl : xs.length = ys.length := by have := congrArg ByteArray.size h; rwa [strOfNums_size, strOfNums_size] at this
  refine List.ext_getElem hl fun j h1 h2 => ?_
  have g1 := str_get hx j (by rw [strOfNums_size]; exact h1)
  have g2 := str_get hy j (by rw [strOfNums_size]; exact h2)
  have e : xs.getD j 0 = ys.getD j 0 := by
    rw [← g1, ← g2]
    congr 2
    simp only [h]
  rwa [List.getD_eq_getElem?_getD, List.getD_eq_getElem?_getD, List.getElem?_eq_getElem h1, List.getElem?_eq_getElem h2] at e
theorem fl_eqB {xs ys : List Int} (hx : Byt xs) (hy : Byt ys) : ((strOfNums xs).toList == (strOfNums ys).toList) = decide (xs = ys) := by
  by_cases h : xs = ys
  · subst h; simp
  · rw [decide_eq_false h]
    refine beq_eq_false_iff_ne.2 fun e => h (fl_inj hx hy ?_)
    rw [Lib.toList_data, Lib.toList_data] at e
    exact ByteArray.ext (Array.toList_inj.1 e)
set_option maxHeartbeats 2000000 in
theorem refTabN_any : TbFin Tryd.prog 48 := fun v t f W hv hw hf => by
  have HFT := Lib.hid (fun w (hb : Below W.heap.size W w) => refTabF_any v t w (hv.on hb) hw)
  obtain ⟨sv, rfl, hs⟩ := hv.ex
  obtain ⟨A, c, rfl, hlc, hcm, hr⟩ := hs.ex
  have HR := Lib.hid hr
  have pb := hw.put
  have hl := hw.len
  obtain ⟨g0, g1, g2⟩ := two_bk W #[.int .i64 t.room, .int .i64 t.put, .slice A t.rows.length c] #[.string (strOfNums f.name), .string (strOfNums f.val)] 24 54
  have F0 := Lib.hid g0
  have Z0 := Lib.hid g1
  have B0 := Lib.hid g2
  clear g0 g1 g2
  have hG : finT t f = if faultTb t ≠ 0 then (0, false, faultTb t) else match lastAt (fun x => decide (x = f)) t.rows with
    | some i => (t.put - t.rows.length + i, true, 0)
    | none => match lastAt (fun x => decide (x.name = f.name)) t.rows with
      | some i => (t.put - t.rows.length + i, false, 0)
      | none => (0, false, 5) := rfl
  have hok := fun h : faultTb t = 0 => (faultTb_iff t).1 h
  obtain ⟨x, hx⟩ : ∃ x, faultTb t = x := ⟨_, rfl⟩
  rw [hx] at HFT hok hG
  have HG := Lib.hid hG
  obtain ⟨⟨o1, o2, o3⟩, hO⟩ : ∃ o, finT t f = o := ⟨_, rfl⟩
  rw [hO] at HG ⊢
  have HRW := Lib.hid hw.rows
  have HFW := Lib.hid hf
  obtain ⟨room, put, rows⟩ := t
  simp only at *
  obtain ⟨N, hN⟩ : ∃ N, rows.length = N := ⟨_, rfl⟩
  have HN := Lib.hid hN
  rw [hN] at HFT F0 Z0 B0 hlc HG hl ⊢
  unfold maxLen at hcm
  unfold fdV
  obtain ⟨T1, hT1⟩ : ∃ S, strOfNums f.name = S := ⟨_, rfl⟩
  obtain ⟨T2, hT2⟩ : ∃ S, strOfNums f.val = S := ⟨_, rfl⟩
  have HT1 := Lib.hid hT1
  have HT2 := Lib.hid hT2
  rw [hT1, hT2] at Z0 F0 B0 ⊢
  clear hv hs hr hw hf hx hG hO hT1 hT2
  by_cases h0 : x = 0
  · subst h0
    obtain ⟨k1, k2, k3, k4, k5⟩ := hok rfl
    simp only at k1 k2 k3 k4
    rw [hN] at k3
    have HG0 := Lib.hid (HG.out.trans (if_neg (fun k => k rfl)))
    clear hok k5 hN HG
    go_enter Tryd.func48, Tryd.ntmps48
    go_wp2_with (first
      | (go_at_call 46; refine (HFT.out _ B0.out).mono ?_; rintro e w1 ⟨rfl, b1⟩; have B1 := Lib.hid (B0.out.trans (b1.mono B0.out.size)); have F1 := Lib.hid ((b1.block _ (lt_of_block F0.out)).trans F0.out); have Z1 := Lib.hid ((b1.block _ (lt_of_block Z0.out)).trans Z0.out); clear b1; obtain ⟨q0, q1, q2⟩ := bk3T F1.out))
    clear q0 q1 q2 F0 Z0 B0 HFT
    go_loopg [8, 9, 21] N (fun gq s1 s2 iv wr => ∃ i : Nat, s1 = .int .i64 (fpos put N (lastAt (fun x => decide (x = f)) (rows.take i))) ∧ s2 = .int .i64 (fpos put N (lastAt (fun x => decide (x.name = f.name)) (rows.take i))) ∧ iv = .int .i64 i ∧ i + gq = N ∧ Hid (Below w1.heap.size w1 wr))
    case atStart => exact ⟨0, rfl, rfl, rfl, by omega, Lib.hid (Below.refl _ _)⟩
    case round =>
      obtain ⟨i, rfl, rfl, rfl, hig, BK⟩ := hrel
      by_cases hlt : i < N
      · have hil : i < rows.length := by rw [HN.out]; exact hlt
        obtain ⟨b, off, hA, hbl, x0, x1⟩ := fd_cells HR.out hil
        have HL1 := Lib.hid (lastAt_take (p := fun x => decide (x = f)) hil)
        have HL2 := Lib.hid (lastAt_take (p := fun x => decide (x.name = f.name)) hil)
        obtain ⟨y, hy⟩ : ∃ y, rows.getD i fd0 = y := ⟨_, rfl⟩
        have HYW := Lib.hid (HRW.out _ (show rows.getD i fd0 ∈ rows by rw [List.getD_eq_getElem?_getD, List.getElem?_eq_getElem hil]; exact List.getElem_mem hil))
        rw [hy] at x0 x1 HL1 HL2 HYW
        obtain ⟨S1, hS1⟩ : ∃ S, strOfNums y.name = S := ⟨_, rfl⟩
        obtain ⟨S2, hS2⟩ : ∃ S, strOfNums y.val = S := ⟨_, rfl⟩
        rw [hS1] at x0
        rw [hS2] at x1
        subst hA
        have y0 := ((B1.out.trans (BK.out.mono B1.out.size)).cell (p := ⟨b, off + i * 2, none⟩) hbl).trans x0
        have y1 := ((B1.out.trans (BK.out.mono B1.out.size)).cell (p := ⟨b, off + i * 2 + 1, none⟩) hbl).trans x1
        have BA := Lib.hid (BK.out.alloc BK.out.size (.cells #[.string S1, .string S2] 54))
        have F2 := Lib.hid ((BA.out.block _ (lt_of_block F1.out)).trans F1.out)
        have Z2 := Lib.hid ((BA.out.block _ (lt_of_block Z1.out)).trans Z1.out)
        obtain ⟨q0, q1, q2⟩ := bk3T F2.out
        obtain ⟨z0, z1⟩ := bk2F Z2.out
        have HE1 := Lib.hid (show (S1.toList == T1.toList) = decide (y.name = f.name) by rw [← hS1, ← HT1.out]; exact fl_eqB HYW.out.1 HFW.out.1)
        have HE2 := Lib.hid (show (S2.toList == T2.toList) = decide (y.val = f.val) by rw [← hS2, ← HT2.out]; exact fl_eqB HYW.out.2.1 HFW.out.2.1)
        have HYF := Lib.hid (show y = f ↔ y.name = f.name ∧ y.val = f.val by
          constructor
          · rintro rfl; exact ⟨rfl, rfl⟩
          · rintro ⟨h1, h2⟩; cases y; cases f; simp only at h1 h2; rw [h1, h2])
        have hnk : (i : Int) < (N : Int) := by omega
        clear hS1 hS2 hil x0 x1 hy
        by_cases hn : y.name = f.name
        · by_cases hq : y.val = f.val
          · have e1 : (S1.toList == T1.toList) = true := by rw [HE1.out, decide_eq_true hn]
            have e2 : (S2.toList == T2.toList) = true := by rw [HE2.out, decide_eq_true hq]
            have HM1 := Lib.hid (show lastAt (fun x => decide (x = f)) (rows.take (i + 1)) = some i by rw [HL1.out, if_pos (decide_eq_true (HYF.out.2 ⟨hn, hq⟩))])
            have HM2 := Lib.hid (show lastAt (fun x => decide (x.name = f.name)) (rows.take (i + 1)) = some i by rw [HL2.out, if_pos (decide_eq_true hn)])
            clear hn hq
            go_wp2_with fail
            go_roundg (gk - 1)
            case measure => omega
            case rel => exact ⟨i + 1, by first | (rw [HM1.out]; rfl) | rw [HM1.out], by first | (rw [HM2.out]; rfl) | rw [HM2.out], by first | rfl | go_num, by omega, BA⟩
          · have e1 : (S1.toList == T1.toList) = true := by rw [HE1.out, decide_eq_true hn]
            have e2 : (S2.toList == T2.toList) = false := by rw [HE2.out, decide_eq_false hq]
            have HM1 := Lib.hid (show lastAt (fun x => decide (x = f)) (rows.take (i + 1)) = lastAt (fun x => decide (x = f)) (rows.take i) by rw [HL1.out, if_neg (fun k => by have := HYF.out.1 (of_decide_eq_true k); exact hq this.2)])
            have HM2 := Lib.hid (show lastAt (fun x => decide (x.name = f.name)) (rows.take (i + 1)) = some i by rw [HL2.out, if_pos (decide_eq_true hn)])
            clear hn hq
            go_wp2_with fail
            go_roundg (gk - 1)
            case measure => omega
            case rel => exact ⟨i + 1, by first | (rw [HM1.out]; rfl) | rw [HM1.out], by first | (rw [HM2.out]; rfl) | rw [HM2.out], by first | rfl | go_num, by omega, BA⟩
        · by_cases hq : y.val = f.val
          · have e1 : (S1.toList == T1.toList) = false := by rw [HE1.out, decide_eq_false hn]
            have e2 : (S2.toList == T2.toList) = true := by rw [HE2.out, decide_eq_true hq]
            have HM1 := Lib.hid (show lastAt (fun x => decide (x = f)) (rows.take (i + 1)) = lastAt (fun x => decide (x = f)) (rows.take i) by rw [HL1.out, if_neg (fun k => by have := HYF.out.1 (of_decide_eq_true k); exact hn this.1)])
            have HM2 := Lib.hid (show lastAt (fun x => decide (x.name = f.name)) (rows.take (i + 1)) = lastAt (fun x => decide (x.name = f.name)) (rows.take i) by rw [HL2.out, if_neg (fun k => hn (of_decide_eq_true k))])
            clear hn hq
            go_wp2_with fail
            go_roundg (gk - 1)
            case measure => omega
            case rel => exact ⟨i + 1, by first | (rw [HM1.out]; rfl) | rw [HM1.out], by first | (rw [HM2.out]; rfl) | rw [HM2.out], by first | rfl | go_num, by omega, BA⟩
          · have e1 : (S1.toList == T1.toList) = false := by rw [HE1.out, decide_eq_false hn]
            have e2 : (S2.toList == T2.toList) = false := by rw [HE2.out, decide_eq_false hq]
            have HM1 := Lib.hid (show lastAt (fun x => decide (x = f)) (rows.take (i + 1)) = lastAt (fun x => decide (x = f)) (rows.take i) by rw [HL1.out, if_neg (fun k => by have := HYF.out.1 (of_decide_eq_true k); exact hn this.1)])
            have HM2 := Lib.hid (show lastAt (fun x => decide (x.name = f.name)) (rows.take (i + 1)) = lastAt (fun x => decide (x.name = f.name)) (rows.take i) by rw [HL2.out, if_neg (fun k => hn (of_decide_eq_true k))])
            clear hn hq
            go_wp2_with fail
            go_roundg (gk - 1)
            case measure => omega
            case rel => exact ⟨i + 1, by first | (rw [HM1.out]; rfl) | rw [HM1.out], by first | (rw [HM2.out]; rfl) | rw [HM2.out], by first | rfl | go_num, by omega, BA⟩
      · obtain rfl : i = N := by omega
        have ht : rows.take i = rows := List.take_of_length_le (by rw [HN.out]; exact Nat.le_refl _)
        rw [ht]
        have B2 := Lib.hid (B1.out.trans (BK.out.mono B1.out.size))
        have HX := HG0.out
        clear ht HG0
        cases h1 : lastAt (fun x => decide (x = f)) rows with
        | some j =>
          rw [h1] at HX
          simp only at HX
          obtain ⟨rfl, rfl, rfl⟩ : o1 = put - (i : Int) + (j : Int) ∧ o2 = true ∧ o3 = 0 := by simpa using HX
          have e : fpos put i (some j) = put - (i : Int) + (j : Int) := rfl
          rw [e]
          have g1 : decide (0 ≤ put - (i : Int) + (j : Int)) = true := by simp; omega
          clear HX e h1
          go_wp2_with fail
          go_ret3
          exact ⟨B2.out, rfl⟩
        | none =>
          rw [h1] at HX
          simp only at HX
          have e : fpos put i none = -1 := rfl
          rw [e]
          clear e h1
          cases h2 : lastAt (fun x => decide (x.name = f.name)) rows with
          | some j =>
            rw [h2] at HX
            simp only at HX
            obtain ⟨rfl, rfl, rfl⟩ : o1 = put - (i : Int) + (j : Int) ∧ o2 = false ∧ o3 = 0 := by simpa using HX
            have e : fpos put i (some j) = put - (i : Int) + (j : Int) := rfl
            rw [e]
            have g1 : decide (0 ≤ put - (i : Int) + (j : Int)) = true := by simp; omega
            clear HX e h2
            go_wp2_with fail
            go_ret3
            exact ⟨B2.out, rfl⟩
          | none =>
            rw [h2] at HX
            simp only at HX
            obtain ⟨rfl, rfl, rfl⟩ : o1 = 0 ∧ o2 = false ∧ o3 = 5 := by simpa using HX
            have e : fpos put i none = -1 := rfl
            rw [e]
            clear HX e h2
            go_wp2_with fail
            go_ret3
            exact ⟨B2.out, rfl⟩
  · have g : (x != 0) = true := by simp [h0]
    have HX := HG.out
    rw [if_pos h0] at HX
    obtain ⟨rfl, rfl, rfl⟩ : o1 = 0 ∧ o2 = false ∧ o3 = x := by simpa using HX
    clear h0 hok hN HX HG
    go_enter Tryd.func48, Tryd.ntmps48
    go_wp2_with (first
      | (go_at_call 46; refine (HFT.out _ B0.out).mono ?_; rintro e w1 ⟨rfl, b1⟩; have B1 := Lib.hid (B0.out.trans (b1.mono B0.out.size)); clear b1))
    go_ret3
    exact ⟨B1.out, rfl⟩
end Go.Proofs.YtpfahdogedchpaaDoor
/- The document's answers on tables: TableResized. -/
namespace Go.Proofs.YtpfahdogedchpaaDoor
set_option linter.unusedVariables false
open Go.RowKit P

theorem bk3_blk {w : World} {b : Nat} {a0 a1 a2 : Value} {T : TypeId} (h : w.heap[b]? = some (.cells #[a0, a1, a2] T (0, 0))) (v0 v1 v2 : Value) :
    (((w.setCell ⟨b, 0, none⟩ v0).setCell ⟨b, 1, none⟩ v1).setCell ⟨b, 2, none⟩ v2).heap[b]? = some (.cells #[v0, v1, v2] T (0, 0)) ∧ w.grownBy (((w.setCell ⟨b, 0, none⟩ v0).setCell ⟨b, 1, none⟩ v1).setCell ⟨b, 2, none⟩ v2) (some b) := by
  have h0 : (w.setCell ⟨b, 0, none⟩ v0).heap[b]? = some (.cells #[v0, a1, a2] T (0, 0)) := by simpa using bk_set h 0 v0
  have h1 : ((w.setCell ⟨b, 0, none⟩ v0).setCell ⟨b, 1, none⟩ v1).heap[b]? = some (.cells #[v0, v1, a2] T (0, 0)) := by simpa using bk_set h0 1 v1
  exact ⟨by simpa using bk_set h1 2 v2, gr_trans (gr_trans (gr_set _ b 0 v0) (gr_set _ b 1 v1)) (gr_set _ b 2 v2)⟩
structure Res6 (w0 : World) (W : World) (n put : Int) (A : Option Addr) (N c : Nat) (Y : List Fld) (V0 V1 V2 V3 V4 V5 V9 : Value) (b0 b1 b2 b3 b4 b5 b6 b7 b8 b9 : Bool) (x0 x1 x2 x3 x4 x5 x6 x7 x8 x9 : Value) (w : World) : Prop where
  be : b8 = false → Below w0.heap.size w0 w
  d2 : b2 = true → b1 = true
  d4 : b4 = true → b3 = true
  d6 : b6 = true → b4 = true ∧ b5 = true
  d7 : b7 = true → b0 = true ∧ b2 = true ∧ b6 = true
  d8 : b8 = true → b0 = true ∧ b1 = true ∧ b2 = true ∧ b3 = true ∧ b4 = true ∧ b5 = true ∧ b6 = true ∧ b7 = true
  d9 : b9 = true → b0 = true ∧ b1 = true ∧ b2 = true ∧ b3 = true ∧ b4 = true ∧ b5 = true ∧ b6 = true ∧ b7 = true ∧ b8 = true
  h0 : b0 = true → x0 = V0
  h1 : b1 = true → x1 = V1
  h2 : b2 = true → x2 = V2
  h3 : b3 = true → x3 = V3
  h4 : b4 = true → x4 = V4
  h5 : b5 = true → x5 = V5
  h6 : b6 = true → b8 = false → OwnE FdE w w0.heap.size 54 x6 Y
  h7 : b7 = true → b8 = false → ∃ u, x7 = .agg #[.int .i64 n, .int .i64 put, u] ∧ OwnE FdE w w0.heap.size 54 u Y
  h8 : b8 = true → ∃ Aq cq, w.heap[W.heap.size + 1]? = some (.cells #[.int .i64 n, .int .i64 put, .slice Aq Y.length cq] 24 (0, 0)) ∧ FSl w w.heap.size (.slice Aq Y.length cq) Y ∧ Below W.heap.size W w
  h9 : b9 = true → x9 = V9
end Go.Proofs.YtpfahdogedchpaaDoor
