/- slices.Reverse of ranges. -/
import Derived.Test.YtnccibaifffhhaaGrpSj
namespace Go.Proofs.Ytnccibaifffhhaa
set_option linter.unusedVariables false
open Go.RowKit P

/-- the same memory -/
def SameH (w w' : World) : Prop := w'.heap = w.heap ∧ w.grownBy w' none
theorem SameH.drew (w : World) : SameH w w.drew := ⟨rfl, gr_drew ⟨rfl, rfl, rfl, Nat.le_refl _, fun _ _ _ => rfl⟩⟩
theorem cells_set (i : Nat) (a b : Int) : ∀ (qs : List (Int × Int)), i < qs.length → cellsR (qs.set i (a, b)) = ((cellsR qs).set (i * 2) (.int .i64 a)).set (i * 2 + 1) (.int .i64 b) := by
  induction i with
  | zero =>
    intro qs h
    match qs, h with
    | q :: qs, _ => simp [cellsR]
  | succ i ih =>
    intro qs h
    match qs, h with
    | q :: qs, h =>
      have := ih qs (by simpa using h)
      simp only [cellsR, List.set_cons_succ, List.flatMap_cons] at this ⊢
      rw [this, show (i + 1) * 2 = i * 2 + 2 by omega]
      simp
theorem own_pair {w : World} {base g n c : Nat} {e : TypeId} {qs : List (Int × Int)} (h : OwnR w base e (.slice (some ⟨g, 0, none⟩) n c) qs) (i : Nat) (hi : i < qs.length) (a b : Int) :
    OwnR ((w.setCell ⟨g, i * 2, none⟩ (.int .i64 a)).setCell ⟨g, i * 2 + 1, none⟩ (.int .i64 b)) base e (.slice (some ⟨g, 0, none⟩) n c) (qs.set i (a, b)) ∧ w.grownBy ((w.setCell ⟨g, i * 2, none⟩ (.int .i64 a)).setCell ⟨g, i * 2 + 1, none⟩ (.int .i64 b)) (some g) := by
  refine ⟨?_, gr_trans (gr_set _ _ _ _) (gr_set _ _ _ _)⟩
  obtain ⟨h1, h2⟩ := h
  rcases h2 with ⟨e0, _⟩ | ⟨g', cap, cur, ev, hb, hh, q1, q2, q3, q4⟩
  · cases e0
  · injection ev with ea en ec
    cases ea
    refine ⟨by rw [cells_set i a b qs hi, List.length_set, List.length_set, List.length_set]; exact h1, .inr ⟨g, cap, (cur.setIfInBounds (i * 2) (.int .i64 a)).setIfInBounds (i * 2 + 1) (.int .i64 b), by rw [en, ec, List.length_set], hb, bk_set (bk_set hh _ _) _ _, by rw [List.length_set]; exact q1, q2, by rw [Array.size_setIfInBounds, Array.size_setIfInBounds]; exact q3, ?_⟩⟩
    rw [cells_set i a b qs hi, Array.toList_setIfInBounds, Array.toList_setIfInBounds, ← q4]
    rw [List.take_set, List.take_set, List.length_set]
theorem own_two {w : World} {base g n c : Nat} {e : TypeId} {qs : List (Int × Int)} (h : OwnR w base e (.slice (some ⟨g, 0, none⟩) n c) qs) (i : Nat) (hi : i < qs.length) : w.cell? ⟨g, i * 2, none⟩ = some (.int .i64 (qs.getD i (0, 0)).1) ∧ w.cell? ⟨g, i * 2 + 1, none⟩ = some (.int .i64 (qs.getD i (0, 0)).2) := by
  obtain ⟨A', c', e1, h1, h2, hr⟩ := h.slice
  injection e1 with e1 e2 e3
  obtain ⟨b, off, e4, _, hc⟩ := hr (by omega)
  rw [← e1] at e4
  cases e4
  have := hc i hi
  simpa using this
theorem own_frz {w : World} {base g n c : Nat} {e : TypeId} {qs : List (Int × Int)} (h : OwnR w base e (.slice (some ⟨g, 0, none⟩) n c) qs) : ∀ i, w.frozen? ⟨g, i, none⟩ = false := by
  rcases h.2 with ⟨e0, _⟩ | ⟨g', cap, cur, ev, hb, hh, _⟩
  · cases e0
  · injection ev with ea
    cases ea
    exact fun i => bk_frz hh i
/-- the outer ones, up to i of them, are turned -/
def RevI (zs xs : List (Int × Int)) (i : Nat) : Prop := xs.length = zs.length ∧ ∀ t, t < zs.length → xs.getD t (0, 0) = if t < i ∨ zs.length ≤ t + i then zs.getD (zs.length - 1 - t) (0, 0) else zs.getD t (0, 0)
theorem RevI.zero (zs : List (Int × Int)) : RevI zs zs 0 := ⟨rfl, fun t ht => by rw [if_neg (by omega)]⟩
theorem getD_set (l : List (Int × Int)) (i t : Nat) (x : Int × Int) (hi : i < l.length) : (l.set i x).getD t (0, 0) = if t = i then x else l.getD t (0, 0) := by
  rw [List.getD_eq_getElem?_getD, List.getD_eq_getElem?_getD, List.getElem?_set]
  by_cases q : i = t
  · subst q
    rw [if_pos rfl, if_pos hi, if_pos rfl]
    rfl
  · rw [if_neg q, if_neg (fun h => q h.symm)]
theorem RevI.step {zs xs : List (Int × Int)} {i j : Nat} (h : RevI zs xs i) (hj : i + j + 1 = zs.length) (hij : i < j) : RevI zs ((xs.set i (xs.getD j (0, 0))).set j (xs.getD i (0, 0))) (i + 1) := by
  obtain ⟨h1, h2⟩ := h
  refine ⟨by rw [List.length_set, List.length_set]; exact h1, fun t ht => ?_⟩
  rw [getD_set _ _ _ _ (by rw [List.length_set]; omega), getD_set _ _ _ _ (by omega)]
  have hI := h2 i (by omega)
  have hJ := h2 j (by omega)
  rw [if_neg (by omega)] at hI hJ
  by_cases q : t = j
  · subst q
    rw [if_pos rfl, if_pos (by omega), hI]
    congr 1
    omega
  · rw [if_neg q]
    by_cases r : t = i
    · subst r
      rw [if_pos rfl, if_pos (by omega), hJ]
      congr 1
      omega
    · rw [if_neg r, h2 t ht]
      by_cases s : t < i ∨ zs.length ≤ t + i
      · rw [if_pos s, if_pos (by omega)]
      · rw [if_neg s, if_neg (by omega)]
theorem RevI.done {zs xs : List (Int × Int)} {i : Nat} (h : RevI zs xs i) (hi : zs.length ≤ i + i + 1) : xs = zs.reverse := by
  obtain ⟨h1, h2⟩ := h
  refine List.ext_getElem (by rw [List.length_reverse]; exact h1) fun t t1 t2 => ?_
  have := h2 t (by omega)
  have e1 : xs.getD t (0, 0) = xs[t] := by rw [List.getD_eq_getElem?_getD, List.getElem?_eq_getElem t1]; rfl
  rw [List.length_reverse] at t2
  have e2 : zs.getD (zs.length - 1 - t) (0, 0) = zs[zs.length - 1 - t]'(by omega) := by rw [List.getD_eq_getElem?_getD, List.getElem?_eq_getElem (by omega)]; rfl
  have e3 : zs.getD t (0, 0) = zs[t]'t2 := by rw [List.getD_eq_getElem?_getD, List.getElem?_eq_getElem t2]; rfl
  rw [List.getElem_reverse, ← e1, this]
  split
  · rw [e2]
  · rw [e3]
    congr 1
    omega
structure SpRv3 (w0 : World) (g n c i j bs : Nat) (il ih jl jh : Int) (xs : List (Int × Int)) (V0 V1 V2 V3 V4 V5 V6 V7 V8 V9 V10 V11 V12 V14 : Value) (vb0 vb1 vb2 vb3 vb4 vb5 vb6 vb7 vb8 vb9 vb10 vb11 vb12 vb13 vb14 vb15 : Bool) (vx0 vx1 vx2 vx3 vx4 vx5 vx6 vx7 vx8 vx9 vx10 vx11 vx12 vx13 vx14 vx15 : Value) (w : World) : Prop where
  be : vb13 = false → Below w0.heap.size w0 w
  d6 : vb6 = true → vb4 = true ∧ vb5 = true
  d7 : vb7 = true → vb6 = true
  d10 : vb10 = true → vb8 = true ∧ vb9 = true
  d11 : vb11 = true → vb10 = true
  d12 : vb12 = true → vb0 = true ∧ vb1 = true ∧ vb4 = true ∧ vb5 = true ∧ vb6 = true ∧ vb7 = true ∧ vb11 = true
  d13 : vb13 = true → vb0 = true ∧ vb1 = true ∧ vb4 = true ∧ vb5 = true ∧ vb6 = true ∧ vb7 = true ∧ vb11 = true ∧ vb12 = true
  d14 : vb14 = true → vb0 = true ∧ vb1 = true ∧ vb2 = true ∧ vb3 = true ∧ vb4 = true ∧ vb5 = true ∧ vb6 = true ∧ vb7 = true ∧ vb8 = true ∧ vb9 = true ∧ vb10 = true ∧ vb11 = true ∧ vb12 = true ∧ vb13 = true
  d15 : vb15 = true → vb0 = true ∧ vb1 = true ∧ vb2 = true ∧ vb3 = true ∧ vb4 = true ∧ vb5 = true ∧ vb6 = true ∧ vb7 = true ∧ vb8 = true ∧ vb9 = true ∧ vb10 = true ∧ vb11 = true ∧ vb12 = true ∧ vb13 = true ∧ vb14 = true
  ww : vb13 = false → SameH w0 w
  h0 : vb0 = true → vx0 = V0
  h1 : vb1 = true → vx1 = V1
  h2 : vb2 = true → vx2 = V2
  h3 : vb3 = true → vx3 = V3
  h4 : vb4 = true → vx4 = V4
  h5 : vb5 = true → vx5 = V5
  h6 : vb6 = true → vx6 = V6
  h7 : vb7 = true → vx7 = V7
  h8 : vb8 = true → vx8 = V8
  h9 : vb9 = true → vx9 = V9
  h10 : vb10 = true → vx10 = V10
  h11 : vb11 = true → vx11 = V11
  h12 : vb12 = true → vx12 = V12
  h13 : vb13 = true → vb15 = false → OwnR w bs 63 (.slice (some ⟨g, 0, none⟩) n c) (xs.set i (jl, jh)) ∧ w0.grownBy w (some g)
  h14 : vb14 = true → vx14 = V14
  h15 : vb15 = true → OwnR w bs 63 (.slice (some ⟨g, 0, none⟩) n c) ((xs.set i (jl, jh)).set j (il, ih)) ∧ w0.grownBy w (some g)
set_option maxRecDepth 100000 in
set_option maxHeartbeats 4000000 in
theorem spRev_any (A : Option Addr) (n c bs : Nat) (zs : List (Int × Int)) (w : World) (h : OwnR w bs 63 (.slice A n c) zs) (hn : zs.length = n) (hm : n ≤ 1048576) :
    Calls Try.prog 57 #[.slice A n c] w fun e w' => e = .returned (.tuple #[]) ∧ OwnR w' bs 63 (.slice A n c) zs.reverse ∧ w.grownBy w' (Value.slice A n c).ownBlock := by
  have HO := Lib.hid h
  have HN := Lib.hid hn
  have hwr : IntKind.i64.wrap ((n : Int) - 1) = (n : Int) - 1 := by rw [IntKind.wrap_i64]; omega
  clear h hn
  rcases Nat.eq_zero_or_pos n with h0 | h0
  · have hz : zs = [] := List.eq_nil_of_length_eq_zero (by rw [HN.out]; exact h0)
    subst hz
    subst h0
    go_enter Try.func57, Try.ntmps57
    go_wp2_with fail
    go_loopg [2, 3] 0 (fun gq iv jv wr => iv = .int .i64 0 ∧ jv = .int .i64 (-1) ∧ Hid (wr = w))
    case atStart => exact ⟨rfl, rfl, Lib.hid rfl⟩
    case round =>
      obtain ⟨rfl, rfl, HW⟩ := hrel
      obtain rfl := HW.out
      go_wp2_with fail
      go_end0
      exact ⟨rfl, HO.out, ⟨rfl, rfl, rfl, Nat.le_refl _, fun _ _ _ => rfl⟩⟩
  obtain ⟨g, hg⟩ : ∃ g, A = some ⟨g, 0, none⟩ := by
    rcases HO.out.2 with ⟨e0, h0'⟩ | ⟨g, cap, cur, ev, _⟩
    · injection e0 with _ e0; omega
    · injection ev with ea; exact ⟨g, ea⟩
  subst hg
  have G0 := Lib.hid (show w.grownBy w (some g) from ⟨rfl, rfl, rfl, Nat.le_refl _, fun _ _ _ => rfl⟩)
  have R0 := Lib.hid (RevI.zero zs)
  go_enter Try.func57, Try.ntmps57
  go_wp2_with fail
  go_loopg [2, 3] n (fun gq iv jv wr => ∃ (i : Nat) (xs : List (Int × Int)), iv = .int .i64 i ∧ jv = .int .i64 ((n : Int) - 1 - i) ∧ i + gq = n ∧ Hid (OwnR wr bs 63 (.slice (some ⟨g, 0, none⟩) n c) xs) ∧ Hid (w.grownBy wr (some g)) ∧ Hid (RevI zs xs i))
  case atStart => exact ⟨0, zs, rfl, by simp, by omega, HO, G0, R0⟩
  case round =>
    obtain ⟨i, xs, rfl, hjv, hig, OX, GX, RX⟩ := hrel
    obtain ⟨X, hX⟩ : ∃ X, X = wr := ⟨_, rfl⟩
    subst hX
    by_cases hlt : (i : Int) < (n : Int) - 1 - i
    · obtain ⟨j, hj⟩ : ∃ j : Nat, (n : Int) - 1 - i = (j : Int) := ⟨n - 1 - i, by omega⟩
      rw [hj] at hjv hlt
      subst hjv
      have HJE := Lib.hid hj
      have HIL := Lib.hid (show i < xs.length from by rw [RX.out.1, HN.out]; omega)
      have HJL := Lib.hid (show j < xs.length from by rw [RX.out.1, HN.out]; omega)
      have hrn := RX.out.step (j := j) (by rw [HN.out]; omega) (by omega)
      have cI := own_two OX.out i HIL.out
      have cJ := own_two OX.out j HJL.out
      obtain ⟨⟨il, ih⟩, hqi⟩ : ∃ q, xs.getD i (0, 0) = q := ⟨_, rfl⟩
      obtain ⟨⟨jl, jh⟩, hqj⟩ : ∃ q, xs.getD j (0, 0) = q := ⟨_, rfl⟩
      rw [hqi] at cI hrn
      rw [hqj] at cJ hrn
      have HRN := Lib.hid hrn
      have HCI := Lib.hid (fun (w' : World) (q : SameH X w') => show w'.cell? ⟨g, i * 2, none⟩ = some (.int .i64 il) ∧ w'.cell? ⟨g, i * 2 + 1, none⟩ = some (.int .i64 ih) from by simp only [World.cell?, q.1] at cI ⊢; exact cI)
      have HCJ := Lib.hid (fun (w' : World) (q : SameH X w') => show w'.cell? ⟨g, j * 2, none⟩ = some (.int .i64 jl) ∧ w'.cell? ⟨g, j * 2 + 1, none⟩ = some (.int .i64 jh) from by simp only [World.cell?, q.1] at cJ ⊢; exact cJ)
      have HOW := Lib.hid (fun (w' : World) (q : SameH X w') => show OwnR w' bs 63 (.slice (some ⟨g, 0, none⟩) n c) xs from by
        have := OX.out
        unfold OwnR World.ownsRow at this ⊢
        rw [q.1]
        exact this)
      have HGW := Lib.hid (fun (w' : World) (q : SameH X w') => show X.grownBy w' (some g) from ⟨q.2.os, q.2.tape, q.2.output, q.2.size, fun k h1 h2 => q.2.block k h1 (fun e => by cases e)⟩)
      have HFZ := Lib.hid (fun (w' : World) (q : SameH X w') => own_frz (HOW.out w' q))
      have i0 : (0 : Int) ≤ (i : Int) := by omega
      have i1 : (i : Int) < (n : Int) := by omega
      have j1 : (j : Int) < (n : Int) := by omega
      have w1 : IntKind.i64.wrap ((j : Int) - 1) = (j : Int) - 1 := by rw [IntKind.wrap_i64]; omega
      clear hj cI cJ hqi hqj hrn
      go_upto_region 3 with fail
      refine wp_region_inv (fun lis_ act_ wld_ => ∃ (vb0 vb1 vb2 vb3 vb4 vb5 vb6 vb7 vb8 vb9 vb10 vb11 vb12 vb13 vb14 vb15 : Bool) (vx0 vx1 vx2 vx3 vx4 vx5 vx6 vx7 vx8 vx9 vx10 vx11 vx12 vx13 vx14 vx15 : Value), lis_ = #[vb0, vb1, vb2, vb3, vb4, vb5, vb6, vb7, vb8, vb9, vb10, vb11, vb12, vb13, vb14, vb15] ∧ act_ = { tmps := #[Value.slice (some { block := g, off := 0 }) n c, undef, Value.int IntKind.i64 ↑i, Value.int IntKind.i64 ↑j, Value.slice (some { block := g, off := 0 }) n c, Value.int IntKind.i64 ↑n, Value.int IntKind.i64 (↑n - 1), Value.int IntKind.i64 ↑i, Value.int IntKind.i64 ↑j, Value.bool true, u10, u11, u12, u13, vx0, vx1, vx2, vx3, vx4, vx5, vx6, vx7, vx8, vx9, vx10, vx11, vx12, vx14], defers := [] } ∧ SpRv3 X g n c i j bs il ih jl jh xs (.slice (some ⟨g, 0, none⟩) n c) (.int .i64 (i : Int)) (.slice (some ⟨g, 0, none⟩) n c) (.int .i64 (j : Int)) (.slice (some ⟨g, 0, none⟩) n c) (.int .i64 (j : Int)) (.pointer (some ⟨g, j * 2, none⟩)) (.agg #[.int .i64 jl, .int .i64 jh]) (.slice (some ⟨g, 0, none⟩) n c) (.int .i64 (i : Int)) (.pointer (some ⟨g, i * 2, none⟩)) (.agg #[.int .i64 il, .int .i64 ih]) (.pointer (some ⟨g, i * 2, none⟩)) (.pointer (some ⟨g, j * 2, none⟩)) vb0 vb1 vb2 vb3 vb4 vb5 vb6 vb7 vb8 vb9 vb10 vb11 vb12 vb13 vb14 vb15 vx0 vx1 vx2 vx3 vx4 vx5 vx6 vx7 vx8 vx9 vx10 vx11 vx12 vx13 vx14 vx15 wld_) (by kernel_rfl) ?h0 ?hfin ?hI
      case h0 => exact ⟨_, _, _, _, _, _, _, _, _, _, _, _, _, _, _, _, _, _, _, _, _, _, _, _, _, _, _, _, _, undef, _, undef, rfl, rfl, ⟨(fun _ => (Below.refl _ _).drew), (fun h => by cases h), (fun h => by cases h), (fun h => by cases h), (fun h => by cases h), (fun h => by cases h), (fun h => by cases h), (fun h => by cases h), (fun h => by cases h), (fun _ => SameH.drew _), (fun h => by cases h), (fun h => by cases h), (fun h => by cases h), (fun h => by cases h), (fun h => by cases h), (fun h => by cases h), (fun h => by cases h), (fun h => by cases h), (fun h => by cases h), (fun h => by cases h), (fun h => by cases h), (fun h => by cases h), (fun h => by cases h), (fun h => by cases h), (fun h => by cases h), (fun h => by cases h)⟩⟩
      case hI =>
        rintro listed a w ⟨vb0, vb1, vb2, vb3, vb4, vb5, vb6, vb7, vb8, vb9, vb10, vb11, vb12, vb13, vb14, vb15, vx0, vx1, vx2, vx3, vx4, vx5, vx6, vx7, vx8, vx9, vx10, vx11, vx12, vx13, vx14, vx15, rfl, rfl, H⟩ i hi
        obtain ⟨hun, oj, hoj, hall⟩ := mem_ready.1 hi
        clear hi
        rcases i with _ | _ | _ | _ | _ | _ | _ | _ | _ | _ | _ | _ | _ | _ | _ | _ | i
        · have ho := hoj
          simp only [List.getElem?_toArray, List.getElem?_cons_zero, Option.some.injEq] at hoj
          subst hoj
          obtain rfl : vb0 = false := hun
          clear hall
          obtain rfl : vb12 = false := Bool.eq_false_iff.2 fun h => Bool.false_ne_true (H.d12 h).1
          obtain rfl : vb13 = false := Bool.eq_false_iff.2 fun h => Bool.false_ne_true (H.d13 h).1
          obtain rfl : vb14 = false := Bool.eq_false_iff.2 fun h => Bool.false_ne_true (H.d14 h).1
          obtain rfl : vb15 = false := Bool.eq_false_iff.2 fun h => Bool.false_ne_true (H.d15 h).1
          have hbe := H.be rfl
          have hx_ww := H.ww rfl
          refine wpOp_step ho (fun K' hK => ?_)
          have HK := Lib.hid hK
          clear hK ho
          go_simp
          exact HK.out _ _ ⟨_, _, _, _, _, _, _, _, _, _, _, _, _, _, _, _, _, _, _, _, _, _, _, _, _, _, _, _, _, vx13, _, vx15, rfl, rfl, ⟨(fun _ => hbe), H.d6, H.d7, H.d10, H.d11, (fun h => by cases h), (fun h => by cases h), (fun h => by cases h), (fun h => by cases h), H.ww, (fun _ => rfl), H.h1, H.h2, H.h3, H.h4, H.h5, H.h6, H.h7, H.h8, H.h9, H.h10, H.h11, H.h12, (fun h => by cases h), H.h14, (fun h => by cases h)⟩⟩
        · have ho := hoj
          simp only [List.getElem?_toArray, List.getElem?_cons_succ, List.getElem?_cons_zero, Option.some.injEq] at hoj
          subst hoj
          obtain rfl : vb1 = false := hun
          clear hall
          obtain rfl : vb12 = false := Bool.eq_false_iff.2 fun h => Bool.false_ne_true (H.d12 h).2.1
          obtain rfl : vb13 = false := Bool.eq_false_iff.2 fun h => Bool.false_ne_true (H.d13 h).2.1
          obtain rfl : vb14 = false := Bool.eq_false_iff.2 fun h => Bool.false_ne_true (H.d14 h).2.1
          obtain rfl : vb15 = false := Bool.eq_false_iff.2 fun h => Bool.false_ne_true (H.d15 h).2.1
          have hbe := H.be rfl
          have hx_ww := H.ww rfl
          refine wpOp_step ho (fun K' hK => ?_)
          have HK := Lib.hid hK
          clear hK ho
          go_simp
          exact HK.out _ _ ⟨_, _, _, _, _, _, _, _, _, _, _, _, _, _, _, _, _, _, _, _, _, _, _, _, _, _, _, _, _, vx13, _, vx15, rfl, rfl, ⟨(fun _ => hbe), H.d6, H.d7, H.d10, H.d11, (fun h => by cases h), (fun h => by cases h), (fun h => by cases h), (fun h => by cases h), H.ww, H.h0, (fun _ => rfl), H.h2, H.h3, H.h4, H.h5, H.h6, H.h7, H.h8, H.h9, H.h10, H.h11, H.h12, (fun h => by cases h), H.h14, (fun h => by cases h)⟩⟩
        · have ho := hoj
          simp only [List.getElem?_toArray, List.getElem?_cons_succ, List.getElem?_cons_zero, Option.some.injEq] at hoj
          subst hoj
          obtain rfl : vb2 = false := hun
          clear hall
          obtain rfl : vb14 = false := Bool.eq_false_iff.2 fun h => Bool.false_ne_true (H.d14 h).2.2.1
          obtain rfl : vb15 = false := Bool.eq_false_iff.2 fun h => Bool.false_ne_true (H.d15 h).2.2.1
          refine wpOp_step ho (fun K' hK => ?_)
          have HK := Lib.hid hK
          clear hK ho
          go_simp
          exact HK.out _ _ ⟨_, _, _, _, _, _, _, _, _, _, _, _, _, _, _, _, _, _, _, _, _, _, _, _, _, _, _, _, _, vx13, _, vx15, rfl, rfl, ⟨H.be, H.d6, H.d7, H.d10, H.d11, H.d12, H.d13, (fun h => by cases h), (fun h => by cases h), H.ww, H.h0, H.h1, (fun _ => rfl), H.h3, H.h4, H.h5, H.h6, H.h7, H.h8, H.h9, H.h10, H.h11, H.h12, H.h13, H.h14, (fun h => by cases h)⟩⟩
        · have ho := hoj
          simp only [List.getElem?_toArray, List.getElem?_cons_succ, List.getElem?_cons_zero, Option.some.injEq] at hoj
          subst hoj
          obtain rfl : vb3 = false := hun
          clear hall
          obtain rfl : vb14 = false := Bool.eq_false_iff.2 fun h => Bool.false_ne_true (H.d14 h).2.2.2.1
          obtain rfl : vb15 = false := Bool.eq_false_iff.2 fun h => Bool.false_ne_true (H.d15 h).2.2.2.1
          refine wpOp_step ho (fun K' hK => ?_)
          have HK := Lib.hid hK
          clear hK ho
          go_simp
          exact HK.out _ _ ⟨_, _, _, _, _, _, _, _, _, _, _, _, _, _, _, _, _, _, _, _, _, _, _, _, _, _, _, _, _, vx13, _, vx15, rfl, rfl, ⟨H.be, H.d6, H.d7, H.d10, H.d11, H.d12, H.d13, (fun h => by cases h), (fun h => by cases h), H.ww, H.h0, H.h1, H.h2, (fun _ => rfl), H.h4, H.h5, H.h6, H.h7, H.h8, H.h9, H.h10, H.h11, H.h12, H.h13, H.h14, (fun h => by cases h)⟩⟩
        · have ho := hoj
          simp only [List.getElem?_toArray, List.getElem?_cons_succ, List.getElem?_cons_zero, Option.some.injEq] at hoj
          subst hoj
          obtain rfl : vb4 = false := hun
          clear hall
          obtain rfl : vb6 = false := Bool.eq_false_iff.2 fun h => Bool.false_ne_true (H.d6 h).1
          obtain rfl : vb7 = false := Bool.eq_false_iff.2 fun h => Bool.false_ne_true (H.d7 h)
          obtain rfl : vb12 = false := Bool.eq_false_iff.2 fun h => Bool.false_ne_true (H.d12 h).2.2.1
          obtain rfl : vb13 = false := Bool.eq_false_iff.2 fun h => Bool.false_ne_true (H.d13 h).2.2.1
          obtain rfl : vb14 = false := Bool.eq_false_iff.2 fun h => Bool.false_ne_true (H.d14 h).2.2.2.2.1
          obtain rfl : vb15 = false := Bool.eq_false_iff.2 fun h => Bool.false_ne_true (H.d15 h).2.2.2.2.1
          have hbe := H.be rfl
          have hx_ww := H.ww rfl
          refine wpOp_step ho (fun K' hK => ?_)
          have HK := Lib.hid hK
          clear hK ho
          go_simp
          exact HK.out _ _ ⟨_, _, _, _, _, _, _, _, _, _, _, _, _, _, _, _, _, _, _, _, _, _, _, _, _, _, _, _, _, vx13, _, vx15, rfl, rfl, ⟨(fun _ => hbe), (fun h => by cases h), H.d7, H.d10, H.d11, (fun h => by cases h), (fun h => by cases h), (fun h => by cases h), (fun h => by cases h), H.ww, H.h0, H.h1, H.h2, H.h3, (fun _ => rfl), H.h5, H.h6, H.h7, H.h8, H.h9, H.h10, H.h11, H.h12, (fun h => by cases h), H.h14, (fun h => by cases h)⟩⟩
        · have ho := hoj
          simp only [List.getElem?_toArray, List.getElem?_cons_succ, List.getElem?_cons_zero, Option.some.injEq] at hoj
          subst hoj
          obtain rfl : vb5 = false := hun
          clear hall
          obtain rfl : vb6 = false := Bool.eq_false_iff.2 fun h => Bool.false_ne_true (H.d6 h).2
          obtain rfl : vb7 = false := Bool.eq_false_iff.2 fun h => Bool.false_ne_true (H.d7 h)
          obtain rfl : vb12 = false := Bool.eq_false_iff.2 fun h => Bool.false_ne_true (H.d12 h).2.2.2.1
          obtain rfl : vb13 = false := Bool.eq_false_iff.2 fun h => Bool.false_ne_true (H.d13 h).2.2.2.1
          obtain rfl : vb14 = false := Bool.eq_false_iff.2 fun h => Bool.false_ne_true (H.d14 h).2.2.2.2.2.1
          obtain rfl : vb15 = false := Bool.eq_false_iff.2 fun h => Bool.false_ne_true (H.d15 h).2.2.2.2.2.1
          have hbe := H.be rfl
          have hx_ww := H.ww rfl
          refine wpOp_step ho (fun K' hK => ?_)
          have HK := Lib.hid hK
          clear hK ho
          go_simp
          exact HK.out _ _ ⟨_, _, _, _, _, _, _, _, _, _, _, _, _, _, _, _, _, _, _, _, _, _, _, _, _, _, _, _, _, vx13, _, vx15, rfl, rfl, ⟨(fun _ => hbe), (fun h => by cases h), H.d7, H.d10, H.d11, (fun h => by cases h), (fun h => by cases h), (fun h => by cases h), (fun h => by cases h), H.ww, H.h0, H.h1, H.h2, H.h3, H.h4, (fun _ => rfl), H.h6, H.h7, H.h8, H.h9, H.h10, H.h11, H.h12, (fun h => by cases h), H.h14, (fun h => by cases h)⟩⟩
        · have ho := hoj
          simp only [List.getElem?_toArray, List.getElem?_cons_succ, List.getElem?_cons_zero, Option.some.injEq] at hoj
          subst hoj
          obtain rfl : vb6 = false := hun
          obtain rfl : vb4 = true := hall ⟨4, .data⟩ (by simp) (by kernel_rfl)
          obtain rfl : vb5 = true := hall ⟨5, .data⟩ (by simp) (by kernel_rfl)
          clear hall
          obtain rfl : vb7 = false := Bool.eq_false_iff.2 fun h => Bool.false_ne_true (H.d7 h)
          obtain rfl : vb12 = false := Bool.eq_false_iff.2 fun h => Bool.false_ne_true (H.d12 h).2.2.2.2.1
          obtain rfl : vb13 = false := Bool.eq_false_iff.2 fun h => Bool.false_ne_true (H.d13 h).2.2.2.2.1
          obtain rfl : vb14 = false := Bool.eq_false_iff.2 fun h => Bool.false_ne_true (H.d14 h).2.2.2.2.2.2.1
          obtain rfl : vb15 = false := Bool.eq_false_iff.2 fun h => Bool.false_ne_true (H.d15 h).2.2.2.2.2.2.1
          have hbe := H.be rfl
          have hx_ww := H.ww rfl
          obtain rfl := H.h4 rfl
          obtain rfl := H.h5 rfl
          refine wpOp_step ho (fun K' hK => ?_)
          have HK := Lib.hid hK
          clear hK ho
          go_simp
          exact HK.out _ _ ⟨_, _, _, _, _, _, _, _, _, _, _, _, _, _, _, _, _, _, _, _, _, _, _, _, _, _, _, _, _, vx13, _, vx15, rfl, rfl, ⟨(fun _ => hbe), (fun _ => ⟨rfl, rfl⟩), (fun h => by cases h), H.d10, H.d11, (fun h => by cases h), (fun h => by cases h), (fun h => by cases h), (fun h => by cases h), H.ww, H.h0, H.h1, H.h2, H.h3, H.h4, H.h5, (fun _ => rfl), H.h7, H.h8, H.h9, H.h10, H.h11, H.h12, (fun h => by cases h), H.h14, (fun h => by cases h)⟩⟩
        · have ho := hoj
          simp only [List.getElem?_toArray, List.getElem?_cons_succ, List.getElem?_cons_zero, Option.some.injEq] at hoj
          subst hoj
          obtain rfl : vb7 = false := hun
          obtain rfl : vb6 = true := hall ⟨6, .data⟩ (by simp) (by kernel_rfl)
          obtain rfl : vb4 = true := (H.d6 rfl).1
          obtain rfl : vb5 = true := (H.d6 rfl).2
          clear hall
          obtain rfl : vb12 = false := Bool.eq_false_iff.2 fun h => Bool.false_ne_true (H.d12 h).2.2.2.2.2.1
          obtain rfl : vb13 = false := Bool.eq_false_iff.2 fun h => Bool.false_ne_true (H.d13 h).2.2.2.2.2.1
          obtain rfl : vb14 = false := Bool.eq_false_iff.2 fun h => Bool.false_ne_true (H.d14 h).2.2.2.2.2.2.2.1
          obtain rfl : vb15 = false := Bool.eq_false_iff.2 fun h => Bool.false_ne_true (H.d15 h).2.2.2.2.2.2.2.1
          have hbe := H.be rfl
          have hx_ww := H.ww rfl
          obtain rfl := H.h4 rfl
          obtain rfl := H.h5 rfl
          obtain rfl := H.h6 rfl
          obtain ⟨e0, e1⟩ := HCJ.out _ hx_ww
          refine wpOp_step ho (fun K' hK => ?_)
          have HK := Lib.hid hK
          clear hK ho
          go_simp
          exact HK.out _ _ ⟨_, _, _, _, _, _, _, _, _, _, _, _, _, _, _, _, _, _, _, _, _, _, _, _, _, _, _, _, _, vx13, _, vx15, rfl, rfl, ⟨(fun _ => hbe), H.d6, (fun _ => rfl), H.d10, H.d11, (fun h => by cases h), (fun h => by cases h), (fun h => by cases h), (fun h => by cases h), H.ww, H.h0, H.h1, H.h2, H.h3, H.h4, H.h5, H.h6, (fun _ => rfl), H.h8, H.h9, H.h10, H.h11, H.h12, (fun h => by cases h), H.h14, (fun h => by cases h)⟩⟩
        · have ho := hoj
          simp only [List.getElem?_toArray, List.getElem?_cons_succ, List.getElem?_cons_zero, Option.some.injEq] at hoj
          subst hoj
          obtain rfl : vb8 = false := hun
          clear hall
          obtain rfl : vb10 = false := Bool.eq_false_iff.2 fun h => Bool.false_ne_true (H.d10 h).1
          obtain rfl : vb11 = false := Bool.eq_false_iff.2 fun h => Bool.false_ne_true (H.d11 h)
          obtain rfl : vb12 = false := Bool.eq_false_iff.2 fun h => Bool.false_ne_true (H.d12 h).2.2.2.2.2.2
          obtain rfl : vb13 = false := Bool.eq_false_iff.2 fun h => Bool.false_ne_true (H.d13 h).2.2.2.2.2.2.1
          obtain rfl : vb14 = false := Bool.eq_false_iff.2 fun h => Bool.false_ne_true (H.d14 h).2.2.2.2.2.2.2.2.1
          obtain rfl : vb15 = false := Bool.eq_false_iff.2 fun h => Bool.false_ne_true (H.d15 h).2.2.2.2.2.2.2.2.1
          have hbe := H.be rfl
          have hx_ww := H.ww rfl
          refine wpOp_step ho (fun K' hK => ?_)
          have HK := Lib.hid hK
          clear hK ho
          go_simp
          exact HK.out _ _ ⟨_, _, _, _, _, _, _, _, _, _, _, _, _, _, _, _, _, _, _, _, _, _, _, _, _, _, _, _, _, vx13, _, vx15, rfl, rfl, ⟨(fun _ => hbe), H.d6, H.d7, (fun h => by cases h), H.d11, H.d12, H.d13, (fun h => by cases h), (fun h => by cases h), H.ww, H.h0, H.h1, H.h2, H.h3, H.h4, H.h5, H.h6, H.h7, (fun _ => rfl), H.h9, H.h10, H.h11, H.h12, (fun h => by cases h), H.h14, (fun h => by cases h)⟩⟩
        · have ho := hoj
          simp only [List.getElem?_toArray, List.getElem?_cons_succ, List.getElem?_cons_zero, Option.some.injEq] at hoj
          subst hoj
          obtain rfl : vb9 = false := hun
          clear hall
          obtain rfl : vb10 = false := Bool.eq_false_iff.2 fun h => Bool.false_ne_true (H.d10 h).2
          obtain rfl : vb11 = false := Bool.eq_false_iff.2 fun h => Bool.false_ne_true (H.d11 h)
          obtain rfl : vb12 = false := Bool.eq_false_iff.2 fun h => Bool.false_ne_true (H.d12 h).2.2.2.2.2.2
          obtain rfl : vb13 = false := Bool.eq_false_iff.2 fun h => Bool.false_ne_true (H.d13 h).2.2.2.2.2.2.1
          obtain rfl : vb14 = false := Bool.eq_false_iff.2 fun h => Bool.false_ne_true (H.d14 h).2.2.2.2.2.2.2.2.2.1
          obtain rfl : vb15 = false := Bool.eq_false_iff.2 fun h => Bool.false_ne_true (H.d15 h).2.2.2.2.2.2.2.2.2.1
          have hbe := H.be rfl
          have hx_ww := H.ww rfl
          refine wpOp_step ho (fun K' hK => ?_)
          have HK := Lib.hid hK
          clear hK ho
          go_simp
          exact HK.out _ _ ⟨_, _, _, _, _, _, _, _, _, _, _, _, _, _, _, _, _, _, _, _, _, _, _, _, _, _, _, _, _, vx13, _, vx15, rfl, rfl, ⟨(fun _ => hbe), H.d6, H.d7, (fun h => by cases h), H.d11, H.d12, H.d13, (fun h => by cases h), (fun h => by cases h), H.ww, H.h0, H.h1, H.h2, H.h3, H.h4, H.h5, H.h6, H.h7, H.h8, (fun _ => rfl), H.h10, H.h11, H.h12, (fun h => by cases h), H.h14, (fun h => by cases h)⟩⟩
        · have ho := hoj
          simp only [List.getElem?_toArray, List.getElem?_cons_succ, List.getElem?_cons_zero, Option.some.injEq] at hoj
          subst hoj
          obtain rfl : vb10 = false := hun
          obtain rfl : vb8 = true := hall ⟨8, .data⟩ (by simp) (by kernel_rfl)
          obtain rfl : vb9 = true := hall ⟨9, .data⟩ (by simp) (by kernel_rfl)
          clear hall
          obtain rfl : vb11 = false := Bool.eq_false_iff.2 fun h => Bool.false_ne_true (H.d11 h)
          obtain rfl : vb12 = false := Bool.eq_false_iff.2 fun h => Bool.false_ne_true (H.d12 h).2.2.2.2.2.2
          obtain rfl : vb13 = false := Bool.eq_false_iff.2 fun h => Bool.false_ne_true (H.d13 h).2.2.2.2.2.2.1
          obtain rfl : vb14 = false := Bool.eq_false_iff.2 fun h => Bool.false_ne_true (H.d14 h).2.2.2.2.2.2.2.2.2.2.1
          obtain rfl : vb15 = false := Bool.eq_false_iff.2 fun h => Bool.false_ne_true (H.d15 h).2.2.2.2.2.2.2.2.2.2.1
          have hbe := H.be rfl
          have hx_ww := H.ww rfl
          obtain rfl := H.h8 rfl
          obtain rfl := H.h9 rfl
          refine wpOp_step ho (fun K' hK => ?_)
          have HK := Lib.hid hK
          clear hK ho
          go_simp
          exact HK.out _ _ ⟨_, _, _, _, _, _, _, _, _, _, _, _, _, _, _, _, _, _, _, _, _, _, _, _, _, _, _, _, _, vx13, _, vx15, rfl, rfl, ⟨(fun _ => hbe), H.d6, H.d7, (fun _ => ⟨rfl, rfl⟩), (fun h => by cases h), H.d12, H.d13, (fun h => by cases h), (fun h => by cases h), H.ww, H.h0, H.h1, H.h2, H.h3, H.h4, H.h5, H.h6, H.h7, H.h8, H.h9, (fun _ => rfl), H.h11, H.h12, (fun h => by cases h), H.h14, (fun h => by cases h)⟩⟩
        · have ho := hoj
          simp only [List.getElem?_toArray, List.getElem?_cons_succ, List.getElem?_cons_zero, Option.some.injEq] at hoj
          subst hoj
          obtain rfl : vb11 = false := hun
          obtain rfl : vb10 = true := hall ⟨10, .data⟩ (by simp) (by kernel_rfl)
          obtain rfl : vb8 = true := (H.d10 rfl).1
          obtain rfl : vb9 = true := (H.d10 rfl).2
          clear hall
          obtain rfl : vb12 = false := Bool.eq_false_iff.2 fun h => Bool.false_ne_true (H.d12 h).2.2.2.2.2.2
          obtain rfl : vb13 = false := Bool.eq_false_iff.2 fun h => Bool.false_ne_true (H.d13 h).2.2.2.2.2.2.1
          obtain rfl : vb14 = false := Bool.eq_false_iff.2 fun h => Bool.false_ne_true (H.d14 h).2.2.2.2.2.2.2.2.2.2.2.1
          obtain rfl : vb15 = false := Bool.eq_false_iff.2 fun h => Bool.false_ne_true (H.d15 h).2.2.2.2.2.2.2.2.2.2.2.1
          have hbe := H.be rfl
          have hx_ww := H.ww rfl
          obtain rfl := H.h8 rfl
          obtain rfl := H.h9 rfl
          obtain rfl := H.h10 rfl
          obtain ⟨e0, e1⟩ := HCI.out _ hx_ww
          refine wpOp_step ho (fun K' hK => ?_)
          have HK := Lib.hid hK
          clear hK ho
          go_simp
          exact HK.out _ _ ⟨_, _, _, _, _, _, _, _, _, _, _, _, _, _, _, _, _, _, _, _, _, _, _, _, _, _, _, _, _, vx13, _, vx15, rfl, rfl, ⟨(fun _ => hbe), H.d6, H.d7, H.d10, (fun _ => rfl), (fun h => by cases h), (fun h => by cases h), (fun h => by cases h), (fun h => by cases h), H.ww, H.h0, H.h1, H.h2, H.h3, H.h4, H.h5, H.h6, H.h7, H.h8, H.h9, H.h10, (fun _ => rfl), H.h12, (fun h => by cases h), H.h14, (fun h => by cases h)⟩⟩
        · have ho := hoj
          simp only [List.getElem?_toArray, List.getElem?_cons_succ, List.getElem?_cons_zero, Option.some.injEq] at hoj
          subst hoj
          obtain rfl : vb12 = false := hun
          obtain rfl : vb0 = true := hall ⟨0, .data⟩ (by simp) (by kernel_rfl)
          obtain rfl : vb1 = true := hall ⟨1, .data⟩ (by simp) (by kernel_rfl)
          obtain rfl : vb4 = true := hall ⟨4, .phase⟩ (by simp) (by kernel_rfl)
          obtain rfl : vb5 = true := hall ⟨5, .phase⟩ (by simp) (by kernel_rfl)
          obtain rfl : vb6 = true := hall ⟨6, .phase⟩ (by simp) (by kernel_rfl)
          obtain rfl : vb7 = true := hall ⟨7, .phase⟩ (by simp) (by kernel_rfl)
          obtain rfl : vb11 = true := hall ⟨11, .phase⟩ (by simp) (by kernel_rfl)
          obtain rfl : vb10 = true := (H.d11 rfl)
          obtain rfl : vb8 = true := (H.d10 rfl).1
          obtain rfl : vb9 = true := (H.d10 rfl).2
          clear hall
          obtain rfl : vb13 = false := Bool.eq_false_iff.2 fun h => Bool.false_ne_true (H.d13 h).2.2.2.2.2.2.2
          obtain rfl : vb14 = false := Bool.eq_false_iff.2 fun h => Bool.false_ne_true (H.d14 h).2.2.2.2.2.2.2.2.2.2.2.2.1
          obtain rfl : vb15 = false := Bool.eq_false_iff.2 fun h => Bool.false_ne_true (H.d15 h).2.2.2.2.2.2.2.2.2.2.2.2.1
          have hbe := H.be rfl
          have hx_ww := H.ww rfl
          obtain rfl := H.h0 rfl
          obtain rfl := H.h1 rfl
          obtain rfl := H.h4 rfl
          obtain rfl := H.h5 rfl
          obtain rfl := H.h6 rfl
          obtain rfl := H.h7 rfl
          obtain rfl := H.h8 rfl
          obtain rfl := H.h9 rfl
          obtain rfl := H.h10 rfl
          obtain rfl := H.h11 rfl
          refine wpOp_step ho (fun K' hK => ?_)
          have HK := Lib.hid hK
          clear hK ho
          go_simp
          exact HK.out _ _ ⟨_, _, _, _, _, _, _, _, _, _, _, _, _, _, _, _, _, _, _, _, _, _, _, _, _, _, _, _, _, vx13, _, vx15, rfl, rfl, ⟨(fun _ => hbe), H.d6, H.d7, H.d10, H.d11, (fun _ => ⟨rfl, rfl, rfl, rfl, rfl, rfl, rfl⟩), (fun h => by cases h), (fun h => by cases h), (fun h => by cases h), H.ww, H.h0, H.h1, H.h2, H.h3, H.h4, H.h5, H.h6, H.h7, H.h8, H.h9, H.h10, H.h11, (fun _ => rfl), (fun h => by cases h), H.h14, (fun h => by cases h)⟩⟩
        · have ho := hoj
          simp only [List.getElem?_toArray, List.getElem?_cons_succ, List.getElem?_cons_zero, Option.some.injEq] at hoj
          subst hoj
          obtain rfl : vb13 = false := hun
          obtain rfl : vb0 = true := hall ⟨0, .phase⟩ (by simp) (by kernel_rfl)
          obtain rfl : vb1 = true := hall ⟨1, .phase⟩ (by simp) (by kernel_rfl)
          obtain rfl : vb4 = true := hall ⟨4, .phase⟩ (by simp) (by kernel_rfl)
          obtain rfl : vb5 = true := hall ⟨5, .phase⟩ (by simp) (by kernel_rfl)
          obtain rfl : vb6 = true := hall ⟨6, .phase⟩ (by simp) (by kernel_rfl)
          obtain rfl : vb7 = true := hall ⟨7, .data⟩ (by simp) (by kernel_rfl)
          obtain rfl : vb11 = true := hall ⟨11, .phase⟩ (by simp) (by kernel_rfl)
          obtain rfl : vb12 = true := hall ⟨12, .data⟩ (by simp) (by kernel_rfl)
          obtain rfl : vb10 = true := (H.d11 rfl)
          obtain rfl : vb8 = true := (H.d10 rfl).1
          obtain rfl : vb9 = true := (H.d10 rfl).2
          clear hall
          obtain rfl : vb14 = false := Bool.eq_false_iff.2 fun h => Bool.false_ne_true (H.d14 h).2.2.2.2.2.2.2.2.2.2.2.2.2
          obtain rfl : vb15 = false := Bool.eq_false_iff.2 fun h => Bool.false_ne_true (H.d15 h).2.2.2.2.2.2.2.2.2.2.2.2.2.1
          have hbe := H.be rfl
          have hx_ww := H.ww rfl
          obtain rfl := H.h0 rfl
          obtain rfl := H.h1 rfl
          obtain rfl := H.h4 rfl
          obtain rfl := H.h5 rfl
          obtain rfl := H.h6 rfl
          obtain rfl := H.h7 rfl
          obtain rfl := H.h8 rfl
          obtain rfl := H.h9 rfl
          obtain rfl := H.h10 rfl
          obtain rfl := H.h11 rfl
          obtain rfl := H.h12 rfl
          obtain ⟨o1, g1⟩ := own_pair (HOW.out _ hx_ww) i HIL.out jl jh
          have OO := Lib.hid o1
          have GG := Lib.hid (gr_trans (HGW.out _ hx_ww) g1)
          obtain ⟨e0, e1⟩ := HCI.out _ hx_ww
          have qf := HFZ.out _ hx_ww
          clear o1 g1
          refine wpOp_step ho (fun K' hK => ?_)
          have HK := Lib.hid hK
          clear hK ho
          go_simp
          exact HK.out _ _ ⟨_, _, _, _, _, _, _, _, _, _, _, _, _, _, _, _, _, _, _, _, _, _, _, _, _, _, _, _, _, vx13, _, vx15, rfl, rfl, ⟨(fun h => by cases h), H.d6, H.d7, H.d10, H.d11, H.d12, (fun _ => ⟨rfl, rfl, rfl, rfl, rfl, rfl, rfl, rfl⟩), (fun h => by cases h), (fun h => by cases h), (fun h => by cases h), H.h0, H.h1, H.h2, H.h3, H.h4, H.h5, H.h6, H.h7, H.h8, H.h9, H.h10, H.h11, H.h12, (fun _ _ => ⟨OO.out, GG.out⟩), H.h14, (fun h => by cases h)⟩⟩
        · have ho := hoj
          simp only [List.getElem?_toArray, List.getElem?_cons_succ, List.getElem?_cons_zero, Option.some.injEq] at hoj
          subst hoj
          obtain rfl : vb14 = false := hun
          obtain rfl : vb0 = true := hall ⟨0, .phase⟩ (by simp) (by kernel_rfl)
          obtain rfl : vb1 = true := hall ⟨1, .phase⟩ (by simp) (by kernel_rfl)
          obtain rfl : vb2 = true := hall ⟨2, .data⟩ (by simp) (by kernel_rfl)
          obtain rfl : vb3 = true := hall ⟨3, .data⟩ (by simp) (by kernel_rfl)
          obtain rfl : vb4 = true := hall ⟨4, .phase⟩ (by simp) (by kernel_rfl)
          obtain rfl : vb5 = true := hall ⟨5, .phase⟩ (by simp) (by kernel_rfl)
          obtain rfl : vb6 = true := hall ⟨6, .phase⟩ (by simp) (by kernel_rfl)
          obtain rfl : vb7 = true := hall ⟨7, .phase⟩ (by simp) (by kernel_rfl)
          obtain rfl : vb8 = true := hall ⟨8, .phase⟩ (by simp) (by kernel_rfl)
          obtain rfl : vb9 = true := hall ⟨9, .phase⟩ (by simp) (by kernel_rfl)
          obtain rfl : vb10 = true := hall ⟨10, .phase⟩ (by simp) (by kernel_rfl)
          obtain rfl : vb11 = true := hall ⟨11, .phase⟩ (by simp) (by kernel_rfl)
          obtain rfl : vb12 = true := hall ⟨12, .phase⟩ (by simp) (by kernel_rfl)
          obtain rfl : vb13 = true := hall ⟨13, .phase⟩ (by simp) (by kernel_rfl)
          clear hall
          obtain rfl : vb15 = false := Bool.eq_false_iff.2 fun h => Bool.false_ne_true (H.d15 h).2.2.2.2.2.2.2.2.2.2.2.2.2.2
          obtain rfl := H.h0 rfl
          obtain rfl := H.h1 rfl
          obtain rfl := H.h2 rfl
          obtain rfl := H.h3 rfl
          obtain rfl := H.h4 rfl
          obtain rfl := H.h5 rfl
          obtain rfl := H.h6 rfl
          obtain rfl := H.h7 rfl
          obtain rfl := H.h8 rfl
          obtain rfl := H.h9 rfl
          obtain rfl := H.h10 rfl
          obtain rfl := H.h11 rfl
          obtain rfl := H.h12 rfl
          have P13 := H.h13 rfl rfl
          refine wpOp_step ho (fun K' hK => ?_)
          have HK := Lib.hid hK
          clear hK ho
          go_simp
          exact HK.out _ _ ⟨_, _, _, _, _, _, _, _, _, _, _, _, _, _, _, _, _, _, _, _, _, _, _, _, _, _, _, _, _, vx13, _, vx15, rfl, rfl, ⟨(fun h => by cases h), H.d6, H.d7, H.d10, H.d11, H.d12, H.d13, (fun _ => ⟨rfl, rfl, rfl, rfl, rfl, rfl, rfl, rfl, rfl, rfl, rfl, rfl, rfl, rfl⟩), (fun h => by cases h), (fun h => by cases h), H.h0, H.h1, H.h2, H.h3, H.h4, H.h5, H.h6, H.h7, H.h8, H.h9, H.h10, H.h11, H.h12, H.h13, (fun _ => rfl), (fun h => by cases h)⟩⟩
        · have ho := hoj
          simp only [List.getElem?_toArray, List.getElem?_cons_succ, List.getElem?_cons_zero, Option.some.injEq] at hoj
          subst hoj
          obtain rfl : vb15 = false := hun
          obtain rfl : vb0 = true := hall ⟨0, .phase⟩ (by simp) (by kernel_rfl)
          obtain rfl : vb1 = true := hall ⟨1, .phase⟩ (by simp) (by kernel_rfl)
          obtain rfl : vb2 = true := hall ⟨2, .phase⟩ (by simp) (by kernel_rfl)
          obtain rfl : vb3 = true := hall ⟨3, .phase⟩ (by simp) (by kernel_rfl)
          obtain rfl : vb4 = true := hall ⟨4, .phase⟩ (by simp) (by kernel_rfl)
          obtain rfl : vb5 = true := hall ⟨5, .phase⟩ (by simp) (by kernel_rfl)
          obtain rfl : vb6 = true := hall ⟨6, .phase⟩ (by simp) (by kernel_rfl)
          obtain rfl : vb7 = true := hall ⟨7, .phase⟩ (by simp) (by kernel_rfl)
          obtain rfl : vb8 = true := hall ⟨8, .phase⟩ (by simp) (by kernel_rfl)
          obtain rfl : vb9 = true := hall ⟨9, .phase⟩ (by simp) (by kernel_rfl)
          obtain rfl : vb10 = true := hall ⟨10, .phase⟩ (by simp) (by kernel_rfl)
          obtain rfl : vb11 = true := hall ⟨11, .data⟩ (by simp) (by kernel_rfl)
          obtain rfl : vb12 = true := hall ⟨12, .phase⟩ (by simp) (by kernel_rfl)
          obtain rfl : vb13 = true := hall ⟨13, .chain⟩ (by simp) (by kernel_rfl)
          obtain rfl : vb14 = true := hall ⟨14, .data⟩ (by simp) (by kernel_rfl)
          clear hall
          obtain rfl := H.h0 rfl
          obtain rfl := H.h1 rfl
          obtain rfl := H.h2 rfl
          obtain rfl := H.h3 rfl
          obtain rfl := H.h4 rfl
          obtain rfl := H.h5 rfl
          obtain rfl := H.h6 rfl
          obtain rfl := H.h7 rfl
          obtain rfl := H.h8 rfl
          obtain rfl := H.h9 rfl
          obtain rfl := H.h10 rfl
          obtain rfl := H.h11 rfl
          obtain rfl := H.h12 rfl
          have P13 := H.h13 rfl rfl
          obtain rfl := H.h14 rfl
          obtain ⟨ow, gw⟩ := P13
          obtain ⟨o1, g1⟩ := own_pair ow j (by rw [List.length_set]; exact HJL.out) il ih
          have OO := Lib.hid o1
          have GG := Lib.hid (gr_trans gw g1)
          obtain ⟨e0, e1⟩ := own_two ow j (by rw [List.length_set]; exact HJL.out)
          have qf := own_frz ow
          clear o1 g1 ow gw
          refine wpOp_step ho (fun K' hK => ?_)
          have HK := Lib.hid hK
          clear hK ho
          go_simp
          exact HK.out _ _ ⟨_, _, _, _, _, _, _, _, _, _, _, _, _, _, _, _, _, _, _, _, _, _, _, _, _, _, _, _, _, vx13, _, vx15, rfl, rfl, ⟨(fun h => by cases h), H.d6, H.d7, H.d10, H.d11, H.d12, H.d13, H.d14, (fun _ => ⟨rfl, rfl, rfl, rfl, rfl, rfl, rfl, rfl, rfl, rfl, rfl, rfl, rfl, rfl, rfl⟩), (fun h => by cases h), H.h0, H.h1, H.h2, H.h3, H.h4, H.h5, H.h6, H.h7, H.h8, H.h9, H.h10, H.h11, H.h12, (fun _ h => by cases h), H.h14, (fun _ => ⟨OO.out, GG.out⟩)⟩⟩
        · have ho := hoj
          simp at ho
      case hfin =>
        rintro listed a w ⟨vb0, vb1, vb2, vb3, vb4, vb5, vb6, vb7, vb8, vb9, vb10, vb11, vb12, vb13, vb14, vb15, vx0, vx1, vx2, vx3, vx4, vx5, vx6, vx7, vx8, vx9, vx10, vx11, vx12, vx13, vx14, vx15, rfl, rfl, H⟩ hr
        have hb : vb15 = true := by
          clear H
          obtain rfl : vb0 = true := by
            cases vb0
            · exact absurd hr (ready_neD (by kernel_rfl))
            · rfl
          obtain rfl : vb1 = true := by
            cases vb1
            · exact absurd hr (ready_neD (by kernel_rfl))
            · rfl
          obtain rfl : vb2 = true := by
            cases vb2
            · exact absurd hr (ready_neD (by kernel_rfl))
            · rfl
          obtain rfl : vb3 = true := by
            cases vb3
            · exact absurd hr (ready_neD (by kernel_rfl))
            · rfl
          obtain rfl : vb4 = true := by
            cases vb4
            · exact absurd hr (ready_neD (by kernel_rfl))
            · rfl
          obtain rfl : vb5 = true := by
            cases vb5
            · exact absurd hr (ready_neD (by kernel_rfl))
            · rfl
          obtain rfl : vb6 = true := by
            cases vb6
            · exact absurd hr (ready_neD (by kernel_rfl))
            · rfl
          obtain rfl : vb7 = true := by
            cases vb7
            · exact absurd hr (ready_neD (by kernel_rfl))
            · rfl
          obtain rfl : vb8 = true := by
            cases vb8
            · exact absurd hr (ready_neD (by kernel_rfl))
            · rfl
          obtain rfl : vb9 = true := by
            cases vb9
            · exact absurd hr (ready_neD (by kernel_rfl))
            · rfl
          obtain rfl : vb10 = true := by
            cases vb10
            · exact absurd hr (ready_neD (by kernel_rfl))
            · rfl
          obtain rfl : vb11 = true := by
            cases vb11
            · exact absurd hr (ready_neD (by kernel_rfl))
            · rfl
          obtain rfl : vb12 = true := by
            cases vb12
            · exact absurd hr (ready_neD (by kernel_rfl))
            · rfl
          obtain rfl : vb13 = true := by
            cases vb13
            · exact absurd hr (ready_neD (by kernel_rfl))
            · rfl
          obtain rfl : vb14 = true := by
            cases vb14
            · exact absurd hr (ready_neD (by kernel_rfl))
            · rfl
          obtain rfl : vb15 = true := by
            cases vb15
            · exact absurd hr (ready_neD (by kernel_rfl))
            · rfl
          rfl
        subst hb
        clear hr
        obtain rfl : vb0 = true := (H.d15 rfl).1
        obtain rfl : vb1 = true := (H.d15 rfl).2.1
        obtain rfl : vb2 = true := (H.d15 rfl).2.2.1
        obtain rfl : vb3 = true := (H.d15 rfl).2.2.2.1
        obtain rfl : vb4 = true := (H.d15 rfl).2.2.2.2.1
        obtain rfl : vb5 = true := (H.d15 rfl).2.2.2.2.2.1
        obtain rfl : vb6 = true := (H.d15 rfl).2.2.2.2.2.2.1
        obtain rfl : vb7 = true := (H.d15 rfl).2.2.2.2.2.2.2.1
        obtain rfl : vb8 = true := (H.d15 rfl).2.2.2.2.2.2.2.2.1
        obtain rfl : vb9 = true := (H.d15 rfl).2.2.2.2.2.2.2.2.2.1
        obtain rfl : vb10 = true := (H.d15 rfl).2.2.2.2.2.2.2.2.2.2.1
        obtain rfl : vb11 = true := (H.d15 rfl).2.2.2.2.2.2.2.2.2.2.2.1
        obtain rfl : vb12 = true := (H.d15 rfl).2.2.2.2.2.2.2.2.2.2.2.2.1
        obtain rfl : vb13 = true := (H.d15 rfl).2.2.2.2.2.2.2.2.2.2.2.2.2.1
        obtain rfl : vb14 = true := (H.d15 rfl).2.2.2.2.2.2.2.2.2.2.2.2.2.2
        obtain ⟨ow, gw⟩ := H.h15 rfl
        have OW := Lib.hid ow
        have GW := Lib.hid (gr_trans GX.out gw)
        clear H ow gw
        go_wp2_with fail
        go_roundg (gk - 1)
        case measure => omega
        case rel => exact ⟨i + 1, _, by first | rfl | go_num, by have := HJE.out; simp; omega, by omega, OW, GW, HRN⟩
    · have HD := Lib.hid (RX.out.done (by rw [HN.out]; omega))
      have OY := OX.out
      rw [HD.out] at OY
      have OY' := Lib.hid OY
      have d0 : decide ((i : Int) < (n : Int) - 1 - i) = false := by simp; omega
      clear OY
      subst hjv
      go_wp2_with fail
      go_end0
      exact ⟨rfl, OY'.out, GX.out⟩
end Go.Proofs.Ytnccibaifffhhaa
