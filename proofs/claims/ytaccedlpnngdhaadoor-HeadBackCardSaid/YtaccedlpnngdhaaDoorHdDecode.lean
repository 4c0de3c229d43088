/- Contract of package head: Decode. -/
import Derived.Test.YtaccedlpnngdhaaDoorHdTok
import Derived.Deep.LoopGhost
import Derived.RegionTactic
import Derived.StillTailTactics
namespace Go.Proofs.YtaccedlpnngdhaaDoor
set_option linter.unusedVariables false
open Go.RowKit P

/-- behind begun and token: the result's variable, the head's variable, the Token -/
structure DecAt (w : World) (hb : Nat) (k a b num m : Int) (d : Value) (t : List Int) (wr : World) : Prop where
  be : Below w.heap.size w wr
  z : wr.heap[w.heap.size]? = some (.cells #[.int .i64 0, .int .i64 0, .int .i64 0, .slice none 0 0, .int .i64 0, .int .i64 0] 24 (0, 0))
  f : wr.heap[hb]? = some (.cells #[.int .i64 k, .int .i64 a, .int .i64 b, d, .int .i64 num, .int .i64 m] 24 (0, 0))
  ne : w.heap.size < hb
  tk : BSl wr wr.heap.size d t
  own : ∀ j, d.ownBlock = some j → hb < j
theorem DecAt.num {w wr : World} {hb : Nat} {k a b num m : Int} {d : Value} {t : List Int} (h : DecAt w hb k a b num m d t wr) (v : Int) : DecAt w hb k a b v m d t (wr.setCell ⟨hb, 4, none⟩ (.int .i64 v)) := by
  have g := gr_set wr hb 4 (.int .i64 v)
  have hne := h.ne
  exact ⟨gr_from h.be h.be.size (by omega) g, (g.block _ (lt_of_block h.z) (by simp; omega)).trans h.z, by simpa using bk_set h.f 4 (.int .i64 v), h.ne, bsl_gr h.tk (fun e => by have := h.own _ e; omega) g, h.own⟩
/-- the head laid into the result's variable -/
theorem DecAt.fin {w wr : World} {hb : Nat} {k a b num m : Int} {d : Value} {t : List Int} (h : DecAt w hb k a b num m d t wr) : ∀ w', wr.grownBy w' (some w.heap.size) → Below w.heap.size w w' ∧ HdVal w' w'.heap.size (.agg #[.int .i64 k, .int .i64 a, .int .i64 b, d, .int .i64 num, .int .i64 m]) ⟨k, a, b, t, num, m⟩ := fun w' g =>
  ⟨gr_from h.be h.be.size (Nat.le_refl _) g, ⟨_, rfl, bsl_gr h.tk (fun e => by have := h.own _ e; have := h.ne; omega) g⟩⟩

section
variable {n c : Nat} {w : World}
set_option maxHeartbeats 2000000 in
theorem hdDec_refused (A : Option Addr) (x : Int) (hx : x ≠ 0) (hB : ∀ w', Below w.heap.size w w' → Calls Tryd.prog 22 #[.slice A n c] w' fun e w'' => e = .returned (.tuple #[zHd, .int .i64 0, .int .i64 x]) ∧ Below w'.heap.size w' w'') :
    Calls Tryd.prog 12 #[.slice A n c] w fun e w' => e = .returned (.tuple #[zHd, .int .i64 0, .int .i64 x]) ∧ Below w.heap.size w w' := by
  have g1 : (x == 0) = false := by simp [hx]
  have g2 : (x != 0) = true := by simp [hx]
  have HB := Lib.hid hB
  have B0 := Lib.hid ((Below.refl w.heap.size w).alloc (Nat.le_refl _) (.cells #[.int .i64 0, .int .i64 0, .int .i64 0, .slice none 0 0, .int .i64 0, .int .i64 0] 24))
  have F0 := Lib.hid (heap_alloc_new w (.cells #[.int .i64 0, .int .i64 0, .int .i64 0, .slice none 0 0, .int .i64 0, .int .i64 0] 24))
  clear hB
  go_enter Tryd.func12, Tryd.ntmps12
  go_wp2_with (go_at_call 22; refine (HB.out _ B0.out).mono ?_; rintro e w1 ⟨rfl, b1⟩; have F1 := Lib.hid ((b1.block _ (lt_of_block F0.out)).trans F0.out); have B1 := Lib.hid (B0.out.trans (b1.mono B0.out.size)); clear b1; unfold zHd; have FA := Lib.hid ((Below.heap_alloc w1 (.cells #[.int .i64 0, .int .i64 0, .int .i64 0, .slice none 0 0, .int .i64 0, .int .i64 0] 24) w.heap.size (lt_of_block F1.out)).trans F1.out); have BA := Lib.hid (B1.out.alloc B1.out.size (.cells #[.int .i64 0, .int .i64 0, .int .i64 0, .slice none 0 0, .int .i64 0, .int .i64 0] 24)); obtain ⟨z0, z1, z2, z3, z4, z5, zf⟩ := bk6 FA.out)
  obtain ⟨u0, u1, u2, u3, u4, u5, _, gput⟩ := bk6_put FA.out (.int .i64 0) (.int .i64 0) (.int .i64 0) (.slice none 0 0) (.int .i64 0) (.int .i64 0)
  refine bodyPost_ret (by simp [results, Tryd.results12, go_sem, u0, u1, u2, u3, u4, u5]; try rfl) rfl ?_
  exact ⟨rfl, gr_from BA.out BA.out.size (Nat.le_refl _) gput⟩
/-- a Short head whose Number is cut short -/
theorem hdDec_s_few (b0 off q p m : Nat) (a : Int) (hqm : q < m) (hm : m ≤ 4) (hn : q + 2 ≤ 140737488355328) (hB : ∀ w', Below w.heap.size w w' → Calls Tryd.prog 22 #[.slice (some ⟨b0, off, none⟩) (q + 2) (p + 2)] w' fun e w'' => e = .returned (.tuple #[.agg #[.int .i64 2, .int .i64 a, .int .i64 0, .slice none 0 0, .int .i64 0, .int .i64 m], .int .i64 2, .int .i64 0]) ∧ Below w'.heap.size w' w'') :
    Calls Tryd.prog 12 #[.slice (some ⟨b0, off, none⟩) (q + 2) (p + 2)] w fun e w' => e = .returned (.tuple #[zHd, .int .i64 0, .int .i64 4]) ∧ Below w.heap.size w w' := by
  have HB := Lib.hid hB
  have B0 := Lib.hid ((Below.refl w.heap.size w).alloc (Nat.le_refl _) (.cells #[.int .i64 0, .int .i64 0, .int .i64 0, .slice none 0 0, .int .i64 0, .int .i64 0] 24))
  have F0 := Lib.hid (heap_alloc_new w (.cells #[.int .i64 0, .int .i64 0, .int .i64 0, .slice none 0 0, .int .i64 0, .int .i64 0] 24))
  clear hB
  go_enter Tryd.func12, Tryd.ntmps12
  go_wp2_with (go_at_call 22; refine (HB.out _ B0.out).mono ?_; rintro e w1 ⟨rfl, b1⟩; have F1 := Lib.hid ((b1.block _ (lt_of_block F0.out)).trans F0.out); have B1 := Lib.hid (B0.out.trans (b1.mono B0.out.size)); clear b1; have FA := Lib.hid ((Below.heap_alloc w1 (.cells #[.int .i64 2, .int .i64 a, .int .i64 0, .slice none 0 0, .int .i64 0, .int .i64 m] 24) w.heap.size (lt_of_block F1.out)).trans F1.out); have FB := Lib.hid (heap_alloc_new w1 (.cells #[.int .i64 2, .int .i64 a, .int .i64 0, .slice none 0 0, .int .i64 0, .int .i64 m] 24)); have BA := Lib.hid (B1.out.alloc B1.out.size (.cells #[.int .i64 2, .int .i64 a, .int .i64 0, .slice none 0 0, .int .i64 0, .int .i64 m] 24)); have LT := Lib.hid (lt_of_block F1.out); obtain ⟨z0, z1, z2, z3, z4, z5, zf⟩ := bk6 FA.out)
  obtain ⟨u0, u1, u2, u3, u4, u5, _, gput⟩ := bk6_put FA.out (.int .i64 0) (.int .i64 0) (.int .i64 0) (.slice none 0 0) (.int .i64 0) (.int .i64 0)
  refine bodyPost_ret (by simp [results, Tryd.results12, go_sem, u0, u1, u2, u3, u4, u5]; try rfl) rfl ?_
  exact ⟨rfl, gr_from BA.out BA.out.size (Nat.le_refl _) gput⟩
set_option maxRecDepth 100000 in
set_option maxHeartbeats 4000000 in
/-- a Short head, read -/
theorem hdDec_s_yes (b0 off q p m : Nat) (a : Int) (Z : List Int) (hb : b0 < w.heap.size) (hZ : Byt Z) (hZL : Z.length = m) (hCZ : ∀ j, j < m → w.cell? ⟨b0, off + 2 + j, none⟩ = some (.int .u8 (Z.getD j 0))) (hqm : m ≤ q) (hqp : q ≤ p) (hpm : p + 2 ≤ maxLen) (m1 : 1 ≤ m) (hm : m ≤ 4) (hn : q + 2 ≤ 140737488355328) (hB : ∀ w', Below w.heap.size w w' → Calls Tryd.prog 22 #[.slice (some ⟨b0, off, none⟩) (q + 2) (p + 2)] w' fun e w'' => e = .returned (.tuple #[.agg #[.int .i64 2, .int .i64 a, .int .i64 0, .slice none 0 0, .int .i64 0, .int .i64 m], .int .i64 2, .int .i64 0]) ∧ Below w'.heap.size w' w'') :
    Calls Tryd.prog 12 #[.slice (some ⟨b0, off, none⟩) (q + 2) (p + 2)] w fun e w' => ∃ v, e = .returned (.tuple #[v, .int .i64 (2 + (m : Int)), .int .i64 0]) ∧ HdVal w' w'.heap.size v ⟨2, a, 0, [], beFrom 0 Z, m⟩ ∧ Below w.heap.size w w' := by
  have HB := Lib.hid hB
  have B0 := Lib.hid ((Below.refl w.heap.size w).alloc (Nat.le_refl _) (.cells #[.int .i64 0, .int .i64 0, .int .i64 0, .slice none 0 0, .int .i64 0, .int .i64 0] 24))
  have F0 := Lib.hid (heap_alloc_new w (.cells #[.int .i64 0, .int .i64 0, .int .i64 0, .slice none 0 0, .int .i64 0, .int .i64 0] 24))
  clear hB
  have HZB := Lib.hid hZ
  have HZL := Lib.hid hZL
  have HCZ := Lib.hid hCZ
  have HLT := Lib.hid hb
  unfold maxLen at hpm
  have hp0 : ¬ p = 0 := by omega
  clear hZ hZL hCZ hb
  go_enter Tryd.func12, Tryd.ntmps12
  go_wp2_with (go_at_call 22; refine (HB.out _ B0.out).mono ?_; rintro e w1 ⟨rfl, b1⟩; have F1 := Lib.hid ((b1.block _ (lt_of_block F0.out)).trans F0.out); have B1 := Lib.hid (B0.out.trans (b1.mono B0.out.size)); clear b1; have FA := Lib.hid ((Below.heap_alloc w1 (.cells #[.int .i64 2, .int .i64 a, .int .i64 0, .slice none 0 0, .int .i64 0, .int .i64 m] 24) w.heap.size (lt_of_block F1.out)).trans F1.out); have FB := Lib.hid (heap_alloc_new w1 (.cells #[.int .i64 2, .int .i64 a, .int .i64 0, .slice none 0 0, .int .i64 0, .int .i64 m] 24)); have BA := Lib.hid (B1.out.alloc B1.out.size (.cells #[.int .i64 2, .int .i64 a, .int .i64 0, .slice none 0 0, .int .i64 0, .int .i64 m] 24)); have LT := Lib.hid (lt_of_block F1.out); obtain ⟨z0, z1, z2, z3, z4, z5, zf⟩ := bk6 FA.out)
  have DA := Lib.hid (show DecAt w w1.heap.size 2 a 0 0 m (.slice none 0 0) [] _ from ⟨BA.out, FA.out, FB.out, LT.out, BSl.nil _ _, fun j e => by cases e⟩)
  clear z0 z1 z2 z3 z4 z5 zf
  go_loopg [59] m (fun g i wr => ∃ (j : Nat) (y : Int), j + g = m ∧ i = .int .i64 j ∧ Hid (y = beFrom 0 (Z.take j)) ∧ Hid (DecAt w w1.heap.size 2 a 0 y m (.slice none 0 0) [] wr))
  case atStart => exact ⟨0, 0, by omega, rfl, Lib.hid rfl, DA⟩
  case round =>
    obtain ⟨j, y, hj, rfl, HY, DK⟩ := hrel
    obtain ⟨f0, f1, f2, f3, f4, f5, ff⟩ := bk6 DK.out.f
    by_cases hlt : j < m
    · have st := beFrom_step 0 Z j (by rw [HZL.out]; omega)
      have bd := beFrom_bd 0 Z HZB.out (by omega) j (by rw [HZL.out]; omega)
      rw [← HY.out] at st bd
      have hby := HZB.out j
      have hcell := (DK.out.be.cell (p := ⟨b0, off + 2 + j, none⟩) HLT.out).trans (HCZ.out j hlt)
      generalize hx : Z.getD j 0 = x at st hcell hby
      have pw : (256 : Int) ^ j ≤ 16777216 := by
        obtain rfl | rfl | rfl | rfl : j = 0 ∨ j = 1 ∨ j = 2 ∨ j = 3 := by omega
        all_goals decide
      have y0 : 0 ≤ y := bd.1
      have y1 : y ≤ 16777215 := by have := bd.2; omega
      have or' := or_i64 y x y0 (by omega) hby.1 hby.2
      have ST := Lib.hid st
      clear st bd pw hx
      go_wp2
      all_goals
        go_roundg (gk - 1)
        case measure => omega
        case rel => exact ⟨j + 1, y * 256 + x, by omega, by first | rfl | go_num, Lib.hid ST.out.symm, Lib.hid (DK.out.num (y * 256 + x))⟩
    · obtain rfl : j = m := by omega
      obtain ⟨z0, z1, z2, z3, z4, z5, zf⟩ := bk6 DK.out.z
      have hyz : y = beFrom 0 Z := by rw [HY.out, List.take_of_length_le (by rw [HZL.out]; omega)]
      have ne1 := DK.out.ne
      have kk : ∀ v0 v1 v2 v3 v4 v5, ((((((wr.setCell ⟨w.heap.size, 0, none⟩ v0).setCell ⟨w.heap.size, 1, none⟩ v1).setCell ⟨w.heap.size, 2, none⟩ v2).setCell ⟨w.heap.size, 3, none⟩ v3).setCell ⟨w.heap.size, 4, none⟩ v4).setCell ⟨w.heap.size, 5, none⟩ v5).cell? ⟨w1.heap.size, 5, none⟩ = some (.int .i64 j) := fun v0 v1 v2 v3 v4 v5 => by
        obtain ⟨_, _, _, _, _, _, _, g⟩ := bk6_put DK.out.z v0 v1 v2 v3 v4 v5
        exact bk_cell ((g.block w1.heap.size (lt_of_block DK.out.f) (by simp; omega)).trans DK.out.f) 5
      go_wp2
      go_region
      all_goals
        obtain ⟨u0, u1, u2, u3, u4, u5, _, gput⟩ := bk6_put DK.out.z (.int .i64 2) (.int .i64 a) (.int .i64 0) (.slice none 0 0) (.int .i64 (beFrom 0 Z)) (.int .i64 j)
        go_wp2
        refine bodyPost_ret (by simp [results, Tryd.results12, go_sem, u0, u1, u2, u3, u4, u5]; try rfl) rfl ?_
        have X := DK.out.fin _ (gr_drew gput)
        rw [hyz] at X
        exact ⟨_, rfl, X.2, X.1⟩
set_option maxHeartbeats 2000000 in
/-- a long head whose Token is refused -/
theorem hdDec_l_tok_a (b0 off q p : Nat) (k a b m x : Int) (hx : x ≠ 0) (k2 : (k != 2) = true) (hp : ¬ p = 0) (hn : q + 3 ≤ 140737488355328) (hqp : q ≤ p) (hpm : p + 3 ≤ maxLen) (hB : ∀ w', Below w.heap.size w w' → Calls Tryd.prog 22 #[.slice (some ⟨b0, off, none⟩) (q + 3) (p + 3)] w' fun e w'' => e = .returned (.tuple #[.agg #[.int .i64 k, .int .i64 a, .int .i64 b, .slice none 0 0, .int .i64 0, .int .i64 m], .int .i64 3, .int .i64 0]) ∧ Below w'.heap.size w' w'')
    (hT : ∀ w', Below w.heap.size w w' → Calls Tryd.prog 23 #[(.slice (some ⟨b0, off + 3, none⟩) q p)] w' fun e w'' => e = .returned (.tuple #[.slice none 0 0, .int .i64 0, .int .i64 x]) ∧ Below w'.heap.size w' w'') :
    Calls Tryd.prog 12 #[.slice (some ⟨b0, off, none⟩) (q + 3) (p + 3)] w fun e w' => e = .returned (.tuple #[zHd, .int .i64 0, .int .i64 x]) ∧ Below w.heap.size w w' := by
  have g1 : (x == 0) = false := by simp [hx]
  have g2 : (x != 0) = true := by simp [hx]
  have HT := Lib.hid hT
  unfold maxLen at hpm
  clear hT
  have HB := Lib.hid hB
  have B0 := Lib.hid ((Below.refl w.heap.size w).alloc (Nat.le_refl _) (.cells #[.int .i64 0, .int .i64 0, .int .i64 0, .slice none 0 0, .int .i64 0, .int .i64 0] 24))
  have F0 := Lib.hid (heap_alloc_new w (.cells #[.int .i64 0, .int .i64 0, .int .i64 0, .slice none 0 0, .int .i64 0, .int .i64 0] 24))
  clear hB
  go_enter Tryd.func12, Tryd.ntmps12
  go_wp2_with (first
    | (go_at_call 22; refine (HB.out _ B0.out).mono ?_; rintro e w1 ⟨rfl, b1⟩; have F1 := Lib.hid ((b1.block _ (lt_of_block F0.out)).trans F0.out); have B1 := Lib.hid (B0.out.trans (b1.mono B0.out.size)); clear b1; have FA := Lib.hid ((Below.heap_alloc w1 (.cells #[.int .i64 k, .int .i64 a, .int .i64 b, .slice none 0 0, .int .i64 0, .int .i64 m] 24) w.heap.size (lt_of_block F1.out)).trans F1.out); have FB := Lib.hid (heap_alloc_new w1 (.cells #[.int .i64 k, .int .i64 a, .int .i64 b, .slice none 0 0, .int .i64 0, .int .i64 m] 24)); have BA := Lib.hid (B1.out.alloc B1.out.size (.cells #[.int .i64 k, .int .i64 a, .int .i64 b, .slice none 0 0, .int .i64 0, .int .i64 m] 24)); have LT := Lib.hid (lt_of_block F1.out); obtain ⟨z0, z1, z2, z3, z4, z5, zf⟩ := bk6 FA.out)
    | (go_at_call 23; refine (HT.out _ BA.out).mono ?_; rintro e w2 ⟨rfl, b2⟩; have B2 := Lib.hid (BA.out.trans (b2.mono BA.out.size)); have Z2 := Lib.hid ((b2.block _ (lt_of_block FA.out)).trans FA.out); have H2 := Lib.hid ((b2.block _ (lt_of_block FB.out)).trans FB.out); clear z0 z1 z2 z3 z4 z5 zf; have h3 := bk_cell H2.out 3; have h3f := bk_frz H2.out 3; simp only [List.getElem?_toArray, List.getElem?_cons_succ, List.getElem?_cons_zero] at h3; have g3 := gr_set w2 w1.heap.size 3 (.slice none 0 0); have Z3 := Lib.hid ((g3.block _ (lt_of_block Z2.out) (by have := LT.out; simp; omega)).trans Z2.out); have B3 := Lib.hid (gr_from B2.out B2.out.size (Nat.le_of_lt LT.out) g3); clear b2 g3; obtain ⟨z0, z1, z2, z3, z4, z5, zf⟩ := bk6 Z3.out))
  obtain ⟨u0, u1, u2, u3, u4, u5, _, gput⟩ := bk6_put Z3.out (.int .i64 0) (.int .i64 0) (.int .i64 0) (.slice none 0 0) (.int .i64 0) (.int .i64 0)
  refine bodyPost_ret (by simp [results, Tryd.results12, go_sem, u0, u1, u2, u3, u4, u5]; try rfl) rfl ?_
  exact ⟨rfl, gr_from B3.out B3.out.size (Nat.le_refl _) gput⟩
set_option maxHeartbeats 2000000 in
/-- a long head whose Token is refused -/
theorem hdDec_l_tok_b (b0 off q p : Nat) (k a b m x : Int) (hx : x ≠ 0) (k2 : (k != 2) = true) (hn : q + 3 ≤ 140737488355328) (hqp : q ≤ p) (hpm : p + 3 ≤ maxLen) (hB : ∀ w', Below w.heap.size w w' → Calls Tryd.prog 22 #[.slice (some ⟨b0, off, none⟩) 3 3] w' fun e w'' => e = .returned (.tuple #[.agg #[.int .i64 k, .int .i64 a, .int .i64 b, .slice none 0 0, .int .i64 0, .int .i64 m], .int .i64 3, .int .i64 0]) ∧ Below w'.heap.size w' w'')
    (hT : ∀ w', Below w.heap.size w w' → Calls Tryd.prog 23 #[(.slice (some ⟨b0, off, none⟩) 0 0)] w' fun e w'' => e = .returned (.tuple #[.slice none 0 0, .int .i64 0, .int .i64 x]) ∧ Below w'.heap.size w' w'') :
    Calls Tryd.prog 12 #[.slice (some ⟨b0, off, none⟩) 3 3] w fun e w' => e = .returned (.tuple #[zHd, .int .i64 0, .int .i64 x]) ∧ Below w.heap.size w w' := by
  have g1 : (x == 0) = false := by simp [hx]
  have g2 : (x != 0) = true := by simp [hx]
  have HT := Lib.hid hT
  unfold maxLen at hpm
  clear hT
  have HB := Lib.hid hB
  have B0 := Lib.hid ((Below.refl w.heap.size w).alloc (Nat.le_refl _) (.cells #[.int .i64 0, .int .i64 0, .int .i64 0, .slice none 0 0, .int .i64 0, .int .i64 0] 24))
  have F0 := Lib.hid (heap_alloc_new w (.cells #[.int .i64 0, .int .i64 0, .int .i64 0, .slice none 0 0, .int .i64 0, .int .i64 0] 24))
  clear hB
  go_enter Tryd.func12, Tryd.ntmps12
  go_wp2_with (first
    | (go_at_call 22; refine (HB.out _ B0.out).mono ?_; rintro e w1 ⟨rfl, b1⟩; have F1 := Lib.hid ((b1.block _ (lt_of_block F0.out)).trans F0.out); have B1 := Lib.hid (B0.out.trans (b1.mono B0.out.size)); clear b1; have FA := Lib.hid ((Below.heap_alloc w1 (.cells #[.int .i64 k, .int .i64 a, .int .i64 b, .slice none 0 0, .int .i64 0, .int .i64 m] 24) w.heap.size (lt_of_block F1.out)).trans F1.out); have FB := Lib.hid (heap_alloc_new w1 (.cells #[.int .i64 k, .int .i64 a, .int .i64 b, .slice none 0 0, .int .i64 0, .int .i64 m] 24)); have BA := Lib.hid (B1.out.alloc B1.out.size (.cells #[.int .i64 k, .int .i64 a, .int .i64 b, .slice none 0 0, .int .i64 0, .int .i64 m] 24)); have LT := Lib.hid (lt_of_block F1.out); obtain ⟨z0, z1, z2, z3, z4, z5, zf⟩ := bk6 FA.out)
    | (go_at_call 23; refine (HT.out _ BA.out).mono ?_; rintro e w2 ⟨rfl, b2⟩; have B2 := Lib.hid (BA.out.trans (b2.mono BA.out.size)); have Z2 := Lib.hid ((b2.block _ (lt_of_block FA.out)).trans FA.out); have H2 := Lib.hid ((b2.block _ (lt_of_block FB.out)).trans FB.out); clear z0 z1 z2 z3 z4 z5 zf; have h3 := bk_cell H2.out 3; have h3f := bk_frz H2.out 3; simp only [List.getElem?_toArray, List.getElem?_cons_succ, List.getElem?_cons_zero] at h3; have g3 := gr_set w2 w1.heap.size 3 (.slice none 0 0); have Z3 := Lib.hid ((g3.block _ (lt_of_block Z2.out) (by have := LT.out; simp; omega)).trans Z2.out); have B3 := Lib.hid (gr_from B2.out B2.out.size (Nat.le_of_lt LT.out) g3); clear b2 g3; obtain ⟨z0, z1, z2, z3, z4, z5, zf⟩ := bk6 Z3.out))
  obtain ⟨u0, u1, u2, u3, u4, u5, _, gput⟩ := bk6_put Z3.out (.int .i64 0) (.int .i64 0) (.int .i64 0) (.slice none 0 0) (.int .i64 0) (.int .i64 0)
  refine bodyPost_ret (by simp [results, Tryd.results12, go_sem, u0, u1, u2, u3, u4, u5]; try rfl) rfl ?_
  exact ⟨rfl, gr_from B3.out B3.out.size (Nat.le_refl _) gput⟩
set_option maxHeartbeats 2000000 in
/-- a long head whose Number is cut short -/
theorem hdDec_l_few (b0 off q p s m : Nat) (k a b : Int) (tk : List Int) (k2 : (k != 2) = true) (hp : ¬ p = 0) (hn : q + 3 ≤ 140737488355328) (hqp : q ≤ p) (hpm : p + 3 ≤ maxLen) (hs : s ≤ q) (hm4 : m ≤ 4) (hf : q < s + m) (hB : ∀ w', Below w.heap.size w w' → Calls Tryd.prog 22 #[.slice (some ⟨b0, off, none⟩) (q + 3) (p + 3)] w' fun e w'' => e = .returned (.tuple #[.agg #[.int .i64 k, .int .i64 a, .int .i64 b, .slice none 0 0, .int .i64 0, .int .i64 m], .int .i64 3, .int .i64 0]) ∧ Below w'.heap.size w' w'')
    (hT : ∀ w', Below w.heap.size w w' → Calls Tryd.prog 23 #[.slice (some ⟨b0, off + 3, none⟩) q p] w' fun e w'' => ∃ v, e = .returned (.tuple #[v, .int .i64 s, .int .i64 0]) ∧ BSl w'' w''.heap.size v tk ∧ (∀ j, v.ownBlock = some j → w'.heap.size ≤ j) ∧ Below w'.heap.size w' w'') :
    Calls Tryd.prog 12 #[.slice (some ⟨b0, off, none⟩) (q + 3) (p + 3)] w fun e w' => e = .returned (.tuple #[zHd, .int .i64 0, .int .i64 4]) ∧ Below w.heap.size w w' := by
  have HT := Lib.hid hT
  unfold maxLen at hpm
  clear hT
  have HB := Lib.hid hB
  have B0 := Lib.hid ((Below.refl w.heap.size w).alloc (Nat.le_refl _) (.cells #[.int .i64 0, .int .i64 0, .int .i64 0, .slice none 0 0, .int .i64 0, .int .i64 0] 24))
  have F0 := Lib.hid (heap_alloc_new w (.cells #[.int .i64 0, .int .i64 0, .int .i64 0, .slice none 0 0, .int .i64 0, .int .i64 0] 24))
  clear hB
  go_enter Tryd.func12, Tryd.ntmps12
  go_wp2_with (first
    | (go_at_call 22; refine (HB.out _ B0.out).mono ?_; rintro e w1 ⟨rfl, b1⟩; have F1 := Lib.hid ((b1.block _ (lt_of_block F0.out)).trans F0.out); have B1 := Lib.hid (B0.out.trans (b1.mono B0.out.size)); clear b1; have FA := Lib.hid ((Below.heap_alloc w1 (.cells #[.int .i64 k, .int .i64 a, .int .i64 b, .slice none 0 0, .int .i64 0, .int .i64 m] 24) w.heap.size (lt_of_block F1.out)).trans F1.out); have FB := Lib.hid (heap_alloc_new w1 (.cells #[.int .i64 k, .int .i64 a, .int .i64 b, .slice none 0 0, .int .i64 0, .int .i64 m] 24)); have BA := Lib.hid (B1.out.alloc B1.out.size (.cells #[.int .i64 k, .int .i64 a, .int .i64 b, .slice none 0 0, .int .i64 0, .int .i64 m] 24)); have LT := Lib.hid (lt_of_block F1.out); obtain ⟨z0, z1, z2, z3, z4, z5, zf⟩ := bk6 FA.out)
    | (go_at_call 23; refine (HT.out _ BA.out).mono ?_; rintro e w2 ⟨vt, rfl, hvt, hvo, b2⟩; obtain ⟨At, ct, rfl, _, _, _, _⟩ := id hvt.ex; have B2 := Lib.hid (BA.out.trans (b2.mono BA.out.size)); have Z2 := Lib.hid ((b2.block _ (lt_of_block FA.out)).trans FA.out); have H2 := Lib.hid ((b2.block _ (lt_of_block FB.out)).trans FB.out); clear z0 z1 z2 z3 z4 z5 zf; have h3 := bk_cell H2.out 3; have h3f := bk_frz H2.out 3; simp only [List.getElem?_toArray, List.getElem?_cons_succ, List.getElem?_cons_zero] at h3; have LB := BA.out.size; have D2 := Lib.hid (show DecAt w w1.heap.size k a b 0 m (.slice At tk.length ct) tk (w2.setCell ⟨w1.heap.size, 3, none⟩ (.slice At tk.length ct)) from ⟨gr_from B2.out B2.out.size (Nat.le_of_lt LT.out) (gr_set w2 w1.heap.size 3 (.slice At tk.length ct)), ((gr_set w2 w1.heap.size 3 (.slice At tk.length ct)).block _ (lt_of_block Z2.out) (by have := LT.out; simp; omega)).trans Z2.out, by simpa using bk_set H2.out 3 (.slice At tk.length ct), LT.out, bsl_gr hvt (fun e => by have := hvo _ e; simp at this; omega) (gr_set w2 w1.heap.size 3 (.slice At tk.length ct)), fun j e => by have := hvo _ e; simp at this; omega⟩); clear b2 hvt hvo; obtain ⟨z0, z1, z2, z3, z4, z5, zf⟩ := bk6 D2.out.z; obtain ⟨f0, f1, f2, f3, f4, f5, ff⟩ := bk6 D2.out.f))
  obtain ⟨u0, u1, u2, u3, u4, u5, _, gput⟩ := bk6_put D2.out.z (.int .i64 0) (.int .i64 0) (.int .i64 0) (.slice none 0 0) (.int .i64 0) (.int .i64 0)
  refine bodyPost_ret (by simp [results, Tryd.results12, go_sem, u0, u1, u2, u3, u4, u5]; try rfl) rfl ?_
  exact ⟨rfl, gr_from D2.out.be D2.out.be.size (Nat.le_refl _) gput⟩
set_option maxRecDepth 100000 in
set_option maxHeartbeats 6000000 in
/-- a long head, read -/
theorem hdDec_l_yes (b0 off q p s m : Nat) (k a b : Int) (tk Z : List Int) (k2 : (k != 2) = true) (hp : ¬ p = 0) (hb : b0 < w.heap.size) (hZ : Byt Z) (hZL : Z.length = m) (hCZ : ∀ j, j < m → w.cell? ⟨b0, off + (3 + s) + j, none⟩ = some (.int .u8 (Z.getD j 0))) (hn : q + 3 ≤ 140737488355328) (hqp : q ≤ p) (hpm : p + 3 ≤ maxLen) (hm : m ≤ 4) (hf : s + m ≤ q) (hB : ∀ w', Below w.heap.size w w' → Calls Tryd.prog 22 #[.slice (some ⟨b0, off, none⟩) (q + 3) (p + 3)] w' fun e w'' => e = .returned (.tuple #[.agg #[.int .i64 k, .int .i64 a, .int .i64 b, .slice none 0 0, .int .i64 0, .int .i64 m], .int .i64 3, .int .i64 0]) ∧ Below w'.heap.size w' w'')
    (hT : ∀ w', Below w.heap.size w w' → Calls Tryd.prog 23 #[.slice (some ⟨b0, off + 3, none⟩) q p] w' fun e w'' => ∃ v, e = .returned (.tuple #[v, .int .i64 s, .int .i64 0]) ∧ BSl w'' w''.heap.size v tk ∧ (∀ j, v.ownBlock = some j → w'.heap.size ≤ j) ∧ Below w'.heap.size w' w'') :
    Calls Tryd.prog 12 #[.slice (some ⟨b0, off, none⟩) (q + 3) (p + 3)] w fun e w' => ∃ v, e = .returned (.tuple #[v, .int .i64 (3 + (s : Int) + (m : Int)), .int .i64 0]) ∧ HdVal w' w'.heap.size v ⟨k, a, b, tk, beFrom 0 Z, m⟩ ∧ Below w.heap.size w w' := by
  have HT := Lib.hid hT
  have HZB := Lib.hid hZ
  have HZL := Lib.hid hZL
  have HCZ := Lib.hid hCZ
  have HLT := Lib.hid hb
  unfold maxLen at hpm
  clear hT hZ hZL hCZ hb
  have HB := Lib.hid hB
  have B0 := Lib.hid ((Below.refl w.heap.size w).alloc (Nat.le_refl _) (.cells #[.int .i64 0, .int .i64 0, .int .i64 0, .slice none 0 0, .int .i64 0, .int .i64 0] 24))
  have F0 := Lib.hid (heap_alloc_new w (.cells #[.int .i64 0, .int .i64 0, .int .i64 0, .slice none 0 0, .int .i64 0, .int .i64 0] 24))
  clear hB
  go_enter Tryd.func12, Tryd.ntmps12
  go_wp2_with (first
    | (go_at_call 22; refine (HB.out _ B0.out).mono ?_; rintro e w1 ⟨rfl, b1⟩; have F1 := Lib.hid ((b1.block _ (lt_of_block F0.out)).trans F0.out); have B1 := Lib.hid (B0.out.trans (b1.mono B0.out.size)); clear b1; have FA := Lib.hid ((Below.heap_alloc w1 (.cells #[.int .i64 k, .int .i64 a, .int .i64 b, .slice none 0 0, .int .i64 0, .int .i64 m] 24) w.heap.size (lt_of_block F1.out)).trans F1.out); have FB := Lib.hid (heap_alloc_new w1 (.cells #[.int .i64 k, .int .i64 a, .int .i64 b, .slice none 0 0, .int .i64 0, .int .i64 m] 24)); have BA := Lib.hid (B1.out.alloc B1.out.size (.cells #[.int .i64 k, .int .i64 a, .int .i64 b, .slice none 0 0, .int .i64 0, .int .i64 m] 24)); have LT := Lib.hid (lt_of_block F1.out); obtain ⟨z0, z1, z2, z3, z4, z5, zf⟩ := bk6 FA.out)
    | (go_at_call 23; refine (HT.out _ BA.out).mono ?_; rintro e w2 ⟨vt, rfl, hvt, hvo, b2⟩; obtain ⟨At, ct, rfl, _, _, _, _⟩ := id hvt.ex; have B2 := Lib.hid (BA.out.trans (b2.mono BA.out.size)); have Z2 := Lib.hid ((b2.block _ (lt_of_block FA.out)).trans FA.out); have H2 := Lib.hid ((b2.block _ (lt_of_block FB.out)).trans FB.out); clear z0 z1 z2 z3 z4 z5 zf; have h3 := bk_cell H2.out 3; have h3f := bk_frz H2.out 3; simp only [List.getElem?_toArray, List.getElem?_cons_succ, List.getElem?_cons_zero] at h3; have LB := BA.out.size; have D2 := Lib.hid (show DecAt w w1.heap.size k a b 0 m (.slice At tk.length ct) tk (w2.setCell ⟨w1.heap.size, 3, none⟩ (.slice At tk.length ct)) from ⟨gr_from B2.out B2.out.size (Nat.le_of_lt LT.out) (gr_set w2 w1.heap.size 3 (.slice At tk.length ct)), ((gr_set w2 w1.heap.size 3 (.slice At tk.length ct)).block _ (lt_of_block Z2.out) (by have := LT.out; simp; omega)).trans Z2.out, by simpa using bk_set H2.out 3 (.slice At tk.length ct), LT.out, bsl_gr hvt (fun e => by have := hvo _ e; simp at this; omega) (gr_set w2 w1.heap.size 3 (.slice At tk.length ct)), fun j e => by have := hvo _ e; simp at this; omega⟩); clear b2 hvt hvo; obtain ⟨z0, z1, z2, z3, z4, z5, zf⟩ := bk6 D2.out.z; obtain ⟨f0, f1, f2, f3, f4, f5, ff⟩ := bk6 D2.out.f))
  all_goals
    have DA := D2
    clear z0 z1 z2 z3 z4 z5 zf f0 f1 f2 f3 f4 f5 ff D2
    go_loopg [59] m (fun g i wr => ∃ (j : Nat) (y : Int), j + g = m ∧ i = .int .i64 j ∧ Hid (y = beFrom 0 (Z.take j)) ∧ Hid (DecAt w w1.heap.size k a b y m (.slice At tk.length ct) tk wr))
    case atStart => exact ⟨0, 0, by omega, rfl, Lib.hid rfl, DA⟩
    case round =>
      obtain ⟨j, y, hj, rfl, HY, DK⟩ := hrel
      obtain ⟨f0, f1, f2, f3, f4, f5, ff⟩ := bk6 DK.out.f
      by_cases hlt : j < m
      · have st := beFrom_step 0 Z j (by rw [HZL.out]; omega)
        have bd := beFrom_bd 0 Z HZB.out (by omega) j (by rw [HZL.out]; omega)
        rw [← HY.out] at st bd
        have hby := HZB.out j
        have hcell := (DK.out.be.cell (p := ⟨b0, off + (3 + s) + j, none⟩) HLT.out).trans (HCZ.out j hlt)
        generalize hx : Z.getD j 0 = x at st hcell hby
        have pw : (256 : Int) ^ j ≤ 16777216 := by
          obtain rfl | rfl | rfl | rfl : j = 0 ∨ j = 1 ∨ j = 2 ∨ j = 3 := by omega
          all_goals decide
        have y0 : 0 ≤ y := bd.1
        have y1 : y ≤ 16777215 := by have := bd.2; omega
        have or' := or_i64 y x y0 (by omega) hby.1 hby.2
        have ST := Lib.hid st
        clear st bd pw hx
        go_wp2
        all_goals
          go_roundg (gk - 1)
          case measure => omega
          case rel => exact ⟨j + 1, y * 256 + x, by omega, by first | rfl | go_num, Lib.hid ST.out.symm, Lib.hid (DK.out.num (y * 256 + x))⟩
      · obtain rfl : j = m := by omega
        obtain ⟨z0, z1, z2, z3, z4, z5, zf⟩ := bk6 DK.out.z
        have hyz : y = beFrom 0 Z := by rw [HY.out, List.take_of_length_le (by rw [HZL.out]; omega)]
        have ne1 := DK.out.ne
        have kk : ∀ v0 v1 v2 v3 v4 v5, ((((((wr.setCell ⟨w.heap.size, 0, none⟩ v0).setCell ⟨w.heap.size, 1, none⟩ v1).setCell ⟨w.heap.size, 2, none⟩ v2).setCell ⟨w.heap.size, 3, none⟩ v3).setCell ⟨w.heap.size, 4, none⟩ v4).setCell ⟨w.heap.size, 5, none⟩ v5).cell? ⟨w1.heap.size, 5, none⟩ = some (.int .i64 j) := fun v0 v1 v2 v3 v4 v5 => by
          obtain ⟨_, _, _, _, _, _, _, g⟩ := bk6_put DK.out.z v0 v1 v2 v3 v4 v5
          exact bk_cell ((g.block w1.heap.size (lt_of_block DK.out.f) (by simp; omega)).trans DK.out.f) 5
        go_wp2
        go_region
        all_goals
          obtain ⟨u0, u1, u2, u3, u4, u5, _, gput⟩ := bk6_put DK.out.z (.int .i64 k) (.int .i64 a) (.int .i64 b) (.slice At tk.length ct) (.int .i64 (beFrom 0 Z)) (.int .i64 j)
          go_wp2
          refine bodyPost_ret (by simp [results, Tryd.results12, go_sem, u0, u1, u2, u3, u4, u5]; try rfl) rfl ?_
          have X := DK.out.fin _ (gr_drew gput)
          rw [hyz] at X
          exact ⟨_, rfl, X.2, X.1⟩
end
end Go.Proofs.YtaccedlpnngdhaaDoor
