/- Contract of package head: begun. -/
import Derived.Test.YtaccedlpnngdhaaDoorHdTold
namespace Go.Proofs.YtaccedlpnngdhaaDoor
set_option linter.unusedVariables false
open Go.RowKit P

def zHd : Value := .agg #[.int .i64 0, .int .i64 0, .int .i64 0, .slice none 0 0, .int .i64 0, .int .i64 0]
section
variable {b off n c : Nat} {zs : List Int} {w : World}
theorem begun_nil (A : Option Addr) (c : Nat) (w : World) :
    Calls Tryd.prog 22 #[.slice A 0 c] w fun e w' => e = .returned (.tuple #[zHd, .int .i64 0, .int .i64 4]) ∧ Below w.heap.size w w' := by
  go_enter Tryd.func22, Tryd.ntmps22
  go_wp2
  refine bodyPost_ret (by simp [results, Tryd.results22, go_sem]; try rfl) rfl ?_
  exact ⟨rfl, (Below.refl w.heap.size w).alloc (Nat.le_refl _) _⟩
set_option maxHeartbeats 1000000 in
theorem begun_no (z : Int) (h0 : 0 ≤ z) (h1 : z ≤ 255) (hk : kindH z = none) (hb : b < w.heap.size) (hc : w.cell? ⟨b, off, none⟩ = some (.int .u8 z)) (hn : 0 < n) (hm : n ≤ 140737488355328) :
    Calls Tryd.prog 22 #[.slice (some ⟨b, off, none⟩) n c] w fun e w' => e = .returned (.tuple #[zHd, .int .i64 0, .int .i64 2]) ∧ Below w.heap.size w w' := by
  have hn' : ((n : Int) == 0) = false := by simp; omega
  have B0 := Lib.hid ((Below.refl w.heap.size w).alloc (Nat.le_refl _) (.cells #[.int .i64 0, .int .i64 0, .int .i64 0, .slice none 0 0, .int .i64 0, .int .i64 0] 24))
  have F0 := Lib.hid (heap_alloc_new w (.cells #[.int .i64 0, .int .i64 0, .int .i64 0, .slice none 0 0, .int .i64 0, .int .i64 0] 24))
  have c0 := (B0.out.cell (p := ⟨b, off, none⟩) hb).trans hc
  go_enter Tryd.func22, Tryd.ntmps22
  go_wp2_with (go_at_call 29; refine (told_no z h0 h1 hk _).mono ?_; rintro e w1 ⟨rfl, b1⟩; have F1 := Lib.hid ((b1.block _ (lt_of_block F0.out)).trans F0.out); have B1 := Lib.hid (B0.out.trans (b1.mono B0.out.size)); clear b1; unfold tHd; have FA := Lib.hid ((Below.heap_alloc w1 (.cells #[.int .i64 0, .int .i64 0, .int .i64 0, .slice none 0 0, .int .i64 0, .int .i64 0] 24) w.heap.size (lt_of_block F1.out)).trans F1.out); have BA := Lib.hid (B1.out.alloc B1.out.size (.cells #[.int .i64 0, .int .i64 0, .int .i64 0, .slice none 0 0, .int .i64 0, .int .i64 0] 24)); obtain ⟨z0, z1, z2, z3, z4, z5, zf⟩ := bk6 FA.out)
  obtain ⟨u0, u1, u2, u3, u4, u5, _, gput⟩ := bk6_put FA.out (.int .i64 0) (.int .i64 0) (.int .i64 0) (.slice none 0 0) (.int .i64 0) (.int .i64 0)
  refine bodyPost_ret (by simp [results, Tryd.results22, go_sem, u0, u1, u2, u3, u4, u5]; try rfl) rfl ?_
  exact ⟨rfl, gr_from BA.out BA.out.size (Nat.le_refl _) gput⟩
set_option maxHeartbeats 1000000 in
theorem begun_short (z k m : Int) (h0 : 0 ≤ z) (h1 : z ≤ 255) (hk : kindH z = some (k, m)) (hb : b < w.heap.size) (hc : w.cell? ⟨b, off, none⟩ = some (.int .u8 z)) (hn : 0 < n) (hm : n ≤ 140737488355328) (hs : n < 2 ∨ k ≠ 2 ∧ n < 3) :
    Calls Tryd.prog 22 #[.slice (some ⟨b, off, none⟩) n c] w fun e w' => e = .returned (.tuple #[zHd, .int .i64 0, .int .i64 4]) ∧ Below w.heap.size w w' := by
  have hn' : ((n : Int) == 0) = false := by simp; omega
  have B0 := Lib.hid ((Below.refl w.heap.size w).alloc (Nat.le_refl _) (.cells #[.int .i64 0, .int .i64 0, .int .i64 0, .slice none 0 0, .int .i64 0, .int .i64 0] 24))
  have F0 := Lib.hid (heap_alloc_new w (.cells #[.int .i64 0, .int .i64 0, .int .i64 0, .slice none 0 0, .int .i64 0, .int .i64 0] 24))
  have c0 := (B0.out.cell (p := ⟨b, off, none⟩) hb).trans hc
  by_cases a : n < 2
  · go_enter Tryd.func22, Tryd.ntmps22
    go_wp2_with (go_at_call 29; refine (told_yes z k m hk _).mono ?_; rintro e w1 ⟨rfl, b1⟩; have F1 := Lib.hid ((b1.block _ (lt_of_block F0.out)).trans F0.out); have B1 := Lib.hid (B0.out.trans (b1.mono B0.out.size)); clear b1; unfold tHd; have FA := Lib.hid ((Below.heap_alloc w1 (.cells #[.int .i64 k, .int .i64 0, .int .i64 0, .slice none 0 0, .int .i64 0, .int .i64 m] 24) w.heap.size (lt_of_block F1.out)).trans F1.out); have BA := Lib.hid (B1.out.alloc B1.out.size (.cells #[.int .i64 k, .int .i64 0, .int .i64 0, .slice none 0 0, .int .i64 0, .int .i64 m] 24)); obtain ⟨z0, z1, z2, z3, z4, z5, zf⟩ := bk6 FA.out)
    obtain ⟨u0, u1, u2, u3, u4, u5, _, gput⟩ := bk6_put FA.out (.int .i64 0) (.int .i64 0) (.int .i64 0) (.slice none 0 0) (.int .i64 0) (.int .i64 0)
    refine bodyPost_ret (by simp [results, Tryd.results22, go_sem, u0, u1, u2, u3, u4, u5]; try rfl) rfl ?_
    exact ⟨rfl, gr_from BA.out BA.out.size (Nat.le_refl _) gput⟩
  · have g2 : (k != 2) = true := by simp; omega
    have a' : n = 2 := by omega
    subst a'
    go_enter Tryd.func22, Tryd.ntmps22
    go_wp2_with (go_at_call 29; refine (told_yes z k m hk _).mono ?_; rintro e w1 ⟨rfl, b1⟩; have F1 := Lib.hid ((b1.block _ (lt_of_block F0.out)).trans F0.out); have B1 := Lib.hid (B0.out.trans (b1.mono B0.out.size)); clear b1; unfold tHd; have FA := Lib.hid ((Below.heap_alloc w1 (.cells #[.int .i64 k, .int .i64 0, .int .i64 0, .slice none 0 0, .int .i64 0, .int .i64 m] 24) w.heap.size (lt_of_block F1.out)).trans F1.out); have BA := Lib.hid (B1.out.alloc B1.out.size (.cells #[.int .i64 k, .int .i64 0, .int .i64 0, .slice none 0 0, .int .i64 0, .int .i64 m] 24)); obtain ⟨z0, z1, z2, z3, z4, z5, zf⟩ := bk6 FA.out)
    obtain ⟨u0, u1, u2, u3, u4, u5, _, gput⟩ := bk6_put FA.out (.int .i64 0) (.int .i64 0) (.int .i64 0) (.slice none 0 0) (.int .i64 0) (.int .i64 0)
    refine bodyPost_ret (by simp [results, Tryd.results22, go_sem, u0, u1, u2, u3, u4, u5]; try rfl) rfl ?_
    exact ⟨rfl, gr_from BA.out BA.out.size (Nat.le_refl _) gput⟩
set_option maxHeartbeats 1000000 in
theorem begun_2 (z m x : Int) (h0 : 0 ≤ z) (h1 : z ≤ 255) (hk : kindH z = some (2, m)) (hb : b < w.heap.size) (hc : w.cell? ⟨b, off, none⟩ = some (.int .u8 z)) (hc1 : w.cell? ⟨b, off + 1, none⟩ = some (.int .u8 x)) (hx : 0 ≤ x ∧ x ≤ 255) (hn : 2 ≤ n) (hm : n ≤ 140737488355328) :
    Calls Tryd.prog 22 #[.slice (some ⟨b, off, none⟩) n c] w fun e w' => e = .returned (.tuple #[.agg #[.int .i64 2, .int .i64 x, .int .i64 0, .slice none 0 0, .int .i64 0, .int .i64 m], .int .i64 2, .int .i64 0]) ∧ Below w.heap.size w w' := by
  have hn' : ((n : Int) == 0) = false := by simp; omega
  have hwx : IntKind.i64.wrap x = x := by rw [IntKind.wrap_i64]; omega
  have B0 := Lib.hid ((Below.refl w.heap.size w).alloc (Nat.le_refl _) (.cells #[.int .i64 0, .int .i64 0, .int .i64 0, .slice none 0 0, .int .i64 0, .int .i64 0] 24))
  have F0 := Lib.hid (heap_alloc_new w (.cells #[.int .i64 0, .int .i64 0, .int .i64 0, .slice none 0 0, .int .i64 0, .int .i64 0] 24))
  have c0 := (B0.out.cell (p := ⟨b, off, none⟩) hb).trans hc
  go_enter Tryd.func22, Tryd.ntmps22
  go_wp2_with (go_at_call 29; refine (told_yes z 2 m hk _).mono ?_; rintro e w1 ⟨rfl, b1⟩; have F1 := Lib.hid ((b1.block _ (lt_of_block F0.out)).trans F0.out); have B1 := Lib.hid (B0.out.trans (b1.mono B0.out.size)); clear b1; unfold tHd; have FA := Lib.hid ((Below.heap_alloc w1 (.cells #[.int .i64 2, .int .i64 x, .int .i64 0, .slice none 0 0, .int .i64 0, .int .i64 m] 24) w.heap.size (lt_of_block F1.out)).trans F1.out); have BA := Lib.hid (B1.out.alloc B1.out.size (.cells #[.int .i64 2, .int .i64 0, .int .i64 0, .slice none 0 0, .int .i64 0, .int .i64 m] 24)); have BX := Lib.hid (B1.out.alloc B1.out.size (.cells #[.int .i64 2, .int .i64 x, .int .i64 0, .slice none 0 0, .int .i64 0, .int .i64 m] 24)); obtain ⟨z0, z1, z2, z3, z4, z5, zf⟩ := bk6 FA.out; have c1 := (BA.out.cell (p := ⟨b, off + 1, none⟩) hb).trans hc1)
  obtain ⟨u0, u1, u2, u3, u4, u5, _, gput⟩ := bk6_put FA.out (.int .i64 2) (.int .i64 x) (.int .i64 0) (.slice none 0 0) (.int .i64 0) (.int .i64 m)
  refine bodyPost_ret (by simp [results, Tryd.results22, go_sem, u0, u1, u2, u3, u4, u5]; try rfl) rfl ?_
  exact ⟨rfl, gr_from BX.out BX.out.size (Nat.le_refl _) gput⟩
set_option maxHeartbeats 1000000 in
theorem begun_3 (z k m x y : Int) (h0 : 0 ≤ z) (h1 : z ≤ 255) (hk : kindH z = some (k, m)) (k2 : k ≠ 2) (hb : b < w.heap.size) (hc : w.cell? ⟨b, off, none⟩ = some (.int .u8 z)) (hc1 : w.cell? ⟨b, off + 1, none⟩ = some (.int .u8 x)) (hc2 : w.cell? ⟨b, off + 2, none⟩ = some (.int .u8 y)) (hx : 0 ≤ x ∧ x ≤ 255) (hy : 0 ≤ y ∧ y ≤ 255) (hn : 3 ≤ n) (hm : n ≤ 140737488355328) :
    Calls Tryd.prog 22 #[.slice (some ⟨b, off, none⟩) n c] w fun e w' => e = .returned (.tuple #[.agg #[.int .i64 k, .int .i64 x, .int .i64 y, .slice none 0 0, .int .i64 0, .int .i64 m], .int .i64 3, .int .i64 0]) ∧ Below w.heap.size w w' := by
  have hn' : ((n : Int) == 0) = false := by simp; omega
  have hn2 : decide ((n : Int) < 2) = false := by simp; omega
  have hn3 : decide ((n : Int) < 3) = false := by simp; omega
  have g1 : (k != 2) = true := by simp [k2]
  have g2 : (k == 2) = false := by simp [k2]
  have hwx : IntKind.i64.wrap x = x := by rw [IntKind.wrap_i64]; omega
  have hwy : IntKind.i64.wrap y = y := by rw [IntKind.wrap_i64]; omega
  have B0 := Lib.hid ((Below.refl w.heap.size w).alloc (Nat.le_refl _) (.cells #[.int .i64 0, .int .i64 0, .int .i64 0, .slice none 0 0, .int .i64 0, .int .i64 0] 24))
  have F0 := Lib.hid (heap_alloc_new w (.cells #[.int .i64 0, .int .i64 0, .int .i64 0, .slice none 0 0, .int .i64 0, .int .i64 0] 24))
  have c0 := (B0.out.cell (p := ⟨b, off, none⟩) hb).trans hc
  go_enter Tryd.func22, Tryd.ntmps22
  go_wp2_with (go_at_call 29; refine (told_yes z k m hk _).mono ?_; rintro e w1 ⟨rfl, b1⟩; have F1 := Lib.hid ((b1.block _ (lt_of_block F0.out)).trans F0.out); have B1 := Lib.hid (B0.out.trans (b1.mono B0.out.size)); clear b1; unfold tHd; have FA := Lib.hid ((Below.heap_alloc w1 (.cells #[.int .i64 k, .int .i64 x, .int .i64 y, .slice none 0 0, .int .i64 0, .int .i64 m] 24) w.heap.size (lt_of_block F1.out)).trans F1.out); have BA := Lib.hid (B1.out.alloc B1.out.size (.cells #[.int .i64 k, .int .i64 0, .int .i64 0, .slice none 0 0, .int .i64 0, .int .i64 m] 24)); have BX := Lib.hid (B1.out.alloc B1.out.size (.cells #[.int .i64 k, .int .i64 x, .int .i64 0, .slice none 0 0, .int .i64 0, .int .i64 m] 24)); have BY := Lib.hid (B1.out.alloc B1.out.size (.cells #[.int .i64 k, .int .i64 x, .int .i64 y, .slice none 0 0, .int .i64 0, .int .i64 m] 24)); obtain ⟨z0, z1, z2, z3, z4, z5, zf⟩ := bk6 FA.out; have c1 := (BA.out.cell (p := ⟨b, off + 1, none⟩) hb).trans hc1; have c2 := (BX.out.cell (p := ⟨b, off + 2, none⟩) hb).trans hc2)
  obtain ⟨u0, u1, u2, u3, u4, u5, _, gput⟩ := bk6_put FA.out (.int .i64 k) (.int .i64 x) (.int .i64 y) (.slice none 0 0) (.int .i64 0) (.int .i64 m)
  refine bodyPost_ret (by simp [results, Tryd.results22, go_sem, u0, u1, u2, u3, u4, u5]; try rfl) rfl ?_
  exact ⟨rfl, gr_from BY.out BY.out.size (Nat.le_refl _) gput⟩
end
end Go.Proofs.YtaccedlpnngdhaaDoor
