/- Contract of package head: Check. -/
import Derived.Test.YtaccedlpnngdhaaDoorHdHeld
namespace Go.Proofs.YtaccedlpnngdhaaDoor
set_option linter.unusedVariables false
open Go.RowKit P

/-- whether a byte can hold it -/
def byB (n : Int) : Bool := decide (0 ≤ n) && decide (n ≤ 255)
theorem heldC_byte (n : Int) (k : Nat) (w : World) (h : w.cell? ⟨k, 0, none⟩ = some (.int .i64 255)) :
    Calls Tryd.prog 24 #[.int .i64 n, .pointer (some ⟨k, 0, none⟩)] w fun e w' => e = .returned (.bool (byB n)) ∧ w = w' := heldC_any n 255 k w h
theorem numbered_b (kd to fr num size : Int) (d : Value) (b : Bool) (hb : (decide (1 ≤ size ∧ size ≤ 4) && (decide (0 ≤ num) && decide (num ≤ winOf size - 1))) = b) (w : World) :
    Calls Tryd.prog 16 #[.agg #[.int .i64 kd, .int .i64 to, .int .i64 fr, d, .int .i64 num, .int .i64 size]] w fun e w' => e = .returned (.bool b) ∧ Below w.heap.size w w' := hb ▸ numbered_any kd to fr num size d w

theorem twoBk (w : World) (a b : Array Value) (T1 T2 : TypeId) : ((w.alloc (.cells a T1)).alloc (.cells b T2)).heap[w.heap.size]? = some (.cells a T1 (0, 0)) ∧ ((w.alloc (.cells a T1)).alloc (.cells b T2)).heap[w.heap.size + 1]? = some (.cells b T2 (0, 0)) := by
  have s1 : (w.alloc (.cells a T1)).heap.size = w.heap.size + 1 := by simp
  have h2 := heap_alloc_new (w.alloc (.cells a T1)) (.cells b T2)
  rw [s1] at h2
  exact ⟨(Below.heap_alloc _ _ _ (by rw [s1]; omega)).trans (heap_alloc_new w _), h2⟩

section
variable {kd to fr num size : Int} {A : Option Addr} {n c : Nat} {w : World}
set_option maxRecDepth 100000 in
set_option maxHeartbeats 1000000 in
theorem hdChk_kind (a0 : (kd != 0) = true) (a1 : (kd != 1) = true) (a2 : (kd != 2) = true) :
    Calls Tryd.prog 6 #[.agg #[.int .i64 kd, .int .i64 to, .int .i64 fr, .slice A n c, .int .i64 num, .int .i64 size]] w fun e w' => e = .returned (.int .i64 2) ∧ Below w.heap.size w w' := by
  have B0 := Lib.hid ((Below.refl w.heap.size w).alloc (Nat.le_refl _) (.cells #[.int .i64 kd, .int .i64 to, .int .i64 fr, .slice A n c, .int .i64 num, .int .i64 size] 24))
  go_enter Tryd.func6, Tryd.ntmps6
  go_wp2_with (first
    | (go_at_call 15; refine (heldBy_any 1 255 (by decide) (by decide) (by decide) _).mono ?_; rintro e w1 ⟨rfl, rfl⟩; have B1 := Lib.hid (B0.out.alloc (by simp) (.cells #[.int .i64 255] 3)); obtain ⟨k1, k2⟩ := twoBk w #[.int .i64 kd, .int .i64 to, .int .i64 fr, .slice A n c, .int .i64 num, .int .i64 size] #[.int .i64 255] 24 3; have F := Lib.hid k1; obtain ⟨q0, q1, q2, q3, q4, q5, _⟩ := bk6 k1; have m0 := bk_cell k2 0; simp only [List.getElem?_toArray, List.getElem?_cons_zero] at m0; clear k1 k2))
  go_ret
  exact ⟨rfl, B1.out⟩
set_option maxRecDepth 100000 in
set_option maxHeartbeats 1000000 in
theorem hdChk_len0 (a0 : (kd != 0) = false) (a1 : (kd != 1) = true) (a2 : (kd != 2) = true) (b1 : (kd == 1) = false) (b2 : (kd == 2) = false) (l : 120 < n) :
    Calls Tryd.prog 6 #[.agg #[.int .i64 kd, .int .i64 to, .int .i64 fr, .slice A n c, .int .i64 num, .int .i64 size]] w fun e w' => e = .returned (.int .i64 1) ∧ Below w.heap.size w w' := by
  have B0 := Lib.hid ((Below.refl w.heap.size w).alloc (Nat.le_refl _) (.cells #[.int .i64 kd, .int .i64 to, .int .i64 fr, .slice A n c, .int .i64 num, .int .i64 size] 24))
  go_enter Tryd.func6, Tryd.ntmps6
  go_wp2_with (first
    | (go_at_call 15; refine (heldBy_any 1 255 (by decide) (by decide) (by decide) _).mono ?_; rintro e w1 ⟨rfl, rfl⟩; have B1 := Lib.hid (B0.out.alloc (by simp) (.cells #[.int .i64 255] 3)); obtain ⟨k1, k2⟩ := twoBk w #[.int .i64 kd, .int .i64 to, .int .i64 fr, .slice A n c, .int .i64 num, .int .i64 size] #[.int .i64 255] 24 3; have F := Lib.hid k1; obtain ⟨q0, q1, q2, q3, q4, q5, _⟩ := bk6 k1; have m0 := bk_cell k2 0; simp only [List.getElem?_toArray, List.getElem?_cons_zero] at m0; clear k1 k2))
  go_ret
  exact ⟨rfl, B1.out⟩
set_option maxRecDepth 100000 in
set_option maxHeartbeats 1000000 in
theorem hdChk_to0 (a0 : (kd != 0) = false) (a1 : (kd != 1) = true) (a2 : (kd != 2) = true) (b1 : (kd == 1) = false) (b2 : (kd == 2) = false) (l : n ≤ 120) (t1 : byB to = false) :
    Calls Tryd.prog 6 #[.agg #[.int .i64 kd, .int .i64 to, .int .i64 fr, .slice A n c, .int .i64 num, .int .i64 size]] w fun e w' => e = .returned (.int .i64 6) ∧ Below w.heap.size w w' := by
  have B0 := Lib.hid ((Below.refl w.heap.size w).alloc (Nat.le_refl _) (.cells #[.int .i64 kd, .int .i64 to, .int .i64 fr, .slice A n c, .int .i64 num, .int .i64 size] 24))
  go_enter Tryd.func6, Tryd.ntmps6
  go_wp2_with (first
    | (go_at_call 15; refine (heldBy_any 1 255 (by decide) (by decide) (by decide) _).mono ?_; rintro e w1 ⟨rfl, rfl⟩; have B1 := Lib.hid (B0.out.alloc (by simp) (.cells #[.int .i64 255] 3)); obtain ⟨k1, k2⟩ := twoBk w #[.int .i64 kd, .int .i64 to, .int .i64 fr, .slice A n c, .int .i64 num, .int .i64 size] #[.int .i64 255] 24 3; have F := Lib.hid k1; obtain ⟨q0, q1, q2, q3, q4, q5, _⟩ := bk6 k1; have m0 := bk_cell k2 0; simp only [List.getElem?_toArray, List.getElem?_cons_zero] at m0; clear k1 k2)
    | (go_at_call 24; refine (heldC_byte _ _ _ m0).mono ?_; rintro e w' ⟨rfl, rfl⟩))
  go_ret
  exact ⟨rfl, B1.out⟩
set_option maxRecDepth 100000 in
set_option maxHeartbeats 1000000 in
theorem hdChk_fr0 (a0 : (kd != 0) = false) (a1 : (kd != 1) = true) (a2 : (kd != 2) = true) (b1 : (kd == 1) = false) (b2 : (kd == 2) = false) (l : n ≤ 120) (t1 : byB to = true) (f1 : byB fr = false) :
    Calls Tryd.prog 6 #[.agg #[.int .i64 kd, .int .i64 to, .int .i64 fr, .slice A n c, .int .i64 num, .int .i64 size]] w fun e w' => e = .returned (.int .i64 6) ∧ Below w.heap.size w w' := by
  have B0 := Lib.hid ((Below.refl w.heap.size w).alloc (Nat.le_refl _) (.cells #[.int .i64 kd, .int .i64 to, .int .i64 fr, .slice A n c, .int .i64 num, .int .i64 size] 24))
  go_enter Tryd.func6, Tryd.ntmps6
  go_wp2_with (first
    | (go_at_call 15; refine (heldBy_any 1 255 (by decide) (by decide) (by decide) _).mono ?_; rintro e w1 ⟨rfl, rfl⟩; have B1 := Lib.hid (B0.out.alloc (by simp) (.cells #[.int .i64 255] 3)); obtain ⟨k1, k2⟩ := twoBk w #[.int .i64 kd, .int .i64 to, .int .i64 fr, .slice A n c, .int .i64 num, .int .i64 size] #[.int .i64 255] 24 3; have F := Lib.hid k1; obtain ⟨q0, q1, q2, q3, q4, q5, _⟩ := bk6 k1; have m0 := bk_cell k2 0; simp only [List.getElem?_toArray, List.getElem?_cons_zero] at m0; clear k1 k2)
    | (go_at_call 24; refine (heldC_byte _ _ _ m0).mono ?_; rintro e w' ⟨rfl, rfl⟩))
  go_ret
  exact ⟨rfl, B1.out⟩
set_option maxRecDepth 100000 in
set_option maxHeartbeats 1000000 in
theorem hdChk_len1 (a0 : (kd != 0) = true) (a1 : (kd != 1) = false) (a2 : (kd != 2) = true) (b1 : (kd == 1) = true) (b2 : (kd == 2) = false) (l : 120 < n) :
    Calls Tryd.prog 6 #[.agg #[.int .i64 kd, .int .i64 to, .int .i64 fr, .slice A n c, .int .i64 num, .int .i64 size]] w fun e w' => e = .returned (.int .i64 1) ∧ Below w.heap.size w w' := by
  have B0 := Lib.hid ((Below.refl w.heap.size w).alloc (Nat.le_refl _) (.cells #[.int .i64 kd, .int .i64 to, .int .i64 fr, .slice A n c, .int .i64 num, .int .i64 size] 24))
  go_enter Tryd.func6, Tryd.ntmps6
  go_wp2_with (first
    | (go_at_call 15; refine (heldBy_any 1 255 (by decide) (by decide) (by decide) _).mono ?_; rintro e w1 ⟨rfl, rfl⟩; have B1 := Lib.hid (B0.out.alloc (by simp) (.cells #[.int .i64 255] 3)); obtain ⟨k1, k2⟩ := twoBk w #[.int .i64 kd, .int .i64 to, .int .i64 fr, .slice A n c, .int .i64 num, .int .i64 size] #[.int .i64 255] 24 3; have F := Lib.hid k1; obtain ⟨q0, q1, q2, q3, q4, q5, _⟩ := bk6 k1; have m0 := bk_cell k2 0; simp only [List.getElem?_toArray, List.getElem?_cons_zero] at m0; clear k1 k2))
  go_ret
  exact ⟨rfl, B1.out⟩
set_option maxRecDepth 100000 in
set_option maxHeartbeats 1000000 in
theorem hdChk_to1 (a0 : (kd != 0) = true) (a1 : (kd != 1) = false) (a2 : (kd != 2) = true) (b1 : (kd == 1) = true) (b2 : (kd == 2) = false) (l : n ≤ 120) (t1 : byB to = false) :
    Calls Tryd.prog 6 #[.agg #[.int .i64 kd, .int .i64 to, .int .i64 fr, .slice A n c, .int .i64 num, .int .i64 size]] w fun e w' => e = .returned (.int .i64 6) ∧ Below w.heap.size w w' := by
  have B0 := Lib.hid ((Below.refl w.heap.size w).alloc (Nat.le_refl _) (.cells #[.int .i64 kd, .int .i64 to, .int .i64 fr, .slice A n c, .int .i64 num, .int .i64 size] 24))
  go_enter Tryd.func6, Tryd.ntmps6
  go_wp2_with (first
    | (go_at_call 15; refine (heldBy_any 1 255 (by decide) (by decide) (by decide) _).mono ?_; rintro e w1 ⟨rfl, rfl⟩; have B1 := Lib.hid (B0.out.alloc (by simp) (.cells #[.int .i64 255] 3)); obtain ⟨k1, k2⟩ := twoBk w #[.int .i64 kd, .int .i64 to, .int .i64 fr, .slice A n c, .int .i64 num, .int .i64 size] #[.int .i64 255] 24 3; have F := Lib.hid k1; obtain ⟨q0, q1, q2, q3, q4, q5, _⟩ := bk6 k1; have m0 := bk_cell k2 0; simp only [List.getElem?_toArray, List.getElem?_cons_zero] at m0; clear k1 k2)
    | (go_at_call 24; refine (heldC_byte _ _ _ m0).mono ?_; rintro e w' ⟨rfl, rfl⟩))
  go_ret
  exact ⟨rfl, B1.out⟩
set_option maxRecDepth 100000 in
set_option maxHeartbeats 1000000 in
theorem hdChk_fr1 (a0 : (kd != 0) = true) (a1 : (kd != 1) = false) (a2 : (kd != 2) = true) (b1 : (kd == 1) = true) (b2 : (kd == 2) = false) (l : n ≤ 120) (t1 : byB to = true) (f1 : byB fr = false) :
    Calls Tryd.prog 6 #[.agg #[.int .i64 kd, .int .i64 to, .int .i64 fr, .slice A n c, .int .i64 num, .int .i64 size]] w fun e w' => e = .returned (.int .i64 6) ∧ Below w.heap.size w w' := by
  have B0 := Lib.hid ((Below.refl w.heap.size w).alloc (Nat.le_refl _) (.cells #[.int .i64 kd, .int .i64 to, .int .i64 fr, .slice A n c, .int .i64 num, .int .i64 size] 24))
  go_enter Tryd.func6, Tryd.ntmps6
  go_wp2_with (first
    | (go_at_call 15; refine (heldBy_any 1 255 (by decide) (by decide) (by decide) _).mono ?_; rintro e w1 ⟨rfl, rfl⟩; have B1 := Lib.hid (B0.out.alloc (by simp) (.cells #[.int .i64 255] 3)); obtain ⟨k1, k2⟩ := twoBk w #[.int .i64 kd, .int .i64 to, .int .i64 fr, .slice A n c, .int .i64 num, .int .i64 size] #[.int .i64 255] 24 3; have F := Lib.hid k1; obtain ⟨q0, q1, q2, q3, q4, q5, _⟩ := bk6 k1; have m0 := bk_cell k2 0; simp only [List.getElem?_toArray, List.getElem?_cons_zero] at m0; clear k1 k2)
    | (go_at_call 24; refine (heldC_byte _ _ _ m0).mono ?_; rintro e w' ⟨rfl, rfl⟩))
  go_ret
  exact ⟨rfl, B1.out⟩
set_option maxRecDepth 100000 in
set_option maxHeartbeats 1000000 in
theorem hdChk_len2 (a0 : (kd != 0) = true) (a1 : (kd != 1) = true) (a2 : (kd != 2) = false) (b1 : (kd == 1) = false) (b2 : (kd == 2) = true) (l : 120 < n) :
    Calls Tryd.prog 6 #[.agg #[.int .i64 kd, .int .i64 to, .int .i64 fr, .slice A n c, .int .i64 num, .int .i64 size]] w fun e w' => e = .returned (.int .i64 1) ∧ Below w.heap.size w w' := by
  have B0 := Lib.hid ((Below.refl w.heap.size w).alloc (Nat.le_refl _) (.cells #[.int .i64 kd, .int .i64 to, .int .i64 fr, .slice A n c, .int .i64 num, .int .i64 size] 24))
  go_enter Tryd.func6, Tryd.ntmps6
  go_wp2_with (first
    | (go_at_call 15; refine (heldBy_any 1 255 (by decide) (by decide) (by decide) _).mono ?_; rintro e w1 ⟨rfl, rfl⟩; have B1 := Lib.hid (B0.out.alloc (by simp) (.cells #[.int .i64 255] 3)); obtain ⟨k1, k2⟩ := twoBk w #[.int .i64 kd, .int .i64 to, .int .i64 fr, .slice A n c, .int .i64 num, .int .i64 size] #[.int .i64 255] 24 3; have F := Lib.hid k1; obtain ⟨q0, q1, q2, q3, q4, q5, _⟩ := bk6 k1; have m0 := bk_cell k2 0; simp only [List.getElem?_toArray, List.getElem?_cons_zero] at m0; clear k1 k2))
  go_ret
  exact ⟨rfl, B1.out⟩
set_option maxRecDepth 100000 in
set_option maxHeartbeats 1000000 in
theorem hdChk_to2 (a0 : (kd != 0) = true) (a1 : (kd != 1) = true) (a2 : (kd != 2) = false) (b1 : (kd == 1) = false) (b2 : (kd == 2) = true) (l : n ≤ 120) (t1 : byB to = false) :
    Calls Tryd.prog 6 #[.agg #[.int .i64 kd, .int .i64 to, .int .i64 fr, .slice A n c, .int .i64 num, .int .i64 size]] w fun e w' => e = .returned (.int .i64 6) ∧ Below w.heap.size w w' := by
  have B0 := Lib.hid ((Below.refl w.heap.size w).alloc (Nat.le_refl _) (.cells #[.int .i64 kd, .int .i64 to, .int .i64 fr, .slice A n c, .int .i64 num, .int .i64 size] 24))
  go_enter Tryd.func6, Tryd.ntmps6
  go_wp2_with (first
    | (go_at_call 15; refine (heldBy_any 1 255 (by decide) (by decide) (by decide) _).mono ?_; rintro e w1 ⟨rfl, rfl⟩; have B1 := Lib.hid (B0.out.alloc (by simp) (.cells #[.int .i64 255] 3)); obtain ⟨k1, k2⟩ := twoBk w #[.int .i64 kd, .int .i64 to, .int .i64 fr, .slice A n c, .int .i64 num, .int .i64 size] #[.int .i64 255] 24 3; have F := Lib.hid k1; obtain ⟨q0, q1, q2, q3, q4, q5, _⟩ := bk6 k1; have m0 := bk_cell k2 0; simp only [List.getElem?_toArray, List.getElem?_cons_zero] at m0; clear k1 k2)
    | (go_at_call 24; refine (heldC_byte _ _ _ m0).mono ?_; rintro e w' ⟨rfl, rfl⟩))
  go_ret
  exact ⟨rfl, B1.out⟩
set_option maxRecDepth 100000 in
set_option maxHeartbeats 1000000 in
theorem hdChk_fr2 (a0 : (kd != 0) = true) (a1 : (kd != 1) = true) (a2 : (kd != 2) = false) (b1 : (kd == 1) = false) (b2 : (kd == 2) = true) (l : n ≤ 120) (t1 : byB to = true) (f1 : byB fr = false) :
    Calls Tryd.prog 6 #[.agg #[.int .i64 kd, .int .i64 to, .int .i64 fr, .slice A n c, .int .i64 num, .int .i64 size]] w fun e w' => e = .returned (.int .i64 6) ∧ Below w.heap.size w w' := by
  have B0 := Lib.hid ((Below.refl w.heap.size w).alloc (Nat.le_refl _) (.cells #[.int .i64 kd, .int .i64 to, .int .i64 fr, .slice A n c, .int .i64 num, .int .i64 size] 24))
  go_enter Tryd.func6, Tryd.ntmps6
  go_wp2_with (first
    | (go_at_call 15; refine (heldBy_any 1 255 (by decide) (by decide) (by decide) _).mono ?_; rintro e w1 ⟨rfl, rfl⟩; have B1 := Lib.hid (B0.out.alloc (by simp) (.cells #[.int .i64 255] 3)); obtain ⟨k1, k2⟩ := twoBk w #[.int .i64 kd, .int .i64 to, .int .i64 fr, .slice A n c, .int .i64 num, .int .i64 size] #[.int .i64 255] 24 3; have F := Lib.hid k1; obtain ⟨q0, q1, q2, q3, q4, q5, _⟩ := bk6 k1; have m0 := bk_cell k2 0; simp only [List.getElem?_toArray, List.getElem?_cons_zero] at m0; clear k1 k2)
    | (go_at_call 24; refine (heldC_byte _ _ _ m0).mono ?_; rintro e w' ⟨rfl, rfl⟩))
  go_ret
  exact ⟨rfl, B1.out⟩
set_option maxRecDepth 100000 in
set_option maxHeartbeats 1000000 in
theorem hdChk_rsize (a0 : (kd != 0) = true) (a1 : (kd != 1) = false) (a2 : (kd != 2) = true) (b1 : (kd == 1) = true) (b2 : (kd == 2) = false) (l : n ≤ 120) (t1 : byB to = true) (f1 : byB fr = true) (s1 : (size != 0) = true) :
    Calls Tryd.prog 6 #[.agg #[.int .i64 kd, .int .i64 to, .int .i64 fr, .slice A n c, .int .i64 num, .int .i64 size]] w fun e w' => e = .returned (.int .i64 3) ∧ Below w.heap.size w w' := by
  have B0 := Lib.hid ((Below.refl w.heap.size w).alloc (Nat.le_refl _) (.cells #[.int .i64 kd, .int .i64 to, .int .i64 fr, .slice A n c, .int .i64 num, .int .i64 size] 24))
  go_enter Tryd.func6, Tryd.ntmps6
  go_wp2_with (first
    | (go_at_call 15; refine (heldBy_any 1 255 (by decide) (by decide) (by decide) _).mono ?_; rintro e w1 ⟨rfl, rfl⟩; have B1 := Lib.hid (B0.out.alloc (by simp) (.cells #[.int .i64 255] 3)); obtain ⟨k1, k2⟩ := twoBk w #[.int .i64 kd, .int .i64 to, .int .i64 fr, .slice A n c, .int .i64 num, .int .i64 size] #[.int .i64 255] 24 3; have F := Lib.hid k1; obtain ⟨q0, q1, q2, q3, q4, q5, _⟩ := bk6 k1; have m0 := bk_cell k2 0; simp only [List.getElem?_toArray, List.getElem?_cons_zero] at m0; clear k1 k2)
    | (go_at_call 24; refine (heldC_byte _ _ _ m0).mono ?_; rintro e w' ⟨rfl, rfl⟩))
  go_ret
  exact ⟨rfl, B1.out⟩
set_option maxRecDepth 100000 in
set_option maxHeartbeats 1000000 in
theorem hdChk_rnum (a0 : (kd != 0) = true) (a1 : (kd != 1) = false) (a2 : (kd != 2) = true) (b1 : (kd == 1) = true) (b2 : (kd == 2) = false) (l : n ≤ 120) (t1 : byB to = true) (f1 : byB fr = true) (s1 : (size != 0) = false) (s2 : (num != 0) = true) :
    Calls Tryd.prog 6 #[.agg #[.int .i64 kd, .int .i64 to, .int .i64 fr, .slice A n c, .int .i64 num, .int .i64 size]] w fun e w' => e = .returned (.int .i64 3) ∧ Below w.heap.size w w' := by
  have B0 := Lib.hid ((Below.refl w.heap.size w).alloc (Nat.le_refl _) (.cells #[.int .i64 kd, .int .i64 to, .int .i64 fr, .slice A n c, .int .i64 num, .int .i64 size] 24))
  go_enter Tryd.func6, Tryd.ntmps6
  go_wp2_with (first
    | (go_at_call 15; refine (heldBy_any 1 255 (by decide) (by decide) (by decide) _).mono ?_; rintro e w1 ⟨rfl, rfl⟩; have B1 := Lib.hid (B0.out.alloc (by simp) (.cells #[.int .i64 255] 3)); obtain ⟨k1, k2⟩ := twoBk w #[.int .i64 kd, .int .i64 to, .int .i64 fr, .slice A n c, .int .i64 num, .int .i64 size] #[.int .i64 255] 24 3; have F := Lib.hid k1; obtain ⟨q0, q1, q2, q3, q4, q5, _⟩ := bk6 k1; have m0 := bk_cell k2 0; simp only [List.getElem?_toArray, List.getElem?_cons_zero] at m0; clear k1 k2)
    | (go_at_call 24; refine (heldC_byte _ _ _ m0).mono ?_; rintro e w' ⟨rfl, rfl⟩))
  go_ret
  exact ⟨rfl, B1.out⟩
set_option maxRecDepth 100000 in
set_option maxHeartbeats 1000000 in
theorem hdChk_rok (a0 : (kd != 0) = true) (a1 : (kd != 1) = false) (a2 : (kd != 2) = true) (b1 : (kd == 1) = true) (b2 : (kd == 2) = false) (l : n ≤ 120) (t1 : byB to = true) (f1 : byB fr = true) (s1 : (size != 0) = false) (s2 : (num != 0) = false) :
    Calls Tryd.prog 6 #[.agg #[.int .i64 kd, .int .i64 to, .int .i64 fr, .slice A n c, .int .i64 num, .int .i64 size]] w fun e w' => e = .returned (.int .i64 0) ∧ Below w.heap.size w w' := by
  have B0 := Lib.hid ((Below.refl w.heap.size w).alloc (Nat.le_refl _) (.cells #[.int .i64 kd, .int .i64 to, .int .i64 fr, .slice A n c, .int .i64 num, .int .i64 size] 24))
  go_enter Tryd.func6, Tryd.ntmps6
  go_wp2_with (first
    | (go_at_call 15; refine (heldBy_any 1 255 (by decide) (by decide) (by decide) _).mono ?_; rintro e w1 ⟨rfl, rfl⟩; have B1 := Lib.hid (B0.out.alloc (by simp) (.cells #[.int .i64 255] 3)); obtain ⟨k1, k2⟩ := twoBk w #[.int .i64 kd, .int .i64 to, .int .i64 fr, .slice A n c, .int .i64 num, .int .i64 size] #[.int .i64 255] 24 3; have F := Lib.hid k1; obtain ⟨q0, q1, q2, q3, q4, q5, _⟩ := bk6 k1; have m0 := bk_cell k2 0; simp only [List.getElem?_toArray, List.getElem?_cons_zero] at m0; clear k1 k2)
    | (go_at_call 24; refine (heldC_byte _ _ _ m0).mono ?_; rintro e w' ⟨rfl, rfl⟩))
  go_ret
  exact ⟨rfl, B1.out⟩
set_option maxRecDepth 100000 in
set_option maxHeartbeats 1000000 in
theorem hdChk_num0 (a0 : (kd != 0) = false) (a1 : (kd != 1) = true) (a2 : (kd != 2) = true) (b1 : (kd == 1) = false) (b2 : (kd == 2) = false) (l : n ≤ 120) (t1 : byB to = true) (f1 : byB fr = true) (n1 : (decide (1 ≤ size ∧ size ≤ 4) && (decide (0 ≤ num) && decide (num ≤ winOf size - 1))) = false) :
    Calls Tryd.prog 6 #[.agg #[.int .i64 kd, .int .i64 to, .int .i64 fr, .slice A n c, .int .i64 num, .int .i64 size]] w fun e w' => e = .returned (.int .i64 6) ∧ Below w.heap.size w w' := by
  have B0 := Lib.hid ((Below.refl w.heap.size w).alloc (Nat.le_refl _) (.cells #[.int .i64 kd, .int .i64 to, .int .i64 fr, .slice A n c, .int .i64 num, .int .i64 size] 24))
  have HN := Lib.hid n1
  clear n1
  go_enter Tryd.func6, Tryd.ntmps6
  go_wp2_with (first
    | (go_at_call 15; refine (heldBy_any 1 255 (by decide) (by decide) (by decide) _).mono ?_; rintro e w1 ⟨rfl, rfl⟩; have B1 := Lib.hid (B0.out.alloc (by simp) (.cells #[.int .i64 255] 3)); obtain ⟨k1, k2⟩ := twoBk w #[.int .i64 kd, .int .i64 to, .int .i64 fr, .slice A n c, .int .i64 num, .int .i64 size] #[.int .i64 255] 24 3; have F := Lib.hid k1; obtain ⟨q0, q1, q2, q3, q4, q5, _⟩ := bk6 k1; have m0 := bk_cell k2 0; simp only [List.getElem?_toArray, List.getElem?_cons_zero] at m0; clear k1 k2)
    | (go_at_call 24; refine (heldC_byte _ _ _ m0).mono ?_; rintro e w' ⟨rfl, rfl⟩)
    | (go_at_call 16; refine (numbered_b kd to fr num size _ _ HN.out _).mono ?_; rintro e w2 ⟨rfl, b2⟩; have B2 := Lib.hid (B1.out.trans (b2.mono B1.out.size)); have F2 := Lib.hid ((b2.block _ (lt_of_block F.out)).trans F.out); clear b2 q0 q1 q2 q3 q4 q5; obtain ⟨q0, q1, q2, q3, q4, q5, _⟩ := bk6 F2.out))
  go_ret
  exact ⟨rfl, B2.out⟩
set_option maxRecDepth 100000 in
set_option maxHeartbeats 1000000 in
theorem hdChk_num2 (a0 : (kd != 0) = true) (a1 : (kd != 1) = true) (a2 : (kd != 2) = false) (b1 : (kd == 1) = false) (b2 : (kd == 2) = true) (l : n ≤ 120) (t1 : byB to = true) (f1 : byB fr = true) (n1 : (decide (1 ≤ size ∧ size ≤ 4) && (decide (0 ≤ num) && decide (num ≤ winOf size - 1))) = false) :
    Calls Tryd.prog 6 #[.agg #[.int .i64 kd, .int .i64 to, .int .i64 fr, .slice A n c, .int .i64 num, .int .i64 size]] w fun e w' => e = .returned (.int .i64 6) ∧ Below w.heap.size w w' := by
  have B0 := Lib.hid ((Below.refl w.heap.size w).alloc (Nat.le_refl _) (.cells #[.int .i64 kd, .int .i64 to, .int .i64 fr, .slice A n c, .int .i64 num, .int .i64 size] 24))
  have HN := Lib.hid n1
  clear n1
  go_enter Tryd.func6, Tryd.ntmps6
  go_wp2_with (first
    | (go_at_call 15; refine (heldBy_any 1 255 (by decide) (by decide) (by decide) _).mono ?_; rintro e w1 ⟨rfl, rfl⟩; have B1 := Lib.hid (B0.out.alloc (by simp) (.cells #[.int .i64 255] 3)); obtain ⟨k1, k2⟩ := twoBk w #[.int .i64 kd, .int .i64 to, .int .i64 fr, .slice A n c, .int .i64 num, .int .i64 size] #[.int .i64 255] 24 3; have F := Lib.hid k1; obtain ⟨q0, q1, q2, q3, q4, q5, _⟩ := bk6 k1; have m0 := bk_cell k2 0; simp only [List.getElem?_toArray, List.getElem?_cons_zero] at m0; clear k1 k2)
    | (go_at_call 24; refine (heldC_byte _ _ _ m0).mono ?_; rintro e w' ⟨rfl, rfl⟩)
    | (go_at_call 16; refine (numbered_b kd to fr num size _ _ HN.out _).mono ?_; rintro e w2 ⟨rfl, b2⟩; have B2 := Lib.hid (B1.out.trans (b2.mono B1.out.size)); have F2 := Lib.hid ((b2.block _ (lt_of_block F.out)).trans F.out); clear b2 q0 q1 q2 q3 q4 q5; obtain ⟨q0, q1, q2, q3, q4, q5, _⟩ := bk6 F2.out))
  go_ret
  exact ⟨rfl, B2.out⟩
set_option maxRecDepth 100000 in
set_option maxHeartbeats 1000000 in
theorem hdChk_init (a0 : (kd != 0) = false) (a1 : (kd != 1) = true) (a2 : (kd != 2) = true) (b1 : (kd == 1) = false) (b2 : (kd == 2) = false) (l : n ≤ 120) (t1 : byB to = true) (f1 : byB fr = true) (n1 : (decide (1 ≤ size ∧ size ≤ 4) && (decide (0 ≤ num) && decide (num ≤ winOf size - 1))) = true) :
    Calls Tryd.prog 6 #[.agg #[.int .i64 kd, .int .i64 to, .int .i64 fr, .slice A n c, .int .i64 num, .int .i64 size]] w fun e w' => e = .returned (.int .i64 0) ∧ Below w.heap.size w w' := by
  have B0 := Lib.hid ((Below.refl w.heap.size w).alloc (Nat.le_refl _) (.cells #[.int .i64 kd, .int .i64 to, .int .i64 fr, .slice A n c, .int .i64 num, .int .i64 size] 24))
  have HN := Lib.hid n1
  clear n1
  go_enter Tryd.func6, Tryd.ntmps6
  go_wp2_with (first
    | (go_at_call 15; refine (heldBy_any 1 255 (by decide) (by decide) (by decide) _).mono ?_; rintro e w1 ⟨rfl, rfl⟩; have B1 := Lib.hid (B0.out.alloc (by simp) (.cells #[.int .i64 255] 3)); obtain ⟨k1, k2⟩ := twoBk w #[.int .i64 kd, .int .i64 to, .int .i64 fr, .slice A n c, .int .i64 num, .int .i64 size] #[.int .i64 255] 24 3; have F := Lib.hid k1; obtain ⟨q0, q1, q2, q3, q4, q5, _⟩ := bk6 k1; have m0 := bk_cell k2 0; simp only [List.getElem?_toArray, List.getElem?_cons_zero] at m0; clear k1 k2)
    | (go_at_call 24; refine (heldC_byte _ _ _ m0).mono ?_; rintro e w' ⟨rfl, rfl⟩)
    | (go_at_call 16; refine (numbered_b kd to fr num size _ _ HN.out _).mono ?_; rintro e w2 ⟨rfl, b2⟩; have B2 := Lib.hid (B1.out.trans (b2.mono B1.out.size)); have F2 := Lib.hid ((b2.block _ (lt_of_block F.out)).trans F.out); clear b2 q0 q1 q2 q3 q4 q5; obtain ⟨q0, q1, q2, q3, q4, q5, _⟩ := bk6 F2.out))
  go_ret
  exact ⟨rfl, B2.out⟩
set_option maxRecDepth 100000 in
set_option maxHeartbeats 1000000 in
theorem hdChk_sfr (a0 : (kd != 0) = true) (a1 : (kd != 1) = true) (a2 : (kd != 2) = false) (b1 : (kd == 1) = false) (b2 : (kd == 2) = true) (l : n ≤ 120) (t1 : byB to = true) (f1 : byB fr = true) (n1 : (decide (1 ≤ size ∧ size ≤ 4) && (decide (0 ≤ num) && decide (num ≤ winOf size - 1))) = true) (s1 : (fr != 0) = true) :
    Calls Tryd.prog 6 #[.agg #[.int .i64 kd, .int .i64 to, .int .i64 fr, .slice A n c, .int .i64 num, .int .i64 size]] w fun e w' => e = .returned (.int .i64 3) ∧ Below w.heap.size w w' := by
  have B0 := Lib.hid ((Below.refl w.heap.size w).alloc (Nat.le_refl _) (.cells #[.int .i64 kd, .int .i64 to, .int .i64 fr, .slice A n c, .int .i64 num, .int .i64 size] 24))
  have HN := Lib.hid n1
  clear n1
  go_enter Tryd.func6, Tryd.ntmps6
  go_wp2_with (first
    | (go_at_call 15; refine (heldBy_any 1 255 (by decide) (by decide) (by decide) _).mono ?_; rintro e w1 ⟨rfl, rfl⟩; have B1 := Lib.hid (B0.out.alloc (by simp) (.cells #[.int .i64 255] 3)); obtain ⟨k1, k2⟩ := twoBk w #[.int .i64 kd, .int .i64 to, .int .i64 fr, .slice A n c, .int .i64 num, .int .i64 size] #[.int .i64 255] 24 3; have F := Lib.hid k1; obtain ⟨q0, q1, q2, q3, q4, q5, _⟩ := bk6 k1; have m0 := bk_cell k2 0; simp only [List.getElem?_toArray, List.getElem?_cons_zero] at m0; clear k1 k2)
    | (go_at_call 24; refine (heldC_byte _ _ _ m0).mono ?_; rintro e w' ⟨rfl, rfl⟩)
    | (go_at_call 16; refine (numbered_b kd to fr num size _ _ HN.out _).mono ?_; rintro e w2 ⟨rfl, b2⟩; have B2 := Lib.hid (B1.out.trans (b2.mono B1.out.size)); have F2 := Lib.hid ((b2.block _ (lt_of_block F.out)).trans F.out); clear b2 q0 q1 q2 q3 q4 q5; obtain ⟨q0, q1, q2, q3, q4, q5, _⟩ := bk6 F2.out))
  go_ret
  exact ⟨rfl, B2.out⟩
set_option maxRecDepth 100000 in
set_option maxHeartbeats 1000000 in
theorem hdChk_stok (a0 : (kd != 0) = true) (a1 : (kd != 1) = true) (a2 : (kd != 2) = false) (b1 : (kd == 1) = false) (b2 : (kd == 2) = true) (l : n ≤ 120) (t1 : byB to = true) (f1 : byB fr = true) (n1 : (decide (1 ≤ size ∧ size ≤ 4) && (decide (0 ≤ num) && decide (num ≤ winOf size - 1))) = true) (s1 : (fr != 0) = false) (s2 : 0 < n) :
    Calls Tryd.prog 6 #[.agg #[.int .i64 kd, .int .i64 to, .int .i64 fr, .slice A n c, .int .i64 num, .int .i64 size]] w fun e w' => e = .returned (.int .i64 3) ∧ Below w.heap.size w w' := by
  have B0 := Lib.hid ((Below.refl w.heap.size w).alloc (Nat.le_refl _) (.cells #[.int .i64 kd, .int .i64 to, .int .i64 fr, .slice A n c, .int .i64 num, .int .i64 size] 24))
  have HN := Lib.hid n1
  clear n1
  go_enter Tryd.func6, Tryd.ntmps6
  go_wp2_with (first
    | (go_at_call 15; refine (heldBy_any 1 255 (by decide) (by decide) (by decide) _).mono ?_; rintro e w1 ⟨rfl, rfl⟩; have B1 := Lib.hid (B0.out.alloc (by simp) (.cells #[.int .i64 255] 3)); obtain ⟨k1, k2⟩ := twoBk w #[.int .i64 kd, .int .i64 to, .int .i64 fr, .slice A n c, .int .i64 num, .int .i64 size] #[.int .i64 255] 24 3; have F := Lib.hid k1; obtain ⟨q0, q1, q2, q3, q4, q5, _⟩ := bk6 k1; have m0 := bk_cell k2 0; simp only [List.getElem?_toArray, List.getElem?_cons_zero] at m0; clear k1 k2)
    | (go_at_call 24; refine (heldC_byte _ _ _ m0).mono ?_; rintro e w' ⟨rfl, rfl⟩)
    | (go_at_call 16; refine (numbered_b kd to fr num size _ _ HN.out _).mono ?_; rintro e w2 ⟨rfl, b2⟩; have B2 := Lib.hid (B1.out.trans (b2.mono B1.out.size)); have F2 := Lib.hid ((b2.block _ (lt_of_block F.out)).trans F.out); clear b2 q0 q1 q2 q3 q4 q5; obtain ⟨q0, q1, q2, q3, q4, q5, _⟩ := bk6 F2.out))
  go_ret
  exact ⟨rfl, B2.out⟩
set_option maxRecDepth 100000 in
set_option maxHeartbeats 1000000 in
theorem hdChk_sok (a0 : (kd != 0) = true) (a1 : (kd != 1) = true) (a2 : (kd != 2) = false) (b1 : (kd == 1) = false) (b2 : (kd == 2) = true) (l : n ≤ 120) (t1 : byB to = true) (f1 : byB fr = true) (n1 : (decide (1 ≤ size ∧ size ≤ 4) && (decide (0 ≤ num) && decide (num ≤ winOf size - 1))) = true) (s1 : (fr != 0) = false) (s2 : ¬ 0 < n) (s3 : decide (0 < n) = false) :
    Calls Tryd.prog 6 #[.agg #[.int .i64 kd, .int .i64 to, .int .i64 fr, .slice A n c, .int .i64 num, .int .i64 size]] w fun e w' => e = .returned (.int .i64 0) ∧ Below w.heap.size w w' := by
  have B0 := Lib.hid ((Below.refl w.heap.size w).alloc (Nat.le_refl _) (.cells #[.int .i64 kd, .int .i64 to, .int .i64 fr, .slice A n c, .int .i64 num, .int .i64 size] 24))
  have HN := Lib.hid n1
  clear n1
  go_enter Tryd.func6, Tryd.ntmps6
  go_wp2_with (first
    | (go_at_call 15; refine (heldBy_any 1 255 (by decide) (by decide) (by decide) _).mono ?_; rintro e w1 ⟨rfl, rfl⟩; have B1 := Lib.hid (B0.out.alloc (by simp) (.cells #[.int .i64 255] 3)); obtain ⟨k1, k2⟩ := twoBk w #[.int .i64 kd, .int .i64 to, .int .i64 fr, .slice A n c, .int .i64 num, .int .i64 size] #[.int .i64 255] 24 3; have F := Lib.hid k1; obtain ⟨q0, q1, q2, q3, q4, q5, _⟩ := bk6 k1; have m0 := bk_cell k2 0; simp only [List.getElem?_toArray, List.getElem?_cons_zero] at m0; clear k1 k2)
    | (go_at_call 24; refine (heldC_byte _ _ _ m0).mono ?_; rintro e w' ⟨rfl, rfl⟩)
    | (go_at_call 16; refine (numbered_b kd to fr num size _ _ HN.out _).mono ?_; rintro e w2 ⟨rfl, b2⟩; have B2 := Lib.hid (B1.out.trans (b2.mono B1.out.size)); have F2 := Lib.hid ((b2.block _ (lt_of_block F.out)).trans F.out); clear b2 q0 q1 q2 q3 q4 q5; obtain ⟨q0, q1, q2, q3, q4, q5, _⟩ := bk6 F2.out))
  go_ret
  exact ⟨rfl, B2.out⟩
end
theorem hdCheck_any (v : Value) (h : Hd) (w : World) (hv : HdVal w w.heap.size v h) : Calls Tryd.prog 6 #[v] w fun e w' => e = .returned (.int .i64 (faultH h)) ∧ Below w.heap.size w w' := by
  obtain ⟨d, rfl, hd⟩ := hv.ex
  obtain ⟨A, c, rfl, _, _, _, _⟩ := hd.ex
  obtain ⟨kd, to, fr, tok, num, size⟩ := h
  simp only
  obtain ⟨x, hx⟩ : ∃ x, faultH ⟨kd, to, fr, tok, num, size⟩ = x := ⟨_, rfl⟩
  rw [hx]
  unfold faultH at hx
  simp only at hx
  obtain ⟨n, hn⟩ : ∃ n, tok.length = n := ⟨_, rfl⟩
  rw [hn] at hx ⊢
  by_cases k : 0 ≤ kd ∧ kd ≤ 2
  · rw [if_neg (by omega)] at hx
    by_cases l : 120 < n
    · rw [if_pos l] at hx
      subst hx
      rcases (show kd = 0 ∨ kd = 1 ∨ kd = 2 by omega) with rfl | rfl | rfl
      · exact hdChk_len0 rfl rfl rfl rfl rfl l
      · exact hdChk_len1 rfl rfl rfl rfl rfl l
      · exact hdChk_len2 rfl rfl rfl rfl rfl l
    rw [if_neg l] at hx
    have l : n ≤ 120 := by omega
    by_cases t : 0 ≤ to ∧ to ≤ 255
    · have t1 : byB to = true := by unfold byB; simp [t]
      by_cases f : 0 ≤ fr ∧ fr ≤ 255
      · have f1 : byB fr = true := by unfold byB; simp [f]
        rw [if_neg (by omega)] at hx
        by_cases k1 : kd = 1
        · rw [if_pos k1] at hx
          subst k1
          by_cases s : size = 0
          · by_cases m : num = 0
            · rw [if_neg (by omega)] at hx
              subst hx s m
              exact hdChk_rok rfl rfl rfl rfl rfl l t1 f1 rfl rfl
            · rw [if_pos (by omega)] at hx
              subst hx s
              exact hdChk_rnum rfl rfl rfl rfl rfl l t1 f1 rfl (by simp [m])
          · rw [if_pos (by omega)] at hx
            subst hx
            exact hdChk_rsize rfl rfl rfl rfl rfl l t1 f1 (by simp [s])
        · rw [if_neg k1] at hx
          by_cases g : (1 ≤ size ∧ size ≤ 4) ∧ (0 ≤ num ∧ num < winOf size)
          · have n1 : (decide (1 ≤ size ∧ size ≤ 4) && (decide (0 ≤ num) && decide (num ≤ winOf size - 1))) = true := by simp; omega
            rw [if_neg (by omega)] at hx
            rcases (show kd = 0 ∨ kd = 2 by omega) with rfl | rfl
            · rw [if_neg (by omega)] at hx
              subst hx
              exact hdChk_init rfl rfl rfl rfl rfl l t1 f1 n1
            · by_cases s : fr = 0
              · by_cases m : n = 0
                · rw [if_neg (by omega)] at hx
                  subst hx s
                  exact hdChk_sok rfl rfl rfl rfl rfl l t1 f1 n1 rfl (by omega) (by simp; omega)
                · rw [if_pos (by omega)] at hx
                  subst hx s
                  exact hdChk_stok rfl rfl rfl rfl rfl l t1 f1 n1 rfl (by omega)
              · rw [if_pos (by omega)] at hx
                subst hx
                exact hdChk_sfr rfl rfl rfl rfl rfl l t1 f1 n1 (by simp [s])
          · have n1 : (decide (1 ≤ size ∧ size ≤ 4) && (decide (0 ≤ num) && decide (num ≤ winOf size - 1))) = false := by
              simp only [Bool.and_eq_false_iff, decide_eq_false_iff_not]
              omega
            rw [if_pos (by omega)] at hx
            subst hx
            rcases (show kd = 0 ∨ kd = 2 by omega) with rfl | rfl
            · exact hdChk_num0 rfl rfl rfl rfl rfl l t1 f1 n1
            · exact hdChk_num2 rfl rfl rfl rfl rfl l t1 f1 n1
      · have f1 : byB fr = false := by
          unfold byB
          simp only [Bool.and_eq_false_iff, decide_eq_false_iff_not]
          omega
        rw [if_pos (by omega)] at hx
        subst hx
        rcases (show kd = 0 ∨ kd = 1 ∨ kd = 2 by omega) with rfl | rfl | rfl
        · exact hdChk_fr0 rfl rfl rfl rfl rfl l t1 f1
        · exact hdChk_fr1 rfl rfl rfl rfl rfl l t1 f1
        · exact hdChk_fr2 rfl rfl rfl rfl rfl l t1 f1
    · have t1 : byB to = false := by
        unfold byB
        simp only [Bool.and_eq_false_iff, decide_eq_false_iff_not]
        omega
      rw [if_pos (by omega)] at hx
      subst hx
      rcases (show kd = 0 ∨ kd = 1 ∨ kd = 2 by omega) with rfl | rfl | rfl
      · exact hdChk_to0 rfl rfl rfl rfl rfl l t1
      · exact hdChk_to1 rfl rfl rfl rfl rfl l t1
      · exact hdChk_to2 rfl rfl rfl rfl rfl l t1
  · rw [if_pos (by omega)] at hx
    subst hx
    exact hdChk_kind (by simp; omega) (by simp; omega) (by simp; omega)
end Go.Proofs.YtaccedlpnngdhaaDoor
