/- Flows: what is asked of the project; the document's answers. -/
import Derived.Test.YtajapgadhgfmcaaRefUp2
import Derived.Test.YtajapgadhgfmcaaBytes
import Derived.Below
import Derived.Test.YtajapgadhgfmcaaMem
namespace Go.Proofs.Ytajapgadhgfmcaa
set_option linter.unusedVariables false
open Go.RowKit P

def flV (mx us : Int) : Value := .agg #[.int .i64 mx, .int .i64 us]
/-- what Check says, by P9.1 -/
def flF (mx us : Int) : Int := if 0 ≤ us ∧ us ≤ mx ∧ mx ≤ 4611686018427387903 then 0 else 9
/-- what Spend says, by P9.2 -/
def flS (mx us n : Int) : Int × Int × Int := if flF mx us ≠ 0 then (0, 0, flF mx us) else if n < 0 then (0, 0, 6) else if mx - us < n then (0, 0, 11) else (mx, us + n, 0)
/-- what Grant says, by P9.3 -/
def flG (mx us m : Int) : Int × Int × Int := if flF mx us ≠ 0 then (0, 0, flF mx us) else if ¬(0 ≤ m ∧ m ≤ 4611686018427387903) then (0, 0, 6) else (max m mx, us, 0)
def flR (r : Int × Int × Int) : Value := .tuple #[flV r.1 r.2.1, .int .i64 r.2.2]
def FlChk (P : Program) (f : FuncId) : Prop := ∀ (mx us : Int) (w : World), Calls P f #[flV mx us] w fun e w' => e = .returned (.int .i64 (flF mx us)) ∧ Below w.heap.size w w'
def FlSpend (P : Program) (f : FuncId) : Prop := ∀ (mx us n : Int) (w : World), (-9223372036854775808 ≤ n ∧ n ≤ 9223372036854775807) → Calls P f #[flV mx us, .int .i64 n] w fun e w' => e = .returned (flR (flS mx us n)) ∧ Below w.heap.size w w'
def FlGrant (P : Program) (f : FuncId) : Prop := ∀ (mx us n : Int) (w : World), Calls P f #[flV mx us, .int .i64 n] w fun e w' => e = .returned (flR (flG mx us n)) ∧ Below w.heap.size w w'

/-- the two cells of a block, and what stands there when both are written -/
theorem bk2 {w : World} {b : Nat} {a0 a1 : Value} {T : TypeId} (h : w.heap[b]? = some (.cells #[a0, a1] T (0, 0))) : w.cell? ⟨b, 0, none⟩ = some a0 ∧ w.cell? ⟨b, 1, none⟩ = some a1 ∧ ∀ i, w.frozen? ⟨b, i, none⟩ = false := ⟨bk_cell h 0, bk_cell h 1, fun i => bk_frz h i⟩
theorem bk2_put {w : World} {b : Nat} {a0 a1 : Value} {T : TypeId} (h : w.heap[b]? = some (.cells #[a0, a1] T (0, 0))) (v0 v1 : Value) :
    ((w.setCell ⟨b, 0, none⟩ v0).setCell ⟨b, 1, none⟩ v1).cell? ⟨b, 0, none⟩ = some v0 ∧ ((w.setCell ⟨b, 0, none⟩ v0).setCell ⟨b, 1, none⟩ v1).cell? ⟨b, 1, none⟩ = some v1 ∧ w.grownBy ((w.setCell ⟨b, 0, none⟩ v0).setCell ⟨b, 1, none⟩ v1) (some b) := by
  have h0 : (w.setCell ⟨b, 0, none⟩ v0).heap[b]? = some (.cells #[v0, a1] T (0, 0)) := by simpa using bk_set h 0 v0
  have h1 : ((w.setCell ⟨b, 0, none⟩ v0).setCell ⟨b, 1, none⟩ v1).heap[b]? = some (.cells #[v0, v1] T (0, 0)) := by simpa using bk_set h0 1 v1
  exact ⟨(bk2 h1).1, (bk2 h1).2.1, gr_trans (gr_set _ b 0 v0) (gr_set _ b 1 v1)⟩
theorem refFl_any : FlChk Try.prog 8 := fun mx us w => by
  unfold flV
  have B0 := Lib.hid ((Below.refl w.heap.size w).alloc (Nat.le_refl _) (.cells #[.int .i64 mx, .int .i64 us] 23))
  by_cases h : 0 ≤ us ∧ us ≤ mx
  · have u1 : upB2 us mx = true := by unfold upB2; simp [h]
    by_cases k : mx ≤ 4611686018427387903
    · have HF := Lib.hid (show flF mx us = 0 from if_pos ⟨h.1, h.2, k⟩)
      rw [HF.out]
      go_enter Try.func8, Try.ntmps8
      go_wp2_with (go_at_call 14; refine (upTo_any _ _ _).mono ?_; rintro e w' ⟨rfl, rfl⟩)
      go_ret
      exact ⟨rfl, B0.out⟩
    · have HF := Lib.hid (show flF mx us = 9 from if_neg (fun e => k e.2.2))
      rw [HF.out]
      go_enter Try.func8, Try.ntmps8
      go_wp2_with (go_at_call 14; refine (upTo_any _ _ _).mono ?_; rintro e w' ⟨rfl, rfl⟩)
      go_ret
      exact ⟨rfl, B0.out⟩
  · have u1 : upB2 us mx = false := by unfold upB2; simp; omega
    have HF := Lib.hid (show flF mx us = 9 from if_neg (fun e => h ⟨e.1, e.2.1⟩))
    rw [HF.out]
    go_enter Try.func8, Try.ntmps8
    go_wp2_with (go_at_call 14; refine (upTo_any _ _ _).mono ?_; rintro e w' ⟨rfl, rfl⟩)
    go_ret
    exact ⟨rfl, B0.out⟩
set_option maxHeartbeats 1000000 in
theorem refFlS_any : FlSpend Try.prog 9 := fun mx us n w hn => by
  unfold flR flS
  have B0 := Lib.hid (((Below.refl w.heap.size w).alloc (Nat.le_refl _) (.cells #[.int .i64 mx, .int .i64 us] 23)).alloc (by simp) (.cells #[.int .i64 0, .int .i64 0] 23))
  have hs1 : (w.alloc (.cells #[.int .i64 mx, .int .i64 us] 23)).heap.size = w.heap.size + 1 := by simp
  have F0 := Lib.hid ((Below.heap_alloc (w.alloc (.cells #[.int .i64 mx, .int .i64 us] 23)) (.cells #[.int .i64 0, .int .i64 0] 23) w.heap.size (by simp)).trans (heap_alloc_new w (.cells #[.int .i64 mx, .int .i64 us] 23)))
  have Z0 := Lib.hid (show ((w.alloc (.cells #[.int .i64 mx, .int .i64 us] 23)).alloc (.cells #[.int .i64 0, .int .i64 0] 23)).heap[w.heap.size + 1]? = some (.cells #[.int .i64 0, .int .i64 0] 23 (0, 0)) by
    have := heap_alloc_new (w.alloc (.cells #[.int .i64 mx, .int .i64 us] 23)) (.cells #[.int .i64 0, .int .i64 0] 23)
    rwa [hs1] at this)
  clear hs1
  have HF := Lib.hid (fun w => refFl_any mx us w)
  unfold flV at HF
  unfold flV
  by_cases h : flF mx us = 0
  · have hok : 0 ≤ us ∧ us ≤ mx ∧ mx ≤ 4611686018427387903 := by unfold flF at h; split at h; assumption; cases h
    rw [if_neg (fun e => e h)]
    rw [h] at HF
    have hsub : IntKind.i64.wrap (mx - us) = mx - us := by rw [IntKind.wrap_i64]; omega
    clear h
    by_cases a : n < 0
    · rw [if_pos a]
      have a' : decide (n < 0) = true := by simp [a]
      go_enter Try.func9, Try.ntmps9
      go_wp2_with (first
        | (go_at_call 8; refine (HF.out _).mono ?_; rintro e w1 ⟨rfl, b1⟩; have B1 := Lib.hid (B0.out.trans (b1.mono B0.out.size)); have F1 := Lib.hid ((b1.block _ (lt_of_block F0.out)).trans F0.out); have Z1 := Lib.hid ((b1.block _ (lt_of_block Z0.out)).trans Z0.out); clear b1; obtain ⟨q0, q1, qf⟩ := bk2 F1.out; obtain ⟨z0, z1, zf⟩ := bk2 Z1.out))
      obtain ⟨r0, r1, gp⟩ := bk2_put Z1.out (.int .i64 0) (.int .i64 0)
      refine bodyPost_ret (by simp [results, Try.results9, go_sem, r0, r1]; try rfl) rfl ?_
      exact ⟨rfl, gr_from B1.out B1.out.size (Nat.le_succ _) gp⟩
    · rw [if_neg a]
      have a' : decide (n < 0) = false := by simp; omega
      by_cases b : mx - us < n
      · rw [if_pos b]
        have b' : decide (mx - us < n) = true := by simp [b]
        go_enter Try.func9, Try.ntmps9
        go_wp2_with (first
          | (go_at_call 8; refine (HF.out _).mono ?_; rintro e w1 ⟨rfl, b1⟩; have B1 := Lib.hid (B0.out.trans (b1.mono B0.out.size)); have F1 := Lib.hid ((b1.block _ (lt_of_block F0.out)).trans F0.out); have Z1 := Lib.hid ((b1.block _ (lt_of_block Z0.out)).trans Z0.out); clear b1; obtain ⟨q0, q1, qf⟩ := bk2 F1.out; obtain ⟨z0, z1, zf⟩ := bk2 Z1.out))
        obtain ⟨r0, r1, gp⟩ := bk2_put Z1.out (.int .i64 0) (.int .i64 0)
        refine bodyPost_ret (by simp [results, Try.results9, go_sem, r0, r1]; try rfl) rfl ?_
        exact ⟨rfl, gr_from B1.out B1.out.size (Nat.le_succ _) gp⟩
      · rw [if_neg b]
        have b' : decide (mx - us < n) = false := by simp; omega
        have hadd : IntKind.i64.wrap (us + n) = us + n := by rw [IntKind.wrap_i64]; omega
        go_enter Try.func9, Try.ntmps9
        go_wp2_with (first
          | (go_at_call 8; refine (HF.out _).mono ?_; rintro e w1 ⟨rfl, b1⟩; have B1 := Lib.hid (B0.out.trans (b1.mono B0.out.size)); have F1 := Lib.hid ((b1.block _ (lt_of_block F0.out)).trans F0.out); have Z1 := Lib.hid ((b1.block _ (lt_of_block Z0.out)).trans Z0.out); clear b1; obtain ⟨q0, q1, qf⟩ := bk2 F1.out; obtain ⟨z0, z1, zf⟩ := bk2 Z1.out))
        obtain ⟨r0, r1, gp⟩ := bk2_put Z1.out (.int .i64 mx) (.int .i64 (us + n))
        refine bodyPost_ret (by simp [results, Try.results9, go_sem, r0, r1]; try rfl) rfl ?_
        exact ⟨rfl, gr_from B1.out B1.out.size (Nat.le_succ _) gp⟩
  · rw [if_pos h]
    obtain ⟨x, hx⟩ : ∃ x, flF mx us = x := ⟨_, rfl⟩
    rw [hx] at HF h ⊢
    have g : (x != 0) = true := by simp [h]
    clear h hx
    go_enter Try.func9, Try.ntmps9
    go_wp2_with (first
      | (go_at_call 8; refine (HF.out _).mono ?_; rintro e w1 ⟨rfl, b1⟩; have B1 := Lib.hid (B0.out.trans (b1.mono B0.out.size)); have F1 := Lib.hid ((b1.block _ (lt_of_block F0.out)).trans F0.out); have Z1 := Lib.hid ((b1.block _ (lt_of_block Z0.out)).trans Z0.out); clear b1; obtain ⟨q0, q1, qf⟩ := bk2 F1.out; obtain ⟨z0, z1, zf⟩ := bk2 Z1.out))
    obtain ⟨r0, r1, gp⟩ := bk2_put Z1.out (.int .i64 0) (.int .i64 0)
    refine bodyPost_ret (by simp [results, Try.results9, go_sem, r0, r1]; try rfl) rfl ?_
    exact ⟨rfl, gr_from B1.out B1.out.size (Nat.le_succ _) gp⟩
set_option maxHeartbeats 1000000 in
theorem refFlG_any : FlGrant Try.prog 11 := fun mx us m w => by
  unfold flR flG
  have B0 := Lib.hid (((Below.refl w.heap.size w).alloc (Nat.le_refl _) (.cells #[.int .i64 mx, .int .i64 us] 23)).alloc (by simp) (.cells #[.int .i64 0, .int .i64 0] 23))
  have hs1 : (w.alloc (.cells #[.int .i64 mx, .int .i64 us] 23)).heap.size = w.heap.size + 1 := by simp
  have F0 := Lib.hid ((Below.heap_alloc (w.alloc (.cells #[.int .i64 mx, .int .i64 us] 23)) (.cells #[.int .i64 0, .int .i64 0] 23) w.heap.size (by simp)).trans (heap_alloc_new w (.cells #[.int .i64 mx, .int .i64 us] 23)))
  have Z0 := Lib.hid (show ((w.alloc (.cells #[.int .i64 mx, .int .i64 us] 23)).alloc (.cells #[.int .i64 0, .int .i64 0] 23)).heap[w.heap.size + 1]? = some (.cells #[.int .i64 0, .int .i64 0] 23 (0, 0)) by
    have := heap_alloc_new (w.alloc (.cells #[.int .i64 mx, .int .i64 us] 23)) (.cells #[.int .i64 0, .int .i64 0] 23)
    rwa [hs1] at this)
  clear hs1
  have HF := Lib.hid (fun w => refFl_any mx us w)
  unfold flV at HF
  unfold flV
  by_cases h : flF mx us = 0
  · rw [if_neg (fun e => e h)]
    rw [h] at HF
    clear h
    by_cases a : 0 ≤ m ∧ m ≤ 4611686018427387903
    · have u1 : upB2 m 4611686018427387903 = true := by unfold upB2; simp [a]
      rw [if_neg (fun e => e a)]
      clear a
      by_cases b : m < mx
      · rw [show max m mx = mx by omega]
        go_enter Try.func11, Try.ntmps11
        go_wp2_with (first
          | (go_at_call 8; refine (HF.out _).mono ?_; rintro e w1 ⟨rfl, b1⟩; have B1 := Lib.hid (B0.out.trans (b1.mono B0.out.size)); have F1 := Lib.hid ((b1.block _ (lt_of_block F0.out)).trans F0.out); have Z1 := Lib.hid ((b1.block _ (lt_of_block Z0.out)).trans Z0.out); clear b1; obtain ⟨q0, q1, qf⟩ := bk2 F1.out; obtain ⟨z0, z1, zf⟩ := bk2 Z1.out)
          | (go_at_call 14; refine (upTo_any _ _ _).mono ?_; rintro e w' ⟨rfl, rfl⟩))
        obtain ⟨r0, r1, gp⟩ := bk2_put Z1.out (.int .i64 mx) (.int .i64 us)
        refine bodyPost_ret (by simp [results, Try.results11, go_sem, r0, r1]; try rfl) rfl ?_
        exact ⟨rfl, gr_from B1.out B1.out.size (Nat.le_succ _) gp⟩
      · rw [show max m mx = m by omega]
        go_enter Try.func11, Try.ntmps11
        go_wp2_with (first
          | (go_at_call 8; refine (HF.out _).mono ?_; rintro e w1 ⟨rfl, b1⟩; have B1 := Lib.hid (B0.out.trans (b1.mono B0.out.size)); have F1 := Lib.hid ((b1.block _ (lt_of_block F0.out)).trans F0.out); have Z1 := Lib.hid ((b1.block _ (lt_of_block Z0.out)).trans Z0.out); clear b1; obtain ⟨q0, q1, qf⟩ := bk2 F1.out; obtain ⟨z0, z1, zf⟩ := bk2 Z1.out)
          | (go_at_call 14; refine (upTo_any _ _ _).mono ?_; rintro e w' ⟨rfl, rfl⟩))
        obtain ⟨r0, r1, gp⟩ := bk2_put Z1.out (.int .i64 m) (.int .i64 us)
        refine bodyPost_ret (by simp [results, Try.results11, go_sem, r0, r1]; try rfl) rfl ?_
        exact ⟨rfl, gr_from B1.out B1.out.size (Nat.le_succ _) gp⟩
    · have u1 : upB2 m 4611686018427387903 = false := by unfold upB2; simp; omega
      rw [if_pos a]
      clear a
      go_enter Try.func11, Try.ntmps11
      go_wp2_with (first
        | (go_at_call 8; refine (HF.out _).mono ?_; rintro e w1 ⟨rfl, b1⟩; have B1 := Lib.hid (B0.out.trans (b1.mono B0.out.size)); have F1 := Lib.hid ((b1.block _ (lt_of_block F0.out)).trans F0.out); have Z1 := Lib.hid ((b1.block _ (lt_of_block Z0.out)).trans Z0.out); clear b1; obtain ⟨q0, q1, qf⟩ := bk2 F1.out; obtain ⟨z0, z1, zf⟩ := bk2 Z1.out)
        | (go_at_call 14; refine (upTo_any _ _ _).mono ?_; rintro e w' ⟨rfl, rfl⟩))
      obtain ⟨r0, r1, gp⟩ := bk2_put Z1.out (.int .i64 0) (.int .i64 0)
      refine bodyPost_ret (by simp [results, Try.results11, go_sem, r0, r1]; try rfl) rfl ?_
      exact ⟨rfl, gr_from B1.out B1.out.size (Nat.le_succ _) gp⟩
  · rw [if_pos h]
    obtain ⟨x, hx⟩ : ∃ x, flF mx us = x := ⟨_, rfl⟩
    rw [hx] at HF h ⊢
    have g : (x != 0) = true := by simp [h]
    clear h hx
    go_enter Try.func11, Try.ntmps11
    go_wp2_with (first
      | (go_at_call 8; refine (HF.out _).mono ?_; rintro e w1 ⟨rfl, b1⟩; have B1 := Lib.hid (B0.out.trans (b1.mono B0.out.size)); have F1 := Lib.hid ((b1.block _ (lt_of_block F0.out)).trans F0.out); have Z1 := Lib.hid ((b1.block _ (lt_of_block Z0.out)).trans Z0.out); clear b1; obtain ⟨q0, q1, qf⟩ := bk2 F1.out; obtain ⟨z0, z1, zf⟩ := bk2 Z1.out)
      | (go_at_call 14; refine (upTo_any _ _ _).mono ?_; rintro e w' ⟨rfl, rfl⟩))
    obtain ⟨r0, r1, gp⟩ := bk2_put Z1.out (.int .i64 0) (.int .i64 0)
    refine bodyPost_ret (by simp [results, Try.results11, go_sem, r0, r1]; try rfl) rfl ?_
    exact ⟨rfl, gr_from B1.out B1.out.size (Nat.le_succ _) gp⟩
end Go.Proofs.Ytajapgadhgfmcaa
