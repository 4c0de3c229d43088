/- Contract of package sender's refuse. -/
import Derived.Test.YtnccibaifffhhaaGrpSc
namespace Go.Proofs.Ytnccibaifffhhaa
set_option linter.unusedVariables false
open Go.RowKit P

set_option maxRecDepth 100000 in
set_option maxHeartbeats 2000000 in
theorem snRefuse_any (v : Value) (s : Sn) (off n : Int) (fin : Bool) (w : World) (hv : SnVal w w.heap.size v s) (hw : SnWf s) (hn : -9223372036854775808 ≤ n ∧ n ≤ 9223372036854775807) :
    Calls Try.prog 31 #[v, .int .i64 off, .int .i64 n, .bool fin] w fun e w' => e = .returned (.int .i64 (partF s off n fin)) ∧ Below w.heap.size w w' := by
  obtain ⟨d, l, a, rfl, hd, hl, ha⟩ := hv.ex
  obtain ⟨Ad, cd, rfl, _, _, _, _⟩ := hd.ex
  have HF := Lib.hid (fun w' (hb : Below w.heap.size w w') => snChk_any _ s w' (hv.on hb) hw)
  have HW := Lib.hid (fun w' (hb : Below w.heap.size w w') => whole_any _ s w' (hv.on hb))
  unfold partF
  obtain ⟨fi, hfi⟩ : ∃ x, s.fin = x := ⟨_, rfl⟩
  obtain ⟨nx, hnx⟩ : ∃ x, s.next = x := ⟨_, rfl⟩
  obtain ⟨mx, hmx⟩ : ∃ x, s.mx = x := ⟨_, rfl⟩
  obtain ⟨en, hen⟩ : ∃ x, s.ended = x := ⟨_, rfl⟩
  obtain ⟨ov, hov⟩ : ∃ x, s.over = x := ⟨_, rfl⟩
  obtain ⟨nd, hnd⟩ : ∃ x, s.data.length = x := ⟨_, rfl⟩
  have HK := fun (h : faultSn s = 0) => (fault_iff s).1 h
  rw [hfi, hnx, hmx, hen, hov, hnd] at HF
  rw [hfi, hnx, hmx, hen, hov, hnd] at HW
  rw [hfi, hnx, hmx, hen, hov, hnd]
  have B0 := Lib.hid ((Below.refl w.heap.size w).alloc (Nat.le_refl _) (.cells #[.slice Ad nd cd, .bool fi, .int .i64 nx, .int .i64 mx, l, a, .bool en, .bool ov] 27))
  have F0 := Lib.hid (heap_alloc_new w (.cells #[.slice Ad nd cd, .bool fi, .int .i64 nx, .int .i64 mx, l, a, .bool en, .bool ov] 27))
  by_cases hf : faultSn s = 0
  · have ok := HK hf
    have hk1 := ok.1
    have hk2 := ok.2.1
    rw [hnd] at hk1 hk2
    rw [hnx] at hk2
    rw [if_neg (fun e => e hf)]
    rw [hf] at HF
    clear hv hw hd hl ha hf ok HK hfi hnx hmx hen hov hnd
    by_cases c4 : 0 ≤ off ∧ off ≤ nx ∧ 0 ≤ n ∧ n ≤ nx - off
    · obtain ⟨c0, c1, c2, c3⟩ := c4
      have x1 : IntKind.i64.wrap (nx - off) = nx - off := by rw [IntKind.wrap_i64]; omega
      have x2 : IntKind.i64.wrap (off + n) = off + n := by rw [IntKind.wrap_i64]; omega
      have d0 : decide (n < 0) = false := by simp; omega
      have d1 : decide (off < 0) = false := by simp; omega
      have d2 : decide (nx < off) = false := by simp; omega
      have d3 : decide (nx - off < n) = false := by simp; omega
      cases fin with
      | false =>
        rw [if_neg (by rintro (h | h); exact h ⟨c0, c1, c2, c3⟩; cases h.1)]
        clear c0 c1 c2 c3
        go_enter Try.func31, Try.ntmps31
        go_wp2_with (first
          | (go_at_call 14; refine (HF.out _ B0.out).mono ?_; rintro e w1 ⟨rfl, b1⟩; have B1 := Lib.hid (B0.out.trans (b1.mono B0.out.size)); have F1 := Lib.hid ((b1.block _ (lt_of_block F0.out)).trans F0.out); clear b1; obtain ⟨q0, q1, q2, q3, q4, q5, q6, q7⟩ := bkS F1.out))
        go_ret
        exact ⟨rfl, B1.out⟩
      | true =>
        by_cases e0 : fi = true ∧ nx = (nd : Int)
        · have e1 := decide_eq_true e0
          by_cases e2 : off + n = nx
          · rw [if_neg (by rintro (h | h); exact h ⟨c0, c1, c2, c3⟩; rcases h.2 with h | h | h; rw [e0.1] at h; cases h; exact h e0.2; exact h e2)]
            have e3 : (off + n == nx) = true := by simp only [beq_iff_eq]; exact e2
            have e4 : (off + n != nx) = false := by simp only [bne_eq_false_iff_eq]; exact e2
            clear c0 c1 c2 c3 e2 e0
            go_enter Try.func31, Try.ntmps31
            go_wp2_with (first
              | (go_at_call 14; refine (HF.out _ B0.out).mono ?_; rintro e w1 ⟨rfl, b1⟩; have B1 := Lib.hid (B0.out.trans (b1.mono B0.out.size)); have F1 := Lib.hid ((b1.block _ (lt_of_block F0.out)).trans F0.out); clear b1; obtain ⟨q0, q1, q2, q3, q4, q5, q6, q7⟩ := bkS F1.out)
              | (go_at_call 38; refine (HW.out _ B1.out).mono ?_; rintro e w2 ⟨rfl, b2⟩; have B2 := Lib.hid (B1.out.trans (b2.mono B1.out.size)); have F2 := Lib.hid ((b2.block _ (lt_of_block F1.out)).trans F1.out); clear b2 q0 q1 q2 q3 q4 q5 q6 q7; obtain ⟨q0, q1, q2, q3, q4, q5, q6, q7⟩ := bkS F2.out; rw [e1]))
            go_ret
            exact ⟨rfl, B2.out⟩
          · rw [if_pos (.inr ⟨rfl, .inr (.inr e2)⟩)]
            have e3 : (off + n == nx) = false := by simp only [beq_eq_false_iff_ne, ne_eq]; exact e2
            have e4 : (off + n != nx) = true := by simp only [bne_iff_ne, ne_eq]; exact e2
            clear c0 c1 c2 c3 e2 e0
            go_enter Try.func31, Try.ntmps31
            go_wp2_with (first
              | (go_at_call 14; refine (HF.out _ B0.out).mono ?_; rintro e w1 ⟨rfl, b1⟩; have B1 := Lib.hid (B0.out.trans (b1.mono B0.out.size)); have F1 := Lib.hid ((b1.block _ (lt_of_block F0.out)).trans F0.out); clear b1; obtain ⟨q0, q1, q2, q3, q4, q5, q6, q7⟩ := bkS F1.out)
              | (go_at_call 38; refine (HW.out _ B1.out).mono ?_; rintro e w2 ⟨rfl, b2⟩; have B2 := Lib.hid (B1.out.trans (b2.mono B1.out.size)); have F2 := Lib.hid ((b2.block _ (lt_of_block F1.out)).trans F1.out); clear b2 q0 q1 q2 q3 q4 q5 q6 q7; obtain ⟨q0, q1, q2, q3, q4, q5, q6, q7⟩ := bkS F2.out; rw [e1]))
            go_ret
            exact ⟨rfl, B2.out⟩
        · have e1 := decide_eq_false e0
          rw [if_pos (.inr ⟨rfl, by
            cases hq : fi with
            | false => exact .inl rfl
            | true => exact .inr (.inl fun h => e0 ⟨hq, h⟩)⟩)]
          clear c0 c1 c2 c3 e0
          go_enter Try.func31, Try.ntmps31
          go_wp2_with (first
            | (go_at_call 14; refine (HF.out _ B0.out).mono ?_; rintro e w1 ⟨rfl, b1⟩; have B1 := Lib.hid (B0.out.trans (b1.mono B0.out.size)); have F1 := Lib.hid ((b1.block _ (lt_of_block F0.out)).trans F0.out); clear b1; obtain ⟨q0, q1, q2, q3, q4, q5, q6, q7⟩ := bkS F1.out)
            | (go_at_call 38; refine (HW.out _ B1.out).mono ?_; rintro e w2 ⟨rfl, b2⟩; have B2 := Lib.hid (B1.out.trans (b2.mono B1.out.size)); have F2 := Lib.hid ((b2.block _ (lt_of_block F1.out)).trans F1.out); clear b2 q0 q1 q2 q3 q4 q5 q6 q7; obtain ⟨q0, q1, q2, q3, q4, q5, q6, q7⟩ := bkS F2.out; rw [e1]))
          go_ret
          exact ⟨rfl, B2.out⟩
    · rw [if_pos (.inl c4)]
      by_cases c2 : n < 0
      · have d0 : decide (n < 0) = true := decide_eq_true c2
        clear c4
        go_enter Try.func31, Try.ntmps31
        go_wp2_with (first
          | (go_at_call 14; refine (HF.out _ B0.out).mono ?_; rintro e w1 ⟨rfl, b1⟩; have B1 := Lib.hid (B0.out.trans (b1.mono B0.out.size)); have F1 := Lib.hid ((b1.block _ (lt_of_block F0.out)).trans F0.out); clear b1; obtain ⟨q0, q1, q2, q3, q4, q5, q6, q7⟩ := bkS F1.out))
        go_ret
        exact ⟨rfl, B1.out⟩
      · have d0 : decide (n < 0) = false := decide_eq_false c2
        by_cases c0 : off < 0
        · have d1 : decide (off < 0) = true := decide_eq_true c0
          clear c4
          go_enter Try.func31, Try.ntmps31
          go_wp2_with (first
            | (go_at_call 14; refine (HF.out _ B0.out).mono ?_; rintro e w1 ⟨rfl, b1⟩; have B1 := Lib.hid (B0.out.trans (b1.mono B0.out.size)); have F1 := Lib.hid ((b1.block _ (lt_of_block F0.out)).trans F0.out); clear b1; obtain ⟨q0, q1, q2, q3, q4, q5, q6, q7⟩ := bkS F1.out))
          go_ret
          exact ⟨rfl, B1.out⟩
        · have d1 : decide (off < 0) = false := decide_eq_false c0
          by_cases c1 : nx < off
          · have d2 : decide (nx < off) = true := decide_eq_true c1
            clear c4
            go_enter Try.func31, Try.ntmps31
            go_wp2_with (first
              | (go_at_call 14; refine (HF.out _ B0.out).mono ?_; rintro e w1 ⟨rfl, b1⟩; have B1 := Lib.hid (B0.out.trans (b1.mono B0.out.size)); have F1 := Lib.hid ((b1.block _ (lt_of_block F0.out)).trans F0.out); clear b1; obtain ⟨q0, q1, q2, q3, q4, q5, q6, q7⟩ := bkS F1.out))
            go_ret
            exact ⟨rfl, B1.out⟩
          · have d2 : decide (nx < off) = false := decide_eq_false c1
            have x1 : IntKind.i64.wrap (nx - off) = nx - off := by rw [IntKind.wrap_i64]; omega
            have d3 : decide (nx - off < n) = true := by simp; omega
            clear c4
            go_enter Try.func31, Try.ntmps31
            go_wp2_with (first
              | (go_at_call 14; refine (HF.out _ B0.out).mono ?_; rintro e w1 ⟨rfl, b1⟩; have B1 := Lib.hid (B0.out.trans (b1.mono B0.out.size)); have F1 := Lib.hid ((b1.block _ (lt_of_block F0.out)).trans F0.out); clear b1; obtain ⟨q0, q1, q2, q3, q4, q5, q6, q7⟩ := bkS F1.out))
            go_ret
            exact ⟨rfl, B1.out⟩
  · rw [if_pos hf]
    clear hv hw hd hl ha HK hfi hnx hmx hen hov hnd
    obtain ⟨x, hx⟩ : ∃ x, faultSn s = x := ⟨_, rfl⟩
    rw [hx] at HF hf ⊢
    have gx : (x != 0) = true := by simp [hf]
    clear hx hf
    go_enter Try.func31, Try.ntmps31
    go_wp2_with (first
      | (go_at_call 14; refine (HF.out _ B0.out).mono ?_; rintro e w1 ⟨rfl, b1⟩; have B1 := Lib.hid (B0.out.trans (b1.mono B0.out.size)); have F1 := Lib.hid ((b1.block _ (lt_of_block F0.out)).trans F0.out); clear b1; obtain ⟨q0, q1, q2, q3, q4, q5, q6, q7⟩ := bkS F1.out))
    go_ret
    exact ⟨rfl, B1.out⟩
end Go.Proofs.Ytnccibaifffhhaa
