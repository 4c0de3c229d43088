/- Contracts of package sender: Check. -/
import Derived.Test.YtkmkcpjmhcpjpaaSnSets
import Derived.Test.YtkmkcpjmhcpjpaaSnApart
namespace Go.Proofs.Ytkmkcpjmhcpjpaa
set_option linter.unusedVariables false
open Go.RowKit P

/-- what Check asks, in its order -/
theorem faultSn_eq (s : Sn) : faultSn s = if 600 < s.data.length ∨ s.next < 0 ∨ (s.data.length : Int) < s.next then 9 else if s.mx < s.next ∨ 4611686018427387903 < s.mx then 9 else if ¬ setsP s ∨ lapL s.lost s.acked = true then 9 else if s.ended = true ∧ s.over = true then 9 else if (s.ended = true ∨ s.over = true) ∧ ¬(s.fin = true ∧ s.next = s.data.length) then 9 else 0 := by
  unfold faultSn
  by_cases h : okSn s
  · rw [if_pos h]
    obtain ⟨k1, k2, k3, k4, k5, k6, k7, k8, k9, k10⟩ := h
    rw [if_neg (by omega), if_neg (by omega), if_neg (by rw [k10]; simp only [Bool.false_eq_true, or_false]; exact fun e => e ⟨⟨k4, k8⟩, k5, k9⟩), if_neg k6, if_neg (fun e => e.2 (k7 e.1))]
  · rw [if_neg h]
    by_cases c1 : 600 < s.data.length ∨ s.next < 0 ∨ (s.data.length : Int) < s.next
    · rw [if_pos c1]
    rw [if_neg c1]
    by_cases c2 : s.mx < s.next ∨ 4611686018427387903 < s.mx
    · rw [if_pos c2]
    rw [if_neg c2]
    by_cases c3 : ¬ setsP s ∨ lapL s.lost s.acked = true
    · rw [if_pos c3]
    rw [if_neg c3]
    by_cases c4 : s.ended = true ∧ s.over = true
    · rw [if_pos c4]
    rw [if_neg c4]
    by_cases c5 : (s.ended = true ∨ s.over = true) ∧ ¬(s.fin = true ∧ s.next = s.data.length)
    · rw [if_pos c5]
    exfalso
    have hs : setsP s := Decidable.byContradiction fun e => c3 (.inl e)
    have hl : lapL s.lost s.acked = false := by cases e : lapL s.lost s.acked with | false => rfl | true => exact absurd (.inr e) c3
    exact h ⟨by omega, by omega, by omega, hs.1.1, hs.2.1, c4, fun e => Decidable.byContradiction fun k => c5 ⟨e, k⟩, hs.1.2, hs.2.2, hl⟩
set_option maxRecDepth 100000 in
set_option maxHeartbeats 2000000 in
theorem snChk_any : SnChk Try.prog 22 := by
  intro v s w hv hw
  have HSv := Lib.hid (fun w' (hb : Below w.heap.size w w') => sets_any v s w' (hv.on hb) hw)
  have HWv := Lib.hid (fun w' (hb : Below w.heap.size w w') => whole_any v s w' (hv.on hb))
  obtain ⟨d, l, a, rfl, hd, hl, ha⟩ := hv.ex
  obtain ⟨Ad, cd, rfl, hdc, hdm, hdn, hdr⟩ := hd.ex
  obtain ⟨Al, cl, rfl, hlc, hlm, hlr⟩ := hl.ex
  obtain ⟨Aa, ca, rfl, hac, ham, har⟩ := ha.ex
  have hf := faultSn_eq s
  have B0 := Lib.hid ((Below.refl w.heap.size w).alloc (Nat.le_refl _) (.cells #[.slice Ad s.data.length cd, .bool s.fin, .int .i64 s.next, .int .i64 s.mx, .slice Al s.lost.length cl, .slice Aa s.acked.length ca, .bool s.ended, .bool s.over] 27))
  have F0 := Lib.hid (heap_alloc_new w (.cells #[.slice Ad s.data.length cd, .bool s.fin, .int .i64 s.next, .int .i64 s.mx, .slice Al s.lost.length cl, .slice Aa s.acked.length ca, .bool s.ended, .bool s.over] 27))
  have HAP := Lib.hid (fun w' (hb : Below w.heap.size w w') (h : setsP s) => apart_any Al Aa s.lost.length cl s.acked.length ca s.lost s.acked w' (hlr.on hb) rfl ⟨hlc, hlm⟩ h.1.1 (har.on hb) rfl ⟨hac, ham⟩ h.2.1)
  have HP := Lib.hid (show setsP s = setsP s from rfl)
  obtain ⟨nd, hnd⟩ : ∃ n, s.data.length = n := ⟨_, rfl⟩
  obtain ⟨nl, hnl⟩ : ∃ n, s.lost.length = n := ⟨_, rfl⟩
  obtain ⟨na, hna⟩ : ∃ n, s.acked.length = n := ⟨_, rfl⟩
  obtain ⟨nx, hnx⟩ : ∃ n, s.next = n := ⟨_, rfl⟩
  obtain ⟨mx, hmx⟩ : ∃ n, s.mx = n := ⟨_, rfl⟩
  obtain ⟨fin, hfin⟩ : ∃ n, s.fin = n := ⟨_, rfl⟩
  obtain ⟨en, hen⟩ : ∃ n, s.ended = n := ⟨_, rfl⟩
  obtain ⟨ov, hov⟩ : ∃ n, s.over = n := ⟨_, rfl⟩
  obtain ⟨L, hL⟩ : ∃ n, lapL s.lost s.acked = n := ⟨_, rfl⟩
  rw [hnd, hnl, hna, hnx, hmx, hfin, hen, hov] at B0 F0 HSv HWv
  rw [hnl, hna, hL] at HAP
  rw [hnd, hnx, hmx, hfin, hen, hov, hL] at hf
  rw [hnd, hnl, hna, hnx, hmx, hfin, hen, hov]
  obtain ⟨R, hR⟩ : ∃ R, faultSn s = R := ⟨_, rfl⟩
  rw [hR] at hf ⊢
  clear hv hw hd hl ha hdr hlr har hdn hdc hdm hlc hlm hac ham hnd hnl hna hnx hmx hfin hen hov hL hR HP
  by_cases c1 : 600 < nd ∨ nx < 0 ∨ (nd : Int) < nx
  · rw [if_pos c1] at hf
    have HF := Lib.hid hf
    clear hf HSv HWv HAP F0
    by_cases a1 : 600 < nd
    · have d1 : decide (600 < (nd : Int)) = true := by simp; omega
      clear c1
      go_enter Try.func22, Try.ntmps22
      go_wp2
      go_ret
      exact ⟨by rw [HF.out]; rfl, B0.out⟩
    · have d1 : decide (600 < (nd : Int)) = false := by simp; omega
      by_cases a2 : nx < 0
      · have d2 : decide (nx < 0) = true := by simp [a2]
        clear c1
        go_enter Try.func22, Try.ntmps22
        go_wp2
        go_ret
        exact ⟨by rw [HF.out]; rfl, B0.out⟩
      · have d2 : decide (nx < 0) = false := by simp; omega
        have d3 : decide ((nd : Int) < nx) = true := by simp; omega
        clear c1
        go_enter Try.func22, Try.ntmps22
        go_wp2
        go_ret
        exact ⟨by rw [HF.out]; rfl, B0.out⟩
  rw [if_neg c1] at hf
  have d1 : decide (600 < (nd : Int)) = false := by simp; omega
  have d2 : decide (nx < 0) = false := by simp; omega
  have d3 : decide ((nd : Int) < nx) = false := by simp; omega
  by_cases c2 : mx < nx ∨ 4611686018427387903 < mx
  · rw [if_pos c2] at hf
    have HF := Lib.hid hf
    clear hf HSv HWv HAP F0 c1
    by_cases a1 : mx < nx
    · have d4 : decide (mx < nx) = true := by simp [a1]
      clear c2
      go_enter Try.func22, Try.ntmps22
      go_wp2
      go_ret
      exact ⟨by rw [HF.out]; rfl, B0.out⟩
    · have d4 : decide (mx < nx) = false := by simp; omega
      have d5 : decide (4611686018427387903 < mx) = true := by simp; omega
      clear c2
      go_enter Try.func22, Try.ntmps22
      go_wp2
      go_ret
      exact ⟨by rw [HF.out]; rfl, B0.out⟩
  rw [if_neg c2] at hf
  have d4 : decide (mx < nx) = false := by simp; omega
  have d5 : decide (4611686018427387903 < mx) = false := by simp; omega
  clear c1 c2
  by_cases c3 : setsP s
  · have e3 : decide (setsP s) = true := decide_eq_true c3
    rw [e3] at HSv
    have HAQ := Lib.hid (fun w' hb => HAP.out w' hb c3)
    clear HAP
    cases L with
    | true =>
      rw [if_pos (.inr rfl)] at hf
      have HF := Lib.hid hf
      clear hf HWv c3 e3
      go_enter Try.func22, Try.ntmps22
      go_wp2_with (first
        | (go_at_call 59; refine (HSv.out _ B0.out).mono ?_; rintro e w1 ⟨rfl, b1⟩; have B1 := Lib.hid (B0.out.trans (b1.mono B0.out.size)); have F1 := Lib.hid ((b1.block _ (lt_of_block F0.out)).trans F0.out); clear b1; obtain ⟨q0, q1, q2, q3, q4, q5, q6, q7⟩ := bkS F1.out)
        | (go_at_call 60; refine (HAQ.out _ B1.out).mono ?_; rintro e w2 ⟨rfl, b2⟩; have B2 := Lib.hid (B1.out.trans (b2.mono B1.out.size)); clear b2))
      go_ret
      exact ⟨by rw [HF.out]; rfl, B2.out⟩
    | false =>
      rw [if_neg (fun h => h.elim (fun h => h c3) (fun h => by cases h))] at hf
      cases en with
      | true => cases ov with
        | true =>
          rw [if_pos ⟨rfl, rfl⟩] at hf
          have HF := Lib.hid hf
          clear hf HWv c3 e3
          go_enter Try.func22, Try.ntmps22
          go_wp2_with (first
            | (go_at_call 59; refine (HSv.out _ B0.out).mono ?_; rintro e w1 ⟨rfl, b1⟩; have B1 := Lib.hid (B0.out.trans (b1.mono B0.out.size)); have F1 := Lib.hid ((b1.block _ (lt_of_block F0.out)).trans F0.out); clear b1; obtain ⟨q0, q1, q2, q3, q4, q5, q6, q7⟩ := bkS F1.out)
            | (go_at_call 60; refine (HAQ.out _ B1.out).mono ?_; rintro e w2 ⟨rfl, b2⟩; have B2 := Lib.hid (B1.out.trans (b2.mono B1.out.size)); have F2 := Lib.hid ((b2.block _ (lt_of_block F1.out)).trans F1.out); clear b2; obtain ⟨r0, r1, r2, r3, r4, r5, r6, r7⟩ := bkS F2.out))
          go_ret
          exact ⟨by rw [HF.out]; rfl, B2.out⟩
        | false =>
          have HWW := Lib.hid HWv.out
          clear HWv
          by_cases c5 : fin = true ∧ nx = nd
          · rw [if_neg (fun h => by cases h.1 <;> cases h.2), if_neg (fun h => h.2 c5)] at hf
            have HF := Lib.hid hf
            have e5 : decide (fin = true ∧ nx = (nd : Int)) = true := decide_eq_true c5
            rw [e5] at HWW
            clear hf c3 e3 c5 e5
            go_enter Try.func22, Try.ntmps22
            go_wp2_with (first
              | (go_at_call 59; refine (HSv.out _ B0.out).mono ?_; rintro e w1 ⟨rfl, b1⟩; have B1 := Lib.hid (B0.out.trans (b1.mono B0.out.size)); have F1 := Lib.hid ((b1.block _ (lt_of_block F0.out)).trans F0.out); clear b1; obtain ⟨q0, q1, q2, q3, q4, q5, q6, q7⟩ := bkS F1.out)
              | (go_at_call 60; refine (HAQ.out _ B1.out).mono ?_; rintro e w2 ⟨rfl, b2⟩; have B2 := Lib.hid (B1.out.trans (b2.mono B1.out.size)); have F2 := Lib.hid ((b2.block _ (lt_of_block F1.out)).trans F1.out); clear b2; obtain ⟨r0, r1, r2, r3, r4, r5, r6, r7⟩ := bkS F2.out)
              | (go_at_call 61; refine (HWW.out _ B2.out).mono ?_; rintro e w3 ⟨rfl, b3⟩; have B3 := Lib.hid (B2.out.trans (b3.mono B2.out.size)); clear b3))
            go_ret
            exact ⟨by rw [HF.out]; rfl, B3.out⟩
          · rw [if_neg (fun h => by cases h.1 <;> cases h.2), if_pos ⟨by simp, c5⟩] at hf
            have HF := Lib.hid hf
            have e5 : decide (fin = true ∧ nx = (nd : Int)) = false := decide_eq_false c5
            rw [e5] at HWW
            clear hf c3 e3 c5 e5
            go_enter Try.func22, Try.ntmps22
            go_wp2_with (first
              | (go_at_call 59; refine (HSv.out _ B0.out).mono ?_; rintro e w1 ⟨rfl, b1⟩; have B1 := Lib.hid (B0.out.trans (b1.mono B0.out.size)); have F1 := Lib.hid ((b1.block _ (lt_of_block F0.out)).trans F0.out); clear b1; obtain ⟨q0, q1, q2, q3, q4, q5, q6, q7⟩ := bkS F1.out)
              | (go_at_call 60; refine (HAQ.out _ B1.out).mono ?_; rintro e w2 ⟨rfl, b2⟩; have B2 := Lib.hid (B1.out.trans (b2.mono B1.out.size)); have F2 := Lib.hid ((b2.block _ (lt_of_block F1.out)).trans F1.out); clear b2; obtain ⟨r0, r1, r2, r3, r4, r5, r6, r7⟩ := bkS F2.out)
              | (go_at_call 61; refine (HWW.out _ B2.out).mono ?_; rintro e w3 ⟨rfl, b3⟩; have B3 := Lib.hid (B2.out.trans (b3.mono B2.out.size)); clear b3))
            go_ret
            exact ⟨by rw [HF.out]; rfl, B3.out⟩
      | false => cases ov with
        | true =>
          have HWW := Lib.hid HWv.out
          clear HWv
          by_cases c5 : fin = true ∧ nx = nd
          · rw [if_neg (fun h => by cases h.1 <;> cases h.2), if_neg (fun h => h.2 c5)] at hf
            have HF := Lib.hid hf
            have e5 : decide (fin = true ∧ nx = (nd : Int)) = true := decide_eq_true c5
            rw [e5] at HWW
            clear hf c3 e3 c5 e5
            go_enter Try.func22, Try.ntmps22
            go_wp2_with (first
              | (go_at_call 59; refine (HSv.out _ B0.out).mono ?_; rintro e w1 ⟨rfl, b1⟩; have B1 := Lib.hid (B0.out.trans (b1.mono B0.out.size)); have F1 := Lib.hid ((b1.block _ (lt_of_block F0.out)).trans F0.out); clear b1; obtain ⟨q0, q1, q2, q3, q4, q5, q6, q7⟩ := bkS F1.out)
              | (go_at_call 60; refine (HAQ.out _ B1.out).mono ?_; rintro e w2 ⟨rfl, b2⟩; have B2 := Lib.hid (B1.out.trans (b2.mono B1.out.size)); have F2 := Lib.hid ((b2.block _ (lt_of_block F1.out)).trans F1.out); clear b2; obtain ⟨r0, r1, r2, r3, r4, r5, r6, r7⟩ := bkS F2.out)
              | (go_at_call 61; refine (HWW.out _ B2.out).mono ?_; rintro e w3 ⟨rfl, b3⟩; have B3 := Lib.hid (B2.out.trans (b3.mono B2.out.size)); clear b3))
            go_ret
            exact ⟨by rw [HF.out]; rfl, B3.out⟩
          · rw [if_neg (fun h => by cases h.1 <;> cases h.2), if_pos ⟨by simp, c5⟩] at hf
            have HF := Lib.hid hf
            have e5 : decide (fin = true ∧ nx = (nd : Int)) = false := decide_eq_false c5
            rw [e5] at HWW
            clear hf c3 e3 c5 e5
            go_enter Try.func22, Try.ntmps22
            go_wp2_with (first
              | (go_at_call 59; refine (HSv.out _ B0.out).mono ?_; rintro e w1 ⟨rfl, b1⟩; have B1 := Lib.hid (B0.out.trans (b1.mono B0.out.size)); have F1 := Lib.hid ((b1.block _ (lt_of_block F0.out)).trans F0.out); clear b1; obtain ⟨q0, q1, q2, q3, q4, q5, q6, q7⟩ := bkS F1.out)
              | (go_at_call 60; refine (HAQ.out _ B1.out).mono ?_; rintro e w2 ⟨rfl, b2⟩; have B2 := Lib.hid (B1.out.trans (b2.mono B1.out.size)); have F2 := Lib.hid ((b2.block _ (lt_of_block F1.out)).trans F1.out); clear b2; obtain ⟨r0, r1, r2, r3, r4, r5, r6, r7⟩ := bkS F2.out)
              | (go_at_call 61; refine (HWW.out _ B2.out).mono ?_; rintro e w3 ⟨rfl, b3⟩; have B3 := Lib.hid (B2.out.trans (b3.mono B2.out.size)); clear b3))
            go_ret
            exact ⟨by rw [HF.out]; rfl, B3.out⟩
        | false =>
          rw [if_neg (fun h => by cases h.1), if_neg (fun h => h.1.elim (fun h => by cases h) (fun h => by cases h))] at hf
          have HF := Lib.hid hf
          clear hf HWv c3 e3
          go_enter Try.func22, Try.ntmps22
          go_wp2_with (first
            | (go_at_call 59; refine (HSv.out _ B0.out).mono ?_; rintro e w1 ⟨rfl, b1⟩; have B1 := Lib.hid (B0.out.trans (b1.mono B0.out.size)); have F1 := Lib.hid ((b1.block _ (lt_of_block F0.out)).trans F0.out); clear b1; obtain ⟨q0, q1, q2, q3, q4, q5, q6, q7⟩ := bkS F1.out)
            | (go_at_call 60; refine (HAQ.out _ B1.out).mono ?_; rintro e w2 ⟨rfl, b2⟩; have B2 := Lib.hid (B1.out.trans (b2.mono B1.out.size)); have F2 := Lib.hid ((b2.block _ (lt_of_block F1.out)).trans F1.out); clear b2; obtain ⟨r0, r1, r2, r3, r4, r5, r6, r7⟩ := bkS F2.out))
          go_ret
          exact ⟨by rw [HF.out]; rfl, B2.out⟩
  · have e3 : decide (setsP s) = false := decide_eq_false c3
    rw [e3] at HSv
    rw [if_pos (.inl c3)] at hf
    have HF := Lib.hid hf
    clear hf HWv HAP c3 e3
    go_enter Try.func22, Try.ntmps22
    go_wp2_with (go_at_call 59; refine (HSv.out _ B0.out).mono ?_; rintro e w1 ⟨rfl, b1⟩; have B1 := Lib.hid (B0.out.trans (b1.mono B0.out.size)); clear b1)
    go_ret
    exact ⟨by rw [HF.out]; rfl, B1.out⟩
end Go.Proofs.Ytkmkcpjmhcpjpaa
