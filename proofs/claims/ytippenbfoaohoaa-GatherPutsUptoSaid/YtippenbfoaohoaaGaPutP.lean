/- Contracts of package gather: refuse, Put. -/
import Derived.Test.YtippenbfoaohoaaGaTogether
import Derived.Test.YtippenbfoaohoaaGaWiden
import Derived.Test.YtippenbfoaohoaaGatherPutC
namespace Go.Proofs.Ytippenbfoaohoaa
set_option linter.unusedVariables false
open Go.RowKit P

/-- what refuse says -/
def refG (g : Ga) (off n : Int) (fin : Bool) : Int :=
  if faultG g ≠ 0 then faultG g
  else if off < 0 ∨ 4611686018427387903 - n < off then 6
  else if g.final ≠ -1 ∧ (g.final < off + n ∨ fin = true ∧ off + n ≠ g.final) then 12
  else if fin = true ∧ off + n < reachP g.done g.held then 12
  else if g.window < off + n then 11
  else 0
set_option maxRecDepth 100000 in
set_option maxHeartbeats 4000000 in
theorem refuse_any (v : Value) (g : Ga) (off : Int) (n : Nat) (fin : Bool) (w : World) (hv : GaVal w w.heap.size v g) (hw : GaWf g) (hlen : ∀ p ∈ g.held, p.2.length ≤ 140737488355328) (hn : n ≤ 140737488355328) (ho : -9223372036854775808 ≤ off ∧ off ≤ 9223372036854775807) :
    Calls Try.prog 29 #[v, .int .i64 off, .int .i64 n, .bool fin] w fun e w' => e = .returned (.int .i64 (refG g off n fin)) ∧ Below w.heap.size w w' := by
  obtain ⟨s, rfl, hs⟩ := id hv.ex
  obtain ⟨A, c, rfl, hnc, hcm, hrow⟩ := id hs.ex
  have B0 := Lib.hid ((Below.refl w.heap.size w).alloc (Nat.le_refl _) (.cells #[.int .i64 g.done, .slice A g.held.length c, .int .i64 g.final, .int .i64 g.window] 24))
  have F0 := Lib.hid (heap_alloc_new w (.cells #[.int .i64 g.done, .slice A g.held.length c, .int .i64 g.final, .int .i64 g.window] 24))
  have HF := Lib.hid (fun w' (hb : Below w.heap.size w w') => gaChk_any _ g w' (hv.on hb) hw hlen)
  by_cases hf : faultG g = 0
  · have hok := okG_of hf
    have hap := (okG_apG hok).1
    have HRC := Lib.hid (fun w' (hb : Below w.heap.size w w') => reach_any A c g w' ((hrow.below hb).more hb.size) ⟨hnc, hcm⟩ (apG_bd hap hok.1))
    have hx : refG g off n fin = if off < 0 ∨ 4611686018427387903 - (n : Int) < off then 6
  else if g.final ≠ -1 ∧ (g.final < off + n ∨ fin = true ∧ off + n ≠ g.final) then 12
  else if fin = true ∧ off + n < reachP g.done g.held then 12
  else if g.window < off + n then 11
  else 0 := by unfold refG; rw [if_neg (fun e => e hf)]
    rw [hf] at HF
    obtain ⟨X, hX⟩ : ∃ X, refG g off n fin = X := ⟨_, rfl⟩
    rw [hX] at hx ⊢
    obtain ⟨R, hR⟩ : ∃ R, reachP g.done g.held = R := ⟨_, rfl⟩
    rw [hR] at hx HRC
    clear hX hR hv hs hrow hw hlen hf hap hok
    have hw1 : IntKind.i64.wrap (4611686018427387903 - (n : Int)) = 4611686018427387903 - (n : Int) := by rw [IntKind.wrap_i64]; omega
    by_cases c1 : off < 0 ∨ 4611686018427387903 - (n : Int) < off
    · rw [if_pos c1] at hx
      have HX := Lib.hid hx
      clear hx HRC
      by_cases a1 : off < 0
      · clear c1
        go_enter Try.func29, Try.ntmps29
        go_wp2_with (go_at_call 11; refine (HF.out _ B0.out).mono ?_; rintro e w1 ⟨rfl, b1⟩; have B1 := Lib.hid (B0.out.trans (b1.mono B0.out.size)); have F1 := Lib.hid ((b1.block _ (lt_of_block F0.out)).trans F0.out); clear b1; obtain ⟨q0, q1, q2, q3⟩ := bkG F1.out)
        go_ret
        exact ⟨by rw [HX.out]; rfl, B1.out⟩
      · have d1 : decide (off < 0) = false := by simp; omega
        have d2 : decide (4611686018427387903 - (n : Int) < off) = true := by simp; omega
        clear c1
        go_enter Try.func29, Try.ntmps29
        go_wp2_with (go_at_call 11; refine (HF.out _ B0.out).mono ?_; rintro e w1 ⟨rfl, b1⟩; have B1 := Lib.hid (B0.out.trans (b1.mono B0.out.size)); have F1 := Lib.hid ((b1.block _ (lt_of_block F0.out)).trans F0.out); clear b1; obtain ⟨q0, q1, q2, q3⟩ := bkG F1.out)
        go_ret
        exact ⟨by rw [HX.out]; rfl, B1.out⟩
    rw [if_neg c1] at hx
    have d1 : decide (off < 0) = false := by simp; omega
    have d2 : decide (4611686018427387903 - (n : Int) < off) = false := by simp; omega
    have hw2 : IntKind.i64.wrap (off + (n : Int)) = off + (n : Int) := by rw [IntKind.wrap_i64]; omega
    by_cases c2 : g.final ≠ -1 ∧ (g.final < off + n ∨ fin = true ∧ off + n ≠ g.final)
    · rw [if_pos c2] at hx
      have HX := Lib.hid hx
      have d3 : (g.final != -1) = true := by simp [c2.1]
      clear hx HRC c1
      by_cases a1 : g.final < off + n
      · clear c2
        go_enter Try.func29, Try.ntmps29
        go_wp2_with (go_at_call 11; refine (HF.out _ B0.out).mono ?_; rintro e w1 ⟨rfl, b1⟩; have B1 := Lib.hid (B0.out.trans (b1.mono B0.out.size)); have F1 := Lib.hid ((b1.block _ (lt_of_block F0.out)).trans F0.out); clear b1; obtain ⟨q0, q1, q2, q3⟩ := bkG F1.out)
        go_ret
        exact ⟨by rw [HX.out]; rfl, B1.out⟩
      · have d4 : decide (g.final < off + (n : Int)) = false := by simp; omega
        have c3 : fin = true ∧ off + n ≠ g.final := c2.2.resolve_left a1
        have d5 : (off + (n : Int) != g.final) = true := by simp [c3.2]
        obtain ⟨rfl, _⟩ := c3
        clear c2
        go_enter Try.func29, Try.ntmps29
        go_wp2_with (go_at_call 11; refine (HF.out _ B0.out).mono ?_; rintro e w1 ⟨rfl, b1⟩; have B1 := Lib.hid (B0.out.trans (b1.mono B0.out.size)); have F1 := Lib.hid ((b1.block _ (lt_of_block F0.out)).trans F0.out); clear b1; obtain ⟨q0, q1, q2, q3⟩ := bkG F1.out)
        go_ret
        exact ⟨by rw [HX.out]; rfl, B1.out⟩
    rw [if_neg c2] at hx
    clear c1
    obtain ⟨k1, hk1⟩ : ∃ b, (g.final != -1) = b := ⟨_, rfl⟩
    cases fin with
    | true =>
      by_cases a1 : off + (n : Int) < R
      · rw [if_pos ⟨rfl, a1⟩] at hx
        have HX := Lib.hid hx
        clear hx
        by_cases a2 : g.final = -1
        · have d3 : (g.final != -1) = false := by simp [a2]
          clear c2 hk1 a2
          go_enter Try.func29, Try.ntmps29
          go_wp2_with (first | (go_at_call 11; refine (HF.out _ B0.out).mono ?_; rintro e w1 ⟨rfl, b1⟩; have B1 := Lib.hid (B0.out.trans (b1.mono B0.out.size)); have F1 := Lib.hid ((b1.block _ (lt_of_block F0.out)).trans F0.out); clear b1; obtain ⟨q0, q1, q2, q3⟩ := bkG F1.out) | (go_at_call 27; refine (HRC.out _ B1.out).mono ?_; rintro e w2 ⟨rfl, b2⟩; have B2 := Lib.hid (B1.out.trans (b2.mono B1.out.size)); have F2 := Lib.hid ((b2.block _ (lt_of_block F1.out)).trans F1.out); clear b2 q0 q1 q2 q3; obtain ⟨q0, q1, q2, q3⟩ := bkG F2.out))
          go_ret
          exact ⟨by rw [HX.out]; rfl, B2.out⟩
        · have d3 : (g.final != -1) = true := by simp [a2]
          have d4 : decide (g.final < off + (n : Int)) = false := by simp; exact Int.not_lt.1 (fun h => c2 ⟨a2, .inl h⟩)
          have d5 : (off + (n : Int) != g.final) = false := by simp; exact Decidable.byContradiction (fun h => c2 ⟨a2, .inr ⟨rfl, h⟩⟩)
          clear c2 hk1 a2
          go_enter Try.func29, Try.ntmps29
          go_wp2_with (first | (go_at_call 11; refine (HF.out _ B0.out).mono ?_; rintro e w1 ⟨rfl, b1⟩; have B1 := Lib.hid (B0.out.trans (b1.mono B0.out.size)); have F1 := Lib.hid ((b1.block _ (lt_of_block F0.out)).trans F0.out); clear b1; obtain ⟨q0, q1, q2, q3⟩ := bkG F1.out) | (go_at_call 27; refine (HRC.out _ B1.out).mono ?_; rintro e w2 ⟨rfl, b2⟩; have B2 := Lib.hid (B1.out.trans (b2.mono B1.out.size)); have F2 := Lib.hid ((b2.block _ (lt_of_block F1.out)).trans F1.out); clear b2 q0 q1 q2 q3; obtain ⟨q0, q1, q2, q3⟩ := bkG F2.out))
          go_ret
          exact ⟨by rw [HX.out]; rfl, B2.out⟩
      · rw [if_neg (fun h => a1 h.2)] at hx
        have g1 : decide (off + (n : Int) < R) = false := by simp; omega
        obtain ⟨b, hb⟩ : ∃ b, decide (g.window < off + (n : Int)) = b := ⟨_, rfl⟩
        have HX := Lib.hid (show X = if b = true then 11 else 0 from by rw [hx, ← hb]; simp)
        clear hx
        by_cases a2 : g.final = -1
        · have d3 : (g.final != -1) = false := by simp [a2]
          clear c2 hk1 a2
          cases b with
          | true =>
            go_enter Try.func29, Try.ntmps29
            go_wp2_with (first | (go_at_call 11; refine (HF.out _ B0.out).mono ?_; rintro e w1 ⟨rfl, b1⟩; have B1 := Lib.hid (B0.out.trans (b1.mono B0.out.size)); have F1 := Lib.hid ((b1.block _ (lt_of_block F0.out)).trans F0.out); clear b1; obtain ⟨q0, q1, q2, q3⟩ := bkG F1.out) | (go_at_call 27; refine (HRC.out _ B1.out).mono ?_; rintro e w2 ⟨rfl, b2⟩; have B2 := Lib.hid (B1.out.trans (b2.mono B1.out.size)); have F2 := Lib.hid ((b2.block _ (lt_of_block F1.out)).trans F1.out); clear b2 q0 q1 q2 q3; obtain ⟨q0, q1, q2, q3⟩ := bkG F2.out))
            go_ret
            exact ⟨by rw [HX.out]; rfl, B2.out⟩
          | false =>
            go_enter Try.func29, Try.ntmps29
            go_wp2_with (first | (go_at_call 11; refine (HF.out _ B0.out).mono ?_; rintro e w1 ⟨rfl, b1⟩; have B1 := Lib.hid (B0.out.trans (b1.mono B0.out.size)); have F1 := Lib.hid ((b1.block _ (lt_of_block F0.out)).trans F0.out); clear b1; obtain ⟨q0, q1, q2, q3⟩ := bkG F1.out) | (go_at_call 27; refine (HRC.out _ B1.out).mono ?_; rintro e w2 ⟨rfl, b2⟩; have B2 := Lib.hid (B1.out.trans (b2.mono B1.out.size)); have F2 := Lib.hid ((b2.block _ (lt_of_block F1.out)).trans F1.out); clear b2 q0 q1 q2 q3; obtain ⟨q0, q1, q2, q3⟩ := bkG F2.out))
            go_ret
            exact ⟨by rw [HX.out]; rfl, B2.out⟩
        · have d3 : (g.final != -1) = true := by simp [a2]
          have d4 : decide (g.final < off + (n : Int)) = false := by simp; exact Int.not_lt.1 (fun h => c2 ⟨a2, .inl h⟩)
          have d5 : (off + (n : Int) != g.final) = false := by simp; exact Decidable.byContradiction (fun h => c2 ⟨a2, .inr ⟨rfl, h⟩⟩)
          clear c2 hk1 a2
          cases b with
          | true =>
            go_enter Try.func29, Try.ntmps29
            go_wp2_with (first | (go_at_call 11; refine (HF.out _ B0.out).mono ?_; rintro e w1 ⟨rfl, b1⟩; have B1 := Lib.hid (B0.out.trans (b1.mono B0.out.size)); have F1 := Lib.hid ((b1.block _ (lt_of_block F0.out)).trans F0.out); clear b1; obtain ⟨q0, q1, q2, q3⟩ := bkG F1.out) | (go_at_call 27; refine (HRC.out _ B1.out).mono ?_; rintro e w2 ⟨rfl, b2⟩; have B2 := Lib.hid (B1.out.trans (b2.mono B1.out.size)); have F2 := Lib.hid ((b2.block _ (lt_of_block F1.out)).trans F1.out); clear b2 q0 q1 q2 q3; obtain ⟨q0, q1, q2, q3⟩ := bkG F2.out))
            go_ret
            exact ⟨by rw [HX.out]; rfl, B2.out⟩
          | false =>
            go_enter Try.func29, Try.ntmps29
            go_wp2_with (first | (go_at_call 11; refine (HF.out _ B0.out).mono ?_; rintro e w1 ⟨rfl, b1⟩; have B1 := Lib.hid (B0.out.trans (b1.mono B0.out.size)); have F1 := Lib.hid ((b1.block _ (lt_of_block F0.out)).trans F0.out); clear b1; obtain ⟨q0, q1, q2, q3⟩ := bkG F1.out) | (go_at_call 27; refine (HRC.out _ B1.out).mono ?_; rintro e w2 ⟨rfl, b2⟩; have B2 := Lib.hid (B1.out.trans (b2.mono B1.out.size)); have F2 := Lib.hid ((b2.block _ (lt_of_block F1.out)).trans F1.out); clear b2 q0 q1 q2 q3; obtain ⟨q0, q1, q2, q3⟩ := bkG F2.out))
            go_ret
            exact ⟨by rw [HX.out]; rfl, B2.out⟩
    | false =>
      rw [if_neg (fun h => by cases h.1)] at hx
      obtain ⟨b, hb⟩ : ∃ b, decide (g.window < off + (n : Int)) = b := ⟨_, rfl⟩
      have HX := Lib.hid (show X = if b = true then 11 else 0 from by rw [hx, ← hb]; simp)
      clear hx HRC
      by_cases a2 : g.final = -1
      · have d3 : (g.final != -1) = false := by simp [a2]
        clear c2 hk1 a2
        cases b with
        | true =>
          go_enter Try.func29, Try.ntmps29
          go_wp2_with (go_at_call 11; refine (HF.out _ B0.out).mono ?_; rintro e w1 ⟨rfl, b1⟩; have B1 := Lib.hid (B0.out.trans (b1.mono B0.out.size)); have F1 := Lib.hid ((b1.block _ (lt_of_block F0.out)).trans F0.out); clear b1; obtain ⟨q0, q1, q2, q3⟩ := bkG F1.out)
          go_ret
          exact ⟨by rw [HX.out]; rfl, B1.out⟩
        | false =>
          go_enter Try.func29, Try.ntmps29
          go_wp2_with (go_at_call 11; refine (HF.out _ B0.out).mono ?_; rintro e w1 ⟨rfl, b1⟩; have B1 := Lib.hid (B0.out.trans (b1.mono B0.out.size)); have F1 := Lib.hid ((b1.block _ (lt_of_block F0.out)).trans F0.out); clear b1; obtain ⟨q0, q1, q2, q3⟩ := bkG F1.out)
          go_ret
          exact ⟨by rw [HX.out]; rfl, B1.out⟩
      · have d3 : (g.final != -1) = true := by simp [a2]
        have d4 : decide (g.final < off + (n : Int)) = false := by simp; exact Int.not_lt.1 (fun h => c2 ⟨a2, .inl h⟩)
        clear c2 hk1 a2
        cases b with
        | true =>
          go_enter Try.func29, Try.ntmps29
          go_wp2_with (go_at_call 11; refine (HF.out _ B0.out).mono ?_; rintro e w1 ⟨rfl, b1⟩; have B1 := Lib.hid (B0.out.trans (b1.mono B0.out.size)); have F1 := Lib.hid ((b1.block _ (lt_of_block F0.out)).trans F0.out); clear b1; obtain ⟨q0, q1, q2, q3⟩ := bkG F1.out)
          go_ret
          exact ⟨by rw [HX.out]; rfl, B1.out⟩
        | false =>
          go_enter Try.func29, Try.ntmps29
          go_wp2_with (go_at_call 11; refine (HF.out _ B0.out).mono ?_; rintro e w1 ⟨rfl, b1⟩; have B1 := Lib.hid (B0.out.trans (b1.mono B0.out.size)); have F1 := Lib.hid ((b1.block _ (lt_of_block F0.out)).trans F0.out); clear b1; obtain ⟨q0, q1, q2, q3⟩ := bkG F1.out)
          go_ret
          exact ⟨by rw [HX.out]; rfl, B1.out⟩
  · have hx : refG g off n fin = faultG g := by unfold refG; rw [if_pos hf]
    have HX := Lib.hid hx
    obtain ⟨x, hx2⟩ : ∃ x, faultG g = x := ⟨_, rfl⟩
    rw [hx2] at HF hf HX
    have gx : (x != 0) = true := by simp [hf]
    clear hx hx2 hf hv hs hrow hw hlen
    go_enter Try.func29, Try.ntmps29
    go_wp2_with (go_at_call 11; refine (HF.out _ B0.out).mono ?_; rintro e w1 ⟨rfl, b1⟩; have B1 := Lib.hid (B0.out.trans (b1.mono B0.out.size)); have F1 := Lib.hid ((b1.block _ (lt_of_block F0.out)).trans F0.out); clear b1; obtain ⟨q0, q1, q2, q3⟩ := bkG F1.out)
    go_ret
    exact ⟨by rw [HX.out]; rfl, B1.out⟩
end Go.Proofs.Ytippenbfoaohoaa
