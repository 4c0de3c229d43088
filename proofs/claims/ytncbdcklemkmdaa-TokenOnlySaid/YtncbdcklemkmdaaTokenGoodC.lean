/- The walks of TokenGood and TokenApart, over what is asked of Make and Check. -/
import Derived.Test.YtncbdcklemkmdaaTkMath
import Derived.Test.YtncbdcklemkmdaaOwnB
import Derived.Test.YtncbdcklemkmdaaPick
namespace Go.Proofs.Ytncbdcklemkmdaa
set_option linter.unusedVariables false
open Go.RowKit P

/-- a token that is made in its time -/
theorem tokMake_ok {P' : Program} {f : FuncId} {E : TypeId} (hM : TokMake P' f E) (s : Nat) (hs : s < 18446744073709551616) (a t : Int) (t0 : 0 ≤ t) (t1 : t ≤ 1099511627776) (w : World) :
    Calls P' f #[.int .u64 s, .int .i64 a, .int .i64 t] w fun e w' => Below w.heap.size w w' ∧ ∃ d, e = .returned (.tuple #[d, .int .i64 0]) ∧ w'.ownsRow w.heap.size E 1 d 16 ((tokL s a t).map (.int .u8)) := by
  have h := hM s a t w hs ⟨by omega, by omega⟩
  have he : tokE t = 0 := if_pos ⟨t0, t1⟩
  rw [he, if_pos rfl, tokL_len] at h
  exact h
set_option maxHeartbeats 1000000 in
theorem tokenGood_core (hM : TokMake Try.prog 8 5) (hC : TokChk Try.prog 11) (x a now later : Int) (W : World) :
    Calls Try.prog 5 #[.int .i64 x, .int .i64 a, .int .i64 now, .int .i64 later] W fun e w' => e = .returned (.bool true) ∧ Below W.heap.size W w' := by
  have hw : IntKind.u64.wrap x = (wd x : Int) := by rw [IntKind.wrap_u64]; unfold wd; omega
  have hk := wd_lt x
  obtain ⟨s, hs⟩ : ∃ s, wd x = s := ⟨_, rfl⟩
  rw [hs] at hw hk
  obtain ⟨t, ht⟩ : ∃ t, now % 1073741824 = t := ⟨_, rfl⟩
  obtain ⟨d, hd⟩ : ∃ d, later % 200 = d := ⟨_, rfl⟩
  have t0 : 0 ≤ t := by omega
  have t1 : t < 1073741824 := by omega
  have d0 : 0 ≤ d := by omega
  have d1 : d < 200 := by omega
  have HPT := Lib.hid (fun w => ht ▸ picked_any now 1073741824 (by omega) (by omega) w)
  have HPD := Lib.hid (fun w => hd ▸ picked_any later 200 (by omega) (by omega) w)
  have HM := Lib.hid (fun w => tokMake_ok hM s hk a t t0 (by omega) w)
  have HMB : Hid (∀ w, Calls Try.prog 8 #[.int .u64 s, .int .i64 a, .int .i64 (-1)] w fun e w' => Below w.heap.size w w' ∧ ∃ d, e = .returned (.tuple #[d, .int .i64 6]) ∧ BSl w' w'.heap.size d []) := Lib.hid (fun w => (hM s a (-1) w hk ⟨by omega, by omega⟩).mono fun e w' ⟨hb, d, h1, h2⟩ => by
    rw [show tokE (-1) = 6 from rfl] at h1 h2
    exact ⟨hb, d, h1, own_bsl h2 Byt.nil⟩)
  have hgood := tokF_good s a t (t + d) t0 (by omega) (by omega) (by omega)
  rw [show t + d - t = d by omega] at hgood
  have hlen := tokL_len s a t
  have hby := tokL_byt s a t
  have HC1 := Lib.hid (fun v w (h : BSl w w.heap.size v (tokL s a t)) => hgood ▸ hC s a (t + d) v (tokL s a t) w hk ⟨by omega, by omega⟩ h (by omega))
  have HC2 : Hid (∀ v w, BSl w w.heap.size v ((tokL s a t).take 15) → Calls Try.prog 11 #[.int .u64 s, .int .i64 a, .int .i64 t, v] w fun e w' => e = .returned (.int .i64 3) ∧ Below w.heap.size w w') := Lib.hid (fun v w h => by
    have := hC s a t v ((tokL s a t).take 15) w hk ⟨by omega, by omega⟩ h (by rw [List.length_take]; omega)
    rwa [show tokF s a t ((tokL s a t).take 15) = 3 by unfold tokF; rw [if_neg (by omega), if_pos (by rw [List.length_take]; omega)]] at this)
  obtain ⟨X, hX⟩ : ∃ X, tokL s a t = X := ⟨_, rfl⟩
  rw [hX] at HM HC1 HC2 hlen hby
  have HLEN := Lib.hid hlen
  have HBY := Lib.hid hby
  have hwa : IntKind.i64.wrap (t + d) = t + d := by rw [IntKind.wrap_i64]; omega
  clear hM hC hgood hX hs hlen hby ht hd
  obtain ⟨q, hq⟩ : ∃ q : Int, (if d ≤ 50 then (0 : Int) else 16) = q := ⟨_, rfl⟩
  rw [hq] at HC1
  have HQ := Lib.hid hq
  clear hq
  go_enter Try.func5, Try.ntmps5
  go_wp2_with fail
  refine (HPT.out _).mono ?_
  rintro e w' ⟨rfl, rfl⟩
  go_wp2_with fail
  refine (HPD.out _).mono ?_
  rintro e w' ⟨rfl, rfl⟩
  go_wp2_with fail
  refine (HM.out _).mono ?_
  rintro e w1 ⟨b1, v1, rfl, o1⟩
  obtain ⟨A1, c1, rfl, h31, h32⟩ := own_slice o1
  have R1 := Lib.hid (own_bsl o1 HBY.out)
  have B1 := Lib.hid b1
  clear b1 o1
  go_wp2_with fail
  refine (HC1.out _ _ R1.out).mono ?_
  rintro e w2 ⟨rfl, b2⟩
  have B2 := Lib.hid (B1.out.trans (b2.mono B1.out.size))
  have R2 := Lib.hid (R1.out.on b2)
  clear b2
  go_wp2_with fail
  have R15 : BSl w2 w2.heap.size (.slice A1 15 c1) (X.take 15) := by
    obtain ⟨Aq, cq, eq, q1, q2, q3, q4⟩ := R2.out.ex
    injection eq with e1 e2 e3
    subst e1 e3
    exact ⟨A1, c1, by rw [List.length_take, HLEN.out]; rfl, by rw [List.length_take]; omega, q2, q3, q4.take _⟩
  refine (HC2.out _ _ R15).mono ?_
  rintro e w3 ⟨rfl, b3⟩
  have B3 := Lib.hid (B2.out.trans (b3.mono B2.out.size))
  clear b3 R15
  go_wp2_with fail
  refine (HMB.out _).mono ?_
  rintro e w4 ⟨b4, v4, rfl, hv4⟩
  obtain ⟨A4, c4, rfl, _, _, _, _⟩ := hv4.ex
  have B4 := Lib.hid (B3.out.trans (b4.mono B3.out.size))
  clear b4 hv4
  by_cases k : d ≤ 50
  · have hq0 : q = 0 := by rw [← HQ.out, if_pos k]
    subst hq0
    go_wp2_with fail
    go_ret
    exact ⟨by first | rfl | simp, B4.out⟩
  · have hq0 : q = 16 := by rw [← HQ.out, if_neg k]
    subst hq0
    have k' : 50 < d := by omega
    go_wp2_with fail
    go_ret
    exact ⟨by first | rfl | simp, B4.out⟩
set_option maxHeartbeats 1000000 in
theorem tokenApart_core (hM : TokMake Try.prog 8 5) (x a b now then_ : Int) (ha : -9223372036854775808 ≤ a ∧ a ≤ 9223372036854775807) (hb : -9223372036854775808 ≤ b ∧ b ≤ 9223372036854775807) (W : World) :
    Calls Try.prog 7 #[.int .i64 x, .int .i64 a, .int .i64 b, .int .i64 now, .int .i64 then_] W fun e w' => e = .returned (.bool true) ∧ Below W.heap.size W w' := by
  have hw : IntKind.u64.wrap x = (wd x : Int) := by rw [IntKind.wrap_u64]; unfold wd; omega
  have hk := wd_lt x
  obtain ⟨s, hs⟩ : ∃ s, wd x = s := ⟨_, rfl⟩
  rw [hs] at hw hk
  obtain ⟨t, ht⟩ : ∃ t, now % 1073741824 = t := ⟨_, rfl⟩
  obtain ⟨u, hu⟩ : ∃ u, then_ % 1073741824 = u := ⟨_, rfl⟩
  have t0 : 0 ≤ t := by omega
  have t1 : t < 1073741824 := by omega
  have u0 : 0 ≤ u := by omega
  have u1 : u < 1073741824 := by omega
  have HPT := Lib.hid (fun w => ht ▸ picked_any now 1073741824 (by omega) (by omega) w)
  have HPU := Lib.hid (fun w => hu ▸ picked_any then_ 1073741824 (by omega) (by omega) w)
  have HM1 := Lib.hid (fun w => tokMake_ok hM s hk a t t0 (by omega) w)
  have HM2 := Lib.hid (fun w => tokMake_ok hM s hk b u u0 (by omega) w)
  have HX1 := Lib.hid (tokL_byt s a t)
  have HX2 := Lib.hid (tokL_byt s b u)
  have HL1 := Lib.hid (tokL_len s a t)
  have HL2 := Lib.hid (tokL_len s b u)
  have hin : tokL s a t = tokL s b u ↔ (a = b ∧ t = u) := ⟨fun h => tokL_inj ha hb t0 (by omega) u0 (by omega) h, fun ⟨h1, h2⟩ => by rw [h1, h2]⟩
  obtain ⟨X, hX⟩ : ∃ X, tokL s a t = X := ⟨_, rfl⟩
  obtain ⟨Y, hY⟩ : ∃ Y, tokL s b u = Y := ⟨_, rfl⟩
  rw [hX] at HM1 HX1 HL1 hin
  rw [hY] at HM2 HX2 HL2 hin
  have hres : ((strOfNums X).toList == (strOfNums Y).toList) = ((a == b) && (t == u)) := by
    rw [tk_eqB HX1.out HX2.out]
    by_cases h : X = Y
    · have := hin.1 h
      rw [decide_eq_true h, this.1, this.2]; simp
    · rw [decide_eq_false h]
      have : ¬ (a = b ∧ t = u) := fun e => h (hin.2 e)
      symm
      simp only [Bool.and_eq_false_iff, beq_eq_false_iff_ne]
      by_cases e : a = b
      · exact .inr (fun e2 => this ⟨e, e2⟩)
      · exact .inl e
  have HRES := Lib.hid hres
  clear hM hs ht hu hX hY hin hres
  go_enter Try.func7, Try.ntmps7
  go_wp2_with fail
  refine (HPT.out _).mono ?_
  rintro e w' ⟨rfl, rfl⟩
  go_wp2_with fail
  refine (HPU.out _).mono ?_
  rintro e w' ⟨rfl, rfl⟩
  go_wp2_with fail
  refine (HM1.out _).mono ?_
  rintro e w1 ⟨b1, v1, rfl, o1⟩
  obtain ⟨A1, c1, rfl, _, _⟩ := own_slice o1
  have R1 := Lib.hid (own_brow o1 HX1.out)
  have B1 := Lib.hid b1
  clear b1 o1
  go_wp2_with fail
  refine (HM2.out _).mono ?_
  rintro e w2 ⟨b2, v2, rfl, o2⟩
  obtain ⟨A2, c2, rfl, _, _⟩ := own_slice o2
  have R2 := Lib.hid (own_brow o2 HX2.out)
  have B2 := Lib.hid (B1.out.trans (b2.mono B1.out.size))
  have s1 := run_str (P := Try.prog) (R1.out.below b2) HL1.out 23 9 5 c1 Try.underlying23 Try.underlying5 Try.underlying9
  have s2 := run_str (P := Try.prog) R2.out HL2.out 23 9 5 c2 Try.underlying23 Try.underlying5 Try.underlying9
  clear b2 o2
  have hres := HRES.out
  by_cases e1 : a = b
  · have g1 : (a == b) = true := by simp [e1]
    by_cases e2 : t = u
    · have g2 : (t == u) = true := by simp [e2]
      rw [g1, g2] at hres
      clear e1 e2
      go_wp2_with fail
      go_ret
      exact ⟨by first | rfl | simp, B2.out⟩
    · have g2 : (t == u) = false := by simp [e2]
      rw [g1, g2] at hres
      clear e1 e2
      go_wp2_with fail
      go_ret
      exact ⟨by first | rfl | simp, B2.out⟩
  · have g1 : (a == b) = false := by simp [e1]
    rw [g1] at hres
    clear e1
    go_wp2_with fail
    go_ret
    exact ⟨by first | rfl | simp, B2.out⟩
end Go.Proofs.Ytncbdcklemkmdaa
