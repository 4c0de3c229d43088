/- The project's readers of fields: begins, readKnown, readPair. -/
import Derived.Test.YtpfahdogedchpaaFdP1
import Derived.Test.YtpfahdogedchpaaGrpO
import Derived.Test.YtpfahdogedchpaaRefFd3
import Derived.BigQuiet
namespace Go.Proofs.Ytpfahdogedchpaa.P
set_option linter.unusedVariables false
open Go.RowKit
/-- a name behind some bits, and a value -/
def pairR (b : List Int) (wi : Int) : Fld × Int × Int := if (pxTR b wi).2.2 ≠ 0 then (fd0, 0, (pxTR b wi).2.2) else if (pxTR (b.drop (pxTR b wi).2.1.toNat) 7).2.2 ≠ 0 then (fd0, 0, (pxTR (b.drop (pxTR b wi).2.1.toNat) 7).2.2) else (⟨(pxTR b wi).1, (pxTR (b.drop (pxTR b wi).2.1.toNat) 7).1⟩, (pxTR b wi).2.1 + (pxTR (b.drop (pxTR b wi).2.1.toNat) 7).2.1, 0)
/-- one that all know by its name, and a value -/
def namedR (b : List Int) : Fld × Int × Int := if (knR b 4).2.2 ≠ 0 then (fd0, 0, (knR b 4).2.2) else if (pxTR (b.drop (knR b 4).2.1.toNat) 7).2.2 ≠ 0 then (fd0, 0, (pxTR (b.drop (knR b 4).2.1.toNat) 7).2.2) else (⟨(knR b 4).1.name, (pxTR (b.drop (knR b 4).2.1.toNat) 7).1⟩, (knR b 4).2.1 + (pxTR (b.drop (knR b 4).2.1.toNat) 7).2.1, 0)
/-- one that is referred to -/
def refdR (t : Tb) (need : Int) (b : List Int) : Fld × Int × Int := if (pxR b 6).2.2 ≠ 0 then (fd0, 0, (pxR b 6).2.2) else if need ≤ (pxR b 6).1 then (fd0, 0, 6) else if (getT t (need - 1 - (pxR b 6).1)).2 ≠ 0 then (fd0, 0, (getT t (need - 1 - (pxR b 6).1)).2) else ((getT t (need - 1 - (pxR b 6).1)).1, (pxR b 6).2.1, 0)
end Go.Proofs.Ytpfahdogedchpaa.P
namespace Go.Proofs.Ytpfahdogedchpaa
set_option linter.unusedVariables false
open Go.RowKit P

theorem begins_any (c f k g : Int) (hc : 0 ≤ c ∧ c < 256) (h : (f = 192 ∧ k = 6 ∧ g = 64) ∨ (f = 128 ∧ k = 6 ∧ g = 64) ∨ (f = 64 ∧ k = 4 ∧ g = 16) ∨ (f = 32 ∧ k = 3 ∧ g = 8) ∨ (f = 64 ∧ k = 5 ∧ g = 32) ∨ (f = 32 ∧ k = 5 ∧ g = 32)) (W : World) :
    Calls Try.prog 64 #[.int .u8 c, .int .u8 f, .int .i64 k] W fun e w' => e = .returned (.bool (decide (f ≤ c ∧ c < f + g))) ∧ Below W.heap.size W w' := by
  have HC := Lib.hid hc
  clear hc
  rcases h with ⟨rfl, rfl, rfl⟩ | ⟨rfl, rfl, rfl⟩ | ⟨rfl, rfl, rfl⟩ | ⟨rfl, rfl, rfl⟩ | ⟨rfl, rfl, rfl⟩ | ⟨rfl, rfl, rfl⟩
  all_goals
    go_enter Try.func64, Try.ntmps64
    go_wp2_with fail
    go_quiet (fail)
    go_wp2_with fail
    go_ret
    refine ⟨?_, Go.below_drewN (Below.refl _ _) _⟩
    have := HC.out
    refine congrArg (fun q => Ending.returned (Value.bool q)) ?_
    rw [Bool.eq_iff_iff, decide_eq_true_iff]
    simp only [beq_iff_eq]
    omega

theorem bsl_onF {w w' : World} {v : Value} {zs : List Int} (h : BSl w w.heap.size v zs) (hb : Below w.heap.size w w') : BSl w' w'.heap.size v zs := (h.below hb).more hb.size
theorem bsl_drop {w : World} {B : Nat} {A : Option Addr} {n c : Nat} {b : List Int} (h : BSl w B (.slice A n c) b) (k : Nat) (hk : k ≤ b.length) : BSl w B (.slice (if c = k then A else Option.map (fun x => x.add k) A) (n - k) (c - k)) (b.drop k) := by
  obtain ⟨A', c', e, h1, h2, h3, h4⟩ := h.ex
  cases e
  refine ⟨_, _, by rw [List.length_drop], by rw [List.length_drop]; omega, by omega, fun hn => ?_, ?_⟩
  · by_cases q : c = k
    · omega
    · rw [if_neg q] at hn
      cases A with
      | none => have := h3 rfl; omega
      | some a => cases hn
  · have := brow_cut h4 h1 k (b.length - k)
    rwa [List.take_of_length_le (by rw [List.length_drop]; exact Nat.le_refl _)] at this

set_option maxHeartbeats 2000000 in
theorem readKn_any (v : Value) (b : List Int) (wi : Int) (W : World) (hv : BSl W W.heap.size v b) (hl : b.length ≤ 140737488355328) (w0 : -9223372036854775808 ≤ wi) (w1 : wi ≤ 9223372036854775807) :
    Calls Try.prog 65 #[v, .int .i64 wi] W fun e w' => e = .returned (fdRV (knR b wi)) ∧ Below W.heap.size W w' := by
  have HO := Lib.hid (fun w' (hb : Below W.heap.size W w') => pxDec_any v b wi w' (bsl_onF hv hb) hl w0 w1)
  obtain ⟨A0, c0, rfl, hc0, hm0, hn0, hr0⟩ := hv.ex
  have HIN := Lib.hid (fun h => pxR_in (b := b) (w := wi) (fun j => (hr0.1 j).1) h)
  have HKN := Lib.hid (fun w => known_any w)
  have HE : Hid (knR b wi = if (pxR b wi).2.2 ≠ 0 then (fd0, 0, (pxR b wi).2.2) else if 10 < (pxR b wi).1 then (fd0, 0, 5) else (knL.getD (pxR b wi).1.toNat fd0, (pxR b wi).2.1, 0)) := Lib.hid rfl
  obtain ⟨⟨n, u, x⟩, hr⟩ : ∃ r, pxR b wi = r := ⟨_, rfl⟩
  rw [hr] at HO HIN HE
  simp only at HIN HE
  unfold pxRV at HO
  rw [HE.out]
  obtain ⟨N, hN⟩ : ∃ N, b.length = N := ⟨_, rfl⟩
  rw [hN] at HO HIN ⊢
  have B0 := Lib.hid ((Below.refl W.heap.size W).alloc (Nat.le_refl _) (.cells #[.string ⟨#[]⟩, .string ⟨#[]⟩] 66))
  have G0 := Lib.hid (heap_alloc_new W (.cells #[.string ⟨#[]⟩, .string ⟨#[]⟩] 66))
  have HLE := Lib.hid (Nat.le_refl W.heap.size)
  clear hr w0 w1 hr0 hl hv hc0 hm0 hn0 hN HE
  by_cases hx : x = 0
  · subst hx
    obtain ⟨n0, n1, u0, u1, u2⟩ := HIN.out rfl
    rw [if_neg (fun k => k rfl)]
    by_cases h1 : 10 < n
    · rw [if_pos h1]
      have e1 : decide (11 ≤ n) = true := by simp; omega
      unfold fdRV fdV
      go_enter Try.func65, Try.ntmps65
      go_wp2_with fail
      refine (HO.out _ B0.out).mono ?_
      rintro e w2 ⟨rfl, rfl⟩
      go_wp2_with fail
      refine (HKN.out _).mono ?_
      rintro e w2 ⟨b1, A, rfl, hown⟩
      have B1 := Lib.hid (B0.out.trans (b1.mono B0.out.size)); have G1 := Lib.hid ((b1.block _ (lt_of_block G0.out)).trans G0.out); clear b1
      clear hown
      obtain ⟨q0, q1⟩ := bk2F G1.out
      have qf := fun j => bk_frz G1.out j
      go_wp2_with fail
      obtain ⟨r0, r1, gp⟩ := bk2_putF G1.out (.string ⟨#[]⟩) (.string ⟨#[]⟩)
      refine bodyPost_ret (by simp [results, Try.results65, go_sem, r0, r1]; try rfl) rfl ?_
      exact ⟨by first | rfl | simp, gr_from B1.out B1.out.size (HLE.out) gp⟩
    · rw [if_neg h1]
      have e1 : decide (11 ≤ n) = false := by simp; omega
      obtain ⟨m, rfl⟩ : ∃ m : Nat, n = m := ⟨n.toNat, by omega⟩
      rw [Int.toNat_natCast]
      have hm : m < 11 := by omega
      have hmI : (m : Int) < 11 := by omega
      unfold fdRV fdV
      obtain ⟨z, hz⟩ : ∃ z, knL.getD m fd0 = z := ⟨_, rfl⟩
      have HZ := Lib.hid hz
      rw [hz]
      obtain ⟨S1, hS1⟩ : ∃ S, strOfNums z.name = S := ⟨_, rfl⟩
      obtain ⟨S2, hS2⟩ : ∃ S, strOfNums z.val = S := ⟨_, rfl⟩
      have HS1 := Lib.hid hS1
      have HS2 := Lib.hid hS2
      dsimp only
      rw [hS1, hS2]
      clear hz hS1 hS2
      go_enter Try.func65, Try.ntmps65
      go_wp2_with fail
      refine (HO.out _ B0.out).mono ?_
      rintro e w2 ⟨rfl, rfl⟩
      go_wp2_with fail
      refine (HKN.out _).mono ?_
      rintro e w2 ⟨b1, A, rfl, hv⟩
      obtain ⟨A', c', hv2, _, _, hrow⟩ := hv.slice
      cases hv2
      obtain ⟨b, off, rfl, hbl, x0, x1⟩ := fd_cells hrow (i := m) hm
      rw [HZ.out] at x0 x1
      rw [HS1.out] at x0
      rw [HS2.out] at x1
      have B1 := Lib.hid (B0.out.trans (b1.mono B0.out.size)); have G1 := Lib.hid ((b1.block _ (lt_of_block G0.out)).trans G0.out); clear b1
      obtain ⟨q0, q1⟩ := bk2F G1.out
      have qf := fun j => bk_frz G1.out j
      clear hv hrow
      go_wp2_with fail
      obtain ⟨r0, r1, gp⟩ := bk2_putF G1.out (.string S1) (.string S2)
      refine bodyPost_ret (by simp [results, Try.results65, go_sem, r0, r1]; try rfl) rfl ?_
      exact ⟨by first | rfl | simp, gr_from B1.out B1.out.size (HLE.out) gp⟩
  · rw [if_pos hx]
    have g : (x != 0) = true := by simp [hx]
    unfold fdRV fdV
    obtain ⟨q0, q1⟩ := bk2F G0.out
    have qf := fun j => bk_frz G0.out j
    go_enter Try.func65, Try.ntmps65
    go_wp2_with fail
    refine (HO.out _ B0.out).mono ?_
    rintro e w2 ⟨rfl, rfl⟩
    go_wp2_with fail
    obtain ⟨r0, r1⟩ := bk2F G0.out
    refine bodyPost_ret (by simp [results, Try.results65, go_sem, r0, r1]; try rfl) rfl ?_
    exact ⟨by first | rfl | simp, B0.out⟩

set_option maxHeartbeats 2000000 in
theorem readPair_any (v : Value) (b : List Int) (wi : Int) (W : World) (hv : BSl W W.heap.size v b) (hl : b.length ≤ 140737488355328) (w0 : -9223372036854775808 ≤ wi) (w1 : wi ≤ 9223372036854775807) :
    Calls Try.prog 68 #[v, .int .i64 wi] W fun e w' => e = .returned (fdRV (pairR b wi)) ∧ Below W.heap.size W w' := by
  have HO := Lib.hid (fun w' (hb : Below W.heap.size W w') => pxRead_any v b wi w' (bsl_onF hv hb) hl w0 w1)
  obtain ⟨A0, c0, rfl, hc0, hm0, hn0, hr0⟩ := hv.ex
  have hby : Byt b := hr0.1
  obtain ⟨N, hN⟩ : ∃ N, b.length = N := ⟨_, rfl⟩
  have HT7a := Lib.hid (fun K (hK : K ≤ N) w' (hb : Below W.heap.size W w') => pxRead_any _ (b.drop K) 7 w' (bsl_onF (bsl_drop hv K (by omega)) hb) (by rw [List.length_drop]; omega) (by decide) (by decide))
  have HTIa := Lib.hid (fun K => (by have := pxTR_in (b := b.drop K) (w := 7) (hby.drop K); rw [List.length_drop, hN] at this; exact this : 0 ≤ (pxTR (b.drop K) 7).2.1 ∧ (pxTR (b.drop K) 7).2.1 ≤ ((N - K : Nat) : Int) ∧ ((pxTR (b.drop K) 7).2.2 ≠ 0 → (pxTR (b.drop K) 7).1 = [] ∧ (pxTR (b.drop K) 7).2.1 = 0)))
  rw [hN] at hc0 HT7a ⊢
  have HIN := Lib.hid (pxTR_in (b := b) (w := wi) hby)
  rw [hN] at HIN hl HO
  unfold pairR
  obtain ⟨⟨z, u, x⟩, hr⟩ : ∃ r, pxTR b wi = r := ⟨_, rfl⟩
  rw [hr] at HO HIN ⊢
  unfold pxTV at HO
  dsimp only at HO HIN ⊢
  have B0 := Lib.hid ((Below.refl W.heap.size W).alloc (Nat.le_refl _) (.cells #[.string ⟨#[]⟩, .string ⟨#[]⟩] 66))
  have G0 := Lib.hid (heap_alloc_new W (.cells #[.string ⟨#[]⟩, .string ⟨#[]⟩] 66))
  have HLE := Lib.hid (Nat.le_refl W.heap.size)
  unfold fdRV fdV
  obtain ⟨q0, q1⟩ := bk2F G0.out
  have qf := fun j => bk_frz G0.out j
  clear hr w0 w1 hr0 hv hn0 hby
  obtain ⟨R1, hR1⟩ : ∃ X, strOfNums z = X := ⟨_, rfl⟩
  rw [hR1] at HO
  obtain ⟨u0, u1, u2⟩ := HIN.out
  by_cases hx : x = 0
  · subst hx
    rw [if_neg (fun k => k rfl)]
    obtain ⟨K, rfl⟩ : ∃ K : Nat, u = K := ⟨u.toNat, by omega⟩
    rw [Int.toNat_natCast]
    clear HIN u2 hN
    obtain ⟨⟨V, m, y⟩, hv7⟩ : ∃ r, pxTR (b.drop K) 7 = r := ⟨_, rfl⟩
    have HT7 := Lib.hid (HT7a.out K)
    have HTI := Lib.hid (HTIa.out K)
    rw [hv7] at HT7 HTI ⊢
    unfold pxTV at HT7
    dsimp only at HT7 HTI ⊢
    obtain ⟨m0, m1, m2⟩ := HTI.out
    obtain ⟨VV, hVV⟩ : ∃ X, strOfNums V = X := ⟨_, rfl⟩
    rw [hVV] at HT7
    have hKN : K ≤ N := by omega
    have hKNI : (K : Int) ≤ (N : Int) := by omega
    have hKI0 : (0 : Int) ≤ (K : Int) := by omega
    have hKc : (K : Int) ≤ (c0 : Int) := by omega
    obtain ⟨SA, hSA⟩ : ∃ SA, (if c0 = K then A0 else Option.map (fun x => x.add K) A0) = SA := ⟨_, rfl⟩
    rw [hSA] at HT7
    clear hv7 HT7a HTIa
    by_cases hy : y = 0
    · subst hy
      rw [if_neg (fun k => k rfl)]
      dsimp only
      rw [hR1, hVV]
      have hwr : IntKind.i64.wrap ((K : Int) + m) = (K : Int) + m := by rw [IntKind.wrap_i64]; omega
      clear hVV HTI m2
      go_enter Try.func68, Try.ntmps68
      go_wp2_with fail
      refine (HO.out _ B0.out).mono ?_
      rintro e w9 ⟨rfl, rfl⟩
      go_wp2_with fail
      refine (HT7.out hKN _ B0.out).mono ?_
      rintro e w9 ⟨rfl, rfl⟩
      go_wp2_with fail
      refine bodyPost_ret (by simp [results, Try.results68, go_sem]; try rfl) rfl ?_
      exact ⟨by first | rfl | simp, (Below.refl _ _).alloc (Nat.le_refl _) _⟩
    · rw [if_pos hy]
      have g : (y != 0) = true := by simp [hy]
      obtain ⟨rfl, rfl⟩ := m2 hy
      clear hVV HTI m2
      go_enter Try.func68, Try.ntmps68
      go_wp2_with fail
      refine (HO.out _ B0.out).mono ?_
      rintro e w9 ⟨rfl, rfl⟩
      go_wp2_with fail
      refine (HT7.out hKN _ B0.out).mono ?_
      rintro e w9 ⟨rfl, rfl⟩
      go_wp2_with fail
      obtain ⟨r0, r1⟩ := bk2F G0.out
      refine bodyPost_ret (by simp [results, Try.results68, go_sem, r0, r1]; try rfl) rfl ?_
      exact ⟨by first | rfl | simp, B0.out⟩
  · rw [if_pos hx]
    have g : (x != 0) = true := by simp [hx]
    clear HT7a HTIa HIN hN
    go_enter Try.func68, Try.ntmps68
    go_wp2_with fail
    refine (HO.out _ B0.out).mono ?_
    rintro e w9 ⟨rfl, rfl⟩
    go_wp2_with fail
    obtain ⟨r0, r1⟩ := bk2F G0.out
    refine bodyPost_ret (by simp [results, Try.results68, go_sem, r0, r1]; try rfl) rfl ?_
    exact ⟨by first | rfl | simp, B0.out⟩
end Go.Proofs.Ytpfahdogedchpaa
