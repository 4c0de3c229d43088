/- The document's answers on fields: knownOf. -/
import Derived.Test.YtadhdghjlohpcaaRefFd1
namespace Go.Proofs.Ytadhdghjlohpcaa
set_option linter.unusedVariables false
open Go.RowKit P

def fdRV (r : Fld × Int × Int) : Value := .tuple #[fdV r.1, .int .i64 r.2.1, .int .i64 r.2.2]
set_option maxHeartbeats 2000000 in
theorem refKo_any (b : List Int) (wi : Int) (w : World) (hb : Byt b) (hl : b.length ≤ 140737488355328) (w0 : -9223372036854775808 ≤ wi) (w1 : wi ≤ 9223372036854775807) :
    Calls Try.prog 72 #[.string (strOfNums b), .int .i64 wi] w fun e w' => e = .returned (fdRV (knR b wi)) ∧ Below w.heap.size w w' := by
  have HO := Lib.hid (fun w => refPxO_any b wi w hb hl w0 w1)
  have HIN := Lib.hid (fun h => pxR_in (b := b) (w := wi) (fun j => (hb j).1) h)
  have HKN := Lib.hid (fun w => refKn_any w)
  have HE : Hid (knR b wi = if (pxR b wi).2.2 ≠ 0 then (fd0, 0, (pxR b wi).2.2) else if 10 < (pxR b wi).1 then (fd0, 0, 5) else (knL.getD (pxR b wi).1.toNat fd0, (pxR b wi).2.1, 0)) := Lib.hid rfl
  obtain ⟨⟨n, u, x⟩, hr⟩ : ∃ r, pxR b wi = r := ⟨_, rfl⟩
  rw [hr] at HO HIN HE
  simp only at HIN HE
  obtain ⟨S, hS⟩ : ∃ S, strOfNums b = S := ⟨_, rfl⟩
  rw [hS] at HO ⊢
  unfold pxRV at HO
  rw [HE.out]
  have B0 := Lib.hid ((Below.refl w.heap.size w).alloc (Nat.le_refl _) (.cells #[.string ⟨#[]⟩, .string ⟨#[]⟩] 57))
  have G0 := Lib.hid (heap_alloc_new w (.cells #[.string ⟨#[]⟩, .string ⟨#[]⟩] 57))
  clear hS hr w0 w1 hb hl
  by_cases hx : x = 0
  · subst hx
    obtain ⟨n0, n1, u0, u1, u2⟩ := HIN.out rfl
    rw [if_neg (fun k => k rfl)]
    by_cases h1 : 10 < n
    · rw [if_pos h1]
      have e1 : decide (10 < n) = true := by simp [h1]
      unfold fdRV fdV
      go_enter Try.func72, Try.ntmps72
      go_wp2_with (go_at_call 44; refine (HO.out _).mono ?_; rintro e w1 ⟨rfl, b1⟩; have B1 := Lib.hid (B0.out.trans (b1.mono B0.out.size)); have G1 := Lib.hid ((b1.block _ (lt_of_block G0.out)).trans G0.out); clear b1; obtain ⟨q0, q1⟩ := bk2F G1.out; have qf := fun j => bk_frz G1.out j)
      obtain ⟨r0, r1, gp⟩ := bk2_putF G1.out (.string ⟨#[]⟩) (.string ⟨#[]⟩)
      refine bodyPost_ret (by simp [results, Try.results72, go_sem, r0, r1]; try rfl) rfl ?_
      exact ⟨rfl, gr_from B1.out B1.out.size (Nat.le_refl _) gp⟩
    · rw [if_neg h1]
      have e1 : decide (10 < n) = false := by simp; omega
      obtain ⟨m, rfl⟩ : ∃ m : Nat, n = m := ⟨n.toNat, by omega⟩
      rw [Int.toNat_natCast]
      have hm : m < 11 := by omega
      have hmI : (m : Int) < 11 := by omega
      unfold fdRV fdV
      obtain ⟨z, hz⟩ : ∃ z, knL.getD m fd0 = z := ⟨_, rfl⟩
      have HZ := Lib.hid hz
      rw [hz]
      obtain ⟨S1, hS1⟩ : ∃ S, strOfNums z.name = S := ⟨_, rfl⟩
      obtain ⟨S2, hS2⟩ : ∃ S, strOfNums z.val = S := ⟨_, rfl⟩
      have HS1 := Lib.hid hS1
      have HS2 := Lib.hid hS2
      dsimp only
      rw [hS1, hS2]
      clear hz hS1 hS2
      go_enter Try.func72, Try.ntmps72
      go_wp2_with (go_at_call 44; refine (HO.out _).mono ?_; rintro e w1 ⟨rfl, b1⟩; have B1 := Lib.hid (B0.out.trans (b1.mono B0.out.size)); have G1 := Lib.hid ((b1.block _ (lt_of_block G0.out)).trans G0.out); clear b1)
      refine (HKN.out _).mono ?_
      rintro e w2 ⟨b2, v, rfl, hv⟩
      obtain ⟨A, c, hv2, _, _, hrow⟩ := hv.slice
      rw [show knL.length = 11 from rfl] at hv2
      subst hv2
      obtain ⟨b, off, rfl, hbl, x0, x1⟩ := fd_cells hrow (i := m) hm
      rw [HZ.out] at x0 x1
      rw [HS1.out] at x0
      rw [HS2.out] at x1
      have B2 := Lib.hid (B1.out.trans (b2.mono B1.out.size))
      have G2 := Lib.hid ((b2.block _ (lt_of_block G1.out)).trans G1.out)
      obtain ⟨q0, q1⟩ := bk2F G2.out
      have qf := fun j => bk_frz G2.out j
      clear b2 hv hrow
      go_wp2_with fail
      obtain ⟨r0, r1, gp⟩ := bk2_putF G2.out (.string S1) (.string S2)
      refine bodyPost_ret (by simp [results, Try.results72, go_sem, r0, r1]; try rfl) rfl ?_
      exact ⟨rfl, gr_from B2.out B2.out.size (Nat.le_refl _) gp⟩
  · rw [if_pos hx]
    have g : (x != 0) = true := by simp [hx]
    unfold fdRV fdV
    go_enter Try.func72, Try.ntmps72
    go_wp2_with (go_at_call 44; refine (HO.out _).mono ?_; rintro e w1 ⟨rfl, b1⟩; have B1 := Lib.hid (B0.out.trans (b1.mono B0.out.size)); have G1 := Lib.hid ((b1.block _ (lt_of_block G0.out)).trans G0.out); clear b1; obtain ⟨q0, q1⟩ := bk2F G1.out; have qf := fun j => bk_frz G1.out j)
    obtain ⟨r0, r1, gp⟩ := bk2_putF G1.out (.string ⟨#[]⟩) (.string ⟨#[]⟩)
    refine bodyPost_ret (by simp [results, Try.results72, go_sem, r0, r1]; try rfl) rfl ?_
    exact ⟨rfl, gr_from B1.out B1.out.size (Nat.le_refl _) gp⟩
end Go.Proofs.Ytadhdghjlohpcaa
