/- The project's pace: Check, refuse. -/
import Derived.Test.YtlafjladlkbnoaaPaV
namespace Go.Proofs.Ytlafjladlkbnoaa
set_option linter.unusedVariables false
open Go.RowKit P

theorem paCheck_any : PaChk Try.prog 9 := fun wd th fl si hsi w => by
  unfold i64B at hsi
  unfold paV
  have B0 := Lib.hid ((Below.refl w.heap.size w).alloc (Nat.le_refl _) (.cells #[.int .i64 wd, .int .i64 th, .int .i64 fl, .int .i64 si] 23))
  by_cases h : wd < 200
  · have HF := Lib.hid (show paF wd th fl si = 9 from if_neg (by omega))
    have a : decide (wd < 200) = true := by simp [h]
    rw [HF.out]
    go_enter Try.func9, Try.ntmps9
    go_wp2_with fail
    go_ret
    exact ⟨rfl, B0.out⟩
  · have a : decide (wd < 200) = false := by simp; omega
    have W3 := Lib.hid (fun b w (hr : NRow w b [wd, th, fl]) => within_any [wd, th, fl] 3 b w hr rfl (by omega))
    by_cases h1 : mtL [wd, th, fl]
    · rw [decide_eq_true h1] at W3
      obtain ⟨⟨_, h1a⟩, h1b, h1c, _⟩ := h1
      by_cases h2 : si = -1
      · have HF := Lib.hid (show paF wd th fl si = 0 from if_pos ⟨by omega, by omega, h1b, h1c, by omega, by omega⟩)
        rw [HF.out]
        clear h1b h1c
        subst h2
        go_enter Try.func9, Try.ntmps9
        go_wp2_with fail
        refine (W3.out _ _ (nrow3 _ _ _ _ _ _ (by simp))).mono ?_
        rintro e w' ⟨rfl, rfl⟩
        go_wp2_with fail
        go_ret
        exact ⟨rfl, B0.out.alloc (by simp) _⟩
      · have W1 := Lib.hid (fun b w (hr : NRow w b [si]) => within_any [si] 1 b w hr rfl (by omega))
        have g : (si != -1) = true := by simp [h2]
        by_cases h3 : mtL [si]
        · rw [decide_eq_true h3] at W1
          have HF := Lib.hid (show paF wd th fl si = 0 from if_pos ⟨by omega, by omega, h1b, h1c, by have := h3.1.1; omega, h3.1.2⟩)
          rw [HF.out]
          clear h1b h1c h3
          go_enter Try.func9, Try.ntmps9
          go_wp2_with fail
          refine (W3.out _ _ (nrow3 _ _ _ _ _ _ (by simp))).mono ?_
          rintro e w' ⟨rfl, rfl⟩
          go_wp2_with fail
          refine (W1.out _ _ (nrow1 _ _ _ _ (by simp))).mono ?_
          rintro e w' ⟨rfl, rfl⟩
          go_wp2_with fail
          go_ret
          exact ⟨rfl, (B0.out.alloc (by simp) _).alloc (by simp; omega) _⟩
        · rw [decide_eq_false h3] at W1
          have HF := Lib.hid (show paF wd th fl si = 9 from if_neg (fun k => h3 ⟨⟨by omega, by omega⟩, trivial⟩))
          rw [HF.out]
          clear h1b h1c h3
          go_enter Try.func9, Try.ntmps9
          go_wp2_with fail
          refine (W3.out _ _ (nrow3 _ _ _ _ _ _ (by simp))).mono ?_
          rintro e w' ⟨rfl, rfl⟩
          go_wp2_with fail
          refine (W1.out _ _ (nrow1 _ _ _ _ (by simp))).mono ?_
          rintro e w' ⟨rfl, rfl⟩
          go_wp2_with fail
          go_ret
          exact ⟨rfl, (B0.out.alloc (by simp) _).alloc (by simp; omega) _⟩
    · rw [decide_eq_false h1] at W3
      have HF := Lib.hid (show paF wd th fl si = 9 from if_neg (fun k => h1 ⟨⟨by omega, by omega⟩, k.2.2.1, k.2.2.2.1, trivial⟩))
      rw [HF.out]
      clear h1
      go_enter Try.func9, Try.ntmps9
      go_wp2_with fail
      refine (W3.out _ _ (nrow3 _ _ _ _ _ _ (by simp))).mono ?_
      rintro e w' ⟨rfl, rfl⟩
      go_wp2_with fail
      go_ret
      exact ⟨rfl, B0.out.alloc (by simp) _⟩
theorem paRefuse_any : PaRef Try.prog 21 := fun wd th fl si l n b w hsi hr hb hl hn => by
  have B0 := Lib.hid ((Below.refl w.heap.size w).alloc (Nat.le_refl _) (.cells #[.int .i64 wd, .int .i64 th, .int .i64 fl, .int .i64 si] 23))
  have HC := Lib.hid (fun w => paCheck_any wd th fl si hsi w)
  have HR := Lib.hid hr
  have HB := Lib.hid hb
  unfold paV at *
  clear hr hb hsi
  by_cases h : paF wd th fl si = 0
  · rw [h] at HC
    have HW := Lib.hid (fun w (hr : NRow w b l) => within_any l n b w hr hl hn)
    clear hl
    by_cases h1 : mtL l
    · rw [decide_eq_true h1] at HW
      rw [show paE wd th fl si l = 0 by unfold paE; rw [if_neg (fun k => k h), if_pos h1]]
      clear h h1
      go_enter Try.func21, Try.ntmps21
      go_wp2_with fail
      refine (HC.out _).mono ?_
      rintro e w1 ⟨rfl, b1⟩
      have B1 := Lib.hid (B0.out.trans (b1.mono B0.out.size))
      clear b1
      go_wp2_with fail
      refine (HW.out _ (HR.out.below B1.out HB.out)).mono ?_
      rintro e w' ⟨rfl, rfl⟩
      go_wp2_with fail
      go_ret
      exact ⟨rfl, B1.out⟩
    · rw [decide_eq_false h1] at HW
      rw [show paE wd th fl si l = 6 by unfold paE; rw [if_neg (fun k => k h), if_neg h1]]
      clear h h1
      go_enter Try.func21, Try.ntmps21
      go_wp2_with fail
      refine (HC.out _).mono ?_
      rintro e w1 ⟨rfl, b1⟩
      have B1 := Lib.hid (B0.out.trans (b1.mono B0.out.size))
      clear b1
      go_wp2_with fail
      refine (HW.out _ (HR.out.below B1.out HB.out)).mono ?_
      rintro e w' ⟨rfl, rfl⟩
      go_wp2_with fail
      go_ret
      exact ⟨rfl, B1.out⟩
  · rw [show paE wd th fl si l = paF wd th fl si from if_pos h]
    obtain ⟨x, hx⟩ : ∃ x, paF wd th fl si = x := ⟨_, rfl⟩
    rw [hx] at HC h ⊢
    have g : (x != 0) = true := by simp [h]
    clear h hx hl
    go_enter Try.func21, Try.ntmps21
    go_wp2_with fail
    refine (HC.out _).mono ?_
    rintro e w1 ⟨rfl, b1⟩
    have B1 := Lib.hid (B0.out.trans (b1.mono B0.out.size))
    clear b1
    go_wp2_with fail
    go_ret
    exact ⟨rfl, B1.out⟩
/-- what stands ahead of each answer that lies in memory: the parameter's block, the answer's -/
theorem two_new (w : World) (a0 a1 a2 a3 z0 z1 z2 z3 : Value) (T : TypeId) :
    Below w.heap.size w ((w.alloc (.cells #[a0, a1, a2, a3] T)).alloc (.cells #[z0, z1, z2, z3] T)) ∧
    ((w.alloc (.cells #[a0, a1, a2, a3] T)).alloc (.cells #[z0, z1, z2, z3] T)).heap[w.heap.size]? = some (.cells #[a0, a1, a2, a3] T (0, 0)) ∧
    ((w.alloc (.cells #[a0, a1, a2, a3] T)).alloc (.cells #[z0, z1, z2, z3] T)).heap[w.heap.size + 1]? = some (.cells #[z0, z1, z2, z3] T (0, 0)) := by
  refine ⟨((Below.refl w.heap.size w).alloc (Nat.le_refl _) _).alloc (by simp) _, (Below.heap_alloc _ _ w.heap.size (by simp)).trans (heap_alloc_new w _), ?_⟩
  have := heap_alloc_new (w.alloc (.cells #[a0, a1, a2, a3] T)) (.cells #[z0, z1, z2, z3] T)
  rwa [show (w.alloc (.cells #[a0, a1, a2, a3] T)).heap.size = w.heap.size + 1 by simp] at this
theorem paLand_yes (wd th fl si n : Int) (h0 : 0 ≤ n) (h1 : n ≤ fl) (h2 : fl ≤ 1099511627776) (w : World) : Calls Try.prog 24 #[paV wd th fl si, .int .i64 n] w fun e w' => e = .returned (paR (wd, th, fl - n, si, 0)) ∧ Below w.heap.size w w' := by
  unfold paR paV
  have a : decide (fl < n) = false := by simp; omega
  go_enter Try.func24, Try.ntmps24
  go_wp2_with fail
  exact bodyPost_ret (by simp [results, Try.results24, go_sem]) rfl ⟨rfl, (two_new ..).1⟩
theorem paLand_no (wd th fl si n : Int) (h : fl < n) (w : World) : Calls Try.prog 24 #[paV wd th fl si, .int .i64 n] w fun e w' => e = .returned (paR (0, 0, 0, 0, 13)) ∧ Below w.heap.size w w' := by
  unfold paR paV
  have a : decide (fl < n) = true := by simp [h]
  go_enter Try.func24, Try.ntmps24
  go_wp2_with fail
  exact bodyPost_ret (by simp [results, Try.results24, go_sem]) rfl ⟨rfl, (two_new ..).1⟩
theorem paGrowth_any (wd th fl si n : Int) (h0 : 0 ≤ n) (h1 : n ≤ 1099511627776) (h2 : 200 ≤ wd) (w : World) : Calls Try.prog 25 #[paV wd th fl si, .int .i64 n] w fun e w' => e = .returned (.int .i64 (paG wd th n)) ∧ Below w.heap.size w w' := by
  unfold paV
  have B0 := Lib.hid ((Below.refl w.heap.size w).alloc (Nat.le_refl _) (.cells #[.int .i64 wd, .int .i64 th, .int .i64 fl, .int .i64 si] 23))
  by_cases a : th = 0
  · rw [show paG wd th n = n from if_pos (.inl a)]
    subst a
    go_enter Try.func25, Try.ntmps25
    go_wp2_with fail
    go_ret
    exact ⟨rfl, B0.out⟩
  · have g : (th == 0) = false := by simp [a]
    by_cases b : wd < th
    · rw [show paG wd th n = n from if_pos (.inr b)]
      have gb : decide (wd < th) = true := by simp [b]
      clear a b
      go_enter Try.func25, Try.ntmps25
      go_wp2_with fail
      go_ret
      exact ⟨rfl, B0.out⟩
    · have gb : decide (wd < th) = false := by simp; omega
      have HG := Lib.hid (show paG wd th n = 100 * n / wd from if_neg (by omega))
      rw [HG.out]
      have gw : (wd == 0) = false := by simp; omega
      clear a b
      go_enter Try.func25, Try.ntmps25
      go_wp2_with fail
      go_ret
      exact ⟨rfl, B0.out⟩
end Go.Proofs.Ytlafjladlkbnoaa
