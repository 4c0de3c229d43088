/- The document's answers on paces. -/
import Derived.Test.YtlafjladlkbnoaaPaV
import Derived.Deep.CutRange
namespace Go.Proofs.Ytlafjladlkbnoaa
set_option linter.unusedVariables false
open Go.RowKit P

theorem refPaF_any : PaChk Try.prog 11 := fun wd th fl si hsi w => by
  unfold i64B at hsi
  unfold paV
  have B0 := Lib.hid ((Below.refl w.heap.size w).alloc (Nat.le_refl _) (.cells #[.int .i64 wd, .int .i64 th, .int .i64 fl, .int .i64 si] 23))
  obtain ⟨U, hU⟩ : ∃ U, IntKind.i64.wrap (si + 1) = U := ⟨_, rfl⟩
  have hu : upB2 U 1099511627777 = decide (-1 ≤ si ∧ si ≤ 1099511627776) := by
    rw [IntKind.wrap_i64] at hU
    by_cases k : -1 ≤ si ∧ si ≤ 1099511627776
    · rw [upB2_yes (by omega) (by omega), decide_eq_true k]
    · rw [upB2_no (by omega), decide_eq_false k]
  by_cases h1 : wd < 200
  · have HF := Lib.hid (show paF wd th fl si = 9 from if_neg (by omega))
    have a1 : decide (wd < 200) = true := by simp [h1]
    rw [HF.out]
    go_enter Try.func11, Try.ntmps11
    go_wp2_with (first
      | (go_at_call 22; refine (upTo_any _ _ _).mono ?_; rintro e w' ⟨rfl, rfl⟩))
    go_ret
    exact ⟨rfl, B0.out⟩
  · have a1 : decide (wd < 200) = false := by simp; omega
    by_cases h2 : 1099511627776 < wd
    · have HF := Lib.hid (show paF wd th fl si = 9 from if_neg (by omega))
      have a2 : decide (1099511627776 < wd) = true := by simp [h2]
      rw [HF.out]
      go_enter Try.func11, Try.ntmps11
      go_wp2_with (first
        | (go_at_call 22; refine (upTo_any _ _ _).mono ?_; rintro e w' ⟨rfl, rfl⟩))
      go_ret
      exact ⟨rfl, B0.out⟩
    · have a2 : decide (1099511627776 < wd) = false := by simp; omega
      by_cases h3 : mtB th
      · have u1 : upB2 th 1099511627776 = true := upB2_yes h3.1 h3.2
        by_cases h4 : mtB fl
        · have u2 : upB2 fl 1099511627776 = true := upB2_yes h4.1 h4.2
          by_cases h5 : -1 ≤ si ∧ si ≤ 1099511627776
          · have HF := Lib.hid (show paF wd th fl si = 0 from if_pos ⟨by omega, by omega, h3, h4, h5.1, h5.2⟩)
            rw [decide_eq_true h5] at hu
            clear h3 h4 h5
            rw [HF.out]
            go_enter Try.func11, Try.ntmps11
            go_wp2_with (first
              | (go_at_call 22; refine (upTo_any _ _ _).mono ?_; rintro e w' ⟨rfl, rfl⟩))
            go_ret
            exact ⟨rfl, B0.out⟩
          · have HF := Lib.hid (show paF wd th fl si = 9 from if_neg (fun k => h5 k.2.2.2.2))
            rw [decide_eq_false h5] at hu
            clear h3 h4 h5
            rw [HF.out]
            go_enter Try.func11, Try.ntmps11
            go_wp2_with (first
              | (go_at_call 22; refine (upTo_any _ _ _).mono ?_; rintro e w' ⟨rfl, rfl⟩))
            go_ret
            exact ⟨rfl, B0.out⟩
        · have u2 : upB2 fl 1099511627776 = false := upB2_no (by unfold mtB at h4; omega)
          have HF := Lib.hid (show paF wd th fl si = 9 from if_neg (fun k => h4 k.2.2.2.1))
          clear h3 h4
          rw [HF.out]
          go_enter Try.func11, Try.ntmps11
          go_wp2_with (first
            | (go_at_call 22; refine (upTo_any _ _ _).mono ?_; rintro e w' ⟨rfl, rfl⟩))
          go_ret
          exact ⟨rfl, B0.out⟩
      · have u1 : upB2 th 1099511627776 = false := upB2_no (by unfold mtB at h3; omega)
        have HF := Lib.hid (show paF wd th fl si = 9 from if_neg (fun k => h3 k.2.2.1))
        clear h3
        rw [HF.out]
        go_enter Try.func11, Try.ntmps11
        go_wp2_with (first
          | (go_at_call 22; refine (upTo_any _ _ _).mono ?_; rintro e w' ⟨rfl, rfl⟩))
        go_ret
        exact ⟨rfl, B0.out⟩
/-- the error so far, behind so many numbers -/
def paK (x : Int) (l : List Int) (k : Nat) : Int := if x ≠ 0 then x else if mtL (l.take k) then 0 else 6
theorem mtL_snoc (l : List Int) (k : Nat) (h : k < l.length) : mtL (l.take (k + 1)) ↔ mtL (l.take k) ∧ mtB (l.getD k 0) := by
  induction l generalizing k with
  | nil => cases h
  | cons a l ih =>
    cases k with
    | zero => simp [mtL]
    | succ k =>
      have := ih k (by simpa using h)
      simp only [List.take_succ_cons, mtL, List.getD_cons_succ, this, and_assoc]
theorem paK_6 (x : Int) (l : List Int) (k : Nat) (h : k < l.length) (hx : paK x l k = 0) (hn : ¬ mtB (l.getD k 0)) : paK x l (k + 1) = 6 := by
  unfold paK at hx ⊢
  by_cases a : x = 0
  · rw [if_neg (fun q => q a), if_neg (fun q => hn ((mtL_snoc l k h).1 q).2)]
  · rw [if_pos a] at hx; exact absurd hx a
theorem paK_0 (x : Int) (l : List Int) (k : Nat) (h : k < l.length) (hx : paK x l k = 0) (hn : mtB (l.getD k 0)) : paK x l (k + 1) = 0 := by
  unfold paK at hx ⊢
  by_cases a : x = 0
  · rw [if_neg (fun q => q a)] at hx ⊢
    by_cases b : mtL (l.take k)
    · rw [if_pos ((mtL_snoc l k h).2 ⟨b, hn⟩)]
    · rw [if_neg b] at hx; cases hx
  · rw [if_pos a] at hx; exact absurd hx a
theorem paK_x (x : Int) (l : List Int) (k : Nat) (h : k < l.length) (hx : paK x l k ≠ 0) : paK x l (k + 1) = paK x l k := by
  unfold paK at hx ⊢
  by_cases a : x = 0
  · rw [if_neg (fun q => q a)] at hx ⊢
    by_cases b : mtL (l.take k)
    · rw [if_pos b] at hx; exact absurd rfl hx
    · rw [if_neg (fun q : mtL (l.take (k + 1)) => b ((mtL_snoc l k h).1 q).1), if_neg b, if_neg (fun q => q a)]
  · rw [if_pos a, if_pos a]
theorem paK_all (wd th fl si : Int) (l : List Int) : paK (paF wd th fl si) l l.length = paE wd th fl si l := by unfold paK paE; rw [List.take_length]
theorem paK_nil (x : Int) (l : List Int) : paK x l 0 = x := by
  unfold paK
  by_cases a : x = 0
  · rw [if_neg (fun q => q a), if_pos (show mtL (l.take 0) by rw [List.take_zero]; trivial), a]
  · rw [if_pos a]
set_option maxHeartbeats 1000000 in
theorem refPaE_any : PaRef Try.prog 23 := fun wd th fl si l n b w hsi hr hb hl hn => by
  have B0 := Lib.hid ((Below.refl w.heap.size w).alloc (Nat.le_refl _) (.cells #[.int .i64 wd, .int .i64 th, .int .i64 fl, .int .i64 si] 23))
  have HC := Lib.hid (fun w => refPaF_any wd th fl si hsi w)
  have HR := Lib.hid hr
  have HB := Lib.hid hb
  have HL := Lib.hid hl
  have HE := Lib.hid (paK_all wd th fl si l)
  unfold paV at *
  obtain ⟨x, hx⟩ : ∃ x, paF wd th fl si = x := ⟨_, rfl⟩
  obtain ⟨y, hy⟩ : ∃ y, paE wd th fl si l = y := ⟨_, rfl⟩
  rw [hx] at HC
  rw [hx, hy] at HE
  rw [hy]
  clear hr hb hsi hl hx hy
  go_enter Try.func23, Try.ntmps23
  go_wp2_with fail
  refine (HC.out _).mono ?_
  rintro e w1 ⟨rfl, b1⟩
  have B1 := Lib.hid (B0.out.trans (b1.mono B0.out.size))
  have R1 := Lib.hid (HR.out.below B1.out HB.out)
  clear b1
  go_wp2_with fail
  go_loop [5, 12] (fun e i => ∃ k : Nat, k ≤ n ∧ i = .int .i64 k ∧ e = .int .i64 (paK x l k)) (fun _ i => n - (intOf i).toNat)
  case atStart => exact ⟨0, Nat.zero_le _, rfl, by rw [paK_nil]⟩
  case round =>
    obtain ⟨k, hk, rfl, rfl⟩ := hrel
    obtain ⟨z, hz⟩ : ∃ z, paK x l k = z := ⟨_, rfl⟩
    rw [hz]
    by_cases hlt : k < n
    · have hc := R1.out k (by rw [HL.out]; exact hlt)
      have P6 := Lib.hid (paK_6 x l k (by rw [HL.out]; exact hlt))
      have P0 := Lib.hid (paK_0 x l k (by rw [HL.out]; exact hlt))
      have PX := Lib.hid (paK_x x l k (by rw [HL.out]; exact hlt))
      obtain ⟨t, ht⟩ : ∃ t, l.getD k 0 = t := ⟨_, rfl⟩
      rw [ht] at hc P6 P0
      rw [hz] at P6 P0 PX
      clear ht hz
      by_cases q : z = 0
      · subst q
        by_cases m : mtB t
        · have u1 : upB2 t 1099511627776 = true := upB2_yes m.1 m.2
          have HN := Lib.hid (P0.out rfl m)
          clear m
          go_wp2_with (first
            | (go_at_call 22; refine (upTo_any _ _ _).mono ?_; rintro e w' ⟨rfl, rfl⟩))
          go_round
          case rel => exact ⟨k + 1, by omega, by go_num, by rw [HN.out]⟩
          case measure => simp [intOf]; omega
        · have u1 : upB2 t 1099511627776 = false := upB2_no (by unfold mtB at m; omega)
          have HN := Lib.hid (P6.out rfl m)
          clear m
          go_wp2_with (first
            | (go_at_call 22; refine (upTo_any _ _ _).mono ?_; rintro e w' ⟨rfl, rfl⟩))
          go_round
          case rel => exact ⟨k + 1, by omega, by go_num, by rw [HN.out]⟩
          case measure => simp [intOf]; omega
      · have g : (z == 0) = false := by simp [q]
        have HN := Lib.hid (PX.out q)
        clear q
        go_wp2_with fail
        go_round
        case rel => exact ⟨k + 1, by omega, by go_num, by rw [HN.out]⟩
        case measure => simp [intOf]; omega
    · have hkn : k = n := by omega
      have HZ : Hid (z = y) := Lib.hid (by rw [← hz, ← HE.out, HL.out, hkn])
      clear hz hkn
      go_wp2_with fail
      go_ret
      exact ⟨by rw [HZ.out]; rfl, B1.out⟩
/-- what stands ahead of each answer that lies in memory: the parameter's block, the answer's -/
theorem two_newR (w : World) (a0 a1 a2 a3 z0 z1 z2 z3 : Value) (T : TypeId) :
    Below w.heap.size w ((w.alloc (.cells #[a0, a1, a2, a3] T)).alloc (.cells #[z0, z1, z2, z3] T)) ∧
    ((w.alloc (.cells #[a0, a1, a2, a3] T)).alloc (.cells #[z0, z1, z2, z3] T)).heap[w.heap.size]? = some (.cells #[a0, a1, a2, a3] T (0, 0)) ∧
    ((w.alloc (.cells #[a0, a1, a2, a3] T)).alloc (.cells #[z0, z1, z2, z3] T)).heap[w.heap.size + 1]? = some (.cells #[z0, z1, z2, z3] T (0, 0)) := by
  refine ⟨((Below.refl w.heap.size w).alloc (Nat.le_refl _) _).alloc (by simp) _, (Below.heap_alloc _ _ w.heap.size (by simp)).trans (heap_alloc_new w _), ?_⟩
  have := heap_alloc_new (w.alloc (.cells #[a0, a1, a2, a3] T)) (.cells #[z0, z1, z2, z3] T)
  rwa [show (w.alloc (.cells #[a0, a1, a2, a3] T)).heap.size = w.heap.size + 1 by simp] at this
set_option maxHeartbeats 2000000 in
theorem refPaS_any : PaSend Try.prog 12 := fun wd th fl si n hsi w => by
  obtain ⟨B0, F0, Z0⟩ := two_newR w (.int .i64 wd) (.int .i64 th) (.int .i64 fl) (.int .i64 si) (.int .i64 0) (.int .i64 0) (.int .i64 0) (.int .i64 0) 23
  have B1 := Lib.hid (B0.alloc (by simp; omega) (.cells #[.int .i64 n] 3)); have F1 := Lib.hid ((Below.heap_alloc _ (.cells #[.int .i64 n] 3) _ (lt_of_block F0)).trans F0); have Z1 := Lib.hid ((Below.heap_alloc _ (.cells #[.int .i64 n] 3) _ (lt_of_block Z0)).trans Z0)
  clear B0 F0 Z0
  have HF := Lib.hid (fun w b hr hb => refPaE_any wd th fl si [n] 1 b w hsi hr hb rfl (by omega))
  unfold paSR paS
  unfold paV at *
  clear hsi
  by_cases h : paE wd th fl si [n] = 0
  · obtain ⟨hf, ⟨m0, m1⟩, hK⟩ := paE_ok h
    obtain ⟨k0, k1, ⟨k7, k8⟩, ⟨k3, k4⟩, k5, k6⟩ := paF_ok hf
    rw [if_neg (fun e => e h)]
    rw [h] at HF
    have KK := Lib.hid hK
    clear h hf hK
    by_cases a : wd < fl + n
    · rw [if_pos a]
      have a' : decide (wd < fl + n) = true := by simp [a]
      go_enter Try.func12, Try.ntmps12
      go_wp2_with fail
      refine (HF.out _ _ (nrow1 _ _ _ _ (by simp)) (by simp)).mono ?_
      rintro e w1 ⟨rfl, b1⟩
      have B2 := Lib.hid (B1.out.trans (b1.mono B1.out.size)); have F2 := Lib.hid ((b1.block _ (lt_of_block F1.out)).trans F1.out); have Z2 := Lib.hid ((b1.block _ (lt_of_block Z1.out)).trans Z1.out); clear b1
      obtain ⟨q0, q1, q2, q3, qf⟩ := bk4 F2.out; obtain ⟨z0, z1, z2, z3, zf⟩ := bk4 Z2.out
      go_wp2_with fail
      obtain ⟨r0, r1, r2, r3, _, gp⟩ := bk4_put Z2.out (.int .i64 (wd)) (.int .i64 (th)) (.int .i64 (fl)) (.int .i64 (si))
      refine bodyPost_ret (by simp [results, Try.results12, go_sem, r0, r1, r2, r3]; try rfl) rfl ?_
      exact ⟨rfl, gr_from B2.out B2.out.size (Nat.le_succ _) gp⟩
    · rw [if_neg a]
      have a' : decide (wd < fl + n) = false := by simp; omega
      go_enter Try.func12, Try.ntmps12
      go_wp2_with fail
      refine (HF.out _ _ (nrow1 _ _ _ _ (by simp)) (by simp)).mono ?_
      rintro e w1 ⟨rfl, b1⟩
      have B2 := Lib.hid (B1.out.trans (b1.mono B1.out.size)); have F2 := Lib.hid ((b1.block _ (lt_of_block F1.out)).trans F1.out); have Z2 := Lib.hid ((b1.block _ (lt_of_block Z1.out)).trans Z1.out); clear b1
      obtain ⟨q0, q1, q2, q3, qf⟩ := bk4 F2.out; obtain ⟨z0, z1, z2, z3, zf⟩ := bk4 Z2.out
      go_upto_region 7 with (fail)
      have F3 := Lib.hid (show (w1.setCell ⟨w.heap.size, 2, none⟩ (.int .i64 (fl + n))).heap[w.heap.size]? = some (.cells #[.int .i64 (wd), .int .i64 (th), .int .i64 (fl + n), .int .i64 (si)] 23 (0, 0)) by simpa using bk_set F2.out 2 (.int .i64 (fl + n)))
      have gm := gr_set w1 w.heap.size 2 (.int .i64 (fl + n))
      have Z3 := Lib.hid ((gm.block _ (lt_of_block Z2.out) (by simp)).trans Z2.out)
      have B3 := Lib.hid (gr_from B2.out B2.out.size (Nat.le_refl _) gm)
      clear gm
      obtain ⟨w2, hW⟩ : ∃ W, w1.setCell ⟨w.heap.size, 2, none⟩ (.int .i64 (fl + n)) = W := ⟨_, rfl⟩
      rw [hW] at F3 Z3 B3
      rw [hW]
      clear hW q0 q1 q2 q3 qf z0 z1 z2 z3 zf
      obtain ⟨q0, q1, q2, q3, qf⟩ := bk4 F3.out; obtain ⟨z0, z1, z2, z3, zf⟩ := bk4 Z3.out
      go_wp2_with fail
      obtain ⟨r0, r1, r2, r3, _, gp⟩ := bk4_put Z3.out (.int .i64 (wd)) (.int .i64 (th)) (.int .i64 (fl + n)) (.int .i64 (si))
      refine bodyPost_ret (by simp [results, Try.results12, go_sem, r0, r1, r2, r3]; try rfl) rfl ?_
      exact ⟨rfl, gr_from B3.out B3.out.size (Nat.le_succ _) gp⟩
  · rw [if_pos h]
    obtain ⟨x, hx⟩ : ∃ x, paE wd th fl si [n] = x := ⟨_, rfl⟩
    rw [hx] at HF h ⊢
    have g : (x != 0) = true := by simp [h]
    clear h hx
    go_enter Try.func12, Try.ntmps12
    go_wp2_with fail
    refine (HF.out _ _ (nrow1 _ _ _ _ (by simp)) (by simp)).mono ?_
    rintro e w1 ⟨rfl, b1⟩
    have B2 := Lib.hid (B1.out.trans (b1.mono B1.out.size)); have F2 := Lib.hid ((b1.block _ (lt_of_block F1.out)).trans F1.out); have Z2 := Lib.hid ((b1.block _ (lt_of_block Z1.out)).trans Z1.out); clear b1
    obtain ⟨q0, q1, q2, q3, qf⟩ := bk4 F2.out; obtain ⟨z0, z1, z2, z3, zf⟩ := bk4 Z2.out
    go_wp2_with fail
    obtain ⟨r0, r1, r2, r3, _, gp⟩ := bk4_put Z2.out (.int .i64 (0)) (.int .i64 (0)) (.int .i64 (0)) (.int .i64 (0))
    refine bodyPost_ret (by simp [results, Try.results12, go_sem, r0, r1, r2, r3]; try rfl) rfl ?_
    exact ⟨rfl, gr_from B2.out B2.out.size (Nat.le_succ _) gp⟩
set_option maxHeartbeats 2000000 in
theorem refPaH_any : PaHear Try.prog 15 := fun wd th fl si n t hsi w => by
  obtain ⟨B0, F0, Z0⟩ := two_newR w (.int .i64 wd) (.int .i64 th) (.int .i64 fl) (.int .i64 si) (.int .i64 0) (.int .i64 0) (.int .i64 0) (.int .i64 0) 23
  have B1 := Lib.hid (B0.alloc (by simp; omega) (.cells #[.int .i64 n, .int .i64 t] 3)); have F1 := Lib.hid ((Below.heap_alloc _ (.cells #[.int .i64 n, .int .i64 t] 3) _ (lt_of_block F0)).trans F0); have Z1 := Lib.hid ((Below.heap_alloc _ (.cells #[.int .i64 n, .int .i64 t] 3) _ (lt_of_block Z0)).trans Z0)
  clear B0 F0 Z0
  have HF := Lib.hid (fun w b hr hb => refPaE_any wd th fl si [n, t] 2 b w hsi hr hb rfl (by omega))
  unfold paR paH
  unfold paV at *
  clear hsi
  by_cases h : paE wd th fl si [n, t] = 0
  · obtain ⟨hf, ⟨m0, m1⟩, hK⟩ := paE_ok h
    obtain ⟨k0, k1, ⟨k7, k8⟩, ⟨k3, k4⟩, k5, k6⟩ := paF_ok hf
    rw [if_neg (fun e => e h)]
    rw [h] at HF
    have KK := Lib.hid hK
    clear h hf hK
    by_cases a : fl < n
    · rw [if_pos a]
      have a' : decide (fl < n) = true := by simp [a]
      go_enter Try.func15, Try.ntmps15
      go_wp2_with fail
      refine (HF.out _ _ (nrow2 _ _ _ _ _ (by simp)) (by simp)).mono ?_
      rintro e w1 ⟨rfl, b1⟩
      have B2 := Lib.hid (B1.out.trans (b1.mono B1.out.size)); have F2 := Lib.hid ((b1.block _ (lt_of_block F1.out)).trans F1.out); have Z2 := Lib.hid ((b1.block _ (lt_of_block Z1.out)).trans Z1.out); clear b1
      obtain ⟨q0, q1, q2, q3, qf⟩ := bk4 F2.out; obtain ⟨z0, z1, z2, z3, zf⟩ := bk4 Z2.out
      go_wp2_with fail
      obtain ⟨r0, r1, r2, r3, _, gp⟩ := bk4_put Z2.out (.int .i64 (0)) (.int .i64 (0)) (.int .i64 (0)) (.int .i64 (0))
      refine bodyPost_ret (by simp [results, Try.results15, go_sem, r0, r1, r2, r3]; try rfl) rfl ?_
      exact ⟨rfl, gr_from B2.out B2.out.size (Nat.le_succ _) gp⟩
    · rw [if_neg a]
      have a' : decide (fl < n) = false := by simp; omega
      obtain ⟨gi0, gi1⟩ := paG_in (th := th) k0 m0
      by_cases s : si < t
      · rw [if_pos s]
        have gs' : decide (si < t) = true := by simp [s]
        obtain ⟨T, hT⟩ : ∃ T, min (wd + paG wd th n) 1099511627776 = T := ⟨_, rfl⟩
        rw [hT]
        by_cases g : th = 0 ∨ wd < th
        · have hg : paG wd th n = n := if_pos g
          rw [hg] at hT gi0 gi1
          have hm1 : (if wd + n < 1099511627776 then wd + n else 1099511627776) = T := by split <;> omega
          have hm2 : (if 1099511627776 < wd + n then 1099511627776 else wd + n) = T := by split <;> omega
          clear hT hg
          rcases g with g | g
          · have e1 : decide (0 < th) = false := by simp; omega
            clear g
            go_enter Try.func15, Try.ntmps15
            go_wp2_with fail
            refine (HF.out _ _ (nrow2 _ _ _ _ _ (by simp)) (by simp)).mono ?_
            rintro e w1 ⟨rfl, b1⟩
            have B2 := Lib.hid (B1.out.trans (b1.mono B1.out.size)); have F2 := Lib.hid ((b1.block _ (lt_of_block F1.out)).trans F1.out); have Z2 := Lib.hid ((b1.block _ (lt_of_block Z1.out)).trans Z1.out); clear b1
            obtain ⟨q0, q1, q2, q3, qf⟩ := bk4 F2.out; obtain ⟨z0, z1, z2, z3, zf⟩ := bk4 Z2.out
            go_upto_region 7 with (fail)
            have F3 := Lib.hid (show (w1.setCell ⟨w.heap.size, 2, none⟩ (.int .i64 (fl - n))).heap[w.heap.size]? = some (.cells #[.int .i64 (wd), .int .i64 (th), .int .i64 (fl - n), .int .i64 (si)] 23 (0, 0)) by simpa using bk_set F2.out 2 (.int .i64 (fl - n)))
            have gm := gr_set w1 w.heap.size 2 (.int .i64 (fl - n))
            have Z3 := Lib.hid ((gm.block _ (lt_of_block Z2.out) (by simp)).trans Z2.out)
            have B3 := Lib.hid (gr_from B2.out B2.out.size (Nat.le_refl _) gm)
            clear gm
            obtain ⟨w2, hW⟩ : ∃ W, w1.setCell ⟨w.heap.size, 2, none⟩ (.int .i64 (fl - n)) = W := ⟨_, rfl⟩
            rw [hW] at F3 Z3 B3
            rw [hW]
            clear hW q0 q1 q2 q3 qf z0 z1 z2 z3 zf
            obtain ⟨q0, q1, q2, q3, qf⟩ := bk4 F3.out; obtain ⟨z0, z1, z2, z3, zf⟩ := bk4 Z3.out
            go_upto_region 12 with (fail)
            have F4 := Lib.hid (show (w2.setCell ⟨w.heap.size, 0, none⟩ (.int .i64 (T))).heap[w.heap.size]? = some (.cells #[.int .i64 (T), .int .i64 (th), .int .i64 (fl - n), .int .i64 (si)] 23 (0, 0)) by simpa using bk_set F3.out 0 (.int .i64 (T)))
            have gm := gr_set w2 w.heap.size 0 (.int .i64 (T))
            have Z4 := Lib.hid ((gm.block _ (lt_of_block Z3.out) (by simp)).trans Z3.out)
            have B4 := Lib.hid (gr_from B3.out B3.out.size (Nat.le_refl _) gm)
            clear gm
            obtain ⟨w3, hW⟩ : ∃ W, w2.setCell ⟨w.heap.size, 0, none⟩ (.int .i64 (T)) = W := ⟨_, rfl⟩
            rw [hW] at F4 Z4 B4
            rw [hW]
            clear hW q0 q1 q2 q3 qf z0 z1 z2 z3 zf
            obtain ⟨q0, q1, q2, q3, qf⟩ := bk4 F4.out; obtain ⟨z0, z1, z2, z3, zf⟩ := bk4 Z4.out
            go_wp2_with fail
            obtain ⟨r0, r1, r2, r3, _, gp⟩ := bk4_put Z4.out (.int .i64 (T)) (.int .i64 (th)) (.int .i64 (fl - n)) (.int .i64 (si))
            refine bodyPost_ret (by simp [results, Try.results15, go_sem, r0, r1, r2, r3]; try rfl) rfl ?_
            exact ⟨rfl, gr_from B4.out B4.out.size (Nat.le_succ _) gp⟩
          · have e1 : decide (0 < th) = true := by simp; omega
            have e2 : decide (th ≤ wd) = false := by simp; omega
            go_enter Try.func15, Try.ntmps15
            go_wp2_with fail
            refine (HF.out _ _ (nrow2 _ _ _ _ _ (by simp)) (by simp)).mono ?_
            rintro e w1 ⟨rfl, b1⟩
            have B2 := Lib.hid (B1.out.trans (b1.mono B1.out.size)); have F2 := Lib.hid ((b1.block _ (lt_of_block F1.out)).trans F1.out); have Z2 := Lib.hid ((b1.block _ (lt_of_block Z1.out)).trans Z1.out); clear b1
            obtain ⟨q0, q1, q2, q3, qf⟩ := bk4 F2.out; obtain ⟨z0, z1, z2, z3, zf⟩ := bk4 Z2.out
            go_upto_region 7 with (fail)
            have F3 := Lib.hid (show (w1.setCell ⟨w.heap.size, 2, none⟩ (.int .i64 (fl - n))).heap[w.heap.size]? = some (.cells #[.int .i64 (wd), .int .i64 (th), .int .i64 (fl - n), .int .i64 (si)] 23 (0, 0)) by simpa using bk_set F2.out 2 (.int .i64 (fl - n)))
            have gm := gr_set w1 w.heap.size 2 (.int .i64 (fl - n))
            have Z3 := Lib.hid ((gm.block _ (lt_of_block Z2.out) (by simp)).trans Z2.out)
            have B3 := Lib.hid (gr_from B2.out B2.out.size (Nat.le_refl _) gm)
            clear gm
            obtain ⟨w2, hW⟩ : ∃ W, w1.setCell ⟨w.heap.size, 2, none⟩ (.int .i64 (fl - n)) = W := ⟨_, rfl⟩
            rw [hW] at F3 Z3 B3
            rw [hW]
            clear hW q0 q1 q2 q3 qf z0 z1 z2 z3 zf
            obtain ⟨q0, q1, q2, q3, qf⟩ := bk4 F3.out; obtain ⟨z0, z1, z2, z3, zf⟩ := bk4 Z3.out
            go_upto_region 12 with (fail)
            have F4 := Lib.hid (show (w2.setCell ⟨w.heap.size, 0, none⟩ (.int .i64 (T))).heap[w.heap.size]? = some (.cells #[.int .i64 (T), .int .i64 (th), .int .i64 (fl - n), .int .i64 (si)] 23 (0, 0)) by simpa using bk_set F3.out 0 (.int .i64 (T)))
            have gm := gr_set w2 w.heap.size 0 (.int .i64 (T))
            have Z4 := Lib.hid ((gm.block _ (lt_of_block Z3.out) (by simp)).trans Z3.out)
            have B4 := Lib.hid (gr_from B3.out B3.out.size (Nat.le_refl _) gm)
            clear gm
            obtain ⟨w3, hW⟩ : ∃ W, w2.setCell ⟨w.heap.size, 0, none⟩ (.int .i64 (T)) = W := ⟨_, rfl⟩
            rw [hW] at F4 Z4 B4
            rw [hW]
            clear hW q0 q1 q2 q3 qf z0 z1 z2 z3 zf
            obtain ⟨q0, q1, q2, q3, qf⟩ := bk4 F4.out; obtain ⟨z0, z1, z2, z3, zf⟩ := bk4 Z4.out
            go_wp2_with fail
            obtain ⟨r0, r1, r2, r3, _, gp⟩ := bk4_put Z4.out (.int .i64 (T)) (.int .i64 (th)) (.int .i64 (fl - n)) (.int .i64 (si))
            refine bodyPost_ret (by simp [results, Try.results15, go_sem, r0, r1, r2, r3]; try rfl) rfl ?_
            exact ⟨rfl, gr_from B4.out B4.out.size (Nat.le_succ _) gp⟩
        · have hg : paG wd th n = 100 * n / wd := if_neg g
          rw [hg] at hT gi0 gi1
          have gw : (wd == 0) = false := by simp; omega
          have e1 : decide (0 < th) = true := by simp; omega
          have e2 : decide (th ≤ wd) = true := by simp; omega
          obtain ⟨G, hG⟩ : ∃ G, 100 * n / wd = G := ⟨_, rfl⟩
          rw [hG] at hT gi0 gi1
          have hm1 : (if wd + G < 1099511627776 then wd + G else 1099511627776) = T := by split <;> omega
          have hm2 : (if 1099511627776 < wd + G then 1099511627776 else wd + G) = T := by split <;> omega
          clear hT hg g
          go_enter Try.func15, Try.ntmps15
          go_wp2_with fail
          refine (HF.out _ _ (nrow2 _ _ _ _ _ (by simp)) (by simp)).mono ?_
          rintro e w1 ⟨rfl, b1⟩
          have B2 := Lib.hid (B1.out.trans (b1.mono B1.out.size)); have F2 := Lib.hid ((b1.block _ (lt_of_block F1.out)).trans F1.out); have Z2 := Lib.hid ((b1.block _ (lt_of_block Z1.out)).trans Z1.out); clear b1
          obtain ⟨q0, q1, q2, q3, qf⟩ := bk4 F2.out; obtain ⟨z0, z1, z2, z3, zf⟩ := bk4 Z2.out
          go_upto_region 7 with (fail)
          have F3 := Lib.hid (show (w1.setCell ⟨w.heap.size, 2, none⟩ (.int .i64 (fl - n))).heap[w.heap.size]? = some (.cells #[.int .i64 (wd), .int .i64 (th), .int .i64 (fl - n), .int .i64 (si)] 23 (0, 0)) by simpa using bk_set F2.out 2 (.int .i64 (fl - n)))
          have gm := gr_set w1 w.heap.size 2 (.int .i64 (fl - n))
          have Z3 := Lib.hid ((gm.block _ (lt_of_block Z2.out) (by simp)).trans Z2.out)
          have B3 := Lib.hid (gr_from B2.out B2.out.size (Nat.le_refl _) gm)
          clear gm
          obtain ⟨w2, hW⟩ : ∃ W, w1.setCell ⟨w.heap.size, 2, none⟩ (.int .i64 (fl - n)) = W := ⟨_, rfl⟩
          rw [hW] at F3 Z3 B3
          rw [hW]
          clear hW q0 q1 q2 q3 qf z0 z1 z2 z3 zf
          obtain ⟨q0, q1, q2, q3, qf⟩ := bk4 F3.out; obtain ⟨z0, z1, z2, z3, zf⟩ := bk4 Z3.out
          go_upto_region 12 with (fail)
          have F4 := Lib.hid (show (w2.setCell ⟨w.heap.size, 0, none⟩ (.int .i64 (T))).heap[w.heap.size]? = some (.cells #[.int .i64 (T), .int .i64 (th), .int .i64 (fl - n), .int .i64 (si)] 23 (0, 0)) by simpa using bk_set F3.out 0 (.int .i64 (T)))
          have gm := gr_set w2 w.heap.size 0 (.int .i64 (T))
          have Z4 := Lib.hid ((gm.block _ (lt_of_block Z3.out) (by simp)).trans Z3.out)
          have B4 := Lib.hid (gr_from B3.out B3.out.size (Nat.le_refl _) gm)
          clear gm
          obtain ⟨w3, hW⟩ : ∃ W, w2.setCell ⟨w.heap.size, 0, none⟩ (.int .i64 (T)) = W := ⟨_, rfl⟩
          rw [hW] at F4 Z4 B4
          rw [hW]
          clear hW q0 q1 q2 q3 qf z0 z1 z2 z3 zf
          obtain ⟨q0, q1, q2, q3, qf⟩ := bk4 F4.out; obtain ⟨z0, z1, z2, z3, zf⟩ := bk4 Z4.out
          go_wp2_with fail
          obtain ⟨r0, r1, r2, r3, _, gp⟩ := bk4_put Z4.out (.int .i64 (T)) (.int .i64 (th)) (.int .i64 (fl - n)) (.int .i64 (si))
          refine bodyPost_ret (by simp [results, Try.results15, go_sem, r0, r1, r2, r3]; try rfl) rfl ?_
          exact ⟨rfl, gr_from B4.out B4.out.size (Nat.le_succ _) gp⟩
      · rw [if_neg s]
        have gs' : decide (si < t) = false := by simp; omega
        by_cases g : th = 0 ∨ wd < th
        · clear gi0 gi1
          rcases g with g | g
          · have e1 : decide (0 < th) = false := by simp; omega
            clear g
            go_enter Try.func15, Try.ntmps15
            go_wp2_with fail
            refine (HF.out _ _ (nrow2 _ _ _ _ _ (by simp)) (by simp)).mono ?_
            rintro e w1 ⟨rfl, b1⟩
            have B2 := Lib.hid (B1.out.trans (b1.mono B1.out.size)); have F2 := Lib.hid ((b1.block _ (lt_of_block F1.out)).trans F1.out); have Z2 := Lib.hid ((b1.block _ (lt_of_block Z1.out)).trans Z1.out); clear b1
            obtain ⟨q0, q1, q2, q3, qf⟩ := bk4 F2.out; obtain ⟨z0, z1, z2, z3, zf⟩ := bk4 Z2.out
            go_upto_region 7 with (fail)
            have F3 := Lib.hid (show (w1.setCell ⟨w.heap.size, 2, none⟩ (.int .i64 (fl - n))).heap[w.heap.size]? = some (.cells #[.int .i64 (wd), .int .i64 (th), .int .i64 (fl - n), .int .i64 (si)] 23 (0, 0)) by simpa using bk_set F2.out 2 (.int .i64 (fl - n)))
            have gm := gr_set w1 w.heap.size 2 (.int .i64 (fl - n))
            have Z3 := Lib.hid ((gm.block _ (lt_of_block Z2.out) (by simp)).trans Z2.out)
            have B3 := Lib.hid (gr_from B2.out B2.out.size (Nat.le_refl _) gm)
            clear gm
            obtain ⟨w2, hW⟩ : ∃ W, w1.setCell ⟨w.heap.size, 2, none⟩ (.int .i64 (fl - n)) = W := ⟨_, rfl⟩
            rw [hW] at F3 Z3 B3
            rw [hW]
            clear hW q0 q1 q2 q3 qf z0 z1 z2 z3 zf
            obtain ⟨q0, q1, q2, q3, qf⟩ := bk4 F3.out; obtain ⟨z0, z1, z2, z3, zf⟩ := bk4 Z3.out
            go_wp2_with fail
            obtain ⟨r0, r1, r2, r3, _, gp⟩ := bk4_put Z3.out (.int .i64 (wd)) (.int .i64 (th)) (.int .i64 (fl - n)) (.int .i64 (si))
            refine bodyPost_ret (by simp [results, Try.results15, go_sem, r0, r1, r2, r3]; try rfl) rfl ?_
            exact ⟨rfl, gr_from B3.out B3.out.size (Nat.le_succ _) gp⟩
          · have e1 : decide (0 < th) = true := by simp; omega
            have e2 : decide (th ≤ wd) = false := by simp; omega
            go_enter Try.func15, Try.ntmps15
            go_wp2_with fail
            refine (HF.out _ _ (nrow2 _ _ _ _ _ (by simp)) (by simp)).mono ?_
            rintro e w1 ⟨rfl, b1⟩
            have B2 := Lib.hid (B1.out.trans (b1.mono B1.out.size)); have F2 := Lib.hid ((b1.block _ (lt_of_block F1.out)).trans F1.out); have Z2 := Lib.hid ((b1.block _ (lt_of_block Z1.out)).trans Z1.out); clear b1
            obtain ⟨q0, q1, q2, q3, qf⟩ := bk4 F2.out; obtain ⟨z0, z1, z2, z3, zf⟩ := bk4 Z2.out
            go_upto_region 7 with (fail)
            have F3 := Lib.hid (show (w1.setCell ⟨w.heap.size, 2, none⟩ (.int .i64 (fl - n))).heap[w.heap.size]? = some (.cells #[.int .i64 (wd), .int .i64 (th), .int .i64 (fl - n), .int .i64 (si)] 23 (0, 0)) by simpa using bk_set F2.out 2 (.int .i64 (fl - n)))
            have gm := gr_set w1 w.heap.size 2 (.int .i64 (fl - n))
            have Z3 := Lib.hid ((gm.block _ (lt_of_block Z2.out) (by simp)).trans Z2.out)
            have B3 := Lib.hid (gr_from B2.out B2.out.size (Nat.le_refl _) gm)
            clear gm
            obtain ⟨w2, hW⟩ : ∃ W, w1.setCell ⟨w.heap.size, 2, none⟩ (.int .i64 (fl - n)) = W := ⟨_, rfl⟩
            rw [hW] at F3 Z3 B3
            rw [hW]
            clear hW q0 q1 q2 q3 qf z0 z1 z2 z3 zf
            obtain ⟨q0, q1, q2, q3, qf⟩ := bk4 F3.out; obtain ⟨z0, z1, z2, z3, zf⟩ := bk4 Z3.out
            go_wp2_with fail
            obtain ⟨r0, r1, r2, r3, _, gp⟩ := bk4_put Z3.out (.int .i64 (wd)) (.int .i64 (th)) (.int .i64 (fl - n)) (.int .i64 (si))
            refine bodyPost_ret (by simp [results, Try.results15, go_sem, r0, r1, r2, r3]; try rfl) rfl ?_
            exact ⟨rfl, gr_from B3.out B3.out.size (Nat.le_succ _) gp⟩
        · have gw : (wd == 0) = false := by simp; omega
          have e1 : decide (0 < th) = true := by simp; omega
          have e2 : decide (th ≤ wd) = true := by simp; omega
          clear gi0 gi1 g
          go_enter Try.func15, Try.ntmps15
          go_wp2_with fail
          refine (HF.out _ _ (nrow2 _ _ _ _ _ (by simp)) (by simp)).mono ?_
          rintro e w1 ⟨rfl, b1⟩
          have B2 := Lib.hid (B1.out.trans (b1.mono B1.out.size)); have F2 := Lib.hid ((b1.block _ (lt_of_block F1.out)).trans F1.out); have Z2 := Lib.hid ((b1.block _ (lt_of_block Z1.out)).trans Z1.out); clear b1
          obtain ⟨q0, q1, q2, q3, qf⟩ := bk4 F2.out; obtain ⟨z0, z1, z2, z3, zf⟩ := bk4 Z2.out
          go_upto_region 7 with (fail)
          have F3 := Lib.hid (show (w1.setCell ⟨w.heap.size, 2, none⟩ (.int .i64 (fl - n))).heap[w.heap.size]? = some (.cells #[.int .i64 (wd), .int .i64 (th), .int .i64 (fl - n), .int .i64 (si)] 23 (0, 0)) by simpa using bk_set F2.out 2 (.int .i64 (fl - n)))
          have gm := gr_set w1 w.heap.size 2 (.int .i64 (fl - n))
          have Z3 := Lib.hid ((gm.block _ (lt_of_block Z2.out) (by simp)).trans Z2.out)
          have B3 := Lib.hid (gr_from B2.out B2.out.size (Nat.le_refl _) gm)
          clear gm
          obtain ⟨w2, hW⟩ : ∃ W, w1.setCell ⟨w.heap.size, 2, none⟩ (.int .i64 (fl - n)) = W := ⟨_, rfl⟩
          rw [hW] at F3 Z3 B3
          rw [hW]
          clear hW q0 q1 q2 q3 qf z0 z1 z2 z3 zf
          obtain ⟨q0, q1, q2, q3, qf⟩ := bk4 F3.out; obtain ⟨z0, z1, z2, z3, zf⟩ := bk4 Z3.out
          go_wp2_with fail
          obtain ⟨r0, r1, r2, r3, _, gp⟩ := bk4_put Z3.out (.int .i64 (wd)) (.int .i64 (th)) (.int .i64 (fl - n)) (.int .i64 (si))
          refine bodyPost_ret (by simp [results, Try.results15, go_sem, r0, r1, r2, r3]; try rfl) rfl ?_
          exact ⟨rfl, gr_from B3.out B3.out.size (Nat.le_succ _) gp⟩
  · rw [if_pos h]
    obtain ⟨x, hx⟩ : ∃ x, paE wd th fl si [n, t] = x := ⟨_, rfl⟩
    rw [hx] at HF h ⊢
    have g : (x != 0) = true := by simp [h]
    clear h hx
    go_enter Try.func15, Try.ntmps15
    go_wp2_with fail
    refine (HF.out _ _ (nrow2 _ _ _ _ _ (by simp)) (by simp)).mono ?_
    rintro e w1 ⟨rfl, b1⟩
    have B2 := Lib.hid (B1.out.trans (b1.mono B1.out.size)); have F2 := Lib.hid ((b1.block _ (lt_of_block F1.out)).trans F1.out); have Z2 := Lib.hid ((b1.block _ (lt_of_block Z1.out)).trans Z1.out); clear b1
    obtain ⟨q0, q1, q2, q3, qf⟩ := bk4 F2.out; obtain ⟨z0, z1, z2, z3, zf⟩ := bk4 Z2.out
    go_wp2_with fail
    obtain ⟨r0, r1, r2, r3, _, gp⟩ := bk4_put Z2.out (.int .i64 (0)) (.int .i64 (0)) (.int .i64 (0)) (.int .i64 (0))
    refine bodyPost_ret (by simp [results, Try.results15, go_sem, r0, r1, r2, r3]; try rfl) rfl ?_
    exact ⟨rfl, gr_from B2.out B2.out.size (Nat.le_succ _) gp⟩
set_option maxHeartbeats 2000000 in
theorem refPaL_any : PaLose Try.prog 17 := fun wd th fl si n t now hsi w => by
  obtain ⟨B0, F0, Z0⟩ := two_newR w (.int .i64 wd) (.int .i64 th) (.int .i64 fl) (.int .i64 si) (.int .i64 0) (.int .i64 0) (.int .i64 0) (.int .i64 0) 23
  have B1 := Lib.hid (B0.alloc (by simp; omega) (.cells #[.int .i64 n, .int .i64 t, .int .i64 now] 3)); have F1 := Lib.hid ((Below.heap_alloc _ (.cells #[.int .i64 n, .int .i64 t, .int .i64 now] 3) _ (lt_of_block F0)).trans F0); have Z1 := Lib.hid ((Below.heap_alloc _ (.cells #[.int .i64 n, .int .i64 t, .int .i64 now] 3) _ (lt_of_block Z0)).trans Z0)
  clear B0 F0 Z0
  have HF := Lib.hid (fun w b hr hb => refPaE_any wd th fl si [n, t, now] 3 b w hsi hr hb rfl (by omega))
  unfold paR paL
  unfold paV at *
  clear hsi
  by_cases h : paE wd th fl si [n, t, now] = 0
  · obtain ⟨hf, ⟨m0, m1⟩, hK⟩ := paE_ok h
    obtain ⟨k0, k1, ⟨k7, k8⟩, ⟨k3, k4⟩, k5, k6⟩ := paF_ok hf
    rw [if_neg (fun e => e h)]
    rw [h] at HF
    have KK := Lib.hid hK
    clear h hf hK
    by_cases a : fl < n
    · rw [if_pos a]
      have a' : decide (fl < n) = true := by simp [a]
      go_enter Try.func17, Try.ntmps17
      go_wp2_with fail
      refine (HF.out _ _ (nrow3 _ _ _ _ _ _ (by simp)) (by simp)).mono ?_
      rintro e w1 ⟨rfl, b1⟩
      have B2 := Lib.hid (B1.out.trans (b1.mono B1.out.size)); have F2 := Lib.hid ((b1.block _ (lt_of_block F1.out)).trans F1.out); have Z2 := Lib.hid ((b1.block _ (lt_of_block Z1.out)).trans Z1.out); clear b1
      obtain ⟨q0, q1, q2, q3, qf⟩ := bk4 F2.out; obtain ⟨z0, z1, z2, z3, zf⟩ := bk4 Z2.out
      go_wp2_with fail
      obtain ⟨r0, r1, r2, r3, _, gp⟩ := bk4_put Z2.out (.int .i64 (0)) (.int .i64 (0)) (.int .i64 (0)) (.int .i64 (0))
      refine bodyPost_ret (by simp [results, Try.results17, go_sem, r0, r1, r2, r3]; try rfl) rfl ?_
      exact ⟨rfl, gr_from B2.out B2.out.size (Nat.le_succ _) gp⟩
    · rw [if_neg a]
      have a' : decide (fl < n) = false := by simp; omega
      by_cases s : si < t
      · rw [if_pos s]
        have gs' : decide (si < t) = true := by simp [s]
        obtain ⟨H, hH⟩ : ∃ H, max (wd / 2) 200 = H := ⟨_, rfl⟩
        obtain ⟨S, hS⟩ : ∃ S, max now t = S := ⟨_, rfl⟩
        have hm1 : (if wd / 2 < 200 then 200 else wd / 2) = H := by split <;> omega
        have hm2 : (if 200 < wd / 2 then wd / 2 else 200) = H := by split <;> omega
        have hm3 : (if now < t then t else now) = S := by split <;> omega
        have hm4 : (if t < now then now else t) = S := by split <;> omega
        rw [hH, hS]
        clear hH hS
        go_enter Try.func17, Try.ntmps17
        go_wp2_with fail
        refine (HF.out _ _ (nrow3 _ _ _ _ _ _ (by simp)) (by simp)).mono ?_
        rintro e w1 ⟨rfl, b1⟩
        have B2 := Lib.hid (B1.out.trans (b1.mono B1.out.size)); have F2 := Lib.hid ((b1.block _ (lt_of_block F1.out)).trans F1.out); have Z2 := Lib.hid ((b1.block _ (lt_of_block Z1.out)).trans Z1.out); clear b1
        obtain ⟨q0, q1, q2, q3, qf⟩ := bk4 F2.out; obtain ⟨z0, z1, z2, z3, zf⟩ := bk4 Z2.out
        go_upto_region 7 with (fail)
        have F3 := Lib.hid (show (w1.setCell ⟨w.heap.size, 2, none⟩ (.int .i64 (fl - n))).heap[w.heap.size]? = some (.cells #[.int .i64 (wd), .int .i64 (th), .int .i64 (fl - n), .int .i64 (si)] 23 (0, 0)) by simpa using bk_set F2.out 2 (.int .i64 (fl - n)))
        have gm := gr_set w1 w.heap.size 2 (.int .i64 (fl - n))
        have Z3 := Lib.hid ((gm.block _ (lt_of_block Z2.out) (by simp)).trans Z2.out)
        have B3 := Lib.hid (gr_from B2.out B2.out.size (Nat.le_refl _) gm)
        clear gm
        obtain ⟨w2, hW⟩ : ∃ W, w1.setCell ⟨w.heap.size, 2, none⟩ (.int .i64 (fl - n)) = W := ⟨_, rfl⟩
        rw [hW] at F3 Z3 B3
        rw [hW]
        clear hW q0 q1 q2 q3 qf z0 z1 z2 z3 zf
        obtain ⟨q0, q1, q2, q3, qf⟩ := bk4 F3.out; obtain ⟨z0, z1, z2, z3, zf⟩ := bk4 Z3.out
        go_upto_region 10 with (fail)
        have F4 := Lib.hid (show (w2.setCell ⟨w.heap.size, 3, none⟩ (.int .i64 S)).heap[w.heap.size]? = some (.cells #[.int .i64 wd, .int .i64 th, .int .i64 (fl - n), .int .i64 S] 23 (0, 0)) by simpa using bk_set F3.out 3 (.int .i64 S))
        have F5 := Lib.hid (show ((w2.setCell ⟨w.heap.size, 3, none⟩ (.int .i64 S)).setCell ⟨w.heap.size, 0, none⟩ (.int .i64 H)).heap[w.heap.size]? = some (.cells #[.int .i64 H, .int .i64 th, .int .i64 (fl - n), .int .i64 S] 23 (0, 0)) by simpa using bk_set F4.out 0 (.int .i64 H))
        have F6 := Lib.hid (show (((w2.setCell ⟨w.heap.size, 3, none⟩ (.int .i64 S)).setCell ⟨w.heap.size, 0, none⟩ (.int .i64 H)).setCell ⟨w.heap.size, 1, none⟩ (.int .i64 H)).heap[w.heap.size]? = some (.cells #[.int .i64 H, .int .i64 H, .int .i64 (fl - n), .int .i64 S] 23 (0, 0)) by simpa using bk_set F5.out 1 (.int .i64 H))
        have gm := gr_trans (gr_trans (gr_set w2 w.heap.size 3 (.int .i64 S)) (gr_set _ w.heap.size 0 (.int .i64 H))) (gr_set _ w.heap.size 1 (.int .i64 H))
        have Z6 := Lib.hid ((gm.block _ (lt_of_block Z3.out) (by simp)).trans Z3.out)
        have B6 := Lib.hid (gr_from B3.out B3.out.size (Nat.le_refl _) gm)
        obtain ⟨W5, hW⟩ : ∃ W, ((w2.setCell ⟨w.heap.size, 3, none⟩ (.int .i64 S)).setCell ⟨w.heap.size, 0, none⟩ (.int .i64 H)).setCell ⟨w.heap.size, 1, none⟩ (.int .i64 H) = W := ⟨_, rfl⟩
        rw [hW]
        rw [hW] at F6 Z6 B6
        clear hW gm q0 q1 q2 q3 qf z0 z1 z2 z3 zf
        obtain ⟨q0, q1, q2, q3, qf⟩ := bk4 F6.out; obtain ⟨z0, z1, z2, z3, zf⟩ := bk4 Z6.out
        go_wp2_with fail
        obtain ⟨r0, r1, r2, r3, _, gp⟩ := bk4_put Z6.out (.int .i64 (H)) (.int .i64 (H)) (.int .i64 (fl - n)) (.int .i64 (S))
        refine bodyPost_ret (by simp [results, Try.results17, go_sem, r0, r1, r2, r3]; try rfl) rfl ?_
        exact ⟨rfl, gr_from B6.out B6.out.size (Nat.le_succ _) gp⟩
      · rw [if_neg s]
        have gs' : decide (si < t) = false := by simp; omega
        go_enter Try.func17, Try.ntmps17
        go_wp2_with fail
        refine (HF.out _ _ (nrow3 _ _ _ _ _ _ (by simp)) (by simp)).mono ?_
        rintro e w1 ⟨rfl, b1⟩
        have B2 := Lib.hid (B1.out.trans (b1.mono B1.out.size)); have F2 := Lib.hid ((b1.block _ (lt_of_block F1.out)).trans F1.out); have Z2 := Lib.hid ((b1.block _ (lt_of_block Z1.out)).trans Z1.out); clear b1
        obtain ⟨q0, q1, q2, q3, qf⟩ := bk4 F2.out; obtain ⟨z0, z1, z2, z3, zf⟩ := bk4 Z2.out
        go_upto_region 7 with (fail)
        have F3 := Lib.hid (show (w1.setCell ⟨w.heap.size, 2, none⟩ (.int .i64 (fl - n))).heap[w.heap.size]? = some (.cells #[.int .i64 (wd), .int .i64 (th), .int .i64 (fl - n), .int .i64 (si)] 23 (0, 0)) by simpa using bk_set F2.out 2 (.int .i64 (fl - n)))
        have gm := gr_set w1 w.heap.size 2 (.int .i64 (fl - n))
        have Z3 := Lib.hid ((gm.block _ (lt_of_block Z2.out) (by simp)).trans Z2.out)
        have B3 := Lib.hid (gr_from B2.out B2.out.size (Nat.le_refl _) gm)
        clear gm
        obtain ⟨w2, hW⟩ : ∃ W, w1.setCell ⟨w.heap.size, 2, none⟩ (.int .i64 (fl - n)) = W := ⟨_, rfl⟩
        rw [hW] at F3 Z3 B3
        rw [hW]
        clear hW q0 q1 q2 q3 qf z0 z1 z2 z3 zf
        obtain ⟨q0, q1, q2, q3, qf⟩ := bk4 F3.out; obtain ⟨z0, z1, z2, z3, zf⟩ := bk4 Z3.out
        go_wp2_with fail
        obtain ⟨r0, r1, r2, r3, _, gp⟩ := bk4_put Z3.out (.int .i64 (wd)) (.int .i64 (th)) (.int .i64 (fl - n)) (.int .i64 (si))
        refine bodyPost_ret (by simp [results, Try.results17, go_sem, r0, r1, r2, r3]; try rfl) rfl ?_
        exact ⟨rfl, gr_from B3.out B3.out.size (Nat.le_succ _) gp⟩
  · rw [if_pos h]
    obtain ⟨x, hx⟩ : ∃ x, paE wd th fl si [n, t, now] = x := ⟨_, rfl⟩
    rw [hx] at HF h ⊢
    have g : (x != 0) = true := by simp [h]
    clear h hx
    go_enter Try.func17, Try.ntmps17
    go_wp2_with fail
    refine (HF.out _ _ (nrow3 _ _ _ _ _ _ (by simp)) (by simp)).mono ?_
    rintro e w1 ⟨rfl, b1⟩
    have B2 := Lib.hid (B1.out.trans (b1.mono B1.out.size)); have F2 := Lib.hid ((b1.block _ (lt_of_block F1.out)).trans F1.out); have Z2 := Lib.hid ((b1.block _ (lt_of_block Z1.out)).trans Z1.out); clear b1
    obtain ⟨q0, q1, q2, q3, qf⟩ := bk4 F2.out; obtain ⟨z0, z1, z2, z3, zf⟩ := bk4 Z2.out
    go_wp2_with fail
    obtain ⟨r0, r1, r2, r3, _, gp⟩ := bk4_put Z2.out (.int .i64 (0)) (.int .i64 (0)) (.int .i64 (0)) (.int .i64 (0))
    refine bodyPost_ret (by simp [results, Try.results17, go_sem, r0, r1, r2, r3]; try rfl) rfl ?_
    exact ⟨rfl, gr_from B2.out B2.out.size (Nat.le_succ _) gp⟩
end Go.Proofs.Ytlafjladlkbnoaa
