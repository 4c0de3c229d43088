/- Contracts of package space: Tell, Begin; the document's SpaceTold. -/
import Derived.Test.YtgfbonfoimiknaaSpRev
import Derived.Test.YtgfbonfoimiknaaRefSpQuiet
namespace Go.Proofs.Ytgfbonfoimiknaa
set_option linter.unusedVariables false
open Go.RowKit P

structure SpTellR (r : List (Int × Int) × Int) (w : World) (e : Ending) (w' : World) : Prop where
  be : Below w.heap.size w w'
  ex : ∃ u, e = .returned (.tuple #[u, .int .i64 r.2]) ∧ RSl w' w'.heap.size u r.1
theorem rsl_ownT {w : World} {base : Nat} {e : TypeId} {v : Value} {qs : List (Int × Int)} (h : OwnR w base e v qs) : RSl w w.heap.size v qs := by
  obtain ⟨A, c, e1, h1, h2, h3⟩ := h.slice
  exact ⟨A, c, e1, h1, h2, h3⟩
theorem own_oneR {w : World} {base : Nat} (a b : Int) (hb : base ≤ w.heap.size) : OwnR (w.alloc (.cells #[.int .i64 a, .int .i64 b] 80)) base 80 (.slice (some ⟨w.heap.size, 0, none⟩) 1 1) [(a, b)] :=
  ⟨by simp [cellsR], .inr ⟨w.heap.size, 1, #[.int .i64 a, .int .i64 b], rfl, hb, heap_alloc_new w _, Nat.le_refl _, by unfold maxLen; omega, by simp, by simp [cellsR]⟩⟩
set_option maxRecDepth 100000 in
set_option maxHeartbeats 1000000 in
theorem spTell_any (v : Value) (s : Sp) (w : World) (hv : SpVal w w.heap.size v s) (hw : SpWf s) : Calls Try.prog 27 #[v] w (SpTellR (tellSp s) w) := by
  have HCK := Lib.hid (fun w' (hb : Below w.heap.size w w') => spChk_any v s w' ((hv.below hb).more hb.size) hw)
  obtain ⟨a, h, kk, rfl, ha, hh, hk⟩ := hv.ex
  obtain ⟨Aa, ca, csa, rfl, _, _, _, _⟩ := ha.ex
  have HH := Lib.hid (fun w' (hb : Below w.heap.size w w') => rcloneB_any w'.heap.size h s.heard w' (Nat.le_refl _) ((hh.below hb).more hb.size) hw.hl)
  obtain ⟨Ah, ch, rfl, _, _, _⟩ := hh.ex
  obtain ⟨Ak, ck, rfl, _, _, _⟩ := hk.ex
  have F0 := Lib.hid (heap_alloc_new w (.cells #[.int .i64 s.next, .slice Aa s.sent.length ca, .int .i64 s.top, .slice Ah s.heard.length ch, .slice Ak s.skip.length ck] 48))
  have B0 := Lib.hid ((Below.refl w.heap.size w).alloc (Nat.le_refl _) (.cells #[.int .i64 s.next, .slice Aa s.sent.length ca, .int .i64 s.top, .slice Ah s.heard.length ch, .slice Ak s.skip.length ck] 48))
  clear hv ha hh hk
  obtain ⟨q0, q1, q2, q3, q4⟩ := sp5 F0.out
  go_enter Try.func27, Try.ntmps27
  go_wp2_with fail
  refine (HCK.out _ B0.out).mono ?_
  rintro e w1 ⟨rfl, b1⟩
  have B1 := Lib.hid (B0.out.trans (b1.mono B0.out.size))
  have F1 := Lib.hid ((b1.block _ (lt_of_block F0.out)).trans F0.out)
  clear b1
  clear q0 q1 q2 q3 q4
  obtain ⟨q0, q1, q2, q3, q4⟩ := sp5 F1.out
  rcases faultSp_two s with f | f
  · have HR := Lib.hid (show tellSp s = (s.heard.reverse, 0) from by unfold tellSp; rw [if_neg (by simp [f])])
    have h6 : s.heard.length ≤ 6 := ((faultSp_iff s).1 f).2.2.2.2.2.1
    rw [f]
    go_wp2_with fail
    refine (HH.out _ B1.out).mono ?_
    rintro e w2 ⟨u, rfl, o2, b2⟩
    obtain ⟨A2, c2, rfl, _, _, _⟩ := o2.slice
    have HV := Lib.hid (spRev_any A2 s.heard.length c2 w1.heap.size s.heard w2 o2 rfl (by omega))
    have O2 := Lib.hid o2
    have B2 := Lib.hid (B1.out.trans (b2.mono B1.out.size))
    have hb12 := b2.size
    clear o2 b2 q0 q1 q2 q3 q4
    go_wp2_with fail
    refine (HV.out).mono ?_
    rintro e w3 ⟨rfl, o3, g3⟩
    have O3 := Lib.hid o3
    have B3 := Lib.hid (B2.out.grown g3 B2.out.size (fun q hq => by have := (O2.out.lt q hq).1; have := B1.out.size; omega))
    clear o3 g3
    go_wp2_with fail
    go_ret2
    rw [HR.out]
    exact ⟨B3.out, _, rfl, rsl_ownT O3.out⟩
  · have HR := Lib.hid (show tellSp s = ([], 9) from by unfold tellSp; rw [f]; rfl)
    rw [f]
    go_wp2_with fail
    go_ret2
    rw [HR.out]
    exact ⟨B1.out, _, rfl, RSl.nil _ _⟩
/-- a space that begins -/
def spB : Sp := ⟨0, [], -1, [], []⟩
set_option maxRecDepth 100000 in
set_option maxHeartbeats 1000000 in
theorem spBegin_any (w : World) : Calls Try.prog 32 #[] w fun e w' => e = .returned (.agg #[.int .i64 0, .slice none 0 0, .int .i64 (-1), .slice none 0 0, .slice none 0 0]) ∧ Below w.heap.size w w' := by
  have Z0 := Lib.hid (heap_alloc_new w (.cells #[.int .i64 0, .slice none 0 0, .int .i64 0, .slice none 0 0, .slice none 0 0] 48))
  have B0 := Lib.hid ((Below.refl w.heap.size w).alloc (Nat.le_refl _) (.cells #[.int .i64 0, .slice none 0 0, .int .i64 0, .slice none 0 0, .slice none 0 0] 48))
  obtain ⟨z0, z1, z2, z3, z4⟩ := sp5 Z0.out
  have zf := fun i => bk_frz Z0.out i
  go_enter Try.func32, Try.ntmps32
  go_wp2_with fail
  have RY := heap_alloc_new w (.cells #[.int .i64 0, .slice none 0 0, .int .i64 (-1), .slice none 0 0, .slice none 0 0] 48)
  obtain ⟨y0, y1, y2, y3, y4⟩ := sp5 RY
  refine bodyPost_ret (by simp [results, Try.results32, go_sem]; try rfl) rfl ?_
  exact ⟨rfl, (Below.refl w.heap.size w).alloc (Nat.le_refl _) _⟩
set_option maxRecDepth 100000 in
set_option maxHeartbeats 1000000 in
theorem backwards_any (A : Option Addr) (n c : Nat) (zs : List (Int × Int)) (w : World) (h : RRow w w.heap.size A zs) (hn : zs.length = n) (hm : n ≤ 1048576) :
    Calls Try.prog 82 #[.slice A n c] w fun e w' => ∃ u, e = .returned u ∧ RSl w' w'.heap.size u zs.reverse ∧ Below w.heap.size w w' := by
  obtain ⟨i0, hi0, hz0, hz1, hz2⟩ := info_parts infoR
  have HI := Lib.hid hi0
  have HZ := Lib.hid hz0
  have HZ1 := Lib.hid hz1
  have HZ2 := Lib.hid hz2
  have HR := Lib.hid h
  have HN := Lib.hid hn
  have O0 := Lib.hid (OwnR.nil w w.heap.size 80)
  have B0 := Lib.hid (Below.refl w.heap.size w)
  clear h hn hi0 hz0 hz1 hz2
  go_enter Try.func82, Try.ntmps82
  go_wp2_with fail
  go_loopg [8, 3] n (fun gq iv v wr => ∃ k : Nat, iv = .int .i64 k ∧ k + gq = n ∧ Hid (OwnR wr w.heap.size 80 v (zs.take k).reverse) ∧ Hid (Below w.heap.size w wr))
  case atStart => exact ⟨0, rfl, by omega, O0, B0⟩
  case round =>
    obtain ⟨k, rfl, hkg, OK, BK⟩ := hrel
    obtain ⟨X, hX⟩ : ∃ X, X = wr := ⟨_, rfl⟩
    subst hX
    clear O0 B0
    by_cases hlt : k < n
    · have hkz : k < zs.length := by rw [HN.out]; exact hlt
      obtain ⟨b, off, rfl, hbb, hc⟩ := HR.out (by omega)
      obtain ⟨c0, c1⟩ := hc k hkz
      obtain ⟨⟨lo, hi⟩, hp⟩ : ∃ p, zs.getD k (0, 0) = p := ⟨_, rfl⟩
      have HT := Lib.hid (show (zs.take (k + 1)).reverse = [(lo, hi)] ++ (zs.take k).reverse from by
        rw [List.take_succ_eq_append_getElem hkz, List.reverse_append]
        have : zs[k] = (lo, hi) := by rw [← hp, List.getD_eq_getElem?_getD, List.getElem?_eq_getElem hkz]; rfl
        rw [this]
        rfl)
      rw [hp] at c0 c1
      simp only at c0 c1
      have x0 := (BK.out.cell (p := ⟨b, off + k * 2, none⟩) hbb).trans c0
      have x1 := (BK.out.cell (p := ⟨b, off + k * 2 + 1, none⟩) hbb).trans c1
      obtain ⟨Ao, co, hv, hv1, hv2, _⟩ := OK.out.slice
      obtain ⟨L, hL⟩ : ∃ x, (zs.take k).reverse = x := ⟨_, rfl⟩
      have hLk : L.length ≤ k := by rw [← hL, List.length_reverse, List.length_take]; omega
      rw [hL] at OK HT hv hv1
      obtain ⟨no, hno⟩ : ∃ x, L.length = x := ⟨_, rfl⟩
      have HNO := Lib.hid hno
      rw [hno] at hv hv1 hLk
      subst hv
      have hki : (k : Int) < (n : Int) := by omega
      have AB := Lib.hid ((Below.refl X.heap.size X).alloc (Nat.le_refl _) (.cells #[.int .i64 lo, .int .i64 hi] 80))
      have PB := Lib.hid (heap_alloc_new X (.cells #[.int .i64 lo, .int .i64 hi] 80))
      clear hc hp c0 c1 hL hno
      go_upto_region 5 with fail
      clear x0 x1
      obtain ⟨Y, hY⟩ : ∃ x, X.alloc (.cells #[.int .i64 lo, .int .i64 hi] 80) = x := ⟨_, rfl⟩
      rw [hY] at AB PB
      try rw [hY]
      clear hY
      have y0 := bk_cell PB.out 0
      have y1 := bk_cell PB.out 1
      simp only [List.getElem?_toArray, List.getElem?_cons_zero, List.getElem?_cons_succ] at y0 y1
      have BY := Lib.hid (BK.out.trans (AB.out.mono BK.out.size))
      have BN := Lib.hid ((Below.refl Y.heap.size Y).alloc (Nat.le_refl _) (.cells #[.int .i64 lo, .int .i64 hi] 80))
      have ON := Lib.hid (own_oneR (w := Y) (base := w.heap.size) lo hi BY.out.size)
      obtain ⟨Ao', co', e1, _, _, hro⟩ := OK.out.slice
      injection e1 with e1 e2 e3
      subst e1
      have RO := Lib.hid ((hro.on AB.out).on BN.out)
      clear hro e2 e3
      go_wp2_with (at_builtin; (refine wpList_appR _ rfl (.tmp 13) (.tmp 14) _ rfl w.heap.size 80 i0 _ Try.underlying25 HI.out HZ.out HZ1.out HZ2.out rfl (.slice (some ⟨Y.heap.size, 0, none⟩) 1 1) [(lo, hi)] rfl ON.out _ Ao no co L rfl RO.out HNO.out (by simp; omega) (Nat.le_trans BY.out.size BN.out.size) ?_; intro v9 w9 own9 gr9; have O9 := Lib.hid own9; have G9 := Lib.hid gr9; clear own9 gr9))
      have BZ := Lib.hid ((BY.out.trans (BN.out.mono BY.out.size)).grown G9.out (Nat.le_trans BY.out.size BN.out.size) (fun q hq => (ON.out.lt q hq).1))
      have OZ := O9.out
      rw [← HT.out] at OZ
      have OZ' := Lib.hid OZ
      clear OZ
      go_roundg (gk - 1)
      case measure => omega
      case rel => exact ⟨k + 1, by first | rfl | go_num, by omega, OZ', BZ⟩
    · have hkn : k = n := by omega
      subst k
      have OZ := OK.out
      rw [List.take_of_length_le (by rw [HN.out]; exact Nat.le_refl _)] at OZ
      have OZ' := Lib.hid OZ
      clear OZ
      go_wp2_with fail
      go_ret
      exact ⟨_, rfl, rsl_ownT OZ'.out, BK.out⟩
set_option maxRecDepth 100000 in
set_option maxHeartbeats 1000000 in
theorem refSpTell_any (v : Value) (s : Sp) (w : World) (hv : SpVal w w.heap.size v s) (hw : SpWf s) : Calls Try.prog 29 #[v] w (SpTellR (tellSp s) w) := by
  have HCK := Lib.hid (fun w' (hb : Below w.heap.size w w') => refSpFault_any v s w' ((hv.below hb).more hb.size) hw)
  obtain ⟨a, h, kk, rfl, ha, hh, hk⟩ := hv.ex
  obtain ⟨Aa, ca, csa, rfl, _, _, _, _⟩ := ha.ex
  obtain ⟨Ah, ch, rfl, _, _, hhr⟩ := hh.ex
  have HH := Lib.hid (fun w' (hb : Below w.heap.size w w') (h6 : s.heard.length ≤ 6) => backwards_any Ah s.heard.length ch s.heard w' ((hhr.below hb).more hb.size) rfl (by omega))
  obtain ⟨Ak, ck, rfl, _, _, _⟩ := hk.ex
  have F0 := Lib.hid (heap_alloc_new w (.cells #[.int .i64 s.next, .slice Aa s.sent.length ca, .int .i64 s.top, .slice Ah s.heard.length ch, .slice Ak s.skip.length ck] 48))
  have B0 := Lib.hid ((Below.refl w.heap.size w).alloc (Nat.le_refl _) (.cells #[.int .i64 s.next, .slice Aa s.sent.length ca, .int .i64 s.top, .slice Ah s.heard.length ch, .slice Ak s.skip.length ck] 48))
  clear hv ha hh hk hhr
  obtain ⟨q0, q1, q2, q3, q4⟩ := sp5 F0.out
  go_enter Try.func29, Try.ntmps29
  go_wp2_with fail
  refine (HCK.out _ B0.out).mono ?_
  rintro e w1 ⟨rfl, b1⟩
  have B1 := Lib.hid (B0.out.trans (b1.mono B0.out.size))
  have F1 := Lib.hid ((b1.block _ (lt_of_block F0.out)).trans F0.out)
  clear b1
  clear q0 q1 q2 q3 q4
  obtain ⟨q0, q1, q2, q3, q4⟩ := sp5 F1.out
  rcases faultSp_two s with f | f
  · have HR := Lib.hid (show tellSp s = (s.heard.reverse, 0) from by unfold tellSp; rw [if_neg (by simp [f])])
    have h6 : s.heard.length ≤ 6 := ((faultSp_iff s).1 f).2.2.2.2.2.1
    rw [f]
    go_wp2_with fail
    refine (HH.out _ B1.out h6).mono ?_
    rintro e w2 ⟨u, rfl, hu, b2⟩
    have U2 := Lib.hid hu
    have B2 := Lib.hid (B1.out.trans (b2.mono B1.out.size))
    clear hu b2 q0 q1 q2 q3 q4
    go_wp2_with fail
    go_ret2
    rw [HR.out]
    exact ⟨B2.out, _, rfl, U2.out⟩
  · have HR := Lib.hid (show tellSp s = ([], 9) from by unfold tellSp; rw [f]; rfl)
    rw [f]
    go_wp2_with fail
    go_ret2
    rw [HR.out]
    exact ⟨B1.out, _, rfl, RSl.nil _ _⟩
end Go.Proofs.Ytgfbonfoimiknaa
