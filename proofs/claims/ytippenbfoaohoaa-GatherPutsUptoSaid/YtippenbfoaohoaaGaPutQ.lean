/- Contract of package gather: Put. -/
import Derived.Test.YtippenbfoaohoaaGaPutP
namespace Go.Proofs.Ytippenbfoaohoaa
set_option linter.unusedVariables false
open Go.RowKit P

theorem putG_ref (g : Ga) (off : Int) (d : List Int) (fin : Bool) : putG g off d fin = if refG g off d.length fin ≠ 0 then (gz, refG g off d.length fin) else if 4 < (putP g off d).length then (gz, 8) else (⟨g.done, putP g off d, if fin then off + d.length else g.final, g.window⟩, 0) := by
  unfold putG refG
  by_cases hf : faultG g ≠ 0
  · rw [if_pos hf, if_pos hf, if_pos hf]
  rw [if_neg hf, if_neg hf]
  have hok : okG g := okG_of (by simpa using hf)
  have hfin := hok.2.1
  by_cases c1 : 0 ≤ off ∧ off + (d.length : Int) ≤ 4611686018427387903
  · rw [if_neg (fun h => h c1), if_neg (show ¬(off < 0 ∨ 4611686018427387903 - (d.length : Int) < off) by omega)]
    by_cases c2 : g.final ≠ -1 ∧ (g.final < off + d.length ∨ fin = true ∧ off + d.length ≠ g.final)
    · rw [if_pos c2, if_pos, if_pos (by decide)]
      refine .inl ⟨by omega, ?_⟩
      rcases c2.2 with h | h
      · exact .inl h
      · by_cases q : g.final < off + d.length
        · exact .inl q
        · exact .inr ⟨h.1, by have := h.2; omega⟩
    · rw [if_neg c2]
      by_cases c3 : fin = true ∧ off + d.length < reachP g.done g.held
      · rw [if_pos c3, if_pos (.inr c3), if_pos (by decide)]
      · rw [if_neg c3, if_neg (fun h => by
          rcases h with ⟨h1, h2⟩ | h
          · refine c2 ⟨by omega, ?_⟩
            rcases h2 with h2 | h2
            · exact .inl h2
            · exact .inr ⟨h2.1, by have := h2.2; omega⟩
          · exact c3 h)]
        by_cases c4 : g.window < off + d.length
        · rw [if_pos c4, if_pos c4, if_pos (by decide)]
        · rw [if_neg c4, if_neg c4]
          exact (if_neg (fun h => h rfl)).symm
  · rw [if_pos c1, if_pos (show off < 0 ∨ 4611686018427387903 - (d.length : Int) < off by omega), if_pos (by decide)]
theorem refG_zero {g : Ga} {off : Int} {n : Nat} {fin : Bool} (h : refG g off n fin = 0) : okG g ∧ 0 ≤ off ∧ off + n ≤ 4611686018427387903 := by
  unfold refG at h
  by_cases hf : faultG g ≠ 0
  · rw [if_pos hf] at h; exact absurd h hf
  · rw [if_neg hf] at h
    by_cases c1 : off < 0 ∨ 4611686018427387903 - (n : Int) < off
    · rw [if_pos c1] at h; cases h
    · exact ⟨okG_of (by simpa using hf), by omega, by omega⟩
set_option maxRecDepth 100000 in
set_option maxHeartbeats 2000000 in
theorem gaPut_F (v v2 : Value) (g : Ga) (off : Int) (d : List Int) (fin : Bool) (w : World) (hv : GaVal w w.heap.size v g) (hw : GaWf g) (hlen : ∀ p ∈ g.held, p.2.length ≤ 140737488355328) (hd : BSl w w.heap.size v2 d) (hsum : d.length + sumP g.held ≤ 1048576) (ho : -9223372036854775808 ≤ off ∧ off ≤ 9223372036854775807) : Calls Try.prog 15 #[v, .int .i64 off, v2, .bool fin] w (GaResF (putG g off d fin) w) := by
  obtain ⟨s, rfl, hs⟩ := id hv.ex
  obtain ⟨A, c, rfl, hnc, hcm, hrow⟩ := id hs.ex
  obtain ⟨Ad, cd, rfl, hdc, hdm, hdn, hdr⟩ := id hd.ex
  obtain ⟨g0, g1, g2⟩ := twoG w #[.int .i64 g.done, .slice A g.held.length c, .int .i64 g.final, .int .i64 g.window] #[.int .i64 0, .slice none 0 0, .int .i64 0, .int .i64 0] 24 24
  have G0 := Lib.hid g0
  have G1 := Lib.hid g1
  have B0 := Lib.hid g2
  have hRF := fun w' (hb : Below w.heap.size w w') => refuse_any _ g off d.length fin w' (hv.on hb) hw hlen (by omega) ho
  have hpg := putG_ref g off d fin
  obtain ⟨RES, hRES⟩ : ∃ r, putG g off d fin = r := ⟨_, rfl⟩
  rw [hRES] at hpg ⊢
  by_cases hx : refG g off d.length fin = 0
  · obtain ⟨hok, h0, h1⟩ := refG_zero hx
    rw [if_neg (fun h => h hx)] at hpg
    rw [hx] at hRF
    have hTG := fun w' (hb : Below w.heap.size w w') => together_any g A Ad g.held.length c d.length cd off d w' hok ((hs.below hb).more hb.size) ((hd.below hb).more hb.size) h0 h1 (by omega)
    have hbw := putG_ok (g := g) (off := off) (d := d) (fin := fin)
    obtain ⟨R, hR⟩ : ∃ R, putP g off d = R := ⟨_, rfl⟩
    rw [hR] at hpg hTG
    obtain ⟨m, hm⟩ : ∃ m, d.length = m := ⟨_, rfl⟩
    rw [hm] at hpg hTG hRF h1 ⊢
    have HRF := Lib.hid hRF
    have HTG := Lib.hid hTG
    have HPG := Lib.hid hpg
    have HE := Lib.hid (fun w' => end_any off Ad m cd w' ⟨by omega, by omega⟩)
    clear hRF hTG hpg hv hs hd hw hlen hsum hdr hrow hR hm hRES hx hok g0 g1 g2 hbw hdc hdm hdn hnc hcm
    go_enter Try.func15, Try.ntmps15
    go_wp2_with fail
    refine (HRF.out _ B0.out).mono ?_
    rintro e w1 ⟨rfl, b1⟩
    have B1 := Lib.hid ((B0.out.trans (b1.mono B0.out.size)).alloc (B0.out.trans (b1.mono B0.out.size)).size (.cells #[.int .i64 off, .slice Ad m cd] 55))
    have F0 := Lib.hid ((b1.block _ (lt_of_block G0.out)).trans G0.out)
    have Z0 := Lib.hid ((b1.block _ (lt_of_block G1.out)).trans G1.out)
    have F1 := Lib.hid ((Below.heap_alloc w1 (.cells #[.int .i64 off, .slice Ad m cd] 55) _ (lt_of_block F0.out)).trans F0.out)
    have Z1 := Lib.hid ((Below.heap_alloc w1 (.cells #[.int .i64 off, .slice Ad m cd] 55) _ (lt_of_block Z0.out)).trans Z0.out)
    have C1 := Lib.hid (heap_alloc_new w1 (.cells #[.int .i64 off, .slice Ad m cd] 55))
    have hz1 := lt_of_block Z0.out
    clear b1
    obtain ⟨q0, q1, q2, q3⟩ := bkG F1.out
    have p0 := bk_cell C1.out 0
    have p1 := bk_cell C1.out 1
    simp only [List.getElem?_toArray, List.getElem?_cons_zero, List.getElem?_cons_succ] at p0 p1
    go_wp2_with fail
    refine (HTG.out _ B1.out).mono ?_
    rintro e w2 ⟨u, cs, rfl, r2, ec, b2⟩
    have R2 := Lib.hid r2
    have EC := Lib.hid ec
    have B2 := Lib.hid (B1.out.trans (b2.mono B1.out.size))
    have F2 := Lib.hid ((b2.block _ (lt_of_block F1.out)).trans F1.out)
    have Z2 := Lib.hid ((b2.block _ (lt_of_block Z1.out)).trans Z1.out)
    have C2 := Lib.hid ((b2.block _ (lt_of_block C1.out)).trans C1.out)
    obtain ⟨Au, cu, hu, _, _⟩ := r2.slice
    subst hu
    have hn : cs.length = R.length := by rw [← ec, List.length_map]
    have hbs : w.heap.size + 1 < (w1.alloc (.cells #[.int .i64 off, .slice Ad m cd] 55)).heap.size + 2 := by simp; omega
    have HBS := Lib.hid hbs
    clear r2 ec b2 q0 q1 q2 q3 p0 p1 hbs
    obtain ⟨n, hnn⟩ : ∃ n, cs.length = n := ⟨_, rfl⟩
    rw [hnn] at hn R2 ⊢
    obtain ⟨q0, q1, q2, q3⟩ := bkG F2.out
    have qf := fun i => bk_frz F2.out i
    have s1 := gr_set w2 w.heap.size 1 (.slice Au n cu)
    have FX := Lib.hid (show (w2.setCell ⟨w.heap.size, 1, none⟩ (.slice Au n cu)).heap[w.heap.size]? = some (.cells #[.int .i64 g.done, .slice Au n cu, .int .i64 g.final, .int .i64 g.window] 24 (0, 0)) from by simpa using bk_set F2.out 1 (.slice Au n cu))
    have ZX := Lib.hid ((s1.block _ (lt_of_block Z2.out) (by simp)).trans Z2.out)
    have CX := Lib.hid ((s1.block _ (lt_of_block C2.out) (by simp; omega)).trans C2.out)
    have BX := Lib.hid (gr_from B2.out B2.out.size (Nat.le_refl _) s1)
    have RX := Lib.hid (R2.out.keptB s1 (by have := HBS.out; omega))
    clear s1
    have hBX := BX.out.size
    obtain ⟨p0, p1, p2, p3⟩ := bkG FX.out
    have pf := fun i => bk_frz FX.out i
    obtain ⟨z0, z1, z2, z3⟩ := bkG ZX.out
    have zf := fun i => bk_frz ZX.out i
    by_cases hful : 4 < n
    · have HR := Lib.hid (HPG.out.trans (if_pos (by rw [← hn]; exact hful)))
      have dn : decide ((4 : Int) < (n : Int)) = true := by simp; omega
      clear hful hn
      go_wp2_with fail
      obtain ⟨r0, r1, r2, r3, gp⟩ := bkG_put ZX.out (.int .i64 0) (.slice none 0 0) (.int .i64 0) (.int .i64 0)
      refine bodyPost_ret (by simp [results, Try.results15, go_sem, r0, r1, r2, r3]; try rfl) rfl ?_
      rw [HR.out]
      exact ⟨gr_from BX.out hBX (Nat.le_succ _) gp, _, rfl, ⟨_, rfl, PF.nil _ _⟩⟩
    · have hp2 := HPG.out.trans (if_neg (by rw [← hn]; exact hful))
      have dn : decide ((4 : Int) < (n : Int)) = false := by simp; omega
      have HEC := Lib.hid (show cs.map PC.pc = R from EC.out)
      clear hful hn
      cases fin with
      | true =>
        have HR := Lib.hid hp2
        have c0 := bk_cell CX.out 0
        have c1 := bk_cell CX.out 1
        simp only [List.getElem?_toArray, List.getElem?_cons_zero, List.getElem?_cons_succ] at c0 c1
        clear hp2
        go_wp2_with fail
        refine (HE.out _).mono ?_
        rintro e w3 ⟨rfl, b3⟩
        have B3 := Lib.hid (BX.out.trans (b3.mono BX.out.size))
        have F3 := Lib.hid ((b3.block _ (lt_of_block FX.out)).trans FX.out)
        have Z3 := Lib.hid ((b3.block _ (lt_of_block ZX.out)).trans ZX.out)
        have R3 := Lib.hid (RX.out.below b3)
        clear b3 p0 p1 p2 p3 pf z0 z1 z2 z3 zf c0 c1 q0 q1 q2 q3 qf
        obtain ⟨p0, p1, p2, p3⟩ := bkG F3.out
        have pf := fun i => bk_frz F3.out i
        have s2 := gr_set w3 w.heap.size 2 (.int .i64 (off + m))
        have FY := Lib.hid (show (w3.setCell ⟨w.heap.size, 2, none⟩ (.int .i64 (off + m))).heap[w.heap.size]? = some (.cells #[.int .i64 g.done, .slice Au n cu, .int .i64 (off + m), .int .i64 g.window] 24 (0, 0)) from by simpa using bk_set F3.out 2 (.int .i64 (off + m)))
        have ZY := Lib.hid ((s2.block _ (lt_of_block Z3.out) (by simp)).trans Z3.out)
        have BY := Lib.hid (gr_from B3.out B3.out.size (Nat.le_refl _) s2)
        have RY := Lib.hid (R3.out.keptB s2 (by have := HBS.out; omega))
        clear s2
        obtain ⟨u0, u1, u2, u3⟩ := bkG FY.out
        obtain ⟨z0, z1, z2, z3⟩ := bkG ZY.out
        have zf := fun i => bk_frz ZY.out i
        go_wp2_with fail
        obtain ⟨r0, r1, r2, r3, gp⟩ := bkG_put ZY.out (.int .i64 g.done) (.slice Au n cu) (.int .i64 (off + m)) (.int .i64 g.window)
        refine bodyPost_ret (by simp [results, Try.results15, go_sem, r0, r1, r2, r3]; try rfl) rfl ?_
        rw [HR.out]
        exact ⟨gr_from BY.out BY.out.size (Nat.le_succ _) gp, _, rfl, ⟨_, rfl, pf_of (RY.out.keptB gp (by have := HBS.out; omega)) HEC.out (by have := HBS.out; omega)⟩⟩
      | false =>
        have HR := Lib.hid hp2
        clear hp2
        go_wp2_with fail
        obtain ⟨r0, r1, r2, r3, gp⟩ := bkG_put ZX.out (.int .i64 g.done) (.slice Au n cu) (.int .i64 g.final) (.int .i64 g.window)
        refine bodyPost_ret (by simp [results, Try.results15, go_sem, r0, r1, r2, r3]; try rfl) rfl ?_
        rw [HR.out]
        exact ⟨gr_from BX.out hBX (Nat.le_succ _) gp, _, rfl, ⟨_, rfl, pf_of (RX.out.keptB gp (by have := HBS.out; omega)) HEC.out (by have := HBS.out; omega)⟩⟩
  · rw [if_pos hx] at hpg
    have HRF := Lib.hid hRF
    obtain ⟨x, hx2⟩ : ∃ x, refG g off d.length fin = x := ⟨_, rfl⟩
    rw [hx2] at hpg hx HRF
    have gx : (x != 0) = true := by simp [hx]
    have HPG := Lib.hid hpg
    obtain ⟨m, hm⟩ : ∃ m, d.length = m := ⟨_, rfl⟩
    rw [hm] at HRF ⊢
    clear hRF hpg hv hs hd hw hlen hsum hdr hrow hm hRES hx hx2 g0 g1 g2 hdc hdm hdn hnc hcm
    go_enter Try.func15, Try.ntmps15
    go_wp2_with (go_at_call 29; refine (HRF.out _ B0.out).mono ?_; rintro e w1 ⟨rfl, b1⟩; have B1 := Lib.hid (B0.out.trans (b1.mono B0.out.size)); have F1 := Lib.hid ((b1.block _ (lt_of_block G0.out)).trans G0.out); have Z1 := Lib.hid ((b1.block _ (lt_of_block G1.out)).trans G1.out); clear b1; obtain ⟨q0, q1, q2, q3⟩ := bkG F1.out; obtain ⟨z0, z1, z2, z3⟩ := bkG Z1.out; have zf := fun i => bk_frz Z1.out i)
    obtain ⟨r0, r1, r2, r3, gp⟩ := bkG_put Z1.out (.int .i64 0) (.slice none 0 0) (.int .i64 0) (.int .i64 0)
    refine bodyPost_ret (by simp [results, Try.results15, go_sem, r0, r1, r2, r3]; try rfl) rfl ?_
    rw [HPG.out]
    exact ⟨gr_from B1.out B1.out.size (Nat.le_succ _) gp, _, rfl, ⟨_, rfl, PF.nil _ _⟩⟩
theorem gaPut_any : GaPutD Try.prog 15 := fun v v2 g off d fin w hv hw hlen hd hsum ho => (gaPut_F v v2 g off d fin w hv hw hlen hd hsum ho).mono fun _ _ h => h.toRes
end Go.Proofs.Ytippenbfoaohoaa
