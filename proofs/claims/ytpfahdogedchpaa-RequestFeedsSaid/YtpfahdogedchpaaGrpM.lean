/- Several texts in one. -/
import Derived.Test.YtpfahdogedchpaaGrpZb
/- The document's answers on tables: youngest. -/
namespace Go.Proofs.Ytpfahdogedchpaa
set_option linter.unusedVariables false
open Go.RowKit P

theorem infoFd : (Try.prog.info? 66).map (fun i => (i.zero, i.size, i.bytes)) = some (some (.agg #[.string ⟨#[]⟩, .string ⟨#[]⟩]), 2, 32) := by kernel_rfl
theorem weight_small (A : Option Addr) (n c : Nat) (l : List Fld) (w : World) (h : RowE FdE w w.heap.size A l) (hn : l.length = n) (hm : n ≤ 8796093022208) (hwf : ∀ x ∈ l, FdWf x) (hs : wtL l ≤ 4611686018427387903) :
    Calls Try.prog 45 #[.slice A n c] w fun e w' => e = .returned (.int .i64 (wtL l : Int)) ∧ Below w.heap.size w w' := by
  have := weight_any A n c l w h hn hm hwf
  rwa [show IntKind.i64.wrap (wtL l : Int) = (wtL l : Int) by rw [IntKind.wrap_i64]; omega] at this
theorem drop_one {l : List Fld} {k : Nat} (h : k < l.length) : l.drop k = l.getD k fd0 :: l.drop (k + 1) := by
  rw [List.drop_eq_getElem_cons h, List.getD_eq_getElem?_getD, List.getElem?_eq_getElem h]
  rfl
end Go.Proofs.Ytpfahdogedchpaa
/- The document's answers on tables: TableGot. -/
namespace Go.Proofs.Ytpfahdogedchpaa
set_option linter.unusedVariables false
open Go.RowKit P

theorem two_bk (w : World) (a b : Array Value) (T1 T2 : TypeId) : ((w.alloc (.cells a T1)).alloc (.cells b T2)).heap[w.heap.size]? = some (.cells a T1 (0, 0)) ∧ ((w.alloc (.cells a T1)).alloc (.cells b T2)).heap[w.heap.size + 1]? = some (.cells b T2 (0, 0)) ∧ Below w.heap.size w ((w.alloc (.cells a T1)).alloc (.cells b T2)) := by
  have s1 : (w.alloc (.cells a T1)).heap.size = w.heap.size + 1 := by simp
  have h2 := heap_alloc_new (w.alloc (.cells a T1)) (.cells b T2)
  rw [s1] at h2
  exact ⟨(Below.heap_alloc _ _ _ (by rw [s1]; omega)).trans (heap_alloc_new w _), h2, ((Below.refl _ _).alloc (Nat.le_refl _) _).alloc (by simp) _⟩
theorem bk2_putF {w : World} {b : Nat} {a0 a1 : Value} {T : TypeId} (h : w.heap[b]? = some (.cells #[a0, a1] T (0, 0))) (v0 v1 : Value) :
    ((w.setCell ⟨b, 0, none⟩ v0).setCell ⟨b, 1, none⟩ v1).cell? ⟨b, 0, none⟩ = some v0 ∧ ((w.setCell ⟨b, 0, none⟩ v0).setCell ⟨b, 1, none⟩ v1).cell? ⟨b, 1, none⟩ = some v1 ∧ w.grownBy ((w.setCell ⟨b, 0, none⟩ v0).setCell ⟨b, 1, none⟩ v1) (some b) := by
  have h0 : (w.setCell ⟨b, 0, none⟩ v0).heap[b]? = some (.cells #[v0, a1] T (0, 0)) := by simpa using bk_set h 0 v0
  have h1 : ((w.setCell ⟨b, 0, none⟩ v0).setCell ⟨b, 1, none⟩ v1).heap[b]? = some (.cells #[v0, v1] T (0, 0)) := by simpa using bk_set h0 1 v1
  exact ⟨(bk2F h1).1, (bk2F h1).2, gr_trans (gr_set _ b 0 v0) (gr_set _ b 1 v1)⟩
theorem fdV0 : fdV fd0 = .agg #[.string ⟨#[]⟩, .string ⟨#[]⟩] := rfl
set_option maxHeartbeats 2000000 in
theorem refTabG_any : TbGet Try.prog 48 := fun v t n W hv hw hnb => by
  have HFT := Lib.hid (fun w (hb : Below W.heap.size W w) => refTabF_any v t w (hv.on hb) hw)
  obtain ⟨sv, rfl, hs⟩ := hv.ex
  obtain ⟨A, c, rfl, hlc, hcm, hr⟩ := hs.ex
  have HR := Lib.hid hr
  have pb := hw.put
  have hG : getT t n = if faultTb t ≠ 0 then (fd0, faultTb t) else if ¬ (0 ≤ n ∧ n < t.put) then (fd0, 5) else if (t.rows.length : Int) < t.put - n then (fd0, 16) else (t.rows.getD (t.rows.length - (t.put - n).toNat) fd0, 0) := rfl
  obtain ⟨g0, g1, g2⟩ := two_bk W #[.int .i64 t.room, .int .i64 t.put, .slice A t.rows.length c] #[.string ⟨#[]⟩, .string ⟨#[]⟩] 27 66
  have F0 := Lib.hid g0
  have Z0 := Lib.hid g1
  have B0 := Lib.hid g2
  rw [hG]
  clear hG g0 g1 g2
  have hok := fun h : faultTb t = 0 => (faultTb_iff t).1 h
  obtain ⟨x, hx⟩ : ∃ x, faultTb t = x := ⟨_, rfl⟩
  rw [hx] at HFT hok ⊢
  obtain ⟨room, put, rows⟩ := t
  simp only at *
  obtain ⟨N, hN⟩ : ∃ N, rows.length = N := ⟨_, rfl⟩
  have HN := Lib.hid hN
  rw [hN] at HFT F0 Z0 B0 hlc ⊢
  unfold maxLen at hcm
  clear hv hs hr hw hx
  by_cases h0 : x = 0
  · subst h0
    obtain ⟨k1, k2, k3, k4, k5⟩ := hok rfl
    simp only at k1 k2 k3 k4
    rw [hN] at k3
    rw [if_neg (fun k => k rfl)]
    clear hok k5 hN
    by_cases h1 : 0 ≤ n ∧ n < put
    · rw [if_neg (fun k => k h1)]
      have u1 : upB2 n (put - 1) = true := upB2_yes h1.1 (by omega)
      obtain ⟨bk, hbk⟩ : ∃ bk : Nat, put - n = bk := ⟨(put - n).toNat, by omega⟩
      by_cases h2 : (N : Int) < put - n
      · rw [if_pos h2]
        have e2 : decide (N < bk) = true := by simp; omega
        clear h2
        go_enter Try.func48, Try.ntmps48
        go_wp2_with (first
          | (go_at_call 38; refine (HFT.out _ B0.out).mono ?_; rintro e w1 ⟨rfl, b1⟩; have B1 := Lib.hid (B0.out.trans (b1.mono B0.out.size)); have F1 := Lib.hid ((b1.block _ (lt_of_block F0.out)).trans F0.out); have Z1 := Lib.hid ((b1.block _ (lt_of_block Z0.out)).trans Z0.out); clear b1; obtain ⟨q0, q1, q2⟩ := bk3T F1.out; obtain ⟨z0, z1⟩ := bk2F Z1.out; have zf := fun i => bk_frz Z1.out i)
          | (go_at_call 31; refine (upTo_any _ _ _).mono ?_; rintro e w' ⟨rfl, rfl⟩))
        obtain ⟨r0, r1, gp⟩ := bk2_putF Z1.out (.string ⟨#[]⟩) (.string ⟨#[]⟩)
        refine bodyPost_ret (by simp [results, Try.results48, go_sem, r0, r1]; try rfl) rfl ?_
        exact ⟨gr_from B1.out B1.out.size (Nat.le_succ _) gp, rfl⟩
      · rw [if_neg h2]
        have e2 : decide (N < bk) = false := by simp; omega
        obtain ⟨j, hj⟩ : ∃ j : Nat, (N : Int) - (bk : Int) = j := ⟨N - bk, by omega⟩
        have hjj : N - (put - n).toNat = j := by omega
        rw [hjj]
        have hjN : j < N := by omega
        obtain ⟨b, off, hA, hbl, x0, x1⟩ := fd_cells HR.out (i := j) (by rw [HN.out]; exact hjN)
        obtain ⟨f, hf⟩ : ∃ f, rows.getD j fd0 = f := ⟨_, rfl⟩
        rw [hf] at x0 x1 ⊢
        have HV := Lib.hid (show fdV f = .agg #[.string (strOfNums f.name), .string (strOfNums f.val)] from rfl)
        rw [HV.out]
        obtain ⟨S1, hS1⟩ : ∃ S, strOfNums f.name = S := ⟨_, rfl⟩
        obtain ⟨S2, hS2⟩ : ∃ S, strOfNums f.val = S := ⟨_, rfl⟩
        rw [hS1] at x0 ⊢
        rw [hS2] at x1 ⊢
        subst hA
        have HBL := Lib.hid hbl
        have X0 := Lib.hid x0
        have X1 := Lib.hid x1
        clear h2 hf hS1 hS2 x0 x1 hbl HV hjj
        go_enter Try.func48, Try.ntmps48
        go_wp2_with (first
          | (go_at_call 38; refine (HFT.out _ B0.out).mono ?_; rintro e w1 ⟨rfl, b1⟩; have B1 := Lib.hid (B0.out.trans (b1.mono B0.out.size)); have F1 := Lib.hid ((b1.block _ (lt_of_block F0.out)).trans F0.out); have Z1 := Lib.hid ((b1.block _ (lt_of_block Z0.out)).trans Z0.out); clear b1; obtain ⟨q0, q1, q2⟩ := bk3T F1.out; obtain ⟨z0, z1⟩ := bk2F Z1.out; have zf := fun i => bk_frz Z1.out i; have y0 := (B1.out.cell (p := ⟨b, off + j * 2, none⟩) HBL.out).trans X0.out; have y1 := (B1.out.cell (p := ⟨b, off + j * 2 + 1, none⟩) HBL.out).trans X1.out)
          | (go_at_call 31; refine (upTo_any _ _ _).mono ?_; rintro e w' ⟨rfl, rfl⟩))
        obtain ⟨r0, r1, gp⟩ := bk2_putF Z1.out (.string S1) (.string S2)
        refine bodyPost_ret (by simp [results, Try.results48, go_sem, r0, r1]; try rfl) rfl ?_
        exact ⟨gr_from B1.out B1.out.size (Nat.le_succ _) gp, rfl⟩
    · rw [if_pos h1]
      have u1 : upB2 n (put - 1) = false := upB2_no (by omega)
      clear h1
      go_enter Try.func48, Try.ntmps48
      go_wp2_with (first
        | (go_at_call 38; refine (HFT.out _ B0.out).mono ?_; rintro e w1 ⟨rfl, b1⟩; have B1 := Lib.hid (B0.out.trans (b1.mono B0.out.size)); have F1 := Lib.hid ((b1.block _ (lt_of_block F0.out)).trans F0.out); have Z1 := Lib.hid ((b1.block _ (lt_of_block Z0.out)).trans Z0.out); clear b1; obtain ⟨q0, q1, q2⟩ := bk3T F1.out; obtain ⟨z0, z1⟩ := bk2F Z1.out; have zf := fun i => bk_frz Z1.out i)
        | (go_at_call 31; refine (upTo_any _ _ _).mono ?_; rintro e w' ⟨rfl, rfl⟩))
      obtain ⟨r0, r1, gp⟩ := bk2_putF Z1.out (.string ⟨#[]⟩) (.string ⟨#[]⟩)
      refine bodyPost_ret (by simp [results, Try.results48, go_sem, r0, r1]; try rfl) rfl ?_
      exact ⟨gr_from B1.out B1.out.size (Nat.le_succ _) gp, rfl⟩
  · rw [if_pos h0]
    have g : (x != 0) = true := by simp [h0]
    clear h0 hok hN
    go_enter Try.func48, Try.ntmps48
    go_wp2_with (first
      | (go_at_call 38; refine (HFT.out _ B0.out).mono ?_; rintro e w1 ⟨rfl, b1⟩; have B1 := Lib.hid (B0.out.trans (b1.mono B0.out.size)); have F1 := Lib.hid ((b1.block _ (lt_of_block F0.out)).trans F0.out); have Z1 := Lib.hid ((b1.block _ (lt_of_block Z0.out)).trans Z0.out); clear b1; obtain ⟨q0, q1, q2⟩ := bk3T F1.out; obtain ⟨z0, z1⟩ := bk2F Z1.out; have zf := fun i => bk_frz Z1.out i)
      | (go_at_call 31; refine (upTo_any _ _ _).mono ?_; rintro e w' ⟨rfl, rfl⟩))
    obtain ⟨r0, r1, gp⟩ := bk2_putF Z1.out (.string ⟨#[]⟩) (.string ⟨#[]⟩)
    refine bodyPost_ret (by simp [results, Try.results48, go_sem, r0, r1]; try rfl) rfl ?_
    exact ⟨gr_from B1.out B1.out.size (Nat.le_succ _) gp, rfl⟩
end Go.Proofs.Ytpfahdogedchpaa
