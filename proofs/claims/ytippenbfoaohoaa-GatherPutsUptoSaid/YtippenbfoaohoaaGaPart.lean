/- Contract of package gather: part. -/
import Derived.Test.YtippenbfoaohoaaGaApart
import Derived.Test.YtippenbfoaohoaaGaTog
import Derived.Test.YtippenbfoaohoaaGaSame
namespace Go.Proofs.Ytippenbfoaohoaa
set_option linter.unusedVariables false
open Go.RowKit P

/-- a part of a row of bytes -/
theorem bsl_part {w : World} {B : Nat} {A : Option Addr} {n c : Nat} {zs : List Int} (h : BSl w B (.slice A n c) zs) (hl : zs.length = n) (lo hi : Nat) (h1 : lo < hi) (h2 : hi ≤ n) :
    ∃ b o, A = some ⟨b, o, none⟩ ∧ n ≤ c ∧ c ≤ maxLen ∧ BSl w B (.slice (some ⟨b, o + lo, none⟩) (hi - lo) (c - lo)) ((zs.drop lo).take (hi - lo)) := by
  obtain ⟨A', c', e, h3, h4, h5, h6⟩ := h.ex
  injection e with e1 e2 e3
  subst e1 e3
  obtain ⟨b, o, e, hb, hc⟩ := h6.2 (by omega)
  have hlen : ((zs.drop lo).take (hi - lo)).length = hi - lo := by rw [List.length_take, List.length_drop]; omega
  refine ⟨b, o, e, by omega, h4, ⟨_, _, by rw [hlen], by rw [hlen]; omega, by omega, (fun e => by cases e), ⟨fun i => ?_, fun _ => ⟨b, o + lo, rfl, hb, fun j hj => ?_⟩⟩⟩⟩
  · by_cases k : i < hi - lo
    · rw [getD_take k, getD_drop]; exact h6.1 _
    · rw [List.getD_eq_getElem?_getD, List.getElem?_eq_none (by rw [hlen]; omega)]
      exact ⟨by decide, by decide⟩
  · rw [hlen] at hj
    rw [Nat.add_assoc, hc (lo + j) (by omega), getD_take hj, getD_drop]
set_option maxHeartbeats 1000000 in
theorem part_any (off fr to : Int) (A : Option Addr) (n c : Nat) (d : List Int) (B : Nat) (w : World) (hd : BSl w B (.slice A n c) d) (hB : B ≤ w.heap.size) (hl : d.length = n)
    (ho : -9223372036854775808 ≤ off ∧ off + n ≤ 9223372036854775807) :
    Calls Try.prog 38 #[.agg #[.int .i64 off, .slice A n c], .int .i64 fr, .int .i64 to] w fun e w' => ∃ dv, e = .returned (.agg #[.int .i64 (partP (off, d) fr to).1, dv]) ∧ BSl w' B dv (partP (off, d) fr to).2 ∧ Below w.heap.size w w' := by
  have he : endP ((off, d) : Pc) = off + (n : Int) := by unfold endP; rw [hl]
  have hp : partP (off, d) fr to = if min to (off + (n : Int)) ≤ max fr off then (0, []) else (max fr off, (d.drop (max fr off - off).toNat).take (min to (off + (n : Int)) - max fr off).toNat) := by unfold partP; rw [he]
  have hd0 : BSl (w.alloc (.cells #[.int .i64 off, .slice A n c] 55)) B (.slice A n c) d := hd.below (((Below.refl w.heap.size w).alloc (Nat.le_refl _) _).mono hB)
  have HE := Lib.hid (fun w' => end_any off A n c w' ⟨by omega, ho.2⟩)
  have B0 := Lib.hid (((Below.refl w.heap.size w).alloc (Nat.le_refl _) (.cells #[.int .i64 off, .slice A n c] 55)).alloc (by simp) (.cells #[.int .i64 0, .slice none 0 0] 55))
  obtain ⟨k1, k2⟩ : ((w.alloc (.cells #[.int .i64 off, .slice A n c] 55)).alloc (.cells #[.int .i64 0, .slice none 0 0] 55)).heap[w.heap.size]? = some (.cells #[.int .i64 off, .slice A n c] 55 (0, 0)) ∧ ((w.alloc (.cells #[.int .i64 off, .slice A n c] 55)).alloc (.cells #[.int .i64 0, .slice none 0 0] 55)).heap[w.heap.size + 1]? = some (.cells #[.int .i64 0, .slice none 0 0] 55 (0, 0)) := by
    obtain ⟨a1, a2, _⟩ := twoG w #[.int .i64 off, .slice A n c] #[.int .i64 0, .slice none 0 0] 55 55
    exact ⟨a1, a2⟩
  have F0 := Lib.hid k1
  have Z0 := Lib.hid k2
  have m1 : (if fr < off then off else fr) = max fr off := by split <;> omega
  have m2 : (if off + (n : Int) < to then off + (n : Int) else to) = min to (off + (n : Int)) := by split <;> omega
  obtain ⟨a, ha⟩ : ∃ a, max fr off = a := ⟨_, rfl⟩
  obtain ⟨b, hb⟩ : ∃ b, min to (off + (n : Int)) = b := ⟨_, rfl⟩
  rw [ha] at m1
  rw [hb] at m2
  rw [ha, hb] at hp
  have hao : off ≤ a := by omega
  have hbo : b ≤ off + (n : Int) := by omega
  have HP := Lib.hid hp
  have HL := Lib.hid hl
  have HD := Lib.hid hd
  clear hp he ha hb hd hd0 hl k1 k2
  go_enter Try.func38, Try.ntmps38
  go_wp2_with fail
  have d0 := Ext.cell (bk_cell F0.out 0)
  have d1 := Ext.cell (bk_cell F0.out 1)
  refine wp_region_ext (by kernel_rfl) (by kernel_rfl) ?_
  repeat (go_big_quiet_step ((go_at_call 31; exact Ext.call (HE.out _))))
  refine wpQuiet_nil ?_
  intro w1 hb1
  clear d0 d1 m1 m2
  have B1 := Lib.hid (B0.out.trans (hb1.mono B0.out.size))
  have F1 := Lib.hid ((hb1.block _ (lt_of_block F0.out)).trans F0.out)
  have Z1 := Lib.hid ((hb1.block _ (lt_of_block Z0.out)).trans Z0.out)
  have D1 := Lib.hid (HD.out.below (B1.out.mono hB))
  have hs1 := B1.out.size
  clear hb1
  have q0 := bk_cell F1.out 0
  have q1 := bk_cell F1.out 1
  have z0 := bk_cell Z1.out 0
  have z1 := bk_cell Z1.out 1
  have zf := fun i => bk_frz Z1.out i
  simp only [List.getElem?_toArray, List.getElem?_cons_zero, List.getElem?_cons_succ] at q0 q1 z0 z1
  have s1 : ∀ v0 v1, ((w1.setCell ⟨w.heap.size + 1, 0, none⟩ v0).setCell ⟨w.heap.size + 1, 1, none⟩ v1).cell? ⟨w.heap.size + 1, 0, none⟩ = some v0 ∧ ((w1.setCell ⟨w.heap.size + 1, 0, none⟩ v0).setCell ⟨w.heap.size + 1, 1, none⟩ v1).cell? ⟨w.heap.size + 1, 1, none⟩ = some v1 := fun v0 v1 => by
    have h1 : (w1.setCell ⟨w.heap.size + 1, 0, none⟩ v0).heap[w.heap.size + 1]? = some (.cells #[v0, .slice none 0 0] 55 (0, 0)) := by simpa using bk_set Z1.out 0 v0
    have h2 : ((w1.setCell ⟨w.heap.size + 1, 0, none⟩ v0).setCell ⟨w.heap.size + 1, 1, none⟩ v1).heap[w.heap.size + 1]? = some (.cells #[v0, v1] 55 (0, 0)) := by simpa using bk_set h1 1 v1
    exact ⟨bk_cell h2 0, bk_cell h2 1⟩
  have S1 := Lib.hid s1
  have GP := Lib.hid (fun v0 v1 => gr_trans (gr_set w1 (w.heap.size + 1) 0 v0) (gr_set (w1.setCell ⟨w.heap.size + 1, 0, none⟩ v0) (w.heap.size + 1) 1 v1))
  clear s1
  by_cases hab : b ≤ a
  · have HP2 := Lib.hid (HP.out.trans (if_pos hab))
    go_wp2_with fail
    obtain ⟨r0, r1⟩ := S1.out (.int .i64 0) (.slice none 0 0)
    refine bodyPost_ret (by simp [results, Try.results38, go_sem, r0, r1]; try rfl) rfl ?_
    exact ⟨_, by rw [HP2.out], by rw [HP2.out]; exact BSl.nil _ _, gr_from B1.out hs1 (Nat.le_succ _) (GP.out _ _)⟩
  · have HP2 := Lib.hid (HP.out.trans (if_neg hab))
    have hab' : decide (b ≤ a) = false := by simp; omega
    obtain ⟨lo, hlo⟩ : ∃ lo : Nat, a = off + (lo : Int) := ⟨(a - off).toNat, by omega⟩
    obtain ⟨hi, hhi⟩ : ∃ hi : Nat, b = off + (hi : Int) := ⟨(b - off).toNat, by omega⟩
    obtain ⟨b0, o, hA, hnc, hcm, hpt⟩ := bsl_part D1.out HL.out lo hi (by omega) (by omega)
    subst hA
    unfold maxLen at hcm
    have HPT := Lib.hid hpt
    have e1 : IntKind.i64.wrap (a - off) = (lo : Int) := by rw [IntKind.wrap_i64]; omega
    have e2 : IntKind.i64.wrap (b - off) = (hi : Int) := by rw [IntKind.wrap_i64]; omega
    have HE1 := Lib.hid (show (a - off).toNat = lo by omega)
    have HE2 := Lib.hid (show (b - a).toNat = hi - lo by omega)
    have l1 : (lo : Int) ≤ (hi : Int) := by omega
    have l2 : (hi : Int) ≤ (c : Int) := by omega
    have l3 : ¬ lo = c := by omega
    clear hpt hab hlo hhi
    go_wp2_with fail
    obtain ⟨r0, r1⟩ := S1.out (.int .i64 a) (.slice (some ⟨b0, o + lo, none⟩) (hi - lo) (c - lo))
    refine bodyPost_ret (by simp [results, Try.results38, go_sem, r0, r1]; try rfl) rfl ?_
    have BB := gr_from B1.out hs1 (Nat.le_succ _) (GP.out (.int .i64 a) (.slice (some ⟨b0, o + lo, none⟩) (hi - lo) (c - lo)))
    have BG := gr_from (B := B) (Below.refl B w1) (by omega) (by omega) (GP.out (.int .i64 a) (.slice (some ⟨b0, o + lo, none⟩) (hi - lo) (c - lo)))
    exact ⟨_, by rw [HP2.out], by rw [HP2.out, HE1.out, HE2.out]; exact HPT.out.below BG, BB⟩
end Go.Proofs.Ytippenbfoaohoaa
