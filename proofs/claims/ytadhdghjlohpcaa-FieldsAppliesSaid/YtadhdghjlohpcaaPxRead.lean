/- The project's prefix.Read. -/
import Derived.Test.YtadhdghjlohpcaaPxDec
import Derived.Test.YtadhdghjlohpcaaRefPxT
namespace Go.Proofs.Ytadhdghjlohpcaa
set_option linter.unusedVariables false
open Go.RowKit P

theorem brow_cut {w : World} {B : Nat} {A : Option Addr} {b : List Int} {c : Nat} (h : BRow w B A b) (hc : b.length ≤ c) (k m : Nat) : BRow w B (if c = k then A else Option.map (fun x => x.add k) A) ((b.drop k).take m) := by
  refine ⟨(h.1.drop k).take m, fun hp => ?_⟩
  rw [List.length_take, List.length_drop] at hp
  obtain ⟨g, off, rfl, hg, hcell⟩ := h.2 (by omega)
  rw [if_neg (by omega)]
  refine ⟨g, off + k, by simp [Go.WideShapes.add_plain], hg, fun j hj => ?_⟩
  rw [List.length_take, List.length_drop] at hj
  rw [getD_take (by omega), getD_drop, show off + k + j = off + (k + j) by omega]
  exact hcell (k + j) (by omega)
theorem cut_len {b : List Int} {k m : Nat} (h : k + m ≤ b.length) : ((b.drop k).take m).length = m := by rw [List.length_take, List.length_drop]; omega
def PxRead (P : Program) (f : FuncId) : Prop := ∀ (v : Value) (b : List Int) (wi : Int) (w : World), BSl w w.heap.size v b → b.length ≤ 140737488355328 → -9223372036854775808 ≤ wi → wi ≤ 9223372036854775807 → Calls P f #[v, .int .i64 wi] w fun e w' => e = .returned (pxTV (pxTR b wi)) ∧ w = w'
set_option maxHeartbeats 1000000 in
theorem pxRead_any : PxRead Try.prog 87 := fun v b wi w hv hl w0 w1 => by
  have HO := Lib.hid (pxDec_any v b wi w hv hl w0 w1)
  obtain ⟨A, c, rfl, hc, hm, hn, hr⟩ := hv.ex
  have HIN := Lib.hid (fun h => pxR_in (b := b) (w := wi) (fun j => (hr.1 j).1) h)
  have HE : Hid (pxTR b wi = if (pxR b wi).2.2 ≠ 0 then ([], 0, (pxR b wi).2.2) else if 120 < (pxR b wi).1 then ([], 0, 1) else if (b.length : Int) < (pxR b wi).2.1 + (pxR b wi).1 then ([], 0, 4) else ((b.drop (pxR b wi).2.1.toNat).take (pxR b wi).1.toNat, (pxR b wi).2.1 + (pxR b wi).1, 0)) := Lib.hid rfl
  obtain ⟨⟨n, u, x⟩, hr0⟩ : ∃ r, pxR b wi = r := ⟨_, rfl⟩
  rw [hr0] at HO HIN HE
  simp only at HIN HE
  have HR := Lib.hid hr
  have HCV := Lib.hid (fun i j (h : i + j ≤ b.length) (cap : Nat) => run_str (P := Try.prog) (brow_cut hr hc i j) (cut_len h) 27 9 5 cap)
  unfold pxRV at HO
  rw [HE.out]
  obtain ⟨N, hN⟩ : ∃ N, b.length = N := ⟨_, rfl⟩
  rw [hN] at hc hl HIN HCV HO ⊢
  clear hr0 w0 w1 hr hv hn HE hN
  by_cases hx : x = 0
  · subst hx
    obtain ⟨n0, n1, u0, u1, u2⟩ := HIN.out rfl
    rw [if_neg (fun k => k rfl)]
    by_cases h1 : 120 < n
    · rw [if_pos h1]
      have e1 : decide (120 < n) = true := by simp [h1]
      unfold pxTV
      go_enter Try.func87, Try.ntmps87
      go_wp2_with fail
      refine (HO.out).mono ?_
      rintro e w1 ⟨rfl, rfl⟩
      go_wp2_with fail
      go_ret3
      exact ⟨rfl, rfl⟩
    · rw [if_neg h1]
      have e1 : decide (120 < n) = false := by simp; omega
      by_cases h2 : (N : Int) < u + n
      · rw [if_pos h2]
        have e2 : decide ((N : Int) - u < n) = true := by simp; omega
        unfold pxTV
        go_enter Try.func87, Try.ntmps87
        go_wp2_with fail
        refine (HO.out).mono ?_
        rintro e w1 ⟨rfl, rfl⟩
        go_wp2_with fail
        go_ret3
        exact ⟨rfl, rfl⟩
      · rw [if_neg h2]
        have e2 : decide ((N : Int) - u < n) = false := by simp; omega
        obtain ⟨m, rfl⟩ : ∃ m : Nat, n = m := ⟨n.toNat, by omega⟩
        obtain ⟨k, rfl⟩ : ∃ k : Nat, u = k := ⟨u.toNat, by omega⟩
        have hkm : k + m ≤ N := by omega
        have hcv := HCV.out k m hkm (c - k)
        obtain ⟨SA, hSA⟩ : ∃ SA, (if c = k then A else Option.map (fun x => x.add k) A) = SA := ⟨_, rfl⟩
        rw [hSA] at hcv
        have hUI : (k : Int) ≤ (k : Int) + (m : Int) := by omega
        have hUT : ((k : Int) + (m : Int)).toNat = k + m := by omega
        have hUJ : (k : Int) + (m : Int) ≤ (c : Int) := by omega
        have hUK : k + m - k = m := by omega
        unfold pxTV
        go_enter Try.func87, Try.ntmps87
        go_wp2_with fail
        refine (HO.out).mono ?_
        rintro e w1 ⟨rfl, rfl⟩
        go_wp2_with fail
        go_ret3
        exact ⟨rfl, rfl⟩
  · rw [if_pos hx]
    have g : (x != 0) = true := by simp [hx]
    unfold pxTV
    clear hx
    go_enter Try.func87, Try.ntmps87
    go_wp2_with fail
    refine (HO.out).mono ?_
    rintro e w1 ⟨rfl, rfl⟩
    go_wp2_with fail
    go_ret3
    exact ⟨rfl, rfl⟩
end Go.Proofs.Ytadhdghjlohpcaa
