/- Several texts in one. -/
import Derived.Test.YtpfahdogedchpaaGrpN
import Derived.Test.YtpfahdogedchpaaGrpE
/- The project's prefix.Decode. -/
namespace Go.Proofs.Ytpfahdogedchpaa
set_option linter.unusedVariables false
open Go.RowKit P

/-- what is asked of the project's reader of such numbers -/
def PxDec (P : Program) (f : FuncId) : Prop := ∀ (v : Value) (b : List Int) (wi : Int) (w : World), BSl w w.heap.size v b → b.length ≤ 140737488355328 → -9223372036854775808 ≤ wi → wi ≤ 9223372036854775807 → Calls P f #[v, .int .i64 wi] w fun e w' => e = .returned (pxRV (pxR b wi)) ∧ w = w'
set_option maxHeartbeats 2000000 in
theorem pxDec_any : PxDec Try.prog 51 := fun v b wi w hv hl w0 w1 => by
  obtain ⟨A, c, rfl, hc, hm, hn, hr⟩ := hv.ex
  by_cases hw : 1 ≤ wi ∧ wi ≤ 8
  · have HW := Lib.hid hw
    cases b with
    | nil =>
      have HR := Lib.hid (show pxR [] wi = (0, 0, 4) from if_neg (by omega))
      rw [HR.out]
      unfold pxRV
      clear hw hr hv
      go_enter Try.func51, Try.ntmps51
      go_wp2_with (first
        | (go_at_call 62; refine (isWidth_yes HW.out _).mono ?_; rintro e w' ⟨rfl, rfl⟩))
      go_ret3
      exact ⟨rfl, rfl⟩
    | cons z l =>
      have HR := Lib.hid (show pxR (z :: l) wi = if z % (topW wi + 1) < topW wi then (z % (topW wi + 1), 1, 0) else dcD l 1 1 (topW wi).toNat from if_neg (by omega))
      obtain ⟨R, hR⟩ : ∃ R, pxR (z :: l) wi = R := ⟨_, rfl⟩
      rw [hR] at HR ⊢
      have hz : 0 ≤ z ∧ z ≤ 255 := hr.1 0
      obtain ⟨ht1, ht2⟩ := topW_in wi
      have hand := and_top z hz.1 (by omega) wi hw
      have HTOP := Lib.hid (fun w => topOf_any wi hw w)
      obtain ⟨T, hT⟩ : ∃ T, topW wi = T := ⟨_, rfl⟩
      rw [hT] at ht1 ht2 HR hand HTOP
      obtain ⟨g, off, rfl, hg, hcell⟩ := hr.2 (by simp)
      have hc0 : w.cell? ⟨g, off, none⟩ = some (.int .u8 z) := hcell 0 (by simp)
      have HC := Lib.hid hcell
      have HB := Lib.hid hr.1
      obtain ⟨K, hK⟩ : ∃ K, l.length = K := ⟨_, rfl⟩
      have HKL := Lib.hid hK
      rw [List.length_cons, hK] at hc hl ⊢
      clear hR hT hw hr hv hcell hn hK
      have hN0 : ((K : Int) + 1 == 0) = false := by simp; omega
      by_cases q : z % (T + 1) < T
      · have HR0 := Lib.hid (HR.out.trans (if_pos q))
        rw [HR0.out]
        unfold pxRV
        have e3 : decide (z % (T + 1) < T) = true := by simp [q]
        go_enter Try.func51, Try.ntmps51
        go_wp2_with (first
          | (go_at_call 62; refine (isWidth_yes HW.out _).mono ?_; rintro e w' ⟨rfl, rfl⟩)
          | (go_at_call 63; refine (HTOP.out _).mono ?_; rintro e w' ⟨rfl, rfl⟩))
        go_ret3
        exact ⟨rfl, rfl⟩
      · have HR0 := Lib.hid (HR.out.trans (if_neg q))
        have e3 : decide (z % (T + 1) < T) = false := by simp; omega
        have hmT : z % (T + 1) = T := by have := Int.emod_lt_of_pos z (show 0 < T + 1 by omega); omega
        obtain ⟨M, rfl⟩ : ∃ M : Nat, T = M := ⟨T.toNat, by omega⟩
        have HRL := Lib.hid (show dcD ((z :: l).drop 1) 1 1 M = R from HR0.out.symm)
        obtain ⟨R1, R2, R3⟩ := R
        unfold pxRV
        have hM0 : M ≤ 255 := by omega
        clear HR HR0 q
        by_cases hc1 : c = 1
        · subst hc1
          obtain rfl : K = 0 := by omega
          have hl0 : l = [] := List.eq_nil_of_length_eq_zero HKL.out
          subst hl0
          have E1 := Lib.hid (show (0 : Int) = R1 from (Prod.mk.inj HRL.out).1)
          have E2 := Lib.hid (show (0 : Int) = R2 from (Prod.mk.inj (Prod.mk.inj HRL.out).2).1)
          have E3 := Lib.hid (show (4 : Int) = R3 from (Prod.mk.inj (Prod.mk.inj HRL.out).2).2)
          go_enter Try.func51, Try.ntmps51
          go_wp2_with (first
            | (go_at_call 62; refine (isWidth_yes HW.out _).mono ?_; rintro e w' ⟨rfl, rfl⟩)
            | (go_at_call 63; refine (HTOP.out _).mono ?_; rintro e w' ⟨rfl, rfl⟩))
          go_loopg [4, 35] 0 (fun gq nv iv wr => iv = .int .i64 0 ∧ wr = w)
          case atStart => exact ⟨rfl, rfl⟩
          case round =>
            obtain ⟨rfl, rfl⟩ := hrel
            go_wp2_with fail
            go_ret3
            exact ⟨by rw [← E1.out, ← E2.out, ← E3.out]; rfl, rfl⟩
        · have HRL2 := Lib.hid (show dcD (l.drop 0) (0 + 1) (2 ^ (7 * 0)) M = (R1, R2, R3) from HRL.out)
          have HCC := Lib.hid (fun j (h : j < K) => (show w.cell? ⟨g, off + 1 + j, none⟩ = some (.int .u8 (l.getD j 0)) by have := HC.out (j + 1) (by rw [List.length_cons, HKL.out]; omega); rwa [show off + (j + 1) = off + 1 + j by omega, List.getD_cons_succ] at this))
          have HBB := Lib.hid (show Byt l from fun j => by have := HB.out (j + 1); rwa [List.getD_cons_succ] at this)
          clear HRL HC HB
          go_enter Try.func51, Try.ntmps51
          go_wp2_with (first
            | (go_at_call 62; refine (isWidth_yes HW.out _).mono ?_; rintro e w' ⟨rfl, rfl⟩)
            | (go_at_call 63; refine (HTOP.out _).mono ?_; rintro e w' ⟨rfl, rfl⟩))
          clear hmT e3 hand hc0 hN0
          go_loopg [4, 35] K (fun gq nv iv wr => ∃ (i n : Nat), nv = .int .i64 n ∧ iv = .int .i64 i ∧ i + gq = K ∧ i ≤ 9 ∧ n ≤ 4611686018427387903 ∧ Hid (dcD (l.drop i) (i + 1) (2 ^ (7 * i)) n = (R1, R2, R3)) ∧ wr = w)
          case atStart => exact ⟨0, M, rfl, rfl, by omega, by omega, by omega, HRL2, rfl⟩
          case round =>
            obtain ⟨i, n, rfl, rfl, hig, hi9, hn, HD, rfl⟩ := hrel
            by_cases hlt : i < K
            · have hx := HCC.out i hlt
              have hbz := HBB.out i
              have hdr : l.drop i = l.getD i 0 :: l.drop (i + 1) := by
                rw [List.drop_eq_getElem_cons (by rw [HKL.out]; exact hlt), List.getD_eq_getElem?_getD, List.getElem?_eq_getElem (by rw [HKL.out]; exact hlt)]
                rfl
              obtain ⟨x, hc⟩ : ∃ x, l.getD i 0 = x := ⟨_, rfl⟩
              rw [hc] at hx hbz hdr
              have HD1 := Lib.hid (hdr ▸ HD.out)
              have hiL : (i : Int) < (K : Int) := by omega
              clear hc hdr
              by_cases h9 : i = 9
              · subst h9
                have HE := Lib.hid ((dcD_ten (by omega)).symm.trans HD1.out)
                have E1 := Lib.hid (Prod.mk.inj HE.out).1
                have E2 := Lib.hid (Prod.mk.inj (Prod.mk.inj HE.out).2).1
                have E3 := Lib.hid (Prod.mk.inj (Prod.mk.inj HE.out).2).2
                clear hi9
                go_wp2_with fail
                go_ret3
                exact ⟨by rw [← E1.out, ← E2.out, ← E3.out]; rfl, rfl⟩
              · obtain ⟨D, hD⟩ : ∃ D : Nat, x % 128 = D := ⟨(x % 128).toNat, by omega⟩
                have hD1 : D < 128 := by omega
                have HD2 := Lib.hid ((dcD_cons (t := 2 ^ (7 * i)) (n := n) hD (by omega)).symm.trans HD1.out)
                have HTN := Lib.hid (show 2 ^ (7 * i) * 128 = 2 ^ (7 * (i + 1)) by rw [show 7 * (i + 1) = 7 * i + 7 by omega, Nat.pow_add])
                obtain ⟨s, hs⟩ : ∃ s, 7 * i = s := ⟨_, rfl⟩
                rw [hs] at HD2 HTN
                have hs56 : s ≤ 56 := by omega
                have hsI : (7 : Int) * (i : Int) = (s : Int) := by omega
                have e4 : ((i : Int) == 9) = false := by simp; omega
                have htp : 0 < 2 ^ s := Nat.pow_pos (by decide)
                have htb : 2 ^ s ≤ 72057594037927936 := Nat.le_trans (Nat.pow_le_pow_right (by decide) hs56) (by decide)
                have HQ := Lib.hid (quo_lt (D := D) hn htp)
                obtain ⟨t, ht⟩ : ∃ t : Nat, 2 ^ s = t := ⟨_, rfl⟩
                have hpI : (2 : Int) ^ s = (t : Int) := by rw [← ht]; exact (Int.natCast_pow 2 s).symm
                rw [ht] at HD2 HTN HQ htp htb
                clear ht hs HD HD1
                obtain ⟨Q, hQ⟩ : ∃ Q, (4611686018427387903 - (n : Int)) / (t : Int) = Q := ⟨_, rfl⟩
                obtain ⟨P, hP⟩ : ∃ P, D * t = P := ⟨_, rfl⟩
                have hPI : (D : Int) * (t : Int) = (P : Int) := by rw [← hP]; exact (Int.natCast_mul D t).symm
                have hPb : P ≤ 127 * 72057594037927936 := by rw [← hP]; exact Nat.mul_le_mul (by omega) htb
                rw [hP] at HD2 HQ
                rw [hQ] at HQ
                clear hP
                by_cases big : 4611686018427387903 < n + P
                · have HE := Lib.hid ((if_pos big).symm.trans HD2.out)
                  have E1 := Lib.hid (Prod.mk.inj HE.out).1
                  have E2 := Lib.hid (Prod.mk.inj (Prod.mk.inj HE.out).2).1
                  have E3 := Lib.hid (Prod.mk.inj (Prod.mk.inj HE.out).2).2
                  have e5 : decide (Q < (D : Int)) = true := by simp; exact HQ.out.2 big
                  go_wp2_with fail
                  go_ret3
                  exact ⟨by rw [← E1.out, ← E2.out, ← E3.out]; rfl, rfl⟩
                · have e5 : decide (Q < (D : Int)) = false := by
                    have := mt HQ.out.1 big
                    simp; omega
                  have HD3 := Lib.hid ((if_neg big).symm.trans HD2.out)
                  have hnP : n + P ≤ 4611686018427387903 := by omega
                  by_cases fin : x < 128
                  · have HE := Lib.hid ((if_pos fin).symm.trans HD3.out)
                    have E1 := Lib.hid (Prod.mk.inj HE.out).1
                    have E2 := Lib.hid (Prod.mk.inj (Prod.mk.inj HE.out).2).1
                    have E3 := Lib.hid (Prod.mk.inj (Prod.mk.inj HE.out).2).2
                    have e6 : decide (x < 128) = true := by simp [fin]
                    clear big
                    go_wp2_with fail
                    go_ret3
                    exact ⟨by rw [← E1.out, ← E2.out, ← E3.out]; simp; omega, rfl⟩
                  · have HE := Lib.hid ((if_neg fin).symm.trans HD3.out)
                    have e6 : decide (x < 128) = false := by simp; omega
                    clear big fin
                    go_wp2_with fail
                    go_roundg (gk - 1)
                    case measure => omega
                    case rel => exact ⟨i + 1, n + P, by first | rfl | go_num, by first | rfl | go_num, by omega, by omega, by omega, Lib.hid (by rw [← HTN.out]; exact HE.out), rfl⟩
            · have hdr : l.drop i = [] := List.drop_eq_nil_of_le (by rw [HKL.out]; omega)
              have HE := Lib.hid (show (0, 0, 4) = (R1, R2, R3) from (show dcD [] (i + 1) (2 ^ (7 * i)) n = _ from rfl).symm.trans (hdr ▸ HD.out))
              have E1 := Lib.hid (Prod.mk.inj HE.out).1
              have E2 := Lib.hid (Prod.mk.inj (Prod.mk.inj HE.out).2).1
              have E3 := Lib.hid (Prod.mk.inj (Prod.mk.inj HE.out).2).2
              obtain rfl : i = K := by omega
              clear hdr
              go_wp2_with fail
              go_ret3
              exact ⟨by rw [← E1.out, ← E2.out, ← E3.out]; rfl, rfl⟩
  · have HW := Lib.hid hw
    have HF := Lib.hid (show pxR b wi = (0, 0, 6) from if_pos hw)
    rw [HF.out]
    unfold pxRV
    clear hw hr hv
    go_enter Try.func51, Try.ntmps51
    go_wp2_with (first
      | (go_at_call 62; refine (isWidth_no HW.out _).mono ?_; rintro e w' ⟨rfl, rfl⟩))
    go_ret3
    exact ⟨rfl, rfl⟩
end Go.Proofs.Ytpfahdogedchpaa
/- The project's prefix.Read. -/
namespace Go.Proofs.Ytpfahdogedchpaa
set_option linter.unusedVariables false
open Go.RowKit P

theorem brow_cut {w : World} {B : Nat} {A : Option Addr} {b : List Int} {c : Nat} (h : BRow w B A b) (hc : b.length ≤ c) (k m : Nat) : BRow w B (if c = k then A else Option.map (fun x => x.add k) A) ((b.drop k).take m) := by
  refine ⟨(h.1.drop k).take m, fun hp => ?_⟩
  rw [List.length_take, List.length_drop] at hp
  obtain ⟨g, off, rfl, hg, hcell⟩ := h.2 (by omega)
  rw [if_neg (by omega)]
  refine ⟨g, off + k, by simp [Go.WideShapes.add_plain], hg, fun j hj => ?_⟩
  rw [List.length_take, List.length_drop] at hj
  rw [getD_take (by omega), getD_drop, show off + k + j = off + (k + j) by omega]
  exact hcell (k + j) (by omega)
theorem cut_len {b : List Int} {k m : Nat} (h : k + m ≤ b.length) : ((b.drop k).take m).length = m := by rw [List.length_take, List.length_drop]; omega
def PxRead (P : Program) (f : FuncId) : Prop := ∀ (v : Value) (b : List Int) (wi : Int) (w : World), BSl w w.heap.size v b → b.length ≤ 140737488355328 → -9223372036854775808 ≤ wi → wi ≤ 9223372036854775807 → Calls P f #[v, .int .i64 wi] w fun e w' => e = .returned (pxTV (pxTR b wi)) ∧ w = w'
set_option maxHeartbeats 1000000 in
theorem pxRead_any : PxRead Try.prog 76 := fun v b wi w hv hl w0 w1 => by
  have HO := Lib.hid (pxDec_any v b wi w hv hl w0 w1)
  obtain ⟨A, c, rfl, hc, hm, hn, hr⟩ := hv.ex
  have HIN := Lib.hid (fun h => pxR_in (b := b) (w := wi) (fun j => (hr.1 j).1) h)
  have HE : Hid (pxTR b wi = if (pxR b wi).2.2 ≠ 0 then ([], 0, (pxR b wi).2.2) else if 120 < (pxR b wi).1 then ([], 0, 1) else if (b.length : Int) < (pxR b wi).2.1 + (pxR b wi).1 then ([], 0, 4) else ((b.drop (pxR b wi).2.1.toNat).take (pxR b wi).1.toNat, (pxR b wi).2.1 + (pxR b wi).1, 0)) := Lib.hid rfl
  obtain ⟨⟨n, u, x⟩, hr0⟩ : ∃ r, pxR b wi = r := ⟨_, rfl⟩
  rw [hr0] at HO HIN HE
  simp only at HIN HE
  have HR := Lib.hid hr
  have HCV := Lib.hid (fun i j (h : i + j ≤ b.length) (cap : Nat) => run_str (P := Try.prog) (brow_cut hr hc i j) (cut_len h) 22 9 5 cap)
  unfold pxRV at HO
  rw [HE.out]
  obtain ⟨N, hN⟩ : ∃ N, b.length = N := ⟨_, rfl⟩
  rw [hN] at hc hl HIN HCV HO ⊢
  clear hr0 w0 w1 hr hv hn HE hN
  by_cases hx : x = 0
  · subst hx
    obtain ⟨n0, n1, u0, u1, u2⟩ := HIN.out rfl
    rw [if_neg (fun k => k rfl)]
    by_cases h1 : 120 < n
    · rw [if_pos h1]
      have e1 : decide (120 < n) = true := by simp [h1]
      unfold pxTV
      go_enter Try.func76, Try.ntmps76
      go_wp2_with fail
      refine (HO.out).mono ?_
      rintro e w1 ⟨rfl, rfl⟩
      go_wp2_with fail
      go_ret3
      exact ⟨rfl, rfl⟩
    · rw [if_neg h1]
      have e1 : decide (120 < n) = false := by simp; omega
      by_cases h2 : (N : Int) < u + n
      · rw [if_pos h2]
        have e2 : decide ((N : Int) - u < n) = true := by simp; omega
        unfold pxTV
        go_enter Try.func76, Try.ntmps76
        go_wp2_with fail
        refine (HO.out).mono ?_
        rintro e w1 ⟨rfl, rfl⟩
        go_wp2_with fail
        go_ret3
        exact ⟨rfl, rfl⟩
      · rw [if_neg h2]
        have e2 : decide ((N : Int) - u < n) = false := by simp; omega
        obtain ⟨m, rfl⟩ : ∃ m : Nat, n = m := ⟨n.toNat, by omega⟩
        obtain ⟨k, rfl⟩ : ∃ k : Nat, u = k := ⟨u.toNat, by omega⟩
        have hkm : k + m ≤ N := by omega
        have hcv := HCV.out k m hkm (c - k)
        obtain ⟨SA, hSA⟩ : ∃ SA, (if c = k then A else Option.map (fun x => x.add k) A) = SA := ⟨_, rfl⟩
        rw [hSA] at hcv
        have hUI : (k : Int) ≤ (k : Int) + (m : Int) := by omega
        have hUT : ((k : Int) + (m : Int)).toNat = k + m := by omega
        have hUJ : (k : Int) + (m : Int) ≤ (c : Int) := by omega
        have hUK : k + m - k = m := by omega
        unfold pxTV
        go_enter Try.func76, Try.ntmps76
        go_wp2_with fail
        refine (HO.out).mono ?_
        rintro e w1 ⟨rfl, rfl⟩
        go_wp2_with fail
        go_ret3
        exact ⟨rfl, rfl⟩
  · rw [if_pos hx]
    have g : (x != 0) = true := by simp [hx]
    unfold pxTV
    clear hx
    go_enter Try.func76, Try.ntmps76
    go_wp2_with fail
    refine (HO.out).mono ?_
    rintro e w1 ⟨rfl, rfl⟩
    go_wp2_with fail
    go_ret3
    exact ⟨rfl, rfl⟩
end Go.Proofs.Ytpfahdogedchpaa
