/- Several texts in one. -/
import Derived.Test.YtpfahdogedchpaaRefPxB
import Derived.Deep.LoopGhost
/- The document's answers on numbers behind bits: PrefixOf. -/
namespace Go.Proofs.Ytpfahdogedchpaa
set_option linter.unusedVariables false
open Go.RowKit P

def pxRV (r : Int × Int × Int) : Value := .tuple #[.int .i64 r.1, .int .i64 r.2.1, .int .i64 r.2.2]
/-- what is asked of the document's reader of such numbers -/
def PxRef (P : Program) (f : FuncId) : Prop := ∀ (b : List Int) (wi : Int) (w : World), Byt b → b.length ≤ 140737488355328 → -9223372036854775808 ≤ wi → wi ≤ 9223372036854775807 → Calls P f #[.string (strOfNums b), .int .i64 wi] w fun e w' => e = .returned (pxRV (pxR b wi)) ∧ Below w.heap.size w w'
theorem dcD_cons {z : Int} {l : List Int} {i t n D : Nat} (hD : z % 128 = (D : Int)) (hi : i ≤ 9) : dcD (z :: l) i t n = if 4611686018427387903 < n + D * t then (0, 0, 6) else if z < 128 then (((n + D * t : Nat) : Int), ((i + 1 : Nat) : Int), 0) else dcD l (i + 1) (t * 128) (n + D * t) := by
  have e : (z % 128).toNat = D := by omega
  simp only [dcD, e]
  rw [if_neg (by omega)]
theorem dcD_ten {z : Int} {l : List Int} {i t n : Nat} (hi : 9 < i) : dcD (z :: l) i t n = (0, 0, 1) := by simp only [dcD]; rw [if_pos hi]
theorem quo_lt {n D t : Nat} (hn : n ≤ 4611686018427387903) (ht : 0 < t) : (4611686018427387903 - (n : Int)) / (t : Int) < (D : Int) ↔ 4611686018427387903 < n + D * t := by
  rw [Int.ediv_lt_iff_lt_mul (by omega)]
  have : ((D * t : Nat) : Int) = (D : Int) * (t : Int) := Int.natCast_mul D t
  omega
set_option maxHeartbeats 2000000 in
theorem refPxO_any : PxRef Try.prog 39 := fun b wi w hb hl w0 w1 => by
  obtain ⟨U, hU⟩ : ∃ U, IntKind.i64.wrap (wi - 1) = U := ⟨_, rfl⟩
  have hu : upB2 U 7 = decide (1 ≤ wi ∧ wi ≤ 8) := by
    rw [IntKind.wrap_i64] at hU
    by_cases k : 1 ≤ wi ∧ wi ≤ 8
    · rw [upB2_yes (by omega) (by omega), decide_eq_true k]
    · rw [upB2_no (by omega), decide_eq_false k]
  have hsz : (strOfNums b).size = b.length := strOfNums_size b
  have HGET := Lib.hid (fun j h => str_get hb j h)
  have hemp := str_empty b
  obtain ⟨S, hS⟩ : ∃ S, strOfNums b = S := ⟨_, rfl⟩
  rw [hS] at hsz HGET hemp ⊢
  have HSZ := Lib.hid hsz
  have HBY := Lib.hid hb
  have hs47 : S.size ≤ 140737488355328 := by omega
  clear hS hb
  by_cases hw : 1 ≤ wi ∧ wi ≤ 8
  · rw [decide_eq_true hw] at hu
    obtain ⟨k, rfl⟩ : ∃ k : Nat, wi = (k : Int) + 1 := ⟨(wi - 1).toNat, by omega⟩
    have hk8 : k < 8 := by omega
    have hk8i : (k : Int) < 8 := by omega
    have hUk : U = (k : Int) := by rw [← hU, IntKind.wrap_i64]; omega
    have HTK := Lib.hid (tops_at k hk8)
    obtain ⟨ht1, ht2⟩ := topW_in ((k : Int) + 1)
    cases b with
    | nil =>
      have HR := Lib.hid (show pxR [] ((k : Int) + 1) = (0, 0, 4) from if_neg (by omega))
      rw [HR.out]
      have e1 : S.toList.isEmpty = true := by rw [hemp]; rfl
      have e2 : S.toList = [] := List.isEmpty_iff.1 e1
      unfold pxRV
      clear hw hU HTK ht1 ht2 hsz hemp w0 w1 hl
      subst hUk
      go_enter Try.func39, Try.ntmps39
      go_wp2_with (first
        | (go_at_call 31; refine (upTo_any _ _ _).mono ?_; rintro e w' ⟨rfl, rfl⟩))
      go_ret3
      exact ⟨rfl, Below.refl _ _⟩
    | cons z l =>
      have e1 : S.toList.isEmpty = false := by rw [hemp]; simp
      have e2 : (S.toList == []) = false := by
        cases hq : S.toList with
        | nil => rw [hq] at e1; cases e1
        | cons a b => rfl
      have hs0 : 0 < S.size := by rw [hsz]; simp
      have g0 := HGET.out 0 hs0
      have HR := Lib.hid (show pxR (z :: l) ((k : Int) + 1) = if z % (topW ((k : Int) + 1) + 1) < topW ((k : Int) + 1) then (z % (topW ((k : Int) + 1) + 1), 1, 0) else dcD l 1 1 (topW ((k : Int) + 1)).toNat from if_neg (by omega))
      obtain ⟨R, hR⟩ : ∃ R, pxR (z :: l) ((k : Int) + 1) = R := ⟨_, rfl⟩
      rw [hR] at HR ⊢
      obtain ⟨T, hT⟩ : ∃ T, topW ((k : Int) + 1) = T := ⟨_, rfl⟩
      rw [hT] at HTK ht1 ht2 HR
      have hz := HBY.out 0
      have g0' : ((S[0]'hs0).toNat : Int) = z := g0
      have hz' : 0 ≤ z ∧ z ≤ 255 := hz
      have B0 := Lib.hid ((Below.refl w.heap.size w).alloc (Nat.le_refl _) (.cells #[.int .i64 1, .int .i64 3, .int .i64 7, .int .i64 15, .int .i64 31, .int .i64 63, .int .i64 127, .int .i64 255] 3))
      have hcell : (w.alloc (.cells #[.int .i64 1, .int .i64 3, .int .i64 7, .int .i64 15, .int .i64 31, .int .i64 63, .int .i64 127, .int .i64 255] 3)).cell? ⟨w.heap.size, k, none⟩ = some (.int .i64 T) := by
        rw [bk_cell (heap_alloc_new w (.cells #[.int .i64 1, .int .i64 3, .int .i64 7, .int .i64 15, .int .i64 31, .int .i64 63, .int .i64 127, .int .i64 255] 3)) k]
        exact HTK.out
      clear hR hT hw hU w0 w1 hl hemp hsz g0 hz
      subst hUk
      by_cases q : z % (T + 1) < T
      · have HR0 := Lib.hid (HR.out.trans (if_pos q))
        rw [HR0.out]
        unfold pxRV
        have e3 : decide (z % (T + 1) < T) = true := by simp [q]
        go_enter Try.func39, Try.ntmps39
        go_wp2_with (first
          | (go_at_call 31; refine (upTo_any _ _ _).mono ?_; rintro e w' ⟨rfl, rfl⟩))
        go_ret3
        exact ⟨rfl, B0.out⟩
      · have HR0 := Lib.hid (HR.out.trans (if_neg q))
        have e3 : decide (z % (T + 1) < T) = false := by simp; omega
        have hmT : z % (T + 1) = T := by have := Int.emod_lt_of_pos z (show 0 < T + 1 by omega); omega
        obtain ⟨M, hM⟩ : ∃ M : Nat, T = M := ⟨T.toNat, by omega⟩
        have hMt : T.toNat = M := by omega
        rw [hMt] at HR0
        have HRL := Lib.hid (show dcD ((z :: l).drop 1) 1 1 M = R from HR0.out.symm)
        obtain ⟨R1, R2, R3⟩ := R
        unfold pxRV
        have hM0 : M ≤ 255 := by omega
        rw [hM] at hmT e3 hcell ht1 ht2
        clear HR HR0 HTK q hM hMt
        have B0' := B0
        go_enter Try.func39, Try.ntmps39
        go_wp2_with (first
          | (go_at_call 31; refine (upTo_any _ _ _).mono ?_; rintro e w' ⟨rfl, rfl⟩))
        obtain ⟨W1, hW1⟩ : ∃ W, w.alloc (.cells #[.int .i64 1, .int .i64 3, .int .i64 7, .int .i64 15, .int .i64 31, .int .i64 63, .int .i64 127, .int .i64 255] 3) = W := ⟨_, rfl⟩
        rw [hW1] at B0 ⊢
        have HMT := Lib.hid hmT
        clear hW1 hcell B0' hmT e3 e1 e2 g0' hk8 hk8i hu
        go_loopg [8, 9, 10] (S.size - 1) (fun gq nv tv iv wr => ∃ (i n t tt : Nat), nv = .int .i64 n ∧ tv = .int .i64 t ∧ iv = .int .i64 i ∧ i + gq = S.size ∧ 1 ≤ i ∧ i ≤ S.size ∧ i ≤ 10 ∧ n ≤ 4611686018427387903 ∧ (i ≤ 9 → t = tt) ∧ Hid (i ≤ 9 → t = 128 ^ (i - 1)) ∧ Hid (dcD ((z :: l).drop i) i tt n = (R1, R2, R3)) ∧ wr = W1)
        case atStart => exact ⟨1, M, 1, 1, by rw [HMT.out], rfl, rfl, by omega, by omega, by omega, by omega, by omega, fun _ => rfl, Lib.hid (fun _ => rfl), HRL, rfl⟩
        case round =>
          obtain ⟨i, n, t, tt, rfl, rfl, rfl, hig, i1, i2, i3, n1, htt, HT, HD, rfl⟩ := hrel
          by_cases hlt : i < S.size
          · have hx := HGET.out i hlt
            have hbz := HBY.out i
            have hdr : (z :: l).drop i = (z :: l).getD i 0 :: (z :: l).drop (i + 1) := by
              rw [List.drop_eq_getElem_cons (by rw [← HSZ.out]; exact hlt), List.getD_eq_getElem?_getD, List.getElem?_eq_getElem (by rw [← HSZ.out]; exact hlt)]
              rfl
            obtain ⟨c, hc⟩ : ∃ c, (z :: l).getD i 0 = c := ⟨_, rfl⟩
            rw [hc] at hx hbz hdr
            have HD1 := Lib.hid (hdr ▸ HD.out)
            have hiL : (i : Int) < (S.size : Int) := by omega
            clear hc hdr
            by_cases h9 : 9 < i
            · have HE := Lib.hid ((dcD_ten h9).symm.trans HD1.out)
              have e4 : decide ((9 : Int) < (i : Int)) = true := by simp; omega
              have E1 := Lib.hid (Prod.mk.inj HE.out).1
              have E2 := Lib.hid (Prod.mk.inj (Prod.mk.inj HE.out).2).1
              have E3 := Lib.hid (Prod.mk.inj (Prod.mk.inj HE.out).2).2
              clear htt
              go_wp2_with fail
              go_ret3
              exact ⟨by rw [← E1.out, ← E2.out, ← E3.out]; rfl, B0.out⟩
            · obtain rfl := htt (by omega)
              have ht := HT.out (by omega)
              have htp : 0 < t := by rw [ht]; exact Nat.pow_pos (by decide)
              have htb : t ≤ 72057594037927936 := by
                rw [ht]
                exact Nat.le_trans (Nat.pow_le_pow_right (by decide) (show i - 1 ≤ 8 by omega)) (by decide)
              have htn : i < 9 → t ≤ 562949953421312 := fun h => by
                rw [ht]
                exact Nat.le_trans (Nat.pow_le_pow_right (by decide) (show i - 1 ≤ 7 by omega)) (by decide)
              have HTN := Lib.hid (fun h : i < 9 => show t * 128 = 128 ^ (i + 1 - 1) by rw [ht, ← Nat.pow_succ]; congr 1; omega)
              have e4 : decide ((9 : Int) < (i : Int)) = false := by simp; omega
              obtain ⟨D, hD⟩ : ∃ D : Nat, c % 128 = D := ⟨(c % 128).toNat, by omega⟩
              have hD1 : D < 128 := by omega
              have HD2 := Lib.hid ((dcD_cons (t := t) (n := n) hD (by omega)).symm.trans HD1.out)
              have HQ := Lib.hid (quo_lt (D := D) n1 htp)
              obtain ⟨Q, hQ⟩ : ∃ Q, (4611686018427387903 - (n : Int)) / (t : Int) = Q := ⟨_, rfl⟩
              have ht0 : ((t : Int) == 0) = false := by simp; omega
              have htI : (0 : Int) < (t : Int) := by omega
              obtain ⟨P, hP⟩ : ∃ P, D * t = P := ⟨_, rfl⟩
              have hPI : (D : Int) * (t : Int) = (P : Int) := by rw [← hP]; exact (Int.natCast_mul D t).symm
              have hPb : P ≤ 127 * 72057594037927936 := by rw [← hP]; exact Nat.mul_le_mul (by omega) htb
              have hmul : IntKind.i64.wrap ((D : Int) * (t : Int)) = (P : Int) := by rw [hPI, IntKind.wrap_i64]; omega
              rw [hP] at HD2 HQ
              rw [hQ] at HQ
              clear ht hP hPI HD1 HD
              by_cases big : 4611686018427387903 < n + P
              · have HE := Lib.hid ((if_pos big).symm.trans HD2.out)
                have E1 := Lib.hid (Prod.mk.inj HE.out).1
                have E2 := Lib.hid (Prod.mk.inj (Prod.mk.inj HE.out).2).1
                have E3 := Lib.hid (Prod.mk.inj (Prod.mk.inj HE.out).2).2
                have e5 : decide (Q < (D : Int)) = true := by simp; exact HQ.out.2 big
                clear HE
                go_wp2_with fail
                go_ret3
                exact ⟨by rw [← E1.out, ← E2.out, ← E3.out]; rfl, B0.out⟩
              · have e5 : decide (Q < (D : Int)) = false := by
                  have := mt HQ.out.1 big
                  simp; omega
                have HD3 := Lib.hid ((if_neg big).symm.trans HD2.out)
                have hnP : n + P ≤ 4611686018427387903 := by omega
                by_cases fin : c < 128
                · have HE := Lib.hid ((if_pos fin).symm.trans HD3.out)
                  have E1 := Lib.hid (Prod.mk.inj HE.out).1
                  have E2 := Lib.hid (Prod.mk.inj (Prod.mk.inj HE.out).2).1
                  have E3 := Lib.hid (Prod.mk.inj (Prod.mk.inj HE.out).2).2
                  have e6 : decide (c < 128) = true := by simp [fin]
                  clear HE big
                  go_wp2_with fail
                  go_ret3
                  exact ⟨by rw [← E1.out, ← E2.out, ← E3.out]; rfl, B0.out⟩
                · have HE := Lib.hid ((if_neg fin).symm.trans HD3.out)
                  have e6 : decide (c < 128) = false := by simp; omega
                  by_cases q9 : i < 9
                  · have e7 : decide ((i : Int) < 9) = true := by simp; omega
                    have htn' := htn q9
                    have HT2 := Lib.hid (HTN.out q9)
                    clear big fin htn
                    go_wp2_with fail
                    go_roundg (gk - 1)
                    case measure => omega
                    case rel => exact ⟨i + 1, n + P, t * 128, t * 128, by first | rfl | go_num, by first | rfl | go_num, by first | rfl | go_num, by omega, by omega, by omega, by omega, by omega, fun _ => rfl, Lib.hid (fun _ => HT2.out), HE, rfl⟩
                  · have e7 : decide ((i : Int) < 9) = false := by simp; omega
                    clear big fin htn
                    go_wp2_with fail
                    go_roundg (gk - 1)
                    case measure => omega
                    case rel => exact ⟨i + 1, n + P, t, t * 128, by first | rfl | go_num, by first | rfl | go_num, by first | rfl | go_num, by omega, by omega, by omega, by omega, by omega, fun h => by omega, Lib.hid (fun h => by omega), HE, rfl⟩
          · have hdr : (z :: l).drop i = [] := List.drop_eq_nil_of_le (by rw [← HSZ.out]; omega)
            have HE := Lib.hid (show (0, 0, 4) = (R1, R2, R3) from (show dcD [] i tt n = _ from rfl).symm.trans (hdr ▸ HD.out))
            have E1 := Lib.hid (Prod.mk.inj HE.out).1
            have E2 := Lib.hid (Prod.mk.inj (Prod.mk.inj HE.out).2).1
            have E3 := Lib.hid (Prod.mk.inj (Prod.mk.inj HE.out).2).2
            have hiL : i = S.size := by omega
            subst hiL
            clear hdr htt
            go_wp2_with fail
            go_ret3
            exact ⟨by rw [← E1.out, ← E2.out, ← E3.out]; rfl, B0.out⟩
  · rw [decide_eq_false hw] at hu
    have HF := Lib.hid (show pxR b wi = (0, 0, 6) from if_pos hw)
    rw [HF.out]
    unfold pxRV
    clear hw hemp hsz hl w0 w1
    go_enter Try.func39, Try.ntmps39
    go_wp2_with (first
      | (go_at_call 31; refine (upTo_any _ _ _).mono ?_; rintro e w' ⟨rfl, rfl⟩))
    go_ret3
    exact ⟨rfl, Below.refl _ _⟩
end Go.Proofs.Ytpfahdogedchpaa
/- The document's answers on texts behind bits: TextOf. -/
namespace Go.Proofs.Ytpfahdogedchpaa.P
set_option linter.unusedVariables false
theorem dcD_in : ∀ (l : List Int) (i t n : Nat), (dcD l i t n).2.2 = 0 → 0 ≤ (dcD l i t n).1 ∧ (dcD l i t n).1 ≤ 4611686018427387903 ∧ (i : Int) + 1 ≤ (dcD l i t n).2.1 ∧ (dcD l i t n).2.1 ≤ 10 ∧ (dcD l i t n).2.1 ≤ i + l.length
  | [], i, t, n, h => by simp [dcD] at h
  | c :: l, i, t, n, h => by
    unfold dcD at h ⊢
    by_cases a : 9 < i
    · rw [if_pos a] at h; cases h
    · rw [if_neg a] at h ⊢
      by_cases b : 4611686018427387903 < n + (c % 128).toNat * t
      · rw [if_pos b] at h; cases h
      · rw [if_neg b] at h ⊢
        by_cases d : c < 128
        · rw [if_pos d] at h ⊢
          simp only [List.length_cons]
          omega
        · rw [if_neg d] at h ⊢
          have := dcD_in l (i + 1) (t * 128) (n + (c % 128).toNat * t) h
          simp only [List.length_cons]
          omega
theorem pxR_in {b : List Int} {w : Int} (hb : ∀ j, 0 ≤ b.getD j 0) (h : (pxR b w).2.2 = 0) : 0 ≤ (pxR b w).1 ∧ (pxR b w).1 ≤ 4611686018427387903 ∧ 1 ≤ (pxR b w).2.1 ∧ (pxR b w).2.1 ≤ 10 ∧ (pxR b w).2.1 ≤ b.length := by
  unfold pxR at h ⊢
  by_cases a : 1 ≤ w ∧ w ≤ 8
  · rw [if_neg (fun k => k a)] at h ⊢
    cases b with
    | nil => cases h
    | cons c l =>
      have ht := topW_in w
      have hc := hb 0
      have hc' : 0 ≤ c := hc
      simp only at h ⊢
      by_cases q : c % (topW w + 1) < topW w
      · rw [if_pos q] at h ⊢
        have := Int.emod_nonneg c (show topW w + 1 ≠ 0 by omega)
        simp only [List.length_cons]
        omega
      · rw [if_neg q] at h ⊢
        have := dcD_in l 1 1 (topW w).toNat h
        simp only [List.length_cons]
        omega
  · rw [if_pos a] at h; cases h
/-- what Read says, by P13.4 -/
def pxTR (b : List Int) (w : Int) : List Int × Int × Int :=
  if (pxR b w).2.2 ≠ 0 then ([], 0, (pxR b w).2.2) else if 120 < (pxR b w).1 then ([], 0, 1) else if (b.length : Int) < (pxR b w).2.1 + (pxR b w).1 then ([], 0, 4)
  else ((b.drop (pxR b w).2.1.toNat).take (pxR b w).1.toNat, (pxR b w).2.1 + (pxR b w).1, 0)
theorem str_mid2 (zs : List Int) (a b : Nat) : (strOfNums zs).extract a b = strOfNums ((zs.drop a).take (b - a)) := by
  apply ByteArray.ext
  apply Array.toList_inj.1
  rw [Lib.extract_data, strOfNums_data, strOfNums_data]
  simp [List.map_take, List.map_drop]
end Go.Proofs.Ytpfahdogedchpaa.P
namespace Go.Proofs.Ytpfahdogedchpaa
set_option linter.unusedVariables false
open Go.RowKit P

def pxTV (r : List Int × Int × Int) : Value := .tuple #[.string (strOfNums r.1), .int .i64 r.2.1, .int .i64 r.2.2]
def PxTRef (P : Program) (f : FuncId) : Prop := ∀ (b : List Int) (wi : Int) (w : World), Byt b → b.length ≤ 140737488355328 → -9223372036854775808 ≤ wi → wi ≤ 9223372036854775807 → Calls P f #[.string (strOfNums b), .int .i64 wi] w fun e w' => e = .returned (pxTV (pxTR b wi)) ∧ Below w.heap.size w w'
set_option maxHeartbeats 1000000 in
theorem refPxT_any : PxTRef Try.prog 49 := fun b wi w hb hl w0 w1 => by
  have HO := Lib.hid (fun w => refPxO_any b wi w hb hl w0 w1)
  have HIN := Lib.hid (fun h => pxR_in (b := b) (w := wi) (fun j => (hb j).1) h)
  have HE : Hid (pxTR b wi = if (pxR b wi).2.2 ≠ 0 then ([], 0, (pxR b wi).2.2) else if 120 < (pxR b wi).1 then ([], 0, 1) else if (b.length : Int) < (pxR b wi).2.1 + (pxR b wi).1 then ([], 0, 4) else ((b.drop (pxR b wi).2.1.toNat).take (pxR b wi).1.toNat, (pxR b wi).2.1 + (pxR b wi).1, 0)) := Lib.hid rfl
  obtain ⟨⟨n, u, x⟩, hr⟩ : ∃ r, pxR b wi = r := ⟨_, rfl⟩
  rw [hr] at HO HIN HE
  simp only at HIN HE
  have hsz : (strOfNums b).size = b.length := strOfNums_size b
  have HMID := Lib.hid (fun i j => str_mid2 b i j)
  obtain ⟨S, hS⟩ : ∃ S, strOfNums b = S := ⟨_, rfl⟩
  rw [hS] at HO hsz HMID ⊢
  unfold pxRV at HO
  rw [HE.out]
  have hs47 : S.size ≤ 140737488355328 := by omega
  clear hS hr w0 w1 hb
  by_cases hx : x = 0
  · subst hx
    obtain ⟨n0, n1, u0, u1, u2⟩ := HIN.out rfl
    rw [if_neg (fun k => k rfl)]
    by_cases h1 : 120 < n
    · rw [if_pos h1]
      have e1 : decide (120 < n) = true := by simp [h1]
      unfold pxTV
      clear hsz hl
      go_enter Try.func49, Try.ntmps49
      go_wp2_with fail
      refine (HO.out _).mono ?_
      rintro e w1 ⟨rfl, b1⟩
      have B1 := Lib.hid b1
      clear b1
      go_wp2_with fail
      go_ret3
      exact ⟨rfl, B1.out⟩
    · rw [if_neg h1]
      have e1 : decide (120 < n) = false := by simp; omega
      by_cases h2 : (b.length : Int) < u + n
      · rw [if_pos h2]
        have e2 : decide ((S.size : Int) < u + n) = true := by simp; omega
        unfold pxTV
        clear hsz hl
        go_enter Try.func49, Try.ntmps49
        go_wp2_with fail
        refine (HO.out _).mono ?_
        rintro e w1 ⟨rfl, b1⟩
        have B1 := Lib.hid b1
        clear b1
        go_wp2_with fail
        go_ret3
        exact ⟨rfl, B1.out⟩
      · rw [if_neg h2]
        have e2 : decide ((S.size : Int) < u + n) = false := by simp; omega
        obtain ⟨N, rfl⟩ : ∃ N : Nat, n = N := ⟨n.toNat, by omega⟩
        obtain ⟨U, rfl⟩ : ∃ U : Nat, u = U := ⟨u.toNat, by omega⟩
        have hUS : U + N ≤ S.size := by omega
        have HX := Lib.hid (show S.extract U (U + N) = strOfNums ((b.drop U).take N) by rw [HMID.out, show U + N - U = N by omega])
        simp only [Int.toNat_natCast]
        obtain ⟨X, hX⟩ : ∃ X, strOfNums ((b.drop U).take N) = X := ⟨_, rfl⟩
        rw [hX] at HX
        have HXX := Lib.hid hX
        unfold pxTV
        have hUI : (U : Int) ≤ (U : Int) + (N : Int) := by omega
        have hUT : ((U : Int) + (N : Int)).toNat = U + N := by omega
        have hUJ : (U : Int) + (N : Int) ≤ (S.size : Int) := by omega
        clear hsz hl hX h1 h2
        go_enter Try.func49, Try.ntmps49
        go_wp2_with fail
        refine (HO.out _).mono ?_
        rintro e w1 ⟨rfl, b1⟩
        have B1 := Lib.hid b1
        clear b1
        go_wp2_with fail
        go_ret3
        exact ⟨by rw [HXX.out, ← HX.out]; rfl, B1.out⟩
  · rw [if_pos hx]
    have g : (x != 0) = true := by simp [hx]
    unfold pxTV
    clear hsz hl hx
    go_enter Try.func49, Try.ntmps49
    go_wp2_with fail
    refine (HO.out _).mono ?_
    rintro e w1 ⟨rfl, b1⟩
    have B1 := Lib.hid b1
    clear b1
    go_wp2_with fail
    go_ret3
    exact ⟨rfl, B1.out⟩
end Go.Proofs.Ytpfahdogedchpaa
