/- The document's answers on texts behind bits: TextOf. -/
import Derived.Test.YtadhdghjlohpcaaRefPxO
namespace Go.Proofs.Ytadhdghjlohpcaa.P
set_option linter.unusedVariables false
theorem dcD_in : ∀ (l : List Int) (i t n : Nat), (dcD l i t n).2.2 = 0 → 0 ≤ (dcD l i t n).1 ∧ (dcD l i t n).1 ≤ 4611686018427387903 ∧ (i : Int) + 1 ≤ (dcD l i t n).2.1 ∧ (dcD l i t n).2.1 ≤ 10 ∧ (dcD l i t n).2.1 ≤ i + l.length
  | [], i, t, n, h => by simp [dcD] at h
  | c :: l, i, t, n, h => by
    unfold dcD at h ⊢
    by_cases a : 9 < i
    · rw [if_pos a] at h; cases h
    · rw [if_neg a] at h ⊢
      by_cases b : 4611686018427387903 < n + (c % 128).toNat * t
      · rw [if_pos b] at h; cases h
      · rw [if_neg b] at h ⊢
        by_cases d : c < 128
        · rw [if_pos d] at h ⊢
          simp only [List.length_cons]
          omega
        · rw [if_neg d] at h ⊢
          have := dcD_in l (i + 1) (t * 128) (n + (c % 128).toNat * t) h
          simp only [List.length_cons]
          omega
theorem pxR_in {b : List Int} {w : Int} (hb : ∀ j, 0 ≤ b.getD j 0) (h : (pxR b w).2.2 = 0) : 0 ≤ (pxR b w).1 ∧ (pxR b w).1 ≤ 4611686018427387903 ∧ 1 ≤ (pxR b w).2.1 ∧ (pxR b w).2.1 ≤ 10 ∧ (pxR b w).2.1 ≤ b.length := by
  unfold pxR at h ⊢
  by_cases a : 1 ≤ w ∧ w ≤ 8
  · rw [if_neg (fun k => k a)] at h ⊢
    cases b with
    | nil => cases h
    | cons c l =>
      have ht := topW_in w
      have hc := hb 0
      have hc' : 0 ≤ c := hc
      simp only at h ⊢
      by_cases q : c % (topW w + 1) < topW w
      · rw [if_pos q] at h ⊢
        have := Int.emod_nonneg c (show topW w + 1 ≠ 0 by omega)
        simp only [List.length_cons]
        omega
      · rw [if_neg q] at h ⊢
        have := dcD_in l 1 1 (topW w).toNat h
        simp only [List.length_cons]
        omega
  · rw [if_pos a] at h; cases h
/-- what Read says, by P13.4 -/
def pxTR (b : List Int) (w : Int) : List Int × Int × Int :=
  if (pxR b w).2.2 ≠ 0 then ([], 0, (pxR b w).2.2) else if 120 < (pxR b w).1 then ([], 0, 1) else if (b.length : Int) < (pxR b w).2.1 + (pxR b w).1 then ([], 0, 4)
  else ((b.drop (pxR b w).2.1.toNat).take (pxR b w).1.toNat, (pxR b w).2.1 + (pxR b w).1, 0)
theorem str_mid2 (zs : List Int) (a b : Nat) : (strOfNums zs).extract a b = strOfNums ((zs.drop a).take (b - a)) := by
  apply ByteArray.ext
  apply Array.toList_inj.1
  rw [Lib.extract_data, strOfNums_data, strOfNums_data]
  simp [List.map_take, List.map_drop]
end Go.Proofs.Ytadhdghjlohpcaa.P
namespace Go.Proofs.Ytadhdghjlohpcaa
set_option linter.unusedVariables false
open Go.RowKit P

def pxTV (r : List Int × Int × Int) : Value := .tuple #[.string (strOfNums r.1), .int .i64 r.2.1, .int .i64 r.2.2]
def PxTRef (P : Program) (f : FuncId) : Prop := ∀ (b : List Int) (wi : Int) (w : World), Byt b → b.length ≤ 140737488355328 → -9223372036854775808 ≤ wi → wi ≤ 9223372036854775807 → Calls P f #[.string (strOfNums b), .int .i64 wi] w fun e w' => e = .returned (pxTV (pxTR b wi)) ∧ Below w.heap.size w w'
set_option maxHeartbeats 1000000 in
theorem refPxT_any : PxTRef Try.prog 74 := fun b wi w hb hl w0 w1 => by
  have HO := Lib.hid (fun w => refPxO_any b wi w hb hl w0 w1)
  have HIN := Lib.hid (fun h => pxR_in (b := b) (w := wi) (fun j => (hb j).1) h)
  have HE : Hid (pxTR b wi = if (pxR b wi).2.2 ≠ 0 then ([], 0, (pxR b wi).2.2) else if 120 < (pxR b wi).1 then ([], 0, 1) else if (b.length : Int) < (pxR b wi).2.1 + (pxR b wi).1 then ([], 0, 4) else ((b.drop (pxR b wi).2.1.toNat).take (pxR b wi).1.toNat, (pxR b wi).2.1 + (pxR b wi).1, 0)) := Lib.hid rfl
  obtain ⟨⟨n, u, x⟩, hr⟩ : ∃ r, pxR b wi = r := ⟨_, rfl⟩
  rw [hr] at HO HIN HE
  simp only at HIN HE
  have hsz : (strOfNums b).size = b.length := strOfNums_size b
  have HMID := Lib.hid (fun i j => str_mid2 b i j)
  obtain ⟨S, hS⟩ : ∃ S, strOfNums b = S := ⟨_, rfl⟩
  rw [hS] at HO hsz HMID ⊢
  unfold pxRV at HO
  rw [HE.out]
  have hs47 : S.size ≤ 140737488355328 := by omega
  clear hS hr w0 w1 hb
  by_cases hx : x = 0
  · subst hx
    obtain ⟨n0, n1, u0, u1, u2⟩ := HIN.out rfl
    rw [if_neg (fun k => k rfl)]
    by_cases h1 : 120 < n
    · rw [if_pos h1]
      have e1 : decide (120 < n) = true := by simp [h1]
      unfold pxTV
      clear hsz hl
      go_enter Try.func74, Try.ntmps74
      go_wp2_with fail
      refine (HO.out _).mono ?_
      rintro e w1 ⟨rfl, b1⟩
      have B1 := Lib.hid b1
      clear b1
      go_wp2_with fail
      go_ret3
      exact ⟨rfl, B1.out⟩
    · rw [if_neg h1]
      have e1 : decide (120 < n) = false := by simp; omega
      by_cases h2 : (b.length : Int) < u + n
      · rw [if_pos h2]
        have e2 : decide ((S.size : Int) < u + n) = true := by simp; omega
        unfold pxTV
        clear hsz hl
        go_enter Try.func74, Try.ntmps74
        go_wp2_with fail
        refine (HO.out _).mono ?_
        rintro e w1 ⟨rfl, b1⟩
        have B1 := Lib.hid b1
        clear b1
        go_wp2_with fail
        go_ret3
        exact ⟨rfl, B1.out⟩
      · rw [if_neg h2]
        have e2 : decide ((S.size : Int) < u + n) = false := by simp; omega
        obtain ⟨N, rfl⟩ : ∃ N : Nat, n = N := ⟨n.toNat, by omega⟩
        obtain ⟨U, rfl⟩ : ∃ U : Nat, u = U := ⟨u.toNat, by omega⟩
        have hUS : U + N ≤ S.size := by omega
        have HX := Lib.hid (show S.extract U (U + N) = strOfNums ((b.drop U).take N) by rw [HMID.out, show U + N - U = N by omega])
        simp only [Int.toNat_natCast]
        obtain ⟨X, hX⟩ : ∃ X, strOfNums ((b.drop U).take N) = X := ⟨_, rfl⟩
        rw [hX] at HX
        have HXX := Lib.hid hX
        unfold pxTV
        have hUI : (U : Int) ≤ (U : Int) + (N : Int) := by omega
        have hUT : ((U : Int) + (N : Int)).toNat = U + N := by omega
        have hUJ : (U : Int) + (N : Int) ≤ (S.size : Int) := by omega
        clear hsz hl hX h1 h2
        go_enter Try.func74, Try.ntmps74
        go_wp2_with fail
        refine (HO.out _).mono ?_
        rintro e w1 ⟨rfl, b1⟩
        have B1 := Lib.hid b1
        clear b1
        go_wp2_with fail
        go_ret3
        exact ⟨by rw [HXX.out, ← HX.out]; rfl, B1.out⟩
  · rw [if_pos hx]
    have g : (x != 0) = true := by simp [hx]
    unfold pxTV
    clear hsz hl hx
    go_enter Try.func74, Try.ntmps74
    go_wp2_with fail
    refine (HO.out _).mono ?_
    rintro e w1 ⟨rfl, b1⟩
    have B1 := Lib.hid b1
    clear b1
    go_wp2_with fail
    go_ret3
    exact ⟨rfl, B1.out⟩
end Go.Proofs.Ytadhdghjlohpcaa
