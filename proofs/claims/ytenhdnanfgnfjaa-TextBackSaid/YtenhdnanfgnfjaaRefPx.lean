/- The document's answers on numbers behind bits: prefixText, PrefixBytes. -/
import Derived.Test.YtenhdnanfgnfjaaPxMath
import Derived.Test.YtenhdnanfgnfjaaRefUp2
import Derived.Test.YtenhdnanfgnfjaaBig
import Derived.Test.YtenhdnanfgnfjaaConvS
import Derived.Test.YtenhdnanfgnfjaaMem
namespace Go.Proofs.Ytenhdnanfgnfjaa
set_option linter.unusedVariables false
open Go.RowKit P

/-- what is asked of a writer of such numbers -/
def PxPost (x : Int) (L : List Int) (w : World) (e : Ending) (w' : World) : Prop := Below w.heap.size w w' ∧ ∃ d, e = .returned (.tuple #[d, .int .i64 x]) ∧ BSl w' w'.heap.size d (if x = 0 then L else [])
def PxEnc (P : Program) (f : FuncId) : Prop := ∀ (first wi n : Int) (w : World), 0 ≤ first → first < 256 → -9223372036854775808 ≤ wi → wi ≤ 9223372036854775807 → Calls P f #[.int .u8 first, .int .i64 wi, .int .i64 n] w (PxPost (pxF first wi n) (pxL first wi n) w)
theorem px_none (w : World) : BSl w w.heap.size (.slice none 0 0) [] := ⟨none, 0, rfl, Nat.le_refl _, by unfold maxLen; omega, fun _ => rfl, BRow.nil _ _ _⟩
theorem low1 {v : Int} (h0 : 0 ≤ v) (h1 : v < 256) : lowB 1 v = [v] := by
  show [shr8 0 v % 256] = [v]
  rw [show shr8 0 v = v from rfl, Int.emod_eq_of_lt h0 h1]
theorem big1 (v : Int) (h0 : 0 ≤ v) (h1 : v < 256) (w : World) : Calls Try.prog 23 #[.int .u64 v, .int .i64 1] w fun e w' => e = .returned (.string (strOfNums [v])) ∧ Below w.heap.size w w' := by
  have := big_any v 1 h0 (by omega) (by omega) w
  rwa [low1 h0 h1] at this
def pxT (first top n : Int) : List Int := if n < top then [first + n] else (first + top) :: pxD (n - top).toNat
set_option maxHeartbeats 1000000 in
theorem refPxText_any (first top n : Int) (hf : 0 ≤ first) (ht : 1 ≤ top) (h1 : first + top < 256) (h0 : 0 ≤ n) (hn : n ≤ 4611686018427387903) (w : World) :
    Calls Try.prog 22 #[.int .i64 first, .int .i64 top, .int .i64 n] w fun e w' => e = .returned (.string (strOfNums (pxT first top n))) ∧ Below w.heap.size w w' := by
  have HBG := Lib.hid (fun v h0 h1 w => big1 v h0 h1 w)
  by_cases q : n < top
  · have e1 : decide (n < top) = true := by simp [q]
    have HE := Lib.hid (show [first + n] = pxT first top n from (if_pos q).symm)
    go_enter Try.func22, Try.ntmps22
    go_wp2_with fail
    refine (HBG.out (first + n) (by omega) (by omega) _).mono ?_
    rintro e w1 ⟨rfl, b1⟩
    have B1 := Lib.hid b1
    clear b1
    go_wp2_with fail
    go_ret
    exact ⟨by rw [HE.out]; rfl, B1.out⟩
  · have e1 : decide (n < top) = false := by simp; omega
    have HF := Lib.hid (show pxT first top n = (first + top) :: pxD (n - top).toNat from if_neg q)
    obtain ⟨M, hM⟩ : ∃ M : Nat, n - top = M := ⟨(n - top).toNat, by omega⟩
    have hMt : (n - top).toNat = M := by omega
    rw [hMt] at HF
    have hM1 : M ≤ 4611686018427387903 := by omega
    have HLN := Lib.hid (pxD_len 8 M (by have : (128 : Nat) ^ 9 = 9223372036854775808 := by decide
                                         omega))
    have hwr : IntKind.i64.wrap (n - top) = (M : Int) := by rw [IntKind.wrap_i64]; omega
    rw [HF.out]
    obtain ⟨F, hF⟩ : ∃ F, (first + top) :: pxD M = F := ⟨_, rfl⟩
    have HFL := Lib.hid (show F.length ≤ 10 by rw [← hF, List.length_cons]; have := HLN.out; omega)
    have H0 := Lib.hid (show [first + top] ++ pxD M = F from hF)
    rw [hF]
    clear hF
    clear hM hMt
    go_enter Try.func22, Try.ntmps22
    go_wp2_with fail
    refine (HBG.out (first + top) (by omega) (by omega) _).mono ?_
    rintro e w1 ⟨rfl, b1⟩
    have B1 := Lib.hid b1
    clear b1
    go_wp2_with fail
    clear hwr
    go_loopw [2, 7] (fun nv sv wr => ∃ (m : Nat) (acc : List Int), nv = .int .i64 m ∧ sv = .string (strOfNums acc) ∧ m ≤ 4611686018427387903 ∧ Hid (acc ++ pxD m = F) ∧ Hid (Below w.heap.size w wr)) (fun nv _ _ => (intOf nv).toNat)
    case atStart => exact ⟨M, _, rfl, rfl, hM1, H0, B1⟩
    case round =>
      obtain ⟨m, acc, rfl, rfl, hm, HA, BK⟩ := hrel
      have hlen := congrArg List.length HA.out
      rw [List.length_append] at hlen
      have hp := pxD_pos m
      have hFL := HFL.out
      have hal : acc.length ≤ 10 := by omega
      have hsz : (strOfNums acc).size = acc.length := strOfNums_size acc
      obtain ⟨S, hS⟩ : ∃ S, strOfNums acc = S := ⟨_, rfl⟩
      have HS := Lib.hid hS
      rw [hS] at hsz ⊢
      have hs20 : S.size ≤ 10 := by omega
      clear hlen hp hFL hS hsz hal
      by_cases hlt : 127 < m
      · have d0 : (0 : Int) ≤ 128 + (m : Int) % 128 := by omega
        have d1 : 128 + (m : Int) % 128 < 256 := by omega
        have hst : pxD m = ((128 + m % 128 : Nat) : Int) :: pxD (m / 128) := pxD_hi (by omega)
        have HN := Lib.hid (show (acc ++ [128 + (m : Int) % 128]) ++ pxD (m / 128) = F by rw [← HA.out, hst, List.append_assoc]; simp)
        have e2 : decide ((127 : Int) < (m : Int)) = true := by simp; omega
        obtain ⟨dg, hdg⟩ : ∃ d, 128 + (m : Int) % 128 = d := ⟨_, rfl⟩
        rw [hdg] at HN d0 d1
        have hcat := Lib.hid (show S ++ strOfNums [dg] = strOfNums (acc ++ [dg]) by rw [← HS.out, str_cat])
        have hs1 : (strOfNums [dg]).size = 1 := by rw [strOfNums_size]; rfl
        obtain ⟨S1, hS1⟩ : ∃ S, strOfNums [dg] = S := ⟨_, rfl⟩
        rw [hS1] at hcat hs1
        clear hst
        go_wp2_with fail
        refine (HBG.out dg d0 d1 _).mono ?_
        rintro e w2 ⟨rfl, b2⟩
        have B2 := Lib.hid (BK.out.trans (b2.mono BK.out.size))
        rw [hS1]
        clear b2
        go_wp2_with fail
        go_roundw
        case rel => exact ⟨m / 128, acc ++ [dg], by first | rfl | go_num, by rw [← hcat.out], by omega, HN, B2⟩
        case measure => simp [intOf]; omega
      · have hst : pxD m = [(m : Int)] := pxD_lo (by omega)
        have HN := Lib.hid (show acc ++ [(m : Int)] = F by rw [← HA.out, hst])
        have e2 : decide ((127 : Int) < (m : Int)) = false := by simp; omega
        have hcat := Lib.hid (show S ++ strOfNums [(m : Int)] = strOfNums F by rw [← HS.out, str_cat, HN.out])
        have hs1 : (strOfNums [(m : Int)]).size = 1 := by rw [strOfNums_size]; rfl
        obtain ⟨S1, hS1⟩ : ∃ S, strOfNums [(m : Int)] = S := ⟨_, rfl⟩
        rw [hS1] at hcat hs1
        clear hst
        go_wp2_with fail
        refine (HBG.out (m : Int) (by omega) (by omega) _).mono ?_
        rintro e w2 ⟨rfl, b2⟩
        have B2 := Lib.hid (BK.out.trans (b2.mono BK.out.size))
        rw [hS1]
        clear b2
        go_wp2_with fail
        go_ret
        exact ⟨by rw [← hcat.out]; rfl, B2.out⟩
end Go.Proofs.Ytenhdnanfgnfjaa
