/- The order of texts of one length is that of their numbers. -/
import Derived.Test.YtpickcmpnncgcaaDoorStr
import Derived.Test.YtpickcmpnncgcaaDoorEnc
namespace Go.Proofs.YtpickcmpnncgcaaDoor
set_option linter.unusedVariables false
open Go.RowKit P

def u8s (xs : List Int) : List UInt8 := xs.map fun n => UInt8.ofNat n.toNat
theorem u8_lt (x y : Int) (hx : 0 ≤ x ∧ x ≤ 255) (hy : 0 ≤ y ∧ y ≤ 255) : (UInt8.ofNat x.toNat < UInt8.ofNat y.toNat) ↔ x < y := by
  rw [UInt8.lt_iff_toNat_lt]
  simp only [UInt8.toNat_ofNat']
  omega
theorem u8_eq (x y : Int) (hx : 0 ≤ x ∧ x ≤ 255) (hy : 0 ≤ y ∧ y ≤ 255) : (UInt8.ofNat x.toNat = UInt8.ofNat y.toNat) ↔ x = y := by
  rw [← UInt8.toNat_inj]
  simp only [UInt8.toNat_ofNat']
  omega
theorem Byt.head {x : Int} {xs : List Int} (h : Byt (x :: xs)) : 0 ≤ x ∧ x ≤ 255 := h 0
theorem Byt.tail {x : Int} {xs : List Int} (h : Byt (x :: xs)) : Byt xs := fun j => h (j + 1)

theorem less_be : ∀ (xs ys : List Int), xs.length = ys.length → Byt xs → Byt ys → Op.bytesLess (u8s xs) (u8s ys) = decide (beFrom 0 xs < beFrom 0 ys)
  | [], [], _, _, _ => by simp [u8s, Op.bytesLess, beFrom]
  | [], _ :: _, h, _, _ => by simp at h
  | _ :: _, [], h, _, _ => by simp at h
  | x :: xs, y :: ys, h, hx, hy => by
    have hl : xs.length = ys.length := by simpa using h
    have ih := less_be xs ys hl (Byt.tail hx) (Byt.tail hy)
    have bx := beFrom_all 0 xs (Byt.tail hx) (by omega)
    have by' := beFrom_all 0 ys (Byt.tail hy) (by omega)
    have e1 : beFrom (0 * 256 + x) xs = x * 256 ^ xs.length + beFrom 0 xs := by rw [beFrom_lin (0 * 256 + x) xs, Int.zero_mul, Int.zero_add]
    have e2 : beFrom (0 * 256 + y) ys = y * 256 ^ ys.length + beFrom 0 ys := by rw [beFrom_lin (0 * 256 + y) ys, Int.zero_mul, Int.zero_add]
    rw [beFrom_cons, beFrom_cons, e1, e2]
    clear e1 e2
    rw [hl] at bx ⊢
    rw [Int.zero_mul, Int.zero_add] at bx by'
    have hp : (0 : Int) < 256 ^ ys.length := Int.pow_pos (by decide)
    generalize (256 : Int) ^ ys.length = p at *
    generalize beFrom 0 xs = u at *
    generalize beFrom 0 ys = v at *
    have l1 := u8_lt x y (Byt.head hx) (Byt.head hy)
    have l2 := u8_eq x y (Byt.head hx) (Byt.head hy)
    show (decide (UInt8.ofNat x.toNat < UInt8.ofNat y.toNat) || (UInt8.ofNat x.toNat == UInt8.ofNat y.toNat && Op.bytesLess (u8s xs) (u8s ys))) = _
    rw [ih]
    rcases Int.lt_trichotomy x y with c | c | c
    · have m := Int.mul_le_mul_of_nonneg_right (show x + 1 ≤ y by omega) (Int.le_of_lt hp)
      rw [Int.add_mul] at m
      have d1 : decide (UInt8.ofNat x.toNat < UInt8.ofNat y.toNat) = true := decide_eq_true (l1.2 c)
      rw [d1, Bool.true_or]
      symm
      generalize x * p = s at *
      generalize y * p = t at *
      exact decide_eq_true (by omega)
    · subst c
      have d1 : decide (UInt8.ofNat x.toNat < UInt8.ofNat x.toNat) = false := decide_eq_false (fun h => by have := l1.1 h; omega)
      rw [d1, Bool.false_or, beq_self_eq_true, Bool.true_and]
      rw [decide_eq_decide]
      omega
    · have m := Int.mul_le_mul_of_nonneg_right (show y + 1 ≤ x by omega) (Int.le_of_lt hp)
      rw [Int.add_mul] at m
      have d1 : decide (UInt8.ofNat x.toNat < UInt8.ofNat y.toNat) = false := decide_eq_false (fun h => by have := l1.1 h; omega)
      have d2 : (UInt8.ofNat x.toNat == UInt8.ofNat y.toNat) = false := beq_false_of_ne (fun h => by have := l2.1 h; omega)
      rw [d1, d2, Bool.false_or, Bool.false_and]
      symm
      generalize x * p = s at *
      generalize y * p = t at *
      exact decide_eq_false (by omega)

/-- what a number's bytes spell, its mark with it -/
theorem enc_be (n : Int) (h0 : 0 ≤ n) (h1 : n ≤ 4611686018427387903) : (n < 64 ∧ beFrom 0 (enc n) = n) ∨ (64 ≤ n ∧ n < 16384 ∧ beFrom 0 (enc n) = n + 16384) ∨ (16384 ≤ n ∧ n < 1073741824 ∧ beFrom 0 (enc n) = n + 2147483648) ∨ (1073741824 ≤ n ∧ beFrom 0 (enc n) = n + 13835058055282163712) := by
  unfold enc
  split
  · left; simp [beFrom]; assumption
  split
  · right; left; refine ⟨by omega, by omega, ?_⟩; simp only [beFrom, List.foldl_cons, List.foldl_nil]; omega
  split
  · right; right; left; refine ⟨by omega, by omega, ?_⟩; simp only [beFrom, List.foldl_cons, List.foldl_nil]; omega
  · right; right; right; refine ⟨by omega, ?_⟩; simp only [beFrom, List.foldl_cons, List.foldl_nil]; omega

theorem enc_order (a b : Int) (a0 : 0 ≤ a) (a1 : a ≤ 4611686018427387903) (b0 : 0 ≤ b) (b1 : b ≤ 4611686018427387903) (hl : (enc a).length = (enc b).length) :
    Op.bytesLess (strOfNums (enc a)).toList (strOfNums (enc b)).toList = decide (a < b) := by
  rw [Lib.toList_data, Lib.toList_data, strOfNums_data, strOfNums_data]
  have h := less_be (enc a) (enc b) hl (enc_byt a a0 a1) (enc_byt b b0 b1)
  have la := enc_len a
  have lb := enc_len b
  have ca := sz_cases a
  have cb := sz_cases b
  refine (show Op.bytesLess (u8s (enc a)) (u8s (enc b)) = _ from h).trans ?_
  rw [decide_eq_decide]
  rcases enc_be a a0 a1 with ⟨_, e⟩ | ⟨_, _, e⟩ | ⟨_, _, e⟩ | ⟨_, e⟩ <;> rcases enc_be b b0 b1 with ⟨_, f⟩ | ⟨_, _, f⟩ | ⟨_, _, f⟩ | ⟨_, f⟩ <;> rw [e, f] <;> omega
end Go.Proofs.YtpickcmpnncgcaaDoor
