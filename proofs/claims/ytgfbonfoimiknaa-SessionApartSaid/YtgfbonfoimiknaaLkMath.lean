/- Words of 64 bits, mixed; bytes turned by a stream of them; tags. Nothing of the program's. -/
import Derived.Test.YtgfbonfoimiknaaGrpA
import Derived.Laws.Bits64
namespace Go.Proofs.Ytgfbonfoimiknaa.P
set_option linter.unusedVariables false

/-- a word that is mixed, by P6.1 -/
def mxA (x : Nat) : Nat := (x + 11400714819323198485) % 18446744073709551616
def mxB (a : Nat) : Nat := (a ^^^ a / 1073741824) * 13787848793156543929 % 18446744073709551616
def mxC (b : Nat) : Nat := (b ^^^ b / 134217728) * 10723151780598845931 % 18446744073709551616
def mxD (c : Nat) : Nat := c ^^^ c / 2147483648
def mx (x : Nat) : Nat := mxD (mxC (mxB (mxA x)))

theorem xor_lt {a b : Nat} (ha : a < 18446744073709551616) (hb : b < 18446744073709551616) : a ^^^ b < 18446744073709551616 :=
  Nat.xor_lt_two_pow (n := 64) ha hb
theorem mx_lt (x : Nat) : mx x < 18446744073709551616 := by
  have : mxC (mxB (mxA x)) < 18446744073709551616 := Nat.mod_lt _ (by decide)
  exact xor_lt this (by omega)

/-- a word with its own higher bits laid over it can be had back -/
theorem shr_back (s x : Nat) (hx : x / 2 ^ (3 * s) = 0) : (x ^^^ x / 2 ^ s) ^^^ (x ^^^ x / 2 ^ s) / 2 ^ s ^^^ (x ^^^ x / 2 ^ s) / 2 ^ (2 * s) = x := by
  simp only [← Nat.shiftRight_eq_div_pow] at hx ⊢
  simp only [Nat.shiftRight_xor_distrib, ← Nat.shiftRight_add]
  rw [show s + s = 2 * s by omega, show s + 2 * s = 3 * s by omega, hx, Nat.xor_zero]
  rw [show ∀ a b c : Nat, a ^^^ b ^^^ (b ^^^ c) ^^^ c = a from fun a b c => by
    rw [Nat.xor_assoc a b, ← Nat.xor_assoc b b c, Nat.xor_self, Nat.zero_xor, Nat.xor_assoc, Nat.xor_self, Nat.xor_zero]]
theorem shr_inj {s x y : Nat} (hs : 18446744073709551616 ≤ 2 ^ (3 * s)) (hx : x < 18446744073709551616) (hy : y < 18446744073709551616) (h : x ^^^ x / 2 ^ s = y ^^^ y / 2 ^ s) : x = y := by
  have e1 := shr_back s x (Nat.div_eq_of_lt (by omega))
  have e2 := shr_back s y (Nat.div_eq_of_lt (by omega))
  rw [← e1, h, e2]
/-- what an odd number multiplies can be had back -/
theorem mul_inj {c d x y : Nat} (hcd : c * d % 18446744073709551616 = 1) (hx : x < 18446744073709551616) (hy : y < 18446744073709551616) (h : x * c % 18446744073709551616 = y * c % 18446744073709551616) : x = y := by
  have key : ∀ z, z < 18446744073709551616 → (z * c % 18446744073709551616) * d % 18446744073709551616 = z := fun z hz => by
    rw [Nat.mod_mul_mod, Nat.mul_assoc, Nat.mul_mod, hcd, Nat.mul_one, Nat.mod_mod, Nat.mod_eq_of_lt hz]
  rw [← key x hx, h, key y hy]
theorem mx_inj {x y : Nat} (hx : x < 18446744073709551616) (hy : y < 18446744073709551616) (h : mx x = mx y) : x = y := by
  have l1 : ∀ x, mxA x < 18446744073709551616 := fun x => Nat.mod_lt _ (by decide)
  have l2 : ∀ x, mxB x < 18446744073709551616 := fun x => Nat.mod_lt _ (by decide)
  have l3 : ∀ x, mxC x < 18446744073709551616 := fun x => Nat.mod_lt _ (by decide)
  have h3 := shr_inj (s := 31) (by decide) (l3 _) (l3 _) h
  have h2 := mul_inj (d := 3573116690164977347) (by decide) (xor_lt (l2 _) (by have := l2 (mxA x); omega)) (xor_lt (l2 _) (by have := l2 (mxA y); omega)) h3
  have h2' := shr_inj (s := 27) (by decide) (l2 _) (l2 _) h2
  have h1 := mul_inj (d := 10871156337175269513) (by decide) (xor_lt (l1 _) (by have := l1 x; omega)) (xor_lt (l1 _) (by have := l1 y; omega)) h2'
  have h1' := shr_inj (s := 30) (by decide) (l1 _) (l1 _) h1
  unfold mxA at h1'
  omega
theorem mx_zero : mx 0 = 16294208416658607535 := by decide

/-- a number as a word -/
def wd (n : Int) : Nat := (n % 18446744073709551616).toNat
theorem wd_lt (n : Int) : wd n < 18446744073709551616 := by unfold wd; omega
/-- the key of a secret and a number, by P6.2 -/
def keyN (s : Nat) (n : Int) : Nat := mx (wd n ^^^ mx s)
theorem keyN_inj {s : Nat} {a b : Int} (ha : -9223372036854775808 ≤ a ∧ a ≤ 9223372036854775807) (hb : -9223372036854775808 ≤ b ∧ b ≤ 9223372036854775807) (h : keyN s a = keyN s b) : a = b := by
  have h1 := mx_inj (xor_lt (wd_lt _) (mx_lt _)) (xor_lt (wd_lt _) (mx_lt _)) h
  have h2 : wd a = wd b := by
    have := congrArg (· ^^^ mx s) h1
    simpa [Nat.xor_assoc] using this
  unfold wd at h2
  omega

/-- byte i of the stream, by P6.3 -/
def strB (start i : Nat) : Nat := mx ((start + i / 8) % 18446744073709551616) / 256 ^ (i % 8) % 256
def startN (key : Nat) (n : Int) : Nat := mx (mx (wd n) ^^^ key)
/-- bytes turned by the stream, from place i on -/
def turnL (start : Nat) : Nat → List Int → List Int
  | _, [] => []
  | i, z :: zs => ((z.toNat ^^^ strB start i : Nat) : Int) :: turnL start (i + 1) zs
/-- the tag of one part behind t -/
def tagP (t : Nat) (zs : List Int) : Nat := mx ((zs.foldl (fun h z => mx (z.toNat ^^^ h)) t) ^^^ (256 * zs.length) % 18446744073709551616)
def tagN (key : Nat) (n : Int) (hd tx : List Int) : Nat := tagP (tagP (wd n ^^^ mx key) hd) tx
/-- the seal of a text, by P6.3 -/
def sealL (key : Nat) (n : Int) (hd tx : List Int) : List Int := turnL (startN key n) 0 tx ++ lowB 8 (tagN key n hd tx)
end Go.Proofs.Ytgfbonfoimiknaa.P
