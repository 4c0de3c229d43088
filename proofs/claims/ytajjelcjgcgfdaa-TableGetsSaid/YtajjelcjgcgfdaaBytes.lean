/- Plain words for rows of bytes in memory, and big-endian numbers: nothing of the program's. -/
import Derived.WalkKit
import Derived.Handy
import Derived.Lib.Hide
namespace Go.Proofs.Ytajjelcjgcgfdaa.P
set_option linter.unusedVariables false
open Go.RowKit

theorem ret_int {k : IntKind} {a b : Int} (h : a = b) : Ending.returned (.int k a) = .returned (.int k b) := by rw [h]
theorem ret_bool {a : Bool} (h : a = true) : Ending.returned (.bool a) = .returned (.bool true) := by rw [h]

/-- the numbers 'zs' are bytes -/
def Byt (zs : List Int) : Prop := ∀ j, 0 ≤ zs.getD j 0 ∧ zs.getD j 0 ≤ 255

/-- 'A' leads to a row below block B whose cells are the bytes zs; where zs is empty nothing is said of A -/
def BRow (w : World) (B : Nat) (A : Option Addr) (zs : List Int) : Prop :=
  Byt zs ∧ (0 < zs.length → ∃ b off, A = some ⟨b, off, none⟩ ∧ b < B ∧ ∀ j, j < zs.length → w.cell? ⟨b, off + j, none⟩ = some (.int .u8 (zs.getD j 0)))

theorem Byt.nil : Byt [] := fun j => by simp
theorem Byt.drop {zs : List Int} (h : Byt zs) (k : Nat) : Byt (zs.drop k) := fun j => by
  rw [List.getD_eq_getElem?_getD, List.getElem?_drop, ← List.getD_eq_getElem?_getD]; exact h _
theorem getD_take {zs : List Int} {k j : Nat} (h : j < k) : (zs.take k).getD j 0 = zs.getD j 0 := by
  rw [List.getD_eq_getElem?_getD, List.getElem?_take, if_pos h, ← List.getD_eq_getElem?_getD]
theorem getD_drop {zs : List Int} {k j : Nat} : (zs.drop k).getD j 0 = zs.getD (k + j) 0 := by
  rw [List.getD_eq_getElem?_getD, List.getElem?_drop, ← List.getD_eq_getElem?_getD]
theorem getD_long {zs : List Int} {j : Nat} (h : zs.length ≤ j) : zs.getD j 0 = 0 := by
  rw [List.getD_eq_getElem?_getD, List.getElem?_eq_none h]; rfl
theorem Byt.take {zs : List Int} (h : Byt zs) (k : Nat) : Byt (zs.take k) := fun j => by
  by_cases hj : j < k
  · rw [getD_take hj]; exact h _
  · rw [getD_long (by rw [List.length_take]; omega)]; omega

theorem Byt.append {xs ys : List Int} (h : Byt xs) (k : Byt ys) : Byt (xs ++ ys) := fun j => by
  rw [List.getD_eq_getElem?_getD, List.getElem?_append]
  split
  · rw [← List.getD_eq_getElem?_getD]; exact h j
  · rw [← List.getD_eq_getElem?_getD]; exact k _

theorem BRow.nil (w : World) (B : Nat) (A : Option Addr) : BRow w B A [] := ⟨Byt.nil, fun h => absurd h (by simp)⟩
theorem BRow.keep {w w' : World} {B : Nat} {A : Option Addr} {zs : List Int} (h : BRow w B A zs) (hk : ∀ p : Addr, p.block < B → w'.cell? p = w.cell? p) : BRow w' B A zs :=
  ⟨h.1, fun hn => by
    obtain ⟨b, off, e, hb, hc⟩ := h.2 hn
    exact ⟨b, off, e, hb, fun j hj => (hk _ hb).trans (hc j hj)⟩⟩
theorem BRow.more {w : World} {B B' : Nat} {A : Option Addr} {zs : List Int} (h : BRow w B A zs) (hB : B ≤ B') : BRow w B' A zs :=
  ⟨h.1, fun hn => by
    obtain ⟨b, off, e, hb, hc⟩ := h.2 hn
    exact ⟨b, off, e, by omega, hc⟩⟩
theorem BRow.take {w : World} {B : Nat} {A : Option Addr} {zs : List Int} (h : BRow w B A zs) (k : Nat) : BRow w B A (zs.take k) :=
  ⟨h.1.take k, fun hn => by
    rw [List.length_take] at hn
    obtain ⟨b, off, e, hb, hc⟩ := h.2 (by omega)
    refine ⟨b, off, e, hb, fun j hj => ?_⟩
    rw [List.length_take] at hj
    rw [getD_take (by omega)]
    exact hc j (by omega)⟩
theorem BRow.below {w w' : World} {B : Nat} {A : Option Addr} {zs : List Int} (h : BRow w B A zs) (hb : Below B w w') : BRow w' B A zs := h.keep fun _ hp => hb.cell hp

/-- a big-endian number read on from 'a' -/
def beFrom (a : Int) (zs : List Int) : Int := zs.foldl (fun a z => a * 256 + z) a
theorem beFrom_snoc (a : Int) (zs : List Int) (z : Int) : beFrom a (zs ++ [z]) = beFrom a zs * 256 + z := by simp [beFrom]
theorem take_snoc (zs : List Int) (k : Nat) (h : k < zs.length) : zs.take (k + 1) = zs.take k ++ [zs.getD k 0] := by
  rw [List.take_succ_eq_append_getElem h, List.getD_eq_getElem?_getD, List.getElem?_eq_getElem h]; rfl
theorem beFrom_nil (a : Int) : beFrom a [] = a := rfl
theorem beFrom_step (a : Int) (zs : List Int) (k : Nat) (h : k < zs.length) : beFrom a (zs.take (k + 1)) = beFrom a (zs.take k) * 256 + zs.getD k 0 := by
  rw [take_snoc zs k h, beFrom_snoc]
theorem beFrom_bd (a : Int) (zs : List Int) (hz : Byt zs) (ha : 0 ≤ a) : ∀ k, k ≤ zs.length → 0 ≤ beFrom a (zs.take k) ∧ beFrom a (zs.take k) ≤ a * 256 ^ k + (256 ^ k - 1) := by
  intro k
  induction k with
  | zero => intro _; simp [beFrom]; omega
  | succ k ih =>
    intro hk
    have i := ih (by omega)
    have z := hz k
    rw [beFrom_step a zs k (by omega)]
    have e : (256 : Int) ^ (k + 1) = 256 ^ k * 256 := Int.pow_succ _ _
    rw [e]
    generalize (256 : Int) ^ k = p at i ⊢
    have e2 : a * (p * 256) = (a * p) * 256 := by rw [Int.mul_assoc]
    rw [e2]
    omega

theorem pow256 (k : Nat) (h : k ≤ 6) : 1 ≤ (256 : Int) ^ k ∧ (256 : Int) ^ k ≤ 281474976710656 := by
  have c : k = 0 ∨ k = 1 ∨ k = 2 ∨ k = 3 ∨ k = 4 ∨ k = 5 ∨ k = 6 := by omega
  rcases c with rfl | rfl | rfl | rfl | rfl | rfl | rfl <;> decide
/-- an accumulator of at most seven bytes, of which the first has six bits -/
theorem acc_bd (a y : Int) (k : Nat) (h : k ≤ 6) (a0 : 0 ≤ a) (a1 : a ≤ 63) (y0 : 0 ≤ y) (y1 : y ≤ a * 256 ^ k + (256 ^ k - 1)) : 0 ≤ y ∧ y ≤ 18014398509481983 := by
  have p := pow256 k h
  generalize (256 : Int) ^ k = u at *
  have q : a * u ≤ 63 * 281474976710656 := Int.mul_le_mul a1 p.2 (by omega) (by omega)
  omega
theorem or_i64 (x y : Int) (hx : 0 ≤ x) (hx1 : x ≤ 18014398509481983) (hy : 0 ≤ y) (hy1 : y ≤ 255) : bits .or .i64 (x * 256) y = x * 256 + y :=
  bits_join .i64 62 (by decide) (fun n h0 h1 => IntWalk.i64_in n (by omega)) 8 (x * 256) y (by omega) (by omega) (by omega) hy (by omega) (by omega)

theorem or_top (x t : Int) (h0 : 0 ≤ x) (h1 : x < 64) (ht : t = 0 ∨ t = 64 ∨ t = 128 ∨ t = 192) : bits .or .u8 x t = x + t := by
  have hc : bits .or .u8 x t = bits .or .u8 t x := by simp only [bits, BitVec.or_comm]
  rw [hc, bits_join .u8 8 (by decide) wraps_u8 6 t x (by omega) (by omega) (by omega) h0 (by omega) (by omega)]
  omega

theorem cell_lt {w : World} {p : Addr} {v : Value} (h : w.cell? p = some v) : p.block < w.heap.size := by
  rcases Nat.lt_or_ge p.block w.heap.size with hlt | hge
  · exact hlt
  · exfalso
    have : w.heap[p.block]? = none := Array.getElem?_eq_none hge
    simp [World.cell?, this] at h

/-- a slice of integers that came in, as the frame of a proof hands it on -/
def IsRow (k : IntKind) (w : World) (a : Option Addr) (len cap : Nat) (zs : List Int) : Prop :=
  (a = none ∧ len = 0 ∧ cap = 0 ∧ zs = []) ∨
  ∃ x, a = some x ∧ len ≤ cap ∧ cap ≤ maxLen ∧ zs.length = cap ∧ (∀ i, i < zs.length → w.cell? (x.add i) = some (.int k (zs.getD i 0))) ∧ ∀ n ∈ zs, (Lit.int k n).wf = true
/-- a slice of bytes that came in, as the frame of a proof hands it on -/
def InRow (w : World) (a : Option Addr) (len cap : Nat) (zs : List Int) : Prop := IsRow .u8 w a len cap zs

theorem InRow.brow {w : World} {a : Option Addr} {len cap : Nat} {zs : List Int} (h : InRow w a len cap zs) :
    BRow w w.heap.size a (zs.take len) ∧ (zs.take len).length = len ∧ len ≤ cap ∧ cap ≤ maxLen := by
  rcases h with ⟨rfl, rfl, rfl, rfl⟩ | ⟨x, rfl, hl, hm, hz, hc, hw⟩
  · exact ⟨BRow.nil _ _ _, rfl, Nat.le_refl _, by unfold maxLen; omega⟩
  · have hlen : (zs.take len).length = len := by rw [List.length_take]; omega
    refine ⟨⟨fun j => ?_, fun hp => ?_⟩, hlen, hl, hm⟩
    · by_cases hj : j < (zs.take len).length
      · have hm' : (zs.take len).getD j 0 ∈ zs := by
          rw [List.getD_eq_getElem?_getD, List.getElem?_eq_getElem hj]
          exact List.mem_of_mem_take (List.getElem_mem hj)
        exact bounds_u8 (hw _ hm')
      · rw [getD_long (by omega)]; omega
    · obtain ⟨b, off, rfl, hat⟩ := ints_at hc (by omega)
      refine ⟨b, off, rfl, cell_lt (hat 0 (by omega)), fun j hj => ?_⟩
      rw [getD_take (by omega)]
      exact hat j (by omega)
end Go.Proofs.Ytajjelcjgcgfdaa.P
