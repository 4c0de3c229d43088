/- The texts' own 'headOf': a head that may be, out of a raw thing: what its steps leave. -/
import Derived.Test.YtaccedlpnngdhaaDoorPick
import Derived.Test.YtaccedlpnngdhaaDoorCut
import Derived.Test.YtaccedlpnngdhaaDoorHdVal
import Derived.Test.YtaccedlpnngdhaaDoorMem
import Derived.Test.YtaccedlpnngdhaaDoorConvS
import Derived.RegionTactic
import Derived.Deep.RegionWith
import Derived.Deep.RegionHeldLaw
import Derived.Deep.RegionHeld3
namespace Go.Proofs.YtaccedlpnngdhaaDoor
set_option linter.unusedVariables false
open Go.RowKit P

/-- the four cells of a raw thing -/
theorem bk4 {w : World} {b : Nat} {a0 a1 a2 a3 : Value} {T : TypeId} (h : w.heap[b]? = some (.cells #[a0, a1, a2, a3] T (0, 0))) :
    w.cell? ⟨b, 0, none⟩ = some a0 ∧ w.cell? ⟨b, 1, none⟩ = some a1 ∧ w.cell? ⟨b, 2, none⟩ = some a2 ∧ w.cell? ⟨b, 3, none⟩ = some a3 :=
  ⟨bk_cell h 0, bk_cell h 1, bk_cell h 2, bk_cell h 3⟩
/-- a piece of code that ends in one way: what holds there is looked at once -/
theorem wp_one {P : Program} {c : Code} {Q : Exit → Act → World → Prop} {a : Act} {w : World} (A : Act) (W : World) (h : c.wp P (fun e a' w' => e = .normal ∧ a' = A ∧ w' = W) a w) (k : Q .normal A W) : c.wp P Q a w :=
  Code.wp_mono (by rintro e a w ⟨rfl, rfl, rfl⟩; exact k) h
/-- a head that may be, in memory of the call's own -/
def HdOut (w : World) (e : Ending) (w' : World) : Prop := ∃ h v, faultH h = 0 ∧ e = .returned v ∧ HdVal w' w'.heap.size v h ∧ Below w.heap.size w w'
/-- a piece of code that ends in some way: what holds there is looked at once -/
theorem wp_rel {P : Program} {c : Code} {Q : Exit → Act → World → Prop} {a : Act} {w : World} (R : Act → World → Prop) (h : c.wp P (fun e a' w' => e = .normal ∧ R a' w') a w) (k : ∀ a' w', R a' w' → Q .normal a' w') : c.wp P Q a w :=
  Code.wp_mono (by rintro e a w ⟨rfl, r⟩; exact k _ _ r) h
theorem row_after {W2 WA : World} (d : List Int) (hb : Byt d) (C : Nat) (e : TypeId) (fr : Nat × Nat) (hC : d.length ≤ C) (hM : C ≤ maxLen) (hsz : WA.heap.size = W2.heap.size) :
    BSl (WA.alloc (.cells (bytesRow (strOfNums d) C) e fr)).drew.drew (WA.alloc (.cells (bytesRow (strOfNums d) C) e fr)).drew.drew.heap.size (.slice (some ⟨W2.heap.size, 0, none⟩) d.length C) d := by
  have h := bytesRow_brow WA d hb C e fr
  rw [hsz] at h
  refine ⟨_, C, rfl, hC, hM, (fun e => by cases e), (h.keep fun p hp => rfl).more ?_⟩
  show W2.heap.size + 1 ≤ (WA.alloc (.cells (bytesRow (strOfNums d) C) e fr)).heap.size
  simp [hsz]
/-- what holds behind the Token's making: the head's variable, the result's, the Token's row -/
structure TokAt (w : World) (b T2 : Nat) (T : TypeId) (kd to fr num size : Int) (d : List Int) (C : Nat) (w' : World) : Prop where
  be : Below w.heap.size w w'
  f : w'.heap[b]? = some (.cells #[.int .i64 kd, .int .i64 to, .int .i64 fr, .slice (some ⟨T2, 0, none⟩) d.length C, .int .i64 num, .int .i64 size] T (0, 0))
  z : w'.heap[w.heap.size + 1]? = some (.cells #[.int .i64 0, .int .i64 0, .int .i64 0, .slice none 0 0, .int .i64 0, .int .i64 0] T (0, 0))
  d : BSl w' w'.heap.size (.slice (some ⟨T2, 0, none⟩) d.length C) d
  lt : b < T2
theorem tok_at {w W2 : World} {b : Nat} {T e : TypeId} {kd to fr num size : Int} {d : List Int} (hB : Below w.heap.size w W2) (hf : W2.heap[b]? = some (.cells #[.int .i64 kd, .int .i64 to, .int .i64 0, .slice none 0 0, .int .i64 num, .int .i64 size] T (0, 0))) (hz : W2.heap[w.heap.size + 1]? = some (.cells #[.int .i64 0, .int .i64 0, .int .i64 0, .slice none 0 0, .int .i64 0, .int .i64 0] T (0, 0))) (hbz : w.heap.size + 1 < b) (hb : Byt d) (C : Nat) (x : Nat × Nat) (hC : d.length ≤ C) (hM : C ≤ maxLen) :
    TokAt w b W2.heap.size T kd to fr num size d C (((W2.setCell ⟨b, 2, none⟩ (.int .i64 fr)).setCell ⟨b, 3, none⟩ (.slice (some ⟨W2.heap.size, 0, none⟩) d.length C)).alloc (.cells (bytesRow (strOfNums d) C) e x)).drew.drew := by
  have hlt := lt_of_block hf
  have g1 := gr_set W2 b 2 (.int .i64 fr)
  have g2 := gr_set (W2.setCell ⟨b, 2, none⟩ (.int .i64 fr)) b 3 (.slice (some ⟨W2.heap.size, 0, none⟩) d.length C)
  have g := gr_trans g1 g2
  have hsz : ((W2.setCell ⟨b, 2, none⟩ (.int .i64 fr)).setCell ⟨b, 3, none⟩ (.slice (some ⟨W2.heap.size, 0, none⟩) d.length C)).heap.size = W2.heap.size := by simp [World.setCell]
  have B := gr_from hB hB.size (by omega : w.heap.size ≤ b) g
  have k1 := bk_set (bk_set hf 2 (.int .i64 fr)) 3 (.slice (some ⟨W2.heap.size, 0, none⟩) d.length C)
  exact ⟨((B.alloc B.size _).drew).drew, (Below.heap_alloc _ _ _ (by rw [hsz]; exact hlt)).trans k1, (Below.heap_alloc _ _ _ (by rw [hsz]; exact lt_of_block hz)).trans ((g.block _ (lt_of_block hz) (by simp; omega)).trans hz), row_after d hb C e x hC hM hsz, hlt⟩
theorem fault_ok {h : Hd} (a0 : 0 ≤ h.kind) (a1 : h.kind ≤ 2) (a2 : h.tok.length ≤ 120) (a3 : 0 ≤ h.to) (a4 : h.to ≤ 255) (a5 : 0 ≤ h.frm) (a6 : h.frm ≤ 255) (a7 : h.kind = 1 → h.size = 0 ∧ h.num = 0) (a8 : h.kind ≠ 1 → 1 ≤ h.size ∧ h.size ≤ 4 ∧ 0 ≤ h.num ∧ h.num < winOf h.size) (a9 : h.kind = 2 → h.frm = 0 ∧ h.tok = []) : faultH h = 0 :=
  of_okH ⟨a0, a1, a2, a3, a4, a5, a6, a7, a8, a9⟩
theorem two_bk (w : World) (a b : Array Value) (T1 T2 : TypeId) : ((w.alloc (.cells a T1)).alloc (.cells b T2)).heap[w.heap.size]? = some (.cells a T1 (0, 0)) ∧ ((w.alloc (.cells a T1)).alloc (.cells b T2)).heap[w.heap.size + 1]? = some (.cells b T2 (0, 0)) ∧ ((w.alloc (.cells a T1)).alloc (.cells b T2)).heap.size = w.heap.size + 2 ∧ Below w.heap.size w ((w.alloc (.cells a T1)).alloc (.cells b T2)) := by
  have s1 : (w.alloc (.cells a T1)).heap.size = w.heap.size + 1 := by simp
  have h2 := heap_alloc_new (w.alloc (.cells a T1)) (.cells b T2)
  rw [s1] at h2
  exact ⟨(Below.heap_alloc _ _ _ (by rw [s1]; omega)).trans (heap_alloc_new w _), h2, by simp, ((Below.refl _ _).alloc (Nat.le_refl _) _).alloc (by simp) _⟩

end Go.Proofs.YtaccedlpnngdhaaDoor
