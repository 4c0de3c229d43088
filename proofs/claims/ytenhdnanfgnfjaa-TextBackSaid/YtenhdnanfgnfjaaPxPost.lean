/- What is asked of a writer of numbers behind bits, with a row that may be written on. -/
import Derived.Test.YtenhdnanfgnfjaaRefPx
import Derived.Test.YtenhdnanfgnfjaaPxW
namespace Go.Proofs.Ytenhdnanfgnfjaa
set_option linter.unusedVariables false
open Go.RowKit P

def PxPostW (x : Int) (L : List Int) (w : World) (e : Ending) (w' : World) : Prop := Below w.heap.size w w' ∧ ∃ d, e = .returned (.tuple #[d, .int .i64 x]) ∧ (x ≠ 0 → d = .slice none 0 0) ∧ (x = 0 → WRow w' w.heap.size 5 d L)
def PxEncW (P : Program) (f : FuncId) : Prop := ∀ (first wi n : Int) (w : World), 0 ≤ first → first < 256 → -9223372036854775808 ≤ wi → wi ≤ 9223372036854775807 → Calls P f #[.int .u8 first, .int .i64 wi, .int .i64 n] w (PxPostW (pxF first wi n) (pxL first wi n) w)
theorem pxL_byt' {first w n : Int} (h0 : 0 ≤ first) (h1 : first < 256) (h : pxF first w n = 0) : Byt (pxL first w n) := byt_all fun z hz => by have := pxL_byt h0 h1 h z hz; omega
theorem PxEncW.enc {P : Program} {f : FuncId} (h : PxEncW P f) : PxEnc P f := fun first wi n w f0 f1 w0 w1 => (h first wi n w f0 f1 w0 w1).mono fun e w' ⟨b, d, he, hn, hy⟩ => by
  refine ⟨b, d, he, ?_⟩
  by_cases hx : pxF first wi n = 0
  · rw [if_pos hx]; exact wrow_bsl (hy hx) (pxL_byt' f0 f1 hx)
  · rw [if_neg hx, hn hx]; exact px_none w'
theorem wrow_lit (w : World) (z : Int) (t : TypeId) : WRow (w.alloc (.cells #[.int .u8 z] t)) w.heap.size t (.slice (some ⟨w.heap.size, 0, none⟩) 1 1) [z] :=
  ⟨w.heap.size, 1, _, (0, 0), rfl, Nat.le_refl _, heap_alloc_new w (.cells #[.int .u8 z] t), fun i _ k => by have := k.2; simp at this, Nat.le_refl _, by unfold maxLen; omega, rfl, rfl⟩
theorem own_lit (w : World) (z : Int) (t : TypeId) (base : Nat) (hb : base ≤ w.heap.size) : (w.alloc (.cells #[.int .u8 z] t)).ownsRow base t 1 (.slice (some ⟨w.heap.size, 0, none⟩) 1 1) 1 ([z].map (.int .u8)) :=
  ⟨rfl, .inr ⟨w.heap.size, 1, #[.int .u8 z], rfl, hb, heap_alloc_new w (.cells #[.int .u8 z] t), Nat.le_refl _, by unfold maxLen; omega, rfl, rfl⟩⟩
theorem brow_one (w : World) (z : Int) (t : TypeId) (hz : 0 ≤ z ∧ z ≤ 255) : BRow (w.alloc (.cells #[.int .u8 z] t)) (w.heap.size + 1) (some ⟨w.heap.size, 0, none⟩) [z] :=
  ⟨fun j => by
    cases j with
    | zero => exact hz
    | succ j => simp, fun _ => ⟨w.heap.size, 0, rfl, Nat.lt_succ_self _, fun j hj => by
    have : j = 0 := by simpa using hj
    subst this
    rw [bk_cell (heap_alloc_new w (.cells #[.int .u8 z] t)) (0 + 0)]
    rfl⟩⟩
end Go.Proofs.Ytenhdnanfgnfjaa
