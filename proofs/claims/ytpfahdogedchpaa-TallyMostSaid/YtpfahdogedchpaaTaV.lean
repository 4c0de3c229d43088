/- Tallies: what is asked of the project and of the document's answers, by P17; blocks of three cells. -/
import Derived.Test.YtpfahdogedchpaaGrpC
import Derived.Below
import Derived.Test.YtpfahdogedchpaaGrpB
import Derived.Deep.LoopGhost
namespace Go.Proofs.Ytpfahdogedchpaa
set_option linter.unusedVariables false
open Go.RowKit P

def taV (kn : Bool) (g s : Int) : Value := .agg #[.bool kn, .int .i64 g, .int .i64 s]
/-- what Check says, by P17.1 -/
def taF (kn : Bool) (g s : Int) : Int := if (0 ≤ g ∧ g ≤ 1099511627776) ∧ (0 ≤ s ∧ s ≤ 1099511627776) ∧ (kn = true ∨ s ≤ 3 * g) then 0 else 9
/-- .. and of a number of bytes -/
def taE (kn : Bool) (g s n : Int) : Int := if taF kn g s ≠ 0 then taF kn g s else if 0 ≤ n ∧ n ≤ 400 then 0 else 6
/-- Got, by P17.2 -/
def taG (kn : Bool) (g s n : Int) : Bool × Int × Int × Int := if taE kn g s n ≠ 0 then (false, 0, 0, taE kn g s n) else if 1099511627776 < g + n then (false, 0, 0, 8) else (kn, g + n, s, 0)
/-- Send, by P17.3 -/
def taS (kn : Bool) (g s n : Int) : Bool × Int × Int × Int := if taE kn g s n ≠ 0 then (false, 0, 0, taE kn g s n) else if 1099511627776 < s + n then (false, 0, 0, 8) else if kn = false ∧ 3 * g < s + n then (false, 0, 0, 15) else (kn, g, s + n, 0)
/-- Know, by P17.4 -/
def taK (kn : Bool) (g s : Int) : Bool × Int × Int × Int := if taF kn g s ≠ 0 then (false, 0, 0, taF kn g s) else (true, g, s, 0)
def taR (r : Bool × Int × Int × Int) : Value := .tuple #[taV r.1 r.2.1 r.2.2.1, .int .i64 r.2.2.2]
def TaChk (P : Program) (f : FuncId) : Prop := ∀ (kn : Bool) (g s : Int) (w : World), Calls P f #[taV kn g s] w fun e w' => e = .returned (.int .i64 (taF kn g s)) ∧ Below w.heap.size w w'
def TaRef (P : Program) (f : FuncId) : Prop := ∀ (kn : Bool) (g s n : Int) (w : World), Calls P f #[taV kn g s, .int .i64 n] w fun e w' => e = .returned (.int .i64 (taE kn g s n)) ∧ Below w.heap.size w w'
def TaGot (P : Program) (f : FuncId) : Prop := ∀ (kn : Bool) (g s n : Int) (w : World), Calls P f #[taV kn g s, .int .i64 n] w fun e w' => e = .returned (taR (taG kn g s n)) ∧ Below w.heap.size w w'
def TaSent (P : Program) (f : FuncId) : Prop := ∀ (kn : Bool) (g s n : Int) (w : World), Calls P f #[taV kn g s, .int .i64 n] w fun e w' => e = .returned (taR (taS kn g s n)) ∧ Below w.heap.size w w'
def TaKnow (P : Program) (f : FuncId) : Prop := ∀ (kn : Bool) (g s : Int) (w : World), Calls P f #[taV kn g s] w fun e w' => e = .returned (taR (taK kn g s)) ∧ Below w.heap.size w w'
theorem taF_ok {kn : Bool} {g s : Int} (h : taF kn g s = 0) : (0 ≤ g ∧ g ≤ 1099511627776) ∧ (0 ≤ s ∧ s ≤ 1099511627776) ∧ (kn = true ∨ s ≤ 3 * g) := by unfold taF at h; split at h; assumption; cases h
/-- three cells of a block -/
theorem bk3A {w : World} {b : Nat} {a0 a1 a2 : Value} {T : TypeId} (h : w.heap[b]? = some (.cells #[a0, a1, a2] T (0, 0))) : w.cell? ⟨b, 0, none⟩ = some a0 ∧ w.cell? ⟨b, 1, none⟩ = some a1 ∧ w.cell? ⟨b, 2, none⟩ = some a2 ∧ ∀ i, w.frozen? ⟨b, i, none⟩ = false := ⟨bk_cell h 0, bk_cell h 1, bk_cell h 2, fun i => bk_frz h i⟩
theorem bk3A_put {w : World} {b : Nat} {a0 a1 a2 : Value} {T : TypeId} (h : w.heap[b]? = some (.cells #[a0, a1, a2] T (0, 0))) (v0 v1 v2 : Value) :
    (w.setCell ⟨b, 0, none⟩ v0).cell? ⟨b, 0, none⟩ = some v0 ∧
    ((w.setCell ⟨b, 0, none⟩ v0).setCell ⟨b, 1, none⟩ v1).cell? ⟨b, 1, none⟩ = some v1 ∧
    (((w.setCell ⟨b, 0, none⟩ v0).setCell ⟨b, 1, none⟩ v1).setCell ⟨b, 2, none⟩ v2).cell? ⟨b, 2, none⟩ = some v2 ∧
    (((w.setCell ⟨b, 0, none⟩ v0).setCell ⟨b, 1, none⟩ v1).setCell ⟨b, 2, none⟩ v2).heap[b]? = some (.cells #[v0, v1, v2] T (0, 0)) ∧
    w.grownBy (((w.setCell ⟨b, 0, none⟩ v0).setCell ⟨b, 1, none⟩ v1).setCell ⟨b, 2, none⟩ v2) (some b) := by
  have h0 : (w.setCell ⟨b, 0, none⟩ v0).heap[b]? = some (.cells #[v0, a1, a2] T (0, 0)) := by simpa using bk_set h 0 v0
  have h1 : ((w.setCell ⟨b, 0, none⟩ v0).setCell ⟨b, 1, none⟩ v1).heap[b]? = some (.cells #[v0, v1, a2] T (0, 0)) := by simpa using bk_set h0 1 v1
  have h2 : (((w.setCell ⟨b, 0, none⟩ v0).setCell ⟨b, 1, none⟩ v1).setCell ⟨b, 2, none⟩ v2).heap[b]? = some (.cells #[v0, v1, v2] T (0, 0)) := by simpa using bk_set h1 2 v2
  exact ⟨(bk3A h0).1, (bk3A h1).2.1, (bk3A h2).2.2.1, h2, gr_trans (gr_trans (gr_set _ b 0 v0) (gr_set _ b 1 v1)) (gr_set _ b 2 v2)⟩
end Go.Proofs.Ytpfahdogedchpaa
