/- A sender as a value: eight cells, three of them rows; what is asked of the functions of P10. -/
import Derived.Test.YtkmkcpjmhcpjpaaGrpB
import Derived.Test.YtkmkcpjmhcpjpaaSnMath
namespace Go.Proofs.Ytkmkcpjmhcpjpaa.P
set_option linter.unusedVariables false
open Go.RowKit

def snV (s : Sn) (d l a : Value) : Value := .agg #[d, .bool s.fin, .int .i64 s.next, .int .i64 s.mx, l, a, .bool s.ended, .bool s.over]
/-- v says the sender s; its rows lie below block B -/
structure SnVal (w : World) (B : Nat) (v : Value) (s : Sn) : Prop where
  ex : ∃ d l a, v = .agg #[d, .bool s.fin, .int .i64 s.next, .int .i64 s.mx, l, a, .bool s.ended, .bool s.over] ∧ BSl w B d s.data ∧ RSl w B l s.lost ∧ RSl w B a s.acked
theorem SnVal.below {w w' : World} {B : Nat} {v : Value} {s : Sn} (h : SnVal w B v s) (hb : Below B w w') : SnVal w' B v s := by
  obtain ⟨d, l, a, rfl, h1, h2, h3⟩ := h.ex
  exact ⟨d, l, a, rfl, h1.below hb, h2.below hb, h3.below hb⟩
theorem SnVal.more {w : World} {B B' : Nat} {v : Value} {s : Sn} (h : SnVal w B v s) (hB : B ≤ B') : SnVal w B' v s := by
  obtain ⟨d, l, a, rfl, h1, h2, h3⟩ := h.ex
  exact ⟨d, l, a, rfl, h1.more hB, h2.more hB, h3.more hB⟩
theorem SnVal.on {w w' : World} {v : Value} {s : Sn} (h : SnVal w w.heap.size v s) (hb : Below w.heap.size w w') : SnVal w' w'.heap.size v s := (h.below hb).more hb.size
theorem SnVal.nil (w : World) (B : Nat) : SnVal w B (.agg #[.slice none 0 0, .bool false, .int .i64 0, .int .i64 0, .slice none 0 0, .slice none 0 0, .bool false, .bool false]) sn0 :=
  ⟨_, _, _, rfl, BSl.nil _ _, RSl.nil _ _, RSl.nil _ _⟩
/-- its numbers fit, and it is no larger than so much -/
structure SnWf (s : Sn) : Prop where
  next : (Lit.int .i64 s.next).wf = true
  mx : (Lit.int .i64 s.mx).wf = true
  dl : s.data.length ≤ 1048576
  ll : s.lost.length ≤ 1048576
  al : s.acked.length ≤ 1048576
/-- an answer: a sender and an error -/
def SnRes (r : Sn × Int) (w : World) (e : Ending) (w' : World) : Prop := Below w.heap.size w w' ∧ ∃ v, e = .returned (.tuple #[v, .int .i64 r.2]) ∧ SnVal w' w'.heap.size v r.1
def SnPcRes (r : Sn × Fr × Bool × Int) (w : World) (e : Ending) (w' : World) : Prop := Below w.heap.size w w' ∧ ∃ v u, e = .returned (.tuple #[v, u, .bool r.2.2.1, .int .i64 r.2.2.2]) ∧ SnVal w' w'.heap.size v r.1 ∧ FrVal w' w'.heap.size u r.2.1
def SnChk (P : Program) (f : FuncId) : Prop := ∀ (v : Value) (s : Sn) (w : World), SnVal w w.heap.size v s → SnWf s → Calls P f #[v] w fun e w' => e = .returned (.int .i64 (faultSn s)) ∧ Below w.heap.size w w'
def SnOv (P : Program) (f : FuncId) : Prop := ∀ (v : Value) (s : Sn) (w : World), SnVal w w.heap.size v s → SnWf s → Calls P f #[v] w fun e w' => e = .returned (.tuple #[.bool (overS s).1, .int .i64 (overS s).2]) ∧ Below w.heap.size w w'
def SnWr (P : Program) (f : FuncId) : Prop := ∀ (v v2 : Value) (s : Sn) (b : List Int) (fin : Bool) (w : World), SnVal w w.heap.size v s → SnWf s → BSl w w.heap.size v2 b → b.length ≤ 1048576 → Calls P f #[v, v2, .bool fin] w (SnRes (wrS s b fin) w)
def SnGr (P : Program) (f : FuncId) : Prop := ∀ (v : Value) (s : Sn) (n : Int) (w : World), SnVal w w.heap.size v s → SnWf s → Calls P f #[v, .int .i64 n] w (SnRes (grS s n) w)
def SnPc (P : Program) (f : FuncId) : Prop := ∀ (v : Value) (s : Sn) (room credit : Int) (w : World), SnVal w w.heap.size v s → SnWf s → Calls P f #[v, .int .i64 room, .int .i64 credit] w (SnPcRes (pieceS s room credit) w)
def SnHd (P : Program) (f : FuncId) : Prop := ∀ (v : Value) (s : Sn) (off n : Int) (fin : Bool) (w : World), SnVal w w.heap.size v s → SnWf s → -9223372036854775808 ≤ n ∧ n ≤ 9223372036854775807 → Calls P f #[v, .int .i64 off, .int .i64 n, .bool fin] w (SnRes (heardS s off n fin) w)
def SnLs (P : Program) (f : FuncId) : Prop := ∀ (v : Value) (s : Sn) (off n : Int) (fin : Bool) (w : World), SnVal w w.heap.size v s → SnWf s → -9223372036854775808 ≤ n ∧ n ≤ 9223372036854775807 → Calls P f #[v, .int .i64 off, .int .i64 n, .bool fin] w (SnRes (loseS s off n fin) w)
end Go.Proofs.Ytkmkcpjmhcpjpaa.P
