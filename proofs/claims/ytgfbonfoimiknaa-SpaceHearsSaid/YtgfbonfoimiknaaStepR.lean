/- An append of ranges at one step of a region that draws. Nothing of the program's. -/
import Derived.Test.YtgfbonfoimiknaaGrpB
import Derived.Deep.RegionHeld3
namespace Go.Proofs.Ytgfbonfoimiknaa.P
set_option linter.unusedVariables false
open Go.RowKit

theorem step_appR {P : Program} (w : World) {ops : Array Oper} {o : Oper} {a : Act} {K : Act → World → Prop} {Q : Exit → Act → World → Prop} {E : Prop} (hgd : o.guard = none) (s x : Operand) (t : TypeId)
    (ho : o.op = .call { callee := .builtin .append, args := #[s, x], argTypes := #[t, t] })
    (base : Nat) (e : TypeId) (i : TypeInfo) (z : Value) (ht : P.underlying t = some (.slice e)) (hi : P.info? e = some i) (hz : i.zero = some z) (hsize : i.size = 2) (hby : i.bytes = 16) (hzs : z.cells.size = 2)
    (v : Value) (qs : List (Int × Int)) (hs : a.eval s = v) (hown : OwnR w base e v qs) (B : Nat) (A : Option Addr) (m c : Nat) (zs : List (Int × Int)) (hx : a.eval x = .slice A m c) (hr : RRow w B A zs) (hm : zs.length = m)
    (hbytes : (qs.length + m) * 16 ≤ 140737488355328) (hbase : base ≤ w.heap.size)
    (h : ∀ v' w', OwnR w' base e v' (qs ++ zs) → w.grownBy w' v.ownBlock → K (a.put o.dst v') w') :
    if Region.wanted o (yielded ops a.tmps) = true then Oper.wp P o a w K Q else E := by
  have hw : Region.wanted o (yielded ops a.tmps) = true := by simp [Region.wanted, hgd]
  rw [if_pos hw]
  obtain ⟨v', w', hrun, h2, h3⟩ := run_appR (P := P) w base t o.type e i z ht hi hz hsize hby hzs v qs hown B A m c zs hr hm hbytes hbase
  unfold Oper.wp execOp
  simp only [ho, resolve, invoke, builtin, Sem.run_bind, Sem.run_pure, Result.andThen_ok, List.map_toArray, List.map_cons, List.map_nil, hs, hx, hrun]
  exact h v' w' h2 h3
theorem own_empty (w : World) (base : Nat) (t : TypeId) (hb : base ≤ w.heap.size) : OwnR (w.alloc (.cells #[] t)) base t (.slice (some ⟨w.heap.size, 0, none⟩) 0 0) [] :=
  ⟨rfl, .inr ⟨w.heap.size, 0, #[], rfl, hb, heap_alloc_new w (.cells #[] t), Nat.le_refl _, by unfold maxLen; omega, rfl, rfl⟩⟩
theorem own_empty' (w : World) (base : Nat) (t : TypeId) (k : Nat) (hk : w.heap.size = k) (hb : base ≤ k) : OwnR (w.alloc (.cells #[] t)) base t (.slice (some ⟨k, 0, none⟩) 0 0) [] := by
  subst hk; exact own_empty w base t hb
end Go.Proofs.Ytgfbonfoimiknaa.P
