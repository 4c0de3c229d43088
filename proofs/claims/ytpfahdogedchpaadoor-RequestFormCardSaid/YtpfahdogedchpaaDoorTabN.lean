/- Rows of fields that lie in new memory; Insert's answer there. Nothing of the program's. -/
import Derived.Test.YtpfahdogedchpaaDoorGrpB
import Derived.Test.YtpfahdogedchpaaDoorGrpC
namespace Go.Proofs.YtpfahdogedchpaaDoor.P
set_option linter.unusedVariables false
open Go.RowKit

/-- a row of fields at a block from lo on -/
def RowN (w : World) (lo : Nat) (A : Option Addr) (l : List Fld) : Prop :=
  0 < l.length → ∃ b off, A = some ⟨b, off, none⟩ ∧ lo ≤ b ∧ b < w.heap.size ∧ ∀ j u, (FdE.cat l)[j]? = some u → w.cell? ⟨b, off + j, none⟩ = some u
theorem RowN.nil (w : World) (lo : Nat) (A : Option Addr) : RowN w lo A [] := fun h => absurd h (by simp)
theorem RowN.row {w : World} {lo : Nat} {A : Option Addr} {l : List Fld} (h : RowN w lo A l) : RowE FdE w w.heap.size A l := fun hn => by
  obtain ⟨b, off, e, _, h2, h3⟩ := h hn
  exact ⟨b, off, e, h2, h3⟩
theorem RowN.low {w : World} {lo lo' : Nat} {A : Option Addr} {l : List Fld} (h : RowN w lo A l) (hl : lo' ≤ lo) : RowN w lo' A l := fun hn => by
  obtain ⟨b, off, e, h1, h2, h3⟩ := h hn
  exact ⟨b, off, e, by omega, h2, h3⟩
theorem RowN.below {w w' : World} {lo : Nat} {A : Option Addr} {l : List Fld} (h : RowN w lo A l) (k : Below w.heap.size w w') : RowN w' lo A l := fun hn => by
  obtain ⟨b, off, e, h1, h2, h3⟩ := h hn
  exact ⟨b, off, e, h1, Nat.lt_of_lt_of_le h2 k.size, fun j u hj => (k.cell (p := ⟨b, off + j, none⟩) h2).trans (h3 j u hj)⟩
/-- elsewhere something turns -/
theorem RowN.gr {w w' : World} {lo : Nat} {A : Option Addr} {l : List Fld} {r : Option Nat} (h : RowN w lo A l) (g : w.grownBy w' r) (hr : ∀ b off, A = some ⟨b, off, none⟩ → 0 < l.length → lo ≤ b → some b ≠ r) : RowN w' lo A l := fun hn => by
  obtain ⟨b, off, e, h1, h2, h3⟩ := h hn
  have k := g.block b h2 (hr b off e hn h1)
  exact ⟨b, off, e, h1, Nat.lt_of_lt_of_le h2 g.size, fun j u hj => (by simp only [World.cell?, k]; exact h3 j u hj)⟩
theorem rowN_own {w : World} {base e n : Nat} {A : Option Addr} {c : Nat} {l : List Fld} (h : OwnE FdE w base e (.slice A n c) l) : RowN w base A l := fun hn => by
  obtain ⟨A', c', hv, _, _, hr⟩ := h.slice
  cases hv
  obtain ⟨b, off, rfl, hb, hc⟩ := hr hn
  exact ⟨b, off, rfl, (h.lt b rfl).1, hb, hc⟩
def TbResN (r : Tb × Int) (w : World) (e : Ending) (w' : World) : Prop := Below w.heap.size w w' ∧ ∃ A c, e = .returned (.tuple #[.agg #[.int .i64 r.1.room, .int .i64 r.1.put, .slice A r.1.rows.length c], .int .i64 r.2]) ∧ r.1.rows.length ≤ c ∧ c ≤ maxLen ∧ RowN w' w.heap.size A r.1.rows
def TbInsN (P : Program) (f : FuncId) : Prop := ∀ (v : Value) (t : Tb) (x : Fld) (w : World), TbVal w w.heap.size v t → TbWf t → FdWf x → Calls P f #[v, fdV x] w (TbResN (insT t x) w)
theorem TbInsN.ins {P : Program} {f : FuncId} (h : TbInsN P f) : TbIns P f := fun v t x w hv hw hx => (h v t x w hv hw hx).mono fun e w' ⟨b, A, c, he, h1, h2, h3⟩ => ⟨b, _, he, _, rfl, A, c, rfl, h1, h2, h3.row⟩
/-- two rows do not lie in one block -/
def ApartN (v : Value) (A : Option Addr) (l : List Fld) : Prop := ∀ k, v.ownBlock = some k → 0 < l.length → ∀ b off, A = some ⟨b, off, none⟩ → b ≠ k
end Go.Proofs.YtpfahdogedchpaaDoor.P
