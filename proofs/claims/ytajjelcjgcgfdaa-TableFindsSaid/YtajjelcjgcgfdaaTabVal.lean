/- Tables of fields in memory; what is asked of package table's functions. Nothing of the program's. -/
import Derived.Test.YtajjelcjgcgfdaaTabMath
import Derived.Test.YtajjelcjgcgfdaaRowE
import Derived.Test.YtajjelcjgcgfdaaFrVal
import Derived.Test.YtajjelcjgcgfdaaStr
namespace Go.Proofs.Ytajjelcjgcgfdaa.P
set_option linter.unusedVariables false
open Go.RowKit

/-- a field lies as two strings -/
def FdE : Lay Fld where
  f x := [.string (strOfNums x.name), .string (strOfNums x.val)]
  k := 2
  len _ := rfl
  one x u hu := by
    simp only [List.mem_cons, List.not_mem_nil, or_false] at hu
    rcases hu with rfl | rfl <;> rfl
  pos := by decide
def fdV (x : Fld) : Value := .agg #[.string (strOfNums x.name), .string (strOfNums x.val)]
/-- its bytes are bytes, and lie in memory -/
def FdWf (x : Fld) : Prop := Byt x.name ∧ Byt x.val ∧ x.name.length ≤ 140737488355328 ∧ x.val.length ≤ 140737488355328
theorem fdWf0 : FdWf fd0 := ⟨Byt.nil, Byt.nil, by decide, by decide⟩
/-- a value that says a row of fields -/
structure FSl (w : World) (B : Nat) (v : Value) (l : List Fld) : Prop where
  ex : ∃ A c, v = .slice A l.length c ∧ l.length ≤ c ∧ c ≤ maxLen ∧ RowE FdE w B A l
theorem FSl.below {w w' : World} {B : Nat} {v : Value} {l : List Fld} (h : FSl w B v l) (hb : Below B w w') : FSl w' B v l := by
  obtain ⟨A, c, e, h1, h2, h3⟩ := h.ex
  exact ⟨A, c, e, h1, h2, h3.below hb⟩
theorem FSl.more {w : World} {B B' : Nat} {v : Value} {l : List Fld} (h : FSl w B v l) (hB : B ≤ B') : FSl w B' v l := by
  obtain ⟨A, c, e, h1, h2, h3⟩ := h.ex
  exact ⟨A, c, e, h1, h2, h3.more hB⟩
theorem FSl.on {w w' : World} {v : Value} {l : List Fld} (h : FSl w w.heap.size v l) (hb : Below w.heap.size w w') : FSl w' w'.heap.size v l := (h.below hb).more hb.size
theorem FSl.nil (w : World) (B : Nat) : FSl w B (.slice none 0 0) [] := ⟨none, 0, rfl, Nat.le_refl _, by unfold maxLen; omega, RowE.nil _ _ _⟩
theorem fsl_own {w : World} {base e : Nat} {v : Value} {l : List Fld} (h : OwnE FdE w base e v l) : FSl w w.heap.size v l := by
  obtain ⟨A, c, e, h1, h2, h3⟩ := h.slice
  exact ⟨A, c, e, h1, h2, h3⟩
/-- a value that says a table -/
structure TbVal (w : World) (B : Nat) (v : Value) (t : Tb) : Prop where
  ex : ∃ s, v = .agg #[.int .i64 t.room, .int .i64 t.put, s] ∧ FSl w B s t.rows
theorem TbVal.below {w w' : World} {B : Nat} {v : Value} {t : Tb} (h : TbVal w B v t) (hb : Below B w w') : TbVal w' B v t := by
  obtain ⟨s, e, h1⟩ := h.ex
  exact ⟨s, e, h1.below hb⟩
theorem TbVal.on {w w' : World} {v : Value} {t : Tb} (h : TbVal w w.heap.size v t) (hb : Below w.heap.size w w') : TbVal w' w'.heap.size v t := by
  obtain ⟨s, e, h1⟩ := h.ex
  exact ⟨s, e, h1.on hb⟩
theorem TbVal.zero (w : World) (B : Nat) : TbVal w B (.agg #[.int .i64 0, .int .i64 0, .slice none 0 0]) tb0 := ⟨_, rfl, FSl.nil _ _⟩
/-- its numbers fit, its bytes are bytes -/
structure TbWf (t : Tb) : Prop where
  room : -9223372036854775808 ≤ t.room ∧ t.room ≤ 9223372036854775807
  put : -9223372036854775808 ≤ t.put ∧ t.put ≤ 9223372036854775807
  len : t.rows.length ≤ 8796093022208
  rows : ∀ x ∈ t.rows, FdWf x
/-- answers: a table and an error; a field and an error -/
def TbRes (r : Tb × Int) (w : World) (e : Ending) (w' : World) : Prop := Below w.heap.size w w' ∧ ∃ v, e = .returned (.tuple #[v, .int .i64 r.2]) ∧ TbVal w' w'.heap.size v r.1
def TbChk (P : Program) (f : FuncId) : Prop := ∀ (v : Value) (t : Tb) (w : World), TbVal w w.heap.size v t → TbWf t → Calls P f #[v] w fun e w' => e = .returned (.int .i64 (faultTb t)) ∧ Below w.heap.size w w'
def TbIns (P : Program) (f : FuncId) : Prop := ∀ (v : Value) (t : Tb) (x : Fld) (w : World), TbVal w w.heap.size v t → TbWf t → FdWf x → Calls P f #[v, fdV x] w (TbRes (insT t x) w)
def TbSiz (P : Program) (f : FuncId) : Prop := ∀ (v : Value) (t : Tb) (n : Int) (w : World), TbVal w w.heap.size v t → TbWf t → Calls P f #[v, .int .i64 n] w (TbRes (resT t n) w)
def TbGet (P : Program) (f : FuncId) : Prop := ∀ (v : Value) (t : Tb) (n : Int) (w : World), TbVal w w.heap.size v t → TbWf t → -9223372036854775808 ≤ n ∧ n ≤ 9223372036854775807 → Calls P f #[v, .int .i64 n] w fun e w' => Below w.heap.size w w' ∧ e = .returned (.tuple #[fdV (getT t n).1, .int .i64 (getT t n).2])
def TbFin (P : Program) (f : FuncId) : Prop := ∀ (v : Value) (t : Tb) (x : Fld) (w : World), TbVal w w.heap.size v t → TbWf t → FdWf x → Calls P f #[v, fdV x] w fun e w' => Below w.heap.size w w' ∧ e = .returned (.tuple #[.int .i64 (finT t x).1, .bool (finT t x).2.1, .int .i64 (finT t x).2.2])
/-- a field's two cells in a row -/
theorem fd_cells {w : World} {B : Nat} {A : Option Addr} {l : List Fld} (h : RowE FdE w B A l) {i : Nat} (hi : i < l.length) : ∃ b off, A = some ⟨b, off, none⟩ ∧ b < B ∧ w.cell? ⟨b, off + i * 2, none⟩ = some (.string (strOfNums (l.getD i fd0).name)) ∧ w.cell? ⟨b, off + i * 2 + 1, none⟩ = some (.string (strOfNums (l.getD i fd0).val)) := by
  obtain ⟨b, off, e, hb, hc⟩ := h (by omega)
  have g : l.getD i fd0 = l[i] := by rw [List.getD_eq_getElem?_getD, List.getElem?_eq_getElem hi]; rfl
  refine ⟨b, off, e, hb, ?_, ?_⟩
  · have := RowE.at hc i 0 hi (by decide)
    rw [g]; exact this
  · have := RowE.at hc i 1 hi (by decide)
    rw [g]; exact this
end Go.Proofs.Ytajjelcjgcgfdaa.P
