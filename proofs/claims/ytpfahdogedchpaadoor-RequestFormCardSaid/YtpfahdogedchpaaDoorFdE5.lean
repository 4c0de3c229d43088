/- The project's writers of fields: refer. -/
import Derived.Test.YtpfahdogedchpaaDoorGrpK
import Derived.Test.YtpfahdogedchpaaDoorGrpY
import Derived.Test.YtpfahdogedchpaaDoorTabFind
import Derived.Laws.MakeOwn
import Derived.Laws.OwnMore
namespace Go.Proofs.YtpfahdogedchpaaDoor.P
set_option linter.unusedVariables false
open Go.RowKit
/-- a row of fields lies in no block of numbers -/
theorem FSl.grI {w w' : World} {B : Nat} {v : Value} {l : List Fld} {k : Nat} {cs : Array Value} {T : TypeId} (h : FSl w B v l) (hk : w.heap[k]? = some (.cells cs T (0, 0))) (hi : ∀ (j : Nat) (u : Value), cs[j]? = some u → ∃ z, u = .int .i64 z) (g : w.grownBy w' (some k)) : FSl w' B v l := by
  obtain ⟨A, cp, e, h1, h2, h3⟩ := h.ex
  refine ⟨A, cp, e, h1, h2, fun hn => ?_⟩
  obtain ⟨b, off, e', hb, hc⟩ := h3 hn
  refine ⟨b, off, e', hb, fun j u hj => g.cell (hc j u hj) ?_⟩
  intro q
  cases q
  have := RowE.at hc 0 0 hn (by decide)
  rw [bk_cell hk] at this
  obtain ⟨z, hz⟩ := hi _ _ this
  cases hz
theorem TbVal.grI {w w' : World} {B : Nat} {v : Value} {t : Tb} {k : Nat} {cs : Array Value} {T : TypeId} (h : TbVal w B v t) (hk : w.heap[k]? = some (.cells cs T (0, 0))) (hi : ∀ (j : Nat) (u : Value), cs[j]? = some u → ∃ z, u = .int .i64 z) (g : w.grownBy w' (some k)) : TbVal w' B v t := by
  obtain ⟨s, e, h1⟩ := h.ex
  exact ⟨s, e, h1.grI hk hi g⟩
/-- a block of n numbers, of which the first are as said -/
structure NumI (w : World) (q n : Nat) (T : TypeId) (ns : List Int) : Prop where
  ex : ∃ cs : Array Value, w.heap[q]? = some (.cells cs T (0, 0)) ∧ cs.size = n ∧ (∀ (j : Nat) (u : Value), cs[j]? = some u → ∃ z, u = .int .i64 z) ∧ ∀ j, j < ns.length → cs[j]? = some (.int .i64 (ns.getD j 0))
theorem NumI.lt {w : World} {q n : Nat} {T : TypeId} {ns : List Int} (h : NumI w q n T ns) : q < w.heap.size := by
  obtain ⟨cs, h1, _⟩ := h.ex
  exact lt_of_block h1
theorem NumI.keep {w w' : World} {q n : Nat} {T : TypeId} {ns : List Int} (h : NumI w q n T ns) (hk : w'.heap[q]? = w.heap[q]?) : NumI w' q n T ns := by
  obtain ⟨cs, h1, h2⟩ := h.ex
  exact ⟨cs, hk.trans h1, h2⟩
theorem NumI.less {w : World} {q n : Nat} {T : TypeId} {ns ms : List Int} (h : NumI w q n T (ns ++ ms)) : NumI w q n T ns := by
  obtain ⟨cs, h1, h2, h3, h4⟩ := h.ex
  refine ⟨cs, h1, h2, h3, fun j hj => ?_⟩
  rw [h4 j (by rw [List.length_append]; omega), List.getD_eq_getElem?_getD, List.getElem?_append_left hj, ← List.getD_eq_getElem?_getD]
theorem NumI.frz {w : World} {q n : Nat} {T : TypeId} {ns : List Int} (h : NumI w q n T ns) : ∀ j, w.frozen? ⟨q, j, none⟩ = false := by
  obtain ⟨cs, h1, _⟩ := h.ex
  exact fun j => bk_frz h1 j
theorem NumI.old {w : World} {q n : Nat} {T : TypeId} {ns : List Int} (h : NumI w q n T ns) (i : Nat) (hi : i < n) : ∃ u, w.cell? ⟨q, i, none⟩ = some u := by
  obtain ⟨cs, h1, h2, _⟩ := h.ex
  exact ⟨cs[i]'(by omega), by rw [bk_cell h1, Array.getElem?_eq_getElem (by omega)]⟩
theorem NumI.put {w : World} {q n : Nat} {T : TypeId} {ns : List Int} (h : NumI w q n T ns) (i : Nat) (x : Int) (e : ns.length = i) (hi : i < n) : NumI (w.setCell ⟨q, i, none⟩ (.int .i64 x)) q n T (ns ++ [x]) := by
  obtain ⟨cs, h1, h2, h3, h4⟩ := h.ex
  refine ⟨_, bk_set h1 i _, by simpa using h2, fun j u hu => ?_, fun j hj => ?_⟩
  · rw [Array.getElem?_setIfInBounds] at hu
    split at hu
    · split at hu
      · cases hu; exact ⟨_, rfl⟩
      · cases hu
    · exact h3 j u hu
  · rw [Array.getElem?_setIfInBounds]
    rw [List.length_append, List.length_singleton] at hj
    by_cases c : i = j
    · subst c
      rw [if_pos rfl, if_pos (by omega), List.getD_eq_getElem?_getD, List.getElem?_append_right (by omega)]
      simp [e]
    · rw [if_neg c, h4 j (by omega), List.getD_eq_getElem?_getD, List.getD_eq_getElem?_getD, List.getElem?_append_left (by omega)]
theorem NumI.cell {w : World} {q n : Nat} {T : TypeId} {ns : List Int} (h : NumI w q n T ns) : NCell w q ns := by
  obtain ⟨cs, h1, h2, h3, h4⟩ := h.ex
  exact ⟨lt_of_block h1, fun j hj => by rw [bk_cell h1]; exact h4 j hj⟩
/-- the numbers that fields are referred to by; below 0: none -/
def refsN (r : List (Option Int)) : List Int := r.map (fun x => match x with | none => -1 | some n => n)
theorem refsN_app (r s : List (Option Int)) : refsN (r ++ s) = refsN r ++ refsN s := List.map_append
theorem refsN_len (r : List (Option Int)) : (refsN r).length = r.length := List.length_map _
theorem insT_may {t : Tb} {f : Fld} (h0 : faultTb t = 0) (ok : okFd f) (ahead : Bool) (hm : mayT t f ahead = true) : (insT t f).2 = 0 ∧ faultTb (insT t f).1 = 0 := by
  have okt := (faultTb_iff t).1 h0
  have hw := wtL_len t.rows
  unfold mayT at hm
  rw [Bool.and_eq_true, Bool.and_eq_true, Bool.not_eq_true', Bool.not_eq_true', decide_eq_false_iff_not, decide_eq_false_iff_not] at hm
  have h2 : (insT t f).2 = 0 := by
    unfold insT
    rw [if_neg (by rw [h0]; simp), if_neg (by simp [ok]), if_neg (by omega), if_neg (by omega)]
  exact ⟨h2, (faultTb_iff _).2 (insT_ok h2).1⟩
end Go.Proofs.YtpfahdogedchpaaDoor.P
namespace Go.Proofs.YtpfahdogedchpaaDoor
set_option linter.unusedVariables false
open Go.RowKit P

theorem infoI1 : (Tryd.prog.info? 3).map (fun i => (i.zero, i.size, i.bytes)) = some (some (.int .i64 0), 1, 8) := by kernel_rfl
theorem make_int (m : Nat) (hm : m ≤ 1000) (w : World) : (Instr.makeSlice 78 (.int .i64 (m : Int)) (.int .i64 (m : Int))).run Tryd.prog w = .ok (.slice (some ⟨w.heap.size, 0, none⟩) m m) (w.alloc (.cells (madeCells #[.int .i64 0] m) 3)) := by
  obtain ⟨i0, hi0, hp0⟩ : ∃ i0, Tryd.prog.info? 3 = some i0 ∧ (i0.zero, i0.size, i0.bytes) = (some (.int .i64 0), 1, 8) := by
    have := infoI1
    cases q : Tryd.prog.info? 3 with
    | none => rw [q] at this; cases this
    | some i => rw [q] at this; exact ⟨i, rfl, by simpa using this⟩
  have hz0 : i0.zero = some (.int .i64 0) := congrArg (·.1) hp0
  have hz1 : i0.size = 1 := congrArg (·.2.1) hp0
  have hz2 : i0.bytes = 8 := congrArg (·.2.2) hp0
  have h := run_make (P := Tryd.prog) w 78 3 i0 (.int .i64 0) Tryd.underlying78 hi0 hz0 .i64 .i64 (m : Int) (m : Int) (by omega) (Int.le_refl _) (by rw [hz2]; omega) (by omega)
  rw [hz1, Nat.mul_one, Int.toNat_natCast] at h
  exact h
theorem numI_zero (w : World) (n : Nat) (hn : n ≤ 1000) : NumI (w.alloc (.cells (madeCells #[.int .i64 0] n) 3)) w.heap.size n 3 [] := by
  have ht : (madeCells #[Value.int .i64 0] n).toList = List.replicate n (Value.int .i64 0) := toList_madeCells_one _ _
  refine ⟨_, heap_alloc_new w _, ?_, fun j u hu => ?_, fun j hj => by simp at hj⟩
  · rw [← Array.length_toList, ht, List.length_replicate]
  · rw [← Array.getElem?_toList, ht, List.getElem?_replicate] at hu
    split at hu
    · cases hu; exact ⟨0, rfl⟩
    · cases hu
/-- what holds in the midst of refer: the table in its box, the answer's box, the numbers, what is told -/
structure RfK (W : World) (q n : Nat) (oZ oY : Obj) (v : Value) (t : Tb) (ns : List Int) (tv : Value) (tell : List Int) (w : World) : Prop where
  k : TKA W oZ oY v t w
  n : NumI w q n 3 ns
  r : TRow w (q + 1) 5 tv tell
  q : W.heap.size + 2 ≤ q
theorem RfK.later {W : World} {q n : Nat} {oZ oY : Obj} {v : Value} {t : Tb} {ns : List Int} {tv : Value} {tell : List Int} {w w' : World} (h : RfK W q n oZ oY v t ns tv tell w) (b : Below w.heap.size w w') : RfK W q n oZ oY v t ns tv tell w' :=
  ⟨h.k.later b, h.n.keep (b.block _ h.n.lt), trow_below h.r b, h.q⟩
theorem RfK.setN {W : World} {q n : Nat} {oZ oY : Obj} {v : Value} {t : Tb} {ns : List Int} {tv : Value} {tell : List Int} {w : World} {ms : List Int} (h : RfK W q n oZ oY v t (ns ++ ms) tv tell w) (x : Int) (i : Nat) (e : ns.length = i) (hi : i < n) :
    RfK W q n oZ oY v t (ns ++ [x]) tv tell (w.setCell ⟨q, i, none⟩ (.int .i64 x)) ∧ w.grownBy (w.setCell ⟨q, i, none⟩ (.int .i64 x)) (some q) := by
  have g := gr_set w q i (.int .i64 x)
  obtain ⟨cs, h1, _, h3, _⟩ := h.n.ex
  have hq := h.q
  refine ⟨⟨⟨(g.block _ (lt_of_block h.k.z) (by simp; omega)).trans h.k.z, (g.block _ (lt_of_block h.k.y) (by simp; omega)).trans h.k.y, h.k.b.grown g h.k.b.size (fun k e => by cases e; omega), (h.k.v.grI h1 h3 g).more g.size⟩, h.n.less.put i x e hi, trow_gr h.r g (fun e => by have := (trow_lt h.r _ e).1; omega), h.q⟩, g⟩
end Go.Proofs.YtpfahdogedchpaaDoor
