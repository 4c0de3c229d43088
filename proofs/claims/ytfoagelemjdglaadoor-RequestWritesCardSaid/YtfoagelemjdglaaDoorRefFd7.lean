/- The document's FieldsBytes: a map of numbers, what lies in memory, strings of numbers behind bits. -/
import Derived.Test.YtfoagelemjdglaaDoorFdEnc
import Derived.Test.YtfoagelemjdglaaDoorGrpC
import Derived.Maps.RangeWalk
import Derived.Maps.OwnOps
import Derived.Maps.OwnSet
import Derived.DataShut
namespace Go.Proofs.YtfoagelemjdglaaDoor.P
set_option linter.unusedVariables false
open Go.RowKit

abbrev kyN (x : Int) : Lit := .int .i64 x
theorem kyN_key (x : Int) : WideAt.IsKeyLit (kyN x) := trivial
theorem kyN_ne {x y : Int} (h : x ≠ y) : kyN x ≠ kyN y := fun e => h (by cases e; rfl)
/-- what a map's reading says: f -/
structure MapN (D : DataW Unit) (f : Int → Option Int) : Prop where
  map : Maps.IsMap D
  no : ∀ x, f x = none → Maps.has D (kyN x) = false
  yes : ∀ x c, f x = some c → Maps.has D (kyN x) = true ∧ ∀ z, D.atKey (kyN x) z = .lit (.int .i64 c)
theorem MapN.empty : MapN (.map [] : DataW Unit) (fun _ => none) := ⟨Maps.isMap_empty, fun x _ => rfl, fun x c h => by cases h⟩
theorem MapN.put {D : DataW Unit} {f : Int → Option Int} (h : MapN D f) (x c : Int) : MapN (D.put (kyN x) (.lit (.int .i64 c))) (fun y => if y = x then some c else f y) := by
  refine ⟨h.map.put _ _, fun y hy => ?_, fun y d hy => ?_⟩
  · by_cases e : y = x
    · simp [e] at hy
    · rw [if_neg e] at hy
      rw [Maps.has_put_other (kyN_ne e)]
      exact h.no y hy
  · by_cases e : y = x
    · subst e
      simp at hy
      subst hy
      exact ⟨Maps.has_put_same h.map (kyN_key _) _, fun z => Maps.atKey_put_same h.map (kyN_key _) _ z⟩
    · rw [if_neg e] at hy
      rw [Maps.has_put_other (kyN_ne e)]
      exact ⟨(h.yes y d hy).1, fun z => by rw [Maps.atKey_put_other (kyN_ne e)]; exact (h.yes y d hy).2 z⟩
theorem MapN.congr {D : DataW Unit} {f g : Int → Option Int} (h : MapN D f) (e : ∀ x, f x = g x) : MapN D g := ⟨h.map, fun x hx => h.no x (by rw [e, hx]), fun x c hx => h.yes x c (by rw [e, hx])⟩
theorem MapN.has {D : DataW Unit} {f : Int → Option Int} (h : MapN D f) (x : Int) : Maps.has D (kyN x) = (f x).isSome := by
  cases hf : f x with
  | none => rw [h.no x hf]; rfl
  | some c => rw [(h.yes x c hf).1]; rfl
/-- the numbers by place, as a map has them -/
def fR (rs : List (Option Int)) (x : Int) : Option Int := if 0 ≤ x then rs.getD x.toNat none else none
theorem fR_nil (x : Int) : fR [] x = none := by unfold fR; split <;> simp
theorem fR_none (rs : List (Option Int)) (x : Int) : fR (rs ++ [none]) x = fR rs x := by
  unfold fR
  split
  · rw [List.getD_eq_getElem?_getD, List.getD_eq_getElem?_getD, List.getElem?_append]
    split
    · rfl
    · rw [List.getElem?_eq_none (by omega : rs.length ≤ x.toNat)]
      rcases Nat.eq_zero_or_pos (x.toNat - rs.length) with q | q
      · rw [q]; rfl
      · rw [List.getElem?_eq_none (by simp; omega)]
  · rfl
theorem fR_some (rs : List (Option Int)) (n : Int) (i : Nat) (h : rs.length = i) (x : Int) : (if x = (i : Int) then some n else fR rs x) = fR (rs ++ [some n]) x := by
  unfold fR
  by_cases e : x = (i : Int)
  · subst e
    rw [if_pos rfl, if_pos (by omega), List.getD_eq_getElem?_getD, List.getElem?_append_right (by omega)]
    simp [h]
  · rw [if_neg e]
    by_cases k : 0 ≤ x
    · rw [if_pos k, if_pos k, List.getD_eq_getElem?_getD, List.getD_eq_getElem?_getD, List.getElem?_append]
      split
      · rfl
      · rw [List.getElem?_eq_none (by omega : rs.length ≤ x.toNat), List.getElem?_eq_none (by simp; omega)]
    · rw [if_neg k, if_neg k]
theorem fR_at (rs : List (Option Int)) (k : Nat) : fR rs (k : Int) = rs.getD k none := by
  unfold fR
  rw [if_pos (by omega), Int.toNat_natCast]
/-- a row of fields lies in no block of a map -/
theorem FSl.grM {w w' : World} {B : Nat} {v : Value} {l : List Fld} {k : Nat} (h : FSl w B v l) (hk : ∀ o, w.cell? ⟨k, o, none⟩ = none) (g : w.grownBy w' (some k)) : FSl w' B v l := by
  obtain ⟨A, cp, e, h1, h2, h3⟩ := h.ex
  refine ⟨A, cp, e, h1, h2, fun hn => ?_⟩
  obtain ⟨b, off, e', hb, hc⟩ := h3 hn
  refine ⟨b, off, e', hb, fun j u hj => g.cell (hc j u hj) ?_⟩
  intro q
  cases q
  have := hc j u hj
  rw [hk] at this
  cases this
theorem TbVal.grM {w w' : World} {B : Nat} {v : Value} {t : Tb} {k : Nat} (h : TbVal w B v t) (hk : ∀ o, w.cell? ⟨k, o, none⟩ = none) (g : w.grownBy w' (some k)) : TbVal w' B v t := by
  obtain ⟨s, e, h1⟩ := h.ex
  exact ⟨s, e, h1.grM hk g⟩
theorem row_one {w : World} {B b off : Nat} {f : Fld} (hb : b < B) (x0 : w.cell? ⟨b, off, none⟩ = some (.string (strOfNums f.name))) (x1 : w.cell? ⟨b, off + 1, none⟩ = some (.string (strOfNums f.val))) : RowE FdE w B (some ⟨b, off, none⟩) [f] := fun _ => ⟨b, off, rfl, hb, fun j u hj => by
  have e : FdE.cat [f] = [.string (strOfNums f.name), .string (strOfNums f.val)] := rfl
  rw [e] at hj
  match j, hj with
  | 0, hj => cases hj; exact x0
  | 1, hj => cases hj; exact x1⟩
/-- the lines that are left -/
theorem zip_drop (need : Int) {l : List Fld} {rs : List (Option Int)} {k : Nat} (h1 : k < l.length) (h2 : k < rs.length) : (((l.drop k).zip (rs.drop k)).map (fun q => lineT need q.1 q.2)).flatten = lineT need (l.getD k fd0) (rs.getD k none) ++ (((l.drop (k + 1)).zip (rs.drop (k + 1))).map (fun q => lineT need q.1 q.2)).flatten := by
  rw [List.drop_eq_getElem_cons h1, List.drop_eq_getElem_cons h2, List.zip_cons_cons, List.map_cons, List.flatten_cons]
  simp [List.getD_eq_getElem?_getD, List.getElem?_eq_getElem h1, List.getElem?_eq_getElem h2]
end Go.Proofs.YtfoagelemjdglaaDoor.P
namespace Go.Proofs.YtfoagelemjdglaaDoor
set_option linter.unusedVariables false
open Go.RowKit P

theorem zeroIN (w : World) : (zeroValue 3).run Tryd.prog w = .ok (.int .i64 0) w := by kernel_rfl
/-- what holds in the midst of FieldsBytes: the table in its box, the answer's box, the map -/
structure RbK (W : World) (M n : Nat) (oZ oY : Obj) (v : Value) (t : Tb) (rs : List (Option Int)) (w : World) : Prop where
  k : TKA W oZ oY v t w
  m : ∃ D : DataW Unit, w.ownsMap Tryd.prog 3 (plainElem Tryd.prog 3) M n D ∧ MapN D (fR rs)
  o : ∀ j, w.cell? ⟨M, j, none⟩ = none
  lo : W.heap.size + 2 ≤ M
theorem RbK.lt {W : World} {M n : Nat} {oZ oY : Obj} {v : Value} {t : Tb} {rs : List (Option Int)} {w : World} (h : RbK W M n oZ oY v t rs w) : M < w.heap.size := by
  obtain ⟨D, o, _⟩ := h.m
  exact o.lt
theorem RbK.later {W : World} {M n : Nat} {oZ oY : Obj} {v : Value} {t : Tb} {rs : List (Option Int)} {w w' : World} (h : RbK W M n oZ oY v t rs w) (b : Below w.heap.size w w') : RbK W M n oZ oY v t rs w' := by
  have hl := h.lt
  obtain ⟨D, o, m⟩ := h.m
  refine ⟨h.k.later b, ⟨D, ?_, m⟩, fun j => (b.cell (p := ⟨M, j, none⟩) hl).trans (h.o j), h.lo⟩
  obtain ⟨es, clock, h1, h2⟩ := o
  exact ⟨es, clock, (b.block _ hl).trans h1, h2⟩
theorem RbK.none {W : World} {M n : Nat} {oZ oY : Obj} {v : Value} {t : Tb} {rs : List (Option Int)} {w : World} (h : RbK W M n oZ oY v t rs w) : RbK W M (n + 1) oZ oY v t (rs ++ [.none]) w := by
  obtain ⟨D, o, m⟩ := h.m
  exact ⟨h.k, ⟨D, o.mono (Nat.le_succ _), m.congr (fun x => (fR_none rs x).symm)⟩, h.o, h.lo⟩
theorem RbK.store {W : World} {M n : Nat} {oZ oY : Obj} {v : Value} {t : Tb} {rs : List (Option Int)} {w w' : World} {D : DataW Unit} {z : Int} {i : Nat} (h : RbK W M n oZ oY v t rs w) (e : rs.length = i) (hm : MapN D (fR rs)) (o : w'.ownsMap Tryd.prog 3 (plainElem Tryd.prog 3) M (n + 1) (D.put (kyN (i : Int)) (.lit (.int .i64 z)))) (g : w.grownBy w' (some M)) : RbK W M (n + 1) oZ oY v t (rs ++ [some z]) w' := by
  have lo := h.lo
  refine ⟨⟨(g.block _ (lt_of_block h.k.z) (by simp; omega)).trans h.k.z, (g.block _ (lt_of_block h.k.y) (by simp; omega)).trans h.k.y, h.k.b.grown g h.k.b.size (fun k e => by cases e; omega), (h.k.v.grM h.o g).more g.size⟩, ⟨_, o, (hm.put (i : Int) z).congr (fun x => fR_some rs z i e x)⟩, fun j => ?_, lo⟩
  obtain ⟨es, clock, h1, _⟩ := o
  simp [World.cell?, h1]
theorem RbK.setZ {W : World} {M n : Nat} {oY : Obj} {v v' : Value} {t t' : Tb} {rs : List (Option Int)} {w w' : World} {a0 a1 : Int} {p : Option Addr} {m c : Nat} {T : TypeId} {oZ' : Obj} (h : RbK W M n (.cells #[.int .i64 a0, .int .i64 a1, .slice p m c] T (0, 0)) oY v t rs w) (hz : w'.heap[W.heap.size]? = some oZ') (g : w.grownBy w' (some W.heap.size)) (hv : TbVal w w.heap.size v' t') : RbK W M n oZ' oY v' t' rs w' := by
  have lo := h.lo
  obtain ⟨D, o, m⟩ := h.m
  exact ⟨h.k.set hz g hv, ⟨D, o.kept g (by simp; omega), m⟩, fun j => (by have := g.block M o.lt (by simp; omega); simp only [World.cell?, this]; exact h.o j), lo⟩
theorem wfN {x : Int} (h0 : -9223372036854775808 ≤ x) (h1 : x ≤ 9223372036854775807) : (Lit.int .i64 x).wf = true := by
  have a1 : IntKind.i64.min = -9223372036854775808 := by kernel_rfl
  have a2 : IntKind.i64.max = 9223372036854775807 := by kernel_rfl
  rw [Lit.wf_int_iff, a1, a2]
  omega
/-- a number behind bits as a string -/
theorem ptx (first top n : Int) (hf : 0 ≤ first) (ht : 1 ≤ top) (h1 : first + top < 256) (h0 : 0 ≤ n) (hn : n ≤ 4611686018427387903) : ∃ S, Hid (strOfNums (pxT first top n) = S) ∧ S.size ≤ 11 ∧ Hid (∀ w, Calls Tryd.prog 51 #[.int .i64 first, .int .i64 top, .int .i64 n] w fun e w' => e = .returned (.string S) ∧ Below w.heap.size w w') := by
  refine ⟨_, Lib.hid rfl, ?_, Lib.hid (fun w => refPxText_any first top n hf ht h1 h0 hn w)⟩
  rw [strOfNums_size]
  unfold pxT
  split
  · simp
  · have hl := pxD_len 8 (n - top).toNat (by have : (128 : Nat) ^ 9 = 9223372036854775808 := by decide
                                             omega)
    simp only [List.length_cons]
    omega
end Go.Proofs.YtfoagelemjdglaaDoor
