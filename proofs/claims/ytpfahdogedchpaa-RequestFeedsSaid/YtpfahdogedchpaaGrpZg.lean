/- Several texts in one. -/
import Derived.Test.YtpfahdogedchpaaGrpG
import Derived.Test.YtpfahdogedchpaaGrpC
import Derived.Maps.RangeWalk
import Derived.Maps.OwnOps
import Derived.Maps.OwnSet
import Derived.DataShut
/- Fields of requests by P15.3: what is written. Plain mathematics. Nothing of the program's. -/
namespace Go.Proofs.Ytpfahdogedchpaa.P
set_option linter.unusedVariables false
open Go.RowKit
/-- how far the writing has come: the table, what is told ahead, for each field the number that it is referred to by, and one more than the greatest of them -/
structure EncS where
  t : Tb
  tell : List Int
  refs : List (Option Int)
  need : Int
/-- a field that is told ahead -/
def tellT (f : Fld) : List Int := pxT 64 31 (f.name.length : Int) ++ f.name ++ pxT 0 127 (f.val.length : Int) ++ f.val
/-- has the table the same one -/
def hasT (t : Tb) (f : Fld) : Bool := decide ((finT t f).2.2 = 0) && (finT t f).2.1
/-- may it be told ahead -/
def mayT (t : Tb) (f : Fld) (ahead : Bool) : Bool := ahead && !(decide (t.room < (wtL t.rows : Int) + (szF f : Int))) && !(decide (4611686018427387903 ≤ t.put))
def encStep (ahead : Bool) (s : EncS) (f : Fld) : EncS :=
  if 0 ≤ kpL f true then ⟨s.t, s.tell, s.refs ++ [none], s.need⟩
  else if hasT s.t f then ⟨s.t, s.tell, s.refs ++ [some (finT s.t f).1], max s.need ((finT s.t f).1 + 1)⟩
  else if mayT s.t f ahead then ⟨(insT s.t f).1, s.tell ++ tellT f, s.refs ++ [some s.t.put], max s.need (s.t.put + 1)⟩
  else ⟨s.t, s.tell, s.refs ++ [none], s.need⟩
def encAll (ahead : Bool) (t : Tb) (l : List Fld) : EncS := l.foldl (encStep ahead) ⟨t, [], [], 0⟩
/-- a field in its section -/
def valT (f : Fld) : List Int := pxT 0 127 (f.val.length : Int) ++ f.val
def lineT (need : Int) (f : Fld) (r : Option Int) : List Int :=
  if 0 ≤ kpL f true then pxT 192 63 (kpL f true)
  else match r with
    | some n => pxT 128 63 (need - 1 - n)
    | none => if 0 ≤ kpL f false then pxT 64 15 (kpL f false) ++ valT f else pxT 32 7 (f.name.length : Int) ++ f.name ++ valT f
/-- the section -/
def linesT (need : Int) (l : List Fld) (rs : List (Option Int)) : List Int := pxT 0 255 need ++ ((l.zip rs).map (fun q => lineT need q.1 q.2)).flatten
/-- what Encode says, by P15.3 -/
def encFl (t : Tb) (l : List Fld) (ahead : Bool) : Tb × List Int × List Int × Int :=
  if faultTb t ≠ 0 then (tb0, [], [], faultTb t) else if faultFl l ≠ 0 then (tb0, [], [], faultFl l)
  else ((encAll ahead t l).t, (encAll ahead t l).tell, linesT (encAll ahead t l).need l (encAll ahead t l).refs, 0)
theorem encAll_snoc (ahead : Bool) (t : Tb) (l : List Fld) (f : Fld) : encAll ahead t (l ++ [f]) = encStep ahead (encAll ahead t l) f := by
  unfold encAll
  rw [List.foldl_append]
  rfl
theorem encAll_nil (ahead : Bool) (t : Tb) : encAll ahead t [] = ⟨t, [], [], 0⟩ := rfl
/-- what is found lies in the table -/
theorem finT_in {t : Tb} {f : Fld} (h : hasT t f = true) : 0 ≤ (finT t f).1 ∧ (finT t f).1 + 1 ≤ t.put ∧ t.put ≤ 4611686018427387903 ∧ faultTb t = 0 := by
  unfold hasT finT at h
  unfold finT
  by_cases c : faultTb t ≠ 0
  · rw [if_pos c] at h; simp at h
  · rw [if_neg c] at h ⊢
    have ok := (faultTb_iff t).1 (Decidable.byContradiction c)
    have k1 := ok.2.1
    have k2 := ok.2.2.1
    cases q : lastAt (fun x => decide (x = f)) t.rows with
    | some i =>
      have := (lastAt_lt _ q).1
      simp only
      exact ⟨by omega, by omega, k1.2, Decidable.byContradiction c⟩
    | none =>
      rw [q] at h
      simp only at h
      cases q2 : lastAt (fun x => decide (x.name = f.name)) t.rows with
      | some i => rw [q2] at h; simp at h
      | none => rw [q2] at h; simp at h
/-- what holds as the writing goes on -/
structure EncOk (k : Nat) (s : EncS) : Prop where
  len : s.refs.length = k
  n0 : 0 ≤ s.need
  n1 : s.need ≤ 4611686018427387903
  p0 : 0 ≤ s.t.put
  rs : ∀ n, some n ∈ s.refs → 0 ≤ n ∧ n < s.need
  wf : TbWf s.t
theorem insT_put {t : Tb} {f : Fld} (h : 0 ≤ t.put) : 0 ≤ (insT t f).1.put := by
  unfold insT
  split
  · exact Int.le_refl _
  · split
    · exact Int.le_refl _
    · split
      · exact Int.le_refl _
      · split
        · exact Int.le_refl _
        · simp only; omega
theorem encStep_ok {ahead : Bool} {s : EncS} {k : Nat} {f : Fld} (h : EncOk k s) (hf : FdWf f) : EncOk (k + 1) (encStep ahead s f) := by
  have base : EncOk (k + 1) ⟨s.t, s.tell, s.refs ++ [none], s.need⟩ :=
    ⟨by simp only [List.length_append, List.length_singleton]; rw [h.len], h.n0, h.n1, h.p0, fun n hn => by
      rcases List.mem_append.1 hn with q | q
      · exact h.rs n q
      · simp at q, h.wf⟩
  have := h.n0
  have := h.n1
  unfold encStep
  split
  · exact base
  · split
    · rename_i _ c
      obtain ⟨a, b, d, _⟩ := finT_in c
      refine ⟨by simp only [List.length_append, List.length_singleton]; rw [h.len], by simp only; omega, by simp only; omega, h.p0, fun n hn => ?_, h.wf⟩
      rcases List.mem_append.1 hn with q | q
      · have := h.rs n q
        simp only
        omega
      · have e : n = (finT s.t f).1 := by simpa using q
        simp only
        omega
    · split
      · rename_i _ _ c
        have hp : s.t.put < 4611686018427387903 := by
          unfold mayT at c
          simp only [Bool.and_eq_true, Bool.not_eq_true', decide_eq_false_iff_not] at c
          omega
        have := h.p0
        refine ⟨by simp only [List.length_append, List.length_singleton]; rw [h.len], by simp only; omega, by simp only; omega, insT_put h.p0, fun n hn => ?_, insT_wf h.wf hf⟩
        rcases List.mem_append.1 hn with q | q
        · have := h.rs n q
          simp only
          omega
        · have e : n = s.t.put := by simpa using q
          simp only
          omega
      · exact base
theorem encAll_ok {ahead : Bool} {t : Tb} (ht : TbWf t) (hp : 0 ≤ t.put) (l : List Fld) (hl : ∀ x ∈ l, FdWf x) : EncOk l.length (encAll ahead t l) := by
  have key : ∀ (l : List Fld) (s : EncS) (k : Nat), EncOk k s → (∀ x ∈ l, FdWf x) → EncOk (k + l.length) (l.foldl (encStep ahead) s) := by
    intro l
    induction l with
    | nil => intro s k h _; exact h
    | cons x l ih =>
      intro s k h hw
      have := ih _ _ (encStep_ok (ahead := ahead) h (hw x (List.mem_cons_self ..))) (fun y hy => hw y (List.mem_cons_of_mem _ hy))
      rw [show k + (x :: l).length = k + 1 + l.length by simp; omega]
      exact this
  have := key l ⟨t, [], [], 0⟩ 0 ⟨rfl, Int.le_refl _, (by decide : (0 : Int) ≤ 4611686018427387903), hp, fun n hn => by simp at hn, ht⟩ hl
  rw [Nat.zero_add] at this
  exact this
end Go.Proofs.Ytpfahdogedchpaa.P
/- The document's FieldsBytes: a map of numbers, what lies in memory, strings of numbers behind bits. -/
namespace Go.Proofs.Ytpfahdogedchpaa.P
set_option linter.unusedVariables false
open Go.RowKit

abbrev kyN (x : Int) : Lit := .int .i64 x
theorem kyN_key (x : Int) : WideAt.IsKeyLit (kyN x) := trivial
theorem kyN_ne {x y : Int} (h : x ≠ y) : kyN x ≠ kyN y := fun e => h (by cases e; rfl)
/-- what a map's reading says: f -/
structure MapN (D : DataW Unit) (f : Int → Option Int) : Prop where
  map : Maps.IsMap D
  no : ∀ x, f x = none → Maps.has D (kyN x) = false
  yes : ∀ x c, f x = some c → Maps.has D (kyN x) = true ∧ ∀ z, D.atKey (kyN x) z = .lit (.int .i64 c)
theorem MapN.empty : MapN (.map [] : DataW Unit) (fun _ => none) := ⟨Maps.isMap_empty, fun x _ => rfl, fun x c h => by cases h⟩
theorem MapN.put {D : DataW Unit} {f : Int → Option Int} (h : MapN D f) (x c : Int) : MapN (D.put (kyN x) (.lit (.int .i64 c))) (fun y => if y = x then some c else f y) := by
  refine ⟨h.map.put _ _, fun y hy => ?_, fun y d hy => ?_⟩
  · by_cases e : y = x
    · simp [e] at hy
    · rw [if_neg e] at hy
      rw [Maps.has_put_other (kyN_ne e)]
      exact h.no y hy
  · by_cases e : y = x
    · subst e
      simp at hy
      subst hy
      exact ⟨Maps.has_put_same h.map (kyN_key _) _, fun z => Maps.atKey_put_same h.map (kyN_key _) _ z⟩
    · rw [if_neg e] at hy
      rw [Maps.has_put_other (kyN_ne e)]
      exact ⟨(h.yes y d hy).1, fun z => by rw [Maps.atKey_put_other (kyN_ne e)]; exact (h.yes y d hy).2 z⟩
theorem MapN.congr {D : DataW Unit} {f g : Int → Option Int} (h : MapN D f) (e : ∀ x, f x = g x) : MapN D g := ⟨h.map, fun x hx => h.no x (by rw [e, hx]), fun x c hx => h.yes x c (by rw [e, hx])⟩
theorem MapN.has {D : DataW Unit} {f : Int → Option Int} (h : MapN D f) (x : Int) : Maps.has D (kyN x) = (f x).isSome := by
  cases hf : f x with
  | none => rw [h.no x hf]; rfl
  | some c => rw [(h.yes x c hf).1]; rfl
/-- the numbers by place, as a map has them -/
def fR (rs : List (Option Int)) (x : Int) : Option Int := if 0 ≤ x then rs.getD x.toNat none else none
theorem fR_nil (x : Int) : fR [] x = none := by unfold fR; split <;> simp
theorem fR_none (rs : List (Option Int)) (x : Int) : fR (rs ++ [none]) x = fR rs x := by
  unfold fR
  split
  · rw [List.getD_eq_getElem?_getD, List.getD_eq_getElem?_getD, List.getElem?_append]
    split
    · rfl
    · rw [List.getElem?_eq_none (by omega : rs.length ≤ x.toNat)]
      rcases Nat.eq_zero_or_pos (x.toNat - rs.length) with q | q
      · rw [q]; rfl
      · rw [List.getElem?_eq_none (by simp; omega)]
  · rfl
theorem fR_some (rs : List (Option Int)) (n : Int) (i : Nat) (h : rs.length = i) (x : Int) : (if x = (i : Int) then some n else fR rs x) = fR (rs ++ [some n]) x := by
  unfold fR
  by_cases e : x = (i : Int)
  · subst e
    rw [if_pos rfl, if_pos (by omega), List.getD_eq_getElem?_getD, List.getElem?_append_right (by omega)]
    simp [h]
  · rw [if_neg e]
    by_cases k : 0 ≤ x
    · rw [if_pos k, if_pos k, List.getD_eq_getElem?_getD, List.getD_eq_getElem?_getD, List.getElem?_append]
      split
      · rfl
      · rw [List.getElem?_eq_none (by omega : rs.length ≤ x.toNat), List.getElem?_eq_none (by simp; omega)]
    · rw [if_neg k, if_neg k]
theorem fR_at (rs : List (Option Int)) (k : Nat) : fR rs (k : Int) = rs.getD k none := by
  unfold fR
  rw [if_pos (by omega), Int.toNat_natCast]
/-- a row of fields lies in no block of a map -/
theorem FSl.grM {w w' : World} {B : Nat} {v : Value} {l : List Fld} {k : Nat} (h : FSl w B v l) (hk : ∀ o, w.cell? ⟨k, o, none⟩ = none) (g : w.grownBy w' (some k)) : FSl w' B v l := by
  obtain ⟨A, cp, e, h1, h2, h3⟩ := h.ex
  refine ⟨A, cp, e, h1, h2, fun hn => ?_⟩
  obtain ⟨b, off, e', hb, hc⟩ := h3 hn
  refine ⟨b, off, e', hb, fun j u hj => g.cell (hc j u hj) ?_⟩
  intro q
  cases q
  have := hc j u hj
  rw [hk] at this
  cases this
theorem TbVal.grM {w w' : World} {B : Nat} {v : Value} {t : Tb} {k : Nat} (h : TbVal w B v t) (hk : ∀ o, w.cell? ⟨k, o, none⟩ = none) (g : w.grownBy w' (some k)) : TbVal w' B v t := by
  obtain ⟨s, e, h1⟩ := h.ex
  exact ⟨s, e, h1.grM hk g⟩
theorem row_one {w : World} {B b off : Nat} {f : Fld} (hb : b < B) (x0 : w.cell? ⟨b, off, none⟩ = some (.string (strOfNums f.name))) (x1 : w.cell? ⟨b, off + 1, none⟩ = some (.string (strOfNums f.val))) : RowE FdE w B (some ⟨b, off, none⟩) [f] := fun _ => ⟨b, off, rfl, hb, fun j u hj => by
  have e : FdE.cat [f] = [.string (strOfNums f.name), .string (strOfNums f.val)] := rfl
  rw [e] at hj
  match j, hj with
  | 0, hj => cases hj; exact x0
  | 1, hj => cases hj; exact x1⟩
/-- the lines that are left -/
theorem zip_drop (need : Int) {l : List Fld} {rs : List (Option Int)} {k : Nat} (h1 : k < l.length) (h2 : k < rs.length) : (((l.drop k).zip (rs.drop k)).map (fun q => lineT need q.1 q.2)).flatten = lineT need (l.getD k fd0) (rs.getD k none) ++ (((l.drop (k + 1)).zip (rs.drop (k + 1))).map (fun q => lineT need q.1 q.2)).flatten := by
  rw [List.drop_eq_getElem_cons h1, List.drop_eq_getElem_cons h2, List.zip_cons_cons, List.map_cons, List.flatten_cons]
  simp [List.getD_eq_getElem?_getD, List.getElem?_eq_getElem h1, List.getElem?_eq_getElem h2]
end Go.Proofs.Ytpfahdogedchpaa.P
namespace Go.Proofs.Ytpfahdogedchpaa
set_option linter.unusedVariables false
open Go.RowKit P

theorem zeroIN (w : World) : (zeroValue 3).run Try.prog w = .ok (.int .i64 0) w := by kernel_rfl
/-- what holds in the midst of FieldsBytes: the table in its box, the answer's box, the map -/
structure RbK (W : World) (M n : Nat) (oZ oY : Obj) (v : Value) (t : Tb) (rs : List (Option Int)) (w : World) : Prop where
  k : TKA W oZ oY v t w
  m : ∃ D : DataW Unit, w.ownsMap Try.prog 3 (plainElem Try.prog 3) M n D ∧ MapN D (fR rs)
  o : ∀ j, w.cell? ⟨M, j, none⟩ = none
  lo : W.heap.size + 2 ≤ M
theorem RbK.lt {W : World} {M n : Nat} {oZ oY : Obj} {v : Value} {t : Tb} {rs : List (Option Int)} {w : World} (h : RbK W M n oZ oY v t rs w) : M < w.heap.size := by
  obtain ⟨D, o, _⟩ := h.m
  exact o.lt
theorem RbK.later {W : World} {M n : Nat} {oZ oY : Obj} {v : Value} {t : Tb} {rs : List (Option Int)} {w w' : World} (h : RbK W M n oZ oY v t rs w) (b : Below w.heap.size w w') : RbK W M n oZ oY v t rs w' := by
  have hl := h.lt
  obtain ⟨D, o, m⟩ := h.m
  refine ⟨h.k.later b, ⟨D, ?_, m⟩, fun j => (b.cell (p := ⟨M, j, none⟩) hl).trans (h.o j), h.lo⟩
  obtain ⟨es, clock, h1, h2⟩ := o
  exact ⟨es, clock, (b.block _ hl).trans h1, h2⟩
theorem RbK.none {W : World} {M n : Nat} {oZ oY : Obj} {v : Value} {t : Tb} {rs : List (Option Int)} {w : World} (h : RbK W M n oZ oY v t rs w) : RbK W M (n + 1) oZ oY v t (rs ++ [.none]) w := by
  obtain ⟨D, o, m⟩ := h.m
  exact ⟨h.k, ⟨D, o.mono (Nat.le_succ _), m.congr (fun x => (fR_none rs x).symm)⟩, h.o, h.lo⟩
theorem RbK.store {W : World} {M n : Nat} {oZ oY : Obj} {v : Value} {t : Tb} {rs : List (Option Int)} {w w' : World} {D : DataW Unit} {z : Int} {i : Nat} (h : RbK W M n oZ oY v t rs w) (e : rs.length = i) (hm : MapN D (fR rs)) (o : w'.ownsMap Try.prog 3 (plainElem Try.prog 3) M (n + 1) (D.put (kyN (i : Int)) (.lit (.int .i64 z)))) (g : w.grownBy w' (some M)) : RbK W M (n + 1) oZ oY v t (rs ++ [some z]) w' := by
  have lo := h.lo
  refine ⟨⟨(g.block _ (lt_of_block h.k.z) (by simp; omega)).trans h.k.z, (g.block _ (lt_of_block h.k.y) (by simp; omega)).trans h.k.y, h.k.b.grown g h.k.b.size (fun k e => by cases e; omega), (h.k.v.grM h.o g).more g.size⟩, ⟨_, o, (hm.put (i : Int) z).congr (fun x => fR_some rs z i e x)⟩, fun j => ?_, lo⟩
  obtain ⟨es, clock, h1, _⟩ := o
  simp [World.cell?, h1]
theorem RbK.setZ {W : World} {M n : Nat} {oY : Obj} {v v' : Value} {t t' : Tb} {rs : List (Option Int)} {w w' : World} {a0 a1 : Int} {p : Option Addr} {m c : Nat} {T : TypeId} {oZ' : Obj} (h : RbK W M n (.cells #[.int .i64 a0, .int .i64 a1, .slice p m c] T (0, 0)) oY v t rs w) (hz : w'.heap[W.heap.size]? = some oZ') (g : w.grownBy w' (some W.heap.size)) (hv : TbVal w w.heap.size v' t') : RbK W M n oZ' oY v' t' rs w' := by
  have lo := h.lo
  obtain ⟨D, o, m⟩ := h.m
  exact ⟨h.k.set hz g hv, ⟨D, o.kept g (by simp; omega), m⟩, fun j => (by have := g.block M o.lt (by simp; omega); simp only [World.cell?, this]; exact h.o j), lo⟩
theorem wfN {x : Int} (h0 : -9223372036854775808 ≤ x) (h1 : x ≤ 9223372036854775807) : (Lit.int .i64 x).wf = true := by
  have a1 : IntKind.i64.min = -9223372036854775808 := by kernel_rfl
  have a2 : IntKind.i64.max = 9223372036854775807 := by kernel_rfl
  rw [Lit.wf_int_iff, a1, a2]
  omega
end Go.Proofs.Ytpfahdogedchpaa
