/- Texts of the proofs, joined. -/
import Derived.Test.YtjeocggocloigaaQA
import Derived.Laws.BytesArg
import Derived.Lib.Strings
import Derived.Maps.OwnSet
import Derived.Maps.StringElems
import Derived.Deep.QuietTactic
import Derived.BigQuiet
import Derived.Below
import Derived.Maps.AppendAt
import Derived.OwnWalk
import Derived.Laws.OwnMore
import Derived.Test.YtjeocggocloigaaRows
import Derived.WalkLawsBesides
import Derived.WalkSpells
import Derived.Outline
import Derived.Handy
/- Bytes as a string: nothing of the program's. -/
namespace Go.Proofs.Ytjeocggocloigaa.P
set_option linter.unusedVariables false
open Go.RowKit

theorem run_str {P : Program} {w : World} {B : Nat} {A : Option Addr} {zs : List Int} {n : Nat} (h : BRow w B A zs) (hn : zs.length = n) (src dst e : TypeId) (cap : Nat)
    (hs : P.underlying src = some (.slice e)) (he : P.underlying e = some (.int .u8)) (hd : P.underlying dst = some .string) :
    (convert src dst (.slice A n cap)).run P w = .ok (.string (strOfNums zs)) w := by
  rcases Nat.eq_zero_or_pos n with h0 | h0
  · subst h0
    have hz : zs = [] := List.eq_nil_of_length_eq_zero hn
    subst hz
    rcases A with _ | a
    · exact run_convert_bytes_nil w src e hs he 0 cap dst hd
    · rw [run_convert_bytes_string w src dst e _ 0 cap hs he hd]
      have hl := run_loadCells_list (P := P) w a [] (fun j v hj => by simp at hj)
      rw [run_bytesToString w a 0 cap [] hl]
      rfl
  · obtain ⟨b, off, rfl, _, hc⟩ := h.2 (by omega)
    exact run_convert_bytes_arg w src e hs he b off n cap zs hn (fun i hi => hc i (by omega)) dst hd

theorem str_get {zs : List Int} (hb : Byt zs) (n : Nat) (h : n < (strOfNums zs).size) : (((strOfNums zs)[n]'h).toNat : Int) = zs.getD n 0 := by
  have hl : n < zs.length := by rw [strOfNums_size] at h; exact h
  have e : (strOfNums zs)[n]'h = UInt8.ofNat (zs[n]).toNat := by
    show (strOfNums zs).data[n]'h = _
    simp [strOfNums]
  have hz := hb n
  rw [List.getD_eq_getElem?_getD, List.getElem?_eq_getElem hl] at hz ⊢
  rw [e]
  simp only [Option.getD_some] at hz ⊢
  simp only [UInt8.toNat_ofNat']
  omega

theorem str_cut (zs : List Int) (k : Nat) : (strOfNums zs).extract 0 k = strOfNums (zs.take k) := by
  apply ByteArray.ext
  apply Array.toList_inj.1
  rw [Lib.extract_data, strOfNums_data, strOfNums_data]
  simp [List.map_take]

theorem str_cat (xs ys : List Int) : strOfNums xs ++ strOfNums ys = strOfNums (xs ++ ys) := by
  apply ByteArray.ext
  apply Array.toList_inj.1
  rw [strOfNums_data]
  simp [strOfNums]

theorem str_empty (zs : List Int) : (strOfNums zs).toList.isEmpty = decide (zs.length = 0) := by
  rw [Lib.toList_data, strOfNums_data]
  cases zs <;> simp

theorem beFrom_append (a : Int) (xs ys : List Int) : beFrom a (xs ++ ys) = beFrom (beFrom a xs) ys := by simp [beFrom]
theorem beFrom_cons (a z : Int) (zs : List Int) : beFrom a (z :: zs) = beFrom (a * 256 + z) zs := rfl
theorem beFrom_lin (a : Int) (zs : List Int) : beFrom a zs = a * 256 ^ zs.length + beFrom 0 zs := by
  induction zs generalizing a with
  | nil => simp [beFrom]
  | cons z zs ih =>
    rw [beFrom_cons, ih (a * 256 + z), beFrom_cons, ih (0 * 256 + z), List.length_cons, Int.pow_succ]
    generalize (256 : Int) ^ zs.length = p
    rw [Int.add_mul, Int.add_mul, Int.mul_assoc, Int.mul_comm 256 p]
    omega
theorem beFrom_all (a : Int) (zs : List Int) (hz : Byt zs) (ha : 0 ≤ a) : 0 ≤ beFrom a zs ∧ beFrom a zs ≤ a * 256 ^ zs.length + (256 ^ zs.length - 1) := by
  have := beFrom_bd a zs hz ha zs.length (Nat.le_refl _)
  rwa [List.take_of_length_le (Nat.le_refl _)] at this
end Go.Proofs.Ytjeocggocloigaa.P
/- The reference's map of kinds: what a look-up finds in it. Nothing of the program's but the kinds. -/
namespace Go.Proofs.Ytjeocggocloigaa.P
set_option linter.unusedVariables false
open Go.RowKit

def kinds : List (Int × List Int) := [(0, []), (1, []), (2, [114]), (4, [105, 111, 99]), (5, [105, 99]), (6, [111, 100]), (7, [100]), (8, [105, 111, 100, 102]), (16, [111]), (17, [105, 111]), (18, [111]), (26, [119]), (27, [119]), (28, [99]), (30, [])]
def lookL : List (Int × List Int) → Int → Option (List Int) → Option (List Int)
  | [], _, a => a
  | x :: t, k, a => lookL t k (if k = x.1 then some x.2 else a)
theorem look_kinds (k : Int) : lookL kinds k none = partsOf k := by
  by_cases h : k = 0 ∨ k = 1 ∨ k = 2 ∨ k = 4 ∨ k = 5 ∨ k = 6 ∨ k = 7 ∨ k = 8 ∨ k = 16 ∨ k = 17 ∨ k = 18 ∨ k = 26 ∨ k = 27 ∨ k = 28 ∨ k = 30
  · rcases h with rfl | rfl | rfl | rfl | rfl | rfl | rfl | rfl | rfl | rfl | rfl | rfl | rfl | rfl | rfl <;> rfl
  · simp only [not_or] at h
    obtain ⟨h0, h1, h2, h3, h4, h5, h6, h7, h8, h9, ha, hb, hc, hd, he⟩ := h
    unfold partsOf kinds
    simp only [lookL, if_neg h0, if_neg h1, if_neg h2, if_neg h3, if_neg h4, if_neg h5, if_neg h6, if_neg h7, if_neg h8, if_neg h9, if_neg ha, if_neg hb, if_neg hc, if_neg hd, if_neg he]
/-- entries put one behind the other -/
def putAll (D : DataW Unit) : List (Int × List Int) → DataW Unit
  | [] => D
  | x :: l => putAll (D.put (.int .i64 x.1) (.lit (.string (strOfNums x.2).data.toList))) l
def optD (z : DataW Unit) : Option (List Int) → DataW Unit
  | none => z
  | some s => .lit (.string (strOfNums s).data.toList)
theorem keyLit (a : Int) (h : (Lit.int .i64 a).wf = true) : WideAt.IsKeyLit (.int .i64 a) := by
  first | exact h | exact trivial | (unfold WideAt.IsKeyLit; simp [h])
theorem put_look (k : Int) (z : DataW Unit) : ∀ (l : List (Int × List Int)) (D : DataW Unit) (a : Option (List Int)), Maps.IsMap D → (∀ x ∈ l, (Lit.int .i64 x.1).wf = true) → D.atKey (.int .i64 k) z = optD z a → Maps.has D (.int .i64 k) = a.isSome →
    (putAll D l).atKey (.int .i64 k) z = optD z (lookL l k a) ∧ Maps.has (putAll D l) (.int .i64 k) = (lookL l k a).isSome
  | [], D, a, hD, _, h1, h2 => ⟨h1, h2⟩
  | x :: l, D, a, hD, hw, h1, h2 => by
    simp only [putAll, lookL]
    refine put_look k z l _ _ (hD.put _ _) (fun y hy => hw y (List.mem_cons_of_mem _ hy)) ?_ ?_
    · by_cases e : k = x.1
      · rw [if_pos e, e, Maps.atKey_put_same hD (keyLit _ (hw x List.mem_cons_self))]; rfl
      · rw [if_neg e, Maps.atKey_put_other (by intro h; simp at h; exact e h)]; exact h1
    · by_cases e : k = x.1
      · rw [if_pos e, e, Maps.has_put_same hD (keyLit _ (hw x List.mem_cons_self))]; rfl
      · rw [if_neg e, Maps.has_put_other (by intro h; simp at h; exact e h)]; exact h2
theorem fill {P : Program} {T K E : TypeId} (hT : P.underlying T = some (.map K E)) (hK : P.underlying K = some (.int .i64)) (hE : P.underlying E = some .string) (b B : Nat) (hB : B ≤ b) (w0 : World) : ∀ (l : List (Int × List Int)) (w : World) (n : Nat) (D : DataW Unit), w.ownsMap P K (plainElem P E) b n D → Below B w0 w →
    (∀ x ∈ l, (Lit.int .i64 x.1).wf = true ∧ x.2.length ≤ maxLen) → n + l.length < maxLen →
    ∃ ws : Nat → World, ws 0 = w ∧ (∀ i (x : Int × List Int), l[i]? = some x → (Instr.mapUpdate T (.map (some b)) (.int .i64 x.1) (.string (strOfNums x.2))).run P (ws i) = .ok () (ws (i + 1))) ∧
      (ws l.length).ownsMap P K (plainElem P E) b (n + l.length) (putAll D l) ∧ Below B w0 (ws l.length)
  | [], w, n, D, ho, hb, _, _ => ⟨fun _ => w, rfl, fun i x h => by simp at h, ho, hb⟩
  | x :: l, w, n, D, ho, hb, hw, hn => by
    have KK := Maps.int_keyed (P := P) hK
    have h0 := hw x List.mem_cons_self
    simp only [List.length_cons] at hn
    obtain ⟨w1, r1, o1, g1⟩ := ho.update KK hT (by omega) (Maps.keyOf_int_mk hK h0.1) (plainElem_string hE (s := strOfNums x.2) (by rw [strOfNums_size]; exact h0.2))
    have b1 := hb.grown g1 (by have := ho.lt; omega) (fun k h => by cases h; exact hB)
    obtain ⟨ws, e0, hr, ho', hb'⟩ := fill hT hK hE b B hB w0 l w1 (n + 1) _ o1 b1 (fun y hy => hw y (List.mem_cons_of_mem _ hy)) (by omega)
    refine ⟨fun i => match i with | 0 => w | i + 1 => ws i, rfl, fun i y hy => ?_, ?_, hb'⟩
    · cases i with
      | zero =>
        simp at hy
        subst hy
        show _ = Result.ok () (ws 0)
        rw [e0]; exact r1
      | succ i => exact hr i y (by simpa using hy)
    · show (ws l.length).ownsMap _ _ _ _ (n + (l.length + 1)) _
      rw [show n + (l.length + 1) = n + 1 + l.length by omega]
      exact ho'
theorem sinv {P : Program} {E : TypeId} (he : P.underlying E = some .string) {v : Value} {d : DataW Unit} {ps : List MemPlace} (h : plainElem P E v = some (d, ps)) : ∃ s : ByteArray, v = .string s ∧ d = .lit (.string s.data.toList) := by
  obtain ⟨s, h1, h2, _⟩ := plainElem_string_inv he h
  exact ⟨s, h1, (Prod.mk.inj h2).1⟩
/-- the map is made, and looked up -/
theorem kinds_map {P : Program} {T K E : TypeId} (hT : P.underlying T = some (.map K E)) (hK : P.underlying K = some (.int .i64)) (hE : P.underlying E = some .string) (zero : ∀ w, (zeroValue E).run P w = .ok (.string ⟨#[]⟩) w) (w : World) (k : Int) (hk : (Lit.int .i64 k).wf = true) :
    ∃ ws : Nat → World, ws 0 = w.alloc (.map #[] 0) ∧ (∀ i (x : Int × List Int), kinds[i]? = some x → (Instr.mapUpdate T (.map (some w.heap.size)) (.int .i64 x.1) (.string (strOfNums x.2))).run P (ws i) = .ok () (ws (i + 1))) ∧
      (Instr.lookup T (.map (some w.heap.size)) (.int .i64 k) true).run P (ws 15) = .ok (.tuple #[.string (strOfNums ((partsOf k).getD [])), .bool (partsOf k).isSome]) (ws 15) ∧ Below w.heap.size w (ws 15) := by
  have KK := Maps.int_keyed (P := P) hK
  have hm := World.ownsMap_made w P K (plainElem (H := Unit) P E)
  have hwf : ∀ x ∈ kinds, (Lit.int .i64 x.1).wf = true ∧ x.2.length ≤ maxLen := by
    unfold maxLen kinds
    intro x hx
    simp only [List.mem_cons, List.not_mem_nil, or_false] at hx
    rcases hx with rfl | rfl | rfl | rfl | rfl | rfl | rfl | rfl | rfl | rfl | rfl | rfl | rfl | rfl | rfl <;> exact ⟨by decide, by decide⟩
  obtain ⟨ws, e0, hr, ho, hb⟩ := fill hT hK hE w.heap.size w.heap.size (Nat.le_refl _) w kinds _ 0 _ hm ((Below.refl _ _).alloc (Nat.le_refl _) _) hwf (by unfold maxLen kinds; decide)
  refine ⟨ws, e0, hr, ?_, hb⟩
  have hz : plainElem (H := Unit) P E (.string ⟨#[]⟩) = some (.lit (.string []), []) := plainElem_string hE (s := ⟨#[]⟩) (by decide)
  obtain ⟨v, ps, hrun, hv⟩ := ho.look_ok KK hT (zero _) hz (Maps.keyOf_int_mk hK hk)
  have hp := put_look k (.lit (.string [])) kinds (.map []) none Maps.isMap_empty (fun x hx => (hwf x hx).1) rfl rfl
  rw [look_kinds] at hp
  rw [hp.1] at hv
  have hv' : v = .string (strOfNums ((partsOf k).getD [])) := by
    cases hpo : partsOf k with
    | none =>
      rw [hpo] at hv
      obtain ⟨s, rfl, hs⟩ := sinv hE hv
      have : s.data.toList = [] := by simpa [optD] using hs.symm
      obtain ⟨⟨l⟩⟩ := s
      simp at this
      subst this
      rfl
    | some t =>
      rw [hpo] at hv
      obtain ⟨s, rfl, hs⟩ := sinv hE hv
      have : s.data.toList = (strOfNums t).data.toList := by simpa [optD] using hs.symm
      have : s = strOfNums t := ByteArray.ext (Array.toList_inj.1 this)
      rw [this]; rfl
  have h15 : (ws 15) = ws kinds.length := rfl
  rw [h15, hrun, hp.2, hv']
end Go.Proofs.Ytjeocggocloigaa.P
/- A region that draws its order, whose operations only read old memory, and whose callees may make new memory: one walk, in the text's order. The class of worlds: all that leave old memory as it is. Nothing of the program's. -/
namespace Go.Proofs.Ytjeocggocloigaa.P
set_option linter.unusedVariables false
open Go.RowKit

/-- a later world, in which what was there is as it was -/
structure Ext (W : World) where
  w : World
  h : Below W.heap.size W w

instance (W : World) : Nonempty (Ext W) := ⟨⟨W, Below.refl _ _⟩⟩
theorem Ext.cell {W : World} {p : Addr} {v : Value} (h : W.cell? p = some v) : ∀ x : Ext W, x.w.cell? p = some v := fun x =>
  (x.h.cell (World.block_lt_of_cell? W p h)).trans h
theorem Ext.more {W : World} (x : Ext W) {w' : World} (h : Below x.w.heap.size x.w w') : Below W.heap.size W w' := x.h.trans (h.mono x.h.size)

section
variable {P : Program} {W : World} {f : FuncId} {args : Array Value} {v : Value}
/-- a callee that makes new memory, met in whatever later world -/
theorem Ext.call {x : Ext W} (h : Calls P f args x.w fun e w' => e = .returned v ∧ Below x.w.heap.size x.w w') : Calls P f args x.w fun e w'' => e = .returned v ∧ ∃ y : Ext W, w'' = y.w :=
  h.mono fun e w' ⟨he, hb⟩ => ⟨he, ⟨⟨w', x.more hb⟩, rfl⟩⟩
/-- a callee that leaves the world alone -/
theorem Ext.call_same {x : Ext W} (h : Calls P f args x.w fun e w' => e = .returned v ∧ x.w = w') : Calls P f args x.w fun e w'' => e = .returned v ∧ ∃ y : Ext W, w'' = y.w :=
  h.mono fun e w' ⟨he, hb⟩ => ⟨he, ⟨x, hb.symm⟩⟩

theorem wp_region_ext {id : Nat} {Q : Exit → Act → World → Prop} {a : Act} {l : List Oper} (hm : P.follows .mixedOrders = true) (hB : Region.lexB .any l.toArray = true)
    (h : wpQuiet P l.toArray (fun w' => ∃ x : Ext W, w' = x.w) (fun a' => ∀ w', Below W.heap.size W w' → Q .normal a' w') l a) : (Code.region id l.toArray true).wp P Q a W := by
  refine wp_region_quiet (C := fun w' => ∃ x : Ext W, w' = x.w) hm hB ⟨⟨W.drew, (Below.refl _ _).drew⟩, rfl⟩ ?_
  have e : (fun a' => ∀ w', Below W.heap.size W w' → Q .normal a' w') = (fun a' => ∀ w', (∃ x : Ext W, w' = x.w) → Q .normal a' w') := by
    funext a'
    refine propext ⟨fun h w' ⟨x, hx⟩ => hx ▸ h x.w x.h, fun h w' hw => h w' ⟨⟨w', hw⟩, rfl⟩⟩
  rw [e] at h
  simpa using h
end
end Go.Proofs.Ytjeocggocloigaa.P
/- Rows of ranges in memory: two cells a range. Nothing of the program's but the types' numbers. -/
namespace Go.Proofs.Ytjeocggocloigaa.P
set_option linter.unusedVariables false
open Go.RowKit

/-- the cells of ranges, one behind the other -/
def cellsR (ps : List (Int × Int)) : List Value := ps.flatMap fun p => [.int .i64 p.1, .int .i64 p.2]
theorem cellsR_len (ps : List (Int × Int)) : (cellsR ps).length = ps.length * 2 := by
  induction ps with
  | nil => rfl
  | cons p ps ih => simp only [cellsR, List.flatMap_cons, List.length_append, List.length_cons, List.length_nil] at ih ⊢; omega
theorem cellsR_app (ps qs : List (Int × Int)) : cellsR (ps ++ qs) = cellsR ps ++ cellsR qs := by simp [cellsR]
theorem cellsR_at (ps : List (Int × Int)) (j : Nat) (h : j < ps.length) :
    (cellsR ps)[j * 2]? = some (.int .i64 (ps.getD j (0, 0)).1) ∧ (cellsR ps)[j * 2 + 1]? = some (.int .i64 (ps.getD j (0, 0)).2) := by
  induction ps generalizing j with
  | nil => simp at h
  | cons p ps ih =>
    have e : cellsR (p :: ps) = .int .i64 p.1 :: .int .i64 p.2 :: cellsR ps := rfl
    cases j with
    | zero => rw [e]; exact ⟨rfl, rfl⟩
    | succ j =>
      have := ih j (by simpa using h)
      rw [e, show (j + 1) * 2 = j * 2 + 1 + 1 from by omega]
      simpa using this
theorem cellsR_one (ps : List (Int × Int)) : ∀ u ∈ cellsR ps, u.oneCell' = true := by
  intro u hu
  obtain ⟨p, _, hp⟩ := List.mem_flatMap.1 hu
  rcases List.mem_cons.1 hp with rfl | hp
  · rfl
  · rcases List.mem_cons.1 hp with rfl | hp
    · rfl
    · cases hp

/-- 'A' leads to a row below block B whose cells are the ranges ps; where ps is empty nothing is said of A -/
def RRow (w : World) (B : Nat) (A : Option Addr) (ps : List (Int × Int)) : Prop :=
  0 < ps.length → ∃ b off, A = some ⟨b, off, none⟩ ∧ b < B ∧ ∀ j, j < ps.length →
    w.cell? ⟨b, off + j * 2, none⟩ = some (.int .i64 (ps.getD j (0, 0)).1) ∧ w.cell? ⟨b, off + j * 2 + 1, none⟩ = some (.int .i64 (ps.getD j (0, 0)).2)

theorem bt {a b c : World} (h : Below a.heap.size a b) (k : Below b.heap.size b c) : Below a.heap.size a c := h.trans (k.mono h.size)
theorem RRow.nil (w : World) (B : Nat) (A : Option Addr) : RRow w B A [] := fun h => absurd h (by simp)
theorem RRow.keep {w w' : World} {B : Nat} {A : Option Addr} {ps : List (Int × Int)} (h : RRow w B A ps) (hk : ∀ p : Addr, p.block < B → w'.cell? p = w.cell? p) : RRow w' B A ps := fun hn => by
  obtain ⟨b, off, e, hb, hc⟩ := h hn
  exact ⟨b, off, e, hb, fun j hj => ⟨(hk _ hb).trans (hc j hj).1, (hk _ hb).trans (hc j hj).2⟩⟩
theorem RRow.more {w : World} {B B' : Nat} {A : Option Addr} {ps : List (Int × Int)} (h : RRow w B A ps) (hB : B ≤ B') : RRow w B' A ps := fun hn => by
  obtain ⟨b, off, e, hb, hc⟩ := h hn
  exact ⟨b, off, e, by omega, hc⟩
theorem RRow.below {w w' : World} {B : Nat} {A : Option Addr} {ps : List (Int × Int)} (h : RRow w B A ps) (hb : Below B w w') : RRow w' B A ps := h.keep fun _ hp => hb.cell hp
theorem RRow.on {w w' : World} {A : Option Addr} {ps : List (Int × Int)} (h : RRow w w.heap.size A ps) (hb : Below w.heap.size w w') : RRow w' w'.heap.size A ps := (h.below hb).more hb.size
theorem getR_take {ps : List (Int × Int)} {k j : Nat} (h : j < k) : (ps.take k).getD j (0, 0) = ps.getD j (0, 0) := by
  rw [List.getD_eq_getElem?_getD, List.getElem?_take, if_pos h, ← List.getD_eq_getElem?_getD]
theorem getR_drop {ps : List (Int × Int)} {k j : Nat} : (ps.drop k).getD j (0, 0) = ps.getD (k + j) (0, 0) := by
  rw [List.getD_eq_getElem?_getD, List.getElem?_drop, ← List.getD_eq_getElem?_getD]
theorem RRow.take {w : World} {B : Nat} {A : Option Addr} {ps : List (Int × Int)} (h : RRow w B A ps) (k : Nat) : RRow w B A (ps.take k) := fun hn => by
  rw [List.length_take] at hn
  obtain ⟨b, off, e, hb, hc⟩ := h (by omega)
  refine ⟨b, off, e, hb, fun j hj => ?_⟩
  rw [List.length_take] at hj
  rw [getR_take (by omega)]
  exact hc j (by omega)
/-- the cells of a row, the model's way -/
theorem RRow.cells {w : World} {B b off : Nat} {ps : List (Int × Int)} (h : RRow w B (some ⟨b, off, none⟩) ps) : ∀ j u, (cellsR ps)[j]? = some u → w.cell? ⟨b, off + j, none⟩ = some u := by
  intro j u hj
  have hl := (List.getElem?_eq_some_iff.1 hj).1
  rw [cellsR_len] at hl
  obtain ⟨b', off', e, _, hc⟩ := h (by omega)
  cases e
  have hat := cellsR_at ps (j / 2) (by omega)
  have hc' := hc (j / 2) (by omega)
  rcases Nat.mod_two_eq_zero_or_one j with h2 | h2
  · rw [show j = j / 2 * 2 from by omega] at hj ⊢
    rw [hat.1] at hj
    rw [hc'.1]; exact hj
  · rw [show j = j / 2 * 2 + 1 from by omega] at hj ⊢
    rw [hat.2] at hj
    rw [← Nat.add_assoc, hc'.2]; exact hj
/-- an owned row of ranges, as a row that reads -/
theorem own_rrow {w : World} {base e n : Nat} {A : Option Addr} {c : Nat} {ps : List (Int × Int)} (h : w.ownsRow base e 2 (.slice A n c) n (cellsR ps)) : RRow w w.heap.size A ps ∧ ps.length = n := by
  have hl : ps.length = n := by have := h.1; rw [cellsR_len] at this; omega
  refine ⟨fun hp => ?_, hl⟩
  rcases h.2 with ⟨hv, h0⟩ | ⟨g, cap, cur, hv, _, hh, _⟩
  · omega
  · injection hv with hA _ hc
    subst hA hc
    have hlt : g < w.heap.size := by
      rcases Nat.lt_or_ge g w.heap.size with hlt | hge
      · exact hlt
      · rw [Array.getElem?_eq_none hge] at hh; cases hh
    refine ⟨g, 0, rfl, hlt, fun j hj => ?_⟩
    have hat := cellsR_at ps j hj
    rw [Nat.zero_add, h.cellAt (j * 2) (by omega), h.cellAt (j * 2 + 1) (by omega)]
    have x1 := List.getElem?_eq_some_iff.1 hat.1
    have x2 := List.getElem?_eq_some_iff.1 hat.2
    exact ⟨by simpa using hat.1, by simpa using hat.2⟩
theorem cells_new (w : World) (lo hi : Int) (t : TypeId) : ∀ j u, (cellsR [(lo, hi)])[j]? = some u → (w.alloc (.cells #[.int .i64 lo, .int .i64 hi] t)).cell? ((⟨w.heap.size, 0, none⟩ : Addr).add j) = some u := by
  intro j u hj
  match j, hj with
  | 0, hj => simp [cellsR] at hj; subst hj; simp [Addr.add]
  | 1, hj => simp [cellsR] at hj; subst hj; simp [Addr.add]
  | j + 2, hj => simp [cellsR] at hj

/-- 'v' owns the ranges qs, in a block of its own from 'base' on -/
def OwnR (w : World) (base : Nat) (e : TypeId) (v : Value) (qs : List (Int × Int)) : Prop := w.ownsRow base e 2 v qs.length (cellsR qs)
theorem OwnR.nil (w : World) (base : Nat) (e : TypeId) : OwnR w base e (.slice none 0 0) [] := ⟨rfl, .inl ⟨rfl, rfl⟩⟩
theorem OwnR.lt {w : World} {base : Nat} {e : TypeId} {v : Value} {qs : List (Int × Int)} (h : OwnR w base e v qs) : ∀ g, v.ownBlock = some g → base ≤ g ∧ g < w.heap.size := by
  intro g hg
  rcases h.2 with ⟨rfl, _⟩ | ⟨g', cap, cur, rfl, hb, hh, _⟩
  · cases hg
  · have : g' = g := by simpa [Value.ownBlock] using hg
    subst this
    refine ⟨hb, ?_⟩
    rcases Nat.lt_or_ge g' w.heap.size with hlt | hge
    · exact hlt
    · rw [Array.getElem?_eq_none hge] at hh; cases hh
theorem OwnR.slice {w : World} {base : Nat} {e : TypeId} {v : Value} {qs : List (Int × Int)} (h : OwnR w base e v qs) : ∃ A c, v = .slice A qs.length c ∧ qs.length ≤ c ∧ c ≤ maxLen ∧ RRow w w.heap.size A qs := by
  have h' := h
  rcases h.2 with ⟨rfl, h0⟩ | ⟨g, cap, cur, rfl, _, _, h1, h2, _⟩
  · have e0 : qs = [] := List.eq_nil_of_length_eq_zero h0
    subst e0
    exact ⟨none, 0, rfl, Nat.le_refl _, by unfold maxLen; omega, RRow.nil _ _ _⟩
  · exact ⟨_, _, rfl, h1, h2, (own_rrow h').1⟩
theorem OwnR.alloc {w : World} {base : Nat} {e : TypeId} {v : Value} {qs : List (Int × Int)} (h : OwnR w base e v qs) (o : Obj) : OwnR (w.alloc o) base e v qs := World.ownsRow.alloc h o
theorem OwnR.drew {w : World} {base : Nat} {e : TypeId} {v : Value} {qs : List (Int × Int)} (h : OwnR w base e v qs) : OwnR w.drew base e v qs := h

/-- a row of the call's own has grown: what was there is as it was, but for that row -/
structure GrowR (base : Nat) (w w' : World) (v : Value) : Prop where
  below : Below base w w'
  size : w.heap.size ≤ w'.heap.size
  keeps : ∀ (p : Addr) (u : Value), w.cell? p = some u → some p.block ≠ v.ownBlock → w'.cell? p = some u
theorem GrowR.of {base : Nat} {w w' : World} {v : Value} {e : TypeId} {qs : List (Int × Int)} (o : Obj) (ho : OwnR w base e v qs) (hb : base ≤ w.heap.size) (hg : (w.alloc o).grownBy w' v.ownBlock) : GrowR base w w' v := by
  have h1 : Below base w w' := ((Below.refl _ _).alloc hb o).grown hg (by simp; omega) (fun k hk => (ho.lt k hk).1)
  have h2 := ((Below.refl (w.heap.size) w).alloc (Nat.le_refl _) o).size
  refine ⟨h1, h1.size, fun p u hu hne => ?_⟩
  refine hg.cell ?_ hne
  rw [World.cell?_alloc_lt _ _ _ (World.block_lt_of_cell? w p hu)]
  exact hu
theorem GrowR.refl (base : Nat) (w : World) (v : Value) : GrowR base w w v := ⟨Below.refl _ _, Nat.le_refl _, fun _ _ h _ => h⟩

theorem add_plain2 (b off j : Nat) : (⟨b, off, none⟩ : Addr).add j = ⟨b, off + j, none⟩ := Go.WideShapes.add_plain b off j
theorem run_appR {P : Program} (w : World) (base : Nat) (t ty e : TypeId) (i : TypeInfo) (z : Value) (ht : P.underlying t = some (.slice e)) (hi : P.info? e = some i) (hz : i.zero = some z) (hsize : i.size = 2) (hby : i.bytes = 16) (hzs : z.cells.size = 2)
    (v : Value) (qs : List (Int × Int)) (hown : OwnR w base e v qs) (B : Nat) (A : Option Addr) (m c : Nat) (zs : List (Int × Int)) (hr : RRow w B A zs) (hm : zs.length = m)
    (hbytes : (qs.length + m) * 16 ≤ 140737488355328) (hbase : base ≤ w.heap.size) :
    ∃ v' w', (Builtin.append_ #[t, t] ty #[v, .slice A m c]).run P w = .ok v' w' ∧ OwnR w' base e v' (qs ++ zs) ∧ w.grownBy w' v.ownBlock := by
  rcases A with _ | ad
  · have h0 : m = 0 := by
      rcases Nat.eq_zero_or_pos zs.length with h | h
      · omega
      · obtain ⟨b, off, e, _⟩ := hr h; cases e
    subst h0
    have hz0 : zs = [] := List.eq_nil_of_length_eq_zero hm
    subst hz0
    refine ⟨v, w, ?_, by simpa using hown, World.grownBy.refl w _⟩
    rcases hown.2 with ⟨rfl, _⟩ | ⟨g, cap, cur, rfl, _, _, hnc, _⟩
    · simp [Builtin.append_, run_underlying ht, sizeOf, typeInfo, hi, Builtin.lenOf, Builtin.firstCells]
    · simp [Builtin.append_, run_underlying ht, sizeOf, typeInfo, hi, Builtin.lenOf, Builtin.firstCells, hnc, storeCells]
  · have hn : ∀ j u, (cellsR zs)[j]? = some u → w.cell? (ad.add j) = some u := by
      intro j u hj
      have hl := (List.getElem?_eq_some_iff.1 hj).1
      rw [cellsR_len] at hl
      obtain ⟨b, off, e, _, _⟩ := hr (by omega)
      cases e
      rw [add_plain2]
      exact hr.cells j u hj
    obtain ⟨v', w', hrun, h2, h3, _, _⟩ := run_append_own_at (P := P) w base t ty e i z 2 16 ht hi hz hsize hby hzs (by decide) v qs.length (cellsR qs) hown ad m c (cellsR zs) (by rw [cellsR_len, hm]) hn
      (cellsR_one zs) (by unfold maxLen; omega) hbytes hbase
    refine ⟨v', w', hrun, ?_, h3⟩
    unfold OwnR
    rw [List.length_append, hm, cellsR_app]
    exact h2

theorem wpList_appR {P : Program} (w : World) {ops : Array Oper} {rest : List Oper} {o : Oper} {a : Act} {Q : Exit → Act → World → Prop} (hgd : o.guard = none) (s x : Operand) (t : TypeId)
    (ho : o.op = .call { callee := .builtin .append, args := #[s, x], argTypes := #[t, t] })
    (base : Nat) (e : TypeId) (i : TypeInfo) (z : Value) (ht : P.underlying t = some (.slice e)) (hi : P.info? e = some i) (hz : i.zero = some z) (hsize : i.size = 2) (hby : i.bytes = 16) (hzs : z.cells.size = 2)
    (v : Value) (qs : List (Int × Int)) (hs : a.eval s = v) (hown : OwnR w base e v qs) (B : Nat) (A : Option Addr) (m c : Nat) (zs : List (Int × Int)) (hx : a.eval x = .slice A m c) (hr : RRow w B A zs) (hm : zs.length = m)
    (hbytes : (qs.length + m) * 16 ≤ 140737488355328) (hbase : base ≤ w.heap.size)
    (h : ∀ v' w', OwnR w' base e v' (qs ++ zs) → w.grownBy w' v.ownBlock → wpList P ops Q rest (a.put o.dst v') w') :
    wpList P ops Q (o :: rest) a w := by
  refine wpList_plain hgd fun K hK => ?_
  obtain ⟨v', w', hrun, h2, h3⟩ := run_appR (P := P) w base t o.type e i z ht hi hz hsize hby hzs v qs hown B A m c zs hr hm hbytes hbase
  unfold Oper.wp execOp
  simp only [ho, resolve, invoke, builtin, Sem.run_bind, Sem.run_pure, Result.andThen_ok, List.map_toArray, List.map_cons, List.map_nil, hs, hx, hrun]
  exact hK _ _ (h v' w' h2 h3)
/-- a cut of a row behind its k first ranges, in the model's own form -/
theorem RRow.cut {w : World} {B : Nat} {A : Option Addr} {ps : List (Int × Int)} (h : RRow w B A ps) (k cap : Nat) (hc : ps.length ≤ cap) : RRow w B (if cap = k then A else A.map (·.add (k * 2))) (ps.drop k) := fun hn => by
  rw [List.length_drop] at hn
  obtain ⟨b, off, rfl, hb, hcell⟩ := h (by omega)
  rw [if_neg (by omega)]
  refine ⟨b, off + k * 2, by simp [add_plain2], hb, fun j hj => ?_⟩
  rw [List.length_drop] at hj
  rw [getR_drop, show off + k * 2 + j * 2 = off + (k + j) * 2 from by omega]
  exact hcell (k + j) (by omega)
/-- one new range, in a block of its own -/
theorem RRow.one (w : World) (lo hi : Int) (t : TypeId) : RRow (w.alloc (.cells #[.int .i64 lo, .int .i64 hi] t)) (w.heap.size + 1) (some ⟨w.heap.size, 0, none⟩) [(lo, hi)] := fun _ =>
  ⟨_, 0, rfl, by omega, fun j hj => by
    have : j = 0 := by simpa using hj
    subst this
    constructor <;> simp⟩
end Go.Proofs.Ytjeocggocloigaa.P
/- A frame as a value: seven cells, two of them rows. Nothing of the program's. -/
namespace Go.Proofs.Ytjeocggocloigaa.P
set_option linter.unusedVariables false
open Go.RowKit

/-- a slice of ranges that reads as ps, a slice of bytes that reads as zs, below block B -/
structure RSl (w : World) (B : Nat) (v : Value) (ps : List (Int × Int)) : Prop where
  ex : ∃ A c, v = .slice A ps.length c ∧ ps.length ≤ c ∧ c ≤ maxLen ∧ RRow w B A ps
structure BSl (w : World) (B : Nat) (v : Value) (zs : List Int) : Prop where
  ex : ∃ A c, v = .slice A zs.length c ∧ zs.length ≤ c ∧ c ≤ maxLen ∧ (A = none → c = 0) ∧ BRow w B A zs
/-- the seven cells of a frame whose slices are r and d -/
def frCells (f : Fr) (r d : Value) : Array Value := #[.int .i64 f.kind, .int .i64 f.id, .int .i64 f.off, .bool f.fin, .int .i64 f.code, r, d]
/-- v says the frame f; its rows lie below block B -/
structure FrVal (w : World) (B : Nat) (v : Value) (f : Fr) : Prop where
  ex : ∃ r d, v = .agg #[.int .i64 f.kind, .int .i64 f.id, .int .i64 f.off, .bool f.fin, .int .i64 f.code, r, d] ∧ RSl w B r f.rs ∧ BSl w B d f.data
/-- its numbers fit -/
structure FrWf (f : Fr) : Prop where
  kind : (Lit.int .i64 f.kind).wf = true
  id : (Lit.int .i64 f.id).wf = true
  off : (Lit.int .i64 f.off).wf = true
  code : (Lit.int .i64 f.code).wf = true
theorem BRow.on {w w' : World} {A : Option Addr} {zs : List Int} (h : BRow w w.heap.size A zs) (hb : Below w.heap.size w w') : BRow w' w'.heap.size A zs := (h.below hb).more hb.size
theorem RSl.below {w w' : World} {B : Nat} {v : Value} {ps : List (Int × Int)} (h : RSl w B v ps) (hb : Below B w w') : RSl w' B v ps := by
  obtain ⟨A, c, rfl, h1, h2, h3⟩ := h.ex
  exact ⟨A, c, rfl, h1, h2, h3.below hb⟩
theorem RSl.more {w : World} {B B' : Nat} {v : Value} {ps : List (Int × Int)} (h : RSl w B v ps) (hB : B ≤ B') : RSl w B' v ps := by
  obtain ⟨A, c, rfl, h1, h2, h3⟩ := h.ex
  exact ⟨A, c, rfl, h1, h2, h3.more hB⟩
theorem BSl.below {w w' : World} {B : Nat} {v : Value} {zs : List Int} (h : BSl w B v zs) (hb : Below B w w') : BSl w' B v zs := by
  obtain ⟨A, c, rfl, h1, h2, h3, h4⟩ := h.ex
  exact ⟨A, c, rfl, h1, h2, h3, h4.below hb⟩
theorem BSl.more {w : World} {B B' : Nat} {v : Value} {zs : List Int} (h : BSl w B v zs) (hB : B ≤ B') : BSl w B' v zs := by
  obtain ⟨A, c, rfl, h1, h2, h3, h4⟩ := h.ex
  exact ⟨A, c, rfl, h1, h2, h3, h4.more hB⟩
theorem FrVal.below {w w' : World} {B : Nat} {v : Value} {f : Fr} (h : FrVal w B v f) (hb : Below B w w') : FrVal w' B v f := by
  obtain ⟨r, d, rfl, hr, hd⟩ := h.ex
  exact ⟨r, d, rfl, hr.below hb, hd.below hb⟩
theorem FrVal.more {w : World} {B B' : Nat} {v : Value} {f : Fr} (h : FrVal w B v f) (hB : B ≤ B') : FrVal w B' v f := by
  obtain ⟨r, d, rfl, hr, hd⟩ := h.ex
  exact ⟨r, d, rfl, hr.more hB, hd.more hB⟩
theorem FrVal.on {w w' : World} {v : Value} {f : Fr} (h : FrVal w w.heap.size v f) (hb : Below w.heap.size w w') : FrVal w' w'.heap.size v f := (h.below hb).more hb.size
theorem RSl.nil (w : World) (B : Nat) : RSl w B (.slice none 0 0) [] := ⟨none, 0, rfl, Nat.le_refl _, by unfold maxLen; omega, RRow.nil _ _ _⟩
theorem BSl.nil (w : World) (B : Nat) : BSl w B (.slice none 0 0) [] := ⟨none, 0, rfl, Nat.le_refl _, by unfold maxLen; omega, fun _ => rfl, BRow.nil _ _ _⟩

/-- which of some parts, bit by bit, are there -/
def maskOf (k : Int) : Int := if k = 2 then 64 else if k = 4 then 11 else if k = 5 then 9 else if k = 6 then 34 else if k = 7 then 32 else if k = 8 then 39 else if k = 16 then 2 else if k = 17 then 3 else if k = 18 then 2 else if k = 26 then 24 else if k = 27 then 24 else if k = 28 then 8 else 0
def hasM (m x : Int) : Bool := decide (bits .and .u64 m x = x)
def mbV (h : Bool) (n : Int) : Bool := !numBad h n
def inBV (m id off code n : Int) : Bool := mbV (hasM m 1) id && mbV (hasM m 2) off && mbV (hasM m 8) code && (!hasM m 34 || decide (off + n ≤ 4611686018427387903))
def inFV (m : Int) (f : Fr) : Bool := !(decide (0 < f.data.length) && !hasM m 32) && !(f.fin && !hasM m 4) && (decide (0 < f.rs.length) == hasM m 64) && decide (downL f.rs)
theorem mask_of {k : Int} {s : List Int} (h : partsOf k = some s) : hasM (maskOf k) 1 = decide (105 ∈ s) ∧ hasM (maskOf k) 2 = decide (111 ∈ s) ∧ hasM (maskOf k) 4 = decide (102 ∈ s) ∧ hasM (maskOf k) 8 = (decide (99 ∈ s) || decide (119 ∈ s)) ∧ hasM (maskOf k) 16 = decide (119 ∈ s) ∧
    hasM (maskOf k) 32 = decide (100 ∈ s) ∧ hasM (maskOf k) 64 = decide (114 ∈ s) ∧ hasM (maskOf k) 34 = (decide (111 ∈ s) && decide (100 ∈ s)) := by
  rcases parts_cases h with ⟨rfl, rfl | rfl | rfl⟩ | ⟨rfl, rfl⟩ | ⟨rfl, rfl⟩ | ⟨rfl, rfl⟩ | ⟨rfl, rfl⟩ | ⟨rfl, rfl⟩ | ⟨rfl, rfl⟩ | ⟨rfl, rfl | rfl⟩ | ⟨rfl, rfl⟩ | ⟨rfl, rfl | rfl⟩ | ⟨rfl, rfl⟩
  all_goals decide +kernel
theorem faultF_no {f : Fr} (h : partsOf f.kind = none) : faultF f = 2 := by unfold faultF; rw [h]
theorem faultF_some {f : Fr} {s : List Int} (h : partsOf f.kind = some s) : faultF f = if 120 < f.data.length ∨ 6 < f.rs.length then 1 else if inBV (maskOf f.kind) f.id f.off f.code f.data.length = false then 6 else if inFV (maskOf f.kind) f = false then 3 else 0 := by
  obtain ⟨h1, h2, h3, h4, h5, h6, h7, h8⟩ := mask_of h
  unfold faultF
  rw [h]
  simp only
  by_cases c1 : 120 < f.data.length ∨ 6 < f.rs.length
  · rw [if_pos c1, if_pos c1]
  rw [if_neg c1, if_neg c1]
  have hI : ∀ b, (!numBad (decide (105 ∈ s)) f.id && !numBad (decide (111 ∈ s)) f.off && !numBad (decide (99 ∈ s) || decide (119 ∈ s)) f.code && (!(decide (111 ∈ s) && decide (100 ∈ s)) || decide (f.off + f.data.length ≤ 4611686018427387903))) = b → inBV (maskOf f.kind) f.id f.off f.code f.data.length = b := by
    intro b hb
    unfold inBV mbV
    rw [h1, h2, h4, h8]
    exact hb
  have hF : ∀ b, (!(decide (0 < f.data.length) && !decide (100 ∈ s)) && !(f.fin && !decide (102 ∈ s)) && (decide (0 < f.rs.length) == decide (114 ∈ s)) && decide (downL f.rs)) = b → inFV (maskOf f.kind) f = b := by
    intro b hb
    unfold inFV
    rw [h3, h6, h7]
    exact hb
  by_cases c2 : numBad (decide (105 ∈ s)) f.id = true ∨ numBad (decide (111 ∈ s)) f.off = true ∨ numBad (decide (99 ∈ s) || decide (119 ∈ s)) f.code = true
  · have e := hI false (by rcases c2 with e | e | e <;> simp [e])
    rw [if_pos c2, if_pos e]
  rw [if_neg c2]
  simp only [not_or, Bool.not_eq_true] at c2
  obtain ⟨e1, e2, e3⟩ := c2
  by_cases c3 : 111 ∈ s ∧ 100 ∈ s ∧ 4611686018427387903 < f.off + f.data.length
  · have g : decide (f.off + (f.data.length : Int) ≤ 4611686018427387903) = false := decide_eq_false (by omega)
    have e := hI false (by rw [g]; simp [c3.1, c3.2.1])
    rw [if_pos c3, if_pos e]
  rw [if_neg c3]
  have e := hI true (by
    rw [e1, e2, e3]
    by_cases a : 111 ∈ s
    · by_cases b : 100 ∈ s
      · have : decide (f.off + (f.data.length : Int) ≤ 4611686018427387903) = true := by
          refine decide_eq_true (Int.not_lt.1 fun c => c3 ⟨a, b, c⟩)
        rw [this]; simp
      · simp [b]
    · simp [a])
  rw [if_neg (by rw [e]; decide : ¬ inBV (maskOf f.kind) f.id f.off f.code f.data.length = false)]
  by_cases c4 : decide (0 < f.rs.length) ≠ decide (114 ∈ s) ∨ ¬ downL f.rs ∨ (0 < f.data.length ∧ 100 ∉ s) ∨ (f.fin = true ∧ 102 ∉ s)
  · have k := hF false (by
      rcases c4 with e | e | e | e
      · have : (decide (0 < f.rs.length) == decide (114 ∈ s)) = false := by simpa using e
        rw [this]; simp
      · simp [e]
      · simp [e.1, e.2]
      · simp [e.1, e.2])
    rw [if_pos c4, if_pos k]
  · have k := hF true (by
      have d1 : decide (0 < f.rs.length) = decide (114 ∈ s) := Decidable.byContradiction fun e => c4 (.inl e)
      have d2 : downL f.rs := Decidable.byContradiction fun e => c4 (.inr (.inl e))
      have d3 : (decide (0 < f.data.length) && !decide (100 ∈ s)) = false := by
        by_cases a : 0 < f.data.length
        · by_cases b : 100 ∈ s
          · simp [b]
          · exact absurd (.inr (.inr (.inl ⟨a, b⟩))) c4
        · simp [a]
      have d4 : (f.fin && !decide (102 ∈ s)) = false := by
        cases a : f.fin
        · rfl
        · by_cases b : 102 ∈ s
          · simp [b]
          · exact absurd (.inr (.inr (.inr ⟨a, b⟩))) c4
      rw [d1, d3, d4]
      simp [d2])
    rw [if_neg c4, if_neg (by rw [k]; decide : ¬ inFV (maskOf f.kind) f = false)]
end Go.Proofs.Ytjeocggocloigaa.P
/- Contracts of package ranges: mayBe, Check. -/
namespace Go.Proofs.Ytjeocggocloigaa
set_option linter.unusedVariables false
open Go.RowKit P

theorem maybe_yes (lo hi : Int) (h : okR (lo, hi)) (w : World) :
    Calls Try.prog 38 #[.agg #[.int .i64 lo, .int .i64 hi]] w fun e w' => e = .returned (.bool true) ∧ Below w.heap.size w w' := by
  obtain ⟨h0, h1, h2⟩ := h
  simp only at h0 h1 h2
  go_enter Try.func38, Try.ntmps38
  go_wp2
  go_ret
  exact ⟨rfl, (Below.refl _ _).alloc (Nat.le_refl _) _⟩
theorem maybe_no (lo hi : Int) (h : ¬ okR (lo, hi)) (w : World) :
    Calls Try.prog 38 #[.agg #[.int .i64 lo, .int .i64 hi]] w fun e w' => e = .returned (.bool false) ∧ Below w.heap.size w w' := by
  have hc : lo < 0 ∨ hi < lo ∨ 4611686018427387903 < hi := by
    by_cases a : lo < 0
    · exact .inl a
    by_cases b : hi < lo
    · exact .inr (.inl b)
    by_cases c : 4611686018427387903 < hi
    · exact .inr (.inr c)
    exact (h ⟨by simp only; omega, by simp only; omega, by simp only; omega⟩).elim
  clear h
  by_cases a : lo < 0
  · go_enter Try.func38, Try.ntmps38
    go_wp2
    go_ret
    exact ⟨rfl, (Below.refl _ _).alloc (Nat.le_refl _) _⟩
  by_cases b : hi < lo
  · go_enter Try.func38, Try.ntmps38
    go_wp2
    go_ret
    exact ⟨rfl, (Below.refl _ _).alloc (Nat.le_refl _) _⟩
  have c : decide (hi ≤ 4611686018427387903) = false := by simp; omega
  go_enter Try.func38, Try.ntmps38
  go_wp2
  go_ret
  exact ⟨rfl, (Below.refl _ _).alloc (Nat.le_refl _) _⟩

/-- what Check says of a set -/
def ckV (ps : List (Int × Int)) : Int := if okL ps then 0 else 3
def CheckPost (ps : List (Int × Int)) (w : World) (e : Ending) (w' : World) : Prop := e = .returned (.int .i64 (ckV ps)) ∧ Below w.heap.size w w'

theorem check_any (A : Option Addr) (len cap : Nat) (ps : List (Int × Int)) (w : World) (h : RRow w w.heap.size A ps) (hl : ps.length = len) (hm : len ≤ 9223372036854775807) :
    Calls Try.prog 31 #[.slice A len cap] w (CheckPost ps w) := by
  have HR := Lib.hid h
  have HL := Lib.hid hl
  clear h hl
  go_enter Try.func31, Try.ntmps31
  go_wp2
  go_loopw [7] (fun i wr => ∃ k : Nat, k ≤ len ∧ i = .int .i64 k ∧ Below w.heap.size w wr ∧ Hid (okL (ps.take k))) (fun i _ => len - (intOf i).toNat)
  case atStart => exact ⟨0, Nat.zero_le _, rfl, Below.refl _ _, trivial⟩
  case round =>
    obtain ⟨k, hk, rfl, hb, HO⟩ := hrel
    have HB := Lib.hid hb
    clear hb
    by_cases hlt : k < len
    · obtain ⟨b, off, rfl, hbb, hc⟩ := (HR.out.below HB.out) (by rw [HL.out]; omega)
      obtain ⟨c0, c1⟩ := hc k (by rw [HL.out]; omega)
      have cp := fun h0 : 0 < k => (hc (k - 1) (by rw [HL.out]; omega)).2
      have HS := Lib.hid (ok_step ps k (by rw [HL.out]; omega))
      obtain ⟨⟨lo, hi⟩, hp⟩ : ∃ p, ps.getD k (0, 0) = p := ⟨_, rfl⟩
      rw [hp] at c0 c1 HS
      simp only at c0 c1
      have hbw := HB.out.size
      clear hc hp
      by_cases hr : okR (lo, hi)
      · have HK := Lib.hid hr
        clear hr
        by_cases h0 : 0 < k
        · have cq := cp h0
          obtain ⟨⟨plo, phi⟩, hq⟩ : ∃ p, ps.getD (k - 1) (0, 0) = p := ⟨_, rfl⟩
          have pk := ok_get HO.out (k - 1) (by rw [List.length_take, HL.out]; omega)
          rw [getR_take (by omega), hq] at pk
          rw [hq] at cq HS
          simp only at cq HS
          have p1 : phi ≤ 4611686018427387903 := pk.2.2
          have p2 : 0 ≤ phi := Int.le_trans pk.1 pk.2.1
          clear cp hq pk
          have g1 : decide ((0 : Int) < (k : Int)) = true := by simp; omega
          have g2 : decide (0 < k) = true := by simp; omega
          have i0 : (0 : Int) ≤ (k : Int) - 1 := by omega
          have i1 : (k : Int) - 1 < (len : Int) := by omega
          have i2 : ((k : Int) - 1).toNat = k - 1 := by omega
          go_wp2
          have d0 := Ext.cell (W := wr.alloc (.cells #[.int .i64 lo, .int .i64 hi] 51)) (p := ⟨wr.heap.size, 0, none⟩) (v := .int .i64 lo) (by simp)
          have d1 := Ext.cell (W := wr.alloc (.cells #[.int .i64 lo, .int .i64 hi] 51)) (p := ⟨wr.heap.size, 1, none⟩) (v := .int .i64 hi) (by simp)
          have d2 := Ext.cell (W := wr.alloc (.cells #[.int .i64 lo, .int .i64 hi] 51)) (p := ⟨b, off + (k - 1) * 2 + 1, none⟩) (v := .int .i64 phi) (by rw [World.cell?_alloc_lt _ _ _ (by simp; omega)]; exact cq)
          refine wp_region_ext (by kernel_rfl) (by kernel_rfl) ?_
          repeat (go_big_quiet_step ((go_at_call 38; exact Ext.call (maybe_yes _ _ HK.out _))))
          refine wpQuiet_nil ?_
          intro w1 hb1
          clear d0 d1 d2
          have HB1 := Lib.hid ((HB.out.alloc hbw _).trans (hb1.mono (by simp; omega)))
          clear hb1
          by_cases hg : phi + 2 ≤ lo
          · have H1 : Hid (okL (ps.take (k + 1))) := HS.out.2 ⟨HO.out, HK.out, fun _ => hg⟩
            have g3 : decide (lo ≤ phi + 1) = false := by simp; omega
            clear h0 cq
            go_wp2
            go_roundw
            case rel => exact ⟨k + 1, by omega, by go_num, HB1.out, H1⟩
            case measure => simp [intOf]; omega
          · have H1 : Hid (ckV ps = 3) := if_neg (ok_not fun h => hg ((HS.out.1 h).2.2 h0))
            have g3 : decide (lo ≤ phi + 1) = true := by simp; omega
            clear h0 cq
            go_wp2
            go_ret
            exact ⟨ret_int H1.out.symm, HB1.out⟩
        · have g1 : decide ((0 : Int) < (k : Int)) = false := by simp; omega
          have g2 : decide (0 < k) = false := by simp; omega
          have H1 : Hid (okL (ps.take (k + 1))) := HS.out.2 ⟨HO.out, HK.out, fun h => absurd h h0⟩
          clear h0 cp
          go_wp2
          have d0 := Ext.cell (W := wr.alloc (.cells #[.int .i64 lo, .int .i64 hi] 51)) (p := ⟨wr.heap.size, 0, none⟩) (v := .int .i64 lo) (by simp)
          have d1 := Ext.cell (W := wr.alloc (.cells #[.int .i64 lo, .int .i64 hi] 51)) (p := ⟨wr.heap.size, 1, none⟩) (v := .int .i64 hi) (by simp)
          refine wp_region_ext (by kernel_rfl) (by kernel_rfl) ?_
          repeat (go_big_quiet_step ((go_at_call 38; exact Ext.call (maybe_yes _ _ HK.out _))))
          refine wpQuiet_nil ?_
          intro w1 hb1
          clear d0 d1
          have HB1 := Lib.hid ((HB.out.alloc hbw _).trans (hb1.mono (by simp; omega)))
          clear hb1
          go_wp2
          go_roundw
          case rel => exact ⟨k + 1, by omega, by go_num, HB1.out, H1⟩
          case measure => simp [intOf]; omega
      · have HK := Lib.hid hr
        have H1 : Hid (ckV ps = 3) := if_neg (ok_not fun h => HK.out (HS.out.1 h).2.1)
        clear hr cp
        go_wp2
        have d0 := Ext.cell (W := wr.alloc (.cells #[.int .i64 lo, .int .i64 hi] 51)) (p := ⟨wr.heap.size, 0, none⟩) (v := .int .i64 lo) (by simp)
        have d1 := Ext.cell (W := wr.alloc (.cells #[.int .i64 lo, .int .i64 hi] 51)) (p := ⟨wr.heap.size, 1, none⟩) (v := .int .i64 hi) (by simp)
        refine wp_region_ext (by kernel_rfl) (by kernel_rfl) ?_
        repeat (go_big_quiet_step ((go_at_call 38; exact Ext.call (maybe_no _ _ HK.out _))))
        refine wpQuiet_nil ?_
        intro w1 hb1
        clear d0 d1
        have HB1 := Lib.hid ((HB.out.alloc hbw _).trans (hb1.mono (by simp; omega)))
        clear hb1
        go_wp2
        go_ret
        exact ⟨ret_int H1.out.symm, HB1.out⟩
    · have H1 : Hid (ckV ps = 0) := if_pos (by have := HO.out; rwa [List.take_of_length_le (by rw [HL.out]; omega)] at this)
      go_wp2
      go_ret
      exact ⟨ret_int H1.out.symm, HB.out⟩
end Go.Proofs.Ytjeocggocloigaa
/- varint.Decode's contract. -/
namespace Go.Proofs.Ytjeocggocloigaa
set_option linter.unusedVariables false
open Go.RowKit P

theorem sizeBy_any (z : Int) (h0 : 0 ≤ z) (h1 : z ≤ 255) (w : World) :
    Calls Try.prog 43 #[.int .u8 z] w fun e w' => e = .returned (.int .i64 (kOf z)) ∧ w = w' := by
  have c : z / 64 = 0 ∨ z / 64 = 1 ∨ z / 64 = 2 ∨ z / 64 = 3 := by omega
  unfold kOf
  rcases c with c | c | c | c
  all_goals
    go_enter Try.func43, Try.ntmps43
    go_wp2
    go_ret
    exact ⟨rfl, rfl⟩

theorem decode_nil (A : Option Addr) (cap : Nat) (w : World) :
    Calls Try.prog 40 #[.slice A 0 cap] w fun e w' => e = .returned (.tuple #[.int .i64 0, .int .i64 0, .int .i64 4]) ∧ w = w' := by
  go_enter Try.func40, Try.ntmps40
  go_wp2
  go_ret3
  exact ⟨rfl, rfl⟩

theorem decode_short (b off n cap : Nat) (z : Int) (w : World) (hc : w.cell? ⟨b, off, none⟩ = some (.int .u8 z)) (h0 : 0 ≤ z) (h1 : z ≤ 255) (hn : 0 < n) (hk : (n : Int) < kOf z) (hl : n ≤ cap) (hm : cap ≤ maxLen) :
    Calls Try.prog 40 #[.slice (some ⟨b, off, none⟩) n cap] w fun e w' => e = .returned (.tuple #[.int .i64 0, .int .i64 0, .int .i64 4]) ∧ w = w' := by
  unfold maxLen at hm
  have hn' : ((n : Int) == 0) = false := by simp; omega
  go_enter Try.func40, Try.ntmps40
  go_wp2_with (go_at_call 43; refine (sizeBy_any _ h0 h1 _).mono ?_; rintro e w' ⟨rfl, rfl⟩)
  go_ret3
  exact ⟨rfl, rfl⟩

theorem decode_long (b off n cap : Nat) (zs : List Int) (w : World) (hb : Byt zs) (hc : ∀ j, j < zs.length → w.cell? ⟨b, off + j, none⟩ = some (.int .u8 (zs.getD j 0))) (hzn : zs.length = n) (hn : 0 < n) (hk : kOf (zs.getD 0 0) ≤ (n : Int)) (hl : n ≤ cap) (hm : cap ≤ maxLen) :
    Calls Try.prog 40 #[.slice (some ⟨b, off, none⟩) n cap] w fun e w' => e = .returned (.tuple #[.int .i64 (beFrom (zs.getD 0 0 % 64) ((zs.drop 1).take ((kOf (zs.getD 0 0)).toNat - 1))), .int .i64 (kOf (zs.getD 0 0)), .int .i64 0]) ∧ w = w' := by
  unfold maxLen at hm
  have hc0 := hc 0 (by omega)
  obtain ⟨h0, h1⟩ := hb 0
  have hbd := beFrom_bd (zs.getD 0 0 % 64) (zs.drop 1) (hb.drop 1) (by omega)
  have hn' : ((n : Int) == 0) = false := by simp; omega
  have HC := Lib.hid hc
  have HB := Lib.hid hb
  have HBD := Lib.hid hbd
  have HZ := Lib.hid hzn
  clear hc hb hbd hzn
  generalize hz : zs.getD 0 0 = z at *
  have HZ0 := Lib.hid hz
  clear hz
  have kb := kOf_bd z
  obtain ⟨m, hmK⟩ : ∃ m : Nat, kOf z = m := ⟨(kOf z).toNat, by omega⟩
  rw [hmK] at kb hk ⊢
  have HK := Lib.hid hmK
  clear hmK
  simp only [Nat.add_zero, Int.toNat_natCast] at hc0 ⊢
  by_cases hcap : cap = 1
  · obtain rfl : n = 1 := by omega
    obtain rfl : m = 1 := by omega
    subst hcap
    go_enter Try.func40, Try.ntmps40
    go_wp2_with (go_at_call 43; refine (sizeBy_any _ h0 h1 _).mono ?_; rintro e w' ⟨rfl, rfl⟩; simp only [HK.out])
    go_rounds 1
    all_goals (go_ret3; exact ⟨rfl, rfl⟩)
  · go_enter Try.func40, Try.ntmps40
    go_wp2_with (go_at_call 43; refine (sizeBy_any _ h0 h1 _).mono ?_; rintro e w' ⟨rfl, rfl⟩; simp only [HK.out])
    go_loop [2, 32] (fun acc i => ∃ k : Nat, k ≤ m - 1 ∧ i = .int .i64 k ∧ acc = .int .i64 (beFrom (z % 64) ((zs.drop 1).take k))) (fun _ i => (m - 1) - (intOf i).toNat)
    case atStart => exact ⟨0, Nat.zero_le _, rfl, rfl⟩
    case round =>
      obtain ⟨k, hk', rfl, rfl⟩ := hrel
      by_cases hlt : k < m - 1
      · have st := beFrom_step (z % 64) (zs.drop 1) k (by rw [List.length_drop, HZ.out]; omega)
        have bd := HBD.out k (by rw [List.length_drop, HZ.out]; omega)
        have hcell := HC.out (1 + k) (by rw [HZ.out]; omega)
        have hby := HB.out (1 + k)
        rw [← Nat.add_assoc] at hcell
        rw [getD_drop] at st
        generalize zs.getD (1 + k) 0 = x at st hcell hby
        generalize beFrom (z % 64) ((zs.drop 1).take k) = y at st bd
        have hy := acc_bd _ _ k (by omega) (by omega) (by omega) bd.1 bd.2
        have or' := or_i64 y x hy.1 hy.2 hby.1 hby.2
        have ST := Lib.hid st
        clear st bd
        go_wp2
        go_round
        case rel => exact ⟨k + 1, by omega, by go_num, by rw [ST.out]⟩
        case measure => simp [intOf]; omega
      · obtain rfl : k = m - 1 := by omega
        go_wp2
        go_ret3
        exact ⟨rfl, rfl⟩

theorem decode_no (A : Option Addr) (n cap B : Nat) (zs : List Int) (w : World) (h : BRow w B A zs) (hzn : zs.length = n) (hl : n ≤ cap) (hm : cap ≤ maxLen) (hno : ¬ decOk zs) :
    Calls Try.prog 40 #[.slice A n cap] w fun e w' => e = .returned (.tuple #[.int .i64 0, .int .i64 0, .int .i64 4]) ∧ w = w' := by
  rcases Nat.eq_zero_or_pos n with h0 | h0
  · subst h0; exact decode_nil A cap w
  · obtain ⟨b, off, rfl, _, hc⟩ := h.2 (by omega)
    unfold decOk at hno
    exact decode_short b off n cap _ w (hc 0 (by omega)) (h.1 0).1 (h.1 0).2 h0 (by omega) hl hm

theorem decode_yes (A : Option Addr) (n cap B : Nat) (zs : List Int) (w : World) (h : BRow w B A zs) (hzn : zs.length = n) (hl : n ≤ cap) (hm : cap ≤ maxLen) (hok : decOk zs) :
    Calls Try.prog 40 #[.slice A n cap] w fun e w' => e = .returned (.tuple #[.int .i64 (decV zs), .int .i64 (kOf (zs.getD 0 0)), .int .i64 0]) ∧ w = w' := by
  obtain ⟨b, off, rfl, _, hc⟩ := h.2 hok.1
  exact decode_long b off n cap zs w h.1 hc hzn (by have := hok.1; omega) (by have := hok.2; omega) hl hm

end Go.Proofs.Ytjeocggocloigaa
