/- Several texts in one: Pick, Raw, Open, Bulk, OpenB, OpenSn. -/
import Derived.Test.YtkpkgegonfcgnaaRows
import Derived.WalkKit
import Derived.Handy
import Derived.Lib.Hide
import Derived.Outline
import Derived.Test.YtkpkgegonfcgnaaRngRow
import Derived.Deep.Slices
import Derived.Deep.Fields
import Derived.ChangeSame
import Derived.SizedLaws
import Derived.Test.YtkpkgegonfcgnaaFrVal
import Derived.Test.YtkpkgegonfcgnaaSnVal
namespace Go.Proofs.Ytkpkgegonfcgnaa
set_option linter.unusedVariables false
open Go.RowKit

theorem tmod_facts (n m : Int) (hm : 0 < m) : (0 ≤ n.tmod m → n.tmod m = n % m) ∧ (n.tmod m < 0 → n.tmod m + m = n % m) ∧ -m < n.tmod m ∧ n.tmod m < m := by
  have e0 := Int.emod_nonneg n (show m ≠ 0 by omega)
  have e1 := Int.emod_lt_of_pos n hm
  rcases Int.le_total 0 n with h | h
  · rw [Int.tmod_eq_emod_of_nonneg h]
    refine ⟨fun _ => rfl, fun h' => by omega, by omega, e1⟩
  · by_cases hd : m ∣ n
    · have h1 : n.tmod m = 0 := Int.tmod_eq_zero_of_dvd hd
      have h2 : n % m = 0 := Int.emod_eq_zero_of_dvd hd
      rw [h1, h2]
      refine ⟨fun _ => rfl, fun h' => by omega, by omega, hm⟩
    · have h3 : n.tmod m = n % m - m := by
        rw [Int.tmod_eq_emod]
        have : ¬ (0 ≤ n ∨ m ∣ n) := by
          intro h'
          rcases h' with h' | h'
          · have : n = 0 := by omega
            subst this; exact hd (Int.dvd_zero m)
          · exact hd h'
        rw [if_neg this]
        omega
      have h4 : n % m ≠ 0 := fun h => hd (Int.dvd_of_emod_eq_zero h)
      rw [h3]
      refine ⟨fun h' => by omega, fun _ => by omega, by omega, by omega⟩

theorem picked_any (n m : Int) (hm : 0 < m) (hm1 : m ≤ 9223372036854775807) (w : World) :
    Calls Try.prog 28 #[.int .i64 n, .int .i64 m] w fun e w' => e = .returned (.int .i64 (n % m)) ∧ w = w' := by
  obtain ⟨f1, f2, f3, f4⟩ := tmod_facts n m hm
  have hm0 : (m == 0) = false := by simp; omega
  by_cases h : n.tmod m < 0
  · have e := Lib.hid (f2 h)
    clear f1 f2
    generalize hq : n.tmod m = q at *
    go_enter Try.func28, Try.ntmps28
    go_wp2
    go_ret
    exact ⟨by rw [← e.out]; rfl, rfl⟩
  · have e := Lib.hid (f1 (by omega))
    clear f1 f2
    generalize hq : n.tmod m = q at *
    go_enter Try.func28, Try.ntmps28
    go_wp2
    go_ret
    exact ⟨by rw [← e.out]; rfl, rfl⟩
end Go.Proofs.Ytkpkgegonfcgnaa
namespace Go.Proofs.Ytkpkgegonfcgnaa
set_option linter.unusedVariables false
open Go.RowKit P

structure RawT where
  kind : Int
  a : Int
  b : Int
  text : ByteArray

def raw0 : RawT := ⟨0, 0, 0, ByteArray.empty⟩

/-- 'A' leads to a row below block B whose cells are the raw things rs -/
def RawRow (w : World) (B : Nat) (A : Option Addr) (rs : List RawT) : Prop :=
  0 < rs.length → ∃ b off, A = some ⟨b, off, none⟩ ∧ b < B ∧ ∀ j, j < rs.length →
    w.cell? ⟨b, off + j * 4, none⟩ = some (.int .i64 (rs.getD j raw0).kind) ∧ w.cell? ⟨b, off + j * 4 + 1, none⟩ = some (.int .i64 (rs.getD j raw0).a) ∧
    w.cell? ⟨b, off + j * 4 + 2, none⟩ = some (.int .i64 (rs.getD j raw0).b) ∧ w.cell? ⟨b, off + j * 4 + 3, none⟩ = some (.string (rs.getD j raw0).text)
theorem RawRow.keep {w w' : World} {B : Nat} {A : Option Addr} {rs : List RawT} (h : RawRow w B A rs) (hk : ∀ p : Addr, p.block < B → w'.cell? p = w.cell? p) : RawRow w' B A rs := fun hn => by
  obtain ⟨b, off, e, hb, hc⟩ := h hn
  exact ⟨b, off, e, hb, fun j hj => ⟨(hk _ hb).trans (hc j hj).1, (hk _ hb).trans (hc j hj).2.1, (hk _ hb).trans (hc j hj).2.2.1, (hk _ hb).trans (hc j hj).2.2.2⟩⟩
theorem RawRow.below {w w' : World} {B : Nat} {A : Option Addr} {rs : List RawT} (h : RawRow w B A rs) (hb : Below B w w') : RawRow w' B A rs := h.keep fun _ hp => hb.cell hp

theorem some20 (A : Option Addr) (len cap : Nat) (w : World) (hl : len ≤ cap) (hc : cap ≤ maxLen) :
    Calls Try.prog 30 #[.slice A len cap, .int .i64 20] w fun e w' => e = .returned (.slice A (min len 20) cap) ∧ w = w' := by
  unfold maxLen at hc
  by_cases h : 20 < len
  · have e := Lib.hid (show min len 20 = 20 by omega)
    go_enter Try.func30, Try.ntmps30
    go_wp2
    go_ret
    exact ⟨by rw [e.out]; rfl, rfl⟩
  · have e := Lib.hid (show min len 20 = len by omega)
    go_enter Try.func30, Try.ntmps30
    go_wp2
    go_ret
    exact ⟨by rw [e.out]; rfl, rfl⟩
end Go.Proofs.Ytkpkgegonfcgnaa
namespace Go.Proofs.Ytkpkgegonfcgnaa.P
set_option linter.unusedVariables false
open Go.RowKit Go.ChangeShapes Go.WideShapes Go.Deep

section
variable {H : Type} {enc : TypeId × Value → H} {P : Program} {w : World}

/-- what is known of a slice of records that came in -/
theorem open_recs {t e : TypeId} {fs : Array Field} {fuel : Nat} {ao : Option Addr} {len cap : Nat} {d : DataW H} {pl : List MemPlace} (ht : P.underlying t = some (.slice e)) (he : P.underlying e = some (.struct fs))
    (hone : oneCellFields P fs = true) (hC : P.cellsOf e = fs.size) (hp : 0 < fs.size) (h : DataW.trod enc P w 0 (fun _ => true) true fuel t (Value.slice ao len cap).cells.toList = some (d, pl)) :
    len ≤ cap ∧ cap ≤ maxLen ∧ ((d = .nil ∧ cap = 0) ∨ ∃ xs ys, d = .slice xs ys ∧ xs.length + ys.length = cap) ∧
    (0 < len → ∃ b off, ao = some ⟨b, off, none⟩ ∧ b < w.heap.size ∧ ∀ i, i < len → ∀ j f, fs[j]? = some f → ∃ v y n, w.cell? ⟨b, off + (i * fs.size + j), none⟩ = some v ∧ DataW.trod enc P w 0 (fun _ => true) true n f.type [v] = some y) := by
  have hcs : (Value.slice ao len cap).cells.toList = [.slice ao len cap] := by simp [Value.cells]
  rw [hcs] at h
  rcases open_slice ht h with ⟨h0, hx⟩ | ⟨a, len', cap', m, n, D, Pl, h0, hb, hl, hm, hmm, hx, hi⟩
  · simp only [List.cons.injEq, Value.slice.injEq, and_true] at h0
    obtain ⟨rfl, rfl, rfl⟩ := h0
    simp only [Prod.mk.injEq] at hx
    exact ⟨Nat.le_refl _, by unfold maxLen; omega, .inl ⟨hx.1, rfl⟩, fun h => absurd h (by omega)⟩
  · simp only [List.cons.injEq, Value.slice.injEq, and_true] at h0
    obtain ⟨rfl, rfl, rfl⟩ := h0
    simp only [if_true] at hmm
    subst hmm
    simp only [Prod.mk.injEq] at hx
    refine ⟨hl, hm, .inr ⟨_, _, hx.1, by simp; omega⟩, fun hpos => ?_⟩
    have cell : ∀ i, i < m → ∀ j f, fs[j]? = some f → ∃ v y n', w.cell? (a.add (i * fs.size + j)) = some v ∧ DataW.trod enc P w 0 (fun _ => true) true n' f.type [v] = some y := by
      intro i him j f hj
      obtain ⟨cs', hc, ht'⟩ := hi i him
      rw [hC] at hc
      obtain ⟨ys, n', _, _, hlen, hyl, hf⟩ := DataW.trod_struct he ht'
      obtain ⟨_, hcl, hat⟩ := World.cells?_some hc
      obtain ⟨ho, hk⟩ := hone_of hone j f hj
      have hjl : j < fs.size := (Array.getElem?_eq_some_iff.1 hj).1
      have h1 := hf j f hj
      rw [ho, hk, List.drop_eq_getElem_cons (by omega : j < cs'.length), List.getElem?_eq_getElem (by omega)] at h1
      have hcell := hat j hjl
      rw [List.getElem?_eq_getElem (by omega)] at hcell
      exact ⟨_, _, n', by rw [← add_add]; exact hcell, h1⟩
    obtain ⟨f0, hf0⟩ : ∃ f0, fs[0]? = some f0 := ⟨fs[0], Array.getElem?_eq_getElem hp⟩
    obtain ⟨v0, _, _, hc0, _⟩ := cell 0 (by omega) 0 f0 hf0
    have hsp := World.cell?_spot hc0
    obtain ⟨b, off, sp⟩ := a
    have hsp' : sp = none := by simpa [Addr.add] using hsp
    subst hsp'
    refine ⟨b, off, rfl, ?_, fun i hi' j f hj => ?_⟩
    · have := World.block_lt_of_cell? w _ hc0
      simpa [Addr.add] using this
    · obtain ⟨v, y, n', hc, ht'⟩ := cell i (by omega) j f hj
      exact ⟨v, y, n', by rw [add_plain2] at hc; exact hc, ht'⟩
end

/-- a list out of what is known of each place -/
theorem list_of {α : Type} (d : α) (n : Nat) (R : Nat → α → Prop) (h : ∀ i, i < n → ∃ x, R i x) : ∃ xs : List α, xs.length = n ∧ ∀ i, i < n → R i (xs.getD i d) := by
  induction n with
  | zero => exact ⟨[], rfl, fun i hi => absurd hi (by omega)⟩
  | succ n ih =>
    obtain ⟨xs, hl, hx⟩ := ih fun i hi => h i (by omega)
    obtain ⟨x, hxn⟩ := h n (by omega)
    refine ⟨xs ++ [x], by simp [hl], fun i hi => ?_⟩
    by_cases c : i < n
    · have := hx i c
      rw [List.getD_eq_getElem?_getD, List.getElem?_append_left (by omega), ← List.getD_eq_getElem?_getD]
      exact this
    · obtain rfl : i = n := by omega
      rw [List.getD_eq_getElem?_getD, List.getElem?_append_right (by omega), hl, Nat.sub_self]
      exact hxn

section
variable {H : Type} {enc : TypeId × Value → H} {P : Program} {w : World}
theorem open_raws {t e : TypeId} {f0 f1 f2 f3 : Field} {fuel : Nat} {ao : Option Addr} {len cap : Nat} {d : DataW H} {pl : List MemPlace} (ht : P.underlying t = some (.slice e)) (he : P.underlying e = some (.struct #[f0, f1, f2, f3]))
    (hone : oneCellFields P #[f0, f1, f2, f3] = true) (hC : P.cellsOf e = 4) (t0 : P.underlying f0.type = some (.int .i64)) (t1 : P.underlying f1.type = some (.int .i64)) (t2 : P.underlying f2.type = some (.int .i64)) (t3 : P.underlying f3.type = some .string)
    (h : DataW.trod enc P w 0 (fun _ => true) true fuel t (Value.slice ao len cap).cells.toList = some (d, pl)) :
    ∃ rs : List RawT, rs.length = len ∧ RawRow w w.heap.size ao rs ∧ len ≤ cap ∧ cap ≤ maxLen ∧ ((d = .nil ∧ cap = 0) ∨ ∃ xs ys, d = .slice xs ys ∧ xs.length + ys.length = cap) ∧ ∀ i, i < len → (Lit.int .i64 (rs.getD i raw0).kind).wf = true ∧ (Lit.int .i64 (rs.getD i raw0).a).wf = true ∧ (Lit.int .i64 (rs.getD i raw0).b).wf = true ∧ (rs.getD i raw0).text.size ≤ maxLen := by
  obtain ⟨hl, hm, hd, hrow⟩ := open_recs ht he hone hC (by simp) h
  rcases Nat.eq_zero_or_pos len with h0 | h0
  · subst h0
    exact ⟨[], rfl, fun h => absurd h (by simp), hl, hm, hd, fun i hi => absurd hi (by omega)⟩
  · obtain ⟨b, off, rfl, hb, hc⟩ := hrow h0
    obtain ⟨rs, hrl, hrs⟩ := list_of raw0 len (fun i r => w.cell? ⟨b, off + i * 4, none⟩ = some (.int .i64 r.kind) ∧ w.cell? ⟨b, off + i * 4 + 1, none⟩ = some (.int .i64 r.a) ∧
        w.cell? ⟨b, off + i * 4 + 2, none⟩ = some (.int .i64 r.b) ∧ w.cell? ⟨b, off + i * 4 + 3, none⟩ = some (.string r.text) ∧ (Lit.int .i64 r.kind).wf = true ∧ (Lit.int .i64 r.a).wf = true ∧ (Lit.int .i64 r.b).wf = true ∧ r.text.size ≤ maxLen) (fun i hi => by
      obtain ⟨v0, y0, n0, c0, k0⟩ := hc i hi 0 f0 rfl
      obtain ⟨v1, y1, n1, c1, k1⟩ := hc i hi 1 f1 rfl
      obtain ⟨v2, y2, n2, c2, k2⟩ := hc i hi 2 f2 rfl
      obtain ⟨v3, y3, n3, c3, k3⟩ := hc i hi 3 f3 rfl
      obtain ⟨x0, e0, _, w0⟩ := DataW.trod_int t0 k0
      obtain ⟨x1, e1, _, w1⟩ := DataW.trod_int t1 k1
      obtain ⟨x2, e2, _, w2⟩ := DataW.trod_int t2 k2
      obtain ⟨x3, e3, _, w3⟩ := DataW.trod_string t3 k3
      simp only [List.cons.injEq, and_true] at e0 e1 e2 e3
      subst e0 e1 e2 e3
      refine ⟨⟨x0, x1, x2, x3⟩, ?_, ?_, ?_, ?_, w0, w1, w2, w3⟩
      · simpa using c0
      · simpa [Nat.add_assoc] using c1
      · simpa [Nat.add_assoc] using c2
      · simpa [Nat.add_assoc] using c3)
    exact ⟨rs, hrl, fun _ => ⟨b, off, rfl, hb, fun j hj => ⟨(hrs j (by omega)).1, (hrs j (by omega)).2.1, (hrs j (by omega)).2.2.1, (hrs j (by omega)).2.2.2.1⟩⟩, hl, hm, hd, fun i hi => (hrs i hi).2.2.2.2⟩

theorem open_rngs {t e : TypeId} {f0 f1 : Field} {fuel : Nat} {ao : Option Addr} {len cap : Nat} {d : DataW H} {pl : List MemPlace} (ht : P.underlying t = some (.slice e)) (he : P.underlying e = some (.struct #[f0, f1]))
    (hone : oneCellFields P #[f0, f1] = true) (hC : P.cellsOf e = 2) (t0 : P.underlying f0.type = some (.int .i64)) (t1 : P.underlying f1.type = some (.int .i64))
    (h : DataW.trod enc P w 0 (fun _ => true) true fuel t (Value.slice ao len cap).cells.toList = some (d, pl)) :
    ∃ ps : List (Int × Int), ps.length = len ∧ RRow w w.heap.size ao ps ∧ len ≤ cap ∧ cap ≤ maxLen ∧ ((d = .nil ∧ cap = 0) ∨ ∃ xs ys, d = .slice xs ys ∧ xs.length + ys.length = cap) ∧ ∀ i, i < len → (Lit.int .i64 (ps.getD i (0, 0)).1).wf = true ∧ (Lit.int .i64 (ps.getD i (0, 0)).2).wf = true := by
  obtain ⟨hl, hm, hd, hrow⟩ := open_recs ht he hone hC (by simp) h
  rcases Nat.eq_zero_or_pos len with h0 | h0
  · subst h0
    exact ⟨[], rfl, RRow.nil _ _ _, hl, hm, hd, fun i hi => absurd hi (by omega)⟩
  · obtain ⟨b, off, rfl, hb, hc⟩ := hrow h0
    obtain ⟨ps, hrl, hrs⟩ := list_of ((0 : Int), (0 : Int)) len (fun i r => w.cell? ⟨b, off + i * 2, none⟩ = some (.int .i64 r.1) ∧ w.cell? ⟨b, off + i * 2 + 1, none⟩ = some (.int .i64 r.2) ∧ (Lit.int .i64 r.1).wf = true ∧ (Lit.int .i64 r.2).wf = true) (fun i hi => by
      obtain ⟨v0, y0, n0, c0, k0⟩ := hc i hi 0 f0 rfl
      obtain ⟨v1, y1, n1, c1, k1⟩ := hc i hi 1 f1 rfl
      obtain ⟨x0, e0, _, w0⟩ := DataW.trod_int t0 k0
      obtain ⟨x1, e1, _, w1⟩ := DataW.trod_int t1 k1
      simp only [List.cons.injEq, and_true] at e0 e1
      subst e0 e1
      refine ⟨⟨x0, x1⟩, ?_, ?_, w0, w1⟩
      · simpa using c0
      · simpa [Nat.add_assoc] using c1)
    exact ⟨ps, hrl, fun _ => ⟨b, off, rfl, hb, fun j hj => ⟨(hrs j (by omega)).1, (hrs j (by omega)).2.1⟩⟩, hl, hm, hd, fun i hi => (hrs i hi).2.2⟩

/-- a struct of two numbers, by value -/
theorem open_two {r : Reach} {b0 : Nat} {t : TypeId} {f0 f1 : Field} {v : Value} {d : DataW H} {pl : List MemPlace} (ht : P.underlying t = some (.struct #[f0, f1])) (hone : oneCellFields P #[f0, f1] = true) (hC : P.cellsOf t = 2)
    (t0 : P.underlying f0.type = some (.int .i64)) (t1 : P.underlying f1.type = some (.int .i64)) (hv : Value.okWide P w r b0 t v) (h : DataW.Trod enc P w 0 (fun _ => true) true t v d pl) :
    ∃ x y : Int, v = .agg #[.int .i64 x, .int .i64 y] ∧ (Lit.int .i64 x).wf = true ∧ (Lit.int .i64 y).wf = true := by
  obtain ⟨cs, rfl, hsz⟩ := okWide_struct ht hv
  obtain ⟨l⟩ := cs
  match l, hsz.trans hC with
  | [c0, c1], _ =>
    obtain ⟨fuel, hf⟩ := h
    obtain ⟨xs, n, _, hx, _, hlen, hg⟩ := DataW.trod_struct ht hf
    obtain ⟨o0, k0⟩ := hone_of hone 0 f0 rfl
    obtain ⟨o1, k1⟩ := hone_of hone 1 f1 rfl
    match xs, hlen with
    | [y0, y1], _ =>
      have g0 := hg 0 f0 rfl
      have g1 := hg 1 f1 rfl
      rw [o0, k0] at g0
      rw [o1, k1] at g1
      obtain ⟨x, e0, _, w0⟩ := DataW.trod_int t0 g0
      obtain ⟨y, e1, _, w1⟩ := DataW.trod_int t1 g1
      simp [Value.cells] at e0 e1
      subst e0 e1
      exact ⟨x, y, rfl, w0, w1⟩
end
end Go.Proofs.Ytkpkgegonfcgnaa.P
namespace Go.Proofs.Ytkpkgegonfcgnaa.P
set_option linter.unusedVariables false

theorem bulk_one {H : Type} (d : DataW H) : 1 ≤ Rows.uptoBulk d := by
  cases d with
  | lit l => cases l <;> simp [Rows.uptoBulk]
  | nil => simp [Rows.uptoBulk]
  | ptr d => simp [Rows.uptoBulk]
  | slice a b => simp [Rows.uptoBulk]
  | agg l => simp [Rows.uptoBulk]
  | iface t d => simp [Rows.uptoBulk]
  | map l => simp [Rows.uptoBulk]
  | held h => simp [Rows.uptoBulk]
theorem bulk_app {H : Type} (l r : List (DataW H)) : Rows.uptoBulkAll (l ++ r) = Rows.uptoBulkAll l + Rows.uptoBulkAll r := by
  induction l with
  | nil => simp [Rows.uptoBulkAll]
  | cons x l ih => simp only [List.cons_append, Rows.uptoBulkAll, ih]; omega
theorem bulk_len {H : Type} (l : List (DataW H)) : l.length ≤ Rows.uptoBulkAll l := by
  induction l with
  | nil => simp [Rows.uptoBulkAll]
  | cons x r ih => have := bulk_one x; simp only [Rows.uptoBulkAll, List.length_cons]; omega
theorem bulk_mem {H : Type} {d : DataW H} {l : List (DataW H)} (h : d ∈ l) : Rows.uptoBulk d ≤ Rows.uptoBulkAll l := by
  induction l with
  | nil => cases h
  | cons x r ih =>
    simp only [Rows.uptoBulkAll]
    rcases List.mem_cons.1 h with e | e
    · subst e; omega
    · have := ih e; omega
theorem weigh_mem {H : Type} {P : Program} {e : TypeId} : ∀ {l : List (DataW H)} {d : DataW H}, d ∈ l → ∀ n ∈ d.weights P e, n ∈ DataW.weightsAll P e l
  | x :: r, d, hd, n, hn => by
    simp only [DataW.weightsAll, List.mem_append]
    rcases List.mem_cons.1 hd with h | h
    · subst h; exact .inl hn
    · exact .inr (weigh_mem h n hn)
/-- what one argument weighs -/
theorem weigh_at {H : Type} {P : Program} {ts : List TypeId} {ds : List (DataW H)} (h : (DataW.weightsEach P ts ds).all (· ≤ reachBytes) = true) {j : Nat} {t : TypeId} {d : DataW H} (ht : ts[j]? = some t) (hd : ds[j]? = some d) : ∀ n ∈ d.weights P t, n ≤ 140737488351232 := fun n hn =>
  of_decide_eq_true (List.all_eq_true.1 h _ (DataW.weights_mem_each ht hd n hn))
end Go.Proofs.Ytkpkgegonfcgnaa.P
namespace Go.Proofs.Ytkpkgegonfcgnaa.P
set_option linter.unusedVariables false
open Go.RowKit Go.ChangeShapes Go.WideShapes Go.Deep

section
variable {H : Type} {enc : TypeId × Value → H} {P : Program} {w : World}
theorem slice_of2 {t e : TypeId} {fuel : Nat} {v : Value} {y : DataW H × List MemPlace} (ht : P.underlying t = some (.slice e)) (h : DataW.trod enc P w 0 (fun _ => true) true fuel t [v] = some y) : ∃ A n c, v = .slice A n c := by
  rcases open_slice ht h with ⟨h0, _⟩ | ⟨a, len', cap', m, n, D, Pl, h0, _⟩
  · exact ⟨none, 0, 0, by simpa using h0⟩
  · exact ⟨_, _, _, by simpa using h0⟩
theorem row_bsl {A : Option Addr} {m c : Nat} {zs : List Int} (hz : IsRow .u8 w A m c zs) : BSl w w.heap.size (.slice A m c) (zs.take m) ∧ (zs.take m).length = m ∧ m ≤ c := by
  obtain ⟨hb, hzl, hzc, hzm⟩ := InRow.brow hz
  have hnone : A = none → c = 0 := by
    rcases hz with ⟨_, _, h, _⟩ | ⟨x, h, _⟩
    · exact fun _ => h
    · intro e; rw [h] at e; cases e
  exact ⟨⟨A, c, by rw [hzl], by rw [hzl]; exact hzc, hzm, hnone, hb⟩, hzl, hzc⟩
/-- bytes that came in: what they weigh, their bulk -/
theorem open_bytes {t e : TypeId} {fuel : Nat} {v : Value} {d : DataW H} {pl : List MemPlace} (ht : P.underlying t = some (.slice e)) (he : P.underlying e = some (.int .u8)) (hC : P.cellsOf e = 1) (hB : P.bytesOf e = 1)
    (h : DataW.trod enc P w 0 (fun _ => true) true fuel t [v] = some (d, pl)) :
    ∃ zs : List Int, BSl w w.heap.size v zs ∧ ((∀ n ∈ d.weights P t, n ≤ 140737488351232) → zs.length ≤ 140737488351232) ∧ zs.length ≤ Rows.uptoBulk d := by
  obtain ⟨A, m, c, rfl⟩ := slice_of2 ht h
  rcases open_ints ht he hC h with ⟨hcs, hx⟩ | ⟨x, l, c', zs, hcs, _, hl, hm, hz, hx, hcell, hwz⟩
  · simp only [List.cons.injEq, Value.slice.injEq, and_true] at hcs
    obtain ⟨rfl, rfl, rfl⟩ := hcs
    exact ⟨[], BSl.nil _ _, fun _ => Nat.zero_le _, Nat.zero_le _⟩
  · simp only [List.cons.injEq, Value.slice.injEq, and_true] at hcs
    obtain ⟨rfl, rfl, rfl⟩ := hcs
    have hz' : zs.length = c := by simpa using hz
    obtain ⟨hb, hzl, hzc⟩ := row_bsl (zs := zs) (w := w) (A := some x) (m := m) (c := c) (.inr ⟨_, rfl, hl, hm, hz', hcell, hwz⟩)
    have hd := (Prod.mk.inj hx).1
    refine ⟨zs.take m, hb, fun hn => ?_, ?_⟩
    · have := hn ((lits (H := H) .u8 (zs.take m)).length + (lits (H := H) .u8 (zs.drop m)).length) (by rw [hd]; simp only [DataW.weights, ht, hB, Nat.mul_one]; exact List.mem_cons_self)
      simp only [lits, List.length_map] at this
      omega
    · rw [hd]
      have := bulk_len (lits (H := H) .u8 (zs.take m))
      simp only [lits, List.length_map] at this
      simp only [Rows.uptoBulk, lits]
      omega
/-- ranges that came in, and their bulk -/
theorem open_rsl {t e : TypeId} {f0 f1 : Field} {fuel : Nat} {v : Value} {d : DataW H} {pl : List MemPlace} (ht : P.underlying t = some (.slice e)) (he : P.underlying e = some (.struct #[f0, f1]))
    (hone : oneCellFields P #[f0, f1] = true) (hC : P.cellsOf e = 2) (t0 : P.underlying f0.type = some (.int .i64)) (t1 : P.underlying f1.type = some (.int .i64))
    (h : DataW.trod enc P w 0 (fun _ => true) true fuel t [v] = some (d, pl)) :
    ∃ ps : List (Int × Int), RSl w w.heap.size v ps ∧ ps.length ≤ Rows.uptoBulk d ∧ ∀ i, i < ps.length → (Lit.int .i64 (ps.getD i (0, 0)).1).wf = true ∧ (Lit.int .i64 (ps.getD i (0, 0)).2).wf = true := by
  obtain ⟨A, m, c, rfl⟩ := slice_of2 ht h
  obtain ⟨ps, hpl, hpr, hpc, hpm, hd, hpw⟩ := open_rngs (d := d) (pl := pl) ht he hone hC t0 t1 (by simpa [Value.cells] using h)
  refine ⟨ps, ⟨A, c, by rw [hpl], by rw [hpl]; exact hpc, hpm, hpr⟩, ?_, fun i hi => hpw i (by omega)⟩
  rcases hd with ⟨rfl, h0⟩ | ⟨xs, ys, rfl, hl⟩
  · omega
  · simp only [Rows.uptoBulk]
    have := bulk_len xs
    have := bulk_len ys
    omega
end
end Go.Proofs.Ytkpkgegonfcgnaa.P
namespace Go.Proofs.Ytkpkgegonfcgnaa.P
set_option linter.unusedVariables false
open Go.RowKit Go.ChangeShapes Go.WideShapes Go.Deep

section
variable {H : Type} {enc : TypeId × Value → H} {P : Program} {w : World}
theorem open_sn {r : Reach} {b0 : Nat} {t e0 e4 e5 : TypeId} {f0 f1 f2 f3 f4 f5 f6 f7 g0 g1 h0 h1 : Field} {v : Value} {d : DataW H} {pl : List MemPlace} (ht : P.underlying t = some (.struct #[f0, f1, f2, f3, f4, f5, f6, f7])) (hone : oneCellFields P #[f0, f1, f2, f3, f4, f5, f6, f7] = true) (hC : P.cellsOf t = 8)
    (t0 : P.underlying f0.type = some (.slice e0)) (t1 : P.underlying f1.type = some .bool) (t2 : P.underlying f2.type = some (.int .i64)) (t3 : P.underlying f3.type = some (.int .i64)) (t4 : P.underlying f4.type = some (.slice e4)) (t5 : P.underlying f5.type = some (.slice e5)) (t6 : P.underlying f6.type = some .bool) (t7 : P.underlying f7.type = some .bool)
    (he0 : P.underlying e0 = some (.int .u8)) (hC0 : P.cellsOf e0 = 1) (hB0 : P.bytesOf e0 = 1)
    (he4 : P.underlying e4 = some (.struct #[g0, g1])) (hone4 : oneCellFields P #[g0, g1] = true) (hC4 : P.cellsOf e4 = 2) (u0 : P.underlying g0.type = some (.int .i64)) (u1 : P.underlying g1.type = some (.int .i64))
    (he5 : P.underlying e5 = some (.struct #[h0, h1])) (hone5 : oneCellFields P #[h0, h1] = true) (hC5 : P.cellsOf e5 = 2) (x0 : P.underlying h0.type = some (.int .i64)) (x1 : P.underlying h1.type = some (.int .i64))
    (hv : Value.okWide P w r b0 t v) (h : DataW.Trod enc P w 0 (fun _ => true) true t v d pl) (hb : Rows.uptoBulk d ≤ 1048576) :
    ∃ s : Sn, SnVal w w.heap.size v s ∧ SnWf s ∧ s.data.length + s.lost.length + s.acked.length ≤ Rows.uptoBulk d := by
  obtain ⟨cs, rfl, hsz⟩ := okWide_struct ht hv
  obtain ⟨l⟩ := cs
  match l, hsz.trans hC with
  | [c0, c1, c2, c3, c4, c5, c6, c7], _ =>
    obtain ⟨fuel, hf⟩ := h
    obtain ⟨xs, n, _, hx, _, hlen, hg⟩ := DataW.trod_struct ht hf
    obtain ⟨o0, k0⟩ := hone_of hone 0 f0 rfl
    obtain ⟨o1, k1⟩ := hone_of hone 1 f1 rfl
    obtain ⟨o2, k2⟩ := hone_of hone 2 f2 rfl
    obtain ⟨o3, k3⟩ := hone_of hone 3 f3 rfl
    obtain ⟨o4, k4⟩ := hone_of hone 4 f4 rfl
    obtain ⟨o5, k5⟩ := hone_of hone 5 f5 rfl
    obtain ⟨o6, k6⟩ := hone_of hone 6 f6 rfl
    obtain ⟨o7, k7⟩ := hone_of hone 7 f7 rfl
    match xs, hlen with
    | [y0, y1, y2, y3, y4, y5, y6, y7], _ =>
      have q0 : DataW.trod enc P w 0 (fun _ => true) true n f0.type [c0] = some y0 := by simpa [Value.cells, o0, k0] using hg 0 f0 rfl
      have q1 : DataW.trod enc P w 0 (fun _ => true) true n f1.type [c1] = some y1 := by simpa [Value.cells, o1, k1] using hg 1 f1 rfl
      have q2 : DataW.trod enc P w 0 (fun _ => true) true n f2.type [c2] = some y2 := by simpa [Value.cells, o2, k2] using hg 2 f2 rfl
      have q3 : DataW.trod enc P w 0 (fun _ => true) true n f3.type [c3] = some y3 := by simpa [Value.cells, o3, k3] using hg 3 f3 rfl
      have q4 : DataW.trod enc P w 0 (fun _ => true) true n f4.type [c4] = some y4 := by simpa [Value.cells, o4, k4] using hg 4 f4 rfl
      have q5 : DataW.trod enc P w 0 (fun _ => true) true n f5.type [c5] = some y5 := by simpa [Value.cells, o5, k5] using hg 5 f5 rfl
      have q6 : DataW.trod enc P w 0 (fun _ => true) true n f6.type [c6] = some y6 := by simpa [Value.cells, o6, k6] using hg 6 f6 rfl
      have q7 : DataW.trod enc P w 0 (fun _ => true) true n f7.type [c7] = some y7 := by simpa [Value.cells, o7, k7] using hg 7 f7 rfl
      obtain ⟨zs, hz, _, hzb⟩ := open_bytes (d := y0.1) (pl := y0.2) t0 he0 hC0 hB0 q0
      obtain ⟨z1, e1, _⟩ := DataW.trod_bool t1 q1
      obtain ⟨z2, e2, _, w2⟩ := DataW.trod_int t2 q2
      obtain ⟨z3, e3, _, w3⟩ := DataW.trod_int t3 q3
      obtain ⟨ps, hps, hpb, _⟩ := open_rsl (d := y4.1) (pl := y4.2) t4 he4 hone4 hC4 u0 u1 q4
      obtain ⟨qs, hqs, hqb, _⟩ := open_rsl (d := y5.1) (pl := y5.2) t5 he5 hone5 hC5 x0 x1 q5
      obtain ⟨z6, e6, _⟩ := DataW.trod_bool t6 q6
      obtain ⟨z7, e7, _⟩ := DataW.trod_bool t7 q7
      simp only [List.cons.injEq, and_true] at e1 e2 e3 e6 e7
      subst e1 e2 e3 e6 e7
      have hd : d = .agg [y0.1, y1.1, y2.1, y3.1, y4.1, y5.1, y6.1, y7.1] := by simpa using (Prod.mk.inj hx).1
      have hs : zs.length + ps.length + qs.length ≤ Rows.uptoBulk d := by
        rw [hd]
        simp only [Rows.uptoBulk, Rows.uptoBulkAll]
        omega
      exact ⟨⟨zs, z1, z2, z3, ps, qs, z6, z7⟩, ⟨_, _, _, rfl, hz, hps, hqs⟩, ⟨w2, w3, by simp only; omega, by simp only; omega, by simp only; omega⟩, hs⟩
end
end Go.Proofs.Ytkpkgegonfcgnaa.P
