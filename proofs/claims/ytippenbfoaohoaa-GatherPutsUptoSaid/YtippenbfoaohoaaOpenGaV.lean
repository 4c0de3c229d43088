/- Several texts in one: Pick, Raw, Open, FrBack, PackMath, HdMath, HdVal, OpenHd, Bulk, OpenGa. -/
import Derived.Test.YtippenbfoaohoaaRows
import Derived.WalkKit
import Derived.Handy
import Derived.Lib.Hide
import Derived.Outline
import Derived.Test.YtippenbfoaohoaaRngRow
import Derived.Deep.Slices
import Derived.Deep.Fields
import Derived.ChangeSame
import Derived.Test.YtippenbfoaohoaaFrMath
import Derived.Test.YtippenbfoaohoaaLow
import Derived.Test.YtippenbfoaohoaaStr
import Derived.Test.YtippenbfoaohoaaFrVal
import Derived.DataShut
import Derived.SizedLaws
import Derived.Test.YtippenbfoaohoaaGaGrp
namespace Go.Proofs.Ytippenbfoaohoaa
set_option linter.unusedVariables false
open Go.RowKit

theorem tmod_facts (n m : Int) (hm : 0 < m) : (0 ≤ n.tmod m → n.tmod m = n % m) ∧ (n.tmod m < 0 → n.tmod m + m = n % m) ∧ -m < n.tmod m ∧ n.tmod m < m := by
  have e0 := Int.emod_nonneg n (show m ≠ 0 by omega)
  have e1 := Int.emod_lt_of_pos n hm
  rcases Int.le_total 0 n with h | h
  · rw [Int.tmod_eq_emod_of_nonneg h]
    refine ⟨fun _ => rfl, fun h' => by omega, by omega, e1⟩
  · by_cases hd : m ∣ n
    · have h1 : n.tmod m = 0 := Int.tmod_eq_zero_of_dvd hd
      have h2 : n % m = 0 := Int.emod_eq_zero_of_dvd hd
      rw [h1, h2]
      refine ⟨fun _ => rfl, fun h' => by omega, by omega, hm⟩
    · have h3 : n.tmod m = n % m - m := by
        rw [Int.tmod_eq_emod]
        have : ¬ (0 ≤ n ∨ m ∣ n) := by
          intro h'
          rcases h' with h' | h'
          · have : n = 0 := by omega
            subst this; exact hd (Int.dvd_zero m)
          · exact hd h'
        rw [if_neg this]
        omega
      have h4 : n % m ≠ 0 := fun h => hd (Int.dvd_of_emod_eq_zero h)
      rw [h3]
      refine ⟨fun h' => by omega, fun _ => by omega, by omega, by omega⟩

theorem picked_any (n m : Int) (hm : 0 < m) (hm1 : m ≤ 9223372036854775807) (w : World) :
    Calls Try.prog 24 #[.int .i64 n, .int .i64 m] w fun e w' => e = .returned (.int .i64 (n % m)) ∧ w = w' := by
  obtain ⟨f1, f2, f3, f4⟩ := tmod_facts n m hm
  have hm0 : (m == 0) = false := by simp; omega
  by_cases h : n.tmod m < 0
  · have e := Lib.hid (f2 h)
    clear f1 f2
    generalize hq : n.tmod m = q at *
    go_enter Try.func24, Try.ntmps24
    go_wp2
    go_ret
    exact ⟨by rw [← e.out]; rfl, rfl⟩
  · have e := Lib.hid (f1 (by omega))
    clear f1 f2
    generalize hq : n.tmod m = q at *
    go_enter Try.func24, Try.ntmps24
    go_wp2
    go_ret
    exact ⟨by rw [← e.out]; rfl, rfl⟩
end Go.Proofs.Ytippenbfoaohoaa
namespace Go.Proofs.Ytippenbfoaohoaa
set_option linter.unusedVariables false
open Go.RowKit P

structure RawT where
  kind : Int
  a : Int
  b : Int
  text : ByteArray

def raw0 : RawT := ⟨0, 0, 0, ByteArray.empty⟩

/-- 'A' leads to a row below block B whose cells are the raw things rs -/
def RawRow (w : World) (B : Nat) (A : Option Addr) (rs : List RawT) : Prop :=
  0 < rs.length → ∃ b off, A = some ⟨b, off, none⟩ ∧ b < B ∧ ∀ j, j < rs.length →
    w.cell? ⟨b, off + j * 4, none⟩ = some (.int .i64 (rs.getD j raw0).kind) ∧ w.cell? ⟨b, off + j * 4 + 1, none⟩ = some (.int .i64 (rs.getD j raw0).a) ∧
    w.cell? ⟨b, off + j * 4 + 2, none⟩ = some (.int .i64 (rs.getD j raw0).b) ∧ w.cell? ⟨b, off + j * 4 + 3, none⟩ = some (.string (rs.getD j raw0).text)
theorem RawRow.keep {w w' : World} {B : Nat} {A : Option Addr} {rs : List RawT} (h : RawRow w B A rs) (hk : ∀ p : Addr, p.block < B → w'.cell? p = w.cell? p) : RawRow w' B A rs := fun hn => by
  obtain ⟨b, off, e, hb, hc⟩ := h hn
  exact ⟨b, off, e, hb, fun j hj => ⟨(hk _ hb).trans (hc j hj).1, (hk _ hb).trans (hc j hj).2.1, (hk _ hb).trans (hc j hj).2.2.1, (hk _ hb).trans (hc j hj).2.2.2⟩⟩
theorem RawRow.below {w w' : World} {B : Nat} {A : Option Addr} {rs : List RawT} (h : RawRow w B A rs) (hb : Below B w w') : RawRow w' B A rs := h.keep fun _ hp => hb.cell hp

theorem some20 (A : Option Addr) (len cap : Nat) (w : World) (hl : len ≤ cap) (hc : cap ≤ maxLen) :
    Calls Try.prog 23 #[.slice A len cap, .int .i64 20] w fun e w' => e = .returned (.slice A (min len 20) cap) ∧ w = w' := by
  unfold maxLen at hc
  by_cases h : 20 < len
  · have e := Lib.hid (show min len 20 = 20 by omega)
    go_enter Try.func23, Try.ntmps23
    go_wp2
    go_ret
    exact ⟨by rw [e.out]; rfl, rfl⟩
  · have e := Lib.hid (show min len 20 = len by omega)
    go_enter Try.func23, Try.ntmps23
    go_wp2
    go_ret
    exact ⟨by rw [e.out]; rfl, rfl⟩
end Go.Proofs.Ytippenbfoaohoaa
namespace Go.Proofs.Ytippenbfoaohoaa.P
set_option linter.unusedVariables false
open Go.RowKit Go.ChangeShapes Go.WideShapes Go.Deep

section
variable {H : Type} {enc : TypeId × Value → H} {P : Program} {w : World}

/-- what is known of a slice of records that came in -/
theorem open_recs {t e : TypeId} {fs : Array Field} {fuel : Nat} {ao : Option Addr} {len cap : Nat} {d : DataW H} {pl : List MemPlace} (ht : P.underlying t = some (.slice e)) (he : P.underlying e = some (.struct fs))
    (hone : oneCellFields P fs = true) (hC : P.cellsOf e = fs.size) (hp : 0 < fs.size) (h : DataW.trod enc P w 0 (fun _ => true) true fuel t (Value.slice ao len cap).cells.toList = some (d, pl)) :
    len ≤ cap ∧ cap ≤ maxLen ∧ ((d = .nil ∧ cap = 0) ∨ ∃ xs ys, d = .slice xs ys ∧ xs.length + ys.length = cap) ∧
    (0 < len → ∃ b off, ao = some ⟨b, off, none⟩ ∧ b < w.heap.size ∧ ∀ i, i < len → ∀ j f, fs[j]? = some f → ∃ v y n, w.cell? ⟨b, off + (i * fs.size + j), none⟩ = some v ∧ DataW.trod enc P w 0 (fun _ => true) true n f.type [v] = some y) := by
  have hcs : (Value.slice ao len cap).cells.toList = [.slice ao len cap] := by simp [Value.cells]
  rw [hcs] at h
  rcases open_slice ht h with ⟨h0, hx⟩ | ⟨a, len', cap', m, n, D, Pl, h0, hb, hl, hm, hmm, hx, hi⟩
  · simp only [List.cons.injEq, Value.slice.injEq, and_true] at h0
    obtain ⟨rfl, rfl, rfl⟩ := h0
    simp only [Prod.mk.injEq] at hx
    exact ⟨Nat.le_refl _, by unfold maxLen; omega, .inl ⟨hx.1, rfl⟩, fun h => absurd h (by omega)⟩
  · simp only [List.cons.injEq, Value.slice.injEq, and_true] at h0
    obtain ⟨rfl, rfl, rfl⟩ := h0
    simp only [if_true] at hmm
    subst hmm
    simp only [Prod.mk.injEq] at hx
    refine ⟨hl, hm, .inr ⟨_, _, hx.1, by simp; omega⟩, fun hpos => ?_⟩
    have cell : ∀ i, i < m → ∀ j f, fs[j]? = some f → ∃ v y n', w.cell? (a.add (i * fs.size + j)) = some v ∧ DataW.trod enc P w 0 (fun _ => true) true n' f.type [v] = some y := by
      intro i him j f hj
      obtain ⟨cs', hc, ht'⟩ := hi i him
      rw [hC] at hc
      obtain ⟨ys, n', _, _, hlen, hyl, hf⟩ := DataW.trod_struct he ht'
      obtain ⟨_, hcl, hat⟩ := World.cells?_some hc
      obtain ⟨ho, hk⟩ := hone_of hone j f hj
      have hjl : j < fs.size := (Array.getElem?_eq_some_iff.1 hj).1
      have h1 := hf j f hj
      rw [ho, hk, List.drop_eq_getElem_cons (by omega : j < cs'.length), List.getElem?_eq_getElem (by omega)] at h1
      have hcell := hat j hjl
      rw [List.getElem?_eq_getElem (by omega)] at hcell
      exact ⟨_, _, n', by rw [← add_add]; exact hcell, h1⟩
    obtain ⟨f0, hf0⟩ : ∃ f0, fs[0]? = some f0 := ⟨fs[0], Array.getElem?_eq_getElem hp⟩
    obtain ⟨v0, _, _, hc0, _⟩ := cell 0 (by omega) 0 f0 hf0
    have hsp := World.cell?_spot hc0
    obtain ⟨b, off, sp⟩ := a
    have hsp' : sp = none := by simpa [Addr.add] using hsp
    subst hsp'
    refine ⟨b, off, rfl, ?_, fun i hi' j f hj => ?_⟩
    · have := World.block_lt_of_cell? w _ hc0
      simpa [Addr.add] using this
    · obtain ⟨v, y, n', hc, ht'⟩ := cell i (by omega) j f hj
      exact ⟨v, y, n', by rw [add_plain2] at hc; exact hc, ht'⟩
end

/-- a list out of what is known of each place -/
theorem list_of {α : Type} (d : α) (n : Nat) (R : Nat → α → Prop) (h : ∀ i, i < n → ∃ x, R i x) : ∃ xs : List α, xs.length = n ∧ ∀ i, i < n → R i (xs.getD i d) := by
  induction n with
  | zero => exact ⟨[], rfl, fun i hi => absurd hi (by omega)⟩
  | succ n ih =>
    obtain ⟨xs, hl, hx⟩ := ih fun i hi => h i (by omega)
    obtain ⟨x, hxn⟩ := h n (by omega)
    refine ⟨xs ++ [x], by simp [hl], fun i hi => ?_⟩
    by_cases c : i < n
    · have := hx i c
      rw [List.getD_eq_getElem?_getD, List.getElem?_append_left (by omega), ← List.getD_eq_getElem?_getD]
      exact this
    · obtain rfl : i = n := by omega
      rw [List.getD_eq_getElem?_getD, List.getElem?_append_right (by omega), hl, Nat.sub_self]
      exact hxn

section
variable {H : Type} {enc : TypeId × Value → H} {P : Program} {w : World}
theorem open_raws {t e : TypeId} {f0 f1 f2 f3 : Field} {fuel : Nat} {ao : Option Addr} {len cap : Nat} {d : DataW H} {pl : List MemPlace} (ht : P.underlying t = some (.slice e)) (he : P.underlying e = some (.struct #[f0, f1, f2, f3]))
    (hone : oneCellFields P #[f0, f1, f2, f3] = true) (hC : P.cellsOf e = 4) (t0 : P.underlying f0.type = some (.int .i64)) (t1 : P.underlying f1.type = some (.int .i64)) (t2 : P.underlying f2.type = some (.int .i64)) (t3 : P.underlying f3.type = some .string)
    (h : DataW.trod enc P w 0 (fun _ => true) true fuel t (Value.slice ao len cap).cells.toList = some (d, pl)) :
    ∃ rs : List RawT, rs.length = len ∧ RawRow w w.heap.size ao rs ∧ len ≤ cap ∧ cap ≤ maxLen ∧ ((d = .nil ∧ cap = 0) ∨ ∃ xs ys, d = .slice xs ys ∧ xs.length + ys.length = cap) ∧ ∀ i, i < len → (Lit.int .i64 (rs.getD i raw0).kind).wf = true ∧ (Lit.int .i64 (rs.getD i raw0).a).wf = true ∧ (Lit.int .i64 (rs.getD i raw0).b).wf = true ∧ (rs.getD i raw0).text.size ≤ maxLen := by
  obtain ⟨hl, hm, hd, hrow⟩ := open_recs ht he hone hC (by simp) h
  rcases Nat.eq_zero_or_pos len with h0 | h0
  · subst h0
    exact ⟨[], rfl, fun h => absurd h (by simp), hl, hm, hd, fun i hi => absurd hi (by omega)⟩
  · obtain ⟨b, off, rfl, hb, hc⟩ := hrow h0
    obtain ⟨rs, hrl, hrs⟩ := list_of raw0 len (fun i r => w.cell? ⟨b, off + i * 4, none⟩ = some (.int .i64 r.kind) ∧ w.cell? ⟨b, off + i * 4 + 1, none⟩ = some (.int .i64 r.a) ∧
        w.cell? ⟨b, off + i * 4 + 2, none⟩ = some (.int .i64 r.b) ∧ w.cell? ⟨b, off + i * 4 + 3, none⟩ = some (.string r.text) ∧ (Lit.int .i64 r.kind).wf = true ∧ (Lit.int .i64 r.a).wf = true ∧ (Lit.int .i64 r.b).wf = true ∧ r.text.size ≤ maxLen) (fun i hi => by
      obtain ⟨v0, y0, n0, c0, k0⟩ := hc i hi 0 f0 rfl
      obtain ⟨v1, y1, n1, c1, k1⟩ := hc i hi 1 f1 rfl
      obtain ⟨v2, y2, n2, c2, k2⟩ := hc i hi 2 f2 rfl
      obtain ⟨v3, y3, n3, c3, k3⟩ := hc i hi 3 f3 rfl
      obtain ⟨x0, e0, _, w0⟩ := DataW.trod_int t0 k0
      obtain ⟨x1, e1, _, w1⟩ := DataW.trod_int t1 k1
      obtain ⟨x2, e2, _, w2⟩ := DataW.trod_int t2 k2
      obtain ⟨x3, e3, _, w3⟩ := DataW.trod_string t3 k3
      simp only [List.cons.injEq, and_true] at e0 e1 e2 e3
      subst e0 e1 e2 e3
      refine ⟨⟨x0, x1, x2, x3⟩, ?_, ?_, ?_, ?_, w0, w1, w2, w3⟩
      · simpa using c0
      · simpa [Nat.add_assoc] using c1
      · simpa [Nat.add_assoc] using c2
      · simpa [Nat.add_assoc] using c3)
    exact ⟨rs, hrl, fun _ => ⟨b, off, rfl, hb, fun j hj => ⟨(hrs j (by omega)).1, (hrs j (by omega)).2.1, (hrs j (by omega)).2.2.1, (hrs j (by omega)).2.2.2.1⟩⟩, hl, hm, hd, fun i hi => (hrs i hi).2.2.2.2⟩

theorem open_rngs {t e : TypeId} {f0 f1 : Field} {fuel : Nat} {ao : Option Addr} {len cap : Nat} {d : DataW H} {pl : List MemPlace} (ht : P.underlying t = some (.slice e)) (he : P.underlying e = some (.struct #[f0, f1]))
    (hone : oneCellFields P #[f0, f1] = true) (hC : P.cellsOf e = 2) (t0 : P.underlying f0.type = some (.int .i64)) (t1 : P.underlying f1.type = some (.int .i64))
    (h : DataW.trod enc P w 0 (fun _ => true) true fuel t (Value.slice ao len cap).cells.toList = some (d, pl)) :
    ∃ ps : List (Int × Int), ps.length = len ∧ RRow w w.heap.size ao ps ∧ len ≤ cap ∧ cap ≤ maxLen ∧ ((d = .nil ∧ cap = 0) ∨ ∃ xs ys, d = .slice xs ys ∧ xs.length + ys.length = cap) ∧ ∀ i, i < len → (Lit.int .i64 (ps.getD i (0, 0)).1).wf = true ∧ (Lit.int .i64 (ps.getD i (0, 0)).2).wf = true := by
  obtain ⟨hl, hm, hd, hrow⟩ := open_recs ht he hone hC (by simp) h
  rcases Nat.eq_zero_or_pos len with h0 | h0
  · subst h0
    exact ⟨[], rfl, RRow.nil _ _ _, hl, hm, hd, fun i hi => absurd hi (by omega)⟩
  · obtain ⟨b, off, rfl, hb, hc⟩ := hrow h0
    obtain ⟨ps, hrl, hrs⟩ := list_of ((0 : Int), (0 : Int)) len (fun i r => w.cell? ⟨b, off + i * 2, none⟩ = some (.int .i64 r.1) ∧ w.cell? ⟨b, off + i * 2 + 1, none⟩ = some (.int .i64 r.2) ∧ (Lit.int .i64 r.1).wf = true ∧ (Lit.int .i64 r.2).wf = true) (fun i hi => by
      obtain ⟨v0, y0, n0, c0, k0⟩ := hc i hi 0 f0 rfl
      obtain ⟨v1, y1, n1, c1, k1⟩ := hc i hi 1 f1 rfl
      obtain ⟨x0, e0, _, w0⟩ := DataW.trod_int t0 k0
      obtain ⟨x1, e1, _, w1⟩ := DataW.trod_int t1 k1
      simp only [List.cons.injEq, and_true] at e0 e1
      subst e0 e1
      refine ⟨⟨x0, x1⟩, ?_, ?_, w0, w1⟩
      · simpa using c0
      · simpa [Nat.add_assoc] using c1)
    exact ⟨ps, hrl, fun _ => ⟨b, off, rfl, hb, fun j hj => ⟨(hrs j (by omega)).1, (hrs j (by omega)).2.1⟩⟩, hl, hm, hd, fun i hi => (hrs i hi).2.2⟩

/-- a struct of two numbers, by value -/
theorem open_two {r : Reach} {b0 : Nat} {t : TypeId} {f0 f1 : Field} {v : Value} {d : DataW H} {pl : List MemPlace} (ht : P.underlying t = some (.struct #[f0, f1])) (hone : oneCellFields P #[f0, f1] = true) (hC : P.cellsOf t = 2)
    (t0 : P.underlying f0.type = some (.int .i64)) (t1 : P.underlying f1.type = some (.int .i64)) (hv : Value.okWide P w r b0 t v) (h : DataW.Trod enc P w 0 (fun _ => true) true t v d pl) :
    ∃ x y : Int, v = .agg #[.int .i64 x, .int .i64 y] ∧ (Lit.int .i64 x).wf = true ∧ (Lit.int .i64 y).wf = true := by
  obtain ⟨cs, rfl, hsz⟩ := okWide_struct ht hv
  obtain ⟨l⟩ := cs
  match l, hsz.trans hC with
  | [c0, c1], _ =>
    obtain ⟨fuel, hf⟩ := h
    obtain ⟨xs, n, _, hx, _, hlen, hg⟩ := DataW.trod_struct ht hf
    obtain ⟨o0, k0⟩ := hone_of hone 0 f0 rfl
    obtain ⟨o1, k1⟩ := hone_of hone 1 f1 rfl
    match xs, hlen with
    | [y0, y1], _ =>
      have g0 := hg 0 f0 rfl
      have g1 := hg 1 f1 rfl
      rw [o0, k0] at g0
      rw [o1, k1] at g1
      obtain ⟨x, e0, _, w0⟩ := DataW.trod_int t0 g0
      obtain ⟨y, e1, _, w1⟩ := DataW.trod_int t1 g1
      simp [Value.cells] at e0 e1
      subst e0 e1
      exact ⟨x, y, rfl, w0, w1⟩
end
end Go.Proofs.Ytippenbfoaohoaa.P
namespace Go.Proofs.Ytippenbfoaohoaa.P
set_option linter.unusedVariables false
open Go.RowKit

theorem rd_enc (n : Int) (h0 : 0 ≤ n) (h1 : n ≤ 4611686018427387903) (m : List Int) : rd (enc n ++ m) = .ok (n, m) := by
  have h := enc_dec n h0 h1 m
  unfold rd
  rw [if_pos h.1, h.2.1, h.2.2, List.drop_append_of_le_length (by have := enc_len n; omega), List.drop_of_length_le (by have := enc_len n; omega)]
  rfl
theorem rd_ok {s t : List Int} {n : Int} (h : rd s = .ok (n, t)) : decOk s ∧ n = decV s ∧ t = s.drop (kOf (s.getD 0 0)).toNat := by
  unfold rd at h
  split at h
  · rename_i hd
    simp only [Except.ok.injEq, Prod.mk.injEq] at h
    exact ⟨hd, h.1.symm, h.2.symm⟩
  · cases h
theorem rd_err {s : List Int} {e : Int} (h : rd s = .error e) : e = 4 := by
  unfold rd at h
  split at h
  · cases h
  · simpa using h.symm
theorem head_app {s m : List Int} (h : 0 < s.length) : (s ++ m).getD 0 0 = s.getD 0 0 := by
  cases s with
  | nil => simp at h
  | cons a t => rfl
theorem rd_ext {s t : List Int} {n : Int} (m : List Int) (h : rd s = .ok (n, t)) : rd (s ++ m) = .ok (n, t ++ m) := by
  obtain ⟨hd, rfl, rfl⟩ := rd_ok h
  have hk := kOf_bd (s.getD 0 0)
  have h2 := hd.2
  have e0 := head_app (m := m) hd.1
  have hd' : decOk (s ++ m) := ⟨by rw [List.length_append]; have := hd.1; omega, by rw [e0, List.length_append]; omega⟩
  unfold rd
  rw [if_pos hd', e0, List.drop_append_of_le_length (by omega)]
  have e1 : decV (s ++ m) = decV s := by
    unfold decV
    rw [e0]
    congr 1
    rw [List.drop_append_of_le_length (by have := hd.1; omega), List.take_append_of_le_length (by rw [List.length_drop]; omega)]
  rw [e1]
/-- what is read is within what may be, and takes no fewer bytes than it is written in -/
theorem rd_bd {s t : List Int} {n : Int} (hb : Byt s) (h : rd s = .ok (n, t)) : 0 ≤ n ∧ n ≤ 4611686018427387903 ∧ (enc n).length + t.length ≤ s.length ∧ Byt t := by
  obtain ⟨hd, rfl, rfl⟩ := rd_ok h
  have b := decV_bd s hb hd
  have hk := kOf_bd (s.getD 0 0)
  have hl := enc_len (decV s)
  have h2 := hd.2
  exact ⟨b.1, b.2.1, by rw [List.length_drop]; omega, hb.drop _⟩

theorem down_len {b : Int} {x : Int × Int} {t : List (Int × Int)} (h : downFrom b (x :: t)) : okR x ∧ x.2 + 2 ≤ b ∧ downFrom x.1 t := h
theorem decT_enc : ∀ (l : List (Int × Int)) (b : Int) (m : List Int), downFrom b l → b ≤ 4611686018427387905 → decT l.length b (encT b l ++ m) = .ok (l, m)
  | [], b, m, _, _ => rfl
  | x :: l, b, m, h, hb => by
    obtain ⟨⟨x0, x1, x2⟩, h2, h3⟩ := h
    have ih := decT_enc l x.1 m h3 (by omega)
    simp only [encT, List.append_assoc, List.length_cons, decT]
    rw [rd_enc _ (by omega) (by omega)]
    simp only
    rw [rd_enc _ (by omega) (by omega)]
    simp only
    rw [if_neg (by omega), show b - (b - x.2 - 2) - 2 - (x.2 - x.1) = x.1 by omega, show b - (b - x.2 - 2) - 2 = x.2 by omega, ih]
theorem decRs_enc (l : List (Int × Int)) (m : List Int) (h : downL l) (h0 : 0 < l.length) (h6 : l.length ≤ 6) : decRs (encR l ++ m) = .ok (l, m) := by
  cases l with
  | nil => simp at h0
  | cons x l =>
    obtain ⟨⟨x0, x1, x2⟩, h2, h3⟩ := h
    simp only [List.length_cons] at h6
    simp only [encR, List.append_assoc, decRs]
    rw [rd_enc _ (by omega) (by omega)]
    simp only
    rw [rd_enc _ (by omega) (by omega)]
    simp only
    rw [if_neg (by omega), rd_enc _ (by omega) (by omega)]
    simp only
    rw [if_neg (by omega), show x.2 - (x.2 - x.1) = x.1 by omega, show ((l.length : Int)).toNat = l.length by omega, decT_enc l x.1 m h3 (by omega)]

theorem decT_ext (m : List Int) : ∀ (k : Nat) (b : Int) (s : List Int), (∀ l t, decT k b s = .ok (l, t) → decT k b (s ++ m) = .ok (l, t ++ m)) ∧ (∀ e, decT k b s = .error e → e ≠ 4 → decT k b (s ++ m) = .error e)
  | 0, b, s => ⟨fun l t h => by simp only [decT, Except.ok.injEq, Prod.mk.injEq] at h ⊢; exact ⟨h.1, by rw [h.2]⟩, fun e h => by simp [decT] at h⟩
  | k + 1, b, s => by
    simp only [decT]
    cases h1 : rd s with
    | error e => exact ⟨fun l t h => by simp at h, fun e' h he => by simp at h; have := rd_err h1; omega⟩
    | ok p =>
      obtain ⟨g, s1⟩ := p
      rw [rd_ext m h1]
      simp only
      cases h2 : rd s1 with
      | error e => exact ⟨fun l t h => by simp at h, fun e' h he => by simp at h; have := rd_err h2; omega⟩
      | ok p =>
        obtain ⟨n, s2⟩ := p
        rw [rd_ext m h2]
        simp only
        split
        · exact ⟨fun l t h => by simp at h, fun e h _ => h⟩
        · have ih := decT_ext m k (b - g - 2 - n) s2
          cases h3 : decT k (b - g - 2 - n) s2 with
          | error e => exact ⟨fun l t h => by simp at h, fun e' h he => by simp at h; subst h; rw [ih.2 _ h3 he]⟩
          | ok p =>
            obtain ⟨l', s3⟩ := p
            refine ⟨fun l t h => ?_, fun e h => by simp at h⟩
            rw [ih.1 _ _ h3]
            simp only [Except.ok.injEq, Prod.mk.injEq] at h ⊢
            exact ⟨h.1, by rw [h.2]⟩
theorem decRs_ext (m s : List Int) : (∀ l t, decRs s = .ok (l, t) → decRs (s ++ m) = .ok (l, t ++ m)) ∧ (∀ e, decRs s = .error e → e ≠ 4 → decRs (s ++ m) = .error e) := by
  simp only [decRs]
  cases h1 : rd s with
  | error e => exact ⟨fun l t h => by simp at h, fun e' h he => by simp at h; have := rd_err h1; omega⟩
  | ok p =>
    obtain ⟨hi, s1⟩ := p
    rw [rd_ext m h1]
    simp only
    cases h2 : rd s1 with
    | error e => exact ⟨fun l t h => by simp at h, fun e' h he => by simp at h; have := rd_err h2; omega⟩
    | ok p =>
      obtain ⟨n, s2⟩ := p
      rw [rd_ext m h2]
      simp only
      split
      · exact ⟨fun l t h => by simp at h, fun e h _ => h⟩
      · cases h3 : rd s2 with
        | error e => exact ⟨fun l t h => by simp at h, fun e' h he => by simp at h; have := rd_err h3; omega⟩
        | ok p =>
          obtain ⟨n', s3⟩ := p
          rw [rd_ext m h3]
          simp only
          split
          · exact ⟨fun l t h => by simp at h, fun e h _ => h⟩
          · have ih := decT_ext m n.toNat (hi - n') s3
            cases h4 : decT n.toNat (hi - n') s3 with
            | error e => exact ⟨fun l t h => by simp at h, fun e' h he => by simp at h; subst h; rw [ih.2 _ h4 he]⟩
            | ok p =>
              obtain ⟨l', s4⟩ := p
              refine ⟨fun l t h => ?_, fun e h => by simp at h⟩
              rw [ih.1 _ _ h4]
              simp only [Except.ok.injEq, Prod.mk.injEq] at h ⊢
              exact ⟨h.1, by rw [h.2]⟩
theorem rd_set_ext {α : Type} (m s : List Int) (F : Int → α) : (∀ g t, (match rd s with | .error e => (.error e : Except Int (α × List Int)) | .ok (n, t) => .ok (F n, t)) = .ok (g, t) → (match rd (s ++ m) with | .error e => (.error e : Except Int (α × List Int)) | .ok (n, t) => .ok (F n, t)) = .ok (g, t ++ m)) ∧
    (∀ e, (match rd s with | .error e => (.error e : Except Int (α × List Int)) | .ok (n, t) => .ok (F n, t)) = .error e → e ≠ 4 → (match rd (s ++ m) with | .error e => (.error e : Except Int (α × List Int)) | .ok (n, t) => .ok (F n, t)) = .error e) := by
  cases h1 : rd s with
  | error e => exact ⟨fun g t h => by simp at h, fun e' h he => by simp at h; have := rd_err h1; omega⟩
  | ok p =>
    obtain ⟨n, t⟩ := p
    rw [rd_ext m h1]
    refine ⟨fun g t' h => ?_, fun e h => by simp at h⟩
    simp only [Except.ok.injEq, Prod.mk.injEq] at h ⊢
    exact ⟨h.1, by rw [h.2]⟩
theorem decP_r (f : Fr) (s : List Int) : decP f s 114 = match decRs s with | .error e => .error e | .ok (l, t) => .ok ({ f with rs := l }, t) := rfl
theorem decP_i (f : Fr) (s : List Int) : decP f s 105 = match rd s with | .error e => .error e | .ok (n, t) => .ok ({ f with id := n }, t) := rfl
theorem decP_o (f : Fr) (s : List Int) : decP f s 111 = match rd s with | .error e => .error e | .ok (n, t) => .ok ({ f with off := n }, t) := rfl
theorem decP_c (f : Fr) (s : List Int) : decP f s 99 = match rd s with | .error e => .error e | .ok (n, t) => .ok ({ f with code := n }, t) := rfl
theorem decP_w (f : Fr) (s : List Int) : decP f s 119 = if s.length < 8 then .error 4 else .ok ({ f with code := i64Of (beFrom 0 (s.take 8)) }, s.drop 8) := rfl
theorem decP_d (f : Fr) (s : List Int) : decP f s 100 = match rd s with | .error e => .error e | .ok (n, t) => if 120 < n then .error 1 else if (t.length : Int) < n then .error 4 else .ok ({ f with data := t.take n.toNat }, t.drop n.toNat) := rfl
theorem decP_no (f : Fr) (s : List Int) {c : Int} (h1 : c ≠ 114) (h2 : c ≠ 105) (h3 : c ≠ 111) (h4 : c ≠ 99) (h5 : c ≠ 119) (h6 : c ≠ 100) : decP f s c = .ok (f, s) := by
  unfold decP
  rw [if_neg h1, if_neg h2, if_neg h3, if_neg h4, if_neg h5, if_neg h6]
theorem decP_ext (m s : List Int) (f : Fr) (c : Int) : (∀ g t, decP f s c = .ok (g, t) → decP f (s ++ m) c = .ok (g, t ++ m)) ∧ (∀ e, decP f s c = .error e → e ≠ 4 → decP f (s ++ m) c = .error e) := by
  by_cases e1 : c = 114
  · subst e1
    rw [decP_r, decP_r]
    have hx := decRs_ext m s
    cases h1 : decRs s with
    | error e => exact ⟨fun g t h => by simp at h, fun e' h he => by simp at h; subst h; rw [hx.2 _ h1 he]⟩
    | ok p =>
      obtain ⟨l, t⟩ := p
      rw [hx.1 _ _ h1]
      refine ⟨fun g t' h => ?_, fun e h => by simp at h⟩
      simp only [Except.ok.injEq, Prod.mk.injEq] at h ⊢
      exact ⟨h.1, by rw [h.2]⟩
  by_cases e2 : c = 105
  · subst e2
    rw [decP_i, decP_i]
    exact rd_set_ext m s fun n => { f with id := n }
  by_cases e3 : c = 111
  · subst e3
    rw [decP_o, decP_o]
    exact rd_set_ext m s fun n => { f with off := n }
  by_cases e4 : c = 99
  · subst e4
    rw [decP_c, decP_c]
    exact rd_set_ext m s fun n => { f with code := n }
  by_cases e5 : c = 119
  · subst e5
    rw [decP_w, decP_w]
    by_cases h8 : s.length < 8
    · rw [if_pos h8]
      exact ⟨fun g t h => by simp at h, fun e h he => by simp at h; omega⟩
    · rw [if_neg h8]
      refine ⟨fun g t h => ?_, fun e h => by simp at h⟩
      rw [if_neg (by rw [List.length_append]; omega), List.take_append_of_le_length (by omega), List.drop_append_of_le_length (by omega)]
      simp only [Except.ok.injEq, Prod.mk.injEq] at h ⊢
      exact ⟨h.1, by rw [h.2]⟩
  by_cases e6 : c = 100
  · subst e6
    rw [decP_d, decP_d]
    cases h1 : rd s with
    | error e => exact ⟨fun g t h => by simp at h, fun e' h he => by simp at h; have := rd_err h1; omega⟩
    | ok p =>
      obtain ⟨n, t⟩ := p
      rw [rd_ext m h1]
      simp only
      by_cases hn : 120 < n
      · rw [if_pos hn, if_pos hn]
        exact ⟨fun g t h => by simp at h, fun e h _ => h⟩
      · rw [if_neg hn, if_neg hn]
        by_cases hl : (t.length : Int) < n
        · rw [if_pos hl]
          exact ⟨fun g t h => by simp at h, fun e h he => by simp at h; omega⟩
        · rw [if_neg hl]
          refine ⟨fun g t' h => ?_, fun e h => by simp at h⟩
          rw [if_neg (by rw [List.length_append]; omega), List.take_append_of_le_length (by omega), List.drop_append_of_le_length (by omega)]
          simp only [Except.ok.injEq, Prod.mk.injEq] at h ⊢
          exact ⟨h.1, by rw [h.2]⟩
  rw [decP_no f s e1 e2 e3 e4 e5 e6, decP_no f _ e1 e2 e3 e4 e5 e6]
  refine ⟨fun g t h => ?_, fun e h => by simp at h⟩
  simp only [Except.ok.injEq, Prod.mk.injEq] at h ⊢
  exact ⟨h.1, by rw [h.2]⟩
theorem decPs_ext (m : List Int) : ∀ (cs : List Int) (f : Fr) (s : List Int), (∀ g t, decPs cs f s = .ok (g, t) → decPs cs f (s ++ m) = .ok (g, t ++ m)) ∧ (∀ e, decPs cs f s = .error e → e ≠ 4 → decPs cs f (s ++ m) = .error e)
  | [], f, s => ⟨fun g t h => by simp only [decPs, Except.ok.injEq, Prod.mk.injEq] at h ⊢; exact ⟨h.1, by rw [h.2]⟩, fun e h => by simp [decPs] at h⟩
  | c :: cs, f, s => by
    simp only [decPs]
    have hx := decP_ext m s f c
    cases h1 : decP f s c with
    | error e => exact ⟨fun g t h => by simp at h, fun e' h he => by simp at h; subst h; rw [hx.2 _ h1 he]⟩
    | ok p =>
      obtain ⟨g, t⟩ := p
      rw [hx.1 _ _ h1]
      exact decPs_ext m cs g t
theorem decF_ext (m s : List Int) : (∀ f t, decF s = .ok (f, t) → decF (s ++ m) = .ok (f, t ++ m)) ∧ (∀ e, decF s = .error e → e ≠ 4 → decF (s ++ m) = .error e) := by
  unfold decF
  cases h1 : rd s with
  | error e => exact ⟨fun g t h => by simp at h, fun e' h he => by simp at h; have := rd_err h1; omega⟩
  | ok p =>
    obtain ⟨k, t⟩ := p
    rw [rd_ext m h1]
    simp only
    split
    · exact ⟨fun g t h => by simp at h, fun e h _ => h⟩
    · cases hp : partsOf (if k = 14 ∨ k = 15 then 8 else k) with
      | none => exact ⟨fun g t h => by simp at h, fun e h _ => h⟩
      | some ps =>
        simp only
        have hx := decPs_ext m ps ⟨if k = 14 ∨ k = 15 then 8 else k, 0, 0, decide (k = 15), 0, [], []⟩ t
        cases h2 : decPs ps ⟨if k = 14 ∨ k = 15 then 8 else k, 0, 0, decide (k = 15), 0, [], []⟩ t with
        | error e => exact ⟨fun g t h => by simp at h, fun e' h he => by simp at h; subst h; rw [hx.2 _ h2 he]⟩
        | ok p =>
          obtain ⟨f, u⟩ := p
          rw [hx.1 _ _ h2]
          simp only
          split
          · refine ⟨fun g t' h => ?_, fun e h => by simp at h⟩
            simp only [Except.ok.injEq, Prod.mk.injEq] at h ⊢
            exact ⟨h.1, by rw [h.2]⟩
          · exact ⟨fun g t h => by simp at h, fun e h _ => h⟩
end Go.Proofs.Ytippenbfoaohoaa.P
namespace Go.Proofs.Ytippenbfoaohoaa.P
set_option linter.unusedVariables false
open Go.RowKit

theorem cutK_bd (d : Int) : cutK d = 1 ∨ cutK d = 2 ∨ cutK d = 3 ∨ cutK d = 4 := by have := cutK_cases d; omega
theorem winOf_cases (k : Nat) (h : k = 1 ∨ k = 2 ∨ k = 3 ∨ k = 4) : (k = 1 ∧ winOf k = 256) ∨ (k = 2 ∧ winOf k = 65536) ∨ (k = 3 ∧ winOf k = 16777216) ∨ (k = 4 ∧ winOf k = 4294967296) := by
  rcases h with rfl | rfl | rfl | rfl
  · exact .inl ⟨rfl, rfl⟩
  · exact .inr (.inl ⟨rfl, rfl⟩)
  · exact .inr (.inr (.inl ⟨rfl, rfl⟩))
  · exact .inr (.inr (.inr ⟨rfl, rfl⟩))

/-- the lowest bytes, read again, are the remainder -/
theorem be_low (k : Nat) (h : k = 1 ∨ k = 2 ∨ k = 3 ∨ k = 4) (n : Int) : beFrom 0 (lowB k n) = n % winOf k := by
  rcases h with rfl | rfl | rfl | rfl
  · show 0 * 256 + n % 256 = n % 256
    omega
  · show (0 * 256 + n / 256 % 256) * 256 + n % 256 = n % 65536
    omega
  · show ((0 * 256 + n / 256 / 256 % 256) * 256 + n / 256 % 256) * 256 + n % 256 = n % 16777216
    omega
  · show (((0 * 256 + n / 256 / 256 / 256 % 256) * 256 + n / 256 / 256 % 256) * 256 + n / 256 % 256) * 256 + n % 256 = n % 4294967296
    omega

/-- who has seen any one from the last that was told of on makes it whole -/
theorem whole_back (m acked top : Int) (k : Nat) (hk : k = cutK (m - acked)) (h1 : m ≤ 4611686018427387903) (a0 : -1 ≤ acked) (a1 : acked ≤ top) (t1 : top < m) (hd : m - acked ≤ 2147483648) :
    wholeV top (winOf k) (beFrom 0 (lowB k m)) = m := by
  have hb := cutK_bd (m - acked)
  rw [← hk] at hb
  rw [be_low k hb]
  have c := cutK_cases (m - acked)
  rw [← hk] at c
  unfold wholeV
  rcases winOf_cases k hb with ⟨e, ew⟩ | ⟨e, ew⟩ | ⟨e, ew⟩ | ⟨e, ew⟩
  all_goals
    rw [ew]
    have hp := pick3_cases (top + 1 - (top + 1) % winOf k + m % winOf k) (top + 1) (winOf k) (winOf k / 2) (by omega)
    rw [ew] at hp
    omega

theorem be_bd (k : Nat) (h : k = 1 ∨ k = 2 ∨ k = 3 ∨ k = 4) (zs : List Int) (hz : zs.length = k) (hb : Byt zs) : 0 ≤ beFrom 0 zs ∧ beFrom 0 zs < winOf k := by
  have b := beFrom_all 0 zs hb (by omega)
  rw [hz] at b
  rcases h with rfl | rfl | rfl | rfl
  · have e : (256 : Int) ^ 1 = 256 := rfl
    have e' : winOf (1 : Nat) = 256 := rfl
    omega
  · have e : (256 : Int) ^ 2 = 65536 := rfl
    have e' : winOf (2 : Nat) = 65536 := rfl
    omega
  · have e : (256 : Int) ^ 3 = 16777216 := rfl
    have e' : winOf (3 : Nat) = 16777216 := rfl
    omega
  · have e : (256 : Int) ^ 4 = 4294967296 := rfl
    have e' : winOf (4 : Nat) = 4294967296 := rfl
    omega

/-- what is made whole ends as it was cut, and is no farther off than it need be -/
theorem whole_near (t low : Int) (k : Nat) (hk : k = 1 ∨ k = 2 ∨ k = 3 ∨ k = 4) (t0 : 0 ≤ t) (t1 : t < 1152921504606846976) (l0 : 0 ≤ low) (l1 : low < winOf k) :
    let n := wholeV t (winOf k) low
    0 ≤ n ∧ n % winOf k = low ∧ n ≤ t + 1 + winOf k ∧ (t + 1 - winOf k / 2 ≤ n ∨ n - low = 0) ∧ (n ≤ t + 1 + winOf k / 2 ∨ n < winOf k) := by
  intro n
  have hn : n = pick3 (t + 1 - (t + 1) % winOf k + low) (t + 1) (winOf k) (winOf k / 2) := rfl
  clear_value n
  rcases winOf_cases k hk with ⟨e, ew⟩ | ⟨e, ew⟩ | ⟨e, ew⟩ | ⟨e, ew⟩
  all_goals
    have hp := pick3_cases (t + 1 - (t + 1) % winOf k + low) (t + 1) (winOf k) (winOf k / 2) (by omega)
    rw [← hn] at hp
    rw [ew] at hp l1 ⊢
    clear hn
    omega
end Go.Proofs.Ytippenbfoaohoaa.P
namespace Go.Proofs.Ytippenbfoaohoaa.P
set_option linter.unusedVariables false
open Go.RowKit

structure Hd where
  kind : Int
  to : Int
  frm : Int
  tok : List Int
  num : Int
  size : Int

/-- what Check says, by P5.1 -/
def faultH (h : Hd) : Int :=
  if ¬(0 ≤ h.kind ∧ h.kind ≤ 2) then 2
  else if 120 < h.tok.length then 1
  else if ¬(0 ≤ h.to ∧ h.to ≤ 255) ∨ ¬(0 ≤ h.frm ∧ h.frm ≤ 255) then 6
  else if h.kind = 1 then (if h.size ≠ 0 ∨ h.num ≠ 0 then 3 else 0)
  else if ¬(1 ≤ h.size ∧ h.size ≤ 4) ∨ ¬(0 ≤ h.num ∧ h.num < winOf h.size) then 6
  else if h.kind = 2 ∧ (h.frm ≠ 0 ∨ 0 < h.tok.length) then 3
  else 0
/-- the byte that a head begins with -/
def markH (h : Hd) : Int := if h.kind = 2 then 63 + h.size else if h.kind = 0 then 191 + h.size else 240
/-- the bytes of a head, by P5.2 -/
def hdT (h : Hd) : List Int :=
  markH h :: h.to :: ((if h.kind = 2 then [] else h.frm :: (enc h.tok.length ++ h.tok)) ++ lowB h.size.toNat h.num)

/-- the kind, and the Number's size, that a first byte tells -/
def kindH (z : Int) : Option (Int × Int) :=
  if 64 ≤ z ∧ z < 68 then some (2, z - 63) else if 192 ≤ z ∧ z < 196 then some (0, z - 191) else if z = 240 then some (1, 0) else none
def decNum (h : Hd) (s : List Int) : Except Int (Hd × List Int) :=
  if (s.length : Int) < h.size then .error 4 else .ok ({ h with num := beFrom 0 (s.take h.size.toNat) }, s.drop h.size.toNat)
def decTok (s : List Int) : Except Int (List Int × List Int) :=
  match rd s with
  | .error e => .error e
  | .ok (n, t) => if 120 < n then .error 1 else if (t.length : Int) < n then .error 4 else .ok (t.take n.toNat, t.drop n.toNat)
/-- the head that bytes begin with, by P5.3, and what stands behind it -/
def decH : List Int → Except Int (Hd × List Int)
  | [] => .error 4
  | z :: s =>
    match kindH z with
    | none => .error 2
    | some (k, n) =>
      match s with
      | [] => .error 4
      | a :: s =>
        if k = 2 then decNum ⟨2, a, 0, [], 0, n⟩ s else
        match s with
        | [] => .error 4
        | b :: s =>
          match decTok s with
          | .error e => .error e
          | .ok (t, u) => decNum ⟨k, a, b, t, 0, n⟩ u

theorem winOf_le (k : Int) : winOf k ≤ 4294967296 := by unfold winOf; split <;> (try split) <;> (try split) <;> omega
theorem kindH_some {z k n : Int} (h : kindH z = some (k, n)) : (k = 2 ∧ n = z - 63 ∧ 64 ≤ z ∧ z < 68) ∨ (k = 0 ∧ n = z - 191 ∧ 192 ≤ z ∧ z < 196) ∨ (k = 1 ∧ n = 0 ∧ z = 240) := by
  unfold kindH at h
  split at h
  · simp only [Option.some.injEq, Prod.mk.injEq] at h; omega
  split at h
  · simp only [Option.some.injEq, Prod.mk.injEq] at h; omega
  split at h
  · simp only [Option.some.injEq, Prod.mk.injEq] at h; omega
  · cases h
theorem decNum_ext (h : Hd) (m s : List Int) : (∀ g t, decNum h s = .ok (g, t) → decNum h (s ++ m) = .ok (g, t ++ m)) ∧ (∀ e, decNum h s = .error e → e ≠ 4 → decNum h (s ++ m) = .error e) := by
  unfold decNum
  by_cases hl : (s.length : Int) < h.size
  · rw [if_pos hl]
    exact ⟨fun g t h => by simp at h, fun e h he => by simp at h; omega⟩
  · rw [if_neg hl]
    refine ⟨fun g t h' => ?_, fun e h => by simp at h⟩
    rw [if_neg (by rw [List.length_append]; omega), List.take_append_of_le_length (by omega), List.drop_append_of_le_length (by omega)]
    simp only [Except.ok.injEq, Prod.mk.injEq] at h' ⊢
    exact ⟨h'.1, by rw [h'.2]⟩
theorem decTok_ext (m s : List Int) : (∀ g t, decTok s = .ok (g, t) → decTok (s ++ m) = .ok (g, t ++ m)) ∧ (∀ e, decTok s = .error e → e ≠ 4 → decTok (s ++ m) = .error e) := by
  unfold decTok
  cases h1 : rd s with
  | error e => exact ⟨fun g t h => by simp at h, fun e' h he => by simp at h; have := rd_err h1; omega⟩
  | ok p =>
    obtain ⟨n, t⟩ := p
    rw [rd_ext m h1]
    simp only
    by_cases hn : 120 < n
    · rw [if_pos hn, if_pos hn]
      exact ⟨fun g t h => by simp at h, fun e h _ => h⟩
    · rw [if_neg hn, if_neg hn]
      by_cases hl : (t.length : Int) < n
      · rw [if_pos hl]
        exact ⟨fun g t h => by simp at h, fun e h he => by simp at h; omega⟩
      · rw [if_neg hl]
        refine ⟨fun g t' h => ?_, fun e h => by simp at h⟩
        rw [if_neg (by rw [List.length_append]; omega), List.take_append_of_le_length (by omega), List.drop_append_of_le_length (by omega)]
        simp only [Except.ok.injEq, Prod.mk.injEq] at h ⊢
        exact ⟨h.1, by rw [h.2]⟩
theorem decH_ext (m s : List Int) : (∀ g t, decH s = .ok (g, t) → decH (s ++ m) = .ok (g, t ++ m)) ∧ (∀ e, decH s = .error e → e ≠ 4 → decH (s ++ m) = .error e) := by
  cases s with
  | nil => exact ⟨fun g t h => by simp [decH] at h, fun e h he => by simp [decH] at h; omega⟩
  | cons z s =>
    simp only [List.cons_append, decH]
    cases hk : kindH z with
    | none => exact ⟨fun g t h => by simp at h, fun e h _ => h⟩
    | some p =>
      obtain ⟨k, n⟩ := p
      simp only
      cases s with
      | nil => exact ⟨fun g t h => by simp at h, fun e h he => by simp at h; omega⟩
      | cons a s =>
        simp only [List.cons_append]
        by_cases k2 : k = 2
        · rw [if_pos k2, if_pos k2]
          exact decNum_ext _ m s
        · rw [if_neg k2, if_neg k2]
          cases s with
          | nil => exact ⟨fun g t h => by simp at h, fun e h he => by simp at h; omega⟩
          | cons b s =>
            simp only [List.cons_append]
            have hx := decTok_ext m s
            cases h1 : decTok s with
            | error e => exact ⟨fun g t h => by simp at h, fun e' h he => by simp at h; subst h; rw [hx.2 _ h1 he]⟩
            | ok p =>
              obtain ⟨t, u⟩ := p
              rw [hx.1 _ _ h1]
              exact decNum_ext _ m u

/-- a head that may be -/
structure OkH (h : Hd) : Prop where
  kind0 : 0 ≤ h.kind
  kind1 : h.kind ≤ 2
  tok : h.tok.length ≤ 120
  to0 : 0 ≤ h.to
  to1 : h.to ≤ 255
  frm0 : 0 ≤ h.frm
  frm1 : h.frm ≤ 255
  retry : h.kind = 1 → h.size = 0 ∧ h.num = 0
  size : h.kind ≠ 1 → 1 ≤ h.size ∧ h.size ≤ 4 ∧ 0 ≤ h.num ∧ h.num < winOf h.size
  short : h.kind = 2 → h.frm = 0 ∧ h.tok = []
theorem okH_of {h : Hd} (H : faultH h = 0) : OkH h := by
  unfold faultH at H
  split at H
  · omega
  split at H
  · omega
  split at H
  · omega
  split at H
  · split at H
    · omega
    · exact ⟨by omega, by omega, by omega, by omega, by omega, by omega, by omega, fun _ => by omega, fun e => by omega, fun e => by omega⟩
  split at H
  · omega
  split at H
  · omega
  · rename_i c1 c2 c3 c4 c5 c6
    exact ⟨by omega, by omega, by omega, by omega, by omega, by omega, by omega, fun e => absurd e c4, fun e => ⟨by omega, by omega, by omega, by omega⟩, fun e => ⟨by omega, List.eq_nil_of_length_eq_zero (by omega)⟩⟩
theorem of_okH {h : Hd} (H : OkH h) : faultH h = 0 := by
  unfold faultH
  have h1 := H.kind0; have h2 := H.kind1; have h3 := H.tok; have h4 := H.to0; have h5 := H.to1; have h6 := H.frm0; have h7 := H.frm1
  rw [if_neg (by omega), if_neg (by omega), if_neg (by omega)]
  by_cases k : h.kind = 1
  · rw [if_pos k, if_neg (by have := H.retry k; omega)]
  · have := H.size k
    rw [if_neg k, if_neg (by omega)]
    by_cases k2 : h.kind = 2
    · have h8 := H.short k2
      rw [if_neg (by rw [h8.2]; simp; omega)]
    · rw [if_neg (by omega)]

theorem decNum_low (h : Hd) (H : OkH h) (m : List Int) : decNum { h with num := 0 } (lowB h.size.toNat h.num ++ m) = .ok (h, m) := by
  have hl := lowB_len h.size.toNat h.num
  have hs : 0 ≤ h.size := by
    by_cases k : h.kind = 1
    · have := H.retry k; omega
    · have := H.size k; omega
  unfold decNum
  simp only
  rw [if_neg (by rw [List.length_append]; omega), List.take_append_of_le_length (by omega), List.take_of_length_le (by omega), List.drop_append_of_le_length (by omega), List.drop_of_length_le (by omega), List.nil_append]
  have e : beFrom 0 (lowB h.size.toNat h.num) = h.num := by
    by_cases k : h.kind = 1
    · have := H.retry k
      rw [this.1, this.2]; rfl
    · have := H.size k
      rw [be_low _ (by omega), show ((h.size.toNat : Nat) : Int) = h.size by omega]
      exact Int.emod_eq_of_lt this.2.2.1 this.2.2.2
  rw [e]
theorem decTok_enc (t m : List Int) (h : t.length ≤ 120) : decTok (enc t.length ++ (t ++ m)) = .ok (t, m) := by
  unfold decTok
  rw [rd_enc _ (by omega) (by omega)]
  simp only
  rw [if_neg (by omega), if_neg (by rw [List.length_append]; omega), show ((t.length : Int)).toNat = t.length by omega, List.take_left, List.drop_left]
/-- a head is read as it was written, whatever stands behind it -/
theorem decH_back {h : Hd} (H : faultH h = 0) (m : List Int) : decH (hdT h ++ m) = .ok (h, m) := by
  have H := okH_of H
  have h1 := H.kind0
  have h2 := H.kind1
  have key := decNum_low h H m
  unfold hdT
  simp only [List.cons_append, List.append_assoc, decH]
  rcases (show h.kind = 2 ∨ h.kind = 0 ∨ h.kind = 1 by omega) with k | k | k
  · have hs := H.size (by omega)
    have hh := H.short k
    rw [show markH h = 63 + h.size from if_pos k, show kindH (63 + h.size) = some (2, h.size) by unfold kindH; rw [if_pos (by omega), show 63 + h.size - 63 = h.size by omega]]
    simp only
    rw [if_pos trivial, if_pos k, List.nil_append]
    rw [show ({ h with num := 0 } : Hd) = ⟨2, h.to, 0, [], 0, h.size⟩ by cases h; simp_all] at key
    exact key
  · have hs := H.size (by omega)
    rw [show markH h = 191 + h.size by unfold markH; rw [if_neg (by omega), if_pos k], show kindH (191 + h.size) = some (0, h.size) by unfold kindH; rw [if_neg (by omega), if_pos (by omega), show 191 + h.size - 191 = h.size by omega]]
    simp only
    rw [if_neg (by omega), if_neg (by omega)]
    simp only [List.cons_append, List.append_assoc]
    rw [decTok_enc _ _ H.tok]
    simp only
    rw [show ({ h with num := 0 } : Hd) = ⟨0, h.to, h.frm, h.tok, 0, h.size⟩ by cases h; simp_all] at key
    exact key
  · have hs := H.retry k
    rw [show markH h = 240 by unfold markH; rw [if_neg (by omega), if_neg (by omega)], show kindH 240 = some (1, 0) from rfl]
    simp only
    rw [if_neg (by omega), if_neg (by omega)]
    simp only [List.cons_append, List.append_assoc]
    rw [decTok_enc _ _ H.tok]
    simp only
    rw [show ({ h with num := 0 } : Hd) = ⟨1, h.to, h.frm, h.tok, 0, 0⟩ by cases h; simp_all] at key
    exact key
/-- cut short it is none -/
theorem decH_cut {h : Hd} (H : faultH h = 0) (j : Nat) (hj : j < (hdT h).length) : decH ((hdT h).take j) = .error 4 := by
  have hx := decH_ext ((hdT h).drop j) ((hdT h).take j)
  rw [List.take_append_drop] at hx
  have hb := decH_back H []
  rw [List.append_nil] at hb
  cases hd : decH ((hdT h).take j) with
  | ok p =>
    obtain ⟨g, t⟩ := p
    have := hx.1 g t hd
    rw [hb] at this
    simp only [Except.ok.injEq, Prod.mk.injEq] at this
    have hl := congrArg List.length this.2
    rw [List.length_append, List.length_drop, List.length_nil] at hl
    omega
  | error e =>
    by_cases he : e = 4
    · rw [he]
    · have := hx.2 e hd he
      rw [hb] at this
      cases this
/-- of the bytes behind a head: fewer, and bytes -/
theorem decNum_any {g h : Hd} {s t : List Int} (hb : Byt s) (hs : g.size = 0 ∨ 1 ≤ g.size ∧ g.size ≤ 4) (hd : decNum g s = .ok (h, t)) : h = { g with num := h.num } ∧ s.length = g.size.toNat + t.length ∧ t = s.drop g.size.toNat ∧ 0 ≤ h.num ∧ (g.size = 0 → h.num = 0) ∧ (g.size ≠ 0 → h.num < winOf g.size) := by
  unfold decNum at hd
  by_cases hl : (s.length : Int) < g.size
  · rw [if_pos hl] at hd; simp at hd
  rw [if_neg hl] at hd
  simp only [Except.ok.injEq, Prod.mk.injEq] at hd
  obtain ⟨rfl, rfl⟩ := hd
  refine ⟨rfl, by rw [List.length_drop]; omega, rfl, ?_⟩
  simp only
  rcases hs with h0 | h1
  · rw [h0]
    exact ⟨Int.le_refl 0, fun _ => rfl, fun e => absurd rfl e⟩
  · have b := be_bd g.size.toNat (by omega) (s.take g.size.toNat) (by rw [List.length_take]; omega) (hb.take _)
    rw [show ((g.size.toNat : Nat) : Int) = g.size by omega] at b
    exact ⟨b.1, fun e => by omega, fun _ => b.2⟩
theorem decTok_any {s t u : List Int} (hb : Byt s) (h : decTok s = .ok (t, u)) : t.length ≤ 120 ∧ (enc t.length).length + t.length + u.length ≤ s.length ∧ Byt t ∧ Byt u := by
  unfold decTok at h
  cases h1 : rd s with
  | error e => rw [h1] at h; simp at h
  | ok p =>
    obtain ⟨n, v⟩ := p
    have r := rd_bd hb h1
    rw [h1] at h
    simp only at h
    by_cases hn : 120 < n
    · rw [if_pos hn] at h; simp at h
    rw [if_neg hn] at h
    by_cases hl : (v.length : Int) < n
    · rw [if_pos hl] at h; simp at h
    rw [if_neg hl] at h
    simp only [Except.ok.injEq, Prod.mk.injEq] at h
    obtain ⟨rfl, rfl⟩ := h
    have e : (((v.take n.toNat).length : Nat) : Int) = n := by rw [List.length_take]; omega
    rw [e, List.length_take, List.length_drop]
    exact ⟨by omega, by omega, r.2.2.2.take _, r.2.2.2.drop _⟩
/-- what is read may be, and is written in no more bytes -/
theorem decH_any {s t : List Int} {h : Hd} (hb : Byt s) (hd : decH s = .ok (h, t)) : faultH h = 0 ∧ (hdT h).length + t.length ≤ s.length ∧ Byt h.tok := by
  cases s with
  | nil => simp [decH] at hd
  | cons z s =>
    simp only [decH] at hd
    cases hk : kindH z with
    | none => rw [hk] at hd; simp at hd
    | some p =>
      obtain ⟨k, n⟩ := p
      rw [hk] at hd
      have kk := kindH_some hk
      simp only at hd
      cases s with
      | nil => simp at hd
      | cons a s =>
        have ba := hb 1
        simp only [List.getD_cons_succ, List.getD_cons_zero] at ba
        simp only at hd
        by_cases k2 : k = 2
        · rw [if_pos k2] at hd
          have hs : Byt s := hb.drop 2
          have r := decNum_any hs (.inr (by simp only; omega)) hd
          obtain ⟨e, l, _, n0, _, n1⟩ := r
          simp only at l n1
          generalize h.num = v at *
          subst e
          refine ⟨of_okH ⟨by simp, by simp, by simp, by simp only; omega, by simp only; omega, by simp, by simp, fun e => by simp at e, fun _ => ⟨by simp only; omega, by simp only; omega, n0, n1 (by omega)⟩, fun _ => ⟨rfl, rfl⟩⟩, ?_, Byt.nil⟩
          unfold hdT
          simp only [List.length_cons, List.length_append, lowB_len, if_true, List.length_nil]
          omega
        · rw [if_neg k2] at hd
          cases s with
          | nil => simp at hd
          | cons b s =>
            have bb := hb 2
            simp only [List.getD_cons_succ, List.getD_cons_zero] at bb
            have hs : Byt s := hb.drop 3
            simp only at hd
            cases h1 : decTok s with
            | error e => rw [h1] at hd; simp at hd
            | ok p =>
              obtain ⟨tk, u⟩ := p
              rw [h1] at hd
              simp only at hd
              have q := decTok_any hs h1
              have r := decNum_any q.2.2.2 (by simp only; omega) hd
              obtain ⟨e, l, _, n0, nz, n1⟩ := r
              simp only at l n1 nz
              generalize h.num = v at *
              subst e
              refine ⟨of_okH ⟨by simp only; omega, by simp only; omega, q.1, by simp only; omega, by simp only; omega, by simp only; omega, by simp only; omega, fun e => ?_, fun e => ?_, fun e => absurd e k2⟩, ?_, q.2.2.1⟩
              · simp only at e ⊢
                exact ⟨by omega, nz (by omega)⟩
              · simp only at e ⊢
                exact ⟨by omega, by omega, n0, n1 (by omega)⟩
              · unfold hdT
                simp only [if_neg k2, List.length_cons, List.length_append, lowB_len]
                omega
theorem hdT_len {h : Hd} (H : OkH h) : (hdT h).length ≤ 200 := by
  unfold hdT
  have h1 := H.kind0; have h2 := H.kind1; have h3 := H.tok
  have hl := enc_len h.tok.length
  have hs := sz_bd h.tok.length
  have hz : h.size ≤ 4 := by
    by_cases k : h.kind = 1
    · have := H.retry k; omega
    · have := H.size k; omega
  simp only [List.length_cons, List.length_append, lowB_len]
  split <;> simp <;> omega
theorem hdT_byt {h : Hd} (H : OkH h) (hb : Byt h.tok) : Byt (hdT h) := by
  unfold hdT
  have h1 := H.kind0; have h2 := H.kind1; have h3 := H.tok; have h4 := H.to0; have h5 := H.to1; have h6 := H.frm0; have h7 := H.frm1
  refine byt_cons ?_ (byt_cons ⟨h4, h5⟩ (Byt.append ?_ (lowB_byt _ _)))
  · unfold markH
    rcases (show h.kind = 2 ∨ h.kind = 0 ∨ h.kind = 1 by omega) with k | k | k
    · have := H.size (by omega)
      rw [if_pos k]; omega
    · have := H.size (by omega)
      rw [if_neg (by omega), if_pos k]; omega
    · rw [if_neg (by omega), if_neg (by omega)]; omega
  · split
    · exact Byt.nil
    · exact byt_cons ⟨h6, h7⟩ (Byt.append (enc_byt _ (by omega) (by omega)) hb)
theorem hdT_pos (h : Hd) : 0 < (hdT h).length := by unfold hdT; simp
end Go.Proofs.Ytippenbfoaohoaa.P
namespace Go.Proofs.Ytippenbfoaohoaa.P
set_option linter.unusedVariables false
open Go.RowKit

/-- v says the head h; its Token lies below block B -/
structure HdVal (w : World) (B : Nat) (v : Value) (h : Hd) : Prop where
  ex : ∃ d, v = .agg #[.int .i64 h.kind, .int .i64 h.to, .int .i64 h.frm, d, .int .i64 h.num, .int .i64 h.size] ∧ BSl w B d h.tok
/-- its numbers fit -/
structure HdWf (h : Hd) : Prop where
  kind : (Lit.int .i64 h.kind).wf = true
  to : (Lit.int .i64 h.to).wf = true
  frm : (Lit.int .i64 h.frm).wf = true
  num : (Lit.int .i64 h.num).wf = true
  size : (Lit.int .i64 h.size).wf = true
theorem HdVal.below {w w' : World} {B : Nat} {v : Value} {h : Hd} (k : HdVal w B v h) (hb : Below B w w') : HdVal w' B v h := by
  obtain ⟨d, rfl, hd⟩ := k.ex
  exact ⟨d, rfl, hd.below hb⟩
theorem HdVal.more {w : World} {B B' : Nat} {v : Value} {h : Hd} (k : HdVal w B v h) (hB : B ≤ B') : HdVal w B' v h := by
  obtain ⟨d, rfl, hd⟩ := k.ex
  exact ⟨d, rfl, hd.more hB⟩
theorem HdVal.on {w w' : World} {v : Value} {h : Hd} (k : HdVal w w.heap.size v h) (hb : Below w.heap.size w w') : HdVal w' w'.heap.size v h := (k.below hb).more hb.size
theorem wf_i64 {n : Int} : (Lit.int .i64 n).wf = true ↔ -9223372036854775808 ≤ n ∧ n ≤ 9223372036854775807 := by
  have a1 : IntKind.i64.min = -9223372036854775808 := by kernel_rfl
  have a2 : IntKind.i64.max = 9223372036854775807 := by kernel_rfl
  rw [Lit.wf_int_iff, a1, a2]
/-- the zero head -/
def hd0 : Hd := ⟨0, 0, 0, [], 0, 0⟩
theorem HdVal.zero (w : World) (B : Nat) : HdVal w B (.agg #[.int .i64 0, .int .i64 0, .int .i64 0, .slice none 0 0, .int .i64 0, .int .i64 0]) hd0 := ⟨_, rfl, BSl.nil w B⟩
theorem OkH.wf {h : Hd} (H : OkH h) : HdWf h := by
  have h1 := H.kind0; have h2 := H.kind1; have h4 := H.to0; have h5 := H.to1; have h6 := H.frm0; have h7 := H.frm1
  have hn : 0 ≤ h.num ∧ h.num ≤ 4294967296 ∧ 0 ≤ h.size ∧ h.size ≤ 4 := by
    by_cases k : h.kind = 1
    · have := H.retry k; omega
    · have := H.size k
      have := winOf_le h.size
      omega
  refine ⟨?_, ?_, ?_, ?_, ?_⟩ <;> rw [wf_i64] <;> omega
/-- what is asked of a reader of heads, by P5.3 -/
def HdDec (zs : List Int) (w : World) (e : Ending) (w' : World) : Prop :=
  Below w.heap.size w w' ∧ match decH zs with
  | .error x => e = .returned (.tuple #[.agg #[.int .i64 0, .int .i64 0, .int .i64 0, .slice none 0 0, .int .i64 0, .int .i64 0], .int .i64 0, .int .i64 x])
  | .ok (h, t) => ∃ v, e = .returned (.tuple #[v, .int .i64 ((zs.length : Int) - t.length), .int .i64 0]) ∧ HdVal w' w'.heap.size v h
theorem hdDec_er {zs : List Int} {w w' : World} {e : Ending} {x : Int} (hd : decH zs = .error x) (h : e = .returned (.tuple #[.agg #[.int .i64 0, .int .i64 0, .int .i64 0, .slice none 0 0, .int .i64 0, .int .i64 0], .int .i64 0, .int .i64 x]) ∧ Below w.heap.size w w') : HdDec zs w e w' := by
  unfold HdDec
  rw [hd]
  exact ⟨h.2, h.1⟩
theorem hdDec_ok {zs t : List Int} {w w' : World} {e : Ending} {h : Hd} {v : Value} {n : Int} (hd : decH zs = .ok (h, t)) (he : e = .returned (.tuple #[v, .int .i64 n, .int .i64 0])) (hn : n = (zs.length : Int) - t.length) (hb : Below w.heap.size w w') (hv : HdVal w' w'.heap.size v h) : HdDec zs w e w' := by
  unfold HdDec
  rw [hd]
  subst hn
  exact ⟨hb, v, he, hv⟩
/-- what is asked of a writer of heads, by P5.2 -/
def HdEnc (h : Hd) (w : World) (e : Ending) (w' : World) : Prop :=
  Below w.heap.size w w' ∧ ∃ d, e = .returned (.tuple #[d, .int .i64 (faultH h)]) ∧ BSl w' w'.heap.size d (if faultH h = 0 then hdT h else [])
theorem hdEnc_yes {h : Hd} {w w' : World} {e : Ending} (k : HdEnc h w e w') (H : faultH h = 0) : Below w.heap.size w w' ∧ ∃ A c, e = .returned (.tuple #[.slice A (hdT h).length c, .int .i64 0]) ∧ (hdT h).length ≤ c ∧ c ≤ maxLen ∧ (A = none → c = 0) ∧ BRow w' w'.heap.size A (hdT h) := by
  obtain ⟨hb, d, rfl, hd⟩ := k
  rw [H, if_pos rfl] at hd
  obtain ⟨A, c, rfl, h1, h2, h3, h4⟩ := hd.ex
  rw [H]
  exact ⟨hb, A, c, rfl, h1, h2, h3, h4⟩
end Go.Proofs.Ytippenbfoaohoaa.P
namespace Go.Proofs.Ytippenbfoaohoaa.P
set_option linter.unusedVariables false
open Go.RowKit Go.ChangeShapes Go.WideShapes Go.Deep

section
variable {H : Type} {enc : TypeId × Value → H} {P : Program} {w : World}
theorem slice_of1 {t e : TypeId} {fuel : Nat} {v : Value} {y : DataW H × List MemPlace} (ht : P.underlying t = some (.slice e)) (h : DataW.trod enc P w 0 (fun _ => true) true fuel t [v] = some y) : ∃ A n c, v = .slice A n c := by
  rcases open_slice ht h with ⟨h0, _⟩ | ⟨a, len', cap', m, n, D, Pl, h0, _⟩
  · exact ⟨none, 0, 0, by simpa using h0⟩
  · exact ⟨_, _, _, by simpa using h0⟩
theorem open_hd {r : Reach} {b0 : Nat} {t e3 : TypeId} {f0 f1 f2 f3 f4 f5 : Field} {v : Value} {d : DataW H} {pl : List MemPlace} (ht : P.underlying t = some (.struct #[f0, f1, f2, f3, f4, f5])) (hone : oneCellFields P #[f0, f1, f2, f3, f4, f5] = true) (hC : P.cellsOf t = 6)
    (t0 : P.underlying f0.type = some (.int .i64)) (t1 : P.underlying f1.type = some (.int .i64)) (t2 : P.underlying f2.type = some (.int .i64)) (t3 : P.underlying f3.type = some (.slice e3)) (t4 : P.underlying f4.type = some (.int .i64)) (t5 : P.underlying f5.type = some (.int .i64))
    (he3 : P.underlying e3 = some (.int .u8)) (hC3 : P.cellsOf e3 = 1)
    (hv : Value.okWide P w r b0 t v) (h : DataW.Trod enc P w 0 (fun _ => true) true t v d pl) :
    ∃ f : Hd, HdVal w w.heap.size v f ∧ HdWf f := by
  obtain ⟨cs, rfl, hsz⟩ := okWide_struct ht hv
  obtain ⟨l⟩ := cs
  match l, hsz.trans hC with
  | [c0, c1, c2, c3, c4, c5], _ =>
    obtain ⟨fuel, hf⟩ := h
    obtain ⟨xs, n, _, hx, _, hlen, hg⟩ := DataW.trod_struct ht hf
    obtain ⟨o0, k0⟩ := hone_of hone 0 f0 rfl
    obtain ⟨o1, k1⟩ := hone_of hone 1 f1 rfl
    obtain ⟨o2, k2⟩ := hone_of hone 2 f2 rfl
    obtain ⟨o3, k3⟩ := hone_of hone 3 f3 rfl
    obtain ⟨o4, k4⟩ := hone_of hone 4 f4 rfl
    obtain ⟨o5, k5⟩ := hone_of hone 5 f5 rfl
    match xs, hlen with
    | [y0, y1, y2, y3, y4, y5], _ =>
      have q0 : DataW.trod enc P w 0 (fun _ => true) true n f0.type [c0] = some y0 := by simpa [Value.cells, o0, k0] using hg 0 f0 rfl
      have q1 : DataW.trod enc P w 0 (fun _ => true) true n f1.type [c1] = some y1 := by simpa [Value.cells, o1, k1] using hg 1 f1 rfl
      have q2 : DataW.trod enc P w 0 (fun _ => true) true n f2.type [c2] = some y2 := by simpa [Value.cells, o2, k2] using hg 2 f2 rfl
      have q3 : DataW.trod enc P w 0 (fun _ => true) true n f3.type [c3] = some y3 := by simpa [Value.cells, o3, k3] using hg 3 f3 rfl
      have q4 : DataW.trod enc P w 0 (fun _ => true) true n f4.type [c4] = some y4 := by simpa [Value.cells, o4, k4] using hg 4 f4 rfl
      have q5 : DataW.trod enc P w 0 (fun _ => true) true n f5.type [c5] = some y5 := by simpa [Value.cells, o5, k5] using hg 5 f5 rfl
      obtain ⟨x0, e0, _, w0⟩ := DataW.trod_int t0 q0
      obtain ⟨x1, e1, _, w1⟩ := DataW.trod_int t1 q1
      obtain ⟨x2, e2, _, w2⟩ := DataW.trod_int t2 q2
      obtain ⟨x4, e4, _, w4⟩ := DataW.trod_int t4 q4
      obtain ⟨x5, e5, _, w5⟩ := DataW.trod_int t5 q5
      obtain ⟨A', m', c', e3'⟩ := slice_of1 t3 q3
      simp only [List.cons.injEq, and_true] at e0 e1 e2 e4 e5
      subst e0 e1 e2 e4 e5 e3'
      have hrow : ∃ zs : List Int, IsRow .u8 w A' m' c' zs := by
        rcases open_ints t3 he3 hC3 q3 with ⟨hcs, _⟩ | ⟨x, l, c, zs, hcs, _, hl, hm, hz, hx, hcell, hwz⟩
        · simp at hcs
          obtain ⟨rfl, rfl, rfl⟩ := hcs
          exact ⟨[], .inl ⟨rfl, rfl, rfl, rfl⟩⟩
        · simp at hcs
          obtain ⟨rfl, rfl, rfl⟩ := hcs
          exact ⟨zs, .inr ⟨_, rfl, hl, hm, by simpa using hz, hcell, hwz⟩⟩
      obtain ⟨zs, hz⟩ := hrow
      obtain ⟨hb, hzl, hzc, hzm⟩ := InRow.brow hz
      have hnone : A' = none → c' = 0 := by
        rcases hz with ⟨_, _, h, _⟩ | ⟨x, h, _⟩
        · exact fun _ => h
        · intro e; rw [h] at e; cases e
      exact ⟨⟨x0, x1, x2, zs.take m', x4, x5⟩, ⟨_, rfl, ⟨A', c', by rw [hzl], by rw [hzl]; exact hzc, hzm, hnone, hb⟩⟩, ⟨w0, w1, w2, w4, w5⟩⟩
end
end Go.Proofs.Ytippenbfoaohoaa.P
namespace Go.Proofs.Ytippenbfoaohoaa.P
set_option linter.unusedVariables false

theorem bulk_one {H : Type} (d : DataW H) : 1 ≤ Rows.uptoBulk d := by
  cases d with
  | lit l => cases l <;> simp [Rows.uptoBulk]
  | nil => simp [Rows.uptoBulk]
  | ptr d => simp [Rows.uptoBulk]
  | slice a b => simp [Rows.uptoBulk]
  | agg l => simp [Rows.uptoBulk]
  | iface t d => simp [Rows.uptoBulk]
  | map l => simp [Rows.uptoBulk]
  | held h => simp [Rows.uptoBulk]
theorem bulk_app {H : Type} (l r : List (DataW H)) : Rows.uptoBulkAll (l ++ r) = Rows.uptoBulkAll l + Rows.uptoBulkAll r := by
  induction l with
  | nil => simp [Rows.uptoBulkAll]
  | cons x l ih => simp only [List.cons_append, Rows.uptoBulkAll, ih]; omega
theorem bulk_len {H : Type} (l : List (DataW H)) : l.length ≤ Rows.uptoBulkAll l := by
  induction l with
  | nil => simp [Rows.uptoBulkAll]
  | cons x r ih => have := bulk_one x; simp only [Rows.uptoBulkAll, List.length_cons]; omega
theorem bulk_mem {H : Type} {d : DataW H} {l : List (DataW H)} (h : d ∈ l) : Rows.uptoBulk d ≤ Rows.uptoBulkAll l := by
  induction l with
  | nil => cases h
  | cons x r ih =>
    simp only [Rows.uptoBulkAll]
    rcases List.mem_cons.1 h with e | e
    · subst e; omega
    · have := ih e; omega
theorem weigh_mem {H : Type} {P : Program} {e : TypeId} : ∀ {l : List (DataW H)} {d : DataW H}, d ∈ l → ∀ n ∈ d.weights P e, n ∈ DataW.weightsAll P e l
  | x :: r, d, hd, n, hn => by
    simp only [DataW.weightsAll, List.mem_append]
    rcases List.mem_cons.1 hd with h | h
    · subst h; exact .inl hn
    · exact .inr (weigh_mem h n hn)
/-- what one argument weighs -/
theorem weigh_at {H : Type} {P : Program} {ts : List TypeId} {ds : List (DataW H)} (h : (DataW.weightsEach P ts ds).all (· ≤ reachBytes) = true) {j : Nat} {t : TypeId} {d : DataW H} (ht : ts[j]? = some t) (hd : ds[j]? = some d) : ∀ n ∈ d.weights P t, n ≤ 140737488351232 := fun n hn =>
  of_decide_eq_true (List.all_eq_true.1 h _ (DataW.weights_mem_each ht hd n hn))
end Go.Proofs.Ytippenbfoaohoaa.P
namespace Go.Proofs.Ytippenbfoaohoaa.P
set_option linter.unusedVariables false
open Go.RowKit Go.ChangeShapes Go.WideShapes Go.Deep

section
variable {H : Type} {enc : TypeId × Value → H} {P : Program} {w : World}
theorem row_bsl {A : Option Addr} {m c : Nat} {zs : List Int} (hz : IsRow .u8 w A m c zs) : BSl w w.heap.size (.slice A m c) (zs.take m) ∧ (zs.take m).length = m ∧ m ≤ c := by
  obtain ⟨hb, hzl, hzc, hzm⟩ := InRow.brow hz
  have hnone : A = none → c = 0 := by
    rcases hz with ⟨_, _, h, _⟩ | ⟨x, h, _⟩
    · exact fun _ => h
    · intro e; rw [h] at e; cases e
  exact ⟨⟨A, c, by rw [hzl], by rw [hzl]; exact hzc, hzm, hnone, hb⟩, hzl, hzc⟩
/-- bytes that came in: what they weigh, their bulk -/
theorem open_bytes {t e : TypeId} {fuel : Nat} {v : Value} {d : DataW H} {pl : List MemPlace} (ht : P.underlying t = some (.slice e)) (he : P.underlying e = some (.int .u8)) (hC : P.cellsOf e = 1) (hB : P.bytesOf e = 1)
    (h : DataW.trod enc P w 0 (fun _ => true) true fuel t [v] = some (d, pl)) :
    ∃ zs : List Int, BSl w w.heap.size v zs ∧ ((∀ n ∈ d.weights P t, n ≤ 140737488351232) → zs.length ≤ 140737488351232) ∧ zs.length ≤ Rows.uptoBulk d := by
  obtain ⟨A, m, c, rfl⟩ := slice_of1 ht h
  rcases open_ints ht he hC h with ⟨hcs, hx⟩ | ⟨x, l, c', zs, hcs, _, hl, hm, hz, hx, hcell, hwz⟩
  · simp only [List.cons.injEq, Value.slice.injEq, and_true] at hcs
    obtain ⟨rfl, rfl, rfl⟩ := hcs
    exact ⟨[], BSl.nil _ _, fun _ => Nat.zero_le _, Nat.zero_le _⟩
  · simp only [List.cons.injEq, Value.slice.injEq, and_true] at hcs
    obtain ⟨rfl, rfl, rfl⟩ := hcs
    have hz' : zs.length = c := by simpa using hz
    obtain ⟨hb, hzl, hzc⟩ := row_bsl (zs := zs) (w := w) (A := some x) (m := m) (c := c) (.inr ⟨_, rfl, hl, hm, hz', hcell, hwz⟩)
    have hd := (Prod.mk.inj hx).1
    refine ⟨zs.take m, hb, fun hn => ?_, ?_⟩
    · have := hn ((lits (H := H) .u8 (zs.take m)).length + (lits (H := H) .u8 (zs.drop m)).length) (by rw [hd]; simp only [DataW.weights, ht, hB, Nat.mul_one]; exact List.mem_cons_self)
      simp only [lits, List.length_map] at this
      omega
    · rw [hd]
      have := bulk_len (lits (H := H) .u8 (zs.take m))
      simp only [lits, List.length_map] at this
      simp only [Rows.uptoBulk, lits]
      omega
theorem sum_bulk (ps : List Pc) (D : Nat → DataW H) (h : ∀ i, i < ps.length → (ps.getD i pc0).2.length ≤ Rows.uptoBulk (D i)) : ∀ n, n ≤ ps.length → sumP (ps.take n) ≤ Rows.uptoBulkAll ((List.range n).map D)
  | 0, _ => by simp [sumP]
  | n + 1, hn => by
    have ih := sum_bulk ps D h n (by omega)
    rw [take_step (by omega), sumP_app, List.range_succ, List.map_append, bulk_app]
    have := h n (by omega)
    have e : sumP [ps.getD n pc0] = (ps.getD n pc0).2.length := by simp [sumP]
    have e2 : Rows.uptoBulkAll ([n].map D) = Rows.uptoBulk (D n) := by simp [Rows.uptoBulkAll]
    omega
theorem open_pcs {t e e1 : TypeId} {g0 g1 : Field} {fuel : Nat} {ao : Option Addr} {len cap : Nat} {d : DataW H} {pl : List MemPlace} (ht : P.underlying t = some (.slice e)) (he : P.underlying e = some (.struct #[g0, g1])) (hone : oneCellFields P #[g0, g1] = true) (hC : P.cellsOf e = 2)
    (u0 : P.underlying g0.type = some (.int .i64)) (u1 : P.underlying g1.type = some (.slice e1)) (ue : P.underlying e1 = some (.int .u8)) (hC1 : P.cellsOf e1 = 1) (hB1 : P.bytesOf e1 = 1)
    (h : DataW.trod enc P w 0 (fun _ => true) true fuel t [.slice ao len cap] = some (d, pl)) :
    ∃ ps : List Pc, ps.length = len ∧ PRow w w.heap.size ao ps ∧ len ≤ cap ∧ cap ≤ maxLen ∧ (∀ p ∈ ps, (Lit.int .i64 p.1).wf = true) ∧ ((∀ n ∈ d.weights P t, n ≤ 140737488351232) → ∀ p ∈ ps, p.2.length ≤ 140737488351232) ∧ sumP ps ≤ Rows.uptoBulk d := by
  rcases open_slice ht h with ⟨h0, hx⟩ | ⟨a, len', cap', m, n, D, Pl, h0, hb, hl, hm, hmm, hx, hi⟩
  · simp only [List.cons.injEq, Value.slice.injEq, and_true] at h0
    obtain ⟨rfl, rfl, rfl⟩ := h0
    exact ⟨[], rfl, PRow.nil _ _ _, Nat.le_refl _, by unfold maxLen; omega, fun p hp => (by cases hp), fun _ p hp => (by cases hp), Nat.zero_le _⟩
  · simp only [List.cons.injEq, Value.slice.injEq, and_true] at h0
    obtain ⟨rfl, rfl, rfl⟩ := h0
    simp only [if_true] at hmm
    subst hmm
    have hd := (Prod.mk.inj hx).1
    obtain ⟨ho0, hk0⟩ := hone_of hone 0 g0 rfl
    obtain ⟨ho1, hk1⟩ := hone_of hone 1 g1 rfl
    obtain ⟨ps, hpl, hps⟩ := list_of pc0 len (fun i p => w.cell? (a.add (i * 2)) = some (.int .i64 p.1) ∧ (∃ dv, w.cell? (a.add (i * 2 + 1)) = some dv ∧ BSl w w.heap.size dv p.2) ∧ (Lit.int .i64 p.1).wf = true ∧ ((∀ n ∈ (D i).weights P e, n ≤ 140737488351232) → p.2.length ≤ 140737488351232) ∧ p.2.length ≤ Rows.uptoBulk (D i)) (fun i him => by
      obtain ⟨cs', hc, ht'⟩ := hi i (by omega)
      rw [hC] at hc
      obtain ⟨y0, y1, n', hdi, hcl, k0, k1⟩ := trod_struct2 he ht'
      obtain ⟨_, hcl2, hat⟩ := World.cells?_some hc
      match cs', hcl2 with
      | [c0, c1], _ =>
        rw [ho0, hk0] at k0
        rw [ho1, hk1] at k1
        simp only [List.drop_zero, List.take_succ_cons, List.take_zero, List.drop_succ_cons] at k0 k1
        have a0 := hat 0 (by omega)
        have a1 := hat 1 (by omega)
        rw [add_add] at a0 a1
        simp only [List.getElem?_cons_zero, List.getElem?_cons_succ, Nat.add_zero] at a0 a1
        obtain ⟨x0, e0, _, w0⟩ := DataW.trod_int u0 k0
        simp only [List.cons.injEq, and_true] at e0
        subst e0
        obtain ⟨zs, hzb, hzw, hzu⟩ := open_bytes (d := y1.1) (pl := y1.2) u1 ue hC1 hB1 k1
        have hD := (Prod.mk.inj hdi).1
        refine ⟨(x0, zs), a0, ⟨c1, a1, hzb⟩, w0, fun hn => hzw fun n hn' => hn n ?_, ?_⟩
        · rw [hD]
          simp only [DataW.weights, he, List.map_cons, List.map_nil, DataW.weightsEach, List.mem_append]
          exact .inr (.inl hn')
        · rw [hD]
          simp only [Rows.uptoBulk, Rows.uptoBulkAll]
          omega)
    have hmem : ∀ p ∈ ps, ∃ i, i < len ∧ ps.getD i pc0 = p := fun p hp => by
      obtain ⟨i, hi', rfl⟩ := List.getElem_of_mem hp
      exact ⟨i, by omega, by rw [List.getD_eq_getElem?_getD, List.getElem?_eq_getElem hi']; rfl⟩
    refine ⟨ps, hpl, fun hn => ?_, hl, hm, fun p hp => ?_, fun hw p hp => ?_, ?_⟩
    · obtain ⟨c0, _⟩ := hps 0 (by omega)
      have hsp := World.cell?_spot c0
      obtain ⟨b, off, sp⟩ := a
      have hsp' : sp = none := by simpa [Addr.add] using hsp
      subst hsp'
      have hbl := World.block_lt_of_cell? w _ c0
      refine ⟨b, off, rfl, by simpa [Addr.add] using hbl, fun j hj => ?_⟩
      obtain ⟨q0, ⟨dv, q1, q2⟩, _⟩ := hps j (by omega)
      rw [add_plain2] at q0 q1
      exact ⟨q0, dv, by rw [Nat.add_assoc]; exact q1, q2⟩
    · obtain ⟨i, hi', rfl⟩ := hmem p hp
      exact (hps i hi').2.2.1
    · obtain ⟨i, hi', rfl⟩ := hmem p hp
      refine (hps i hi').2.2.2.1 fun n hn => hw n ?_
      rw [hd]
      simp only [DataW.weights, ht, List.mem_cons, List.mem_append]
      exact .inr (.inl (weigh_mem (List.mem_map.2 ⟨i, List.mem_range.2 hi', rfl⟩) n hn))
    · have := sum_bulk ps D (fun i hi' => (hps i (by omega)).2.2.2.2) len (by omega)
      rw [← hpl, List.take_length, hpl] at this
      rw [hd]
      simp only [Rows.uptoBulk]
      omega
theorem open_ga {r : Reach} {b0 : Nat} {t e e1 : TypeId} {f0 f1 f2 f3 g0 g1 : Field} {v : Value} {d : DataW H} {pl : List MemPlace} (ht : P.underlying t = some (.struct #[f0, f1, f2, f3])) (hone : oneCellFields P #[f0, f1, f2, f3] = true) (hC : P.cellsOf t = 4)
    (k0 : P.underlying f0.type = some (.int .i64)) (k1 : P.underlying f1.type = some (.slice e)) (k2 : P.underlying f2.type = some (.int .i64)) (k3 : P.underlying f3.type = some (.int .i64))
    (he : P.underlying e = some (.struct #[g0, g1])) (hone2 : oneCellFields P #[g0, g1] = true) (hC2 : P.cellsOf e = 2)
    (u0 : P.underlying g0.type = some (.int .i64)) (u1 : P.underlying g1.type = some (.slice e1)) (ue : P.underlying e1 = some (.int .u8)) (hC1 : P.cellsOf e1 = 1) (hB1 : P.bytesOf e1 = 1)
    (hv : Value.okWide P w r b0 t v) (h : DataW.Trod enc P w 0 (fun _ => true) true t v d pl) :
    ∃ g : Ga, GaVal w w.heap.size v g ∧ GaWf g ∧ ((∀ n ∈ d.weights P t, n ≤ 140737488351232) → ∀ p ∈ g.held, p.2.length ≤ 140737488351232) ∧ sumP g.held ≤ Rows.uptoBulk d := by
  obtain ⟨cs, rfl, hsz⟩ := okWide_struct ht hv
  obtain ⟨l⟩ := cs
  match l, hsz.trans hC with
  | [c0, c1, c2, c3], _ =>
    obtain ⟨fuel, hf⟩ := h
    obtain ⟨xs, n, _, hx, _, hlen, hg⟩ := DataW.trod_struct ht hf
    obtain ⟨o0, s0⟩ := hone_of hone 0 f0 rfl
    obtain ⟨o1, s1⟩ := hone_of hone 1 f1 rfl
    obtain ⟨o2, s2⟩ := hone_of hone 2 f2 rfl
    obtain ⟨o3, s3⟩ := hone_of hone 3 f3 rfl
    match xs, hlen with
    | [y0, y1, y2, y3], _ =>
      have q0 : DataW.trod enc P w 0 (fun _ => true) true n f0.type [c0] = some y0 := by simpa [Value.cells, o0, s0] using hg 0 f0 rfl
      have q1 : DataW.trod enc P w 0 (fun _ => true) true n f1.type [c1] = some y1 := by simpa [Value.cells, o1, s1] using hg 1 f1 rfl
      have q2 : DataW.trod enc P w 0 (fun _ => true) true n f2.type [c2] = some y2 := by simpa [Value.cells, o2, s2] using hg 2 f2 rfl
      have q3 : DataW.trod enc P w 0 (fun _ => true) true n f3.type [c3] = some y3 := by simpa [Value.cells, o3, s3] using hg 3 f3 rfl
      obtain ⟨x0, e0, _, w0⟩ := DataW.trod_int k0 q0
      obtain ⟨x2, e2, _, w2⟩ := DataW.trod_int k2 q2
      obtain ⟨x3, e3, _, w3⟩ := DataW.trod_int k3 q3
      obtain ⟨A, m, c, e1'⟩ := slice_of1 k1 q1
      simp only [List.cons.injEq, and_true] at e0 e2 e3
      subst e0 e1' e2 e3
      obtain ⟨ps, hpl, hpr, hpc, hpm, hpw, hpn, hpu⟩ := open_pcs (d := y1.1) (pl := y1.2) k1 he hone2 hC2 u0 u1 ue hC1 hB1 q1
      have hd : d = .agg [y0.1, y1.1, y2.1, y3.1] := by simpa using (Prod.mk.inj hx).1
      refine ⟨⟨x0, ps, x2, x3⟩, ⟨_, rfl, ⟨A, c, by rw [hpl], by rw [hpl]; exact hpc, hpm, hpr⟩⟩, ⟨w0, w2, w3, hpw⟩, fun hn => hpn fun n hn' => hn n ?_, ?_⟩
      · rw [hd]
        simp only [DataW.weights, ht, List.map_cons, List.map_nil, DataW.weightsEach, List.mem_append]
        exact .inr (.inl hn')
      · rw [hd]
        simp only [Rows.uptoBulk, Rows.uptoBulkAll]
        omega
end
end Go.Proofs.Ytippenbfoaohoaa.P
