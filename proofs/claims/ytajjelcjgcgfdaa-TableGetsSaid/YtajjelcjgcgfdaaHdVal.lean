/- A head as a value: six cells, one of them a row of bytes. Nothing of the program's. -/
import Derived.Test.YtajjelcjgcgfdaaFrVal
import Derived.Test.YtajjelcjgcgfdaaHdMath
import Derived.DataShut
namespace Go.Proofs.Ytajjelcjgcgfdaa.P
set_option linter.unusedVariables false
open Go.RowKit

/-- v says the head h; its Token lies below block B -/
structure HdVal (w : World) (B : Nat) (v : Value) (h : Hd) : Prop where
  ex : ∃ d, v = .agg #[.int .i64 h.kind, .int .i64 h.to, .int .i64 h.frm, d, .int .i64 h.num, .int .i64 h.size] ∧ BSl w B d h.tok
/-- its numbers fit -/
structure HdWf (h : Hd) : Prop where
  kind : (Lit.int .i64 h.kind).wf = true
  to : (Lit.int .i64 h.to).wf = true
  frm : (Lit.int .i64 h.frm).wf = true
  num : (Lit.int .i64 h.num).wf = true
  size : (Lit.int .i64 h.size).wf = true
theorem HdVal.below {w w' : World} {B : Nat} {v : Value} {h : Hd} (k : HdVal w B v h) (hb : Below B w w') : HdVal w' B v h := by
  obtain ⟨d, rfl, hd⟩ := k.ex
  exact ⟨d, rfl, hd.below hb⟩
theorem HdVal.more {w : World} {B B' : Nat} {v : Value} {h : Hd} (k : HdVal w B v h) (hB : B ≤ B') : HdVal w B' v h := by
  obtain ⟨d, rfl, hd⟩ := k.ex
  exact ⟨d, rfl, hd.more hB⟩
theorem HdVal.on {w w' : World} {v : Value} {h : Hd} (k : HdVal w w.heap.size v h) (hb : Below w.heap.size w w') : HdVal w' w'.heap.size v h := (k.below hb).more hb.size
theorem wf_i64 {n : Int} : (Lit.int .i64 n).wf = true ↔ -9223372036854775808 ≤ n ∧ n ≤ 9223372036854775807 := by
  have a1 : IntKind.i64.min = -9223372036854775808 := by kernel_rfl
  have a2 : IntKind.i64.max = 9223372036854775807 := by kernel_rfl
  rw [Lit.wf_int_iff, a1, a2]
/-- the zero head -/
def hd0 : Hd := ⟨0, 0, 0, [], 0, 0⟩
theorem HdVal.zero (w : World) (B : Nat) : HdVal w B (.agg #[.int .i64 0, .int .i64 0, .int .i64 0, .slice none 0 0, .int .i64 0, .int .i64 0]) hd0 := ⟨_, rfl, BSl.nil w B⟩
theorem OkH.wf {h : Hd} (H : OkH h) : HdWf h := by
  have h1 := H.kind0; have h2 := H.kind1; have h4 := H.to0; have h5 := H.to1; have h6 := H.frm0; have h7 := H.frm1
  have hn : 0 ≤ h.num ∧ h.num ≤ 4294967296 ∧ 0 ≤ h.size ∧ h.size ≤ 4 := by
    by_cases k : h.kind = 1
    · have := H.retry k; omega
    · have := H.size k
      have := winOf_le h.size
      omega
  refine ⟨?_, ?_, ?_, ?_, ?_⟩ <;> rw [wf_i64] <;> omega
/-- what is asked of a reader of heads, by P5.3 -/
def HdDec (zs : List Int) (w : World) (e : Ending) (w' : World) : Prop :=
  Below w.heap.size w w' ∧ match decH zs with
  | .error x => e = .returned (.tuple #[.agg #[.int .i64 0, .int .i64 0, .int .i64 0, .slice none 0 0, .int .i64 0, .int .i64 0], .int .i64 0, .int .i64 x])
  | .ok (h, t) => ∃ v, e = .returned (.tuple #[v, .int .i64 ((zs.length : Int) - t.length), .int .i64 0]) ∧ HdVal w' w'.heap.size v h
theorem hdDec_er {zs : List Int} {w w' : World} {e : Ending} {x : Int} (hd : decH zs = .error x) (h : e = .returned (.tuple #[.agg #[.int .i64 0, .int .i64 0, .int .i64 0, .slice none 0 0, .int .i64 0, .int .i64 0], .int .i64 0, .int .i64 x]) ∧ Below w.heap.size w w') : HdDec zs w e w' := by
  unfold HdDec
  rw [hd]
  exact ⟨h.2, h.1⟩
theorem hdDec_ok {zs t : List Int} {w w' : World} {e : Ending} {h : Hd} {v : Value} {n : Int} (hd : decH zs = .ok (h, t)) (he : e = .returned (.tuple #[v, .int .i64 n, .int .i64 0])) (hn : n = (zs.length : Int) - t.length) (hb : Below w.heap.size w w') (hv : HdVal w' w'.heap.size v h) : HdDec zs w e w' := by
  unfold HdDec
  rw [hd]
  subst hn
  exact ⟨hb, v, he, hv⟩
/-- what is asked of a writer of heads, by P5.2 -/
def HdEnc (h : Hd) (w : World) (e : Ending) (w' : World) : Prop :=
  Below w.heap.size w w' ∧ ∃ d, e = .returned (.tuple #[d, .int .i64 (faultH h)]) ∧ BSl w' w'.heap.size d (if faultH h = 0 then hdT h else [])
theorem hdEnc_yes {h : Hd} {w w' : World} {e : Ending} (k : HdEnc h w e w') (H : faultH h = 0) : Below w.heap.size w w' ∧ ∃ A c, e = .returned (.tuple #[.slice A (hdT h).length c, .int .i64 0]) ∧ (hdT h).length ≤ c ∧ c ≤ maxLen ∧ (A = none → c = 0) ∧ BRow w' w'.heap.size A (hdT h) := by
  obtain ⟨hb, d, rfl, hd⟩ := k
  rw [H, if_pos rfl] at hd
  obtain ⟨A, c, rfl, h1, h2, h3, h4⟩ := hd.ex
  rw [H]
  exact ⟨hb, A, c, rfl, h1, h2, h3, h4⟩
end Go.Proofs.Ytajjelcjgcgfdaa.P
