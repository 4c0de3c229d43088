/- Paces: what is asked of the project, by P12; any number of numbers asked alike (within). -/
import Derived.Test.YtlafjladlkbnoaaRefUp2
import Derived.Test.YtlafjladlkbnoaaBytes
import Derived.Below
import Derived.Test.YtlafjladlkbnoaaMem
import Derived.Deep.LoopGhost
namespace Go.Proofs.Ytlafjladlkbnoaa
set_option linter.unusedVariables false
open Go.RowKit P

def paV (wd th fl si : Int) : Value := .agg #[.int .i64 wd, .int .i64 th, .int .i64 fl, .int .i64 si]
/-- a number of 64 bits -/
def i64B (n : Int) : Prop := -9223372036854775808 ≤ n ∧ n ≤ 9223372036854775807
/-- from 0 to MaxTime -/
def mtB (n : Int) : Prop := 0 ≤ n ∧ n ≤ 1099511627776
instance (n : Int) : Decidable (mtB n) := by unfold mtB; infer_instance
def mtL : List Int → Prop
  | [] => True
  | n :: l => mtB n ∧ mtL l
def mtD : (l : List Int) → Decidable (mtL l)
  | [] => .isTrue trivial
  | n :: l => by unfold mtL; have := mtD l; infer_instance
instance (l : List Int) : Decidable (mtL l) := mtD l
theorem mtL_get {l : List Int} (h : mtL l) (k : Nat) (hk : k < l.length) : mtB (l.getD k 0) := by
  induction l generalizing k with
  | nil => cases hk
  | cons a l ih =>
    cases k with
    | zero => exact h.1
    | succ k => simpa using ih h.2 k (by simpa using hk)
theorem mtL_of {l : List Int} (h : ∀ k, k < l.length → mtB (l.getD k 0)) : mtL l := by
  induction l with
  | nil => trivial
  | cons a l ih => exact ⟨h 0 (by simp), ih fun k hk => by simpa using h (k + 1) (by simpa using hk)⟩
/-- what Check says, by P12.1 -/
def paF (wd th fl si : Int) : Int := if 200 ≤ wd ∧ wd ≤ 1099511627776 ∧ mtB th ∧ mtB fl ∧ -1 ≤ si ∧ si ≤ 1099511627776 then 0 else 9
/-- .. and of numbers besides -/
def paE (wd th fl si : Int) (l : List Int) : Int := if paF wd th fl si ≠ 0 then paF wd th fl si else if mtL l then 0 else 6

/-- a row that reads as these numbers -/
def NRow (w : World) (b : Nat) (l : List Int) : Prop := ∀ j, j < l.length → w.cell? ⟨b, j, none⟩ = some (.int .i64 (l.getD j 0))
def NAll (P : Program) (f : FuncId) : Prop := ∀ (l : List Int) (n b : Nat) (w : World), NRow w b l → l.length = n → n ≤ 10 → Calls P f #[.slice (some ⟨b, 0, none⟩) n n] w fun e w' => e = .returned (.bool (decide (mtL l))) ∧ w = w'
theorem nrow_new (w : World) (l : List Int) (T : TypeId) : NRow (w.alloc (.cells (l.map fun n => Value.int .i64 n).toArray T)) w.heap.size l := fun j hj => by
  rw [bk_cell (heap_alloc_new w (.cells (l.map fun n => Value.int .i64 n).toArray T))]
  simp [List.getElem?_map, List.getElem?_eq_getElem hj]
theorem nrow_at (w : World) (l : List Int) (T : TypeId) (b : Nat) (hb : w.heap.size = b) : NRow (w.alloc (.cells (l.map fun n => Value.int .i64 n).toArray T)) b l := hb ▸ nrow_new w l T
theorem nrow1 (w : World) (x : Int) (T : TypeId) (b : Nat) (hb : w.heap.size = b) : NRow (w.alloc (.cells #[.int .i64 x] T)) b [x] := nrow_at w [x] T b hb
theorem nrow2 (w : World) (x y : Int) (T : TypeId) (b : Nat) (hb : w.heap.size = b) : NRow (w.alloc (.cells #[.int .i64 x, .int .i64 y] T)) b [x, y] := nrow_at w [x, y] T b hb
theorem nrow3 (w : World) (x y z : Int) (T : TypeId) (b : Nat) (hb : w.heap.size = b) : NRow (w.alloc (.cells #[.int .i64 x, .int .i64 y, .int .i64 z] T)) b [x, y, z] := nrow_at w [x, y, z] T b hb
theorem NRow.below {w w' : World} {b : Nat} {l : List Int} (h : NRow w b l) (hb : Below w.heap.size w w') (hlt : b < w.heap.size) : NRow w' b l := fun j hj => (hb.cell (p := ⟨b, j, none⟩) hlt).trans (h j hj)
/-- what is asked of the project, and of the document's answers -/
def PaChk (P : Program) (f : FuncId) : Prop := ∀ (wd th fl si : Int), i64B si → ∀ w : World, Calls P f #[paV wd th fl si] w fun e w' => e = .returned (.int .i64 (paF wd th fl si)) ∧ Below w.heap.size w w'
def PaRef (P : Program) (f : FuncId) : Prop := ∀ (wd th fl si : Int) (l : List Int) (n b : Nat) (w : World), i64B si → NRow w b l → b < w.heap.size → l.length = n → n ≤ 10 → Calls P f #[paV wd th fl si, .slice (some ⟨b, 0, none⟩) n n] w fun e w' => e = .returned (.int .i64 (paE wd th fl si l)) ∧ Below w.heap.size w w'

/-- the window's growth, by P12.4 -/
def paG (wd th n : Int) : Int := if th = 0 ∨ wd < th then n else 100 * n / wd
/-- what Send says, by P12.3 -/
def paS (wd th fl si n : Int) : Int × Int × Int × Int × Bool × Int := if paE wd th fl si [n] ≠ 0 then (0, 0, 0, 0, false, paE wd th fl si [n]) else if wd < fl + n then (wd, th, fl, si, false, 0) else (wd, th, fl + n, si, true, 0)
/-- what Heard says, by P12.4 -/
def paH (wd th fl si n t : Int) : Int × Int × Int × Int × Int := if paE wd th fl si [n, t] ≠ 0 then (0, 0, 0, 0, paE wd th fl si [n, t]) else if fl < n then (0, 0, 0, 0, 13) else if si < t then (min (wd + paG wd th n) 1099511627776, th, fl - n, si, 0) else (wd, th, fl - n, si, 0)
/-- what Lost says, by P12.5 -/
def paL (wd th fl si n t now : Int) : Int × Int × Int × Int × Int := if paE wd th fl si [n, t, now] ≠ 0 then (0, 0, 0, 0, paE wd th fl si [n, t, now]) else if fl < n then (0, 0, 0, 0, 13) else if si < t then (max (wd / 2) 200, max (wd / 2) 200, fl - n, max now t, 0) else (wd, th, fl - n, si, 0)
def paSR (r : Int × Int × Int × Int × Bool × Int) : Value := .tuple #[paV r.1 r.2.1 r.2.2.1 r.2.2.2.1, .bool r.2.2.2.2.1, .int .i64 r.2.2.2.2.2]
def paR (r : Int × Int × Int × Int × Int) : Value := .tuple #[paV r.1 r.2.1 r.2.2.1 r.2.2.2.1, .int .i64 r.2.2.2.2]
def PaSend (P : Program) (f : FuncId) : Prop := ∀ (wd th fl si n : Int), i64B si → ∀ w : World, Calls P f #[paV wd th fl si, .int .i64 n] w fun e w' => e = .returned (paSR (paS wd th fl si n)) ∧ Below w.heap.size w w'
def PaHear (P : Program) (f : FuncId) : Prop := ∀ (wd th fl si n t : Int), i64B si → ∀ w : World, Calls P f #[paV wd th fl si, .int .i64 n, .int .i64 t] w fun e w' => e = .returned (paR (paH wd th fl si n t)) ∧ Below w.heap.size w w'
def PaLose (P : Program) (f : FuncId) : Prop := ∀ (wd th fl si n t now : Int), i64B si → ∀ w : World, Calls P f #[paV wd th fl si, .int .i64 n, .int .i64 t, .int .i64 now] w fun e w' => e = .returned (paR (paL wd th fl si n t now)) ∧ Below w.heap.size w w'
/-- what a pace that may be holds -/
theorem paF_ok {wd th fl si : Int} (h : paF wd th fl si = 0) : 200 ≤ wd ∧ wd ≤ 1099511627776 ∧ mtB th ∧ mtB fl ∧ -1 ≤ si ∧ si ≤ 1099511627776 := by unfold paF at h; split at h; assumption; cases h
theorem paE_ok {wd th fl si : Int} {l : List Int} (h : paE wd th fl si l = 0) : paF wd th fl si = 0 ∧ mtL l := by
  unfold paE at h
  by_cases a : paF wd th fl si = 0
  · rw [if_neg (fun k => k a)] at h
    by_cases b : mtL l
    · exact ⟨a, b⟩
    · rw [if_neg b] at h; cases h
  · rw [if_pos a] at h; exact absurd h a
theorem paG_in {wd th n : Int} (h : 200 ≤ wd) (hn : 0 ≤ n) : 0 ≤ paG wd th n ∧ paG wd th n ≤ n := by
  unfold paG
  split
  · omega
  · refine ⟨Int.ediv_nonneg (by omega) (by omega), ?_⟩
    refine Int.le_trans (Int.ediv_le_ediv (by omega) (show 100 * n ≤ wd * n from ?_)) ?_
    · exact Int.mul_le_mul_of_nonneg_right (by omega) hn
    · rw [Int.mul_ediv_cancel_left _ (by omega)]; omega
/-- the four cells of a block, and what stands there when all are written -/
theorem bk4 {w : World} {b : Nat} {a0 a1 a2 a3 : Value} {T : TypeId} (h : w.heap[b]? = some (.cells #[a0, a1, a2, a3] T (0, 0))) : w.cell? ⟨b, 0, none⟩ = some a0 ∧ w.cell? ⟨b, 1, none⟩ = some a1 ∧ w.cell? ⟨b, 2, none⟩ = some a2 ∧ w.cell? ⟨b, 3, none⟩ = some a3 ∧ ∀ i, w.frozen? ⟨b, i, none⟩ = false := ⟨bk_cell h 0, bk_cell h 1, bk_cell h 2, bk_cell h 3, fun i => bk_frz h i⟩
theorem bk4_put {w : World} {b : Nat} {a0 a1 a2 a3 : Value} {T : TypeId} (h : w.heap[b]? = some (.cells #[a0, a1, a2, a3] T (0, 0))) (v0 v1 v2 v3 : Value) :
    (w.setCell ⟨b, 0, none⟩ v0).cell? ⟨b, 0, none⟩ = some v0 ∧
    ((w.setCell ⟨b, 0, none⟩ v0).setCell ⟨b, 1, none⟩ v1).cell? ⟨b, 1, none⟩ = some v1 ∧
    (((w.setCell ⟨b, 0, none⟩ v0).setCell ⟨b, 1, none⟩ v1).setCell ⟨b, 2, none⟩ v2).cell? ⟨b, 2, none⟩ = some v2 ∧
    ((((w.setCell ⟨b, 0, none⟩ v0).setCell ⟨b, 1, none⟩ v1).setCell ⟨b, 2, none⟩ v2).setCell ⟨b, 3, none⟩ v3).cell? ⟨b, 3, none⟩ = some v3 ∧
    ((((w.setCell ⟨b, 0, none⟩ v0).setCell ⟨b, 1, none⟩ v1).setCell ⟨b, 2, none⟩ v2).setCell ⟨b, 3, none⟩ v3).heap[b]? = some (.cells #[v0, v1, v2, v3] T (0, 0)) ∧
    w.grownBy ((((w.setCell ⟨b, 0, none⟩ v0).setCell ⟨b, 1, none⟩ v1).setCell ⟨b, 2, none⟩ v2).setCell ⟨b, 3, none⟩ v3) (some b) := by
  have h0 : (w.setCell ⟨b, 0, none⟩ v0).heap[b]? = some (.cells #[v0, a1, a2, a3] T (0, 0)) := by simpa using bk_set h 0 v0
  have h1 : ((w.setCell ⟨b, 0, none⟩ v0).setCell ⟨b, 1, none⟩ v1).heap[b]? = some (.cells #[v0, v1, a2, a3] T (0, 0)) := by simpa using bk_set h0 1 v1
  have h2 : (((w.setCell ⟨b, 0, none⟩ v0).setCell ⟨b, 1, none⟩ v1).setCell ⟨b, 2, none⟩ v2).heap[b]? = some (.cells #[v0, v1, v2, a3] T (0, 0)) := by simpa using bk_set h1 2 v2
  have h3 : ((((w.setCell ⟨b, 0, none⟩ v0).setCell ⟨b, 1, none⟩ v1).setCell ⟨b, 2, none⟩ v2).setCell ⟨b, 3, none⟩ v3).heap[b]? = some (.cells #[v0, v1, v2, v3] T (0, 0)) := by simpa using bk_set h2 3 v3
  exact ⟨(bk4 h0).1, (bk4 h1).2.1, (bk4 h2).2.2.1, (bk4 h3).2.2.2.1, h3, gr_trans (gr_trans (gr_trans (gr_set _ b 0 v0) (gr_set _ b 1 v1)) (gr_set _ b 2 v2)) (gr_set _ b 3 v3)⟩

theorem within_any : NAll Try.prog 20 := fun l n b w hr hl hn => by
  have HR := Lib.hid hr
  have HL := Lib.hid hl
  clear hr hl
  go_enter Try.func20, Try.ntmps20
  go_wp2_with fail
  go_loop [7] (fun i => ∃ k : Nat, k ≤ n ∧ i = .int .i64 k ∧ Hid (∀ j, j < k → mtB (l.getD j 0))) (fun i => n - (intOf i).toNat)
  case atStart => exact ⟨0, Nat.zero_le _, rfl, Lib.hid (fun j hj => absurd hj (by omega))⟩
  case round =>
    obtain ⟨k, hk, rfl, HA⟩ := hrel
    by_cases hlt : k < n
    · have hc := HR.out k (by rw [HL.out]; exact hlt)
      obtain ⟨x, hx⟩ : ∃ x, l.getD k 0 = x := ⟨_, rfl⟩
      rw [hx] at hc
      have HX := Lib.hid hx
      clear hx
      have HNO : ¬ mtB x → Hid (Ending.returned (.bool (decide (mtL l))) = .returned (.bool false)) := fun h => Lib.hid (by rw [decide_eq_false (fun e => h (HX.out ▸ mtL_get e k (by rw [HL.out]; exact hlt)))])
      by_cases a : x < 0
      · have HN := HNO (fun h => by have := h.1; omega)
        clear HNO
        have g : decide (x < 0) = true := by simp [a]
        go_wp2_with fail
        go_ret
        exact ⟨HN.out.symm, rfl⟩
      · have g : decide (x < 0) = false := by simp; omega
        by_cases b : 1099511627776 < x
        · have HN := HNO (fun h => by have := h.2; omega)
          clear HNO
          have g : decide (1099511627776 < x) = true := by simp [b]
          go_wp2_with fail
          go_ret
          exact ⟨HN.out.symm, rfl⟩
        · have g : decide (1099511627776 < x) = false := by simp; omega
          clear HNO
          have HB := Lib.hid (show mtB x from ⟨by omega, by omega⟩)
          go_wp2_with fail
          go_round
          case rel => exact ⟨k + 1, by omega, by go_num, Lib.hid (fun j hj => by
            by_cases e : j = k
            · subst e; rw [HX.out]; exact HB.out
            · exact HA.out j (by omega))⟩
          case measure => simp [intOf]; omega
    · have HY : Hid (Ending.returned (.bool (decide (mtL l))) = .returned (.bool true)) := Lib.hid (by rw [decide_eq_true (mtL_of fun j hj => HA.out j (by rw [HL.out] at hj; omega))])
      go_wp2_with fail
      go_ret
      exact ⟨HY.out.symm, rfl⟩
end Go.Proofs.Ytlafjladlkbnoaa
