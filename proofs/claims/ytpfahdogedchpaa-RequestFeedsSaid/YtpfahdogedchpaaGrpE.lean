/- Several texts in one. -/
import Derived.Test.YtpfahdogedchpaaGrpA
import Derived.Test.YtpfahdogedchpaaGrpC
import Derived.Test.YtpfahdogedchpaaGrpB
import Derived.Deep.AppendSrc
import Derived.Lib.LazyBuf
import Derived.Laws.IdiomCopy
/- The document's answers on numbers behind bits: prefixText, PrefixBytes. -/
namespace Go.Proofs.Ytpfahdogedchpaa
set_option linter.unusedVariables false
open Go.RowKit P

/-- what is asked of a writer of such numbers -/
def PxPost (x : Int) (L : List Int) (w : World) (e : Ending) (w' : World) : Prop := Below w.heap.size w w' ∧ ∃ d, e = .returned (.tuple #[d, .int .i64 x]) ∧ BSl w' w'.heap.size d (if x = 0 then L else [])
def PxEnc (P : Program) (f : FuncId) : Prop := ∀ (first wi n : Int) (w : World), 0 ≤ first → first < 256 → -9223372036854775808 ≤ wi → wi ≤ 9223372036854775807 → Calls P f #[.int .u8 first, .int .i64 wi, .int .i64 n] w (PxPost (pxF first wi n) (pxL first wi n) w)
theorem px_none (w : World) : BSl w w.heap.size (.slice none 0 0) [] := ⟨none, 0, rfl, Nat.le_refl _, by unfold maxLen; omega, fun _ => rfl, BRow.nil _ _ _⟩
theorem low1 {v : Int} (h0 : 0 ≤ v) (h1 : v < 256) : lowB 1 v = [v] := by
  show [shr8 0 v % 256] = [v]
  rw [show shr8 0 v = v from rfl, Int.emod_eq_of_lt h0 h1]
def pxT (first top n : Int) : List Int := if n < top then [first + n] else (first + top) :: pxD (n - top).toNat
end Go.Proofs.Ytpfahdogedchpaa
/- A row of a call's own whose cells may all be written, whatever made it (a literal, an append, a conversion); a string appended onto it. Nothing of the program's. -/
namespace Go.Proofs.Ytpfahdogedchpaa
set_option linter.unusedVariables false
open Go.RowKit P

def WRow (w : World) (base : Nat) (e : TypeId) (v : Value) (L : List Int) : Prop :=
  ∃ g cap cur fz, v = .slice (some ⟨g, 0, none⟩) L.length cap ∧ base ≤ g ∧ w.heap[g]? = some (.cells cur e fz) ∧ (∀ i, i < cap → ¬ (fz.1 ≤ i ∧ i < fz.2)) ∧ L.length ≤ cap ∧ cap ≤ maxLen ∧ cur.size = cap ∧ cur.toList.take L.length = L.map (.int .u8)

theorem wrow_cell {w : World} {g : Nat} {cur : Array Value} {e : TypeId} {fz : Nat × Nat} (h : w.heap[g]? = some (.cells cur e fz)) (j : Nat) : w.cell? ⟨g, j, none⟩ = cur[j]? := by simp [World.cell?, h]
theorem wrow_at {cur : Array Value} {L : List Int} (h : cur.toList.take L.length = L.map (.int .u8)) (j : Nat) (hj : j < L.length) : cur[j]? = some (.int .u8 (L.getD j 0)) := by
  have e : (cur.toList.take L.length)[j]? = (L.map (Value.int .u8))[j]? := by rw [h]
  rw [List.getElem?_take, if_pos hj] at e
  rw [← Array.getElem?_toList, e]
  simp [hj]
theorem wrow_bsl {w : World} {base : Nat} {e : TypeId} {v : Value} {L : List Int} (h : WRow w base e v L) (hb : Byt L) : BSl w w.heap.size v L := by
  obtain ⟨g, cap, cur, fz, rfl, h1, h2, h3, h4, h5, h6, h7⟩ := h
  exact ⟨_, _, rfl, h4, h5, (fun e => by cases e), hb, fun _ => ⟨g, 0, rfl, lt_of_block h2, fun j hj => by rw [Nat.zero_add, wrow_cell h2, wrow_at h7 j hj]⟩⟩
theorem wrow_base {w : World} {base base' : Nat} {e : TypeId} {v : Value} {L : List Int} (h : WRow w base e v L) (hb : base' ≤ base) : WRow w base' e v L := by
  obtain ⟨g, cap, cur, fz, h0, h1, h⟩ := h
  exact ⟨g, cap, cur, fz, h0, Nat.le_trans hb h1, h⟩
theorem wrow_own {w : World} {base e n : Nat} {v : Value} {L : List Int} (h : w.ownsRow base e 1 v n (L.map (.int .u8))) (hn : 0 < L.length) : WRow w base e v L := by
  have hl : L.length = n := by simpa using h.1
  rcases h.2 with ⟨rfl, h0⟩ | ⟨g, cap, cur, rfl, hb, hg, h1, h2, h3, h4⟩
  · omega
  · subst hl
    exact ⟨g, cap, cur, (0, 0), rfl, hb, hg, fun i _ k => by have := k.2; simp at this, h1, h2, by simpa using h3, by simpa using h4⟩
theorem conv_w (ys : List Int) (hb : Byt ys) (hl : ys.length ≤ 140737488351232) (w : World) : ∃ C W1, (convert 9 22 (.string (strOfNums ys))).run Try.prog w = .ok (.slice (some ⟨w.heap.size, 0, none⟩) ys.length C) W1 ∧ Below w.heap.size w W1 ∧ w.heap.size < W1.heap.size ∧ WRow W1 w.heap.size 5 (.slice (some ⟨w.heap.size, 0, none⟩) ys.length C) ys := by
  have hls : (strOfNums ys).size = ys.length := strOfNums_size ys
  have hrun := run_bytes_of_string (P := Try.prog) w 9 22 5 (strOfNums ys) Try.underlying9 Try.underlying22 Try.underlying5
  have hC := grownCap_ge w (strOfNums ys).size 0 5
  have hM := grownCap_le_maxLen w (strOfNums ys).size 0 5 (by rw [hls]; unfold maxLen; omega)
  have hz : (bytesRow (strOfNums ys) (grownCap w (strOfNums ys).size 0 5)).size = grownCap w (strOfNums ys).size 0 5 := by
    unfold bytesRow
    rw [Array.size_append, Array.size_map, Array.size_replicate]
    have : (strOfNums ys).data.size = (strOfNums ys).size := rfl
    omega
  have hrow : BRow (w.drew.alloc (.cells (bytesRow (strOfNums ys) (grownCap w (strOfNums ys).size 0 5)) 5 ((bytesRow (strOfNums ys) (grownCap w (strOfNums ys).size 0 5)).size, (bytesRow (strOfNums ys) (grownCap w (strOfNums ys).size 0 5)).size + 1))) (w.heap.size + 1) (some ⟨w.heap.size, 0, none⟩) ys := bytesRow_brow w ys hb _ _ _
  have hg : (w.drew.alloc (.cells (bytesRow (strOfNums ys) (grownCap w (strOfNums ys).size 0 5)) 5 ((bytesRow (strOfNums ys) (grownCap w (strOfNums ys).size 0 5)).size, (bytesRow (strOfNums ys) (grownCap w (strOfNums ys).size 0 5)).size + 1))).heap[w.heap.size]? = some (.cells (bytesRow (strOfNums ys) (grownCap w (strOfNums ys).size 0 5)) 5 ((bytesRow (strOfNums ys) (grownCap w (strOfNums ys).size 0 5)).size, (bytesRow (strOfNums ys) (grownCap w (strOfNums ys).size 0 5)).size + 1)) := by
    show (w.heap.push _)[w.heap.size]? = _
    rw [Array.getElem?_push_size]
  rw [hls] at hC hM hrow hz hg
  refine ⟨_, _, by rw [hrun, hls], ((Below.refl w.heap.size w).drew).alloc (Nat.le_refl _) _, by simp, w.heap.size, _, _, _, rfl, Nat.le_refl _, hg, ?_, hC, hM, hz, ?_⟩
  · intro i hi
    rw [hz]
    simp only
    omega
  · apply List.ext_getElem?
    intro j
    rw [List.getElem?_take]
    by_cases hj : j < ys.length
    · rw [if_pos hj, Array.getElem?_toList]
      obtain ⟨b, off, e, _, hc⟩ := hrow.2 (by omega)
      cases e
      have := hc j hj
      rw [Nat.zero_add, wrow_cell hg] at this
      rw [this]
      simp [hj]
    · rw [if_neg hj]
      simp [Nat.le_of_not_lt hj]
/-- what a string's bytes are as cells -/
theorem strCells_nums (M : List Int) (hM : Byt M) : byteCells (strOfNums M) = M.map (.int .u8) := by
  apply List.ext_getElem?
  intro j
  have hs : (byteCells (strOfNums M)).length = M.length := by rw [byteCells_length, strOfNums_size]
  by_cases hj : j < M.length
  · have hz : j < (strOfNums M).size := by rw [strOfNums_size]; exact hj
    have g := str_get hM j hz
    unfold byteCells
    rw [List.getElem?_map, Array.getElem?_toList, Array.getElem?_eq_getElem (show j < (strOfNums M).data.size from hz)]
    rw [List.getElem?_map, List.getElem?_eq_getElem hj]
    simp only [Option.map_some]
    have e : ((strOfNums M).data[j].toNat : Int) = M.getD j 0 := g
    rw [e, List.getD_eq_getElem?_getD, List.getElem?_eq_getElem hj]
    rfl
  · rw [List.getElem?_eq_none (by omega), List.getElem?_eq_none (by simp; omega)]
/-- a string appended -/
theorem wrow_app {w : World} {base : Nat} {v : Value} {L M : List Int} (ty : TypeId) (h : WRow w base 5 v L) (hL : Byt L) (hM : Byt M) (hm : L.length + M.length ≤ 140737488355328) (hbase : base ≤ w.heap.size) :
    ∃ v' w', (Builtin.append_ #[22, 9] ty #[v, .string (strOfNums M)]).run Try.prog w = .ok v' w' ∧ Below base w w' ∧ BSl w' w'.heap.size v' (L ++ M) := by
  obtain ⟨i0, hi0, hz0, hz1, hz2⟩ := info_parts infoB1
  obtain ⟨g, cap, cur, fz, rfl, h1, h2, h3, h4, h5, h6, h7⟩ := h
  have hsz : (strOfNums M).size = M.length := strOfNums_size M
  have hS : Src Try.prog i0.size 9 (.string (strOfNums M)) M.length (M.map (.int .u8)) w := by
    have := Src.ofString (P := Try.prog) w (tx := 9) Try.underlying9 (strOfNums M)
    rw [hsz, strCells_nums M hM] at this
    rw [hz1]
    exact this
  have hglt : g < w.heap.size := lt_of_block h2
  by_cases hroom : L.length + M.length ≤ cap
  · have hin : ∀ j, j < (M.map (Value.int .u8)).length → (w.cell? ⟨g, L.length + j, none⟩).isSome = true := fun j hj => by
      rw [wrow_cell h2, Array.getElem?_eq_getElem (by simp at hj; omega)]; rfl
    have hr := run_append_room_src (P := Try.prog) w 22 9 ty 5 i0 Try.underlying22 hi0 g 0 L.length cap (.string (strOfNums M)) M.length (M.map (.int .u8)) hS hroom
      (fun j hj => by rw [hz1, Nat.mul_one, Nat.zero_add]; exact hin j hj)
      (fun j hj => by
        rw [hz1, Nat.mul_one, Nat.zero_add]
        have := h3 (L.length + j) (by simp at hj; omega)
        simp only [World.frozen?, h2]
        by_cases a : fz.1 ≤ L.length + j
        · have : ¬ (L.length + j < fz.2) := fun b => this ⟨a, b⟩
          simp [a]; omega
        · simp; omega)
    rw [hz1, Nat.mul_one, Nat.zero_add] at hr
    refine ⟨_, _, hr, below_setCells h1 _ _ _ (Below.refl _ _), _, _, by rw [List.length_append], by rw [List.length_append]; exact hroom, h5, (fun e => by cases e), hL.append hM, fun _ => ⟨g, 0, rfl, ?_, fun j hj => ?_⟩⟩
    · have := (below_setCells (B := 0) (Nat.zero_le g) (M.map (Value.int .u8)) L.length _ (Below.refl 0 w)).size
      omega
    · rw [Nat.zero_add]
      by_cases q : j < L.length
      · rw [World.cell?_setCells_out g _ _ _ _ (fun _ _ => .inl q), wrow_cell h2, wrow_at h7 j q]
        rw [List.getD_eq_getElem?_getD, List.getD_eq_getElem?_getD, List.getElem?_append_left q]
      · rw [List.length_append] at hj
        have k := World.cell?_setCells_in g (M.map (Value.int .u8)) L.length w hin (j - L.length) (by simp; omega)
        rw [show L.length + (j - L.length) = j by omega] at k
        rw [k, List.getD_eq_getElem?_getD, List.getElem?_append_right (by omega)]
        simp [List.getElem?_eq_getElem (show j - L.length < M.length by omega)]
  · have hold : (Builtin.firstCells i0.size L.length (.slice (some ⟨g, 0, none⟩) L.length cap)).run Try.prog w.drew = .ok (L.map (Value.int .u8)).toArray w.drew :=
      run_firstCells_some w.drew i0.size L.length ⟨g, 0, none⟩ L.length cap (L.map (.int .u8)) (by rw [hz1]; simp) (by
        intro j u hj
        have hjl : j < L.length := by have := (List.getElem?_eq_some_iff.1 hj).1; simpa using this
        have ha : (⟨g, 0, none⟩ : Addr).add j = ⟨g, j, none⟩ := by rw [Go.WideShapes.add_plain, Nat.zero_add]
        rw [ha, show w.drew.cell? ⟨g, j, none⟩ = w.cell? ⟨g, j, none⟩ from rfl, wrow_cell h2, wrow_at h7 j hjl]
        simp [hjl] at hj
        rw [← hj]
        simp [hjl])
    have hr := run_append_grow_src (P := Try.prog) w 22 9 ty 5 i0 (.int .u8 0) Try.underlying22 hi0 hz0 (some ⟨g, 0, none⟩) L.length cap (L.map (.int .u8)) hold (.string (strOfNums M)) M.length (M.map (.int .u8)) hS (by omega) (by omega) (by rw [hz2]; exact growslice_fits (by omega) (by omega))
    have hge := grownCap_ge w (L.length + M.length) cap 5
    have hcm : grownCap w (L.length + M.length) cap 5 ≤ maxLen := grownCap_le_maxLen w _ cap _ (by unfold maxLen; omega)
    refine ⟨_, _, hr, ((Below.refl base w).drew).alloc (by simpa using hbase) _, _, _, by rw [List.length_append], by rw [List.length_append]; exact hge, hcm, (fun e => by cases e), hL.append hM, fun _ => ⟨w.heap.size, 0, rfl, by simp, fun j hj => ?_⟩⟩
    rw [Nat.zero_add, wrow_cell (g := w.heap.size) (heap_alloc_new w.drew _)]
    rw [List.length_append] at hj
    rw [← List.map_append, Array.getElem?_append_left (by simp; omega)]
    simp only [List.getElem?_toArray, List.getElem?_map]
    rw [List.getElem?_eq_getElem (by simp; omega), List.getD_eq_getElem?_getD, List.getElem?_eq_getElem (by simp; omega)]
    rfl
end Go.Proofs.Ytpfahdogedchpaa
/- What is asked of a writer of numbers behind bits, with a row that may be written on. -/
namespace Go.Proofs.Ytpfahdogedchpaa
set_option linter.unusedVariables false
open Go.RowKit P

def PxPostW (x : Int) (L : List Int) (w : World) (e : Ending) (w' : World) : Prop := Below w.heap.size w w' ∧ ∃ d, e = .returned (.tuple #[d, .int .i64 x]) ∧ (x ≠ 0 → d = .slice none 0 0) ∧ (x = 0 → WRow w' w.heap.size 5 d L)
def PxEncW (P : Program) (f : FuncId) : Prop := ∀ (first wi n : Int) (w : World), 0 ≤ first → first < 256 → -9223372036854775808 ≤ wi → wi ≤ 9223372036854775807 → Calls P f #[.int .u8 first, .int .i64 wi, .int .i64 n] w (PxPostW (pxF first wi n) (pxL first wi n) w)
theorem pxL_byt' {first w n : Int} (h0 : 0 ≤ first) (h1 : first < 256) (h : pxF first w n = 0) : Byt (pxL first w n) := byt_all fun z hz => by have := pxL_byt h0 h1 h z hz; omega
theorem PxEncW.enc {P : Program} {f : FuncId} (h : PxEncW P f) : PxEnc P f := fun first wi n w f0 f1 w0 w1 => (h first wi n w f0 f1 w0 w1).mono fun e w' ⟨b, d, he, hn, hy⟩ => by
  refine ⟨b, d, he, ?_⟩
  by_cases hx : pxF first wi n = 0
  · rw [if_pos hx]; exact wrow_bsl (hy hx) (pxL_byt' f0 f1 hx)
  · rw [if_neg hx, hn hx]; exact px_none w'
theorem wrow_lit (w : World) (z : Int) (t : TypeId) : WRow (w.alloc (.cells #[.int .u8 z] t)) w.heap.size t (.slice (some ⟨w.heap.size, 0, none⟩) 1 1) [z] :=
  ⟨w.heap.size, 1, _, (0, 0), rfl, Nat.le_refl _, heap_alloc_new w (.cells #[.int .u8 z] t), fun i _ k => by have := k.2; simp at this, Nat.le_refl _, by unfold maxLen; omega, rfl, rfl⟩
theorem own_lit (w : World) (z : Int) (t : TypeId) (base : Nat) (hb : base ≤ w.heap.size) : (w.alloc (.cells #[.int .u8 z] t)).ownsRow base t 1 (.slice (some ⟨w.heap.size, 0, none⟩) 1 1) 1 ([z].map (.int .u8)) :=
  ⟨rfl, .inr ⟨w.heap.size, 1, #[.int .u8 z], rfl, hb, heap_alloc_new w (.cells #[.int .u8 z] t), Nat.le_refl _, by unfold maxLen; omega, rfl, rfl⟩⟩
theorem brow_one (w : World) (z : Int) (t : TypeId) (hz : 0 ≤ z ∧ z ≤ 255) : BRow (w.alloc (.cells #[.int .u8 z] t)) (w.heap.size + 1) (some ⟨w.heap.size, 0, none⟩) [z] :=
  ⟨fun j => by
    cases j with
    | zero => exact hz
    | succ j => simp, fun _ => ⟨w.heap.size, 0, rfl, Nat.lt_succ_self _, fun j hj => by
    have : j = 0 := by simpa using hj
    subst this
    rw [bk_cell (heap_alloc_new w (.cells #[.int .u8 z] t)) (0 + 0)]
    rfl⟩⟩
end Go.Proofs.Ytpfahdogedchpaa
/- The project's prefix: isWidth, topOf; masks by a top. -/
namespace Go.Proofs.Ytpfahdogedchpaa
set_option linter.unusedVariables false
open Go.RowKit P

theorem eight {P : Int → Prop} (h1 : P 1) (h2 : P 2) (h3 : P 3) (h4 : P 4) (h5 : P 5) (h6 : P 6) (h7 : P 7) (h8 : P 8) (w : Int) (h : 1 ≤ w ∧ w ≤ 8) : P w := by
  have : w = 1 ∨ w = 2 ∨ w = 3 ∨ w = 4 ∨ w = 5 ∨ w = 6 ∨ w = 7 ∨ w = 8 := by omega
  rcases this with rfl | rfl | rfl | rfl | rfl | rfl | rfl | rfl <;> assumption
theorem i62 : ∀ n : Int, 0 ≤ n → n < 2 ^ 62 → IntKind.i64.wrap n = n := fun n h0 h1 => by rw [IntKind.wrap_i64]; omega
/-- masked by a top -/
theorem and_top (x : Int) (h0 : 0 ≤ x) (h1 : x < 256) (w : Int) (hw : 1 ≤ w ∧ w ≤ 8) : bits .and .i64 x (topW w) = x % (topW w + 1) := by
  revert w
  refine eight ?_ ?_ ?_ ?_ ?_ ?_ ?_ ?_
  · exact bits_mask .i64 62 (by decide) i62 1 (by decide) x h0 (by omega)
  · exact bits_mask .i64 62 (by decide) i62 2 (by decide) x h0 (by omega)
  · exact bits_mask .i64 62 (by decide) i62 3 (by decide) x h0 (by omega)
  · exact bits_mask .i64 62 (by decide) i62 4 (by decide) x h0 (by omega)
  · exact bits_mask .i64 62 (by decide) i62 5 (by decide) x h0 (by omega)
  · exact bits_mask .i64 62 (by decide) i62 6 (by decide) x h0 (by omega)
  · exact bits_mask .i64 62 (by decide) i62 7 (by decide) x h0 (by omega)
  · exact bits_mask .i64 62 (by decide) i62 8 (by decide) x h0 (by omega)
/-- laid into bits that are not set -/
theorem or_topv (x n : Int) (h0 : 0 ≤ x) (h1 : x < 256) (n0 : 0 ≤ n) (w : Int) (hw : 1 ≤ w ∧ w ≤ 8) (n1 : n ≤ topW w) (h : x % (topW w + 1) = 0) : bits .or .u8 x n = x + n := by
  revert w
  refine fun w hw => eight (P := fun w => n ≤ topW w → x % (topW w + 1) = 0 → bits .or .u8 x n = x + n) ?_ ?_ ?_ ?_ ?_ ?_ ?_ ?_ w hw
  · intro a b; exact bits_join .u8 8 (by decide) wraps_u8 1 x n h0 b (by omega) n0 (by have : n ≤ 1 := a; omega) (by have : n ≤ 1 := a; omega)
  · intro a b; exact bits_join .u8 8 (by decide) wraps_u8 2 x n h0 b (by omega) n0 (by have : n ≤ 3 := a; omega) (by have : n ≤ 3 := a; omega)
  · intro a b; exact bits_join .u8 8 (by decide) wraps_u8 3 x n h0 b (by omega) n0 (by have : n ≤ 7 := a; omega) (by have : n ≤ 7 := a; omega)
  · intro a b; exact bits_join .u8 8 (by decide) wraps_u8 4 x n h0 b (by omega) n0 (by have : n ≤ 15 := a; omega) (by have : n ≤ 15 := a; omega)
  · intro a b; exact bits_join .u8 8 (by decide) wraps_u8 5 x n h0 b (by omega) n0 (by have : n ≤ 31 := a; omega) (by have : n ≤ 31 := a; omega)
  · intro a b; exact bits_join .u8 8 (by decide) wraps_u8 6 x n h0 b (by omega) n0 (by have : n ≤ 63 := a; omega) (by have : n ≤ 63 := a; omega)
  · intro a b; exact bits_join .u8 8 (by decide) wraps_u8 7 x n h0 b (by omega) n0 (by have : n ≤ 127 := a; omega) (by have : n ≤ 127 := a; omega)
  · intro a b; exact bits_join .u8 8 (by decide) wraps_u8 8 x n h0 b (by omega) n0 (by have : n ≤ 255 := a; omega) (by have : n ≤ 255 := a; omega)

theorem isWidth_any (w : Int) (W : World) : Calls Try.prog 62 #[.int .i64 w] W fun e W' => e = .returned (.bool (decide (1 ≤ w ∧ w ≤ 8))) ∧ W = W' := by
  by_cases h : 1 ≤ w ∧ w ≤ 8
  · have e1 : decide (1 ≤ w) = true := by simp; omega
    have e2 : decide (w ≤ 8) = true := by simp; omega
    have HD := Lib.hid (show decide (1 ≤ w ∧ w ≤ 8) = true from decide_eq_true h)
    rw [HD.out]
    clear h
    go_enter Try.func62, Try.ntmps62
    go_wp2_with fail
    go_ret
    exact ⟨rfl, rfl⟩
  · have HD := Lib.hid (show decide (1 ≤ w ∧ w ≤ 8) = false from decide_eq_false h)
    rw [HD.out]
    by_cases a : 1 ≤ w
    · have e1 : decide (1 ≤ w) = true := by simp; omega
      have e2 : decide (w ≤ 8) = false := by simp; omega
      clear h a
      go_enter Try.func62, Try.ntmps62
      go_wp2_with fail
      go_ret
      exact ⟨rfl, rfl⟩
    · have e1 : decide (1 ≤ w) = false := by simp; omega
      clear h a
      go_enter Try.func62, Try.ntmps62
      go_wp2_with fail
      go_ret
      exact ⟨rfl, rfl⟩
theorem isWidth_yes {w : Int} (h : 1 ≤ w ∧ w ≤ 8) (W : World) : Calls Try.prog 62 #[.int .i64 w] W fun e W' => e = .returned (.bool true) ∧ W = W' := by
  have := isWidth_any w W
  rwa [decide_eq_true h] at this
theorem isWidth_no {w : Int} (h : ¬ (1 ≤ w ∧ w ≤ 8)) (W : World) : Calls Try.prog 62 #[.int .i64 w] W fun e W' => e = .returned (.bool false) ∧ W = W' := by
  have := isWidth_any w W
  rwa [decide_eq_false h] at this
theorem topOf_any (w : Int) (hw : 1 ≤ w ∧ w ≤ 8) (W : World) : Calls Try.prog 63 #[.int .i64 w] W fun e W' => e = .returned (.int .i64 (topW w)) ∧ W = W' := by
  revert w
  refine eight ?_ ?_ ?_ ?_ ?_ ?_ ?_ ?_
  all_goals
    go_enter Try.func63, Try.ntmps63
    go_wp2_with fail
    go_ret
    exact ⟨rfl, rfl⟩
end Go.Proofs.Ytpfahdogedchpaa
