/- Several texts in one. -/
import Derived.Test.YtpfahdogedchpaaDoorGrpC
import Derived.Below
import Derived.RangeFuncNested
import Derived.RangeFuncBound
import Derived.RangeFuncCalls
import Derived.RangeFuncLeaves
import Derived.Shelf.Abstract
import Derived.Shelf.RegionOpen
import Derived.WalkKit
import Derived.OwnWalkIn
import Derived.TacticsInMore
import Derived.LoopNIn
import Derived.LoopIn
import Derived.Test.YtpfahdogedchpaaDoorGrpM
import Derived.Test.YtpfahdogedchpaaDoorGrpH
import Derived.ChangeKeysEq
/- Ranges over a function: a round's regions that draw their order, by an invariant; blocks that such a loop keeps. Nothing of the program's. -/
namespace Go.Proofs.YtpfahdogedchpaaDoor.P
set_option linter.unusedVariables false
open Go.RowKit
section
variable {P : Program} {ops : Array Oper} {Q : Exit → Act → World → Prop} {md : Region.Mode} {n l : Nat}
/-- an operation that is no defer statement, carried out in a round as everywhere -/
theorem opIn_of_wp {o : Oper} {a : Act} {w : World} {K : Act → World → Prop} (hnd : ∀ c, o.op ≠ .defer c) (h : Oper.wp P o a w K Q) : o.wpIn (Fence.wide.inRound l) n P a w K Q := by
  refine ⟨fun _ _ => trivial, ?_⟩
  rw [Fence.inRound_round, Oper.semAt_some l _ _ hnd]
  unfold Oper.wp at h
  generalize (execOp a.eval o).run P w = r at h ⊢
  cases r with
  | ok x w' =>
    cases x with
    | value v => exact h
    | skip => exact h
    | «defer» d => exact h
    | enter f args => exact ⟨fun hd => by simp [Fence.wide] at hd, CallsIn.inRound l (callsIn_wide.2 h)⟩
    | row r args => exact ⟨fun hd => by simp [Fence.wide] at hd, fun c cs _ => let ⟨v, w', r, s⟩ := h c cs; ⟨v, w', r, stepsIn_wide.2 s⟩⟩
    | _ => exact h.elim
  | halt x w' => cases x <;> exact h
theorem wpOpIn_stepR {i : Nat} {o : Oper} {K : Act → World → Prop} {a : Act} {w : World} (ho : ops[i]? = some o) (hnd : ∀ c, o.op ≠ .defer c)
    (h : ∀ K' : Act → World → Prop, (∀ a w, K a w → K' a w) → if Region.wanted o (yielded ops a.tmps) = true then Oper.wp P o a w K' Q else K' (a.put o.dst undef) w) : wpOpIn (Fence.wide.inRound l) n P ops Q i K a w := by
  have := h K (fun _ _ h => h)
  unfold wpOpIn
  rw [ho]
  show if Region.wanted o (yielded ops a.tmps) = true then _ else _
  split
  · rename_i hw
    rw [if_pos hw] at this
    exact opIn_of_wp hnd this
  · rename_i hw
    rw [if_neg hw] at this
    exact ⟨fun _ _ => trivial, this⟩
theorem wpAnyIn_inv {F : Fence} (I : Array Bool → Act → World → Prop) (hfin : ∀ listed a w, I listed a w → Region.ready md ops listed = [] → Q .normal a w)
    (hI : ∀ listed a w, I listed a w → ∀ i ∈ Region.ready md ops listed, wpOpIn F n P ops Q i (I (listed.setIfInBounds i true)) a w) :
    ∀ fuel (listed : Array Bool) a w, pend listed.toList ≤ fuel → I listed a w → wpAnyIn F n P md ops Q fuel listed a w
  | 0, listed, a, w, hp, h => by
    have hr : Region.ready md ops listed = [] := by
      rcases hc : Region.ready md ops listed with _ | ⟨i, l⟩
      · rfl
      · exact absurd (ready_bit (i := i) (md := md) (ops := ops) (by rw [hc]; simp)) (pend_zero _ (by omega) i)
    exact ⟨hr, hfin _ _ _ h hr⟩
  | fuel + 1, listed, a, w, hp, h => by
    refine ⟨fun hr => hfin _ _ _ h hr, fun i hi => ?_⟩
    have hb := pend_set _ _ (ready_bit hi)
    refine wpOpIn_mono (fun a' w' h' => ?_) (hI _ _ _ h i hi)
    exact wpAnyIn_inv I hfin hI fuel _ _ _ (by rw [Array.toList_setIfInBounds]; omega) h'
theorem wpIn_region_inv {F : Fence} {id : Nat} {a : Act} {w : World} (I : Array Bool → Act → World → Prop) (hm : P.follows .mixedOrders = true) (h0 : I (Array.replicate ops.size false) a w.drew)
    (hfin : ∀ listed a w, I listed a w → Region.ready .any ops listed = [] → Q .normal a w)
    (hI : ∀ listed a w, I listed a w → ∀ i ∈ Region.ready .any ops listed, wpOpIn F n P ops Q i (I (listed.setIfInBounds i true)) a w) : (Code.region id ops true).wpIn F n P Q a w :=
  wpIn_region_any hm (wpAnyIn_inv I hfin hI _ _ _ _ (by rw [Array.toList_replicate]; unfold pend; exact Nat.le_trans List.countP_le_length (by simp)) h0)
end
/-- a block of cells is kept by whoever keeps cells -/
theorem own_blk {β : Type} (b : Nat) (o : β → Obj) (ho : ∀ s, (o s).isCells = true) : Own (fun (s : β) W => W.heap[b]? = some (o s)) := fun s X Y row hs hg hrow =>
  (hg.block b (Array.getElem?_eq_some_iff.1 hs).1 (fun e => by
    obtain ⟨o', h1, h2⟩ := hrow b e.symm
    rw [show X.heap[b]? = _ from hs] at h1
    cases h1
    rw [ho s] at h2
    cases h2)).trans hs
theorem keepsFrom_zero {w w' : World} (h : KeepsFrom 0 w w') (B : Nat) : KeepsFrom B w w' := ⟨h.size, fun k o _ hk ho => h.same k o (Nat.zero_le _) hk ho⟩
theorem keepsFrom_below {B B' : Nat} {w w' : World} (h : Below B' w w') (hB : w.heap.size ≤ B') : KeepsFrom B w w' := ⟨h.size, fun k o _ hk _ => (h.block k (Nat.lt_of_lt_of_le (Array.getElem?_eq_some_iff.1 hk).1 hB)).trans hk⟩
end Go.Proofs.YtpfahdogedchpaaDoor.P
/- slices.Backward over a row of fields: its contract. -/
namespace Go.Proofs.YtpfahdogedchpaaDoor
set_option linter.unusedVariables false
open Go.RowKit Go.Shelf P
attribute [local go_sem] Oper.semAt_some

/-- what a round is handed: a place and a field -/
abbrev FI := { x : Nat × Fld // x.1 < 1000 ∧ FdWf x.2 }
abbrev fiV (x : FI) : Array Value := #[.int .i64 ((x.1.1 : Nat) : Int), .agg #[.string (strOfNums x.1.2.name), .string (strOfNums x.1.2.val)]]
theorem wf_getD {l : List Fld} (h : ∀ x ∈ l, FdWf x) (j : Nat) : FdWf (l.getD j fd0) := by
  rw [List.getD_eq_getElem?_getD]
  rcases Nat.lt_or_ge j l.length with q | q
  · rw [List.getElem?_eq_getElem q]; exact h _ (List.getElem_mem q)
  · rw [List.getElem?_eq_none q]; exact fdWf0
/-- the round behind k others -/
def fiAt (l : List Fld) (hw : ∀ x ∈ l, FdWf x) (hl : l.length ≤ 1000) (k : Nat) : FI := ⟨(l.length - 1 - k, l.getD (l.length - 1 - k) fd0), by simp only; omega, wf_getD hw _⟩
def fiUp (l : List Fld) (hw : ∀ x ∈ l, FdWf x) (hl : l.length ≤ 1000) (k : Nat) : List FI := (List.range k).map (fiAt l hw hl)
theorem fiUp_succ (l : List Fld) (hw : ∀ x ∈ l, FdWf x) (hl : l.length ≤ 1000) (k : Nat) : fiUp l hw hl (k + 1) = fiUp l hw hl k ++ [fiAt l hw hl k] := by simp [fiUp, List.range_succ]
theorem fiUp_length (l : List Fld) (hw : ∀ x ∈ l, FdWf x) (hl : l.length ≤ 1000) (k : Nat) : (fiUp l hw hl k).length = k := by simp [fiUp]
set_option maxRecDepth 100000 in
set_option maxHeartbeats 2000000 in
theorem back1_in (n : Nat) (hn : 1 ≤ n) (l Bs n₀ : Nat) (A : Option Addr) (len cap : Nat) (fs : List Fld) (hl : fs.length = len) (hwf : ∀ x ∈ fs, FdWf x) (h1000 : fs.length ≤ 1000) (hB : Bs < n₀) (J Jx : List FI → World → Prop)
    (hY : ∀ pre x W, J pre W → pre.length < len → YieldAt Fence.wide (n - 1) Tryd.prog l (fiV x) W fun e W' =>
      (e = .returned (.bool true) ∧ J (pre ++ [x]) W' ∧ Below n₀ W W') ∨ (e = .returned (.bool false) ∧ Jx (pre ++ [x]) W'))
    (W : World) (hBs : W.cell? ⟨Bs, 0, none⟩ = some (.slice A len cap)) (hr : RowE FdE W n₀ A fs) (h0 : J [] W) :
    CallsIn Fence.wide n Tryd.prog 94 #[.func (.yield l) #[] #[], .pointer (some ⟨Bs, 0, none⟩)] W fun e W' => (∃ v, e = .returned v) ∧
      ((∃ ys, ys = fiUp fs hwf h1000 len ∧ J ys W') ∨ (∃ pre, (∃ k, k ≤ len ∧ pre = fiUp fs hwf h1000 k) ∧ Jx pre W')) := by
  have hlen : len ≤ 1000 := by omega
  refine callsIn_of_wp Tryd.func94 rfl trivial ?_ rfl
  simp only [Tryd.ntmps94, List.size_toArray, List.length_cons, List.length_nil, Nat.reduceAdd, Nat.reduceSub, Array.replicate_succ, Array.replicate_zero, List.push_toArray, List.append_toArray, List.nil_append, List.cons_append]
  gi_wp2
  gi_loopw [3] (fun i wr => ∃ r k : Nat, r + k = len ∧ i = .int .i64 ((r : Int) - 1) ∧ J (fiUp fs hwf h1000 k) wr ∧ Below n₀ W wr)
    (fun i _ => (intOf i + 1).toNat)
  case atStart => exact ⟨len, 0, by omega, rfl, h0, Below.refl _ _⟩
  case round =>
    obtain ⟨r, k, hrk, rfl, hJs, hnx⟩ := hrel
    cases r with
    | zero =>
      obtain rfl : k = len := by omega
      gi_wp2
      go_end0
      exact ⟨⟨_, rfl⟩, .inl ⟨_, rfl, hJs⟩⟩
    | succ m =>
      have hm1 : ((m + 1 : Nat) : Int) - 1 = (m : Int) := by omega
      rw [hm1]
      have hml : m < fs.length := by omega
      have hmI : (m : Int) < (len : Int) := by omega
      obtain ⟨fn, tmps, assign, body, hy, hR⟩ := hY _ (fiAt fs hwf h1000 k) wr hJs (by rw [fiUp_length]; omega)
      have hat : (fiAt fs hwf h1000 k).1 = (m, fs.getD m fd0) := by
        have e : fs.length - 1 - k = m := by omega
        show (fs.length - 1 - k, fs.getD (fs.length - 1 - k) fd0) = _
        rw [e]
      dsimp only [fiV] at hy
      rw [hat] at hy
      simp only at hy
      obtain ⟨b, off, rfl, hb, x0, x1⟩ := fd_cells hr hml
      have y0 := (hnx.cell (p := ⟨b, off + m * 2, none⟩) hb).trans x0
      have y1 := (hnx.cell (p := ⟨b, off + m * 2 + 1, none⟩) hb).trans x1
      have yb := (hnx.cell (p := ⟨Bs, 0, none⟩) hB).trans hBs
      obtain ⟨S1, hS1⟩ : ∃ S, strOfNums (fs.getD m fd0).name = S := ⟨_, rfl⟩
      obtain ⟨S2, hS2⟩ : ∃ S, strOfNums (fs.getD m fd0).val = S := ⟨_, rfl⟩
      rw [hS1, hS2] at hy
      rw [hS1] at y0
      rw [hS2] at y1
      clear x0 x1 hS1 hS2 hat
      gi_wp2
      refine hR.mono ?_
      rintro e W3 (⟨rfl, hJ3, hk3⟩ | ⟨rfl, hJx3⟩)
      · gi_wp2
        go_roundw
        case rel => exact ⟨m, k + 1, by omega, by first | rfl | go_num, by rw [fiUp_succ]; exact hJ3, hnx.trans hk3⟩
        case measure => simp [intOf] <;> omega
      · gi_wp2
        refine bodyPost_ret (results_none rfl _ _ _) rfl ?_
        exact ⟨⟨_, rfl⟩, .inr ⟨_, ⟨k + 1, by omega, (fiUp_succ _ _ _ _).symm⟩, hJx3⟩⟩
/-- what it is handed back: a function that holds the row's box -/
theorem back_any (A : Option Addr) (len cap : Nat) (w : World) :
    Calls Tryd.prog 83 #[.slice A len cap] w fun e w' => e = .returned (.func (.func 94) #[] #[.pointer (some ⟨w.heap.size, 0, none⟩)]) ∧ w' = w.alloc (.cells #[.slice A len cap] 22) := by
  go_enter Tryd.func83, Tryd.ntmps83
  go_wp2_with fail
  go_ret
  exact ⟨rfl, rfl⟩
theorem back_stops (n : Nat) (hn : 1 ≤ n) (Bs n₀ : Nat) (A : Option Addr) (len cap : Nat) (fs : List Fld) (hl : fs.length = len) (hwf : ∀ x ∈ fs, FdWf x) (h1000 : fs.length ≤ 1000) (hB : Bs < n₀) (w : World) (hn₀ : n₀ ≤ w.heap.size)
    (hBs : w.cell? ⟨Bs, 0, none⟩ = some (.slice A len cap)) (hr : RowE FdE w n₀ A fs) :
    SeqStopsK Fence.wide n Tryd.prog 94 #[.pointer (some ⟨Bs, 0, none⟩)] fiV (Below n₀) (fun ys => ys = fiUp fs hwf h1000 len) (fun pre => ∃ k, k ≤ len ∧ pre = fiUp fs hwf h1000 k) len w := fun l J Jx W hW _ _ hY h0 =>
  back1_in n hn l Bs n₀ A len cap fs hl hwf h1000 hB J Jx hY W ((hW.cell (p := ⟨Bs, 0, none⟩) (Nat.lt_of_lt_of_le hB hn₀)).trans hBs) (hr.below (hW.mono hn₀)) h0
end Go.Proofs.YtpfahdogedchpaaDoor
/- The project's tables: Find's closures; what lies in memory between its steps. -/
namespace Go.Proofs.YtpfahdogedchpaaDoor
set_option linter.unusedVariables false
open Go.RowKit P

theorem fsame_any (y f : Fld) (hy : FdWf y) (hf : FdWf f) (b : Nat) (w : World) (h : w.heap[b]? = some (.cells #[.string (strOfNums f.name), .string (strOfNums f.val)] 54 (0, 0))) :
    Calls Tryd.prog 81 #[.agg #[.string (strOfNums y.name), .string (strOfNums y.val)], .pointer (some ⟨b, 0, none⟩)] w fun e w' => e = .returned (.bool (decide (y = f))) ∧ Below w.heap.size w w' := by
  have E1 := Lib.hid (fl_eqB hy.1 hf.1)
  have E2 := Lib.hid (fl_eqB hy.2.1 hf.2.1)
  obtain ⟨S1, hS1⟩ : ∃ S, strOfNums y.name = S := ⟨_, rfl⟩
  obtain ⟨S2, hS2⟩ : ∃ S, strOfNums y.val = S := ⟨_, rfl⟩
  obtain ⟨T1, hT1⟩ : ∃ S, strOfNums f.name = S := ⟨_, rfl⟩
  obtain ⟨T2, hT2⟩ : ∃ S, strOfNums f.val = S := ⟨_, rfl⟩
  rw [hS1] at E1 ⊢
  rw [hS2] at E2 ⊢
  rw [hT1] at E1 h
  rw [hT2] at E2 h
  have HD := Lib.hid (show decide (y = f) = ((S1.toList == T1.toList) && (S2.toList == T2.toList)) by
    rw [E1.out, E2.out, Bool.eq_iff_iff, Bool.and_eq_true, decide_eq_true_iff, decide_eq_true_iff, decide_eq_true_iff]
    exact fld_iff)
  rw [HD.out]
  have B0 := Lib.hid ((Below.refl w.heap.size w).alloc (Nat.le_refl _) (.cells #[.string S1, .string S2] 54))
  have F1 := (B0.out.block _ (lt_of_block h)).trans h
  obtain ⟨y0, y1⟩ := bk2F F1
  clear hS1 hS2 hT1 hT2 E1 E2 HD hy hf h F1
  cases c1 : (S1.toList == T1.toList) with
  | false =>
    go_enter Tryd.func81, Tryd.ntmps81
    go_wp2_with fail
    go_ret
    exact ⟨by first | rfl | simp, B0.out⟩
  | true =>
    cases c2 : (S2.toList == T2.toList) with
    | false =>
      go_enter Tryd.func81, Tryd.ntmps81
      go_wp2_with fail
      go_ret
      exact ⟨by first | rfl | simp, B0.out⟩
    | true =>
      go_enter Tryd.func81, Tryd.ntmps81
      go_wp2_with fail
      go_ret
      exact ⟨by first | rfl | simp, B0.out⟩
theorem fnamed_any (y f : Fld) (hy : FdWf y) (hf : FdWf f) (b : Nat) (w : World) (h : w.heap[b]? = some (.cells #[.string (strOfNums f.name), .string (strOfNums f.val)] 54 (0, 0))) :
    Calls Tryd.prog 82 #[.agg #[.string (strOfNums y.name), .string (strOfNums y.val)], .pointer (some ⟨b, 0, none⟩)] w fun e w' => e = .returned (.bool (decide (y.name = f.name))) ∧ Below w.heap.size w w' := by
  have E1 := Lib.hid (fl_eqB hy.1 hf.1)
  obtain ⟨S1, hS1⟩ : ∃ S, strOfNums y.name = S := ⟨_, rfl⟩
  obtain ⟨S2, hS2⟩ : ∃ S, strOfNums y.val = S := ⟨_, rfl⟩
  obtain ⟨T1, hT1⟩ : ∃ S, strOfNums f.name = S := ⟨_, rfl⟩
  obtain ⟨T2, hT2⟩ : ∃ S, strOfNums f.val = S := ⟨_, rfl⟩
  rw [hS1] at E1 ⊢
  rw [hS2]
  rw [hT1] at E1 h
  rw [hT2] at h
  rw [← E1.out]
  have B0 := Lib.hid ((Below.refl w.heap.size w).alloc (Nat.le_refl _) (.cells #[.string S1, .string S2] 54))
  have F1 := (B0.out.block _ (lt_of_block h)).trans h
  obtain ⟨y0, y1⟩ := bk2F F1
  clear hS1 hS2 hT1 hT2 E1 hy hf h F1
  go_enter Tryd.func82, Tryd.ntmps82
  go_wp2_with fail
  go_ret
  exact ⟨by first | rfl | simp, B0.out⟩
theorem infoFn : (Tryd.prog.info? 55).map (fun i => i.size) = some 1 := by kernel_rfl
theorem run_fn_at (i : Nat) (hi : i < 2) (a b : Value) (w : World) : (Instr.index 124 (.agg #[a, b]) (.int .i64 (i : Int))).run Tryd.prog w = .ok (if i = 0 then a else b) w := by
  obtain ⟨ti, h1, h2⟩ := Option.map_eq_some_iff.1 infoFn
  have hs := fun w => run_sizeOf (P := Tryd.prog) (w := w) h1
  have hc : Tryd.prog.cellsOf 55 = 1 := by kernel_rfl
  unfold Instr.index
  match i, hi with
  | 0, _ => simp [asIntOf, Sem.run_bind, run_underlying Tryd.underlying124, hs, hc, part, isAgg, run_underlying Tryd.underlying55]
  | 1, _ => simp [asIntOf, Sem.run_bind, run_underlying Tryd.underlying124, hs, hc, part, isAgg, run_underlying Tryd.underlying55]
/-- the three cells of the answer -/
structure RQ (W : World) (t0 t1 t2 : TypeId) (r0 r1 r2 : Value) (w : World) : Prop where
  r0 : w.heap[W.heap.size + 2]? = some (.cells #[r0] t0 (0, 0))
  r1 : w.heap[W.heap.size + 3]? = some (.cells #[r1] t1 (0, 0))
  r2 : w.heap[W.heap.size + 4]? = some (.cells #[r2] t2 (0, 0))
  b : Below W.heap.size W w
theorem RQ.later {W : World} {t0 t1 t2 : TypeId} {r0 r1 r2 : Value} {w w' : World} (h : RQ W t0 t1 t2 r0 r1 r2 w) (b : Below w.heap.size w w') : RQ W t0 t1 t2 r0 r1 r2 w' :=
  ⟨(b.block _ (lt_of_block h.r0)).trans h.r0, (b.block _ (lt_of_block h.r1)).trans h.r1, (b.block _ (lt_of_block h.r2)).trans h.r2, h.b.trans (b.mono h.b.size)⟩
theorem RQ.cells {W : World} {t0 t1 t2 : TypeId} {r0 r1 r2 : Value} {w : World} (h : RQ W t0 t1 t2 r0 r1 r2 w) : w.cell? ⟨W.heap.size + 1 + 1, 0, none⟩ = some r0 ∧ w.cell? ⟨W.heap.size + 1 + 1 + 1, 0, none⟩ = some r1 ∧ w.cell? ⟨W.heap.size + 1 + 1 + 1 + 1, 0, none⟩ = some r2 :=
  ⟨bk_cell h.r0 0, bk_cell h.r1 0, bk_cell h.r2 0⟩
theorem bk1_set {w : World} {b : Nat} {r : Value} {T : TypeId} (h : w.heap[b]? = some (.cells #[r] T (0, 0))) (v : Value) : (w.setCell ⟨b, 0, none⟩ v).heap[b]? = some (.cells #[v] T (0, 0)) := by simpa using bk_set h 0 v
theorem RQ.put0 {W : World} {t0 t1 t2 : TypeId} {r0 r1 r2 : Value} {w : World} (h : RQ W t0 t1 t2 r0 r1 r2 w) (v : Value) : RQ W t0 t1 t2 v r1 r2 (w.setCell ⟨W.heap.size + 2, 0, none⟩ v) :=
  have g := gr_set w (W.heap.size + 2) 0 v
  ⟨bk1_set h.r0 v, (g.block _ (lt_of_block h.r1) (by simp)).trans h.r1, (g.block _ (lt_of_block h.r2) (by simp)).trans h.r2, h.b.grown g h.b.size (fun k e => by cases e; omega)⟩
theorem RQ.put1 {W : World} {t0 t1 t2 : TypeId} {r0 r1 r2 : Value} {w : World} (h : RQ W t0 t1 t2 r0 r1 r2 w) (v : Value) : RQ W t0 t1 t2 r0 v r2 (w.setCell ⟨W.heap.size + 3, 0, none⟩ v) :=
  have g := gr_set w (W.heap.size + 3) 0 v
  ⟨(g.block _ (lt_of_block h.r0) (by simp)).trans h.r0, bk1_set h.r1 v, (g.block _ (lt_of_block h.r2) (by simp)).trans h.r2, h.b.grown g h.b.size (fun k e => by cases e; omega)⟩
theorem RQ.put2 {W : World} {t0 t1 t2 : TypeId} {r0 r1 r2 : Value} {w : World} (h : RQ W t0 t1 t2 r0 r1 r2 w) (v : Value) : RQ W t0 t1 t2 r0 r1 v (w.setCell ⟨W.heap.size + 4, 0, none⟩ v) :=
  have g := gr_set w (W.heap.size + 4) 0 v
  ⟨(g.block _ (lt_of_block h.r0) (by simp)).trans h.r0, (g.block _ (lt_of_block h.r1) (by simp)).trans h.r1, bk1_set h.r2 v, h.b.grown g h.b.size (fun k e => by cases e; omega)⟩
theorem RQ.own {β : Type} {W : World} {t0 t1 t2 : TypeId} (B : Nat) (hB : W.heap.size ≤ B) (r0 r1 r2 : β → Value) : OwnFrom B (fun s w => RQ W t0 t1 t2 (r0 s) (r1 s) (r2 s) w) := fun s X Y row hs hg hr =>
  ⟨own_blk (W.heap.size + 2) (fun s => .cells #[r0 s] t0 (0, 0)) (fun _ => rfl) s X Y row hs.r0 hg (fun r e => (hr r e).2), own_blk (W.heap.size + 3) (fun s => .cells #[r1 s] t1 (0, 0)) (fun _ => rfl) s X Y row hs.r1 hg (fun r e => (hr r e).2),
   own_blk (W.heap.size + 4) (fun s => .cells #[r2 s] t2 (0, 0)) (fun _ => rfl) s X Y row hs.r2 hg (fun r e => (hr r e).2), ownFrom_below (Nat.le_refl _) hB s X Y row hs.b hg hr⟩
theorem five_bk (w : World) (a b : Array Value) (T1 T2 : TypeId) (r0 r1 r2 : Value) (t0 t1 t2 : TypeId) {V : World} (hV : V = ((((w.alloc (.cells a T1)).alloc (.cells b T2)).alloc (.cells #[r0] t0)).alloc (.cells #[r1] t1)).alloc (.cells #[r2] t2)) :
    V.heap[w.heap.size]? = some (.cells a T1 (0, 0)) ∧ V.heap[w.heap.size + 1]? = some (.cells b T2 (0, 0)) ∧ RQ w t0 t1 t2 r0 r1 r2 V := by
  subst hV
  obtain ⟨h1, h2, h3⟩ := two_bk w a b T1 T2
  have s2 : ((w.alloc (.cells a T1)).alloc (.cells b T2)).heap.size = w.heap.size + 2 := by simp
  obtain ⟨W2, hW2⟩ : ∃ W2, (w.alloc (.cells a T1)).alloc (.cells b T2) = W2 := ⟨_, rfl⟩
  rw [hW2] at h1 h2 h3 s2 ⊢
  have g0 := heap_alloc_new W2 (.cells #[r0] t0)
  have s3 : (W2.alloc (.cells #[r0] t0)).heap.size = w.heap.size + 3 := by simp [s2]
  have b3 := (Below.refl W2.heap.size W2).alloc (Nat.le_refl _) (.cells #[r0] t0)
  obtain ⟨W3, hW3⟩ : ∃ x, W2.alloc (.cells #[r0] t0) = x := ⟨_, rfl⟩
  rw [hW3] at g0 s3 b3 ⊢
  have g1 := heap_alloc_new W3 (.cells #[r1] t1)
  have s4 : (W3.alloc (.cells #[r1] t1)).heap.size = w.heap.size + 4 := by simp [s3]
  have b4 := (Below.refl W3.heap.size W3).alloc (Nat.le_refl _) (.cells #[r1] t1)
  obtain ⟨W4, hW4⟩ : ∃ x, W3.alloc (.cells #[r1] t1) = x := ⟨_, rfl⟩
  rw [hW4] at g1 s4 b4 ⊢
  have g2 := heap_alloc_new W4 (.cells #[r2] t2)
  have b5 := (Below.refl W4.heap.size W4).alloc (Nat.le_refl _) (.cells #[r2] t2)
  obtain ⟨W5, hW5⟩ : ∃ x, W4.alloc (.cells #[r2] t2) = x := ⟨_, rfl⟩
  rw [hW5] at g2 b5 ⊢
  rw [s2] at g0
  rw [s3] at g1
  rw [s4] at g2
  have k (i : Nat) (h : i < w.heap.size + 2) : W5.heap[i]? = W2.heap[i]? := ((b5.block _ (by omega)).trans (b4.block _ (by omega))).trans (b3.block _ (by omega))
  exact ⟨(k _ (by omega)).trans h1, (k _ (by omega)).trans h2, ((b5.block _ (by omega)).trans (b4.block _ (by omega))).trans g0, (b5.block _ (by omega)).trans g1, g2, h3.trans (((b3.trans (b4.mono b3.size)).trans (b5.mono (Nat.le_trans b3.size b4.size))).mono h3.size)⟩
/-- the last place: all behind it fail -/
theorem lastAt_at {p : Fld → Bool} : ∀ {l : List Fld} {i : Nat}, i < l.length → p (l.getD i fd0) = true → (∀ j, i < j → j < l.length → p (l.getD j fd0) = false) → lastAt p l = some i
  | [], i, h, _, _ => by cases h
  | y :: l, i, h, hp, hn => by
    show (match lastAt p l with | some i => some (i + 1) | none => if p y then some 0 else none) = some i
    cases i with
    | zero =>
      have e : lastAt p l = none := by
        cases q : lastAt p l with
        | none => rfl
        | some j =>
          obtain ⟨h1, h2⟩ := lastAt_lt p q
          have := hn (j + 1) (by omega) (by rw [List.length_cons]; omega)
          rw [List.getD_cons_succ] at this
          rw [this] at h2; cases h2
      rw [e]
      rw [List.getD_cons_zero] at hp
      simp [hp]
    | succ i =>
      rw [List.length_cons] at h
      rw [List.getD_cons_succ] at hp
      rw [lastAt_at (l := l) (i := i) (by omega) hp (fun j h1 h2 => by have := hn (j + 1) (by omega) (by rw [List.length_cons]; omega); rwa [List.getD_cons_succ] at this)]
theorem lastAt_no {p : Fld → Bool} {l : List Fld} (hn : ∀ j, j < l.length → p (l.getD j fd0) = false) : lastAt p l = none := by
  cases q : lastAt p l with
  | none => rfl
  | some j =>
    obtain ⟨h1, h2⟩ := lastAt_lt p q
    rw [hn j h1] at h2; cases h2
/-- what came, backwards, and the last of it is the one -/
theorem fiUp_hit {l : List Fld} {hw : ∀ x ∈ l, FdWf x} {hl : l.length ≤ 1000} {p : Fld → Bool} {k : Nat} (hk : k ≤ l.length) {q : List FI} {x : FI} (e : q ++ [x] = fiUp l hw hl k) (hq : ∀ y ∈ q, p y.1.2 = false) (hx : p x.1.2 = true) :
    lastAt p l = some x.1.1 ∧ x.1.1 < l.length := by
  cases k with
  | zero => have := congrArg List.length e; rw [fiUp_length] at this; simp at this
  | succ k =>
    rw [fiUp_succ] at e
    obtain ⟨e1, e2⟩ := List.append_inj' e rfl
    simp only [List.cons.injEq, and_true] at e2
    subst e1 e2
    have hlt : l.length - 1 - k < l.length := by omega
    refine ⟨lastAt_at hlt hx fun j h1 h2 => ?_, hlt⟩
    have h1' : l.length - 1 - k < j := h1
    have := hq (fiAt l hw hl (l.length - 1 - j)) (List.mem_map.2 ⟨l.length - 1 - j, List.mem_range.2 (by omega), rfl⟩)
    have e3 : l.length - 1 - (l.length - 1 - j) = j := by omega
    simpa only [fiAt, e3] using this
theorem fiUp_none {l : List Fld} {hw : ∀ x ∈ l, FdWf x} {hl : l.length ≤ 1000} {p : Fld → Bool} {n : Nat} (hn : l.length = n) (hq : ∀ y ∈ fiUp l hw hl n, p y.1.2 = false) : lastAt p l = none := lastAt_no fun j hj => by
  subst hn
  have := hq (fiAt l hw hl (l.length - 1 - j)) (List.mem_map.2 ⟨l.length - 1 - j, List.mem_range.2 (by omega), rfl⟩)
  have e3 : l.length - 1 - (l.length - 1 - j) = j := by omega
  simpa only [fiAt, e3] using this
end Go.Proofs.YtpfahdogedchpaaDoor
