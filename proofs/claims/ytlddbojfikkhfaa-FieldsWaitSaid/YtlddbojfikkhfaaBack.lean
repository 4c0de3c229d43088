/- slices.Backward over a row of fields: its contract. -/
import Derived.Test.YtlddbojfikkhfaaFunIn
import Derived.Test.YtlddbojfikkhfaaGrpM
namespace Go.Proofs.Ytlddbojfikkhfaa
set_option linter.unusedVariables false
open Go.RowKit Go.Shelf P
attribute [local go_sem] Oper.semAt_some

/-- what a round is handed: a place and a field -/
abbrev FI := { x : Nat × Fld // x.1 < 1000 ∧ FdWf x.2 }
abbrev fiV (x : FI) : Array Value := #[.int .i64 ((x.1.1 : Nat) : Int), .agg #[.string (strOfNums x.1.2.name), .string (strOfNums x.1.2.val)]]
theorem wf_getD {l : List Fld} (h : ∀ x ∈ l, FdWf x) (j : Nat) : FdWf (l.getD j fd0) := by
  rw [List.getD_eq_getElem?_getD]
  rcases Nat.lt_or_ge j l.length with q | q
  · rw [List.getElem?_eq_getElem q]; exact h _ (List.getElem_mem q)
  · rw [List.getElem?_eq_none q]; exact fdWf0
/-- the round behind k others -/
def fiAt (l : List Fld) (hw : ∀ x ∈ l, FdWf x) (hl : l.length ≤ 1000) (k : Nat) : FI := ⟨(l.length - 1 - k, l.getD (l.length - 1 - k) fd0), by simp only; omega, wf_getD hw _⟩
def fiUp (l : List Fld) (hw : ∀ x ∈ l, FdWf x) (hl : l.length ≤ 1000) (k : Nat) : List FI := (List.range k).map (fiAt l hw hl)
theorem fiUp_succ (l : List Fld) (hw : ∀ x ∈ l, FdWf x) (hl : l.length ≤ 1000) (k : Nat) : fiUp l hw hl (k + 1) = fiUp l hw hl k ++ [fiAt l hw hl k] := by simp [fiUp, List.range_succ]
theorem fiUp_length (l : List Fld) (hw : ∀ x ∈ l, FdWf x) (hl : l.length ≤ 1000) (k : Nat) : (fiUp l hw hl k).length = k := by simp [fiUp]
set_option maxRecDepth 100000 in
set_option maxHeartbeats 2000000 in
theorem back1_in (n : Nat) (hn : 1 ≤ n) (l Bs n₀ : Nat) (A : Option Addr) (len cap : Nat) (fs : List Fld) (hl : fs.length = len) (hwf : ∀ x ∈ fs, FdWf x) (h1000 : fs.length ≤ 1000) (hB : Bs < n₀) (J Jx : List FI → World → Prop)
    (hY : ∀ pre x W, J pre W → pre.length < len → YieldAt Fence.wide (n - 1) Try.prog l (fiV x) W fun e W' =>
      (e = .returned (.bool true) ∧ J (pre ++ [x]) W' ∧ Below n₀ W W') ∨ (e = .returned (.bool false) ∧ Jx (pre ++ [x]) W'))
    (W : World) (hBs : W.cell? ⟨Bs, 0, none⟩ = some (.slice A len cap)) (hr : RowE FdE W n₀ A fs) (h0 : J [] W) :
    CallsIn Fence.wide n Try.prog 88 #[.func (.yield l) #[] #[], .pointer (some ⟨Bs, 0, none⟩)] W fun e W' => (∃ v, e = .returned v) ∧
      ((∃ ys, ys = fiUp fs hwf h1000 len ∧ J ys W') ∨ (∃ pre, (∃ k, k ≤ len ∧ pre = fiUp fs hwf h1000 k) ∧ Jx pre W')) := by
  have hlen : len ≤ 1000 := by omega
  refine callsIn_of_wp Try.func88 rfl trivial ?_ rfl
  simp only [Try.ntmps88, List.size_toArray, List.length_cons, List.length_nil, Nat.reduceAdd, Nat.reduceSub, Array.replicate_succ, Array.replicate_zero, List.push_toArray, List.append_toArray, List.nil_append, List.cons_append]
  gi_wp2
  gi_loopw [3] (fun i wr => ∃ r k : Nat, r + k = len ∧ i = .int .i64 ((r : Int) - 1) ∧ J (fiUp fs hwf h1000 k) wr ∧ Below n₀ W wr)
    (fun i _ => (intOf i + 1).toNat)
  case atStart => exact ⟨len, 0, by omega, rfl, h0, Below.refl _ _⟩
  case round =>
    obtain ⟨r, k, hrk, rfl, hJs, hnx⟩ := hrel
    cases r with
    | zero =>
      obtain rfl : k = len := by omega
      gi_wp2
      go_end0
      exact ⟨⟨_, rfl⟩, .inl ⟨_, rfl, hJs⟩⟩
    | succ m =>
      have hm1 : ((m + 1 : Nat) : Int) - 1 = (m : Int) := by omega
      rw [hm1]
      have hml : m < fs.length := by omega
      have hmI : (m : Int) < (len : Int) := by omega
      obtain ⟨fn, tmps, assign, body, hy, hR⟩ := hY _ (fiAt fs hwf h1000 k) wr hJs (by rw [fiUp_length]; omega)
      have hat : (fiAt fs hwf h1000 k).1 = (m, fs.getD m fd0) := by
        have e : fs.length - 1 - k = m := by omega
        show (fs.length - 1 - k, fs.getD (fs.length - 1 - k) fd0) = _
        rw [e]
      dsimp only [fiV] at hy
      rw [hat] at hy
      simp only at hy
      obtain ⟨b, off, rfl, hb, x0, x1⟩ := fd_cells hr hml
      have y0 := (hnx.cell (p := ⟨b, off + m * 2, none⟩) hb).trans x0
      have y1 := (hnx.cell (p := ⟨b, off + m * 2 + 1, none⟩) hb).trans x1
      have yb := (hnx.cell (p := ⟨Bs, 0, none⟩) hB).trans hBs
      obtain ⟨S1, hS1⟩ : ∃ S, strOfNums (fs.getD m fd0).name = S := ⟨_, rfl⟩
      obtain ⟨S2, hS2⟩ : ∃ S, strOfNums (fs.getD m fd0).val = S := ⟨_, rfl⟩
      rw [hS1, hS2] at hy
      rw [hS1] at y0
      rw [hS2] at y1
      clear x0 x1 hS1 hS2 hat
      gi_wp2
      refine hR.mono ?_
      rintro e W3 (⟨rfl, hJ3, hk3⟩ | ⟨rfl, hJx3⟩)
      · gi_wp2
        go_roundw
        case rel => exact ⟨m, k + 1, by omega, by first | rfl | go_num, by rw [fiUp_succ]; exact hJ3, hnx.trans hk3⟩
        case measure => simp [intOf] <;> omega
      · gi_wp2
        refine bodyPost_ret (results_none rfl _ _ _) rfl ?_
        exact ⟨⟨_, rfl⟩, .inr ⟨_, ⟨k + 1, by omega, (fiUp_succ _ _ _ _).symm⟩, hJx3⟩⟩
/-- what it is handed back: a function that holds the row's box -/
theorem back_any (A : Option Addr) (len cap : Nat) (w : World) :
    Calls Try.prog 81 #[.slice A len cap] w fun e w' => e = .returned (.func (.func 88) #[] #[.pointer (some ⟨w.heap.size, 0, none⟩)]) ∧ w' = w.alloc (.cells #[.slice A len cap] 22) := by
  go_enter Try.func81, Try.ntmps81
  go_wp2_with fail
  go_ret
  exact ⟨rfl, rfl⟩
theorem back_stops (n : Nat) (hn : 1 ≤ n) (Bs n₀ : Nat) (A : Option Addr) (len cap : Nat) (fs : List Fld) (hl : fs.length = len) (hwf : ∀ x ∈ fs, FdWf x) (h1000 : fs.length ≤ 1000) (hB : Bs < n₀) (w : World) (hn₀ : n₀ ≤ w.heap.size)
    (hBs : w.cell? ⟨Bs, 0, none⟩ = some (.slice A len cap)) (hr : RowE FdE w n₀ A fs) :
    SeqStopsK Fence.wide n Try.prog 88 #[.pointer (some ⟨Bs, 0, none⟩)] fiV (Below n₀) (fun ys => ys = fiUp fs hwf h1000 len) (fun pre => ∃ k, k ≤ len ∧ pre = fiUp fs hwf h1000 k) len w := fun l J Jx W hW _ _ hY h0 =>
  back1_in n hn l Bs n₀ A len cap fs hl hwf h1000 hB J Jx hY W ((hW.cell (p := ⟨Bs, 0, none⟩) (Nat.lt_of_lt_of_le hB hn₀)).trans hBs) (hr.below (hW.mono hn₀)) h0
end Go.Proofs.Ytlddbojfikkhfaa
