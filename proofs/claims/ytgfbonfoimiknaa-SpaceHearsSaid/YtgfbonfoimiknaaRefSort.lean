/- sort.Slice on ranges, by their Lo, as the document's answers call it. -/
import Derived.Test.YtgfbonfoimiknaaShelf
import Derived.Test.YtgfbonfoimiknaaRngSome
import Derived.Shelf.SlSortFuncK.WholeK
import Derived.Shelf.GgSortFunc.Tiny
namespace Go.Proofs.Ytgfbonfoimiknaa
set_option linter.unusedVariables false
open Go.Shelf Go.Proofs Go.RowKit P

def enc2 (p : Int × Int) : List Value := [.int .i64 p.1, .int .i64 p.2]
def ltLo (a b : Int × Int) : Bool := decide (a.1 < b.1)
theorem swo_ltLo : Sort.SWO ltLo where
  irrefl := fun x => by simp [ltLo]
  trans := fun x y z h1 h2 => by simp [ltLo] at *; omega
  ntrans := fun x y z h1 h2 => by simp [ltLo] at *; omega

set_option maxHeartbeats 2000000 in
theorem less_any (blk off c Bs size : Nat) (W : World) (G : Nat → Int) (hs : W.cell? ⟨Bs, 0, none⟩ = some (.slice (some ⟨blk, off, none⟩) size c))
    (hc : ∀ t, t < size → W.cell? ⟨blk, off + t * 2, none⟩ = some (.int .i64 (G t))) (i j : Nat) (hi : i < size) (hj : j < size) (_hsz : size < 4611686018427387904) :
    Calls Try.prog 143 #[.int .i64 i, .int .i64 j, .pointer (some ⟨Bs, 0, none⟩)] W fun e w' => e = .returned (.bool (decide (G i < G j))) ∧ ∃ q, w' = W.drewN q := by
  have ci := hc i hi
  have cj := hc j hj
  go_enter Try.func143, Try.ntmps143
  go_wp2
  go_quiet (fail)
  go_wp2
  go_ret
  exact ⟨rfl, nq, rfl⟩

theorem sl_info : (Try.prog.info? 25).map (·.desc) = some (.slice 80) := by kernel_rfl
theorem el_info : (Try.prog.info? 80).map (fun i => (i.size, i.bytes, i.hasPointers)) = some (2, 16, false) := by kernel_rfl
theorem swapper9 {ie : TypeInfo} (a : ie.hasPointers = false) (b : ie.bytes = 16) (n : Nat) (h2 : 2 ≤ n) : Lib.swapperK n ie 25 = 9 := by
  have c : (n == 0) = false := by simp; omega
  have d : (n == 1) = false := by simp; omega
  simp [Lib.swapperK, a, b, c, d]

/-- an owned row of ranges, as the sort's kit has it -/
theorem holds_own {w : World} {base e g c : Nat} {ps : List (Int × Int)} (h : OwnR w base e (.slice (some ⟨g, 0, none⟩) ps.length c) ps) : Sort.HoldsK enc2 2 w g 0 ps.toArray := by
  intro j hj
  rw [Sort.size_flatK] at hj
  have hj' : j < ps.length * 2 := by simpa using hj
  have hp : 0 < ps.length := by omega
  obtain ⟨b, off, e1, _, hc⟩ := (own_rrow h).1 hp
  have e2 : b = g ∧ off = 0 := by simp at e1; exact ⟨e1.1.symm, e1.2.symm⟩
  obtain ⟨rfl, rfl⟩ := e2
  have hfz : w.frozen? ⟨b, 0 + j, none⟩ = false := by
    rcases h.2 with ⟨hv, _⟩ | ⟨g', cap, cur, hv, _, hh, _⟩
    · cases hv
    · have : g' = b := by simp at hv; exact hv.1.symm
      subst this
      simp [World.frozen?, hh]
  refine ⟨?_, hfz⟩
  rw [Sort.get_flatK _ _ _ _ hj]
  have hh := hc (j / 2) (by omega)
  have hget : (ps.toArray)[j / 2]! = ps.getD (j / 2) (0, 0) := by
    rw [List.getD_eq_getElem?_getD]
    simp [List.getElem?_eq_getElem (show j / 2 < ps.length by omega), Array.getElem!_eq_getD, Array.getD, show j / 2 < ps.length by omega]
  rw [hget]
  rcases Nat.mod_two_eq_zero_or_one j with m | m
  · rw [m, show 0 + j = 0 + j / 2 * 2 by omega, hh.1]; rfl
  · rw [m, show 0 + j = 0 + j / 2 * 2 + 1 by omega, hh.2]; rfl

/-- what the sort leaves -/
def SortPost (base blk : Nat) (ps : List (Int × Int)) (w : World) (e : Ending) (w' : World) : Prop :=
  e = .returned (.tuple #[]) ∧ ∃ qs : List (Int × Int), qs.Perm ps ∧ (∀ i j, i < j → j < qs.length → (qs.getD i (0, 0)).1 ≤ (qs.getD j (0, 0)).1) ∧ RRow w' w'.heap.size (some ⟨blk, 0, none⟩) qs ∧
    Below base w w' ∧ w.heap.size ≤ w'.heap.size ∧ ∀ (p : Addr) (u : Value), w.cell? p = some u → p.block ≠ blk → w'.cell? p = some u

theorem sort_tiny (base blk c Bs : Nat) (ps : List (Int × Int)) (w : World) (h : OwnR w base 80 (.slice (some ⟨blk, 0, none⟩) ps.length c) ps) (hb : base ≤ w.heap.size) (h1 : ps.length = 1) :
    Calls Try.prog 142 #[.iface 25 (.slice (some ⟨blk, 0, none⟩) ps.length c), .func (.func 143) #[] #[.pointer (some ⟨Bs, 0, none⟩)]] w (SortPost base blk ps w) := by
  obtain ⟨i, hi, hd⟩ := Option.map_eq_some_iff.1 sl_info
  obtain ⟨ie, hie, he⟩ := Option.map_eq_some_iff.1 el_info
  simp only [Prod.mk.injEq] at he
  have row := own_rrow h
  have hS := Any.sort_Slice_tiny sl6 25 80 i ie hi hd (by kernel_rfl) hie 25 (fun _ => by kernel_rfl) (some ⟨blk, 0, none⟩) ps.length c (by omega) 169
    (by rw [h1]; kernel_rfl) (.func 143) #[] #[.pointer (some ⟨Bs, 0, none⟩)] w
  change Calls Try.prog 142 _ _ _ at hS
  refine hS.mono ?_
  rintro e w' ⟨rfl, os, rfl⟩
  refine ⟨rfl, ps, List.Perm.refl _, fun i j hij hj => by omega, ?_, ?_, ?_, ?_⟩
  · exact (row.1.keep fun p hp => Sort.cell?_grow w os p hp).more (by simp)
  · exact ⟨rfl, rfl, rfl, by simp, fun k hk => Sort.heap_grow_old w os (by omega)⟩
  · simp
  · intro p u hu _
    rw [Sort.cell?_grow _ _ _ (World.block_lt_of_cell? w p hu)]; exact hu

theorem sort_any (base blk c Bs : Nat) (ps : List (Int × Int)) (w : World) (h : OwnR w base 80 (.slice (some ⟨blk, 0, none⟩) ps.length c) ps) (hb : base ≤ w.heap.size) (h2 : 2 ≤ ps.length) (hsz : ps.length < 4611686018427387904)
    (hBs : w.cell? ⟨Bs, 0, none⟩ = some (.slice (some ⟨blk, 0, none⟩) ps.length c)) (hB2 : Bs ≠ blk) :
    Calls Try.prog 142 #[.iface 25 (.slice (some ⟨blk, 0, none⟩) ps.length c), .func (.func 143) #[] #[.pointer (some ⟨Bs, 0, none⟩)]] w (SortPost base blk ps w) := by
  obtain ⟨i, hi, hd⟩ := Option.map_eq_some_iff.1 sl_info
  obtain ⟨ie, hie, he⟩ := Option.map_eq_some_iff.1 el_info
  simp only [Prod.mk.injEq] at he
  have hH : Sort.HoldsK enc2 2 w blk 0 ps.toArray := holds_own h
  have hblk : base ≤ blk ∧ blk < w.heap.size := h.lt blk rfl
  have hB1 : Bs < w.heap.size := World.block_lt_of_cell? w _ hBs
  have hsize : ps.toArray.size = ps.length := by simp
  have hless : LessReadsK Try.prog 143 #[.pointer (some ⟨Bs, 0, none⟩)] enc2 2 ltLo blk 0 ps.toArray.size w := by
    intro m os dk hs i j hi hj
    have e : sortWorldK enc2 2 w blk 0 m dk os = Sort.putRowK enc2 2 (Sort.grow (Sort.ahead w m) os) blk 0 dk := by
      unfold sortWorldK; rw [Sort.putRowK_grow _ _ (Sort.ahead w m) _ blk 0 _ hblk.2]
    have hHg : Sort.HoldsK enc2 2 (Sort.grow (Sort.ahead w m) os) blk 0 ps.toArray := Sort.holdsK_grow _ _ _ _ blk 0 _ hblk.2 (Sort.holdsK_ahead _ _ _ _ _ _ _ hH)
    refine less_any blk 0 c Bs ps.toArray.size _ (fun t => dk[t]!.1) ?_ (fun t ht => ?_) i j hi hj (by omega)
    · rw [e, Sort.cell?_putRowK_other _ _ _ blk 0 dk _ (by exact hB2), Sort.cell?_grow _ _ _ (by exact hB1), hsize]; exact hBs
    · rw [e]; exact ((Sort.holdsK_putRowK _ _ _ blk 0 _ dk hHg hs).cell (i := t) (c := 0) (by omega) (by omega)).1
  have hS := Any.sort_Slice_cells_sorted sl6 25 80 i ie hi hd (by kernel_rfl) hie 25 (fun _ => by kernel_rfl) enc2 2 (fun _ => rfl) he.1 (fun _ => by kernel_rfl)
    (fun x v hv => by simp [enc2] at hv; rcases hv with rfl | rfl <;> rfl) ltLo swo_ltLo 143 _
    (enters_of Try.func143 (by kernel_rfl) rfl) blk 0 c ps.toArray (by omega) (by omega) 176 (by rw [swapper9 he.2.2 he.2.1 _ (by omega)]; kernel_rfl) false
    (fun args W => run_callFunc_extern Try.func176 (by kernel_rfl) (by kernel_rfl) (by kernel_rfl) (e := Extern.ReflectliteSwapper.swap false) (by kernel_rfl) args W) w hless hH hblk.2
  rw [hsize] at hS
  change Calls Try.prog 142 _ _ _ at hS
  refine hS.mono ?_
  rintro e w' ⟨rfl, d', n, os, hP, hSo, rfl⟩
  have hs' : d'.size = ps.length := hP.1.trans hsize
  have hperm : d'.toList.Perm ps := by
    have := hP.2.2
    have e1 : (d'.extract 0 ps.length).toList = d'.toList := by rw [← hs']; simp
    have e2 : (ps.toArray.extract 0 ps.length).toList = ps := by simp
    rw [e1, e2] at this
    exact this
  have hget : ∀ i, i < ps.length → d'[i]! = d'.toList.getD i (0, 0) := fun i hi => by
    have hi' : i < d'.size := by omega
    rw [getElem!_pos d' i hi', List.getD_eq_getElem?_getD, List.getElem?_eq_getElem (by simpa using hi')]
    simp
  have hsz1 : (Sort.putRowK enc2 2 (Sort.ahead w n) blk 0 d').heap.size = w.heap.size := by rw [Sort.size_putRowK]; rfl
  have hH' : Sort.HoldsK enc2 2 (Sort.grow (Sort.putRowK enc2 2 (Sort.ahead w n) blk 0 d') os) blk 0 d' :=
    Sort.holdsK_grow _ _ _ _ blk 0 _ (by rw [hsz1]; exact hblk.2) (Sort.holdsK_putRowK _ _ _ blk 0 ps.toArray d' (Sort.holdsK_ahead _ _ _ _ _ _ _ hH) (by rw [hs', hsize]))
  have hold : ∀ k, k < w.heap.size → k ≠ blk → (Sort.grow (Sort.putRowK enc2 2 (Sort.ahead w n) blk 0 d') os).heap[k]? = w.heap[k]? := fun k hk hne => by
    rw [Sort.heap_grow_old _ os (by rw [hsz1]; exact hk)]
    simp only [Sort.putRowK, Sort.putRow, Sort.mapBlock, Sort.ahead, Array.getElem?_modify]
    rw [if_neg (Ne.symm hne)]
  refine ⟨rfl, d'.toList, hperm, fun i j hij hj => ?_, fun hp => ?_, ?_, ?_, ?_⟩
  · have hj' : j < ps.length := by have : d'.toList.length = ps.length := by simpa using hs'
                                   omega
    have := hSo i j (Nat.zero_le _) hij hj'
    rw [hget i (by omega), hget j hj'] at this
    simp only [ltLo, decide_eq_false_iff_not] at this
    omega
  · refine ⟨blk, 0, rfl, by simp only [Sort.size_grow, hsz1]; omega, fun j hj => ?_⟩
    have hj' : j < d'.size := by simpa using hj
    have c0 := (hH'.cell (i := j) (c := 0) hj' (by omega)).1
    have c1 := (hH'.cell (i := j) (c := 1) hj' (by omega)).1
    rw [hget j (by omega)] at c0 c1
    exact ⟨c0, c1⟩
  · exact ⟨rfl, rfl, rfl, by simp only [Sort.size_grow, hsz1]; omega, fun k hk => hold k (by omega) (by omega)⟩
  · simp only [Sort.size_grow, hsz1]; omega
  · intro p u hu hne
    rw [World.cell?_of_block (w := w) (hold p.block (World.block_lt_of_cell? w p hu) hne)]
    exact hu
end Go.Proofs.Ytgfbonfoimiknaa
