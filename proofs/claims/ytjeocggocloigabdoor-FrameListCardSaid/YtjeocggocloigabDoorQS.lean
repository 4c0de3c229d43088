/- Texts of the proofs, joined. -/
import Derived.Test.YtjeocggocloigabDoorQP
import Derived.Test.YtjeocggocloigabDoorQB
import Derived.Test.YtjeocggocloigabDoorQN
import Derived.Test.YtjeocggocloigabDoorQC
import Derived.Test.YtjeocggocloigabDoorQA
import Derived.Test.YtjeocggocloigabDoorQM
import Derived.Deep.Slices
import Derived.Deep.Fields
import Derived.ChangeSame
/- The verifier's texts' 'sameRanges', both ways: rows of ranges are the same just if they read the same. -/
namespace Go.Proofs.YtjeocggocloigabDoor
set_option linter.unusedVariables false
open Go.RowKit P

theorem listR_eq {ps qs : List (Int × Int)} (hl : ps.length = qs.length) : (ps = qs) ↔ ∀ j, j < ps.length → ps.getD j (0, 0) = qs.getD j (0, 0) := by
  constructor
  · rintro rfl _ _; rfl
  · intro h
    refine List.ext_getElem hl fun j h1 h2 => ?_
    have := h j h1
    rw [List.getD_eq_getElem?_getD, List.getD_eq_getElem?_getD, List.getElem?_eq_getElem h1, List.getElem?_eq_getElem h2] at this
    exact this

/-- up to k the rows are the same just if b -/
def SamePre (ps qs : List (Int × Int)) (k : Nat) (b : Bool) : Prop := b = true ↔ ∀ j, j < k → ps.getD j (0, 0) = qs.getD j (0, 0)
theorem SamePre.zero (ps qs : List (Int × Int)) : SamePre ps qs 0 true := ⟨fun _ j hj => absurd hj (Nat.not_lt_zero j), fun _ => rfl⟩
theorem SamePre.ok {ps qs : List (Int × Int)} {k : Nat} {x : Int × Int} (h : SamePre ps qs k true) (hp : ps.getD k (0, 0) = x) (hq : qs.getD k (0, 0) = x) : SamePre ps qs (k + 1) true :=
  ⟨fun _ j hj => (Nat.lt_succ_iff_lt_or_eq.1 hj).elim (h.1 rfl j) (fun e => by rw [e, hp, hq]), fun _ => rfl⟩
theorem SamePre.no {ps qs : List (Int × Int)} {k : Nat} {x y : Int × Int} (hp : ps.getD k (0, 0) = x) (hq : qs.getD k (0, 0) = y) (hne : x ≠ y) : SamePre ps qs (k + 1) false :=
  ⟨fun h => (by cases h), fun h => absurd (by rw [← hp, ← hq]; exact h k (Nat.lt_succ_self k)) hne⟩
theorem SamePre.false {ps qs : List (Int × Int)} {k : Nat} (h : SamePre ps qs k false) : decide (ps = qs) = false := decide_eq_false (by
  rintro e
  have := h.2 (fun j hj => by rw [e])
  cases this)
theorem SamePre.true {ps qs : List (Int × Int)} {k : Nat} (h : SamePre ps qs k true) (hl : ps.length = qs.length) (hk : ps.length = k) : decide (ps = qs) = true := decide_eq_true ((listR_eq hl).2 (fun j hj => h.1 rfl j (hk ▸ hj)))

theorem sameN_any (A A' : Option Addr) (len len' cap cap' : Nat) (ps qs : List (Int × Int)) (w : World) (h : RRow w w.heap.size A ps) (h' : RRow w w.heap.size A' qs) (hl : ps.length = len) (hl' : qs.length = len') (hm : len ≤ 9223372036854775807) (hm' : len' ≤ 9223372036854775807) :
    Calls Tryd.prog 17 #[.slice A len cap, .slice A' len' cap'] w fun e w' => e = .returned (.bool (decide (ps = qs))) ∧ Below w.heap.size w w' := by
  by_cases hn : len = len'
  · subst hn
    have HEQ := Lib.hid (listR_eq (hl.trans hl'.symm))
    have HR := Lib.hid h
    have HR' := Lib.hid h'
    have HL := Lib.hid hl
    have HL' := Lib.hid hl'
    clear h h' hl hl'
    go_enter Tryd.func17, Tryd.ntmps17
    go_wp2
    go_loopg [5, 6] len (fun g ov i wr => ∃ (k : Nat) (b : Bool), k + g = len ∧ i = .int .i64 k ∧ ov = .bool b ∧ SamePre ps qs k b ∧ Below w.heap.size w wr)
    case atStart => exact ⟨0, true, by omega, rfl, rfl, SamePre.zero _ _, Below.refl _ _⟩
    case round =>
      obtain ⟨k, b, hk, rfl, rfl, hbk, hb⟩ := hrel
      have HB := Lib.hid hb
      have HBK := Lib.hid hbk
      clear hb hbk
      cases b
      · have hd := Lib.hid HBK.out.false
        go_wp2
        go_ret
        exact ⟨by rw [hd.out]; rfl, HB.out⟩
      · by_cases hlt : k < len
        · obtain ⟨b, off, rfl, hbb, hc⟩ := (HR.out.below HB.out) (by rw [HL.out]; omega)
          obtain ⟨c0, c1⟩ := hc k (by rw [HL.out]; omega)
          obtain ⟨b', off', rfl, hbb', hc'⟩ := (HR'.out.below HB.out) (by rw [HL'.out]; omega)
          obtain ⟨c2, c3⟩ := hc' k (by rw [HL'.out]; omega)
          obtain ⟨⟨lo, hi⟩, hp⟩ : ∃ p, ps.getD k (0, 0) = p := ⟨_, rfl⟩
          obtain ⟨⟨lo', hi'⟩, hp'⟩ : ∃ p, qs.getD k (0, 0) = p := ⟨_, rfl⟩
          rw [hp] at c0 c1
          rw [hp'] at c2 c3
          simp only at c0 c1 c2 c3
          have HP := Lib.hid hp
          have HP' := Lib.hid hp'
          have d0 := Ext.cell c0
          have d1 := Ext.cell c1
          have d2 := Ext.cell c2
          have d3 := Ext.cell c3
          have i0 : (0 : Int) ≤ (k : Int) := by omega
          have i1 : (k : Int) < (len : Int) := by omega
          clear hc hc' hp hp'
          have hcase : (lo = lo' ∧ hi = hi') ∨ (lo == lo') = false ∨ (lo = lo' ∧ (hi == hi') = false) := by
            by_cases e1 : lo = lo'
            · by_cases e2 : hi = hi'
              · exact .inl ⟨e1, e2⟩
              · exact .inr (.inr ⟨e1, by simpa using e2⟩)
            · exact .inr (.inl (by simpa using e1))
          rcases hcase with ⟨rfl, rfl⟩ | e1 | ⟨rfl, e2⟩
          · go_wp2
            refine wp_region_ext (by kernel_rfl) (by kernel_rfl) ?_
            repeat (go_big_quiet_step (fail))
            refine wpQuiet_nil ?_
            intro w1 hb1
            have HB1 := Lib.hid (HB.out.trans (hb1.mono HB.out.size))
            clear hb1 c0 c1 c2 c3 d0 d1 d2 d3
            go_wp2
            go_roundg (gk - 1)
            case measure => omega
            case rel => exact ⟨k + 1, true, by omega, by go_num, rfl, HBK.out.ok HP.out HP'.out, HB1.out⟩
          · go_wp2
            refine wp_region_ext (by kernel_rfl) (by kernel_rfl) ?_
            repeat (go_big_quiet_step (fail))
            refine wpQuiet_nil ?_
            intro w1 hb1
            have HB1 := Lib.hid (HB.out.trans (hb1.mono HB.out.size))
            have E1 := Lib.hid (show lo ≠ lo' by simpa using e1)
            clear hb1 c0 c1 c2 c3 d0 d1 d2 d3
            go_wp2
            go_roundg (gk - 1)
            case measure => omega
            case rel => exact ⟨k + 1, false, by omega, by go_num, (by first | rfl | simp [e1]), SamePre.no HP.out HP'.out (fun e => E1.out (Prod.mk.inj e).1), HB1.out⟩
          · go_wp2
            refine wp_region_ext (by kernel_rfl) (by kernel_rfl) ?_
            repeat (go_big_quiet_step (fail))
            refine wpQuiet_nil ?_
            intro w1 hb1
            have HB1 := Lib.hid (HB.out.trans (hb1.mono HB.out.size))
            have E1 := Lib.hid (show hi ≠ hi' by simpa using e2)
            clear hb1 c0 c1 c2 c3 d0 d1 d2 d3
            go_wp2
            go_roundg (gk - 1)
            case measure => omega
            case rel => exact ⟨k + 1, false, by omega, by go_num, (by first | rfl | simp [e2]), SamePre.no HP.out HP'.out (fun e => E1.out (Prod.mk.inj e).2), HB1.out⟩
        · obtain rfl : k = len := by omega
          have hd := Lib.hid (HBK.out.true (HL.out.trans HL'.out.symm) HL.out)
          go_wp2
          go_ret
          exact ⟨by rw [hd.out]; rfl, HB.out⟩
  · have hd := Lib.hid (show decide (ps = qs) = false from decide_eq_false (by rintro rfl; omega))
    have hne : ((len : Int) == (len' : Int)) = false := by simp; omega
    clear hl hl'
    go_enter Tryd.func17, Tryd.ntmps17
    go_wp2
    go_rounds 1
    go_ret
    exact ⟨by rw [hd.out]; rfl, Below.refl _ _⟩
end Go.Proofs.YtjeocggocloigabDoor
/- The verifier's texts' 'sameFrame', both ways: two frames are the same just if they read the same. -/
namespace Go.Proofs.YtjeocggocloigabDoor
set_option linter.unusedVariables false
open Go.RowKit P

theorem numsOf_of {zs : List Int} (h : Byt zs) : numsOf (strOfNums zs) = zs := by
  unfold numsOf
  rw [strOfNums_data, List.map_map]
  conv => rhs; rw [← List.map_id zs]
  apply List.map_congr_left
  intro x hx
  obtain ⟨j, hj, rfl⟩ := List.getElem_of_mem hx
  have := h j
  rw [List.getD_eq_getElem?_getD, List.getElem?_eq_getElem hj] at this
  simp only [Option.getD_some] at this
  simp only [Function.comp, id_eq, UInt8.toNat_ofNat']
  omega
theorem str_inj {xs ys : List Int} (hx : Byt xs) (hy : Byt ys) (h : strOfNums xs = strOfNums ys) : xs = ys := by
  rw [← numsOf_of hx, ← numsOf_of hy, h]
/-- what 'sameFrame' says of f and g -/
def SamePost (f g : Fr) (w : World) (e : Ending) (w' : World) : Prop := ∃ b : Bool, e = .returned (.bool b) ∧ (b = true ↔ f = g) ∧ Below w.heap.size w w'
theorem SamePost.no {f g : Fr} {w w' : World} {b : Bool} (hb : b = false) (h : f ≠ g) (hw : Below w.heap.size w w') : SamePost f g w (.returned (.bool b)) w' := ⟨b, rfl, ⟨fun e => (by rw [hb] at e; cases e), fun e => absurd e h⟩, hw⟩
theorem SamePost.yes {f : Fr} {w w' : World} {b : Bool} (hb : b = true) (hw : Below w.heap.size w w') : SamePost f f w (.returned (.bool b)) w' := ⟨b, rfl, ⟨fun _ => rfl, fun _ => hb⟩, hw⟩
/-- the cells of two frames that were handed over, as the call holds them -/
theorem two_blocks (w : World) (a0 a1 a2 a3 a4 a5 a6 b0 b1 b2 b3 b4 b5 b6 : Value) (T : TypeId) :
    Below w.heap.size w ((w.alloc (.cells #[a0, a1, a2, a3, a4, a5, a6] T)).alloc (.cells #[b0, b1, b2, b3, b4, b5, b6] T)) ∧
    ((w.alloc (.cells #[a0, a1, a2, a3, a4, a5, a6] T)).alloc (.cells #[b0, b1, b2, b3, b4, b5, b6] T)).heap[w.heap.size]? = some (.cells #[a0, a1, a2, a3, a4, a5, a6] T (0, 0)) ∧
    ((w.alloc (.cells #[a0, a1, a2, a3, a4, a5, a6] T)).alloc (.cells #[b0, b1, b2, b3, b4, b5, b6] T)).heap[w.heap.size + 1]? = some (.cells #[b0, b1, b2, b3, b4, b5, b6] T (0, 0)) :=
  ⟨((Below.refl w.heap.size w).alloc (Nat.le_refl _) _).alloc (by simp) _, (Below.heap_alloc _ _ _ (by simp)).trans (heap_alloc_new w _), by
    have := heap_alloc_new (w.alloc (.cells #[a0, a1, a2, a3, a4, a5, a6] T)) (.cells #[b0, b1, b2, b3, b4, b5, b6] T)
    simpa using this⟩

set_option maxHeartbeats 1000000 in
theorem same_ne_k (k id off code k' id' off' code' : Int) (fin fin' : Bool) (rs rs' : List (Int × Int)) (data data' : List Int) (Ar Ar' Ad Ad' : Option Addr) (cr cr' cd cd' : Nat) (w : World)
    (hrr : RRow w w.heap.size Ar rs) (hrr' : RRow w w.heap.size Ar' rs') (hdr : BRow w w.heap.size Ad data) (hdr' : BRow w w.heap.size Ad' data') (hl : rs.length ≤ maxLen) (hl' : rs'.length ≤ maxLen) (ne : k ≠ k') :
    Calls Tryd.prog 10 #[.agg #[.int .i64 k, .int .i64 id, .int .i64 off, .bool fin, .int .i64 code, .slice Ar rs.length cr, .slice Ad data.length cd], .agg #[.int .i64 k', .int .i64 id', .int .i64 off', .bool fin', .int .i64 code', .slice Ar' rs'.length cr', .slice Ad' data'.length cd']] w (SamePost ⟨k, id, off, fin, code, rs, data⟩ ⟨k', id', off', fin', code', rs', data'⟩ w) := by
  obtain ⟨hW, f0, f1⟩ := two_blocks w (.int .i64 k) (.int .i64 id) (.int .i64 off) (.bool fin) (.int .i64 code) (.slice Ar rs.length cr) (.slice Ad data.length cd) (.int .i64 k') (.int .i64 id') (.int .i64 off') (.bool fin') (.int .i64 code') (.slice Ar' rs'.length cr') (.slice Ad' data'.length cd') 33
  have HW := Lib.hid hW
  have F0 := Lib.hid f0
  have F1 := Lib.hid f1
  obtain ⟨c0, c1, c2, c3, c4, c5, c6, _⟩ := blk7 f0
  obtain ⟨x0, x1, x2, x3, x4, x5, x6, _⟩ := blk7 f1
  have R0 := Lib.hid (hrr.on hW)
  have R1 := Lib.hid (hrr'.on hW)
  have D0 := Lib.hid (hdr.on hW)
  have D1 := Lib.hid (hdr'.on hW)
  unfold maxLen at hl hl'
  clear hrr hrr' hdr hdr' f0 f1 hW
  have NE := Lib.hid ne
  have nb : (k == k') = false := by simpa using ne
  clear ne
  go_enter Tryd.func10, Tryd.ntmps10
  go_wp2
  go_ret
  exact .no (by first | rfl | simp [nb]) (fun e => NE.out (by injection e)) HW.out

set_option maxHeartbeats 1000000 in
theorem same_ne_id (k id off code k' id' off' code' : Int) (fin fin' : Bool) (rs rs' : List (Int × Int)) (data data' : List Int) (Ar Ar' Ad Ad' : Option Addr) (cr cr' cd cd' : Nat) (w : World)
    (hrr : RRow w w.heap.size Ar rs) (hrr' : RRow w w.heap.size Ar' rs') (hdr : BRow w w.heap.size Ad data) (hdr' : BRow w w.heap.size Ad' data') (hl : rs.length ≤ maxLen) (hl' : rs'.length ≤ maxLen) (e0 : k = k') (ne : id ≠ id') :
    Calls Tryd.prog 10 #[.agg #[.int .i64 k, .int .i64 id, .int .i64 off, .bool fin, .int .i64 code, .slice Ar rs.length cr, .slice Ad data.length cd], .agg #[.int .i64 k', .int .i64 id', .int .i64 off', .bool fin', .int .i64 code', .slice Ar' rs'.length cr', .slice Ad' data'.length cd']] w (SamePost ⟨k, id, off, fin, code, rs, data⟩ ⟨k', id', off', fin', code', rs', data'⟩ w) := by
  obtain ⟨hW, f0, f1⟩ := two_blocks w (.int .i64 k) (.int .i64 id) (.int .i64 off) (.bool fin) (.int .i64 code) (.slice Ar rs.length cr) (.slice Ad data.length cd) (.int .i64 k') (.int .i64 id') (.int .i64 off') (.bool fin') (.int .i64 code') (.slice Ar' rs'.length cr') (.slice Ad' data'.length cd') 33
  have HW := Lib.hid hW
  have F0 := Lib.hid f0
  have F1 := Lib.hid f1
  obtain ⟨c0, c1, c2, c3, c4, c5, c6, _⟩ := blk7 f0
  obtain ⟨x0, x1, x2, x3, x4, x5, x6, _⟩ := blk7 f1
  have R0 := Lib.hid (hrr.on hW)
  have R1 := Lib.hid (hrr'.on hW)
  have D0 := Lib.hid (hdr.on hW)
  have D1 := Lib.hid (hdr'.on hW)
  unfold maxLen at hl hl'
  clear hrr hrr' hdr hdr' f0 f1 hW
  subst e0
  have NE := Lib.hid ne
  have nb : (id == id') = false := by simpa using ne
  clear ne
  go_enter Tryd.func10, Tryd.ntmps10
  go_wp2
  go_ret
  exact .no (by first | rfl | simp [nb]) (fun e => NE.out (by injection e)) HW.out

set_option maxHeartbeats 1000000 in
theorem same_ne_off (k id off code k' id' off' code' : Int) (fin fin' : Bool) (rs rs' : List (Int × Int)) (data data' : List Int) (Ar Ar' Ad Ad' : Option Addr) (cr cr' cd cd' : Nat) (w : World)
    (hrr : RRow w w.heap.size Ar rs) (hrr' : RRow w w.heap.size Ar' rs') (hdr : BRow w w.heap.size Ad data) (hdr' : BRow w w.heap.size Ad' data') (hl : rs.length ≤ maxLen) (hl' : rs'.length ≤ maxLen) (e0 : k = k') (e1 : id = id') (ne : off ≠ off') :
    Calls Tryd.prog 10 #[.agg #[.int .i64 k, .int .i64 id, .int .i64 off, .bool fin, .int .i64 code, .slice Ar rs.length cr, .slice Ad data.length cd], .agg #[.int .i64 k', .int .i64 id', .int .i64 off', .bool fin', .int .i64 code', .slice Ar' rs'.length cr', .slice Ad' data'.length cd']] w (SamePost ⟨k, id, off, fin, code, rs, data⟩ ⟨k', id', off', fin', code', rs', data'⟩ w) := by
  obtain ⟨hW, f0, f1⟩ := two_blocks w (.int .i64 k) (.int .i64 id) (.int .i64 off) (.bool fin) (.int .i64 code) (.slice Ar rs.length cr) (.slice Ad data.length cd) (.int .i64 k') (.int .i64 id') (.int .i64 off') (.bool fin') (.int .i64 code') (.slice Ar' rs'.length cr') (.slice Ad' data'.length cd') 33
  have HW := Lib.hid hW
  have F0 := Lib.hid f0
  have F1 := Lib.hid f1
  obtain ⟨c0, c1, c2, c3, c4, c5, c6, _⟩ := blk7 f0
  obtain ⟨x0, x1, x2, x3, x4, x5, x6, _⟩ := blk7 f1
  have R0 := Lib.hid (hrr.on hW)
  have R1 := Lib.hid (hrr'.on hW)
  have D0 := Lib.hid (hdr.on hW)
  have D1 := Lib.hid (hdr'.on hW)
  unfold maxLen at hl hl'
  clear hrr hrr' hdr hdr' f0 f1 hW
  subst e0 e1
  have NE := Lib.hid ne
  have nb : (off == off') = false := by simpa using ne
  clear ne
  go_enter Tryd.func10, Tryd.ntmps10
  go_wp2
  go_ret
  exact .no (by first | rfl | simp [nb]) (fun e => NE.out (by injection e)) HW.out

set_option maxHeartbeats 1000000 in
theorem same_ne_fin (k id off code k' id' off' code' : Int) (fin fin' : Bool) (rs rs' : List (Int × Int)) (data data' : List Int) (Ar Ar' Ad Ad' : Option Addr) (cr cr' cd cd' : Nat) (w : World)
    (hrr : RRow w w.heap.size Ar rs) (hrr' : RRow w w.heap.size Ar' rs') (hdr : BRow w w.heap.size Ad data) (hdr' : BRow w w.heap.size Ad' data') (hl : rs.length ≤ maxLen) (hl' : rs'.length ≤ maxLen) (e0 : k = k') (e1 : id = id') (e2 : off = off') (ne : fin ≠ fin') :
    Calls Tryd.prog 10 #[.agg #[.int .i64 k, .int .i64 id, .int .i64 off, .bool fin, .int .i64 code, .slice Ar rs.length cr, .slice Ad data.length cd], .agg #[.int .i64 k', .int .i64 id', .int .i64 off', .bool fin', .int .i64 code', .slice Ar' rs'.length cr', .slice Ad' data'.length cd']] w (SamePost ⟨k, id, off, fin, code, rs, data⟩ ⟨k', id', off', fin', code', rs', data'⟩ w) := by
  obtain ⟨hW, f0, f1⟩ := two_blocks w (.int .i64 k) (.int .i64 id) (.int .i64 off) (.bool fin) (.int .i64 code) (.slice Ar rs.length cr) (.slice Ad data.length cd) (.int .i64 k') (.int .i64 id') (.int .i64 off') (.bool fin') (.int .i64 code') (.slice Ar' rs'.length cr') (.slice Ad' data'.length cd') 33
  have HW := Lib.hid hW
  have F0 := Lib.hid f0
  have F1 := Lib.hid f1
  obtain ⟨c0, c1, c2, c3, c4, c5, c6, _⟩ := blk7 f0
  obtain ⟨x0, x1, x2, x3, x4, x5, x6, _⟩ := blk7 f1
  have R0 := Lib.hid (hrr.on hW)
  have R1 := Lib.hid (hrr'.on hW)
  have D0 := Lib.hid (hdr.on hW)
  have D1 := Lib.hid (hdr'.on hW)
  unfold maxLen at hl hl'
  clear hrr hrr' hdr hdr' f0 f1 hW
  subst e0 e1 e2
  have NE := Lib.hid ne
  have nb : (fin == fin') = false := by simpa using ne
  clear ne
  go_enter Tryd.func10, Tryd.ntmps10
  go_wp2
  go_ret
  exact .no (by first | rfl | simp [nb]) (fun e => NE.out (by injection e)) HW.out

set_option maxHeartbeats 1000000 in
theorem same_ne_code (k id off code k' id' off' code' : Int) (fin fin' : Bool) (rs rs' : List (Int × Int)) (data data' : List Int) (Ar Ar' Ad Ad' : Option Addr) (cr cr' cd cd' : Nat) (w : World)
    (hrr : RRow w w.heap.size Ar rs) (hrr' : RRow w w.heap.size Ar' rs') (hdr : BRow w w.heap.size Ad data) (hdr' : BRow w w.heap.size Ad' data') (hl : rs.length ≤ maxLen) (hl' : rs'.length ≤ maxLen) (e0 : k = k') (e1 : id = id') (e2 : off = off') (e3 : fin = fin') (ne : code ≠ code') :
    Calls Tryd.prog 10 #[.agg #[.int .i64 k, .int .i64 id, .int .i64 off, .bool fin, .int .i64 code, .slice Ar rs.length cr, .slice Ad data.length cd], .agg #[.int .i64 k', .int .i64 id', .int .i64 off', .bool fin', .int .i64 code', .slice Ar' rs'.length cr', .slice Ad' data'.length cd']] w (SamePost ⟨k, id, off, fin, code, rs, data⟩ ⟨k', id', off', fin', code', rs', data'⟩ w) := by
  obtain ⟨hW, f0, f1⟩ := two_blocks w (.int .i64 k) (.int .i64 id) (.int .i64 off) (.bool fin) (.int .i64 code) (.slice Ar rs.length cr) (.slice Ad data.length cd) (.int .i64 k') (.int .i64 id') (.int .i64 off') (.bool fin') (.int .i64 code') (.slice Ar' rs'.length cr') (.slice Ad' data'.length cd') 33
  have HW := Lib.hid hW
  have F0 := Lib.hid f0
  have F1 := Lib.hid f1
  obtain ⟨c0, c1, c2, c3, c4, c5, c6, _⟩ := blk7 f0
  obtain ⟨x0, x1, x2, x3, x4, x5, x6, _⟩ := blk7 f1
  have R0 := Lib.hid (hrr.on hW)
  have R1 := Lib.hid (hrr'.on hW)
  have D0 := Lib.hid (hdr.on hW)
  have D1 := Lib.hid (hdr'.on hW)
  unfold maxLen at hl hl'
  clear hrr hrr' hdr hdr' f0 f1 hW
  subst e0 e1 e2 e3
  have NE := Lib.hid ne
  have nb : (code == code') = false := by simpa using ne
  clear ne
  go_enter Tryd.func10, Tryd.ntmps10
  go_wp2
  go_ret
  exact .no (by first | rfl | simp [nb]) (fun e => NE.out (by injection e)) HW.out

set_option maxHeartbeats 1000000 in
theorem same_ne_rs (k id off code k' id' off' code' : Int) (fin fin' : Bool) (rs rs' : List (Int × Int)) (data data' : List Int) (Ar Ar' Ad Ad' : Option Addr) (cr cr' cd cd' : Nat) (w : World)
    (hrr : RRow w w.heap.size Ar rs) (hrr' : RRow w w.heap.size Ar' rs') (hdr : BRow w w.heap.size Ad data) (hdr' : BRow w w.heap.size Ad' data') (hl : rs.length ≤ maxLen) (hl' : rs'.length ≤ maxLen) (e0 : k = k') (e1 : id = id') (e2 : off = off') (e3 : fin = fin') (e4 : code = code') (ne : rs ≠ rs') :
    Calls Tryd.prog 10 #[.agg #[.int .i64 k, .int .i64 id, .int .i64 off, .bool fin, .int .i64 code, .slice Ar rs.length cr, .slice Ad data.length cd], .agg #[.int .i64 k', .int .i64 id', .int .i64 off', .bool fin', .int .i64 code', .slice Ar' rs'.length cr', .slice Ad' data'.length cd']] w (SamePost ⟨k, id, off, fin, code, rs, data⟩ ⟨k', id', off', fin', code', rs', data'⟩ w) := by
  obtain ⟨hW, f0, f1⟩ := two_blocks w (.int .i64 k) (.int .i64 id) (.int .i64 off) (.bool fin) (.int .i64 code) (.slice Ar rs.length cr) (.slice Ad data.length cd) (.int .i64 k') (.int .i64 id') (.int .i64 off') (.bool fin') (.int .i64 code') (.slice Ar' rs'.length cr') (.slice Ad' data'.length cd') 33
  have HW := Lib.hid hW
  have F0 := Lib.hid f0
  have F1 := Lib.hid f1
  obtain ⟨c0, c1, c2, c3, c4, c5, c6, _⟩ := blk7 f0
  obtain ⟨x0, x1, x2, x3, x4, x5, x6, _⟩ := blk7 f1
  have R0 := Lib.hid (hrr.on hW)
  have R1 := Lib.hid (hrr'.on hW)
  have D0 := Lib.hid (hdr.on hW)
  have D1 := Lib.hid (hdr'.on hW)
  unfold maxLen at hl hl'
  clear hrr hrr' hdr hdr' f0 f1 hW
  subst e0 e1 e2 e3 e4
  have NE := Lib.hid ne
  have HD := Lib.hid (decide_eq_false ne)
  clear ne
  go_enter Tryd.func10, Tryd.ntmps10
  go_wp2_with (go_at_call 17; refine (sameN_any _ _ _ _ _ _ _ _ _ R0.out R1.out rfl rfl (by omega) (by omega)).mono ?_; rintro e w1 ⟨rfl, b1⟩; rw [HD.out]; have B1 := Lib.hid b1; have s0 := run_str (P := Tryd.prog) (D0.out.on b1) rfl 25 9 5 cd Tryd.underlying25 Tryd.underlying5 Tryd.underlying9; have s1 := run_str (P := Tryd.prog) (D1.out.on b1) rfl 25 9 5 cd' Tryd.underlying25 Tryd.underlying5 Tryd.underlying9; clear c0 c1 c2 c3 c4 c5 c6 x0 x1 x2 x3 x4 x5 x6; have c6 := (blk7 ((b1.block _ (lt_of_block F0.out)).trans F0.out)).2.2.2.2.2.2.1; have x6 := (blk7 ((b1.block _ (lt_of_block F1.out)).trans F1.out)).2.2.2.2.2.2.1; clear b1)
  go_ret
  exact .no rfl (fun e => NE.out (by injection e)) (HW.out.trans (B1.out.mono HW.out.size))

set_option maxHeartbeats 1000000 in
theorem same_ne_data (k id off code k' id' off' code' : Int) (fin fin' : Bool) (rs rs' : List (Int × Int)) (data data' : List Int) (Ar Ar' Ad Ad' : Option Addr) (cr cr' cd cd' : Nat) (w : World)
    (hrr : RRow w w.heap.size Ar rs) (hrr' : RRow w w.heap.size Ar' rs') (hdr : BRow w w.heap.size Ad data) (hdr' : BRow w w.heap.size Ad' data') (hl : rs.length ≤ maxLen) (hl' : rs'.length ≤ maxLen) (e0 : k = k') (e1 : id = id') (e2 : off = off') (e3 : fin = fin') (e4 : code = code') (e5 : rs = rs') (ne : data ≠ data') :
    Calls Tryd.prog 10 #[.agg #[.int .i64 k, .int .i64 id, .int .i64 off, .bool fin, .int .i64 code, .slice Ar rs.length cr, .slice Ad data.length cd], .agg #[.int .i64 k', .int .i64 id', .int .i64 off', .bool fin', .int .i64 code', .slice Ar' rs'.length cr', .slice Ad' data'.length cd']] w (SamePost ⟨k, id, off, fin, code, rs, data⟩ ⟨k', id', off', fin', code', rs', data'⟩ w) := by
  have HS := Lib.hid (show ¬ (strOfNums data).toList = (strOfNums data').toList by rw [Lib.toList_data, Lib.toList_data]; exact fun e => ne (str_inj hdr.1 hdr'.1 (ByteArray.ext (Array.toList_inj.1 e))))
  obtain ⟨hW, f0, f1⟩ := two_blocks w (.int .i64 k) (.int .i64 id) (.int .i64 off) (.bool fin) (.int .i64 code) (.slice Ar rs.length cr) (.slice Ad data.length cd) (.int .i64 k') (.int .i64 id') (.int .i64 off') (.bool fin') (.int .i64 code') (.slice Ar' rs'.length cr') (.slice Ad' data'.length cd') 33
  have HW := Lib.hid hW
  have F0 := Lib.hid f0
  have F1 := Lib.hid f1
  obtain ⟨c0, c1, c2, c3, c4, c5, c6, _⟩ := blk7 f0
  obtain ⟨x0, x1, x2, x3, x4, x5, x6, _⟩ := blk7 f1
  have R0 := Lib.hid (hrr.on hW)
  have R1 := Lib.hid (hrr'.on hW)
  have D0 := Lib.hid (hdr.on hW)
  have D1 := Lib.hid (hdr'.on hW)
  unfold maxLen at hl hl'
  clear hrr hrr' hdr hdr' f0 f1 hW
  subst e0 e1 e2 e3 e4
  subst e5
  have NE := Lib.hid ne
  have HD := Lib.hid (decide_eq_true (rfl : rs = rs))
  clear ne
  go_enter Tryd.func10, Tryd.ntmps10
  go_wp2_with (go_at_call 17; refine (sameN_any _ _ _ _ _ _ _ _ _ R0.out R1.out rfl rfl (by omega) (by omega)).mono ?_; rintro e w1 ⟨rfl, b1⟩; rw [HD.out]; have B1 := Lib.hid b1; have s0 := run_str (P := Tryd.prog) (D0.out.on b1) rfl 25 9 5 cd Tryd.underlying25 Tryd.underlying5 Tryd.underlying9; have s1 := run_str (P := Tryd.prog) (D1.out.on b1) rfl 25 9 5 cd' Tryd.underlying25 Tryd.underlying5 Tryd.underlying9; clear c0 c1 c2 c3 c4 c5 c6 x0 x1 x2 x3 x4 x5 x6; have c6 := (blk7 ((b1.block _ (lt_of_block F0.out)).trans F0.out)).2.2.2.2.2.2.1; have x6 := (blk7 ((b1.block _ (lt_of_block F1.out)).trans F1.out)).2.2.2.2.2.2.1; clear b1)
  go_ret
  exact .no (by first | exact HS.out | simp [HS.out]) (fun e => NE.out (by injection e)) (HW.out.trans (B1.out.mono HW.out.size))

set_option maxHeartbeats 1000000 in
theorem same_yes (k id off code k' id' off' code' : Int) (fin fin' : Bool) (rs rs' : List (Int × Int)) (data data' : List Int) (Ar Ar' Ad Ad' : Option Addr) (cr cr' cd cd' : Nat) (w : World)
    (hrr : RRow w w.heap.size Ar rs) (hrr' : RRow w w.heap.size Ar' rs') (hdr : BRow w w.heap.size Ad data) (hdr' : BRow w w.heap.size Ad' data') (hl : rs.length ≤ maxLen) (hl' : rs'.length ≤ maxLen) (e0 : k = k') (e1 : id = id') (e2 : off = off') (e3 : fin = fin') (e4 : code = code') (e5 : rs = rs') (e6 : data = data') :
    Calls Tryd.prog 10 #[.agg #[.int .i64 k, .int .i64 id, .int .i64 off, .bool fin, .int .i64 code, .slice Ar rs.length cr, .slice Ad data.length cd], .agg #[.int .i64 k', .int .i64 id', .int .i64 off', .bool fin', .int .i64 code', .slice Ar' rs'.length cr', .slice Ad' data'.length cd']] w (SamePost ⟨k, id, off, fin, code, rs, data⟩ ⟨k', id', off', fin', code', rs', data'⟩ w) := by
  obtain ⟨hW, f0, f1⟩ := two_blocks w (.int .i64 k) (.int .i64 id) (.int .i64 off) (.bool fin) (.int .i64 code) (.slice Ar rs.length cr) (.slice Ad data.length cd) (.int .i64 k') (.int .i64 id') (.int .i64 off') (.bool fin') (.int .i64 code') (.slice Ar' rs'.length cr') (.slice Ad' data'.length cd') 33
  have HW := Lib.hid hW
  have F0 := Lib.hid f0
  have F1 := Lib.hid f1
  obtain ⟨c0, c1, c2, c3, c4, c5, c6, _⟩ := blk7 f0
  obtain ⟨x0, x1, x2, x3, x4, x5, x6, _⟩ := blk7 f1
  have R0 := Lib.hid (hrr.on hW)
  have R1 := Lib.hid (hrr'.on hW)
  have D0 := Lib.hid (hdr.on hW)
  have D1 := Lib.hid (hdr'.on hW)
  unfold maxLen at hl hl'
  clear hrr hrr' hdr hdr' f0 f1 hW
  subst e0 e1 e2 e3 e4
  subst e5 e6
  have HD := Lib.hid (decide_eq_true (rfl : rs = rs))
  go_enter Tryd.func10, Tryd.ntmps10
  go_wp2_with (go_at_call 17; refine (sameN_any _ _ _ _ _ _ _ _ _ R0.out R1.out rfl rfl (by omega) (by omega)).mono ?_; rintro e w1 ⟨rfl, b1⟩; rw [HD.out]; have B1 := Lib.hid b1; have s0 := run_str (P := Tryd.prog) (D0.out.on b1) rfl 25 9 5 cd Tryd.underlying25 Tryd.underlying5 Tryd.underlying9; have s1 := run_str (P := Tryd.prog) (D1.out.on b1) rfl 25 9 5 cd' Tryd.underlying25 Tryd.underlying5 Tryd.underlying9; clear c0 c1 c2 c3 c4 c5 c6 x0 x1 x2 x3 x4 x5 x6; have c6 := (blk7 ((b1.block _ (lt_of_block F0.out)).trans F0.out)).2.2.2.2.2.2.1; have x6 := (blk7 ((b1.block _ (lt_of_block F1.out)).trans F1.out)).2.2.2.2.2.2.1; clear b1)
  go_ret
  exact .yes (by simp) (HW.out.trans (B1.out.mono HW.out.size))

theorem sameFrN_any (v v' : Value) (f g : Fr) (w : World) (h : FrVal w w.heap.size v f) (h' : FrVal w w.heap.size v' g) : Calls Tryd.prog 10 #[v, v'] w (SamePost f g w) := by
  obtain ⟨r, d, rfl, hr, hd⟩ := h.ex
  obtain ⟨Ar, cr, hr1, hrc, hrm, hrr⟩ := hr.ex
  subst hr1
  obtain ⟨Ad, cd, hd1, hdc, hdm, hdn, hdr⟩ := hd.ex
  subst hd1
  obtain ⟨r', d', rfl, hr', hd'⟩ := h'.ex
  obtain ⟨Ar', cr', hr1', hrc', hrm', hrr'⟩ := hr'.ex
  subst hr1'
  obtain ⟨Ad', cd', hd1', hdc', hdm', hdn', hdr'⟩ := hd'.ex
  subst hd1'
  have hl := Nat.le_trans hrc hrm
  have hl' := Nat.le_trans hrc' hrm'
  obtain ⟨k, id, off, fin, code, rs, data⟩ := f
  obtain ⟨k', id', off', fin', code', rs', data'⟩ := g
  simp only at *
  by_cases e0 : k = k'
  · by_cases e1 : id = id'
    · by_cases e2 : off = off'
      · by_cases e3 : fin = fin'
        · by_cases e4 : code = code'
          · by_cases e5 : rs = rs'
            · by_cases e6 : data = data'
              · exact same_yes _ _ _ _ _ _ _ _ _ _ _ _ _ _ _ _ _ _ _ _ _ _ w hrr hrr' hdr hdr' hl hl' e0 e1 e2 e3 e4 e5 e6
              · exact same_ne_data _ _ _ _ _ _ _ _ _ _ _ _ _ _ _ _ _ _ _ _ _ _ w hrr hrr' hdr hdr' hl hl' e0 e1 e2 e3 e4 e5 e6
            · exact same_ne_rs _ _ _ _ _ _ _ _ _ _ _ _ _ _ _ _ _ _ _ _ _ _ w hrr hrr' hdr hdr' hl hl' e0 e1 e2 e3 e4 e5
          · exact same_ne_code _ _ _ _ _ _ _ _ _ _ _ _ _ _ _ _ _ _ _ _ _ _ w hrr hrr' hdr hdr' hl hl' e0 e1 e2 e3 e4
        · exact same_ne_fin _ _ _ _ _ _ _ _ _ _ _ _ _ _ _ _ _ _ _ _ _ _ w hrr hrr' hdr hdr' hl hl' e0 e1 e2 e3
      · exact same_ne_off _ _ _ _ _ _ _ _ _ _ _ _ _ _ _ _ _ _ _ _ _ _ w hrr hrr' hdr hdr' hl hl' e0 e1 e2
    · exact same_ne_id _ _ _ _ _ _ _ _ _ _ _ _ _ _ _ _ _ _ _ _ _ _ w hrr hrr' hdr hdr' hl hl' e0 e1
  · exact same_ne_k _ _ _ _ _ _ _ _ _ _ _ _ _ _ _ _ _ _ _ _ _ _ w hrr hrr' hdr hdr' hl hl' e0
end Go.Proofs.YtjeocggocloigabDoor
/- A frame's bytes are few. Nothing of the program's. -/
namespace Go.Proofs.YtjeocggocloigabDoor.P
set_option linter.unusedVariables false

theorem enc_le (n : Int) : (enc n).length ≤ 8 := by have := enc_len n; have := sz_bd n; omega
theorem encT_le : ∀ (l : List (Int × Int)) (b : Int), (encT b l).length ≤ 16 * l.length
  | [], _ => by simp [encT]
  | x :: t, b => by
    have h1 := enc_le (b - x.2 - 2)
    have h2 := enc_le (x.2 - x.1)
    have h3 := encT_le t x.1
    simp only [encT, List.length_append, List.length_cons]
    omega
theorem encR_le (l : List (Int × Int)) : (encR l).length ≤ 24 + 16 * l.length := by
  cases l with
  | nil => simp [encR]
  | cons x t =>
    have h1 := enc_le x.2
    have h2 := enc_le (t.length : Int)
    have h3 := enc_le (x.2 - x.1)
    have h4 := encT_le t x.1
    simp only [encR, List.length_append, List.length_cons]
    omega
theorem encP_le {f : Fr} (h1 : f.data.length ≤ 120) (h2 : f.rs.length ≤ 6) (c : Int) : (encP f c).length ≤ 150 := by
  have a1 := encR_le f.rs
  have a2 := enc_le f.id
  have a3 := enc_le f.off
  have a4 := enc_le f.code
  have a5 := enc_le (f.data.length : Int)
  have a6 := lowB_len 8 f.code
  unfold encP
  split
  · omega
  split
  · omega
  split
  · omega
  split
  · omega
  split
  · omega
  split
  · rw [List.length_append]; omega
  · simp
theorem encPs_le {f : Fr} (h1 : f.data.length ≤ 120) (h2 : f.rs.length ≤ 6) : ∀ s : List Int, (encPs f s).length ≤ 150 * s.length
  | [] => by simp [encPs]
  | c :: cs => by
    have a := encP_le h1 h2 c
    have b := encPs_le h1 h2 cs
    simp only [encPs, List.length_append, List.length_cons]
    omega
theorem frT_le {f : Fr} (h : faultF f = 0) : (frT f).length ≤ 608 := by
  obtain ⟨s, ok⟩ := okF_of h
  have hs : s.length ≤ 4 := by
    rcases parts_cases ok.parts with ⟨rfl, _⟩ | ⟨rfl, _⟩ | ⟨rfl, _⟩ | ⟨rfl, _⟩ | ⟨rfl, _⟩ | ⟨rfl, _⟩ | ⟨rfl, _⟩ | ⟨rfl, _⟩ | ⟨rfl, _⟩ | ⟨rfl, _⟩ | ⟨rfl, _⟩ <;> decide
  have a := encPs_le ok.data ok.rs s
  have b := enc_le (mkF f)
  unfold frT
  rw [mark_enc, ok.parts, List.length_append]
  simp only [Option.getD_some]
  omega
end Go.Proofs.YtjeocggocloigabDoor.P
/- The verifier's texts' raw things in memory: four cells each. And their 'some', 'picked'. -/
namespace Go.Proofs.YtjeocggocloigabDoor
set_option linter.unusedVariables false
open Go.RowKit P

structure RawT where
  kind : Int
  a : Int
  b : Int
  text : ByteArray

def raw0 : RawT := ⟨0, 0, 0, ByteArray.empty⟩

/-- 'A' leads to a row below block B whose cells are the raw things rs -/
def RawRow (w : World) (B : Nat) (A : Option Addr) (rs : List RawT) : Prop :=
  0 < rs.length → ∃ b off, A = some ⟨b, off, none⟩ ∧ b < B ∧ ∀ j, j < rs.length →
    w.cell? ⟨b, off + j * 4, none⟩ = some (.int .i64 (rs.getD j raw0).kind) ∧ w.cell? ⟨b, off + j * 4 + 1, none⟩ = some (.int .i64 (rs.getD j raw0).a) ∧
    w.cell? ⟨b, off + j * 4 + 2, none⟩ = some (.int .i64 (rs.getD j raw0).b) ∧ w.cell? ⟨b, off + j * 4 + 3, none⟩ = some (.string (rs.getD j raw0).text)
theorem RawRow.keep {w w' : World} {B : Nat} {A : Option Addr} {rs : List RawT} (h : RawRow w B A rs) (hk : ∀ p : Addr, p.block < B → w'.cell? p = w.cell? p) : RawRow w' B A rs := fun hn => by
  obtain ⟨b, off, e, hb, hc⟩ := h hn
  exact ⟨b, off, e, hb, fun j hj => ⟨(hk _ hb).trans (hc j hj).1, (hk _ hb).trans (hc j hj).2.1, (hk _ hb).trans (hc j hj).2.2.1, (hk _ hb).trans (hc j hj).2.2.2⟩⟩
theorem RawRow.below {w w' : World} {B : Nat} {A : Option Addr} {rs : List RawT} (h : RawRow w B A rs) (hb : Below B w w') : RawRow w' B A rs := h.keep fun _ hp => hb.cell hp

theorem some20 (A : Option Addr) (len cap : Nat) (w : World) (hl : len ≤ cap) (hc : cap ≤ maxLen) :
    Calls Tryd.prog 5 #[.slice A len cap, .int .i64 20] w fun e w' => e = .returned (.slice A (min len 20) cap) ∧ w = w' := by
  unfold maxLen at hc
  by_cases h : 20 < len
  · have e := Lib.hid (show min len 20 = 20 by omega)
    go_enter Tryd.func5, Tryd.ntmps5
    go_wp2
    go_ret
    exact ⟨by rw [e.out]; rfl, rfl⟩
  · have e := Lib.hid (show min len 20 = len by omega)
    go_enter Tryd.func5, Tryd.ntmps5
    go_wp2
    go_ret
    exact ⟨by rw [e.out]; rfl, rfl⟩
end Go.Proofs.YtjeocggocloigabDoor
/- Slices of structs whose fields are numbers and strings, as arguments: opened to rows that read. Nothing of the program's but the raw things' shape. -/
namespace Go.Proofs.YtjeocggocloigabDoor.P
set_option linter.unusedVariables false
open Go.RowKit Go.ChangeShapes Go.WideShapes Go.Deep

section
variable {H : Type} {enc : TypeId × Value → H} {P : Program} {w : World}

/-- what is known of a slice of records that came in -/
theorem open_recs {t e : TypeId} {fs : Array Field} {fuel : Nat} {ao : Option Addr} {len cap : Nat} {d : DataW H} {pl : List MemPlace} (ht : P.underlying t = some (.slice e)) (he : P.underlying e = some (.struct fs))
    (hone : oneCellFields P fs = true) (hC : P.cellsOf e = fs.size) (hp : 0 < fs.size) (h : DataW.trod enc P w 0 (fun _ => true) true fuel t (Value.slice ao len cap).cells.toList = some (d, pl)) :
    len ≤ cap ∧ cap ≤ maxLen ∧ ((d = .nil ∧ cap = 0) ∨ ∃ xs ys, d = .slice xs ys ∧ xs.length + ys.length = cap) ∧
    (0 < len → ∃ b off, ao = some ⟨b, off, none⟩ ∧ b < w.heap.size ∧ ∀ i, i < len → ∀ j f, fs[j]? = some f → ∃ v y n, w.cell? ⟨b, off + (i * fs.size + j), none⟩ = some v ∧ DataW.trod enc P w 0 (fun _ => true) true n f.type [v] = some y) := by
  have hcs : (Value.slice ao len cap).cells.toList = [.slice ao len cap] := by simp [Value.cells]
  rw [hcs] at h
  rcases open_slice ht h with ⟨h0, hx⟩ | ⟨a, len', cap', m, n, D, Pl, h0, hb, hl, hm, hmm, hx, hi⟩
  · simp only [List.cons.injEq, Value.slice.injEq, and_true] at h0
    obtain ⟨rfl, rfl, rfl⟩ := h0
    simp only [Prod.mk.injEq] at hx
    exact ⟨Nat.le_refl _, by unfold maxLen; omega, .inl ⟨hx.1, rfl⟩, fun h => absurd h (by omega)⟩
  · simp only [List.cons.injEq, Value.slice.injEq, and_true] at h0
    obtain ⟨rfl, rfl, rfl⟩ := h0
    simp only [if_true] at hmm
    subst hmm
    simp only [Prod.mk.injEq] at hx
    refine ⟨hl, hm, .inr ⟨_, _, hx.1, by simp; omega⟩, fun hpos => ?_⟩
    have cell : ∀ i, i < m → ∀ j f, fs[j]? = some f → ∃ v y n', w.cell? (a.add (i * fs.size + j)) = some v ∧ DataW.trod enc P w 0 (fun _ => true) true n' f.type [v] = some y := by
      intro i him j f hj
      obtain ⟨cs', hc, ht'⟩ := hi i him
      rw [hC] at hc
      obtain ⟨ys, n', _, _, hlen, hyl, hf⟩ := DataW.trod_struct he ht'
      obtain ⟨_, hcl, hat⟩ := World.cells?_some hc
      obtain ⟨ho, hk⟩ := hone_of hone j f hj
      have hjl : j < fs.size := (Array.getElem?_eq_some_iff.1 hj).1
      have h1 := hf j f hj
      rw [ho, hk, List.drop_eq_getElem_cons (by omega : j < cs'.length), List.getElem?_eq_getElem (by omega)] at h1
      have hcell := hat j hjl
      rw [List.getElem?_eq_getElem (by omega)] at hcell
      exact ⟨_, _, n', by rw [← add_add]; exact hcell, h1⟩
    obtain ⟨f0, hf0⟩ : ∃ f0, fs[0]? = some f0 := ⟨fs[0], Array.getElem?_eq_getElem hp⟩
    obtain ⟨v0, _, _, hc0, _⟩ := cell 0 (by omega) 0 f0 hf0
    have hsp := World.cell?_spot hc0
    obtain ⟨b, off, sp⟩ := a
    have hsp' : sp = none := by simpa [Addr.add] using hsp
    subst hsp'
    refine ⟨b, off, rfl, ?_, fun i hi' j f hj => ?_⟩
    · have := World.block_lt_of_cell? w _ hc0
      simpa [Addr.add] using this
    · obtain ⟨v, y, n', hc, ht'⟩ := cell i (by omega) j f hj
      exact ⟨v, y, n', by rw [add_plain2] at hc; exact hc, ht'⟩
end

/-- a list out of what is known of each place -/
theorem list_of {α : Type} (d : α) (n : Nat) (R : Nat → α → Prop) (h : ∀ i, i < n → ∃ x, R i x) : ∃ xs : List α, xs.length = n ∧ ∀ i, i < n → R i (xs.getD i d) := by
  induction n with
  | zero => exact ⟨[], rfl, fun i hi => absurd hi (by omega)⟩
  | succ n ih =>
    obtain ⟨xs, hl, hx⟩ := ih fun i hi => h i (by omega)
    obtain ⟨x, hxn⟩ := h n (by omega)
    refine ⟨xs ++ [x], by simp [hl], fun i hi => ?_⟩
    by_cases c : i < n
    · have := hx i c
      rw [List.getD_eq_getElem?_getD, List.getElem?_append_left (by omega), ← List.getD_eq_getElem?_getD]
      exact this
    · obtain rfl : i = n := by omega
      rw [List.getD_eq_getElem?_getD, List.getElem?_append_right (by omega), hl, Nat.sub_self]
      exact hxn

section
variable {H : Type} {enc : TypeId × Value → H} {P : Program} {w : World}
theorem open_raws {t e : TypeId} {f0 f1 f2 f3 : Field} {fuel : Nat} {ao : Option Addr} {len cap : Nat} {d : DataW H} {pl : List MemPlace} (ht : P.underlying t = some (.slice e)) (he : P.underlying e = some (.struct #[f0, f1, f2, f3]))
    (hone : oneCellFields P #[f0, f1, f2, f3] = true) (hC : P.cellsOf e = 4) (t0 : P.underlying f0.type = some (.int .i64)) (t1 : P.underlying f1.type = some (.int .i64)) (t2 : P.underlying f2.type = some (.int .i64)) (t3 : P.underlying f3.type = some .string)
    (h : DataW.trod enc P w 0 (fun _ => true) true fuel t (Value.slice ao len cap).cells.toList = some (d, pl)) :
    ∃ rs : List RawT, rs.length = len ∧ RawRow w w.heap.size ao rs ∧ len ≤ cap ∧ cap ≤ maxLen ∧ ((d = .nil ∧ cap = 0) ∨ ∃ xs ys, d = .slice xs ys ∧ xs.length + ys.length = cap) ∧ ∀ i, i < len → (Lit.int .i64 (rs.getD i raw0).kind).wf = true ∧ (Lit.int .i64 (rs.getD i raw0).a).wf = true ∧ (Lit.int .i64 (rs.getD i raw0).b).wf = true ∧ (rs.getD i raw0).text.size ≤ maxLen := by
  obtain ⟨hl, hm, hd, hrow⟩ := open_recs ht he hone hC (by simp) h
  rcases Nat.eq_zero_or_pos len with h0 | h0
  · subst h0
    exact ⟨[], rfl, fun h => absurd h (by simp), hl, hm, hd, fun i hi => absurd hi (by omega)⟩
  · obtain ⟨b, off, rfl, hb, hc⟩ := hrow h0
    obtain ⟨rs, hrl, hrs⟩ := list_of raw0 len (fun i r => w.cell? ⟨b, off + i * 4, none⟩ = some (.int .i64 r.kind) ∧ w.cell? ⟨b, off + i * 4 + 1, none⟩ = some (.int .i64 r.a) ∧
        w.cell? ⟨b, off + i * 4 + 2, none⟩ = some (.int .i64 r.b) ∧ w.cell? ⟨b, off + i * 4 + 3, none⟩ = some (.string r.text) ∧ (Lit.int .i64 r.kind).wf = true ∧ (Lit.int .i64 r.a).wf = true ∧ (Lit.int .i64 r.b).wf = true ∧ r.text.size ≤ maxLen) (fun i hi => by
      obtain ⟨v0, y0, n0, c0, k0⟩ := hc i hi 0 f0 rfl
      obtain ⟨v1, y1, n1, c1, k1⟩ := hc i hi 1 f1 rfl
      obtain ⟨v2, y2, n2, c2, k2⟩ := hc i hi 2 f2 rfl
      obtain ⟨v3, y3, n3, c3, k3⟩ := hc i hi 3 f3 rfl
      obtain ⟨x0, e0, _, w0⟩ := DataW.trod_int t0 k0
      obtain ⟨x1, e1, _, w1⟩ := DataW.trod_int t1 k1
      obtain ⟨x2, e2, _, w2⟩ := DataW.trod_int t2 k2
      obtain ⟨x3, e3, _, w3⟩ := DataW.trod_string t3 k3
      simp only [List.cons.injEq, and_true] at e0 e1 e2 e3
      subst e0 e1 e2 e3
      refine ⟨⟨x0, x1, x2, x3⟩, ?_, ?_, ?_, ?_, w0, w1, w2, w3⟩
      · simpa using c0
      · simpa [Nat.add_assoc] using c1
      · simpa [Nat.add_assoc] using c2
      · simpa [Nat.add_assoc] using c3)
    exact ⟨rs, hrl, fun _ => ⟨b, off, rfl, hb, fun j hj => ⟨(hrs j (by omega)).1, (hrs j (by omega)).2.1, (hrs j (by omega)).2.2.1, (hrs j (by omega)).2.2.2.1⟩⟩, hl, hm, hd, fun i hi => (hrs i hi).2.2.2.2⟩

theorem open_rngs {t e : TypeId} {f0 f1 : Field} {fuel : Nat} {ao : Option Addr} {len cap : Nat} {d : DataW H} {pl : List MemPlace} (ht : P.underlying t = some (.slice e)) (he : P.underlying e = some (.struct #[f0, f1]))
    (hone : oneCellFields P #[f0, f1] = true) (hC : P.cellsOf e = 2) (t0 : P.underlying f0.type = some (.int .i64)) (t1 : P.underlying f1.type = some (.int .i64))
    (h : DataW.trod enc P w 0 (fun _ => true) true fuel t (Value.slice ao len cap).cells.toList = some (d, pl)) :
    ∃ ps : List (Int × Int), ps.length = len ∧ RRow w w.heap.size ao ps ∧ len ≤ cap ∧ cap ≤ maxLen ∧ ((d = .nil ∧ cap = 0) ∨ ∃ xs ys, d = .slice xs ys ∧ xs.length + ys.length = cap) ∧ ∀ i, i < len → (Lit.int .i64 (ps.getD i (0, 0)).1).wf = true ∧ (Lit.int .i64 (ps.getD i (0, 0)).2).wf = true := by
  obtain ⟨hl, hm, hd, hrow⟩ := open_recs ht he hone hC (by simp) h
  rcases Nat.eq_zero_or_pos len with h0 | h0
  · subst h0
    exact ⟨[], rfl, RRow.nil _ _ _, hl, hm, hd, fun i hi => absurd hi (by omega)⟩
  · obtain ⟨b, off, rfl, hb, hc⟩ := hrow h0
    obtain ⟨ps, hrl, hrs⟩ := list_of ((0 : Int), (0 : Int)) len (fun i r => w.cell? ⟨b, off + i * 2, none⟩ = some (.int .i64 r.1) ∧ w.cell? ⟨b, off + i * 2 + 1, none⟩ = some (.int .i64 r.2) ∧ (Lit.int .i64 r.1).wf = true ∧ (Lit.int .i64 r.2).wf = true) (fun i hi => by
      obtain ⟨v0, y0, n0, c0, k0⟩ := hc i hi 0 f0 rfl
      obtain ⟨v1, y1, n1, c1, k1⟩ := hc i hi 1 f1 rfl
      obtain ⟨x0, e0, _, w0⟩ := DataW.trod_int t0 k0
      obtain ⟨x1, e1, _, w1⟩ := DataW.trod_int t1 k1
      simp only [List.cons.injEq, and_true] at e0 e1
      subst e0 e1
      refine ⟨⟨x0, x1⟩, ?_, ?_, w0, w1⟩
      · simpa using c0
      · simpa [Nat.add_assoc] using c1)
    exact ⟨ps, hrl, fun _ => ⟨b, off, rfl, hb, fun j hj => ⟨(hrs j (by omega)).1, (hrs j (by omega)).2.1⟩⟩, hl, hm, hd, fun i hi => (hrs i hi).2.2⟩

/-- a struct of two numbers, by value -/
theorem open_two {r : Reach} {b0 : Nat} {t : TypeId} {f0 f1 : Field} {v : Value} {d : DataW H} {pl : List MemPlace} (ht : P.underlying t = some (.struct #[f0, f1])) (hone : oneCellFields P #[f0, f1] = true) (hC : P.cellsOf t = 2)
    (t0 : P.underlying f0.type = some (.int .i64)) (t1 : P.underlying f1.type = some (.int .i64)) (hv : Value.okWide P w r b0 t v) (h : DataW.Trod enc P w 0 (fun _ => true) true t v d pl) :
    ∃ x y : Int, v = .agg #[.int .i64 x, .int .i64 y] ∧ (Lit.int .i64 x).wf = true ∧ (Lit.int .i64 y).wf = true := by
  obtain ⟨cs, rfl, hsz⟩ := okWide_struct ht hv
  obtain ⟨l⟩ := cs
  match l, hsz.trans hC with
  | [c0, c1], _ =>
    obtain ⟨fuel, hf⟩ := h
    obtain ⟨xs, n, _, hx, _, hlen, hg⟩ := DataW.trod_struct ht hf
    obtain ⟨o0, k0⟩ := hone_of hone 0 f0 rfl
    obtain ⟨o1, k1⟩ := hone_of hone 1 f1 rfl
    match xs, hlen with
    | [y0, y1], _ =>
      have g0 := hg 0 f0 rfl
      have g1 := hg 1 f1 rfl
      rw [o0, k0] at g0
      rw [o1, k1] at g1
      obtain ⟨x, e0, _, w0⟩ := DataW.trod_int t0 g0
      obtain ⟨y, e1, _, w1⟩ := DataW.trod_int t1 g1
      simp [Value.cells] at e0 e1
      subst e0 e1
      exact ⟨x, y, rfl, w0, w1⟩
end
end Go.Proofs.YtjeocggocloigabDoor.P
/- A frame, or a raw thing, by value as an argument: opened to numbers, rows and text. Nothing of the program's but the shapes. -/
namespace Go.Proofs.YtjeocggocloigabDoor.P
set_option linter.unusedVariables false
open Go.RowKit Go.ChangeShapes Go.WideShapes Go.Deep

section
variable {H : Type} {enc : TypeId × Value → H} {P : Program} {w : World}
theorem slice_of {t e : TypeId} {fuel : Nat} {v : Value} {y : DataW H × List MemPlace} (ht : P.underlying t = some (.slice e)) (h : DataW.trod enc P w 0 (fun _ => true) true fuel t [v] = some y) : ∃ A n c, v = .slice A n c := by
  rcases open_slice ht h with ⟨h0, _⟩ | ⟨a, len', cap', m, n, D, Pl, h0, _⟩
  · exact ⟨none, 0, 0, by simpa using h0⟩
  · exact ⟨_, _, _, by simpa using h0⟩
theorem open_fr {r : Reach} {b0 : Nat} {t e6 e7 : TypeId} {f0 f1 f2 f3 f4 f5 f6 g0 g1 : Field} {v : Value} {d : DataW H} {pl : List MemPlace} (ht : P.underlying t = some (.struct #[f0, f1, f2, f3, f4, f5, f6])) (hone : oneCellFields P #[f0, f1, f2, f3, f4, f5, f6] = true) (hC : P.cellsOf t = 7)
    (t0 : P.underlying f0.type = some (.int .i64)) (t1 : P.underlying f1.type = some (.int .i64)) (t2 : P.underlying f2.type = some (.int .i64)) (t3 : P.underlying f3.type = some .bool) (t4 : P.underlying f4.type = some (.int .i64))
    (t5 : P.underlying f5.type = some (.slice e6)) (t6 : P.underlying f6.type = some (.slice e7)) (he6 : P.underlying e6 = some (.struct #[g0, g1])) (hone6 : oneCellFields P #[g0, g1] = true) (hC6 : P.cellsOf e6 = 2) (u0 : P.underlying g0.type = some (.int .i64)) (u1 : P.underlying g1.type = some (.int .i64))
    (he7 : P.underlying e7 = some (.int .u8)) (hC7 : P.cellsOf e7 = 1)
    (hv : Value.okWide P w r b0 t v) (h : DataW.Trod enc P w 0 (fun _ => true) true t v d pl) :
    ∃ f : Fr, FrVal w w.heap.size v f ∧ FrWf f := by
  obtain ⟨cs, rfl, hsz⟩ := okWide_struct ht hv
  obtain ⟨l⟩ := cs
  match l, hsz.trans hC with
  | [c0, c1, c2, c3, c4, c5, c6], _ =>
    obtain ⟨fuel, hf⟩ := h
    obtain ⟨xs, n, _, hx, _, hlen, hg⟩ := DataW.trod_struct ht hf
    obtain ⟨o0, k0⟩ := hone_of hone 0 f0 rfl
    obtain ⟨o1, k1⟩ := hone_of hone 1 f1 rfl
    obtain ⟨o2, k2⟩ := hone_of hone 2 f2 rfl
    obtain ⟨o3, k3⟩ := hone_of hone 3 f3 rfl
    obtain ⟨o4, k4⟩ := hone_of hone 4 f4 rfl
    obtain ⟨o5, k5⟩ := hone_of hone 5 f5 rfl
    obtain ⟨o6, k6⟩ := hone_of hone 6 f6 rfl
    match xs, hlen with
    | [y0, y1, y2, y3, y4, y5, y6], _ =>
      have q0 : DataW.trod enc P w 0 (fun _ => true) true n f0.type [c0] = some y0 := by simpa [Value.cells, o0, k0] using hg 0 f0 rfl
      have q1 : DataW.trod enc P w 0 (fun _ => true) true n f1.type [c1] = some y1 := by simpa [Value.cells, o1, k1] using hg 1 f1 rfl
      have q2 : DataW.trod enc P w 0 (fun _ => true) true n f2.type [c2] = some y2 := by simpa [Value.cells, o2, k2] using hg 2 f2 rfl
      have q3 : DataW.trod enc P w 0 (fun _ => true) true n f3.type [c3] = some y3 := by simpa [Value.cells, o3, k3] using hg 3 f3 rfl
      have q4 : DataW.trod enc P w 0 (fun _ => true) true n f4.type [c4] = some y4 := by simpa [Value.cells, o4, k4] using hg 4 f4 rfl
      have q5 : DataW.trod enc P w 0 (fun _ => true) true n f5.type [c5] = some y5 := by simpa [Value.cells, o5, k5] using hg 5 f5 rfl
      have q6 : DataW.trod enc P w 0 (fun _ => true) true n f6.type [c6] = some y6 := by simpa [Value.cells, o6, k6] using hg 6 f6 rfl
      obtain ⟨x0, e0, _, w0⟩ := DataW.trod_int t0 q0
      obtain ⟨x1, e1, _, w1⟩ := DataW.trod_int t1 q1
      obtain ⟨x2, e2, _, w2⟩ := DataW.trod_int t2 q2
      obtain ⟨x3, e3, _⟩ := DataW.trod_bool t3 q3
      obtain ⟨x4, e4, _, w4⟩ := DataW.trod_int t4 q4
      obtain ⟨A, m, c, e5⟩ := slice_of t5 q5
      obtain ⟨A', m', c', e6'⟩ := slice_of t6 q6
      simp only [List.cons.injEq, and_true] at e0 e1 e2 e3 e4
      subst e0 e1 e2 e3 e4 e5 e6'
      obtain ⟨ps, hpl, hpr, hpc, hpm, _, hpw⟩ := open_rngs (d := y5.1) (pl := y5.2) t5 he6 hone6 hC6 u0 u1 (by simpa [Value.cells] using q5)
      have hrow : ∃ zs : List Int, IsRow .u8 w A' m' c' zs := by
        rcases open_ints t6 he7 hC7 q6 with ⟨hcs, _⟩ | ⟨x, l, c, zs, hcs, _, hl, hm, hz, hx, hcell, hwz⟩
        · simp at hcs
          obtain ⟨rfl, rfl, rfl⟩ := hcs
          exact ⟨[], .inl ⟨rfl, rfl, rfl, rfl⟩⟩
        · simp at hcs
          obtain ⟨rfl, rfl, rfl⟩ := hcs
          exact ⟨zs, .inr ⟨_, rfl, hl, hm, by simpa using hz, hcell, hwz⟩⟩
      obtain ⟨zs, hz⟩ := hrow
      obtain ⟨hb, hzl, hzc, hzm⟩ := InRow.brow hz
      have hnone : A' = none → c' = 0 := by
        rcases hz with ⟨_, _, h, _⟩ | ⟨x, h, _⟩
        · exact fun _ => h
        · intro e; rw [h] at e; cases e
      refine ⟨⟨x0, x1, x2, x3, x4, ps, zs.take m'⟩, ⟨_, _, rfl, ⟨A, c, by rw [hpl], by rw [hpl]; exact hpc, hpm, hpr⟩, ⟨A', c', by rw [hzl], by rw [hzl]; exact hzc, hzm, hnone, hb⟩⟩, ⟨w0, w1, w2, w4⟩⟩
/-- a raw thing, by value -/
theorem open_raw {r : Reach} {b0 : Nat} {t : TypeId} {f0 f1 f2 f3 : Field} {v : Value} {d : DataW H} {pl : List MemPlace} (ht : P.underlying t = some (.struct #[f0, f1, f2, f3])) (hone : oneCellFields P #[f0, f1, f2, f3] = true) (hC : P.cellsOf t = 4)
    (t0 : P.underlying f0.type = some (.int .i64)) (t1 : P.underlying f1.type = some (.int .i64)) (t2 : P.underlying f2.type = some (.int .i64)) (t3 : P.underlying f3.type = some .string)
    (hv : Value.okWide P w r b0 t v) (h : DataW.Trod enc P w 0 (fun _ => true) true t v d pl) :
    ∃ x : RawT, v = .agg #[.int .i64 x.kind, .int .i64 x.a, .int .i64 x.b, .string x.text] ∧ (Lit.int .i64 x.kind).wf = true ∧ (Lit.int .i64 x.a).wf = true ∧ (Lit.int .i64 x.b).wf = true ∧ x.text.size ≤ maxLen := by
  obtain ⟨cs, rfl, hsz⟩ := okWide_struct ht hv
  obtain ⟨l⟩ := cs
  match l, hsz.trans hC with
  | [c0, c1, c2, c3], _ =>
    obtain ⟨fuel, hf⟩ := h
    obtain ⟨xs, n, _, hx, _, hlen, hg⟩ := DataW.trod_struct ht hf
    obtain ⟨o0, k0⟩ := hone_of hone 0 f0 rfl
    obtain ⟨o1, k1⟩ := hone_of hone 1 f1 rfl
    obtain ⟨o2, k2⟩ := hone_of hone 2 f2 rfl
    obtain ⟨o3, k3⟩ := hone_of hone 3 f3 rfl
    match xs, hlen with
    | [y0, y1, y2, y3], _ =>
      have q0 : DataW.trod enc P w 0 (fun _ => true) true n f0.type [c0] = some y0 := by simpa [Value.cells, o0, k0] using hg 0 f0 rfl
      have q1 : DataW.trod enc P w 0 (fun _ => true) true n f1.type [c1] = some y1 := by simpa [Value.cells, o1, k1] using hg 1 f1 rfl
      have q2 : DataW.trod enc P w 0 (fun _ => true) true n f2.type [c2] = some y2 := by simpa [Value.cells, o2, k2] using hg 2 f2 rfl
      have q3 : DataW.trod enc P w 0 (fun _ => true) true n f3.type [c3] = some y3 := by simpa [Value.cells, o3, k3] using hg 3 f3 rfl
      obtain ⟨x0, e0, _, w0⟩ := DataW.trod_int t0 q0
      obtain ⟨x1, e1, _, w1⟩ := DataW.trod_int t1 q1
      obtain ⟨x2, e2, _, w2⟩ := DataW.trod_int t2 q2
      obtain ⟨x3, e3, _, w3⟩ := DataW.trod_string t3 q3
      simp only [List.cons.injEq, and_true] at e0 e1 e2 e3
      subst e0 e1 e2 e3
      exact ⟨⟨x0, x1, x2, x3⟩, rfl, w0, w1, w2, w3⟩
end
end Go.Proofs.YtjeocggocloigabDoor.P
