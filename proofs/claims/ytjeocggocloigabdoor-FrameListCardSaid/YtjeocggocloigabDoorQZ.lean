/- Texts of the proofs, joined. -/
import Derived.Test.YtjeocggocloigabDoorQR
import Derived.Test.YtjeocggocloigabDoorQA
import Derived.Test.YtjeocggocloigabDoorQS
import Derived.Deep.LoopGhost
import Derived.Test.YtjeocggocloigabDoorQB
/- Rows of frames: seven cells each, their own rows elsewhere. Nothing of the program's but the frame's shape. -/
namespace Go.Proofs.YtjeocggocloigabDoor
set_option linter.unusedVariables false
open Go.RowKit P

/-- a frame and where its rows lie -/
structure FC where
  f : Fr
  ra : Option Addr
  rc : Nat
  da : Option Addr
  dc : Nat
def fc0 : FC := ⟨⟨0, 0, 0, false, 0, [], []⟩, none, 0, none, 0⟩
def FC.arr (c : FC) : Array Value := #[.int .i64 c.f.kind, .int .i64 c.f.id, .int .i64 c.f.off, .bool c.f.fin, .int .i64 c.f.code, .slice c.ra c.f.rs.length c.rc, .slice c.da c.f.data.length c.dc]
def cellsF (cs : List FC) : List Value := cs.flatMap fun c => c.arr.toList
theorem cellsF_len (cs : List FC) : (cellsF cs).length = cs.length * 7 := by
  induction cs with
  | nil => rfl
  | cons c cs ih => simp only [cellsF, FC.arr, List.flatMap_cons, List.length_append, List.length_cons, List.length_nil] at ih ⊢; omega
theorem cellsF_app (cs ds : List FC) : cellsF (cs ++ ds) = cellsF cs ++ cellsF ds := by simp [cellsF]
theorem cellsF_at (cs : List FC) (j : Nat) (h : j < cs.length) (i : Nat) (hi : i < 7) : (cellsF cs)[j * 7 + i]? = (cs.getD j fc0).arr[i]? := by
  induction cs generalizing j with
  | nil => simp at h
  | cons c cs ih =>
    have e : cellsF (c :: cs) = c.arr.toList ++ cellsF cs := rfl
    have hl : c.arr.toList.length = 7 := rfl
    cases j with
    | zero =>
      rw [e, List.getElem?_append_left (by omega)]
      simp
    | succ j =>
      rw [e, List.getElem?_append_right (by omega), hl, show (j + 1) * 7 + i - 7 = j * 7 + i by omega, ih j (by simpa using h)]
      rfl
theorem cellsF_one (cs : List FC) : ∀ u ∈ cellsF cs, u.oneCell' = true := by
  intro u hu
  obtain ⟨c, _, hc⟩ := List.mem_flatMap.1 hu
  simp only [FC.arr, List.mem_cons, List.not_mem_nil, or_false] at hc
  rcases hc with rfl | rfl | rfl | rfl | rfl | rfl | rfl <;> rfl

/-- its rows read, below block B -/
structure FC.ok (c : FC) (w : World) (B : Nat) : Prop where
  rc : c.f.rs.length ≤ c.rc
  rm : c.rc ≤ maxLen
  rr : RRow w B c.ra c.f.rs
  dc : c.f.data.length ≤ c.dc
  dm : c.dc ≤ maxLen
  dn : c.da = none → c.dc = 0
  dr : BRow w B c.da c.f.data
/-- its rows do not lie in that block -/
structure FC.off (c : FC) (r : Option Nat) : Prop where
  ra : 0 < c.f.rs.length → ∀ b o, c.ra = some ⟨b, o, none⟩ → r ≠ some b
  da : 0 < c.f.data.length → ∀ b o, c.da = some ⟨b, o, none⟩ → r ≠ some b
theorem FC.ok.val {c : FC} {w : World} {B : Nat} (h : c.ok w B) : FrVal w B (.agg c.arr) c.f :=
  ⟨_, _, rfl, ⟨_, _, rfl, h.rc, h.rm, h.rr⟩, ⟨_, _, rfl, h.dc, h.dm, h.dn, h.dr⟩⟩
theorem FC.off.none (c : FC) : c.off none := ⟨fun _ _ _ _ e => (by cases e), fun _ _ _ _ e => (by cases e)⟩
theorem FC.ok.grown {c : FC} {w w' : World} {r : Option Nat} (h : c.ok w w.heap.size) (g : w.grownBy w' r) (ho : c.off r) : c.ok w' w'.heap.size := by
  refine ⟨h.rc, h.rm, fun hn => ?_, h.dc, h.dm, h.dn, h.dr.1, fun hn => ?_⟩
  · obtain ⟨b, off, e, hb, hc⟩ := h.rr hn
    have k := g.block b hb (Ne.symm (ho.ra hn b off e))
    have key : ∀ i, w'.cell? ⟨b, i, none⟩ = w.cell? ⟨b, i, none⟩ := fun i => by simp only [World.cell?, k]
    exact ⟨b, off, e, Nat.lt_of_lt_of_le hb g.size, fun j hj => ⟨(key _).trans (hc j hj).1, (key _).trans (hc j hj).2⟩⟩
  · obtain ⟨b, off, e, hb, hc⟩ := h.dr.2 hn
    have k := g.block b hb (Ne.symm (ho.da hn b off e))
    have key : ∀ i, w'.cell? ⟨b, i, none⟩ = w.cell? ⟨b, i, none⟩ := fun i => by simp only [World.cell?, k]
    exact ⟨b, off, e, Nat.lt_of_lt_of_le hb g.size, fun j hj => (key _).trans (hc j hj)⟩
theorem FC.ok.on {c : FC} {w w' : World} (h : c.ok w w.heap.size) (hb : Below w.heap.size w w') : c.ok w' w'.heap.size := h.grown (grown_below none hb) (FC.off.none c)

/-- v owns the frames cs, in a block of its own from 'base' on -/
structure RowF (w : World) (base : Nat) (v : Value) (cs : List FC) : Prop where
  own : w.ownsRow base 33 7 v cs.length (cellsF cs)
  oks : ∀ c ∈ cs, c.ok w w.heap.size
  offs : ∀ c ∈ cs, c.off v.ownBlock
theorem RowF.nil (w : World) (base : Nat) : RowF w base (.slice none 0 0) [] := ⟨⟨rfl, .inl ⟨rfl, rfl⟩⟩, fun c h => (by cases h), fun c h => (by cases h)⟩
theorem RowF.grown {w w' : World} {base : Nat} {v : Value} {cs : List FC} {r : Option Nat} (h : RowF w base v cs) (g : w.grownBy w' r) (hv : v.ownBlock = none ∨ v.ownBlock ≠ r) (ho : ∀ c ∈ cs, c.off r) : RowF w' base v cs :=
  ⟨World.ownsRow.kept h.own g hv, fun c hc => (h.oks c hc).grown g (ho c hc), h.offs⟩
theorem RowF.on {w w' : World} {base : Nat} {v : Value} {cs : List FC} (h : RowF w base v cs) (hb : Below w.heap.size w w') : RowF w' base v cs :=
  h.grown (grown_below none hb) (by cases hv : v.ownBlock with | none => exact .inl rfl | some k => exact .inr (by simp)) (fun c _ => FC.off.none c)
theorem RowF.lt {w : World} {base : Nat} {v : Value} {cs : List FC} (h : RowF w base v cs) : ∀ g, v.ownBlock = some g → base ≤ g ∧ g < w.heap.size := fun g hg => World.ownsRow.lt h.own g hg
theorem RowF.slice {w : World} {base : Nat} {v : Value} {cs : List FC} (h : RowF w base v cs) : ∃ A c, v = .slice A cs.length c ∧ cs.length ≤ c ∧ c ≤ maxLen := by
  rcases h.own.2 with ⟨rfl, h0⟩ | ⟨g, cap, cur, rfl, _, _, h1, h2, _⟩
  · rw [h0]
    exact ⟨none, 0, rfl, Nat.le_refl _, by unfold maxLen; omega⟩
  · exact ⟨_, _, rfl, h1, h2⟩
/-- a frame's cells, in a row -/
theorem RowF.cell {w : World} {base : Nat} {A : Option Addr} {n c : Nat} {cs : List FC} (h : RowF w base (.slice A n c) cs) (hn : 0 < cs.length) : ∃ g, A = some ⟨g, 0, none⟩ ∧ g < w.heap.size ∧ ∀ j, j < cs.length → ∀ i, i < 7 → w.cell? ⟨g, j * 7 + i, none⟩ = (cs.getD j fc0).arr[i]? := by
  rcases h.own.2 with ⟨hv, h0⟩ | ⟨g, cap, cur, hv, _, hh, _⟩
  · omega
  · injection hv with hA hn' hc
    subst hA hc hn'
    refine ⟨g, rfl, lt_of_block hh, fun j hj i hi => ?_⟩
    rw [h.own.cellAt (j * 7 + i) (by omega), cellsF_at cs j hj i hi]
/-- one more frame -/
theorem RowF.push {w w' : World} {base : Nat} {v v' : Value} {cs : List FC} {c : FC} (h : RowF w base v cs) (hc : c.ok w w.heap.size) (ho : c.off v.ownBlock) (own : w'.ownsRow base 33 7 v' (cs.length + 1) (cellsF cs ++ cellsF [c])) (g : w.grownBy w' v.ownBlock) (hv : v'.ownBlock = v.ownBlock ∨ v'.ownBlock = some w.heap.size) :
    RowF w' base v' (cs ++ [c]) := by
  have all : ∀ d ∈ cs ++ [c], d.ok w w.heap.size ∧ d.off v.ownBlock := fun d hd => by
    rcases List.mem_append.1 hd with hd | hd
    · exact ⟨h.oks d hd, h.offs d hd⟩
    · obtain rfl : d = c := by simpa using hd
      exact ⟨hc, ho⟩
  refine ⟨?_, fun d hd => (all d hd).1.grown g (all d hd).2, fun d hd => ?_⟩
  · rw [List.length_append, cellsF_app]
    exact own
  · rcases hv with hv | hv
    · rw [hv]; exact (all d hd).2
    · rw [hv]
      refine ⟨fun hn b o e e2 => ?_, fun hn b o e e2 => ?_⟩
      · injection e2 with e2
        obtain ⟨b1, o1, e1, hb1, _⟩ := (all d hd).1.rr hn
        rw [e] at e1
        cases e1
        omega
      · injection e2 with e2
        obtain ⟨b1, o1, e1, hb1, _⟩ := (all d hd).1.dr.2 hn
        rw [e] at e1
        cases e1
        omega

theorem infoF : (Tryd.prog.info? 33).map (fun i => (i.zero, i.size, i.bytes)) = some (some (.agg #[.int .i64 0, .int .i64 0, .int .i64 0, .bool false, .int .i64 0, .slice none 0 0, .slice none 0 0]), 7, 88) := by kernel_rfl
/-- the append of one frame that lies in a block of seven cells -/
theorem run_appF (w : World) (ty : TypeId) (base : Nat) (v : Value) (cs : List FC) (h : RowF w base v cs) (b m : Nat) (c : FC) (hm : m = 1) (k : Nat) (hb : w.heap[b]? = some (.cells c.arr 33 (0, 0))) (hc : c.ok w w.heap.size) (ho : c.off v.ownBlock)
    (hn : cs.length ≤ 1000) (hbase : base ≤ w.heap.size) :
    ∃ v' w', (Builtin.append_ #[24, 24] ty #[v, .slice (some ⟨b, 0, none⟩) m k]).run Tryd.prog w = .ok v' w' ∧ RowF w' base v' (cs ++ [c]) ∧ w.grownBy w' v.ownBlock ∧ (v'.ownBlock = v.ownBlock ∨ v'.ownBlock = some w.heap.size) := by
  subst hm
  obtain ⟨i0, hi0, hz0, hz1, hz2⟩ := info_parts infoF
  have hnew : ∀ j u, (cellsF [c])[j]? = some u → w.cell? ((⟨b, 0, none⟩ : Addr).add j) = some u := by
    intro j u hj
    have e : cellsF [c] = c.arr.toList := by simp [cellsF]
    rw [e] at hj
    rw [add_plain2, Nat.zero_add, blk_cell hb]
    simpa using hj
  obtain ⟨v', w', hrun, h2, h3, _, h4⟩ := run_append_own_at (P := Tryd.prog) (w := w) base 24 ty 33 i0 _ 7 88 Tryd.underlying24 hi0 hz0 hz1 hz2 (by rfl) (by decide) v cs.length (cellsF cs) h.own ⟨b, 0, none⟩ 1 k (cellsF [c]) rfl hnew (cellsF_one [c]) (by unfold maxLen; omega) (by omega) hbase
  exact ⟨v', w', hrun, h.push hc ho h2 h3 h4, h3, h4⟩
theorem wpList_appF (w : World) {ops : Array Oper} {rest : List Oper} {o : Oper} {a : Act} {Q : Exit → Act → World → Prop} (hgd : o.guard = none) (s x : Operand)
    (ho : o.op = .call { callee := .builtin .append, args := #[s, x], argTypes := #[24, 24] })
    (base : Nat) (v : Value) (cs : List FC) (hs : a.eval s = v) (h : RowF w base v cs) (b m : Nat) (c : FC) (hm : m = 1) (k : Nat) (hx : a.eval x = .slice (some ⟨b, 0, none⟩) m k) (hb : w.heap[b]? = some (.cells c.arr 33 (0, 0))) (hc : c.ok w w.heap.size) (hof : c.off v.ownBlock)
    (hn : cs.length ≤ 1000) (hbase : base ≤ w.heap.size)
    (hK : ∀ v' w', RowF w' base v' (cs ++ [c]) → w.grownBy w' v.ownBlock → (v'.ownBlock = v.ownBlock ∨ v'.ownBlock = some w.heap.size) → wpList Tryd.prog ops Q rest (a.put o.dst v') w') :
    wpList Tryd.prog ops Q (o :: rest) a w := by
  refine wpList_plain hgd fun K hK2 => ?_
  obtain ⟨v', w', hrun, h2, h3, h4⟩ := run_appF w o.type base v cs h b m c hm k hb hc hof hn hbase
  unfold Oper.wp execOp
  simp only [ho, resolve, invoke, builtin, Sem.run_bind, Sem.run_pure, Result.andThen_ok, List.map_toArray, List.map_cons, List.map_nil, hs, hx, hrun]
  exact hK2 _ _ (hK v' w' h2 h3 h4)
theorem step_appF (w : World) {ops : Array Oper} {o : Oper} {a : Act} {K : Act → World → Prop} {Q : Exit → Act → World → Prop} {E : Prop} (hgd : o.guard = none) (s x : Operand)
    (ho : o.op = .call { callee := .builtin .append, args := #[s, x], argTypes := #[24, 24] })
    (base : Nat) (v : Value) (cs : List FC) (hs : a.eval s = v) (h : RowF w base v cs) (b m : Nat) (c : FC) (hm : m = 1) (k : Nat) (hx : a.eval x = .slice (some ⟨b, 0, none⟩) m k) (hb : w.heap[b]? = some (.cells c.arr 33 (0, 0))) (hc : c.ok w w.heap.size) (hof : c.off v.ownBlock)
    (hn : cs.length ≤ 1000) (hbase : base ≤ w.heap.size)
    (hK : ∀ v' w', RowF w' base v' (cs ++ [c]) → w.grownBy w' v.ownBlock → (v'.ownBlock = v.ownBlock ∨ v'.ownBlock = some w.heap.size) → K (a.put o.dst v') w') :
    if Region.wanted o (yielded ops a.tmps) = true then Oper.wp Tryd.prog o a w K Q else E := by
  have hw : Region.wanted o (yielded ops a.tmps) = true := by simp [Region.wanted, hgd]
  rw [if_pos hw]
  obtain ⟨v', w', hrun, h2, h3, h4⟩ := run_appF w o.type base v cs h b m c hm k hb hc hof hn hbase
  unfold Oper.wp execOp
  simp only [ho, resolve, invoke, builtin, Sem.run_bind, Sem.run_pure, Result.andThen_ok, List.map_toArray, List.map_cons, List.map_nil, hs, hx, hrun]
  exact hK v' w' h2 h3 h4

/-- a frame of the call's own, as an entry -/
theorem FrOwn.fc {w : World} {base : Nat} {v : Value} {f : Fr} (h : FrOwn w base v f) : ∃ c : FC, c.f = f ∧ v = .agg c.arr ∧ c.ok w w.heap.size ∧ ∀ r : Option Nat, (∀ k, r = some k → k < base) → c.off r := by
  obtain ⟨r, d, rfl, h1, h2, h3⟩ := h.ex
  obtain ⟨rs', hr', hd'⟩ := h.val.ex
  obtain ⟨ev, hr, hd⟩ := hd'
  have e1 : r = rs' ∧ d = hr' := by simpa using ev
  obtain ⟨rfl, rfl⟩ := e1
  obtain ⟨ra, rc, rfl, rc1, rc2, rr⟩ := hr.ex
  obtain ⟨da, dc, rfl, dc1, dc2, dn, dr⟩ := hd.ex
  refine ⟨⟨f, ra, rc, da, dc⟩, rfl, rfl, ⟨rc1, rc2, rr, dc1, dc2, dn, dr⟩, fun r hq => ⟨fun hn b o e e2 => ?_, fun hn b o e e2 => ?_⟩⟩
  · have e3 : ra = some ⟨b, o, none⟩ := e
    subst e3
    rcases h1.2 with ⟨hv, _⟩ | ⟨g, cap, cur, hv, hb, _⟩
    · cases hv
    · cases hv
      have := hq _ e2
      omega
  · have e3 : da = some ⟨b, o, none⟩ := e
    subst e3
    rcases h2.2 with ⟨hv, _⟩ | ⟨g, cap, cur, hv, hb, _⟩
    · cases hv
    · cases hv
      have := hq _ e2
      omega
/-- a frame of frameOf, as an entry -/
theorem FrOutN.fc {f : Fr} {w w' : World} {e : Ending} (h : FrOutN f w e w') : ∃ c : FC, c.f = f ∧ e = .returned (.agg c.arr) ∧ Below w.heap.size w w' ∧ c.ok w' w'.heap.size ∧ ∀ r : Option Nat, (∀ k, r = some k → k < w.heap.size) → c.off r := by
  obtain ⟨r, d, rfl, hb, hr, hd, nr, nd⟩ := h
  obtain ⟨ra, rc, rfl, rc1, rc2, rr⟩ := hr.ex
  obtain ⟨da, dc, rfl, dc1, dc2, dn, dr⟩ := hd.ex
  refine ⟨⟨f, ra, rc, da, dc⟩, rfl, rfl, hb, ⟨rc1, rc2, rr, dc1, dc2, dn, dr⟩, fun r hq => ⟨fun hn b o e e2 => ?_, fun hn b o e e2 => ?_⟩⟩
  · have e3 : ra = some ⟨b, o, none⟩ := e
    subst e3
    have := nr b o _ _ rfl
    have := hq _ e2
    omega
  · have e3 : da = some ⟨b, o, none⟩ := e
    subst e3
    have := nd b o _ _ rfl
    have := hq _ e2
    omega
end Go.Proofs.YtjeocggocloigabDoor
/- Contract of package frame: All, on the bytes of frames that may be. -/
namespace Go.Proofs.YtjeocggocloigabDoor
set_option linter.unusedVariables false
open Go.RowKit P

def AllPost (fs : List Fr) (w : World) (e : Ending) (w' : World) : Prop :=
  Below w.heap.size w w' ∧ if fs.length ≤ 12 then ∃ v cs, e = .returned (.tuple #[v, .int .i64 0]) ∧ RowF w' w.heap.size v cs ∧ cs.map FC.f = fs else e = .returned (.tuple #[.slice none 0 0, .int .i64 8])

theorem heap_two (w : World) (o : Obj) (cs : Array Value) (T : TypeId) : ((w.alloc o).alloc (.cells cs T)).heap[w.heap.size + 1]? = some (.cells cs T (0, 0)) := by
  have h := heap_alloc_new (w.alloc o) (.cells cs T)
  have e : (w.alloc o).heap.size = w.heap.size + 1 := by simp
  rw [e] at h
  exact h
theorem grown_bw {w w' : World} {r : Option Nat} {B : Nat} (h : Below w.heap.size w w') {v : World} (g : w'.grownBy v r) (hr : ∀ k, r = some k → B ≤ k) (hB : B ≤ w.heap.size) : Below B w v :=
  (h.mono hB).grown g (Nat.le_trans hB h.size) hr

set_option maxRecDepth 100000 in
set_option maxHeartbeats 600000 in
theorem all_ok (fs : List Fr) (hf : ∀ f ∈ fs, faultF f = 0) (h14 : fs.length ≤ 14) (A : Option Addr) (n c : Nat) (w : World) (h : BRow w w.heap.size A (frTs fs)) (hl : (frTs fs).length = n) (hc : n ≤ c) (hm : c ≤ maxLen) (hn : A = none → c = 0) (hb : n ≤ 140737488355328) :
    Calls Tryd.prog 8 #[.slice A n c] w (AllPost fs w) := by
  have HFS := Lib.hid hf
  have H0 := Lib.hid h
  subst hl
  clear hf h
  go_enter Tryd.func8, Tryd.ntmps8
  go_wp2_with fail
  go_loopg [0, 4, 5] fs.length (fun g bv l fu wr => ∃ (k : Nat) (A' : Option Addr) (c' : Nat) (cs : List FC), k + g = fs.length ∧ bv = .slice A' (frTs (fs.drop k)).length c' ∧ fu = .bool (decide (12 < k)) ∧ Hid (RowF wr w.heap.size l cs) ∧ Hid (cs.map FC.f = fs.take (min k 12)) ∧ Hid (BRow wr w.heap.size A' (frTs (fs.drop k))) ∧ (frTs (fs.drop k)).length ≤ c' ∧ c' ≤ maxLen ∧ Hid (A' = none → c' = 0) ∧ (frTs (fs.drop k)).length ≤ 140737488355328 ∧ Below w.heap.size w wr)
  case atStart => exact ⟨0, A, c, [], by omega, rfl, rfl, Lib.hid (RowF.nil _ _), Lib.hid rfl, H0, hc, hm, Lib.hid hn, hb, Below.refl _ _⟩
  case round =>
    obtain ⟨k, A', c', cs, hk, rfl, rfl, HL, HCS, HB, hc', hm', HN, hb', hbw⟩ := hrel
    have BW := Lib.hid hbw
    have HCL := Lib.hid (show cs.length = min k 12 by
      have := congrArg List.length HCS.out
      rw [List.length_map, List.length_take] at this
      omega)
    obtain ⟨Al, cl, hAl, hl1, hl2⟩ := HL.out.slice
    subst hAl
    clear hbw
    by_cases hlt : k < fs.length
    · have hd : fs.drop k = fs[k] :: fs.drop (k + 1) := List.drop_eq_getElem_cons hlt
      obtain ⟨f, hfe⟩ : ∃ f, fs[k] = f := ⟨_, rfl⟩
      have hff : faultF f = 0 := HFS.out f (hfe ▸ List.getElem_mem hlt)
      obtain ⟨T, hT⟩ : ∃ T, frTs (fs.drop (k + 1)) = T := ⟨_, rfl⟩
      have hz : frTs (fs.drop k) = frT f ++ T := by rw [hd, hfe]; show frT f ++ frTs (fs.drop (k + 1)) = _; rw [hT]
      have hX0 := frT_pos f hff
      have hX8 := frT_le hff
      have HDEC := Lib.hid (decF_back hff T)
      obtain ⟨X, hX⟩ : ∃ X, frT f = X := ⟨_, rfl⟩
      rw [hz, hX] at HB hc' hb'
      rw [hX] at hX0 hX8 HDEC
      rw [hz, hX]
      have hlen : (X ++ T).length = X.length + T.length := List.length_append
      have HDR := Lib.hid (show (X ++ T).drop X.length = T from List.drop_left ..)
      obtain ⟨Z, hZ⟩ : ∃ Z, X ++ T = Z := ⟨_, rfl⟩
      rw [hZ] at HB hc' hb' HDEC hlen HDR ⊢
      have hle : X.length ≤ Z.length := by omega
      have hpos : (0 : Int) < (Z.length : Int) := by omega
      have hle' : (X.length : Int) ≤ (Z.length : Int) := by omega
      have HUS := Lib.hid (show (Z.length : Int) - T.length = X.length by omega)
      have HZL := Lib.hid (show Z.length - X.length = T.length by omega)
      have HTK := Lib.hid (show fs.take (k + 1) = fs.take k ++ [f] by rw [List.take_succ_eq_append_getElem hlt, hfe])
      have HT' := Lib.hid hT
      obtain ⟨b0, o0, hA0, hb0, _⟩ := HB.out.2 (by omega)
      subst hA0
      have HBN := Lib.hid (brow_cut HB.out X.length c' hc')
      rw [HDR.out] at HBN
      have HT2 := Lib.hid (show (frTs (fs.drop (k + 1))).length = Z.length - X.length by rw [hT]; omega)
      clear hd hfe hff hz hX hT hZ hlen
      by_cases h12 : 12 ≤ k
      · have HC12 := Lib.hid (show cs.length = 12 by have := HCL.out; omega)
        have hful : ((cs.length : Int) == 12) = true := by have := HC12.out; simp; omega
        by_cases hcx : c' = X.length
        · have hcx' : X.length = c' := hcx.symm
          rw [if_pos hcx] at HBN
          clear hcx
          go_wp2_with (go_at_call 16; refine (decode_any (some ⟨b0, o0, none⟩) Z.length c' Z _ (HB.out.more BW.out.size) rfl hc' hm' (fun e => by cases e) hb').mono ?_; rintro e w1 hD; obtain ⟨b1, hm1⟩ := hD; rw [HDEC.out] at hm1; obtain ⟨v1, rfl, ho1⟩ := hm1; rw [HUS.out]; obtain ⟨⟨f', ra, rc, da, dc⟩, hf', hv', hok, hoff⟩ := ho1.fc; obtain rfl : f = f' := hf'.symm; obtain rfl := hv'; simp only [FC.arr]; have B1 := Lib.hid b1; have OK1 := Lib.hid hok; have OFF1 := Lib.hid hoff; have B2 := Lib.hid (B1.out.trans ((((Below.refl w1.heap.size w1).alloc (Nat.le_refl _) (.cells #[.int .i64 f.kind, .int .i64 f.id, .int .i64 f.off, .bool f.fin, .int .i64 f.code, .slice ra f.rs.length rc, .slice da f.data.length dc] 33)).alloc (by simp) (.cells #[.int .i64 f.kind, .int .i64 f.id, .int .i64 f.off, .bool f.fin, .int .i64 f.code, .slice ra f.rs.length rc, .slice da f.data.length dc] 33)).mono B1.out.size)); have HL2 := Lib.hid (HL.out.on B2.out); have OK2 := Lib.hid (hok.on (((Below.refl w1.heap.size w1).alloc (Nat.le_refl _) (.cells #[.int .i64 f.kind, .int .i64 f.id, .int .i64 f.off, .bool f.fin, .int .i64 f.code, .slice ra f.rs.length rc, .slice da f.data.length dc] 33)).alloc (by simp) (.cells #[.int .i64 f.kind, .int .i64 f.id, .int .i64 f.off, .bool f.fin, .int .i64 f.code, .slice ra f.rs.length rc, .slice da f.data.length dc] 33))); have NB := Lib.hid (heap_two w1 (.cells #[.int .i64 f.kind, .int .i64 f.id, .int .i64 f.off, .bool f.fin, .int .i64 f.code, .slice ra f.rs.length rc, .slice da f.data.length dc] 33) (FC.arr ⟨f, ra, rc, da, dc⟩) 33); have hof : FC.off ⟨f, ra, rc, da, dc⟩ (Value.slice Al cs.length cl).ownBlock := (hoff _ fun k hk => (HL.out.lt k hk).2); have HOF := Lib.hid hof; have B1' := Lib.hid (B1.out.trans (((Below.refl w1.heap.size w1).alloc (Nat.le_refl _) (.cells #[.int .i64 f.kind, .int .i64 f.id, .int .i64 f.off, .bool f.fin, .int .i64 f.code, .slice ra f.rs.length rc, .slice da f.data.length dc] 33)).mono B1.out.size)); clear b1 ho1 hok hoff hof)
          go_roundg (gk - 1)
          case measure => omega
          case rel => exact ⟨k + 1, some ⟨b0, o0, none⟩, 0, cs, by omega, by rw [HT2.out, show Z.length - X.length = 0 by omega], by rw [decide_eq_true (by omega)], Lib.hid (HL.out.on B1'.out), Lib.hid (by rw [HCS.out]; congr 1; omega), Lib.hid (HT'.out.symm ▸ HBN.out.below (B1'.out.mono BW.out.size)), by rw [HT2.out]; omega, Nat.zero_le _, Lib.hid (fun _ => rfl), by rw [HT2.out]; omega, BW.out.trans (B1'.out.mono BW.out.size)⟩
        · have hcx' : ¬ X.length = c' := fun e => hcx e.symm
          rw [if_neg hcx, Option.map_some, add_plain2] at HBN
          go_wp2_with (go_at_call 16; refine (decode_any (some ⟨b0, o0, none⟩) Z.length c' Z _ (HB.out.more BW.out.size) rfl hc' hm' (fun e => by cases e) hb').mono ?_; rintro e w1 hD; obtain ⟨b1, hm1⟩ := hD; rw [HDEC.out] at hm1; obtain ⟨v1, rfl, ho1⟩ := hm1; rw [HUS.out]; obtain ⟨⟨f', ra, rc, da, dc⟩, hf', hv', hok, hoff⟩ := ho1.fc; obtain rfl : f = f' := hf'.symm; obtain rfl := hv'; simp only [FC.arr]; have B1 := Lib.hid b1; have OK1 := Lib.hid hok; have OFF1 := Lib.hid hoff; have B2 := Lib.hid (B1.out.trans ((((Below.refl w1.heap.size w1).alloc (Nat.le_refl _) (.cells #[.int .i64 f.kind, .int .i64 f.id, .int .i64 f.off, .bool f.fin, .int .i64 f.code, .slice ra f.rs.length rc, .slice da f.data.length dc] 33)).alloc (by simp) (.cells #[.int .i64 f.kind, .int .i64 f.id, .int .i64 f.off, .bool f.fin, .int .i64 f.code, .slice ra f.rs.length rc, .slice da f.data.length dc] 33)).mono B1.out.size)); have HL2 := Lib.hid (HL.out.on B2.out); have OK2 := Lib.hid (hok.on (((Below.refl w1.heap.size w1).alloc (Nat.le_refl _) (.cells #[.int .i64 f.kind, .int .i64 f.id, .int .i64 f.off, .bool f.fin, .int .i64 f.code, .slice ra f.rs.length rc, .slice da f.data.length dc] 33)).alloc (by simp) (.cells #[.int .i64 f.kind, .int .i64 f.id, .int .i64 f.off, .bool f.fin, .int .i64 f.code, .slice ra f.rs.length rc, .slice da f.data.length dc] 33))); have NB := Lib.hid (heap_two w1 (.cells #[.int .i64 f.kind, .int .i64 f.id, .int .i64 f.off, .bool f.fin, .int .i64 f.code, .slice ra f.rs.length rc, .slice da f.data.length dc] 33) (FC.arr ⟨f, ra, rc, da, dc⟩) 33); have hof : FC.off ⟨f, ra, rc, da, dc⟩ (Value.slice Al cs.length cl).ownBlock := (hoff _ fun k hk => (HL.out.lt k hk).2); have HOF := Lib.hid hof; have B1' := Lib.hid (B1.out.trans (((Below.refl w1.heap.size w1).alloc (Nat.le_refl _) (.cells #[.int .i64 f.kind, .int .i64 f.id, .int .i64 f.off, .bool f.fin, .int .i64 f.code, .slice ra f.rs.length rc, .slice da f.data.length dc] 33)).mono B1.out.size)); clear b1 ho1 hok hoff hof)
          go_roundg (gk - 1)
          case measure => omega
          case rel => exact ⟨k + 1, some ⟨b0, o0 + X.length, none⟩, c' - X.length, cs, by omega, by rw [HT2.out], by rw [decide_eq_true (by omega)], Lib.hid (HL.out.on B1'.out), Lib.hid (by rw [HCS.out]; congr 1; omega), Lib.hid (HT'.out.symm ▸ HBN.out.below (B1'.out.mono BW.out.size)), by rw [HT2.out]; omega, by omega, Lib.hid (fun e => by cases e), by rw [HT2.out]; omega, BW.out.trans (B1'.out.mono BW.out.size)⟩
      · have HC12 := Lib.hid (show cs.length = k by have := HCL.out; omega)
        have hful : ((cs.length : Int) == 12) = false := by have := HC12.out; simp; omega
        by_cases hcx : c' = X.length
        · have hcx' : X.length = c' := hcx.symm
          rw [if_pos hcx] at HBN
          clear hcx
          go_wp2_with (first
           | (at_builtin; refine wpList_appF _ rfl (.tmp 29) (.tmp 31) rfl w.heap.size (.slice Al cs.length cl) cs rfl HL2.out (w1.heap.size + 1) 1 ⟨f, ra, rc, da, dc⟩ rfl 1 rfl NB.out OK2.out HOF.out (by have := HCL.out; omega) (by have := BW.out.size; have := B2.out.size; omega) ?_; intro v3 w3 hl3 hg3 _; have HL3 := Lib.hid hl3; have hq3 : ∀ q, (Value.slice Al cs.length cl).ownBlock = some q → w.heap.size ≤ q := fun q hq => (HL.out.lt q hq).1; have HG3 := Lib.hid (grown_bw B2.out hg3 hq3 BW.out.size); clear hl3 hg3 hq3)
           | (go_at_call 16; refine (decode_any (some ⟨b0, o0, none⟩) Z.length c' Z _ (HB.out.more BW.out.size) rfl hc' hm' (fun e => by cases e) hb').mono ?_; rintro e w1 hD; obtain ⟨b1, hm1⟩ := hD; rw [HDEC.out] at hm1; obtain ⟨v1, rfl, ho1⟩ := hm1; rw [HUS.out]; obtain ⟨⟨f', ra, rc, da, dc⟩, hf', hv', hok, hoff⟩ := ho1.fc; obtain rfl : f = f' := hf'.symm; obtain rfl := hv'; simp only [FC.arr]; have B1 := Lib.hid b1; have OK1 := Lib.hid hok; have OFF1 := Lib.hid hoff; have B2 := Lib.hid (B1.out.trans ((((Below.refl w1.heap.size w1).alloc (Nat.le_refl _) (.cells #[.int .i64 f.kind, .int .i64 f.id, .int .i64 f.off, .bool f.fin, .int .i64 f.code, .slice ra f.rs.length rc, .slice da f.data.length dc] 33)).alloc (by simp) (.cells #[.int .i64 f.kind, .int .i64 f.id, .int .i64 f.off, .bool f.fin, .int .i64 f.code, .slice ra f.rs.length rc, .slice da f.data.length dc] 33)).mono B1.out.size)); have HL2 := Lib.hid (HL.out.on B2.out); have OK2 := Lib.hid (hok.on (((Below.refl w1.heap.size w1).alloc (Nat.le_refl _) (.cells #[.int .i64 f.kind, .int .i64 f.id, .int .i64 f.off, .bool f.fin, .int .i64 f.code, .slice ra f.rs.length rc, .slice da f.data.length dc] 33)).alloc (by simp) (.cells #[.int .i64 f.kind, .int .i64 f.id, .int .i64 f.off, .bool f.fin, .int .i64 f.code, .slice ra f.rs.length rc, .slice da f.data.length dc] 33))); have NB := Lib.hid (heap_two w1 (.cells #[.int .i64 f.kind, .int .i64 f.id, .int .i64 f.off, .bool f.fin, .int .i64 f.code, .slice ra f.rs.length rc, .slice da f.data.length dc] 33) (FC.arr ⟨f, ra, rc, da, dc⟩) 33); have hof : FC.off ⟨f, ra, rc, da, dc⟩ (Value.slice Al cs.length cl).ownBlock := (hoff _ fun k hk => (HL.out.lt k hk).2); have HOF := Lib.hid hof; have B1' := Lib.hid (B1.out.trans (((Below.refl w1.heap.size w1).alloc (Nat.le_refl _) (.cells #[.int .i64 f.kind, .int .i64 f.id, .int .i64 f.off, .bool f.fin, .int .i64 f.code, .slice ra f.rs.length rc, .slice da f.data.length dc] 33)).mono B1.out.size)); clear b1 ho1 hok hoff hof))
          go_roundg (gk - 1)
          case measure => omega
          case rel => exact ⟨k + 1, some ⟨b0, o0, none⟩, 0, cs ++ [⟨f, ra, rc, da, dc⟩], by omega, by rw [HT2.out, show Z.length - X.length = 0 by omega], by rw [decide_eq_false (by omega)], HL3, Lib.hid (by rw [List.map_append, HCS.out, show min k 12 = k by omega, show min (k + 1) 12 = k + 1 by omega, HTK.out]; rfl), Lib.hid (HT'.out.symm ▸ HBN.out.below HG3.out), by rw [HT2.out]; omega, Nat.zero_le _, Lib.hid (fun _ => rfl), by rw [HT2.out]; omega, BW.out.trans HG3.out⟩
        · have hcx' : ¬ X.length = c' := fun e => hcx e.symm
          rw [if_neg hcx, Option.map_some, add_plain2] at HBN
          go_wp2_with (first
           | (at_builtin; refine wpList_appF _ rfl (.tmp 29) (.tmp 31) rfl w.heap.size (.slice Al cs.length cl) cs rfl HL2.out (w1.heap.size + 1) 1 ⟨f, ra, rc, da, dc⟩ rfl 1 rfl NB.out OK2.out HOF.out (by have := HCL.out; omega) (by have := BW.out.size; have := B2.out.size; omega) ?_; intro v3 w3 hl3 hg3 _; have HL3 := Lib.hid hl3; have hq3 : ∀ q, (Value.slice Al cs.length cl).ownBlock = some q → w.heap.size ≤ q := fun q hq => (HL.out.lt q hq).1; have HG3 := Lib.hid (grown_bw B2.out hg3 hq3 BW.out.size); clear hl3 hg3 hq3)
           | (go_at_call 16; refine (decode_any (some ⟨b0, o0, none⟩) Z.length c' Z _ (HB.out.more BW.out.size) rfl hc' hm' (fun e => by cases e) hb').mono ?_; rintro e w1 hD; obtain ⟨b1, hm1⟩ := hD; rw [HDEC.out] at hm1; obtain ⟨v1, rfl, ho1⟩ := hm1; rw [HUS.out]; obtain ⟨⟨f', ra, rc, da, dc⟩, hf', hv', hok, hoff⟩ := ho1.fc; obtain rfl : f = f' := hf'.symm; obtain rfl := hv'; simp only [FC.arr]; have B1 := Lib.hid b1; have OK1 := Lib.hid hok; have OFF1 := Lib.hid hoff; have B2 := Lib.hid (B1.out.trans ((((Below.refl w1.heap.size w1).alloc (Nat.le_refl _) (.cells #[.int .i64 f.kind, .int .i64 f.id, .int .i64 f.off, .bool f.fin, .int .i64 f.code, .slice ra f.rs.length rc, .slice da f.data.length dc] 33)).alloc (by simp) (.cells #[.int .i64 f.kind, .int .i64 f.id, .int .i64 f.off, .bool f.fin, .int .i64 f.code, .slice ra f.rs.length rc, .slice da f.data.length dc] 33)).mono B1.out.size)); have HL2 := Lib.hid (HL.out.on B2.out); have OK2 := Lib.hid (hok.on (((Below.refl w1.heap.size w1).alloc (Nat.le_refl _) (.cells #[.int .i64 f.kind, .int .i64 f.id, .int .i64 f.off, .bool f.fin, .int .i64 f.code, .slice ra f.rs.length rc, .slice da f.data.length dc] 33)).alloc (by simp) (.cells #[.int .i64 f.kind, .int .i64 f.id, .int .i64 f.off, .bool f.fin, .int .i64 f.code, .slice ra f.rs.length rc, .slice da f.data.length dc] 33))); have NB := Lib.hid (heap_two w1 (.cells #[.int .i64 f.kind, .int .i64 f.id, .int .i64 f.off, .bool f.fin, .int .i64 f.code, .slice ra f.rs.length rc, .slice da f.data.length dc] 33) (FC.arr ⟨f, ra, rc, da, dc⟩) 33); have hof : FC.off ⟨f, ra, rc, da, dc⟩ (Value.slice Al cs.length cl).ownBlock := (hoff _ fun k hk => (HL.out.lt k hk).2); have HOF := Lib.hid hof; have B1' := Lib.hid (B1.out.trans (((Below.refl w1.heap.size w1).alloc (Nat.le_refl _) (.cells #[.int .i64 f.kind, .int .i64 f.id, .int .i64 f.off, .bool f.fin, .int .i64 f.code, .slice ra f.rs.length rc, .slice da f.data.length dc] 33)).mono B1.out.size)); clear b1 ho1 hok hoff hof))
          go_roundg (gk - 1)
          case measure => omega
          case rel => exact ⟨k + 1, some ⟨b0, o0 + X.length, none⟩, c' - X.length, cs ++ [⟨f, ra, rc, da, dc⟩], by omega, by rw [HT2.out], by rw [decide_eq_false (by omega)], HL3, Lib.hid (by rw [List.map_append, HCS.out, show min k 12 = k by omega, show min (k + 1) 12 = k + 1 by omega, HTK.out]; rfl), Lib.hid (HT'.out.symm ▸ HBN.out.below HG3.out), by rw [HT2.out]; omega, by omega, Lib.hid (fun e => by cases e), by rw [HT2.out]; omega, BW.out.trans HG3.out⟩
    · have hkl : k = fs.length := by omega
      have hz : fs.drop k = [] := List.drop_of_length_le (by omega)
      have hz2 : (frTs (fs.drop k)).length = 0 := by rw [hz]; rfl
      have HMAP := Lib.hid HCS.out
      by_cases h12 : 12 < k
      · rw [decide_eq_true h12, hz2]
        clear hz hz2
        go_wp2_with fail
        go_ret2
        exact ⟨BW.out, by rw [if_neg (by omega)]; rfl⟩
      · rw [decide_eq_false h12, hz2]
        clear hz hz2
        go_wp2_with fail
        go_ret2
        exact ⟨BW.out, by rw [if_pos (by omega)]; exact ⟨_, cs, rfl, HL.out, by rw [HCS.out, List.take_of_length_le (by omega)]⟩⟩
end Go.Proofs.YtjeocggocloigabDoor
/- The verifier's texts' sameFrames, at rows that say the same frames; All, where the first frame is bad; some. -/
namespace Go.Proofs.YtjeocggocloigabDoor
set_option linter.unusedVariables false
open Go.RowKit P

theorem some14 (A : Option Addr) (len cap : Nat) (w : World) (hl : len ≤ cap) (hc : cap ≤ maxLen) :
    Calls Tryd.prog 5 #[.slice A len cap, .int .i64 14] w fun e w' => e = .returned (.slice A (min len 14) cap) ∧ w = w' := by
  unfold maxLen at hc
  go_enter Tryd.func5, Tryd.ntmps5
  go_wp2
  go_ret
  refine ⟨?_, rfl⟩
  show Ending.returned (Value.slice A (min (len : Int) 14).toNat cap) = _
  rw [show (min (len : Int) 14).toNat = min len 14 by omega]

set_option maxRecDepth 100000 in
theorem all_first (zs : List Int) (x : Int) (hd : decF zs = .error x) (h0 : 0 < zs.length) (A : Option Addr) (n c : Nat) (w : World) (h : BRow w w.heap.size A zs) (hl : zs.length = n) (hc : n ≤ c) (hm : c ≤ maxLen) (hn : A = none → c = 0) (hb : n ≤ 140737488355328) :
    Calls Tryd.prog 8 #[.slice A n c] w fun e w' => e = .returned (.tuple #[.slice none 0 0, .int .i64 x]) ∧ Below w.heap.size w w' := by
  subst hl
  have HB := Lib.hid h
  have HD := Lib.hid hd
  have hx : (x != 0) = true := by have := decF_ne hd; simp [this]
  have hpos : (0 : Int) < (zs.length : Int) := by omega
  clear h hd
  go_enter Tryd.func8, Tryd.ntmps8
  go_wp2_with fail
  go_loopg [0, 4, 5] 1 (fun g bv l fu wr => bv = .slice A zs.length c ∧ l = .slice none 0 0 ∧ fu = .bool false ∧ wr = w)
  case atStart => exact ⟨rfl, rfl, rfl, rfl⟩
  case round =>
    obtain ⟨rfl, rfl, rfl, rfl⟩ := hrel
    go_wp2_with (go_at_call 16; refine (decode_any A zs.length c zs _ HB.out rfl hc hm hn hb).mono ?_; rintro e w1 hD; obtain ⟨b1, hm1⟩ := hD; rw [HD.out] at hm1; obtain rfl := hm1; have B1 := Lib.hid b1; clear b1)
    go_returns
    exact ⟨rfl, B1.out.alloc B1.out.size _⟩

set_option maxRecDepth 100000 in
set_option maxHeartbeats 600000 in
theorem sameFs_eq (A A' : Option Addr) (n c n' c' base base' : Nat) (cs ds : List FC) (w : World) (h : RowF w base (.slice A n c) cs) (h' : RowF w base' (.slice A' n' c') ds) (hm : cs.map FC.f = ds.map FC.f) :
    Calls Tryd.prog 9 #[.slice A n c, .slice A' n' c'] w fun e w' => e = .returned (.bool true) ∧ Below w.heap.size w w' := by
  have hl : ds.length = cs.length := by have := congrArg List.length hm; simpa using this.symm
  obtain ⟨_, _, e1, h1, h2⟩ := h.slice
  cases e1
  obtain ⟨_, _, e2, h3, h4⟩ := h'.slice
  cases e2
  rw [hl] at h' h3 ⊢
  have HR := Lib.hid h
  have HR' := Lib.hid h'
  have HM := Lib.hid hm
  have HL := Lib.hid hl
  unfold maxLen at h2 h4
  clear h h' hm hl
  go_enter Tryd.func9, Tryd.ntmps9
  go_wp2_with fail
  go_loopg [5, 6] cs.length (fun g okv i wr => ∃ k : Nat, k + g = cs.length ∧ i = .int .i64 k ∧ okv = .bool true ∧ Below w.heap.size w wr)
  case atStart => exact ⟨0, by omega, rfl, rfl, Below.refl _ _⟩
  case round =>
    obtain ⟨k, hk, rfl, rfl, hbw⟩ := hrel
    by_cases hlt : k < cs.length
    · have hlt' : k < ds.length := by rw [HL.out]; exact hlt
      obtain ⟨g, hA, hg, hcell⟩ := HR.out.cell (by omega)
      subst hA
      obtain ⟨g', hA', hg', hcell'⟩ := (show RowF w base' (.slice A' cs.length c') ds from HR'.out).cell (by omega)
      subst hA'
      have hmk : (cs.getD k fc0).f = (ds.getD k fc0).f := by
        have e := congrArg (fun l => l.getD k fc0.f) HM.out
        simpa [List.getD_eq_getElem?_getD, hlt, hlt'] using e
      have hok := HR.out.oks (cs.getD k fc0) (by rw [List.getD_eq_getElem?_getD, List.getElem?_eq_getElem hlt]; exact List.getElem_mem hlt)
      have hok' := HR'.out.oks (ds.getD k fc0) (by rw [List.getD_eq_getElem?_getD, List.getElem?_eq_getElem hlt']; exact List.getElem_mem hlt')
      obtain ⟨⟨f, ra, rc, da, dc⟩, hck⟩ : ∃ c, cs.getD k fc0 = c := ⟨_, rfl⟩
      obtain ⟨⟨f', ra', rc', da', dc'⟩, hdk⟩ : ∃ c, ds.getD k fc0 = c := ⟨_, rfl⟩
      rw [hck] at hmk hok
      rw [hdk] at hmk hok'
      obtain rfl : f = f' := hmk
      have HS : Hid (∀ x : Ext wr, Calls Tryd.prog 10 #[.agg (FC.arr ⟨f, ra, rc, da, dc⟩), .agg (FC.arr ⟨f, ra', rc', da', dc'⟩)] x.w fun e w' => e = .returned (.bool true) ∧ Below x.w.heap.size x.w w') := Lib.hid (fun x => (sameFrN_any _ _ f f x.w (hok.on (hbw.trans (x.h.mono hbw.size))).val (hok'.on (hbw.trans (x.h.mono hbw.size))).val).mono (fun e w' ⟨b, e1, h1, h2⟩ => ⟨by rw [e1, h1.2 rfl], h2⟩))
      have a0 := Ext.cell (W := wr) (p := ⟨g, k * 7, none⟩) ((hbw.cell hg).trans ((hcell k hlt 0 (by omega)).trans (by rw [hck]; rfl)))
      have d0 := Ext.cell (W := wr) (p := ⟨g', k * 7, none⟩) ((hbw.cell hg').trans ((hcell' k hlt' 0 (by omega)).trans (by rw [hdk]; rfl)))
      have a1 := Ext.cell (W := wr) (p := ⟨g, k * 7 + 1, none⟩) ((hbw.cell hg).trans ((hcell k hlt 1 (by omega)).trans (by rw [hck]; rfl)))
      have d1 := Ext.cell (W := wr) (p := ⟨g', k * 7 + 1, none⟩) ((hbw.cell hg').trans ((hcell' k hlt' 1 (by omega)).trans (by rw [hdk]; rfl)))
      have a2 := Ext.cell (W := wr) (p := ⟨g, k * 7 + 2, none⟩) ((hbw.cell hg).trans ((hcell k hlt 2 (by omega)).trans (by rw [hck]; rfl)))
      have d2 := Ext.cell (W := wr) (p := ⟨g', k * 7 + 2, none⟩) ((hbw.cell hg').trans ((hcell' k hlt' 2 (by omega)).trans (by rw [hdk]; rfl)))
      have a3 := Ext.cell (W := wr) (p := ⟨g, k * 7 + 3, none⟩) ((hbw.cell hg).trans ((hcell k hlt 3 (by omega)).trans (by rw [hck]; rfl)))
      have d3 := Ext.cell (W := wr) (p := ⟨g', k * 7 + 3, none⟩) ((hbw.cell hg').trans ((hcell' k hlt' 3 (by omega)).trans (by rw [hdk]; rfl)))
      have a4 := Ext.cell (W := wr) (p := ⟨g, k * 7 + 4, none⟩) ((hbw.cell hg).trans ((hcell k hlt 4 (by omega)).trans (by rw [hck]; rfl)))
      have d4 := Ext.cell (W := wr) (p := ⟨g', k * 7 + 4, none⟩) ((hbw.cell hg').trans ((hcell' k hlt' 4 (by omega)).trans (by rw [hdk]; rfl)))
      have a5 := Ext.cell (W := wr) (p := ⟨g, k * 7 + 5, none⟩) ((hbw.cell hg).trans ((hcell k hlt 5 (by omega)).trans (by rw [hck]; rfl)))
      have d5 := Ext.cell (W := wr) (p := ⟨g', k * 7 + 5, none⟩) ((hbw.cell hg').trans ((hcell' k hlt' 5 (by omega)).trans (by rw [hdk]; rfl)))
      have a6 := Ext.cell (W := wr) (p := ⟨g, k * 7 + 6, none⟩) ((hbw.cell hg).trans ((hcell k hlt 6 (by omega)).trans (by rw [hck]; rfl)))
      have d6 := Ext.cell (W := wr) (p := ⟨g', k * 7 + 6, none⟩) ((hbw.cell hg').trans ((hcell' k hlt' 6 (by omega)).trans (by rw [hdk]; rfl)))
      have BW := Lib.hid hbw
      clear hcell hcell' hok hok' hck hdk hbw
      go_wp2_with fail
      refine wp_region_ext (by kernel_rfl) (by kernel_rfl) ?_
      repeat (go_big_quiet_step ((go_at_call 10; exact Ext.call (HS.out _))))
      refine wpQuiet_nil ?_
      intro w3 hb3
      clear a0 d0 a1 d1 a2 d2 a3 d3 a4 d4 a5 d5 a6 d6
      have B3 := Lib.hid (BW.out.trans (hb3.mono BW.out.size))
      clear hb3
      go_wp2_with fail
      go_roundg (gk - 1)
      case measure => omega
      case rel => exact ⟨k + 1, by omega, by go_num, rfl, B3.out⟩
    · have hkl : k = cs.length := by omega
      subst hkl
      go_wp2_with fail
      go_ret
      exact ⟨rfl, hbw⟩
end Go.Proofs.YtjeocggocloigabDoor
