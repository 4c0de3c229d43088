/- Rows of pieces of the call's own: two cells each, their bytes in rows of the call's own elsewhere. Nothing of the program's but the piece's shape. -/
import Derived.Test.YtippenbfoaohoaaGaVal
import Derived.Test.YtippenbfoaohoaaApp
import Derived.Test.YtippenbfoaohoaaOwnB
import Derived.Test.YtippenbfoaohoaaMem
import Derived.Maps.AppendAt
namespace Go.Proofs.Ytippenbfoaohoaa
set_option linter.unusedVariables false
open Go.RowKit P

/-- a piece and where its bytes lie -/
structure PC where
  off : Int
  zs : List Int
  a : Option Addr
  c : Nat
def PC.val (p : PC) : Value := .slice p.a p.zs.length p.c
def PC.arr (p : PC) : Array Value := #[.int .i64 p.off, .slice p.a p.zs.length p.c]
def PC.pc (p : PC) : Pc := (p.off, p.zs)
def pcz : PC := ⟨0, [], none, 0⟩
def cellsP (cs : List PC) : List Value := cs.flatMap fun c => c.arr.toList
theorem cellsP_len (cs : List PC) : (cellsP cs).length = cs.length * 2 := by
  induction cs with
  | nil => rfl
  | cons c cs ih => simp only [cellsP, PC.arr, List.flatMap_cons, List.length_append, List.length_cons, List.length_nil] at ih ⊢; omega
theorem cellsP_app (cs ds : List PC) : cellsP (cs ++ ds) = cellsP cs ++ cellsP ds := by simp [cellsP]
theorem cellsP_at (cs : List PC) (j : Nat) (h : j < cs.length) : (cellsP cs)[j * 2]? = some (.int .i64 (cs.getD j pcz).off) ∧ (cellsP cs)[j * 2 + 1]? = some (cs.getD j pcz).val := by
  induction cs generalizing j with
  | nil => simp at h
  | cons p ps ih =>
    have e : cellsP (p :: ps) = .int .i64 p.off :: p.val :: cellsP ps := rfl
    cases j with
    | zero => rw [e]; exact ⟨rfl, rfl⟩
    | succ j =>
      have := ih j (by simpa using h)
      rw [e, show (j + 1) * 2 = j * 2 + 1 + 1 from by omega]
      simpa using this
theorem cellsP_one (cs : List PC) : ∀ u ∈ cellsP cs, u.oneCell' = true := by
  intro u hu
  obtain ⟨c, _, hc⟩ := List.mem_flatMap.1 hu
  simp only [PC.arr, List.mem_cons, List.not_mem_nil, or_false] at hc
  rcases hc with rfl | rfl <;> rfl
/-- its bytes lie in a row of the call's own -/
structure PC.ok (p : PC) (w : World) (base : Nat) : Prop where
  own : w.ownsRow base 5 1 p.val p.zs.length (p.zs.map (.int .u8))
  byt : Byt p.zs
/-- v owns the pieces cs, in a block of its own from 'base' on; their bytes too, each in another block -/
structure RowP (w : World) (base : Nat) (v : Value) (cs : List PC) : Prop where
  own : w.ownsRow base 55 2 v cs.length (cellsP cs)
  oks : ∀ p ∈ cs, p.ok w base
  apart : cs.Pairwise fun p q => p.val.ownBlock = none ∨ p.val.ownBlock ≠ q.val.ownBlock
theorem RowP.nil (w : World) (base : Nat) : RowP w base (.slice none 0 0) [] := ⟨⟨rfl, .inl ⟨rfl, rfl⟩⟩, fun c h => (by cases h), List.Pairwise.nil⟩
/-- an own row's block is of its own type -/
theorem own_typ {w : World} {base e size n : Nat} {v : Value} {xs : List Value} (h : w.ownsRow base e size v n xs) {g : Nat} (hg : v.ownBlock = some g) : ∃ cur, w.heap[g]? = some (.cells cur e (0, 0)) := by
  rcases h.2 with ⟨rfl, _⟩ | ⟨g', cap, cur, rfl, _, hh, _⟩
  · cases hg
  · have : g' = g := by simpa [Value.ownBlock] using hg
    subst this
    exact ⟨cur, hh⟩
/-- so two of two types lie apart -/
theorem own_apart {w : World} {b1 b2 e1 e2 s1 s2 n1 n2 : Nat} {v1 v2 : Value} {x1 x2 : List Value} (h1 : w.ownsRow b1 e1 s1 v1 n1 x1) (h2 : w.ownsRow b2 e2 s2 v2 n2 x2) (he : e1 ≠ e2) : v1.ownBlock = none ∨ v1.ownBlock ≠ v2.ownBlock := by
  cases hv : v1.ownBlock with
  | none => exact .inl rfl
  | some g =>
    refine .inr fun e => ?_
    obtain ⟨c1, q1⟩ := own_typ h1 hv
    obtain ⟨c2, q2⟩ := own_typ h2 e.symm
    rw [q1] at q2
    cases q2
    exact he rfl
theorem PC.ok.kept {p : PC} {w w' : World} {base : Nat} {r : Option Nat} (h : p.ok w base) (g : w.grownBy w' r) (hr : p.val.ownBlock = none ∨ p.val.ownBlock ≠ r) : p.ok w' base := ⟨World.ownsRow.kept h.own g hr, h.byt⟩
theorem RowP.kept {w w' : World} {base : Nat} {v : Value} {cs : List PC} {r : Option Nat} (h : RowP w base v cs) (g : w.grownBy w' r) (hv : v.ownBlock = none ∨ v.ownBlock ≠ r) (ho : ∀ p ∈ cs, p.val.ownBlock = none ∨ p.val.ownBlock ≠ r) : RowP w' base v cs :=
  ⟨World.ownsRow.kept h.own g hv, fun p hp => (h.oks p hp).kept g (ho p hp), h.apart⟩
theorem none_or (v : Value) : v.ownBlock = none ∨ v.ownBlock ≠ none := by cases v.ownBlock with | none => exact .inl rfl | some k => exact .inr (by simp)
theorem RowP.grown {w w' : World} {base : Nat} {v : Value} {cs : List PC} (h : RowP w base v cs) (g : w.grownBy w' none) : RowP w' base v cs := h.kept g (none_or v) (fun p _ => none_or p.val)
theorem RowP.drew {w : World} {base : Nat} {v : Value} {cs : List PC} (h : RowP w base v cs) : RowP w.drew base v cs := h.grown ⟨rfl, rfl, rfl, Nat.le_refl _, fun _ _ _ => rfl⟩
theorem RowP.alloc {w : World} {base : Nat} {v : Value} {cs : List PC} (h : RowP w base v cs) (o : Obj) : RowP (w.alloc o) base v cs := h.grown (World.grownBy_alloc w o none)
theorem RowP.slice {w : World} {base : Nat} {v : Value} {cs : List PC} (h : RowP w base v cs) : ∃ A c, v = .slice A cs.length c ∧ cs.length ≤ c ∧ c ≤ maxLen := by
  rcases h.own.2 with ⟨rfl, h0⟩ | ⟨g, cap, cur, rfl, _, _, h1, h2, _⟩
  · rw [h0]
    exact ⟨none, 0, rfl, Nat.le_refl _, by unfold maxLen; omega⟩
  · exact ⟨_, _, rfl, h1, h2⟩
theorem RowP.lt {w : World} {base : Nat} {v : Value} {cs : List PC} (h : RowP w base v cs) : ∀ g, v.ownBlock = some g → base ≤ g ∧ g < w.heap.size := fun g hg => World.ownsRow.lt h.own g hg
/-- a piece without bytes, appended -/
theorem RowP.push {w w' : World} {base : Nat} {v v' : Value} {cs : List PC} {x : Int} (h : RowP w base v cs) (own : w'.ownsRow base 55 2 v' (cs.length + 1) (cellsP cs ++ cellsP [⟨x, [], none, 0⟩])) (g : w.grownBy w' v.ownBlock) : RowP w' base v' (cs ++ [⟨x, [], none, 0⟩]) := by
  refine ⟨?_, fun p hp => ?_, List.pairwise_append.2 ⟨h.apart, List.pairwise_singleton _ _, fun p hp q hq => ?_⟩⟩
  · rw [List.length_append, cellsP_app]
    exact own
  · rcases List.mem_append.1 hp with hp | hp
    · exact (h.oks p hp).kept g (by
        rcases own_apart (h.oks p hp).own h.own (by decide) with e | e
        · exact .inl e
        · exact .inr e)
    · obtain rfl : p = ⟨x, [], none, 0⟩ := by simpa using hp
      exact ⟨⟨rfl, .inl ⟨rfl, rfl⟩⟩, Byt.nil⟩
  · obtain rfl : q = ⟨x, [], none, 0⟩ := by simpa using hq
    exact none_or p.val
theorem cellsP_set (cs : List PC) (p q : PC) (hq : q.off = p.off) : (cellsP (cs ++ [p])).set (cs.length * 2 + 1) q.val = cellsP (cs ++ [q]) := by
  rw [cellsP_app, cellsP_app, List.set_append, if_neg (by rw [cellsP_len]; omega), cellsP_len, show cs.length * 2 + 1 - cs.length * 2 = 1 by omega]
  simp [cellsP, PC.arr, PC.val, hq]
/-- where the row lies -/
theorem RowP.at_ {w : World} {base : Nat} {v : Value} {cs : List PC} (h : RowP w base v cs) (hn : 0 < cs.length) : ∃ g cap, v = .slice (some ⟨g, 0, none⟩) cs.length cap ∧ cs.length ≤ cap ∧ cap ≤ maxLen ∧ base ≤ g ∧ g < w.heap.size ∧ ∀ j, j < cs.length → w.cell? ⟨g, j * 2, none⟩ = some (.int .i64 (cs.getD j pcz).off) ∧ w.cell? ⟨g, j * 2 + 1, none⟩ = some (cs.getD j pcz).val ∧ w.frozen? ⟨g, j * 2 + 1, none⟩ = false := by
  have h' := h.own
  rcases h.own.2 with ⟨rfl, h0⟩ | ⟨g, cap, cur, rfl, hb, hh, h1, h2, _⟩
  · omega
  · refine ⟨g, cap, rfl, h1, h2, hb, lt_of_block hh, fun j hj => ?_⟩
    have hat := cellsP_at cs j hj
    refine ⟨?_, ?_, h'.frozenAt _⟩
    · rw [h'.cellAt (j * 2) (by omega)]; exact hat.1
    · rw [h'.cellAt (j * 2 + 1) (by omega)]; exact hat.2
/-- one more byte on the last piece: appended, then laid into the row -/
theorem RowP.more {w w1 : World} {base g cap n A' c' : Nat} {cs : List PC} {p q : PC} {z : Int} (h : RowP w base (.slice (some ⟨g, 0, none⟩) n cap) (cs ++ [p])) (hz : 0 ≤ z ∧ z ≤ 255) (hq : q.off = p.off) (hqz : q.zs = p.zs ++ [z])
    (own : w1.ownsRow base 5 1 q.val q.zs.length (q.zs.map (.int .u8))) (gr : w.grownBy w1 p.val.ownBlock) (hd : q.val.ownBlock = p.val.ownBlock ∨ ∃ k, q.val.ownBlock = some k ∧ w.heap.size ≤ k) :
    RowP (w1.setCell ⟨g, cs.length * 2 + 1, none⟩ q.val) base (.slice (some ⟨g, 0, none⟩) n cap) (cs ++ [q]) ∧ w1.grownBy (w1.setCell ⟨g, cs.length * 2 + 1, none⟩ q.val) (some g) := by
  have hp := h.oks p (by simp)
  have hv : w1.ownsRow base 55 2 (.slice (some ⟨g, 0, none⟩) n cap) (cs ++ [p]).length (cellsP (cs ++ [p])) := World.ownsRow.kept h.own gr (own_apart h.own hp.own (by decide))
  have hn : n = (cs ++ [p]).length := by
    rcases h.own.2 with ⟨e, _⟩ | ⟨g', cap', cur, e, _⟩
    · cases e
    · injection e
  subst hn
  obtain ⟨s1, s2⟩ := hv.stored (cs.length * 2 + 1) q.val
  rw [cellsP_set cs p q hq] at s1
  have apq := List.pairwise_append.1 h.apart
  refine ⟨⟨by rw [show (cs ++ [q]).length = (cs ++ [p]).length by simp]; exact s1, fun c hc => ?_, List.pairwise_append.2 ⟨apq.1, List.pairwise_singleton _ _, fun c hc d hd' => ?_⟩⟩, s2⟩
  · rcases List.mem_append.1 hc with hc | hc
    · have k1 := (h.oks c (by simp [hc])).kept gr (apq.2.2 c hc p (by simp))
      exact k1.kept s2 (own_apart k1.own hv (by decide))
    · obtain rfl : c = q := by simpa using hc
      have k1 : c.ok w1 base := ⟨own, by rw [hqz]; exact hp.byt.append (byt1 hz)⟩
      exact k1.kept s2 (own_apart k1.own hv (by decide))
  · obtain rfl : d = q := by simpa using hd'
    rcases hd with e | ⟨k, e, hk⟩
    · rw [e]; exact apq.2.2 c hc p (by simp)
    · cases hcv : c.val.ownBlock with
      | none => exact .inl rfl
      | some j =>
        refine .inr fun e2 => ?_
        have := World.ownsRow.lt (h.oks c (by simp [hc])).own j hcv
        rw [e] at e2
        cases e2
        omega
/-- as a row that reads -/
theorem RowP.psl {w : World} {base : Nat} {v : Value} {cs : List PC} (h : RowP w base v cs) : PSl w w.heap.size v (cs.map PC.pc) := by
  obtain ⟨A, c, rfl, h1, h2⟩ := h.slice
  refine ⟨A, c, by rw [List.length_map], by rw [List.length_map]; exact h1, h2, fun hn => ?_⟩
  rw [List.length_map] at hn
  obtain ⟨g, cap, e, _, _, _, hg, hc⟩ := h.at_ hn
  cases e
  refine ⟨g, 0, rfl, hg, fun j hj => ?_⟩
  rw [List.length_map] at hj
  obtain ⟨c1, c2, _⟩ := hc j hj
  have e : (cs.map PC.pc).getD j pc0 = (cs.getD j pcz).pc := by
    rw [List.getD_eq_getElem?_getD, List.getElem?_map, List.getD_eq_getElem?_getD, List.getElem?_eq_getElem hj]; rfl
  have hm : cs.getD j pcz ∈ cs := by rw [List.getD_eq_getElem?_getD, List.getElem?_eq_getElem hj]; exact List.getElem_mem hj
  have ok := h.oks _ hm
  rw [e, Nat.zero_add]
  exact ⟨c1, _, c2, own_bsl ok.own ok.byt⟩
theorem infoPc : (Try.prog.info? 55).map (fun i => (i.zero, i.size, i.bytes)) = some (some (.agg #[.int .i64 0, .slice none 0 0]), 2, 32) := by kernel_rfl
theorem wpList_pushP (w : World) {ops : Array Oper} {rest : List Oper} {o : Oper} {a : Act} {Q : Exit → Act → World → Prop} (hgd : o.guard = none) (s x : Operand)
    (ho : o.op = .call { callee := .builtin .append, args := #[s, x], argTypes := #[22, 22] })
    (base : Nat) (v : Value) (cs : List PC) (hs : a.eval s = v) (h : RowP w base v cs) (b k : Nat) (y : Int) (hx : a.eval x = .slice (some ⟨b, 0, none⟩) 1 k) (hb : w.heap[b]? = some (.cells #[.int .i64 y, .slice none 0 0] 55 (0, 0)))
    (hn : cs.length ≤ 10000000) (hbase : base ≤ w.heap.size)
    (hK : ∀ v' w', RowP w' base v' (cs ++ [⟨y, [], none, 0⟩]) → w.grownBy w' v.ownBlock → wpList Try.prog ops Q rest (a.put o.dst v') w') :
    wpList Try.prog ops Q (o :: rest) a w := by
  refine wpList_plain hgd fun K hK2 => ?_
  obtain ⟨i0, hi0, hz0, hz1, hz2⟩ := info_parts infoPc
  have hnew : ∀ j u, (cellsP [⟨y, [], none, 0⟩])[j]? = some u → w.cell? ((⟨b, 0, none⟩ : Addr).add j) = some u := by
    intro j u hj
    have e : cellsP [⟨y, [], none, 0⟩] = [.int .i64 y, .slice none 0 0] := by simp [cellsP, PC.arr]
    rw [e] at hj
    rw [add_plain2, Nat.zero_add, bk_cell hb]
    simpa using hj
  obtain ⟨v', w', hrun, h2, h3, _, h4⟩ := run_append_own_at (P := Try.prog) (w := w) base 22 o.type 55 i0 _ 2 32 Try.underlying22 hi0 hz0 hz1 hz2 (by rfl) (by decide) v cs.length (cellsP cs) h.own ⟨b, 0, none⟩ 1 k (cellsP [⟨y, [], none, 0⟩]) rfl hnew (cellsP_one _) (by unfold maxLen; omega) (by omega) hbase
  unfold Oper.wp execOp
  simp only [ho, resolve, invoke, builtin, Sem.run_bind, Sem.run_pure, Result.andThen_ok, List.map_toArray, List.map_cons, List.map_nil, hs, hx, hrun]
  exact hK2 _ _ (hK v' w' (h.push h2 h3) h3)
end Go.Proofs.Ytippenbfoaohoaa
