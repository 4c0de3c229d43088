/- What a closure that puts pieces into its list does: the list in a variable, its rows behind it. Nothing of the program's but the piece's shape. -/
import Derived.Test.YtippenbfoaohoaaPcRow2
import Derived.Test.YtippenbfoaohoaaGaTog
namespace Go.Proofs.Ytippenbfoaohoaa
set_option linter.unusedVariables false
open Go.RowKit P

/-- the list that the closure has: a variable of its own, its rows behind it -/
structure TL (w : World) (K : Nat) (cs : List PC) : Prop where
  ex : ∃ lv, w.heap[K]? = some (.cells #[lv] 22 (0, 0)) ∧ RowP w (K + 1) lv cs
theorem TL.below {w w' : World} {K : Nat} {cs : List PC} (h : TL w K cs) (hb : Below w.heap.size w w') : TL w' K cs := by
  obtain ⟨lv, h1, h2⟩ := h.ex
  exact ⟨lv, (hb.block _ (lt_of_block h1)).trans h1, h2.below hb⟩
theorem TL.lt {w : World} {K : Nat} {cs : List PC} (h : TL w K cs) : K < w.heap.size := by
  obtain ⟨lv, h1, h2⟩ := h.ex
  exact lt_of_block h1
/-- a row of bytes of the call's own, not below a block -/
structure OwnAt (w : World) (base B : Nat) (u : Value) (ds : List Int) : Prop where
  ex : ∃ A c, u = .slice A ds.length c
  own : w.ownsRow base 5 1 u ds.length (ds.map (.int .u8))
  lo : ∀ g, u.ownBlock = some g → B ≤ g
  byt : Byt ds
theorem OwnAt.on {w w' : World} {base B : Nat} {u : Value} {ds : List Int} (h : OwnAt w base B u ds) (hb : Below w.heap.size w w') : OwnAt w' base B u ds :=
  ⟨h.ex, World.ownsRow.kept h.own (⟨hb.os, hb.tape, hb.output, hb.size, fun k hk _ => hb.block k hk⟩ : w.grownBy w' none) (none_or u), h.lo, h.byt⟩
theorem OwnAt.mk' {w : World} {b B B' : Nat} {u : Value} {ds : List Int} (o : w.ownsRow B' 5 1 u ds.length (ds.map (.int .u8))) (hb : b ≤ B') (hB : B ≤ B') (hz : Byt ds) : OwnAt w b B u ds := by
  obtain ⟨A, c, e, _, _⟩ := own_slice o
  exact ⟨⟨A, c, e⟩, own_base o hb, fun g hg => Nat.le_trans hB (own_lt o g hg), hz⟩
theorem wpList_pushC (w : World) {ops : Array Oper} {rest : List Oper} {o : Oper} {a : Act} {Q : Exit → Act → World → Prop} (hgd : o.guard = none) (s x : Operand)
    (ho : o.op = .call { callee := .builtin .append, args := #[s, x], argTypes := #[22, 22] })
    (base : Nat) (v : Value) (cs : List PC) (hs : a.eval s = v) (h : RowP w base v cs) (off : Int) (u : Value) (ds : List Int) (b k B : Nat) (hx : a.eval x = .slice (some ⟨b, 0, none⟩) 1 k) (hb : w.heap[b]? = some (.cells #[.int .i64 off, u] 55 (0, 0)))
    (hu : OwnAt w base B u ds) (hap : ∀ q ∈ cs, q.val.ownBlock = none ∨ q.val.ownBlock ≠ u.ownBlock) (hn : cs.length ≤ 1000) (hbase : base ≤ w.heap.size)
    (hK : ∀ v' w' (p : PC), p.pc = (off, ds) → p.val = u → (v'.ownBlock = v.ownBlock ∨ v'.ownBlock = some w.heap.size) → RowP w' base v' (cs ++ [p]) → w.grownBy w' v.ownBlock → wpList Try.prog ops Q rest (a.put o.dst v') w') :
    wpList Try.prog ops Q (o :: rest) a w := by
  refine wpList_plain hgd fun K hK2 => ?_
  obtain ⟨i0, hi0, hz0, hz1, hz2⟩ := info_parts infoPc
  obtain ⟨A, c, rfl⟩ := hu.ex
  have e : cellsP [⟨off, ds, A, c⟩] = [.int .i64 off, .slice A ds.length c] := by simp [cellsP, PC.arr]
  have hnew : ∀ j z, (cellsP [⟨off, ds, A, c⟩])[j]? = some z → w.cell? ((⟨b, 0, none⟩ : Addr).add j) = some z := by
    intro j z hj
    rw [e] at hj
    rw [add_plain2, Nat.zero_add, bk_cell hb]
    simpa using hj
  obtain ⟨v', w', hrun, h2, h3, _, h4⟩ := run_append_own_at (P := Try.prog) (w := w) base 22 o.type 55 i0 _ 2 32 Try.underlying22 hi0 hz0 hz1 hz2 (by rfl) (by decide) v cs.length (cellsP cs) h.own ⟨b, 0, none⟩ 1 k (cellsP [⟨off, ds, A, c⟩]) rfl hnew (cellsP_one _) (by unfold maxLen; omega) (by omega) hbase
  unfold Oper.wp execOp
  simp only [ho, resolve, invoke, builtin, Sem.run_bind, Sem.run_pure, Result.andThen_ok, List.map_toArray, List.map_cons, List.map_nil, hs, hx, hrun]
  exact hK2 _ _ (hK v' w' ⟨off, ds, A, c⟩ rfl rfl h4 (h.pushC ⟨hu.own, hu.byt⟩ hap h2 h3) h3)
/-- at a step of a region that draws its order -/
theorem step_pushC (w : World) {ops : Array Oper} {o : Oper} {a : Act} {K : Act → World → Prop} {Q : Exit → Act → World → Prop} {E : Prop} (hgd : o.guard = none) (s x : Operand)
    (ho : o.op = .call { callee := .builtin .append, args := #[s, x], argTypes := #[22, 22] })
    (base : Nat) (v : Value) (cs : List PC) (hs : a.eval s = v) (h : RowP w base v cs) (off : Int) (u : Value) (ds : List Int) (b k B : Nat) (hx : a.eval x = .slice (some ⟨b, 0, none⟩) 1 k) (hb : w.heap[b]? = some (.cells #[.int .i64 off, u] 55 (0, 0)))
    (hu : OwnAt w base B u ds) (hap : ∀ q ∈ cs, q.val.ownBlock = none ∨ q.val.ownBlock ≠ u.ownBlock) (hn : cs.length ≤ 1000) (hbase : base ≤ w.heap.size)
    (hK : ∀ v' w' (p : PC), p.pc = (off, ds) → p.val = u → (v'.ownBlock = v.ownBlock ∨ v'.ownBlock = some w.heap.size) → RowP w' base v' (cs ++ [p]) → w.grownBy w' v.ownBlock → K (a.put o.dst v') w') :
    if Region.wanted o (yielded ops a.tmps) = true then Oper.wp Try.prog o a w K Q else E := by
  rw [if_pos (by simp [Region.wanted, hgd])]
  obtain ⟨i0, hi0, hz0, hz1, hz2⟩ := info_parts infoPc
  obtain ⟨A, c, rfl⟩ := hu.ex
  have e : cellsP [⟨off, ds, A, c⟩] = [.int .i64 off, .slice A ds.length c] := by simp [cellsP, PC.arr]
  have hnew : ∀ j z, (cellsP [⟨off, ds, A, c⟩])[j]? = some z → w.cell? ((⟨b, 0, none⟩ : Addr).add j) = some z := by
    intro j z hj
    rw [e] at hj
    rw [add_plain2, Nat.zero_add, bk_cell hb]
    simpa using hj
  obtain ⟨v', w', hrun, h2, h3, _, h4⟩ := run_append_own_at (P := Try.prog) (w := w) base 22 o.type 55 i0 _ 2 32 Try.underlying22 hi0 hz0 hz1 hz2 (by rfl) (by decide) v cs.length (cellsP cs) h.own ⟨b, 0, none⟩ 1 k (cellsP [⟨off, ds, A, c⟩]) rfl hnew (cellsP_one _) (by unfold maxLen; omega) (by omega) hbase
  unfold Oper.wp execOp
  simp only [ho, resolve, invoke, builtin, Sem.run_bind, Sem.run_pure, Result.andThen_ok, List.map_toArray, List.map_cons, List.map_nil, hs, hx, hrun]
  exact hK v' w' ⟨off, ds, A, c⟩ rfl rfl h4 (h.pushC ⟨hu.own, hu.byt⟩ hap h2 h3) h3
theorem step_app {P : Program} (w : World) {ops : Array Oper} {o : Oper} {a : Act} {K : Act → World → Prop} {Q : Exit → Act → World → Prop} {E : Prop} (hgd : o.guard = none) (s x : Operand) (t : TypeId)
    (ho : o.op = .call { callee := .builtin .append, args := #[s, x], argTypes := #[t, t] })
    (base : Nat) (e : TypeId) (i : TypeInfo) (ht : P.underlying t = some (.slice e)) (hi : P.info? e = some i) (hz : i.zero = some (.int .u8 0)) (hsize : i.size = 1) (hby : i.bytes = 1)
    (v : Value) (n : Nat) (xs : List Value) (hs : a.eval s = v) (hown : w.ownsRow base e 1 v n xs) (B : Nat) (A : Option Addr) (m c : Nat) (zs : List Int) (hx : a.eval x = .slice A m c) (hr : BRow w B A zs) (hm : zs.length = m) (hc : A = none → c = 0)
    (hbytes : n + m ≤ 140737488355328) (hbase : base ≤ w.heap.size)
    (h : ∀ v' w', w'.ownsRow base e 1 v' (n + m) (xs ++ zs.map (.int .u8)) → w.grownBy w' v.ownBlock → (v'.ownBlock = v.ownBlock ∨ v'.ownBlock = some w.heap.size) → K (a.put o.dst v') w') :
    if Region.wanted o (yielded ops a.tmps) = true then Oper.wp P o a w K Q else E := by
  rw [if_pos (by simp [Region.wanted, hgd])]
  obtain ⟨v', w', hrun, h2, h3, h4⟩ := run_app (P := P) w base t o.type e i ht hi hz hsize hby v n xs hown B A m c zs hr hm hc hbytes hbase
  unfold Oper.wp execOp
  simp only [ho, resolve, invoke, builtin, Sem.run_bind, Sem.run_pure, Result.andThen_ok, List.map_toArray, List.map_cons, List.map_nil, hs, hx, hrun]
  exact h v' w' h2 h3 h4
/-- a block that is none of the list's -/
structure Far (w : World) (K : Nat) (cs : List PC) (j : Nat) : Prop where
  ne : j ≠ K
  row : ∀ lv, w.heap[K]? = some (.cells #[lv] 22 (0, 0)) → lv.ownBlock ≠ some j
  pcs : ∀ p ∈ cs, p.val.ownBlock ≠ some j
/-- the list that came of it, not yet laid into its variable -/
structure PutAt (W0 : World) (K : Nat) (cs0 : List PC) (R : List Pc) (x : Value) (w : World) : Prop where
  ex : ∃ cs lv, RowP w (K + 1) x cs ∧ cs.map PC.pc = R ∧ Below K W0 w ∧ w.heap[K]? = some (.cells #[lv] 22 (0, 0)) ∧
    ∀ j, j < W0.heap.size → Far W0 K cs0 j → w.heap[j]? = W0.heap[j]? ∧ x.ownBlock ≠ some j ∧ ∀ p ∈ cs, p.val.ownBlock ≠ some j
structure PutEnd (W0 : World) (K : Nat) (cs0 : List PC) (R : List Pc) (w : World) : Prop where
  ex : ∃ cs, TL w K cs ∧ cs.map PC.pc = R ∧ Below K W0 w ∧ ∀ j, j < W0.heap.size → Far W0 K cs0 j → w.heap[j]? = W0.heap[j]? ∧ Far w K cs j
theorem PutAt.store {W0 : World} {K : Nat} {cs0 : List PC} {R : List Pc} {x : Value} {w : World} (h : PutAt W0 K cs0 R x w) : PutEnd W0 K cs0 R (w.setCell ⟨K, 0, none⟩ x) := by
  obtain ⟨cs, lv, h1, h2, h3, h4, h5⟩ := h.ex
  have s := gr_set w K 0 x
  have hk : (w.setCell ⟨K, 0, none⟩ x).heap[K]? = some (.cells #[x] 22 (0, 0)) := by simpa using bk_set h4 0 x
  refine ⟨cs, ⟨x, hk, h1.keptB s (by omega)⟩, h2, gr_from h3 (Nat.le_of_lt (lt_of_block h4)) (Nat.le_refl _) s, fun j hj hf => ?_⟩
  obtain ⟨f1, f2, f3⟩ := h5 j hj hf
  have hne := hf.ne
  have hjw : j < w.heap.size := by
    rcases Nat.lt_or_ge j w.heap.size with q | q
    · exact q
    · rw [Array.getElem?_eq_none q, Array.getElem?_eq_getElem hj] at f1; cases f1
  refine ⟨(s.block j hjw (fun e => hne (by cases e; rfl))).trans f1, hne, fun lv2 hl => ?_, f3⟩
  rw [hk] at hl
  cases hl
  exact f2
theorem PutAt.facts {W0 : World} {K : Nat} {cs0 : List PC} {R : List Pc} {x : Value} {w : World} (h : PutAt W0 K cs0 R x w) : ∃ lv, w.cell? ⟨K, 0, none⟩ = some lv ∧ w.frozen? ⟨K, 0, none⟩ = false := by
  obtain ⟨cs, lv, h1, h2, h3, h4, _⟩ := h.ex
  exact ⟨lv, bk_cell h4 0, bk_frz h4 0⟩
theorem PutAt.slice {W0 : World} {K : Nat} {cs0 : List PC} {R : List Pc} {x : Value} {w : World} (h : PutAt W0 K cs0 R x w) : ∃ A n c, x = .slice A n c := by
  obtain ⟨cs, lv, h1, _⟩ := h.ex
  obtain ⟨A, c, e, _⟩ := h1.slice
  exact ⟨A, _, c, e⟩
theorem PutAt.pushed {W0 w w' : World} {K : Nat} {cs : List PC} {lv v : Value} {p : PC} {x : Pc} (hp : p.pc = x) (hr : RowP w' (K + 1) v (cs ++ [p])) (g : w.grownBy w' lv.ownBlock) (hv : v.ownBlock = lv.ownBlock ∨ v.ownBlock = some w.heap.size) (hpv : ∀ g, p.val.ownBlock = some g → W0.heap.size ≤ g)
    (hb : Below W0.heap.size W0 w) (hk0 : W0.heap[K]? = some (.cells #[lv] 22 (0, 0))) (hl : ∀ g, lv.ownBlock = some g → K + 1 ≤ g ∧ g < w.heap.size) : PutAt W0 K cs (cs.map PC.pc ++ [x]) v w' := by
  have hk := (hb.block _ (lt_of_block hk0)).trans hk0
  have hbs := hb.size
  refine ⟨cs ++ [p], lv, hr, by rw [List.map_append, ← hp]; rfl, (hb.mono (Nat.le_of_lt (lt_of_block hk0))).grown g (Nat.le_of_lt (lt_of_block hk)) (fun j hj => by have := (hl j hj).1; omega), (g.block _ (lt_of_block hk) (fun e => by have := (hl K e.symm).1; omega)).trans hk, fun j hj hf => ?_⟩
  have hr0 := hf.row lv hk0
  refine ⟨(g.block j (by omega) (fun e => hr0 e.symm)).trans (hb.block j hj), fun e => ?_, fun q hq => ?_⟩
  · rcases hv with e2 | e2
    · exact hr0 (e2 ▸ e)
    · rw [e2] at e; cases e; omega
  · rcases List.mem_append.1 hq with hq | hq
    · exact hf.pcs q hq
    · obtain rfl : q = p := by simpa using hq
      intro e
      have := hpv j e
      omega
/-- more bytes, not yet laid into the row's last piece -/
structure MoreAt (W0 : World) (K g o : Nat) (cs0 : List PC) (R : List Pc) (x : Value) (w : World) : Prop where
  fin : PutEnd W0 K cs0 R (w.setCell ⟨g, o, none⟩ x)
  ex : ∃ z, w.cell? ⟨g, o, none⟩ = some z ∧ w.frozen? ⟨g, o, none⟩ = false
  slice : ∃ A n c, x = .slice A n c
theorem MoreAt.mk' {W0 w w1 : World} {K g cap n : Nat} {qs : List PC} {q : PC} {ds : List Int} {u : Value} (hk0 : W0.heap[K]? = some (.cells #[.slice (some ⟨g, 0, none⟩) n cap] 22 (0, 0))) (h : RowP w (K + 1) (.slice (some ⟨g, 0, none⟩) n cap) (qs ++ [q])) (hbf : Below W0.heap.size W0 w) (hz : Byt ds)
    (own : w1.ownsRow (K + 1) 5 1 u (q.zs.length + ds.length) (q.zs.map (.int .u8) ++ ds.map (.int .u8))) (gr : w.grownBy w1 q.val.ownBlock) (hd : u.ownBlock = q.val.ownBlock ∨ u.ownBlock = some w.heap.size) : MoreAt W0 K g (qs.length * 2 + 1) (qs ++ [q]) (qs.map PC.pc ++ [(q.off, q.zs ++ ds)]) u w1 := by
  have hk := (hbf.block _ (lt_of_block hk0)).trans hk0
  have hb := hbf.mono (Nat.le_of_lt (lt_of_block hk0))
  have hbs := hbf.size
  obtain ⟨A, c, rfl, _, _⟩ := own_slice own
  have hp := h.oks q (by simp)
  have hgK := h.lt g rfl
  have e : (PC.mk q.off (q.zs ++ ds) A c).val = .slice A (q.zs.length + ds.length) c := by simp [PC.val]
  obtain ⟨m1, m2⟩ := h.moreL (q := PC.mk q.off (q.zs ++ ds) A c) hz rfl rfl (by rw [e]; simpa using own) gr (by rw [e]; exact hd.imp id (fun k => ⟨_, k, Nat.le_refl _⟩))
  rw [e] at m1 m2
  have hk1 := (gr.block _ (lt_of_block hk) (fun e => by have := own_lt hp.own K e.symm; omega)).trans hk
  have hb1 : Below K W0 w1 := hb.grown gr (Nat.le_of_lt (lt_of_block hk)) (fun j hj => by have := own_lt hp.own j hj; omega)
  obtain ⟨gb, capb, hv, _, _, _, hb4, hbc⟩ := h.at_ (by simp)
  injection hv with hv1 hv2 hv3
  injection hv1 with hv1
  injection hv1 with hv1
  subst hv1
  obtain ⟨_, xc, fz⟩ := hbc qs.length (by simp)
  have kb : w1.heap[g]? = w.heap[g]? := gr.block g hb4 (fun e => by
    rcases own_apart hp.own h.own (by decide) with k | k
    · rw [k] at e; cases e
    · exact k e.symm)
  have hk2 := (m2.block _ (lt_of_block hk1) (fun e => by cases e; omega)).trans hk1
  refine ⟨⟨qs ++ [PC.mk q.off (q.zs ++ ds) A c], ⟨_, hk2, m1⟩, by simp [PC.pc], gr_from hb1 (Nat.le_of_lt (lt_of_block hk1)) (by omega) m2, fun j hj hf => ?_⟩, ⟨_, by simp only [World.cell?, kb]; exact xc, by simp only [World.frozen?, kb]; exact fz⟩, ⟨_, _, _, rfl⟩⟩
  have hr0 : g ≠ j := fun e => hf.row _ hk0 (by rw [e]; rfl)
  have hq0 := hf.pcs q (by simp)
  refine ⟨(m2.block j (Nat.lt_of_lt_of_le (Nat.lt_of_lt_of_le hj hbs) gr.size) (fun e => hr0 (by cases e; rfl))).trans ((gr.block j (by omega) (fun e => hq0 e.symm)).trans (hbf.block j hj)), hf.ne, fun lv hl => ?_, fun p hp2 => ?_⟩
  · rw [hk2] at hl
    cases hl
    exact fun e => hr0 (by cases e; rfl)
  · rcases List.mem_append.1 hp2 with hp2 | hp2
    · exact hf.pcs p (by simp [hp2])
    · obtain rfl : p = _ := by simpa using hp2
      rw [e]
      intro e9
      rcases hd with e2 | e2
      · exact hq0 (e2 ▸ e9)
      · rw [e2] at e9; cases e9; omega
end Go.Proofs.Ytippenbfoaohoaa
