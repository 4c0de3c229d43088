/- SenderGood: frames in a row of their own; what holds at the loop's head. Nothing of the program's but the shapes. -/
import Derived.Test.YtnccibaifffhhaaGrpSa
import Derived.Test.YtnccibaifffhhaaGrpB
import Derived.Test.YtnccibaifffhhaaSnGoodM
import Derived.Test.YtnccibaifffhhaaSnPiece
import Derived.Test.YtnccibaifffhhaaSnTells
import Derived.DataShut
namespace Go.Proofs.Ytnccibaifffhhaa
set_option linter.unusedVariables false
open Go.RowKit P

/-- a frame and where its rows lie -/
structure FE where
  f : Fr
  ra : Option Addr
  rc : Nat
  da : Option Addr
  dc : Nat
def feE : Lay FE where
  f := fun c => [.int .i64 c.f.kind, .int .i64 c.f.id, .int .i64 c.f.off, .bool c.f.fin, .int .i64 c.f.code, .slice c.ra c.f.rs.length c.rc, .slice c.da c.f.data.length c.dc]
  k := 7
  len := fun _ => rfl
  one := fun x u hu => by
    simp only [List.mem_cons, List.not_mem_nil, or_false] at hu
    rcases hu with rfl | rfl | rfl | rfl | rfl | rfl | rfl <;> rfl
  pos := by decide
def FE.v (c : FE) : Value := .agg #[.int .i64 c.f.kind, .int .i64 c.f.id, .int .i64 c.f.off, .bool c.f.fin, .int .i64 c.f.code, .slice c.ra c.f.rs.length c.rc, .slice c.da c.f.data.length c.dc]
theorem infoFE : (Try.prog.info? 35).map (fun i => (i.zero, i.size, i.bytes)) = some (some (.agg #[.int .i64 0, .int .i64 0, .int .i64 0, .bool false, .int .i64 0, .slice none 0 0, .slice none 0 0]), 7, 88) := by kernel_rfl
/-- a frame's value, split -/
theorem fr_fe {w : World} {B : Nat} {v : Value} {f : Fr} (h : FrVal w B v f) : ∃ c : FE, c.f = f ∧ v = c.v := by
  obtain ⟨Ar, cr, Ad, cd, rfl⟩ := fr_slices h
  exact ⟨⟨f, Ar, cr, Ad, cd⟩, rfl, rfl⟩
theorem SnF.toSt {w : World} {lo : Nat} {v : Value} {s : Sn} (h : SnF w lo v s) : StS w (fun j => j < lo) (fun w => SnVal w w.heap.size v s) := fun _ k => (h.on (keeps_kpS k)).now
theorem FrF.toSt {w : World} {lo : Nat} {v : Value} {f : Fr} (h : FrF w lo v f) : StS w (fun j => j < lo) (fun w => FrVal w w.heap.size v f) := fun w' k => by
  obtain ⟨r, d, e, h1, h2⟩ := h.ex
  exact ⟨r, d, e, (h1.on (keeps_kpS k)).now, (h2.on (keeps_kpS k)).now⟩
theorem snwfG {s : Sn} (ok : okSn s) (hm : s.mx ≤ 200) : SnWf s := by
  have hf := sn_few ok
  obtain ⟨k1, k2, k3, k4, k5, k6, k7, k8, k9, k10⟩ := ok
  exact ⟨by rw [Lit.wf_int_iff, show IntKind.i64.min = -9223372036854775808 by kernel_rfl, show IntKind.i64.max = 9223372036854775807 by kernel_rfl]; omega, by rw [Lit.wf_int_iff, show IntKind.i64.min = -9223372036854775808 by kernel_rfl, show IntKind.i64.max = 9223372036854775807 by kernel_rfl]; omega, by omega, by omega, by omega⟩
theorem snG0 : okSn sn0 := by decide
/-- what holds of the sender's variable and of the frames that were sent -/
structure SG (W0 w : World) (Ad Al Aa : Option Addr) (cd cl ca : Nat) (s : Sn) (sv : Value) (cs : List FE) : Prop where
  b : Below W0.heap.size W0 w
  blk : w.heap[W0.heap.size]? = some (.cells #[.slice Ad s.data.length cd, .bool s.fin, .int .i64 s.next, .int .i64 s.mx, .slice Al s.lost.length cl, .slice Aa s.acked.length ca, .bool s.ended, .bool s.over] 27 (0, 0))
  val : StS w (fun j => j = W0.heap.size ∨ sv.ownBlock = some j) (fun w => SnVal w w.heap.size (.agg #[.slice Ad s.data.length cd, .bool s.fin, .int .i64 s.next, .int .i64 s.mx, .slice Al s.lost.length cl, .slice Aa s.acked.length ca, .bool s.ended, .bool s.over]) s)
  ok : okSn s
  mx : s.mx ≤ 200
  own : OwnE feE w (W0.heap.size + 1) 35 sv cs
  frs : ∀ c ∈ cs, StS w (fun j => j = W0.heap.size ∨ sv.ownBlock = some j) (fun w => FrVal w w.heap.size c.v c.f)
def SntAll (s : Sn) (cs : List FE) : Prop := ∀ c ∈ cs, SentOk s c.f.off (c.f.data.length : Int) c.f.fin ∧ c.f.data.length ≤ 120
/-- a later world, in which nothing of it turned -/
theorem SG.on {W0 w w' : World} {Ad Al Aa : Option Addr} {cd cl ca : Nat} {s : Sn} {sv : Value} {cs : List FE} (h : SG W0 w Ad Al Aa cd cl ca s sv cs) (b : Below w.heap.size w w') : SG W0 w' Ad Al Aa cd cl ca s sv cs :=
  ⟨h.b.trans (b.mono h.b.size), (b.block _ (lt_of_block h.blk)).trans h.blk, h.val.later b, h.ok, h.mx, h.own.later b, fun c hc => (h.frs c hc).later b⟩
/-- the sender turns: an answer in new memory is laid in its place -/
theorem SG.put {W0 w w' : World} {Ad Al Aa Bd Bl Ba : Option Addr} {cd cl ca dd dl da : Nat} {s s' : Sn} {sv : Value} {cs : List FE} (h : SG W0 w Ad Al Aa cd cl ca s sv cs) (g : w.grownBy w' (some W0.heap.size))
    (hk : w'.heap[W0.heap.size]? = some (.cells #[.slice Bd s'.data.length dd, .bool s'.fin, .int .i64 s'.next, .int .i64 s'.mx, .slice Bl s'.lost.length dl, .slice Ba s'.acked.length da, .bool s'.ended, .bool s'.over] 27 (0, 0)))
    (hv : StS w (fun j => j = W0.heap.size ∨ sv.ownBlock = some j) (fun w => SnVal w w.heap.size (.agg #[.slice Bd s'.data.length dd, .bool s'.fin, .int .i64 s'.next, .int .i64 s'.mx, .slice Bl s'.lost.length dl, .slice Ba s'.acked.length da, .bool s'.ended, .bool s'.over]) s')) (ok : okSn s') (hm : s'.mx ≤ 200) : SG W0 w' Bd Bl Ba dd dl da s' sv cs :=
  ⟨h.b.grown g h.b.size (fun k e => by cases e; exact Nat.le_refl _), hk, hv.on (KpS.gr g (.inl rfl)), ok, hm, h.own.kept g (fun e => by have := (h.own.lt _ e).1; omega), fun c hc => (h.frs c hc).on (KpS.gr g (.inl rfl))⟩
/-- one frame more -/
theorem SG.push {W0 w w' : World} {Ad Al Aa : Option Addr} {cd cl ca : Nat} {s : Sn} {sv sv' : Value} {cs : List FE} {c : FE} (h : SG W0 w Ad Al Aa cd cl ca s sv cs) (own : OwnE feE w' (W0.heap.size + 1) 35 sv' (cs ++ [c])) (g : w.grownBy w' sv.ownBlock) (hs : sv'.ownBlock = sv.ownBlock ∨ sv'.ownBlock = some w.heap.size)
    (hc : StS w (fun j => j = W0.heap.size ∨ sv.ownBlock = some j) (fun w => FrVal w w.heap.size c.v c.f)) : SG W0 w' Ad Al Aa cd cl ca s sv' (cs ++ [c]) := by
  have hg : KpS (fun j => j = W0.heap.size ∨ sv.ownBlock = some j) w w' := KpS.grO g (fun y e => .inr e)
  have st : ∀ R : World → Prop, StS w (fun j => j = W0.heap.size ∨ sv.ownBlock = some j) R → StS w' (fun j => j = W0.heap.size ∨ sv'.ownBlock = some j) R := fun R hR w'' k => by
    refine hR w'' ⟨Nat.le_trans hg.size k.size, fun i h1 h2 => (k.block i (fun q => ?_) (Nat.lt_of_lt_of_le h2 hg.size)).trans (hg.block i h1 h2)⟩
    rcases q with q | q
    · exact h1 (.inl q)
    · rcases hs with e | e
      · exact h1 (.inr (by rw [← e]; exact q))
      · rw [e] at q
        cases q
        omega
  refine ⟨h.b.grown g h.b.size (fun k e => by have := (h.own.lt k e).1; omega), (g.block _ (lt_of_block h.blk) (fun e => by have := (h.own.lt _ e.symm).1; omega)).trans h.blk, st _ h.val, h.ok, h.mx, own, fun d hd => ?_⟩
  rcases List.mem_append.1 hd with hd | hd
  · exact st _ (h.frs d hd)
  · obtain rfl : d = c := by simpa using hd
    exact st _ hc
/-- the answer's variable -/
structure SNx (X w : World) (M : Nat) (Ad Al Aa : Option Addr) (cd cl ca : Nat) (s : Sn) (sv : Value) : Prop where
  blk : w.heap[M]? = some (.cells #[.slice Ad s.data.length cd, .bool s.fin, .int .i64 s.next, .int .i64 s.mx, .slice Al s.lost.length cl, .slice Aa s.acked.length ca, .bool s.ended, .bool s.over] 27 (0, 0))
  val : StS w (fun j => j < X.heap.size ∨ sv.ownBlock = some j) (fun w => SnVal w w.heap.size (.agg #[.slice Ad s.data.length cd, .bool s.fin, .int .i64 s.next, .int .i64 s.mx, .slice Al s.lost.length cl, .slice Aa s.acked.length ca, .bool s.ended, .bool s.over]) s)
/-- how a round ended -/
def RndOk (s s' : Sn) (ec : Int) (cs : List FE) : Prop := (ec = 0 ∧ okSn s' ∧ s'.mx ≤ 200 ∧ SntAll s' cs) ∨ ((ec = 17 ∨ ec = 8) ∧ SntAll s cs)
theorem SntAll.grew {s s' : Sn} {cs : List FE} (h : SntAll s cs) (g : Grew s s') : SntAll s' cs := fun c hc => ⟨(h c hc).1.grew g, (h c hc).2⟩
theorem SntAll.push {s : Sn} {cs : List FE} {c : FE} (h : SntAll s cs) (h1 : SentOk s c.f.off (c.f.data.length : Int) c.f.fin) (h2 : c.f.data.length ≤ 120) : SntAll s (cs ++ [c]) := fun d hd => by
  rcases List.mem_append.1 hd with hd | hd
  · exact h d hd
  · obtain rfl : d = c := by simpa using hd
    exact ⟨h1, h2⟩
/-- a frame of the row, as it lies -/
theorem own_fe {w : World} {base : Nat} {A : Option Addr} {n c : Nat} {cs : List FE} (h : OwnE feE w base 35 (.slice A n c) cs) (i : Nat) (hi : i < cs.length) : ∃ g, A = some ⟨g, 0, none⟩ ∧ n = cs.length ∧ n ≤ c ∧ g < w.heap.size ∧
    (w.cell? ⟨g, i * 7, none⟩ = some (.int .i64 cs[i].f.kind) ∧ w.cell? ⟨g, i * 7 + 1, none⟩ = some (.int .i64 cs[i].f.id) ∧ w.cell? ⟨g, i * 7 + 2, none⟩ = some (.int .i64 cs[i].f.off) ∧ w.cell? ⟨g, i * 7 + 3, none⟩ = some (.bool cs[i].f.fin) ∧ w.cell? ⟨g, i * 7 + 4, none⟩ = some (.int .i64 cs[i].f.code) ∧
    w.cell? ⟨g, i * 7 + 5, none⟩ = some (.slice cs[i].ra cs[i].f.rs.length cs[i].rc) ∧ w.cell? ⟨g, i * 7 + 6, none⟩ = some (.slice cs[i].da cs[i].f.data.length cs[i].dc)) := by
  obtain ⟨A', c', e, h1, h2, hr⟩ := h.slice
  injection e with e1 e2 e3
  subst e1 e3
  rcases h.2 with ⟨hv, h0⟩ | ⟨g, cap, cur, hv, _⟩
  · injection hv with hA hn
    omega
  · injection hv with hA _ _
    obtain ⟨b, off, e4, hlt, hc⟩ := hr (by omega)
    rw [hA] at e4
    cases e4
    have key := fun k hk => RowE.at hc i k hi hk
    refine ⟨_, hA, e2, by omega, hlt, ?_⟩
    have a0 := key 0 (by decide)
    have a1 := key 1 (by decide)
    have a2 := key 2 (by decide)
    have a3 := key 3 (by decide)
    have a4 := key 4 (by decide)
    have a5 := key 5 (by decide)
    have a6 := key 6 (by decide)
    simp only [feE, List.getElem?_cons_zero, List.getElem?_cons_succ, Nat.zero_add, Nat.add_zero] at a0 a1 a2 a3 a4 a5 a6
    exact ⟨a0, a1, a2, a3, a4, a5, a6⟩
/-- an append of one frame in a region that keeps its order -/
theorem wpList_appE2 {α : Type} {E : Lay α} {P : Program} (w : World) {ops : Array Oper} {rest : List Oper} {o : Oper} {a : Act} {Q : Exit → Act → World → Prop} (hgd : o.guard = none) (s x : Operand) (t : TypeId)
    (ho : o.op = .call { callee := .builtin .append, args := #[s, x], argTypes := #[t, t] })
    (base : Nat) (e : TypeId) (i : TypeInfo) (z : Value) (by_ : Nat) (ht : P.underlying t = some (.slice e)) (hi : P.info? e = some i) (hz : i.zero = some z) (hsize : i.size = E.k) (hby : i.bytes = by_) (hzs : z.cells.size = E.k) (hb0 : 0 < by_)
    (v : Value) (xs : List α) (hs : a.eval s = v) (hown : OwnE E w base e v xs) (B : Nat) (A : Option Addr) (m c : Nat) (ys : List α) (hx : a.eval x = .slice A m c) (hr : RowE E w B A ys) (hm : ys.length = m)
    (hbytes : (xs.length + m) * by_ ≤ 140737488355328) (hbase : base ≤ w.heap.size)
    (h : ∀ v' w', OwnE E w' base e v' (xs ++ ys) → w.grownBy w' v.ownBlock → (v'.ownBlock = v.ownBlock ∨ v'.ownBlock = some w.heap.size) → wpList P ops Q rest (a.put o.dst v') w') :
    wpList P ops Q (o :: rest) a w := by
  refine wpList_plain hgd fun K hK => ?_
  obtain ⟨v', w', hrun, h2, h3, h4⟩ := run_appE2 (P := P) w base t o.type e i z by_ ht hi hz hsize hby hzs hb0 v xs hown B A m c ys hr hm hbytes hbase
  unfold Oper.wp execOp
  simp only [ho, resolve, invoke, builtin, Sem.run_bind, Sem.run_pure, Result.andThen_ok, List.map_toArray, List.map_cons, List.map_nil, hs, hx, hrun]
  exact hK _ _ (h v' w' h2 h3 h4)
/-- what Piece gave, and where it was laid: nothing of it lies ahead of Y -/
def SnU (Y w : World) (x : Value) (s : Sn) : Prop := StS w (fun j => j < Y.heap.size) (fun wv => SnVal wv wv.heap.size x s)
def FrU (Y w : World) (x : Value) (f : Fr) : Prop := StS w (fun j => j < Y.heap.size) (fun wv => FrVal wv wv.heap.size x f)
theorem SnU.later {Y w w' : World} {x : Value} {s : Sn} (h : SnU Y w x s) (b : Below w.heap.size w w') : SnU Y w' x s := StS.later h b
theorem FrU.later {Y w w' : World} {x : Value} {s : Fr} (h : FrU Y w x s) (b : Below w.heap.size w w') : FrU Y w' x s := StS.later h b
theorem SnU.kp {Y w w' : World} {x : Value} {s : Sn} (h : SnU Y w x s) (k : KpS (fun j => j < Y.heap.size) w w') : SnU Y w' x s := StS.on h k
theorem FrU.kp {Y w w' : World} {x : Value} {s : Fr} (h : FrU Y w x s) (k : KpS (fun j => j < Y.heap.size) w w') : FrU Y w' x s := StS.on h k
theorem SnU.now {Y w : World} {x : Value} {s : Sn} (h : SnU Y w x s) : SnVal w w.heap.size x s := StS.now h
theorem FrU.now {Y w : World} {x : Value} {s : Fr} (h : FrU Y w x s) : FrVal w w.heap.size x s := StS.now h
structure TupP (Y w : World) (x : Value) (s : Sn) (f : Fr) (ob : Bool) : Prop where
  ex : ∃ u t, x = .tuple #[u, t, .bool ob, .int .i64 0] ∧ SnU Y w u s ∧ FrU Y w t f
theorem TupP.later {Y w w' : World} {x : Value} {s : Sn} {f : Fr} {ob : Bool} (h : TupP Y w x s f ob) (b : Below w.heap.size w w') : TupP Y w' x s f ob := by
  obtain ⟨u, t, e, h1, h2⟩ := h.ex
  exact ⟨u, t, e, h1.later b, h2.later b⟩
theorem TupP.kp {Y w w' : World} {x : Value} {s : Sn} {f : Fr} {ob : Bool} (h : TupP Y w x s f ob) (k : KpS (fun j => j < Y.heap.size) w w') : TupP Y w' x s f ob := by
  obtain ⟨u, t, e, h1, h2⟩ := h.ex
  exact ⟨u, t, e, h1.kp k, h2.kp k⟩
structure PutN (Y X w : World) (M : Nat) (s : Sn) : Prop where
  ex : ∃ (Od : Option Addr) (cOd : Nat) (Ol : Option Addr) (cOl : Nat) (Oa : Option Addr) (cOa : Nat), w.heap[M]? = some (.cells #[.slice Od s.data.length cOd, .bool s.fin, .int .i64 s.next, .int .i64 s.mx, .slice Ol s.lost.length cOl, .slice Oa s.acked.length cOa, .bool s.ended, .bool s.over] 27 (0, 0)) ∧
    SnU Y w (.agg #[.slice Od s.data.length cOd, .bool s.fin, .int .i64 s.next, .int .i64 s.mx, .slice Ol s.lost.length cOl, .slice Oa s.acked.length cOa, .bool s.ended, .bool s.over]) s ∧ Below X.heap.size X w
theorem PutN.gr {Y X w w' : World} {M F : Nat} {s : Sn} (h : PutN Y X w M s) (g : w.grownBy w' (some F)) (hF : F < Y.heap.size) (hX : X.heap.size ≤ F) (hM : M ≠ F) : PutN Y X w' M s := by
  obtain ⟨a, b, c, d, e, f, h1, h2, h3⟩ := h.ex
  exact ⟨a, b, c, d, e, f, (g.block _ (lt_of_block h1) (fun q => hM (by injection q))).trans h1, h2.kp (KpS.gr g hF), gr_from h3 h3.size hX g⟩
structure PutNF (Y X w : World) (M F : Nat) (s : Sn) : Prop where
  n : PutN Y X w M s
  f : w.heap[F]? = some (.cells #[.int .i64 0, .int .i64 0, .int .i64 0, .bool false, .int .i64 0, .slice none 0 0, .slice none 0 0] 35 (0, 0))
structure PutF (Y X w : World) (M F : Nat) (s : Sn) (f : Fr) : Prop where
  n : PutN Y X w M s
  ex : ∃ c : FE, c.f = f ∧ w.heap[F]? = some (.cells #[.int .i64 c.f.kind, .int .i64 c.f.id, .int .i64 c.f.off, .bool c.f.fin, .int .i64 c.f.code, .slice c.ra c.f.rs.length c.rc, .slice c.da c.f.data.length c.dc] 35 (0, 0)) ∧ FrU Y w c.v f
end Go.Proofs.Ytnccibaifffhhaa
