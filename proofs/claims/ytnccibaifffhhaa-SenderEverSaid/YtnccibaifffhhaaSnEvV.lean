/- SenderEver: what holds at the loop's head; what Piece hands back within a drawn region. Nothing of the program's but the shapes. -/
import Derived.Test.YtnccibaifffhhaaSnEvM
import Derived.Test.YtnccibaifffhhaaSnGoodV
import Derived.Test.YtnccibaifffhhaaGaMapB
import Derived.Test.YtnccibaifffhhaaMapSz
namespace Go.Proofs.Ytnccibaifffhhaa
set_option linter.unusedVariables false
open Go.RowKit P

/-- the blocks ahead of a world, and two new variables, once they are there -/
def SX2 (w0 : World) (b : Bool) (p : Value) (c : Bool) (q : Value) : Nat → Prop := fun j => j < w0.heap.size ∨ (b = true ∧ p = .pointer (some ⟨j, 0, none⟩)) ∨ (c = true ∧ q = .pointer (some ⟨j, 0, none⟩))
theorem StS.made1 {w0 w w' : World} {p q : Value} {c : Bool} {R : World → Prop} (h : StS w (SX2 w0 false p c q) R) (hb : Below w.heap.size w w') : StS w' (SX2 w0 true (.pointer (some ⟨w.heap.size, 0, none⟩)) c q) R :=
  (h.new hb).anti fun j hj => by
    rcases hj with hj | ⟨_, hj⟩ | hj
    · exact .inl (.inl hj)
    · cases hj
      exact .inr (Nat.le_refl _)
    · exact .inl (.inr (.inr hj))
theorem StS.made2 {w0 w w' : World} {p q : Value} {b : Bool} {R : World → Prop} (h : StS w (SX2 w0 b p false q) R) (hb : Below w.heap.size w w') : StS w' (SX2 w0 b p true (.pointer (some ⟨w.heap.size, 0, none⟩))) R :=
  (h.new hb).anti fun j hj => by
    rcases hj with hj | hj | ⟨_, hj⟩
    · exact .inl (.inl hj)
    · exact .inl (.inr (.inl hj))
    · cases hj
      exact .inr (Nat.le_refl _)
theorem StS.toX2 {w0 w w1 : World} {b c : Bool} {p q : Value} {R : World → Prop} (h : StS w1 (fun j => j < w.heap.size) R) (h0 : w0.heap.size ≤ w.heap.size) (hp : b = true → ∃ k, p = .pointer (some ⟨k, 0, none⟩) ∧ k < w.heap.size) (hq : c = true → ∃ k, q = .pointer (some ⟨k, 0, none⟩) ∧ k < w.heap.size) : StS w1 (SX2 w0 b p c q) R :=
  h.anti fun j hj => by
    rcases hj with hj | ⟨hb, hj⟩ | ⟨hb, hj⟩
    · show j < w.heap.size; omega
    · obtain ⟨k, e, hk⟩ := hp hb
      rw [e] at hj
      cases hj
      exact hk
    · obtain ⟨k, e, hk⟩ := hq hb
      rw [e] at hj
      cases hj
      exact hk
def SnX (S : Nat → Prop) (w : World) (x : Value) (s : Sn) : Prop := StS w S (fun wv => SnVal wv wv.heap.size x s)
def FrX (S : Nat → Prop) (w : World) (x : Value) (f : Fr) : Prop := StS w S (fun wv => FrVal wv wv.heap.size x f)
/-- what Piece hands back -/
structure TupE (w0 : World) (b : Bool) (p : Value) (c : Bool) (q : Value) (w : World) (x : Value) (s : Sn) (f : Fr) (ob : Bool) : Prop where
  ex : ∃ u t, x = .tuple #[u, t, .bool ob, .int .i64 0] ∧ SnX (SX2 w0 b p c q) w u s ∧ FrX (SX2 w0 b p c q) w t f
theorem TupE.later {w0 : World} {b c ob : Bool} {p q : Value} {w w' : World} {x : Value} {s : Sn} {f : Fr} (h : TupE w0 b p c q w x s f ob) (hb : Below w.heap.size w w') : TupE w0 b p c q w' x s f ob := by
  obtain ⟨u, t, e, h1, h2⟩ := h.ex
  exact ⟨u, t, e, StS.later h1 hb, StS.later h2 hb⟩
theorem TupE.made1 {w0 : World} {c ob : Bool} {p q : Value} {w w' : World} {x : Value} {s : Sn} {f : Fr} (h : TupE w0 false p c q w x s f ob) (hb : Below w.heap.size w w') : TupE w0 true (.pointer (some ⟨w.heap.size, 0, none⟩)) c q w' x s f ob := by
  obtain ⟨u, t, e, h1, h2⟩ := h.ex
  exact ⟨u, t, e, StS.made1 h1 hb, StS.made1 h2 hb⟩
theorem TupE.made2 {w0 : World} {b ob : Bool} {p q : Value} {w w' : World} {x : Value} {s : Sn} {f : Fr} (h : TupE w0 b p false q w x s f ob) (hb : Below w.heap.size w w') : TupE w0 b p true (.pointer (some ⟨w.heap.size, 0, none⟩)) w' x s f ob := by
  obtain ⟨u, t, e, h1, h2⟩ := h.ex
  exact ⟨u, t, e, StS.made2 h1 hb, StS.made2 h2 hb⟩
theorem TupE.kp {w0 : World} {b c ob : Bool} {p q : Value} {w w' : World} {x : Value} {s : Sn} {f : Fr} (h : TupE w0 b p c q w x s f ob) (k : KpS (SX2 w0 b p c q) w w') : TupE w0 b p c q w' x s f ob := by
  obtain ⟨u, t, e, h1, h2⟩ := h.ex
  exact ⟨u, t, e, StS.on h1 k, StS.on h2 k⟩
/-- the sender's new variable, written -/
structure EvA (w0 : World) (b : Bool) (p : Value) (c : Bool) (q : Value) (w : World) (s : Sn) : Prop where
  ex : ∃ (k : Nat) (Nd Nl Na : Option Addr) (cNd cNl cNa : Nat), p = .pointer (some ⟨k, 0, none⟩) ∧ w0.heap.size ≤ k ∧ w.heap[k]? = some (.cells #[.slice Nd s.data.length cNd, .bool s.fin, .int .i64 s.next, .int .i64 s.mx, .slice Nl s.lost.length cNl, .slice Na s.acked.length cNa, .bool s.ended, .bool s.over] 27 (0, 0)) ∧ SnX (SX2 w0 b p c q) w (.agg #[.slice Nd s.data.length cNd, .bool s.fin, .int .i64 s.next, .int .i64 s.mx, .slice Nl s.lost.length cNl, .slice Na s.acked.length cNa, .bool s.ended, .bool s.over]) s
theorem EvA.later {w0 : World} {b c : Bool} {p q : Value} {w w' : World} {s : Sn} (h : EvA w0 b p c q w s) (hb : Below w.heap.size w w') : EvA w0 b p c q w' s := by
  obtain ⟨k, a1, a2, a3, a4, a5, a6, e, h0, h1, h2⟩ := h.ex
  exact ⟨k, a1, a2, a3, a4, a5, a6, e, h0, (hb.block _ (lt_of_block h1)).trans h1, StS.later h2 hb⟩
theorem EvA.made2 {w0 : World} {b : Bool} {p q : Value} {w w' : World} {s : Sn} (h : EvA w0 b p false q w s) (hb : Below w.heap.size w w') : EvA w0 b p true (.pointer (some ⟨w.heap.size, 0, none⟩)) w' s := by
  obtain ⟨k, a1, a2, a3, a4, a5, a6, e, h0, h1, h2⟩ := h.ex
  exact ⟨k, a1, a2, a3, a4, a5, a6, e, h0, (hb.block _ (lt_of_block h1)).trans h1, StS.made2 h2 hb⟩
/-- both new variables, written -/
structure EvN (w0 w : World) (p q : Value) (s : Sn) (f : Fr) : Prop where
  ex : ∃ (k g : Nat) (Nd Nl Na : Option Addr) (cNd cNl cNa : Nat) (Fr_ Fd : Option Addr) (cFr cFd : Nat), p = .pointer (some ⟨k, 0, none⟩) ∧ q = .pointer (some ⟨g, 0, none⟩) ∧ w0.heap.size ≤ k ∧ w0.heap.size ≤ g ∧ w.heap[k]? = some (.cells #[.slice Nd s.data.length cNd, .bool s.fin, .int .i64 s.next, .int .i64 s.mx, .slice Nl s.lost.length cNl, .slice Na s.acked.length cNa, .bool s.ended, .bool s.over] 27 (0, 0)) ∧ w.heap[g]? = some (.cells #[.int .i64 f.kind, .int .i64 f.id, .int .i64 f.off, .bool f.fin, .int .i64 f.code, .slice Fr_ f.rs.length cFr, .slice Fd f.data.length cFd] 35 (0, 0)) ∧
    SnU w0 w (.agg #[.slice Nd s.data.length cNd, .bool s.fin, .int .i64 s.next, .int .i64 s.mx, .slice Nl s.lost.length cNl, .slice Na s.acked.length cNa, .bool s.ended, .bool s.over]) s ∧ FrU w0 w (.agg #[.int .i64 f.kind, .int .i64 f.id, .int .i64 f.off, .bool f.fin, .int .i64 f.code, .slice Fr_ f.rs.length cFr, .slice Fd f.data.length cFd]) f ∧ Below w0.heap.size w0 w
theorem snwfE {s : Sn} (ok : okSn s) (hm : s.mx ≤ 300) : SnWf s := by
  have hf := sn_few ok
  obtain ⟨k1, k2, k3, k4, k5, k6, k7, k8, k9, k10⟩ := ok
  exact ⟨by rw [Lit.wf_int_iff, show IntKind.i64.min = -9223372036854775808 by kernel_rfl, show IntKind.i64.max = 9223372036854775807 by kernel_rfl]; omega, by rw [Lit.wf_int_iff, show IntKind.i64.min = -9223372036854775808 by kernel_rfl, show IntKind.i64.max = 9223372036854775807 by kernel_rfl]; omega, by omega, by omega, by omega⟩
theorem snwfO {s : Sn} (ok : okSn s) : SnWf s := by
  have hf := sn_few ok
  obtain ⟨k1, k2, k3, k4, k5, k6, k7, k8, k9, k10⟩ := ok
  exact ⟨by rw [Lit.wf_int_iff, show IntKind.i64.min = -9223372036854775808 by kernel_rfl, show IntKind.i64.max = 9223372036854775807 by kernel_rfl]; omega, by rw [Lit.wf_int_iff, show IntKind.i64.min = -9223372036854775808 by kernel_rfl, show IntKind.i64.max = 9223372036854775807 by kernel_rfl]; omega, by omega, by omega, by omega⟩
/-- the map says: these numbers were heard of -/
def gA (bs : List Int) (l : List (Int × Int)) : Int → Option Int := fun n => if mem l n then some (bs.getD n.toNat 0) else none
def gU (f : Int → Option Int) (bs : List Int) (lo : Int) (j : Nat) : Int → Option Int := fun y => if lo ≤ y ∧ y < lo + j then some (bs.getD y.toNat 0) else f y
theorem gU_zero (f : Int → Option Int) (bs : List Int) (lo y : Int) : gU f bs lo 0 y = f y := by unfold gU; rw [if_neg (by omega)]
theorem gU_step (f : Int → Option Int) (bs : List Int) (lo : Int) (j : Nat) (y : Int) : (if y = lo + j then some (bs.getD (lo + j).toNat 0) else gU f bs lo j y) = gU f bs lo (j + 1) y := by
  unfold gU
  by_cases e : y = lo + j
  · rw [if_pos e, if_pos (by omega), e]
  · rw [if_neg e]
    by_cases c : lo ≤ y ∧ y < lo + j
    · rw [if_pos c, if_pos (by omega)]
    · rw [if_neg c, if_neg (by omega)]
theorem gU_all {bs : List Int} {l l' : List (Int × Int)} {lo n : Int} (n0 : 0 ≤ n) (h : ∀ k, mem l' k ↔ (lo ≤ k ∧ k < lo + n) ∨ mem l k) (y : Int) : gU (gA bs l) bs lo n.toNat y = gA bs l' y := by
  unfold gU gA
  by_cases c : lo ≤ y ∧ y < lo + n
  · rw [if_pos (by omega), if_pos ((h y).2 (.inl c))]
  · rw [if_neg (by omega)]
    by_cases m : mem l y
    · rw [if_pos m, if_pos ((h y).2 (.inr m))]
    · rw [if_neg m, if_neg (fun q => ((h y).1 q).elim c m)]
/-- what holds at the loop's head -/
structure EvK (W1 : World) (V M n : Nat) (L : Nat) (s : Sn) (f : Int → Option Int) (Ad Al Aa : Option Addr) (cAd cAl cAa : Nat) (w : World) : Prop where
  b : Below W1.heap.size W1 w
  x : w.heap[V]? = some (.cells #[.slice Ad s.data.length cAd, .bool s.fin, .int .i64 s.next, .int .i64 s.mx, .slice Al s.lost.length cAl, .slice Aa s.acked.length cAa, .bool s.ended, .bool s.over] 27 (0, 0))
  v : StS w (fun j => j = V ∨ j = M) (fun wv => SnVal wv wv.heap.size (.agg #[.slice Ad s.data.length cAd, .bool s.fin, .int .i64 s.next, .int .i64 s.mx, .slice Al s.lost.length cAl, .slice Aa s.acked.length cAa, .bool s.ended, .bool s.over]) s)
  m : ∃ D : DataW Unit, w.ownsMap Try.prog 3 (plainElem Try.prog 5) M n D ∧ MapB D f ∧ Maps.size D = cntF f L
theorem ownB_same {H : Type} {w w' : World} {P : Program} {k : TypeId} {R : Value → Option (DataW H × List MemPlace)} {b n : Nat} {D : DataW H} (h : w.ownsMap P k R b n D) (e : w'.heap[b]? = w.heap[b]?) : w'.ownsMap P k R b n D := by
  obtain ⟨es, c, hb, r⟩ := h
  exact ⟨es, c, e.trans hb, r⟩
theorem EvK.on {W1 : World} {V M n L : Nat} {s : Sn} {f : Int → Option Int} {Ad Al Aa : Option Addr} {cAd cAl cAa : Nat} {w w' : World} (h : EvK W1 V M n L s f Ad Al Aa cAd cAl cAa w) (hb : Below w.heap.size w w') : EvK W1 V M n L s f Ad Al Aa cAd cAl cAa w' := by
  obtain ⟨D, o, m, z⟩ := h.m
  exact ⟨h.b.trans (hb.mono h.b.size), (hb.block _ (lt_of_block h.x)).trans h.x, StS.on h.v (KpS.below hb), D, ownB_same o (hb.block _ o.lt), m, z⟩
theorem EvK.mlt {W1 : World} {V M n L : Nat} {s : Sn} {f : Int → Option Int} {Ad Al Aa : Option Addr} {cAd cAl cAa : Nat} {w : World} (h : EvK W1 V M n L s f Ad Al Aa cAd cAl cAa w) : M < w.heap.size := by
  obtain ⟨D, o, m, z⟩ := h.m
  exact o.lt
theorem EvK.put {W1 : World} {V M n L : Nat} {s s' : Sn} {f : Int → Option Int} {Ad Al Aa Nd Nl Na : Option Addr} {cAd cAl cAa cNd cNl cNa : Nat} {w w' : World} (h : EvK W1 V M n L s f Ad Al Aa cAd cAl cAa w) (g : w.grownBy w' (some V)) (hx : w'.heap[V]? = some (.cells #[.slice Nd s'.data.length cNd, .bool s'.fin, .int .i64 s'.next, .int .i64 s'.mx, .slice Nl s'.lost.length cNl, .slice Na s'.acked.length cNa, .bool s'.ended, .bool s'.over] 27 (0, 0)))
    (hu : StS w (fun j => j = V ∨ j = M) (fun wv => SnVal wv wv.heap.size (.agg #[.slice Nd s'.data.length cNd, .bool s'.fin, .int .i64 s'.next, .int .i64 s'.mx, .slice Nl s'.lost.length cNl, .slice Na s'.acked.length cNa, .bool s'.ended, .bool s'.over]) s')) (h2 : V < M) (h3 : W1.heap.size ≤ V) : EvK W1 V M n L s' f Nd Nl Na cNd cNl cNa w' := by
  obtain ⟨D, o, m, z⟩ := h.m
  exact ⟨gr_from h.b h.b.size h3 g, hx, StS.on hu (KpS.gr g (.inl rfl)), D, ownB_same o (g.block _ o.lt (fun e => by cases e; omega)), m, z⟩
theorem EvK.store {W1 : World} {V M n n' L : Nat} {s : Sn} {f f' : Int → Option Int} {Ad Al Aa : Option Addr} {cAd cAl cAa : Nat} {w w' : World} {D : DataW Unit} (h : EvK W1 V M n L s f Ad Al Aa cAd cAl cAa w) (g : w.grownBy w' (some M)) (o : w'.ownsMap Try.prog 3 (plainElem Try.prog 5) M n' D) (m : MapB D f') (z : Maps.size D = cntF f' L) (h2 : V < M) (h3 : W1.heap.size ≤ V) : EvK W1 V M n' L s f' Ad Al Aa cAd cAl cAa w' :=
  ⟨gr_from h.b h.b.size (by omega) g, (g.block _ (lt_of_block h.x) (fun e => by cases e; omega)).trans h.x, StS.on h.v (KpS.gr g (.inr rfl)), D, o, m, z⟩
theorem EvK.same {W1 : World} {V M n L : Nat} {s : Sn} {f f' : Int → Option Int} {Ad Al Aa : Option Addr} {cAd cAl cAa : Nat} {w : World} (h : EvK W1 V M n L s f Ad Al Aa cAd cAl cAa w) (e : ∀ x, f x = f' x) : EvK W1 V M n L s f' Ad Al Aa cAd cAl cAa w := by
  obtain ⟨D, o, m, z⟩ := h.m
  exact ⟨h.b, h.x, h.v, D, o, m.congr e, by rw [z, cntF_congr e]⟩
theorem brow_sub {w : World} {B : Nat} {A : Option Addr} {b : List Int} {c : Nat} (h : BRow w B A b) (hc : b.length ≤ c) (k m : Nat) : BRow w B (if c = k then A else Option.map (fun x => x.add k) A) ((b.drop k).take m) := by
  refine ⟨(h.1.drop k).take m, fun hp => ?_⟩
  rw [List.length_take, List.length_drop] at hp
  obtain ⟨g, off, rfl, hg, hcell⟩ := h.2 (by omega)
  rw [if_neg (by omega)]
  refine ⟨g, off + k, by simp [Go.WideShapes.add_plain], hg, fun j hj => ?_⟩
  rw [List.length_take, List.length_drop] at hj
  rw [getD_take (by omega), getD_drop, show off + k + j = off + (k + j) by omega]
  exact hcell (k + j) (by omega)
theorem EvI.mono {b : List Int} {s : Sn} {m m' : Nat} (h : EvI b s m) (hm : m ≤ m') : EvI b s m' := ⟨h.len, h.ok, h.data, h.fin, h.mx, h.ended, h.acc, Nat.le_trans h.cnt hm⟩
theorem EvK.fresh {W1 : World} {V M n L r : Nat} {s : Sn} {f : Int → Option Int} {Ad Al Aa : Option Addr} {cAd cAl cAa : Nat} {w0 w w' : World} (h : EvK W1 V M n L s f Ad Al Aa cAd cAl cAa w0) (hb : Below w0.heap.size w0 w) (g : w.grownBy w' (some r)) (hr : w0.heap.size ≤ r) : EvK W1 V M n L s f Ad Al Aa cAd cAl cAa w' := by
  have hM := h.mlt
  obtain ⟨D, o, m, z⟩ := h.m
  have hx := lt_of_block h.x
  have bb : Below w0.heap.size w0 w' := gr_from hb hb.size hr g
  exact ⟨h.b.trans (bb.mono h.b.size), (bb.block _ hx).trans h.x, StS.anti (StS.on (StS.new h.v hb) (KpS.gr g (.inr hr))) (fun j hj => .inl hj), D, ownB_same o (bb.block _ o.lt), m, z⟩
theorem fr_data {w : World} {B : Nat} {f : Fr} {a b c d e r Fd : Value} (h : FrVal w B (.agg #[a, b, c, d, e, r, Fd]) f) : BSl w B Fd f.data := by
  obtain ⟨r', d', e', h1, h2⟩ := h.ex
  injection e' with e'
  have e' := congrArg Array.toList e'
  simp only [List.cons.injEq, and_true] at e'
  rw [e'.2.2.2.2.2.2]
  exact h2
end Go.Proofs.Ytnccibaifffhhaa
