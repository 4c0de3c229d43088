/- What holds while raw things happen to a space: its variable, a map of how often each number ended; what a call hands back within a drawn region. -/
import Derived.Test.YtnccibaifffhhaaGrpSj
import Derived.Test.YtnccibaifffhhaaSpOnM
import Derived.Test.YtnccibaifffhhaaMapI
import Derived.Test.YtnccibaifffhhaaSpTells
namespace Go.Proofs.Ytnccibaifffhhaa
set_option linter.unusedVariables false
open Go.RowKit P

theorem spwf_of {s : Sp} (ok : okSp s) (hf : NoFr s) : SpWf s := by
  obtain ⟨k1, k2, k3, k4, k5, k6, k7, k8, k9, k10, k11⟩ := ok
  refine ⟨by unfold i64N; omega, by unfold i64N; omega, by omega, by omega, by omega, fun p hp => ?_, fun n hn => by have := riseF_bd k9 hn; unfold i64N; omega⟩
  have := riseF_bd k5 (num_mem.2 ⟨p, hp, rfl⟩)
  obtain ⟨q1, q2⟩ := k4 p hp
  rw [hf p hp]
  exact ⟨⟨by unfold i64N; omega, by unfold i64N; omega, by unfold i64N; omega⟩, frs0_wf⟩
def SpdS (S : Nat → Prop) (w : World) (u : Value) (s : Sp) : Prop := StS w S (fun wv => SpVal wv wv.heap.size u s)
def PldS (S : Nat → Prop) (w : World) (v : Value) (l : List Pcl) : Prop := StS w S (fun wv => PlSl wv wv.heap.size v l)
theorem SpU.toX {w0 w w1 : World} {b : Bool} {x u : Value} {s : Sp} (h : SpU w.heap.size w1 u s) (h0 : w0.heap.size ≤ w.heap.size) (hx : b = true → ∃ k, x = .pointer (some ⟨k, 0, none⟩) ∧ k < w.heap.size) : SpdS (SXv w0 b x) w1 u s := StS.toX h h0 hx
theorem PlU.toX {w0 w w1 : World} {b : Bool} {x u : Value} {s : List Pcl} (h : PlU w.heap.size w1 u s) (h0 : w0.heap.size ≤ w.heap.size) (hx : b = true → ∃ k, x = .pointer (some ⟨k, 0, none⟩) ∧ k < w.heap.size) : PldS (SXv w0 b x) w1 u s := StS.toX h h0 hx
theorem PldS.toU {w0 w : World} {b : Bool} {x u : Value} {l : List Pcl} (h : PldS (SXv w0 b x) w u l) : PlU w0.heap.size w u l := StS.anti h fun j hj => .inl hj
theorem SpdS.slices {S : Nat → Prop} {w : World} {u : Value} {s : Sp} (h : SpdS S w u s) : ∃ (Aa Ah Ak : Option Addr) (ca ch ck : Nat), u = .agg #[.int .i64 s.next, .slice Aa s.sent.length ca, .int .i64 s.top, .slice Ah s.heard.length ch, .slice Ak s.skip.length ck] := (StS.now h).cells
/-- what a call hands back within a drawn region: it stands as long as the blocks ahead of w0, and the new variable p, once it is there, alone turn -/
structure TupN (w0 : World) (b : Bool) (p : Value) (w : World) (x : Value) (s : Sp) (n : Int) (e : Int) : Prop where
  ex : ∃ u, x = .tuple #[u, .int .i64 n, .int .i64 e] ∧ SpdS (SXv w0 b p) w u s
theorem TupN.later {w0 : World} {b : Bool} {p : Value} {w w' : World} {x : Value} {s : Sp} {n : Int} {e : Int} (h : TupN w0 b p w x s n e) (hb : Below w.heap.size w w') : TupN w0 b p w' x s n e := by
  obtain ⟨u, e, h0⟩ := h.ex
  exact ⟨u, e, StS.later h0 hb⟩
theorem TupN.made {w0 : World} {p : Value} {w w' : World} {x : Value} {s : Sp} {n : Int} {e : Int} (h : TupN w0 false p w x s n e) (hb : Below w.heap.size w w') : TupN w0 true (.pointer (some ⟨w.heap.size, 0, none⟩)) w' x s n e := by
  obtain ⟨u, e, h0⟩ := h.ex
  exact ⟨u, e, StS.made h0 hb⟩
theorem TupN.kp {w0 : World} {b : Bool} {p : Value} {w w' : World} {x : Value} {s : Sp} {n : Int} {e : Int} (h : TupN w0 b p w x s n e) (k : KpS (SXv w0 b p) w w') : TupN w0 b p w' x s n e := by
  obtain ⟨u, e, h0⟩ := h.ex
  exact ⟨u, e, StS.on h0 k⟩
/-- what a call hands back within a drawn region: it stands as long as the blocks ahead of w0, and the new variable p, once it is there, alone turn -/
structure TupO (w0 : World) (b : Bool) (p : Value) (w : World) (x : Value) (s : Sp) (l : List Pcl) (e : Int) : Prop where
  ex : ∃ u v, x = .tuple #[u, v, .int .i64 e] ∧ SpdS (SXv w0 b p) w u s ∧ PldS (SXv w0 b p) w v l
theorem TupO.later {w0 : World} {b : Bool} {p : Value} {w w' : World} {x : Value} {s : Sp} {l : List Pcl} {e : Int} (h : TupO w0 b p w x s l e) (hb : Below w.heap.size w w') : TupO w0 b p w' x s l e := by
  obtain ⟨u, v, e, h0, h1⟩ := h.ex
  exact ⟨u, v, e, StS.later h0 hb, StS.later h1 hb⟩
theorem TupO.made {w0 : World} {p : Value} {w w' : World} {x : Value} {s : Sp} {l : List Pcl} {e : Int} (h : TupO w0 false p w x s l e) (hb : Below w.heap.size w w') : TupO w0 true (.pointer (some ⟨w.heap.size, 0, none⟩)) w' x s l e := by
  obtain ⟨u, v, e, h0, h1⟩ := h.ex
  exact ⟨u, v, e, StS.made h0 hb, StS.made h1 hb⟩
theorem TupO.kp {w0 : World} {b : Bool} {p : Value} {w w' : World} {x : Value} {s : Sp} {l : List Pcl} {e : Int} (h : TupO w0 b p w x s l e) (k : KpS (SXv w0 b p) w w') : TupO w0 b p w' x s l e := by
  obtain ⟨u, v, e, h0, h1⟩ := h.ex
  exact ⟨u, v, e, StS.on h0 k, StS.on h1 k⟩
/-- what a call hands back within a drawn region: it stands as long as the blocks ahead of w0, and the new variable p, once it is there, alone turn -/
structure TupA (w0 : World) (b : Bool) (p : Value) (w : World) (x : Value) (s : Sp) (l : List Pcl) (m : List Pcl) (e : Int) : Prop where
  ex : ∃ u v q, x = .tuple #[u, v, q, .int .i64 e] ∧ SpdS (SXv w0 b p) w u s ∧ PldS (SXv w0 b p) w v l ∧ PldS (SXv w0 b p) w q m
theorem TupA.later {w0 : World} {b : Bool} {p : Value} {w w' : World} {x : Value} {s : Sp} {l : List Pcl} {m : List Pcl} {e : Int} (h : TupA w0 b p w x s l m e) (hb : Below w.heap.size w w') : TupA w0 b p w' x s l m e := by
  obtain ⟨u, v, q, e, h0, h1, h2⟩ := h.ex
  exact ⟨u, v, q, e, StS.later h0 hb, StS.later h1 hb, StS.later h2 hb⟩
theorem TupA.made {w0 : World} {p : Value} {w w' : World} {x : Value} {s : Sp} {l : List Pcl} {m : List Pcl} {e : Int} (h : TupA w0 false p w x s l m e) (hb : Below w.heap.size w w') : TupA w0 true (.pointer (some ⟨w.heap.size, 0, none⟩)) w' x s l m e := by
  obtain ⟨u, v, q, e, h0, h1, h2⟩ := h.ex
  exact ⟨u, v, q, e, StS.made h0 hb, StS.made h1 hb, StS.made h2 hb⟩
theorem TupA.kp {w0 : World} {b : Bool} {p : Value} {w w' : World} {x : Value} {s : Sp} {l : List Pcl} {m : List Pcl} {e : Int} (h : TupA w0 b p w x s l m e) (k : KpS (SXv w0 b p) w w') : TupA w0 b p w' x s l m e := by
  obtain ⟨u, v, q, e, h0, h1, h2⟩ := h.ex
  exact ⟨u, v, q, e, StS.on h0 k, StS.on h1 k, StS.on h2 k⟩
/-- a new variable with a space -/
structure SpNew (w0 w : World) (x : Value) (s : Sp) : Prop where
  ex : ∃ (k : Nat) (Aa Ah Ak : Option Addr) (ca ch ck : Nat), x = .pointer (some ⟨k, 0, none⟩) ∧ w0.heap.size ≤ k ∧ w.heap[k]? = some (.cells #[.int .i64 s.next, .slice Aa s.sent.length ca, .int .i64 s.top, .slice Ah s.heard.length ch, .slice Ak s.skip.length ck] 48 (0, 0)) ∧ SpU w0.heap.size w (.agg #[.int .i64 s.next, .slice Aa s.sent.length ca, .int .i64 s.top, .slice Ah s.heard.length ch, .slice Ak s.skip.length ck]) s ∧ Below w0.heap.size w0 w
theorem spnew_put {w0 w : World} {k : Nat} {a0 a1 a2 a3 a4 : Value} (hk : w.heap[k]? = some (.cells #[a0, a1, a2, a3, a4] 48 (0, 0))) (hk0 : w0.heap.size ≤ k) (hbe : Below w0.heap.size w0 w) {Aa Ah Ak : Option Addr} {ca ch ck : Nat} {s : Sp} (hu : SpdS (SXv w0 true (.pointer (some ⟨k, 0, none⟩))) w (.agg #[.int .i64 s.next, .slice Aa s.sent.length ca, .int .i64 s.top, .slice Ah s.heard.length ch, .slice Ak s.skip.length ck]) s) :
    SpNew w0 (((((w.setCell ⟨k, 0, none⟩ (.int .i64 s.next)).setCell ⟨k, 1, none⟩ (.slice Aa s.sent.length ca)).setCell ⟨k, 2, none⟩ (.int .i64 s.top)).setCell ⟨k, 3, none⟩ (.slice Ah s.heard.length ch)).setCell ⟨k, 4, none⟩ (.slice Ak s.skip.length ck)) (.pointer (some ⟨k, 0, none⟩)) s ∧ KpS (SXv w0 true (.pointer (some ⟨k, 0, none⟩))) w (((((w.setCell ⟨k, 0, none⟩ (.int .i64 s.next)).setCell ⟨k, 1, none⟩ (.slice Aa s.sent.length ca)).setCell ⟨k, 2, none⟩ (.int .i64 s.top)).setCell ⟨k, 3, none⟩ (.slice Ah s.heard.length ch)).setCell ⟨k, 4, none⟩ (.slice Ak s.skip.length ck)) := by
  obtain ⟨h1, gp⟩ := sp5_put hk (.int .i64 s.next) (.slice Aa s.sent.length ca) (.int .i64 s.top) (.slice Ah s.heard.length ch) (.slice Ak s.skip.length ck)
  have kk : KpS (SXv w0 true (.pointer (some ⟨k, 0, none⟩))) w (((((w.setCell ⟨k, 0, none⟩ (.int .i64 s.next)).setCell ⟨k, 1, none⟩ (.slice Aa s.sent.length ca)).setCell ⟨k, 2, none⟩ (.int .i64 s.top)).setCell ⟨k, 3, none⟩ (.slice Ah s.heard.length ch)).setCell ⟨k, 4, none⟩ (.slice Ak s.skip.length ck)) := KpS.gr gp (.inr ⟨rfl, rfl⟩)
  exact ⟨⟨k, Aa, Ah, Ak, ca, ch, ck, rfl, hk0, h1, StS.anti (StS.on hu kk) fun j hj => .inl hj, gr_from hbe hbe.size hk0 gp⟩, kk⟩
/-- what holds between the rounds: the result's variable, the space's, the map -/
structure SpdK (W0 : World) (K0 V M n : Nat) (s : Sp) (E : Int → Option Int) (Aa Ah Ak : Option Addr) (ca ch ck : Nat) (w : World) : Prop where
  b : Below W0.heap.size W0 w
  z : w.heap[K0]? = some (.cells #[.int .i64 0, .slice none 0 0, .int .i64 0, .slice none 0 0, .slice none 0 0] 48 (0, 0))
  x : w.heap[V]? = some (.cells #[.int .i64 s.next, .slice Aa s.sent.length ca, .int .i64 s.top, .slice Ah s.heard.length ch, .slice Ak s.skip.length ck] 48 (0, 0))
  v : SpU (M + 1) w (.agg #[.int .i64 s.next, .slice Aa s.sent.length ca, .int .i64 s.top, .slice Ah s.heard.length ch, .slice Ak s.skip.length ck]) s
  m : ∃ D : DataW Unit, w.ownsMap Try.prog 3 (plainElem Try.prog 3) M n D ∧ MapI D E
theorem SpdK.on {W0 : World} {K0 V M n : Nat} {s : Sp} {E : Int → Option Int} {Aa Ah Ak : Option Addr} {ca ch ck : Nat} {w w' : World} (h : SpdK W0 K0 V M n s E Aa Ah Ak ca ch ck w) (hb : Below w.heap.size w w') : SpdK W0 K0 V M n s E Aa Ah Ak ca ch ck w' := by
  obtain ⟨D, o, m⟩ := h.m
  exact ⟨h.b.trans (hb.mono h.b.size), (hb.block _ (lt_of_block h.z)).trans h.z, (hb.block _ (lt_of_block h.x)).trans h.x, StS.on h.v (KpS.below hb), D, own_same o (hb.block _ o.lt), m⟩
theorem SpdK.mlt {W0 : World} {K0 V M n : Nat} {s : Sp} {E : Int → Option Int} {Aa Ah Ak : Option Addr} {ca ch ck : Nat} {w : World} (h : SpdK W0 K0 V M n s E Aa Ah Ak ca ch ck w) : M < w.heap.size := by
  obtain ⟨D, o, m⟩ := h.m
  exact o.lt
theorem SpdK.put {W0 : World} {K0 V M n : Nat} {s s' : Sp} {E : Int → Option Int} {Aa Ah Ak Ba Bh Bk : Option Addr} {ca ch ck da dh dk : Nat} {w w' : World} (h : SpdK W0 K0 V M n s E Aa Ah Ak ca ch ck w) (g : w.grownBy w' (some V)) (hx : w'.heap[V]? = some (.cells #[.int .i64 s'.next, .slice Ba s'.sent.length da, .int .i64 s'.top, .slice Bh s'.heard.length dh, .slice Bk s'.skip.length dk] 48 (0, 0)))
    (hu : SpU (M + 1) w (.agg #[.int .i64 s'.next, .slice Ba s'.sent.length da, .int .i64 s'.top, .slice Bh s'.heard.length dh, .slice Bk s'.skip.length dk]) s') (h1 : K0 < V) (h2 : V < M) (h3 : W0.heap.size ≤ V) : SpdK W0 K0 V M n s' E Ba Bh Bk da dh dk w' := by
  obtain ⟨D, o, m⟩ := h.m
  exact ⟨gr_from h.b h.b.size h3 g, (g.block _ (lt_of_block h.z) (fun e => by cases e; omega)).trans h.z, hx, StS.on hu (KpS.gr g (by show V < M + 1; omega)), D, own_same o (g.block _ o.lt (fun e => by cases e; omega)), m⟩
theorem SpdK.store {W0 : World} {K0 V M n n' : Nat} {s : Sp} {E E' : Int → Option Int} {Aa Ah Ak : Option Addr} {ca ch ck : Nat} {w w' : World} {D : DataW Unit} (h : SpdK W0 K0 V M n s E Aa Ah Ak ca ch ck w) (g : w.grownBy w' (some M)) (o : w'.ownsMap Try.prog 3 (plainElem Try.prog 3) M n' D) (m : MapI D E') (h1 : K0 < V) (h2 : V < M) (h3 : W0.heap.size ≤ V) : SpdK W0 K0 V M n' s E' Aa Ah Ak ca ch ck w' :=
  ⟨gr_from h.b h.b.size (by omega) g, (g.block _ (lt_of_block h.z) (fun e => by cases e; omega)).trans h.z, (g.block _ (lt_of_block h.x) (fun e => by cases e; omega)).trans h.x, StS.on h.v (KpS.gr g (by show M < M + 1; omega)), D, o, m⟩
theorem zeroII (w : World) : (zeroValue 3).run Try.prog w = .ok (.int .i64 0) w := by kernel_rfl
theorem bk4R {w : World} {b : Nat} {a0 a1 a2 a3 : Value} {T : TypeId} (h : w.heap[b]? = some (.cells #[a0, a1, a2, a3] T (0, 0))) :
    w.cell? ⟨b, 0, none⟩ = some a0 ∧ w.cell? ⟨b, 1, none⟩ = some a1 ∧ w.cell? ⟨b, 2, none⟩ = some a2 ∧ w.cell? ⟨b, 3, none⟩ = some a3 := ⟨bk_cell h 0, bk_cell h 1, bk_cell h 2, bk_cell h 3⟩
theorem lookI {wr : World} {M n : Nat} {D : DataW Unit} {f : Int → Option Int} (O : wr.ownsMap Try.prog 3 (plainElem Try.prog 3) M n D) (MB : MapI D f) {x z : Int} (hf : f x = some z) (hx : (Lit.int .i64 x).wf = true) :
    (Instr.lookup 49 (.map (some M)) (.int .i64 x) false).run Try.prog wr = .ok (.int .i64 z) wr := by
  obtain ⟨cv, hrun, hatv, hwv⟩ := O.lookup_int (Maps.int_keyed Try.underlying3) Try.underlying49 Try.underlying3 (zeroII wr) (Maps.keyOf_int_mk (a := x) Try.underlying3 hx)
  have hcz : cv = z := by
    have := (MB.yes x z hf).2 (.lit (.int .i64 0))
    rw [hatv] at this
    cases this
    rfl
  subst hcz
  exact hrun
theorem i64_wf {n : Int} (h : i64N n) : (Lit.int .i64 n).wf = true := by
  unfold i64N at h
  have e1 : IntKind.i64.min = -9223372036854775808 := rfl
  have e2 : IntKind.i64.max = 9223372036854775807 := rfl
  simp [Lit.wf, e1, e2]
  omega
/-- a packet's cells, whatever its frames are -/
def PcW (c : Cells 4) (p : Pcl) : Prop := ∃ (A : Option Addr) (n k : Nat), c.l = [.int .i64 p.num, .int .i64 p.time, .int .i64 p.size, .slice A n k]
structure PlW (w : World) (B : Nat) (v : Value) (ps : List Pcl) : Prop where
  ex : ∃ A c css, v = .slice A ps.length c ∧ ps.length ≤ c ∧ c ≤ maxLen ∧ RowE pc4 w B A css ∧ All2 PcW css ps
theorem PcC.toW {w : World} {B : Nat} {c : Cells 4} {p : Pcl} (h : PcC w B c p) : PcW c p := by
  obtain ⟨v, e, hf⟩ := h
  obtain ⟨A, k, _, rfl, _⟩ := hf.ex
  exact ⟨A, _, k, e⟩
theorem PlSl.toW {w : World} {B : Nat} {v : Value} {ps : List Pcl} (h : PlSl w B v ps) : PlW w B v ps := by
  obtain ⟨A, c, css, e, h1, h2, h3, h4⟩ := h.ex
  exact ⟨A, c, css, e, h1, h2, h3, h4.imp fun _ _ q => q.toW⟩
def PlWU (lo : Nat) (w : World) (v : Value) (l : List Pcl) : Prop := StS w (fun j => j < lo) (fun wv => PlW wv wv.heap.size v l)
theorem PlU.toW {lo : Nat} {w : World} {v : Value} {l : List Pcl} (h : PlU lo w v l) : PlWU lo w v l := fun w' k => (h w' k).toW
theorem plw_own {lo base : Nat} {w : World} {e : TypeId} {A : Option Addr} {n c : Nat} {css : List (Cells 4)} {ps : List Pcl} (h : OwnE pc4 w base e (.slice A n c) css) (hl : lo ≤ base) (h2 : All2 PcW css ps) : PlWU lo w (.slice A n c) ps := fun w'' k => by
  have o := own_stX h (S := fun j => j < lo) (fun g hg hq => by have := (OwnE.lt h g hg).1; omega) w'' k
  obtain ⟨A', c', e1, q1, q2, hr⟩ := o.slice
  have hn := h2.len
  exact ⟨A', c', css, by rw [e1, hn], by omega, q2, hr, h2⟩
theorem pl_at {w : World} {B : Nat} {A : Option Addr} {n c : Nat} {ps : List Pcl} (h : PlW w B (.slice A n c) ps) (i : Nat) (hi : i < ps.length) : ∃ b off AF nF cF, A = some ⟨b, off, none⟩ ∧ b < B ∧
    w.cell? ⟨b, off + i * 4, none⟩ = some (.int .i64 (ps[i]).num) ∧ w.cell? ⟨b, off + i * 4 + 1, none⟩ = some (.int .i64 (ps[i]).time) ∧ w.cell? ⟨b, off + i * 4 + 2, none⟩ = some (.int .i64 (ps[i]).size) ∧ w.cell? ⟨b, off + i * 4 + 3, none⟩ = some (.slice AF nF cF) := by
  obtain ⟨A', c', css, e, h1, h2, h3, h4⟩ := h.ex
  obtain ⟨e1, _, _⟩ := Value.slice.inj e
  subst e1
  have hlen := h4.len
  obtain ⟨b, off, e, hb, hc⟩ := h3 (by omega)
  obtain ⟨AF, nF, cF, e2⟩ := h4.at i (by omega) hi
  have key := fun k hk => RowE.at hc i k (by omega) hk
  have a0 := key 0 (by decide)
  have a1 := key 1 (by decide)
  have a2 := key 2 (by decide)
  have a3 := key 3 (by decide)
  simp only [pc4, cellLay, e2, List.getElem?_cons_zero, List.getElem?_cons_succ, Nat.add_zero, ← Nat.add_assoc] at a0 a1 a2 a3
  exact ⟨b, off, AF, nF, cF, e, hb, a0, a1, a2, a3⟩
theorem nums_at (l : List Pcl) (i : Nat) (h : i < (nums l).length) (h2 : i < l.length) : (nums l)[i] = (l[i]).num := by simp [nums]
theorem pl_len {w : World} {B : Nat} {v : Value} {ps : List Pcl} (h : PlSl w B v ps) : ∃ A c, v = .slice A ps.length c ∧ ps.length ≤ c ∧ c ≤ maxLen := by
  obtain ⟨A, c, _, e, h1, h2, _⟩ := h.ex
  exact ⟨A, c, e, h1, h2⟩
theorem SpdK.same {W0 : World} {K0 V M n : Nat} {s : Sp} {E E' : Int → Option Int} {Aa Ah Ak : Option Addr} {ca ch ck : Nat} {w : World} (h : SpdK W0 K0 V M n s E Aa Ah Ak ca ch ck w) (e : ∀ x, E x = E' x) : SpdK W0 K0 V M n s E' Aa Ah Ak ca ch ck w := by
  obtain ⟨D, o, m⟩ := h.m
  exact ⟨h.b, h.z, h.x, h.v, D, o, m.congr e⟩
end Go.Proofs.Ytnccibaifffhhaa
