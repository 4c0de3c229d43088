/- Contract of package space: split. -/
import Derived.Test.YtnccibaifffhhaaGrpSe
import Derived.Test.YtnccibaifffhhaaGrpSd
import Derived.Deep.CutRange
namespace Go.Proofs.Ytnccibaifffhhaa
set_option linter.unusedVariables false
open Go.RowKit P

/-- the cells of the packets that are asked for -/
def sel (p : Pcl → Bool) : List (Cells 4) → List Pcl → List (Cells 4)
  | c :: cs, q :: qs => if p q then c :: sel p cs qs else sel p cs qs
  | _, _ => []
theorem sel_app (p : Pcl → Bool) : ∀ (a : List (Cells 4)) (b : List Pcl) (a' : List (Cells 4)) (b' : List Pcl), a.length = b.length → sel p (a ++ a') (b ++ b') = sel p a b ++ sel p a' b'
  | [], [], _, _, _ => rfl
  | c :: a, q :: b, a', b', h => by
    have ih := sel_app p a b a' b' (by simpa using h)
    simp only [List.cons_append, sel, ih]
    split <;> rfl
  | [], _ :: _, _, _, h => by simp at h
  | _ :: _, [], _, _, h => by simp at h
theorem sel_snoc (p : Pcl → Bool) (css : List (Cells 4)) (ps : List Pcl) (k : Nat) (h1 : k < css.length) (h2 : k < ps.length) : sel p (css.take (k + 1)) (ps.take (k + 1)) = sel p (css.take k) (ps.take k) ++ (if p ps[k] then [css[k]] else []) := by
  rw [List.take_succ_eq_append_getElem h1, List.take_succ_eq_append_getElem h2, sel_app _ _ _ _ _ (by rw [List.length_take, List.length_take]; omega)]
  congr 1
theorem sel_le (p : Pcl → Bool) : ∀ (a : List (Cells 4)) (b : List Pcl) (k : Nat), a.length ≤ k → (sel p a b).length ≤ k
  | [], _, _, _ => by simp [sel]
  | _ :: _, [], _, _ => by simp [sel]
  | c :: a, q :: b, k, h => by
    have ih := sel_le p a b (k - 1) (by simp at h; omega)
    simp only [sel]
    simp at h
    split
    · simp only [List.length_cons]; omega
    · omega
theorem sel_all {R : Cells 4 → Pcl → Prop} (p : Pcl → Bool) : ∀ {a : List (Cells 4)} {b : List Pcl}, All2 R a b → All2 R (sel p a b) (b.filter p)
  | [], [], _ => trivial
  | c :: a, q :: b, h => by
    simp only [sel, List.filter_cons]
    split
    · exact ⟨h.1, sel_all p h.2⟩
    · exact sel_all p h.2
  | [], _ :: _, h => h.elim
  | _ :: _, [], h => h.elim
/-- between the rounds of split: two rows of its own -/
structure SplI (w wr : World) (v1 v2 : Value) (c1 c2 : List (Cells 4)) : Prop where
  o1 : OwnE pc4 wr w.heap.size 54 v1 c1
  o2 : OwnE pc4 wr w.heap.size 54 v2 c2
  b : Below w.heap.size w wr
  ne : ∀ j, v1.ownBlock = some j → v2.ownBlock ≠ some j
theorem SplI.on {w wr w' : World} {v1 v2 : Value} {c1 c2 : List (Cells 4)} (h : SplI w wr v1 v2 c1 c2) (b : Below wr.heap.size wr w') : SplI w w' v1 v2 c1 c2 := ⟨h.o1.later b, h.o2.later b, h.b.trans (b.mono h.b.size), h.ne⟩
theorem SplI.lt {w wr : World} {v1 v2 : Value} {c1 c2 : List (Cells 4)} (h : SplI w wr v1 v2 c1 c2) : ∀ j, (v1.ownBlock = some j ∨ v2.ownBlock = some j) → j < wr.heap.size := fun j hj => by
  rcases hj with hj | hj
  · exact (h.o1.lt j hj).2
  · exact (h.o2.lt j hj).2
theorem own_keptO {α : Type} {E : Lay α} {w w' : World} {base : Nat} {e : TypeId} {v : Value} {xs : List α} {r : Option Nat} (h : OwnE E w base e v xs) (g : w.grownBy w' r) (hy : ∀ j, v.ownBlock = some j → r ≠ some j) : OwnE E w' base e v xs := by
  refine ⟨h.1, ?_⟩
  rcases h.2 with hn | ⟨q, cap, cur, hv, hq, hh, rr⟩
  · exact .inl hn
  · exact .inr ⟨q, cap, cur, hv, hq, (g.block _ (lt_of_block hh) (fun e => hy q (by rw [hv]; rfl) e.symm)).trans hh, rr⟩
theorem SplI.put1 {w w4 wb w' : World} {v1 v2 v' : Value} {c1 c2 : List (Cells 4)} {x : Cells 4} (h : SplI w wb v1 v2 c1 c2) (o : OwnE pc4 w' w.heap.size 54 v' (c1 ++ [x])) (g : wb.grownBy w' v1.ownBlock) (nb : v'.ownBlock = v1.ownBlock ∨ (∀ j, v'.ownBlock = some j → w4.heap.size ≤ j)) (hl : ∀ j, (v1.ownBlock = some j ∨ v2.ownBlock = some j) → j < w4.heap.size) : SplI w w' v' v2 (c1 ++ [x]) c2 :=
  ⟨o, own_keptO h.o2 g (fun j hj q => h.ne j q hj), h.b.grown g h.b.size (fun q hq => (h.o1.lt q hq).1), fun j hj q => by
    rcases nb with e | e
    · exact h.ne j (by rw [← e]; exact hj) q
    · have := e j hj
      have := hl j (.inr q)
      omega⟩
theorem SplI.put2 {w w4 wb w' : World} {v1 v2 v' : Value} {c1 c2 : List (Cells 4)} {x : Cells 4} (h : SplI w wb v1 v2 c1 c2) (o : OwnE pc4 w' w.heap.size 54 v' (c2 ++ [x])) (g : wb.grownBy w' v2.ownBlock) (nb : v'.ownBlock = v2.ownBlock ∨ (∀ j, v'.ownBlock = some j → w4.heap.size ≤ j)) (hl : ∀ j, (v1.ownBlock = some j ∨ v2.ownBlock = some j) → j < w4.heap.size) : SplI w w' v1 v' c1 (c2 ++ [x]) :=
  ⟨own_keptO h.o1 g (fun j hj q => h.ne j hj q), o, h.b.grown g h.b.size (fun q hq => (h.o2.lt q hq).1), fun j hj q => by
    rcases nb with e | e
    · exact h.ne j hj (by rw [← e]; exact q)
    · have := e j q
      have := hl j (.inl hj)
      omega⟩
theorem pc4D {w : World} {b : Nat} {a0 a1 a2 a3 : Value} {T : TypeId} (h : w.heap[b]? = some (.cells #[a0, a1, a2, a3] T (0, 0))) :
    w.cell? ⟨b, 0, none⟩ = some a0 ∧ w.cell? ⟨b, 1, none⟩ = some a1 ∧ w.cell? ⟨b, 2, none⟩ = some a2 ∧ w.cell? ⟨b, 3, none⟩ = some a3 := ⟨bk_cell h 0, bk_cell h 1, bk_cell h 2, bk_cell h 3⟩
theorem pc_cells2 {w : World} {B : Nat} {A : Option Addr} {css : List (Cells 4)} {ps : List Pcl} (h : RowE pc4 w B A css) (h2 : All2 (PcC w B) css ps) (i : Nat) (hc0 : i < css.length) (hi : i < ps.length) : ∃ b off v, A = some ⟨b, off, none⟩ ∧ b < B ∧ FsSl w B v (ps[i]).frs ∧
    w.cell? ⟨b, off + i * 4, none⟩ = some (.int .i64 (ps[i]).num) ∧ w.cell? ⟨b, off + i * 4 + 1, none⟩ = some (.int .i64 (ps[i]).time) ∧ w.cell? ⟨b, off + i * 4 + 2, none⟩ = some (.int .i64 (ps[i]).size) ∧ w.cell? ⟨b, off + i * 4 + 3, none⟩ = some v ∧ (css[i]).l = [.int .i64 (ps[i]).num, .int .i64 (ps[i]).time, .int .i64 (ps[i]).size, v] := by
  obtain ⟨b, off, e, hb, hc⟩ := h (by omega)
  obtain ⟨v, e2, h3⟩ := h2.at i hc0 hi
  have key := fun k hk => RowE.at hc i k hc0 hk
  have a0 := key 0 (by decide)
  have a1 := key 1 (by decide)
  have a2 := key 2 (by decide)
  have a3 := key 3 (by decide)
  simp only [pc4, cellLay, e2, List.getElem?_cons_zero, List.getElem?_cons_succ, Nat.add_zero, ← Nat.add_assoc] at a0 a1 a2 a3
  exact ⟨b, off, v, e, hb, h3, a0, a1, a2, a3, e2⟩
theorem wpList_appE3 {α : Type} {E : Lay α} {P : Program} (w : World) {ops : Array Oper} {rest : List Oper} {o : Oper} {a : Act} {Q : Exit → Act → World → Prop} (hgd : o.guard = none) (s x : Operand) (t : TypeId)
    (ho : o.op = .call { callee := .builtin .append, args := #[s, x], argTypes := #[t, t] })
    (base : Nat) (e : TypeId) (i : TypeInfo) (z : Value) (by_ : Nat) (ht : P.underlying t = some (.slice e)) (hi : P.info? e = some i) (hz : i.zero = some z) (hsize : i.size = E.k) (hby : i.bytes = by_) (hzs : z.cells.size = E.k) (hb0 : 0 < by_)
    (v : Value) (xs : List α) (hs : a.eval s = v) (hown : OwnE E w base e v xs) (B : Nat) (A : Option Addr) (m c : Nat) (ys : List α) (hx : a.eval x = .slice A m c) (hr : RowE E w B A ys) (hm : ys.length = m)
    (hbytes : (xs.length + m) * by_ ≤ 140737488355328) (hbase : base ≤ w.heap.size)
    (h : ∀ v' w', OwnE E w' base e v' (xs ++ ys) → w.grownBy w' v.ownBlock → (v'.ownBlock = v.ownBlock ∨ (∀ j, v'.ownBlock = some j → w.heap.size ≤ j)) → wpList P ops Q rest (a.put o.dst v') w') :
    wpList P ops Q (o :: rest) a w := by
  refine wpList_plain hgd fun K hK => ?_
  obtain ⟨v', w', hrun, h2, h3, h4⟩ := run_appE2 (P := P) w base t o.type e i z by_ ht hi hz hsize hby hzs hb0 v xs hown B A m c ys hr hm hbytes hbase
  unfold Oper.wp execOp
  simp only [ho, resolve, invoke, builtin, Sem.run_bind, Sem.run_pure, Result.andThen_ok, List.map_toArray, List.map_cons, List.map_nil, hs, hx, hrun]
  exact hK _ _ (h v' w' h2 h3 (by
    rcases h4 with q | q
    · exact .inl q
    · exact .inr fun j hj => by rw [q] at hj; cases hj; exact Nat.le_refl _))
set_option maxHeartbeats 1000000 in
theorem split_over (A : Option Addr) (n c : Nat) (css : List (Cells 4)) (ps : List Pcl) (k1 k2 : Nat) (p : Pcl → Bool) (w : World) (h : RowE pc4 w w.heap.size A css) (h2 : All2 (PcC w w.heap.size) css ps) (hn : ps.length = n) (hm : n * 48 ≤ 140737488355328)
    (HF : ∀ (i : Nat) (hi : i < ps.length) (w' : World), Below w.heap.size w w' → ∀ Af nf cf, Calls Try.prog 61 #[.agg #[.int .i64 (ps[i]).num, .int .i64 (ps[i]).time, .int .i64 (ps[i]).size, .slice Af nf cf], .pointer (some ⟨k1, 0, none⟩), .pointer (some ⟨k2, 0, none⟩)] w' fun e w'' => e = .returned (.bool (p ps[i])) ∧ Below w'.heap.size w' w'') :
    Calls Try.prog 51 #[.slice A n c, .func (.func 61) #[] #[.pointer (some ⟨k1, 0, none⟩), .pointer (some ⟨k2, 0, none⟩)]] w fun e w' => ∃ u1 u2, e = .returned (.tuple #[u1, u2]) ∧ SplI w w' u1 u2 (sel p css ps) (sel (fun q => !p q) css ps) := by
  obtain ⟨i0, hi0, hz0, hz1, hz2⟩ := info_partsE infoP4
  have HI := Lib.hid hi0
  have HZ := Lib.hid hz0
  have HZ1 := Lib.hid hz1
  have HZ2 := Lib.hid hz2
  have HR := Lib.hid h
  have HN := Lib.hid hn
  have HFF := Lib.hid HF
  have HA := Lib.hid h2
  have HM := Lib.hid hm
  have HLC := Lib.hid (show css.length = n from by rw [h2.len, hn])
  have K0 := Lib.hid (show SplI w w (.slice none 0 0) (.slice none 0 0) (sel p (css.take 0) (ps.take 0)) (sel (fun q => !p q) (css.take 0) (ps.take 0)) from ⟨OwnE.nil _ _ _, OwnE.nil _ _ _, Below.refl _ _, fun j h => by cases h⟩)
  clear h hn HF h2 hm hi0 hz0 hz1 hz2
  go_enter Try.func51, Try.ntmps51
  go_wp2_with fail
  go_loopg [10, 4, 5] n (fun gq iv v1 v2 wr => ∃ k : Nat, iv = .int .i64 k ∧ k + gq = n ∧ Hid (SplI w wr v1 v2 (sel p (css.take k) (ps.take k)) (sel (fun q => !p q) (css.take k) (ps.take k))))
  case atStart => exact ⟨0, rfl, by omega, K0⟩
  case round =>
    obtain ⟨k, rfl, hkg, KI⟩ := hrel
    obtain ⟨X, hX⟩ : ∃ X, X = wr := ⟨_, rfl⟩
    subst hX
    clear K0
    by_cases hlt : k < n
    · have hkp : k < ps.length := by rw [HN.out]; exact hlt
      have hkc : k < css.length := by rw [HLC.out]; exact hlt
      have HIF0 := Lib.hid (fun w' hb => HFF.out k hkp w' hb)
      obtain ⟨b, off, v, hA, hbl, hF, c0, c1, c2, c3, hcl⟩ := pc_cells2 HR.out HA.out k hkc hkp
      subst hA
      obtain ⟨Af, cf, cf2, hvf, hf1, hf2, hf3, hf4⟩ := hF.ex
      obtain ⟨nf, hnf⟩ : ∃ n, (ps[k]).frs.length = n := ⟨_, rfl⟩
      rw [hnf] at hvf
      subst hvf
      clear hnf hF hf1 hf2 hf3 hf4 cf2
      have y0 := (KI.out.b.cell (p := ⟨b, off + k * 4, none⟩) hbl).trans c0
      have y1 := (KI.out.b.cell (p := ⟨b, off + k * 4 + 1, none⟩) hbl).trans c1
      have y2 := (KI.out.b.cell (p := ⟨b, off + k * 4 + 2, none⟩) hbl).trans c2
      have y3 := (KI.out.b.cell (p := ⟨b, off + k * 4 + 3, none⟩) hbl).trans c3
      have HIF := Lib.hid (fun w' hb => HIF0.out w' hb Af nf cf)
      have HS1 := Lib.hid (sel_snoc p css ps k hkc hkp)
      have HS2 := Lib.hid (sel_snoc (fun q => !p q) css ps k hkc hkp)
      have HL1 := Lib.hid (sel_le p (css.take k) (ps.take k) k (by rw [List.length_take]; omega))
      have HL2 := Lib.hid (sel_le (fun q => !p q) (css.take k) (ps.take k) k (by rw [List.length_take]; omega))
      have HNB := Lib.hid (show (k + 1) * 48 ≤ 140737488355328 by have := HM.out; omega)
      clear c0 c1 c2 c3 HIF0
      obtain ⟨L1, hL1⟩ : ∃ x, sel p (css.take k) (ps.take k) = x := ⟨_, rfl⟩
      obtain ⟨L2, hL2⟩ : ∃ x, sel (fun q => !p q) (css.take k) (ps.take k) = x := ⟨_, rfl⟩
      rw [hL1] at HL1 HS1 KI
      rw [hL2] at HL2 HS2 KI
      obtain ⟨ck, hck⟩ : ∃ x, css[k] = x := ⟨_, rfl⟩
      obtain ⟨q, hq⟩ : ∃ x, ps[k] = x := ⟨_, rfl⟩
      rw [hck] at hcl HS1 HS2
      rw [hq] at y0 y1 y2 HIF hcl HS1 HS2
      obtain ⟨num, hnum⟩ : ∃ x, q.num = x := ⟨_, rfl⟩
      obtain ⟨time, htime⟩ : ∃ x, q.time = x := ⟨_, rfl⟩
      obtain ⟨size, hsize⟩ : ∃ x, q.size = x := ⟨_, rfl⟩
      rw [hnum, htime, hsize] at hcl HIF
      rw [hnum] at y0
      rw [htime] at y1
      rw [hsize] at y2
      have HCL := Lib.hid hcl
      obtain ⟨A1, c1, hv1, _, _, _⟩ := KI.out.o1.slice
      obtain ⟨A2, c2, hv2, _, _, _⟩ := KI.out.o2.slice
      obtain ⟨n1, hn1⟩ : ∃ x, L1.length = x := ⟨_, rfl⟩
      obtain ⟨n2, hn2⟩ : ∃ x, L2.length = x := ⟨_, rfl⟩
      rw [hn1] at hv1
      rw [hn2] at hv2
      have HN1 := Lib.hid (show L1.length ≤ k from HL1.out)
      have HN2 := Lib.hid (show L2.length ≤ k from HL2.out)
      subst hv1
      subst hv2
      obtain ⟨ok, hok⟩ : ∃ x, p q = x := ⟨_, rfl⟩
      rw [hok] at HIF HS1 HS2
      have hki : (k : Int) < (n : Int) := by omega
      have hn48 : n ≤ 2932031007402 := by have := HM.out; omega
      have AB := Lib.hid ((Below.refl X.heap.size X).alloc (Nat.le_refl _) (.cells #[.int .i64 num, .int .i64 time, .int .i64 size, .slice Af nf cf] 54))
      have PB := Lib.hid (heap_alloc_new X (.cells #[.int .i64 num, .int .i64 time, .int .i64 size, .slice Af nf cf] 54))
      have YB := Lib.hid (KI.out.b.trans (AB.out.mono KI.out.b.size))
      clear hL1 hL2 hck hq hnum htime hsize hcl hn1 hn2 hok
      go_wp2_with fail
      refine (HIF.out _ YB.out).mono ?_
      rintro e w4 ⟨rfl, b4⟩
      have K4 := Lib.hid ((KI.out.on AB.out).on b4)
      have P4 := Lib.hid ((b4.block _ (lt_of_block PB.out)).trans PB.out)
      clear b4 y0 y1 y2 y3
      obtain ⟨z0, z1, z2, z3⟩ := pc4D P4.out
      cases ok with
      | true =>
        simp only [Bool.not_true, Bool.false_eq_true, if_false, if_true, List.append_nil] at HS1 HS2
        have NB := Lib.hid (RowE.one (E := pc4) w4 ck #[.int .i64 num, .int .i64 time, .int .i64 size, .slice Af nf cf] 54 w4.heap.size rfl HCL.out.symm)
        have BN := Lib.hid ((Below.refl w4.heap.size w4).alloc (Nat.le_refl _) (.cells #[.int .i64 num, .int .i64 time, .int .i64 size, .slice Af nf cf] 54))
        go_wp2_with (at_builtin; (refine wpList_appE3 _ rfl (.tmp 17) (.tmp 19) _ rfl w.heap.size 54 i0 _ 48 Try.underlying45 HI.out HZ.out HZ1.out HZ2.out rfl (by decide) (.slice A1 n1 c1) _ rfl (OwnE.later K4.out.o1 BN.out) _ (some ⟨w4.heap.size, 0, none⟩) 1 1 [ck] rfl NB.out rfl (by have := HN1.out; have := HNB.out; omega) (Nat.le_trans K4.out.b.size BN.out.size) ?_; intro v9 w9 own9 gr9 nb9; have O9 := Lib.hid own9; have G9 := Lib.hid gr9; have NB9 := Lib.hid nb9; clear own9 gr9 nb9))
        have K4B := Lib.hid (K4.out.on BN.out)
        have KN := (K4B.out.put1 O9.out G9.out (w4 := w4) (by rcases NB9.out with q | q; exact .inl q; exact .inr (fun j hj => Nat.le_trans BN.out.size (q j hj))) K4.out.lt)
        rw [← HS1.out, ← HS2.out] at KN
        have KN := Lib.hid KN
        go_roundg (gk - 1)
        case measure => omega
        case rel => exact ⟨k + 1, by first | rfl | go_num, by omega, KN⟩
      | false =>
        simp only [Bool.not_false, Bool.false_eq_true, if_false, if_true, List.append_nil] at HS1 HS2
        have NB := Lib.hid (RowE.one (E := pc4) w4 ck #[.int .i64 num, .int .i64 time, .int .i64 size, .slice Af nf cf] 54 w4.heap.size rfl HCL.out.symm)
        have BN := Lib.hid ((Below.refl w4.heap.size w4).alloc (Nat.le_refl _) (.cells #[.int .i64 num, .int .i64 time, .int .i64 size, .slice Af nf cf] 54))
        go_wp2_with (at_builtin; (refine wpList_appE3 _ rfl (.tmp 21) (.tmp 23) _ rfl w.heap.size 54 i0 _ 48 Try.underlying45 HI.out HZ.out HZ1.out HZ2.out rfl (by decide) (.slice A2 n2 c2) _ rfl (OwnE.later K4.out.o2 BN.out) _ (some ⟨w4.heap.size, 0, none⟩) 1 1 [ck] rfl NB.out rfl (by have := HN2.out; have := HNB.out; omega) (Nat.le_trans K4.out.b.size BN.out.size) ?_; intro v9 w9 own9 gr9 nb9; have O9 := Lib.hid own9; have G9 := Lib.hid gr9; have NB9 := Lib.hid nb9; clear own9 gr9 nb9))
        have K4B := Lib.hid (K4.out.on BN.out)
        have KN := (K4B.out.put2 O9.out G9.out (w4 := w4) (by rcases NB9.out with q | q; exact .inl q; exact .inr (fun j hj => Nat.le_trans BN.out.size (q j hj))) K4.out.lt)
        rw [← HS1.out, ← HS2.out] at KN
        have KN := Lib.hid KN
        go_roundg (gk - 1)
        case measure => omega
        case rel => exact ⟨k + 1, by first | rfl | go_num, by omega, KN⟩
    · have hkn : k = n := by omega
      subst k
      obtain rfl : gk = 0 := by omega
      have KK := KI.out
      rw [List.take_of_length_le (by rw [HLC.out]; exact Nat.le_refl _), List.take_of_length_le (by rw [HN.out]; exact Nat.le_refl _)] at KK
      have KD := Lib.hid KK
      clear KK
      go_wp2_with fail
      go_ret2
      exact ⟨_, _, rfl, KD.out⟩
set_option maxHeartbeats 1000000 in
theorem split_ack1 (A : Option Addr) (n c : Nat) (css : List (Cells 4)) (ps : List Pcl) (k1 : Nat) (p : Pcl → Bool) (w : World) (h : RowE pc4 w w.heap.size A css) (h2 : All2 (PcC w w.heap.size) css ps) (hn : ps.length = n) (hm : n * 48 ≤ 140737488355328)
    (HF : ∀ (i : Nat) (hi : i < ps.length) (w' : World), Below w.heap.size w w' → ∀ Af nf cf, Calls Try.prog 52 #[.agg #[.int .i64 (ps[i]).num, .int .i64 (ps[i]).time, .int .i64 (ps[i]).size, .slice Af nf cf], .pointer (some ⟨k1, 0, none⟩)] w' fun e w'' => e = .returned (.bool (p ps[i])) ∧ Below w'.heap.size w' w'') :
    Calls Try.prog 51 #[.slice A n c, .func (.func 52) #[] #[.pointer (some ⟨k1, 0, none⟩)]] w fun e w' => ∃ u1 u2, e = .returned (.tuple #[u1, u2]) ∧ SplI w w' u1 u2 (sel p css ps) (sel (fun q => !p q) css ps) := by
  obtain ⟨i0, hi0, hz0, hz1, hz2⟩ := info_partsE infoP4
  have HI := Lib.hid hi0
  have HZ := Lib.hid hz0
  have HZ1 := Lib.hid hz1
  have HZ2 := Lib.hid hz2
  have HR := Lib.hid h
  have HN := Lib.hid hn
  have HFF := Lib.hid HF
  have HA := Lib.hid h2
  have HM := Lib.hid hm
  have HLC := Lib.hid (show css.length = n from by rw [h2.len, hn])
  have K0 := Lib.hid (show SplI w w (.slice none 0 0) (.slice none 0 0) (sel p (css.take 0) (ps.take 0)) (sel (fun q => !p q) (css.take 0) (ps.take 0)) from ⟨OwnE.nil _ _ _, OwnE.nil _ _ _, Below.refl _ _, fun j h => by cases h⟩)
  clear h hn HF h2 hm hi0 hz0 hz1 hz2
  go_enter Try.func51, Try.ntmps51
  go_wp2_with fail
  go_loopg [10, 4, 5] n (fun gq iv v1 v2 wr => ∃ k : Nat, iv = .int .i64 k ∧ k + gq = n ∧ Hid (SplI w wr v1 v2 (sel p (css.take k) (ps.take k)) (sel (fun q => !p q) (css.take k) (ps.take k))))
  case atStart => exact ⟨0, rfl, by omega, K0⟩
  case round =>
    obtain ⟨k, rfl, hkg, KI⟩ := hrel
    obtain ⟨X, hX⟩ : ∃ X, X = wr := ⟨_, rfl⟩
    subst hX
    clear K0
    by_cases hlt : k < n
    · have hkp : k < ps.length := by rw [HN.out]; exact hlt
      have hkc : k < css.length := by rw [HLC.out]; exact hlt
      have HIF0 := Lib.hid (fun w' hb => HFF.out k hkp w' hb)
      obtain ⟨b, off, v, hA, hbl, hF, c0, c1, c2, c3, hcl⟩ := pc_cells2 HR.out HA.out k hkc hkp
      subst hA
      obtain ⟨Af, cf, cf2, hvf, hf1, hf2, hf3, hf4⟩ := hF.ex
      obtain ⟨nf, hnf⟩ : ∃ n, (ps[k]).frs.length = n := ⟨_, rfl⟩
      rw [hnf] at hvf
      subst hvf
      clear hnf hF hf1 hf2 hf3 hf4 cf2
      have y0 := (KI.out.b.cell (p := ⟨b, off + k * 4, none⟩) hbl).trans c0
      have y1 := (KI.out.b.cell (p := ⟨b, off + k * 4 + 1, none⟩) hbl).trans c1
      have y2 := (KI.out.b.cell (p := ⟨b, off + k * 4 + 2, none⟩) hbl).trans c2
      have y3 := (KI.out.b.cell (p := ⟨b, off + k * 4 + 3, none⟩) hbl).trans c3
      have HIF := Lib.hid (fun w' hb => HIF0.out w' hb Af nf cf)
      have HS1 := Lib.hid (sel_snoc p css ps k hkc hkp)
      have HS2 := Lib.hid (sel_snoc (fun q => !p q) css ps k hkc hkp)
      have HL1 := Lib.hid (sel_le p (css.take k) (ps.take k) k (by rw [List.length_take]; omega))
      have HL2 := Lib.hid (sel_le (fun q => !p q) (css.take k) (ps.take k) k (by rw [List.length_take]; omega))
      have HNB := Lib.hid (show (k + 1) * 48 ≤ 140737488355328 by have := HM.out; omega)
      clear c0 c1 c2 c3 HIF0
      obtain ⟨L1, hL1⟩ : ∃ x, sel p (css.take k) (ps.take k) = x := ⟨_, rfl⟩
      obtain ⟨L2, hL2⟩ : ∃ x, sel (fun q => !p q) (css.take k) (ps.take k) = x := ⟨_, rfl⟩
      rw [hL1] at HL1 HS1 KI
      rw [hL2] at HL2 HS2 KI
      obtain ⟨ck, hck⟩ : ∃ x, css[k] = x := ⟨_, rfl⟩
      obtain ⟨q, hq⟩ : ∃ x, ps[k] = x := ⟨_, rfl⟩
      rw [hck] at hcl HS1 HS2
      rw [hq] at y0 y1 y2 HIF hcl HS1 HS2
      obtain ⟨num, hnum⟩ : ∃ x, q.num = x := ⟨_, rfl⟩
      obtain ⟨time, htime⟩ : ∃ x, q.time = x := ⟨_, rfl⟩
      obtain ⟨size, hsize⟩ : ∃ x, q.size = x := ⟨_, rfl⟩
      rw [hnum, htime, hsize] at hcl HIF
      rw [hnum] at y0
      rw [htime] at y1
      rw [hsize] at y2
      have HCL := Lib.hid hcl
      obtain ⟨A1, c1, hv1, _, _, _⟩ := KI.out.o1.slice
      obtain ⟨A2, c2, hv2, _, _, _⟩ := KI.out.o2.slice
      obtain ⟨n1, hn1⟩ : ∃ x, L1.length = x := ⟨_, rfl⟩
      obtain ⟨n2, hn2⟩ : ∃ x, L2.length = x := ⟨_, rfl⟩
      rw [hn1] at hv1
      rw [hn2] at hv2
      have HN1 := Lib.hid (show L1.length ≤ k from HL1.out)
      have HN2 := Lib.hid (show L2.length ≤ k from HL2.out)
      subst hv1
      subst hv2
      obtain ⟨ok, hok⟩ : ∃ x, p q = x := ⟨_, rfl⟩
      rw [hok] at HIF HS1 HS2
      have hki : (k : Int) < (n : Int) := by omega
      have hn48 : n ≤ 2932031007402 := by have := HM.out; omega
      have AB := Lib.hid ((Below.refl X.heap.size X).alloc (Nat.le_refl _) (.cells #[.int .i64 num, .int .i64 time, .int .i64 size, .slice Af nf cf] 54))
      have PB := Lib.hid (heap_alloc_new X (.cells #[.int .i64 num, .int .i64 time, .int .i64 size, .slice Af nf cf] 54))
      have YB := Lib.hid (KI.out.b.trans (AB.out.mono KI.out.b.size))
      clear hL1 hL2 hck hq hnum htime hsize hcl hn1 hn2 hok
      go_wp2_with fail
      refine (HIF.out _ YB.out).mono ?_
      rintro e w4 ⟨rfl, b4⟩
      have K4 := Lib.hid ((KI.out.on AB.out).on b4)
      have P4 := Lib.hid ((b4.block _ (lt_of_block PB.out)).trans PB.out)
      clear b4 y0 y1 y2 y3
      obtain ⟨z0, z1, z2, z3⟩ := pc4D P4.out
      cases ok with
      | true =>
        simp only [Bool.not_true, Bool.false_eq_true, if_false, if_true, List.append_nil] at HS1 HS2
        have NB := Lib.hid (RowE.one (E := pc4) w4 ck #[.int .i64 num, .int .i64 time, .int .i64 size, .slice Af nf cf] 54 w4.heap.size rfl HCL.out.symm)
        have BN := Lib.hid ((Below.refl w4.heap.size w4).alloc (Nat.le_refl _) (.cells #[.int .i64 num, .int .i64 time, .int .i64 size, .slice Af nf cf] 54))
        go_wp2_with (at_builtin; (refine wpList_appE3 _ rfl (.tmp 17) (.tmp 19) _ rfl w.heap.size 54 i0 _ 48 Try.underlying45 HI.out HZ.out HZ1.out HZ2.out rfl (by decide) (.slice A1 n1 c1) _ rfl (OwnE.later K4.out.o1 BN.out) _ (some ⟨w4.heap.size, 0, none⟩) 1 1 [ck] rfl NB.out rfl (by have := HN1.out; have := HNB.out; omega) (Nat.le_trans K4.out.b.size BN.out.size) ?_; intro v9 w9 own9 gr9 nb9; have O9 := Lib.hid own9; have G9 := Lib.hid gr9; have NB9 := Lib.hid nb9; clear own9 gr9 nb9))
        have K4B := Lib.hid (K4.out.on BN.out)
        have KN := (K4B.out.put1 O9.out G9.out (w4 := w4) (by rcases NB9.out with q | q; exact .inl q; exact .inr (fun j hj => Nat.le_trans BN.out.size (q j hj))) K4.out.lt)
        rw [← HS1.out, ← HS2.out] at KN
        have KN := Lib.hid KN
        go_roundg (gk - 1)
        case measure => omega
        case rel => exact ⟨k + 1, by first | rfl | go_num, by omega, KN⟩
      | false =>
        simp only [Bool.not_false, Bool.false_eq_true, if_false, if_true, List.append_nil] at HS1 HS2
        have NB := Lib.hid (RowE.one (E := pc4) w4 ck #[.int .i64 num, .int .i64 time, .int .i64 size, .slice Af nf cf] 54 w4.heap.size rfl HCL.out.symm)
        have BN := Lib.hid ((Below.refl w4.heap.size w4).alloc (Nat.le_refl _) (.cells #[.int .i64 num, .int .i64 time, .int .i64 size, .slice Af nf cf] 54))
        go_wp2_with (at_builtin; (refine wpList_appE3 _ rfl (.tmp 21) (.tmp 23) _ rfl w.heap.size 54 i0 _ 48 Try.underlying45 HI.out HZ.out HZ1.out HZ2.out rfl (by decide) (.slice A2 n2 c2) _ rfl (OwnE.later K4.out.o2 BN.out) _ (some ⟨w4.heap.size, 0, none⟩) 1 1 [ck] rfl NB.out rfl (by have := HN2.out; have := HNB.out; omega) (Nat.le_trans K4.out.b.size BN.out.size) ?_; intro v9 w9 own9 gr9 nb9; have O9 := Lib.hid own9; have G9 := Lib.hid gr9; have NB9 := Lib.hid nb9; clear own9 gr9 nb9))
        have K4B := Lib.hid (K4.out.on BN.out)
        have KN := (K4B.out.put2 O9.out G9.out (w4 := w4) (by rcases NB9.out with q | q; exact .inl q; exact .inr (fun j hj => Nat.le_trans BN.out.size (q j hj))) K4.out.lt)
        rw [← HS1.out, ← HS2.out] at KN
        have KN := Lib.hid KN
        go_roundg (gk - 1)
        case measure => omega
        case rel => exact ⟨k + 1, by first | rfl | go_num, by omega, KN⟩
    · have hkn : k = n := by omega
      subst k
      obtain rfl : gk = 0 := by omega
      have KK := KI.out
      rw [List.take_of_length_le (by rw [HLC.out]; exact Nat.le_refl _), List.take_of_length_le (by rw [HN.out]; exact Nat.le_refl _)] at KK
      have KD := Lib.hid KK
      clear KK
      go_wp2_with fail
      go_ret2
      exact ⟨_, _, rfl, KD.out⟩
set_option maxHeartbeats 1000000 in
theorem split_ack2 (A : Option Addr) (n c : Nat) (css : List (Cells 4)) (ps : List Pcl) (k1 : Nat) (p : Pcl → Bool) (w : World) (h : RowE pc4 w w.heap.size A css) (h2 : All2 (PcC w w.heap.size) css ps) (hn : ps.length = n) (hm : n * 48 ≤ 140737488355328)
    (HF : ∀ (i : Nat) (hi : i < ps.length) (w' : World), Below w.heap.size w w' → ∀ Af nf cf, Calls Try.prog 54 #[.agg #[.int .i64 (ps[i]).num, .int .i64 (ps[i]).time, .int .i64 (ps[i]).size, .slice Af nf cf], .pointer (some ⟨k1, 0, none⟩)] w' fun e w'' => e = .returned (.bool (p ps[i])) ∧ Below w'.heap.size w' w'') :
    Calls Try.prog 51 #[.slice A n c, .func (.func 54) #[] #[.pointer (some ⟨k1, 0, none⟩)]] w fun e w' => ∃ u1 u2, e = .returned (.tuple #[u1, u2]) ∧ SplI w w' u1 u2 (sel p css ps) (sel (fun q => !p q) css ps) := by
  obtain ⟨i0, hi0, hz0, hz1, hz2⟩ := info_partsE infoP4
  have HI := Lib.hid hi0
  have HZ := Lib.hid hz0
  have HZ1 := Lib.hid hz1
  have HZ2 := Lib.hid hz2
  have HR := Lib.hid h
  have HN := Lib.hid hn
  have HFF := Lib.hid HF
  have HA := Lib.hid h2
  have HM := Lib.hid hm
  have HLC := Lib.hid (show css.length = n from by rw [h2.len, hn])
  have K0 := Lib.hid (show SplI w w (.slice none 0 0) (.slice none 0 0) (sel p (css.take 0) (ps.take 0)) (sel (fun q => !p q) (css.take 0) (ps.take 0)) from ⟨OwnE.nil _ _ _, OwnE.nil _ _ _, Below.refl _ _, fun j h => by cases h⟩)
  clear h hn HF h2 hm hi0 hz0 hz1 hz2
  go_enter Try.func51, Try.ntmps51
  go_wp2_with fail
  go_loopg [10, 4, 5] n (fun gq iv v1 v2 wr => ∃ k : Nat, iv = .int .i64 k ∧ k + gq = n ∧ Hid (SplI w wr v1 v2 (sel p (css.take k) (ps.take k)) (sel (fun q => !p q) (css.take k) (ps.take k))))
  case atStart => exact ⟨0, rfl, by omega, K0⟩
  case round =>
    obtain ⟨k, rfl, hkg, KI⟩ := hrel
    obtain ⟨X, hX⟩ : ∃ X, X = wr := ⟨_, rfl⟩
    subst hX
    clear K0
    by_cases hlt : k < n
    · have hkp : k < ps.length := by rw [HN.out]; exact hlt
      have hkc : k < css.length := by rw [HLC.out]; exact hlt
      have HIF0 := Lib.hid (fun w' hb => HFF.out k hkp w' hb)
      obtain ⟨b, off, v, hA, hbl, hF, c0, c1, c2, c3, hcl⟩ := pc_cells2 HR.out HA.out k hkc hkp
      subst hA
      obtain ⟨Af, cf, cf2, hvf, hf1, hf2, hf3, hf4⟩ := hF.ex
      obtain ⟨nf, hnf⟩ : ∃ n, (ps[k]).frs.length = n := ⟨_, rfl⟩
      rw [hnf] at hvf
      subst hvf
      clear hnf hF hf1 hf2 hf3 hf4 cf2
      have y0 := (KI.out.b.cell (p := ⟨b, off + k * 4, none⟩) hbl).trans c0
      have y1 := (KI.out.b.cell (p := ⟨b, off + k * 4 + 1, none⟩) hbl).trans c1
      have y2 := (KI.out.b.cell (p := ⟨b, off + k * 4 + 2, none⟩) hbl).trans c2
      have y3 := (KI.out.b.cell (p := ⟨b, off + k * 4 + 3, none⟩) hbl).trans c3
      have HIF := Lib.hid (fun w' hb => HIF0.out w' hb Af nf cf)
      have HS1 := Lib.hid (sel_snoc p css ps k hkc hkp)
      have HS2 := Lib.hid (sel_snoc (fun q => !p q) css ps k hkc hkp)
      have HL1 := Lib.hid (sel_le p (css.take k) (ps.take k) k (by rw [List.length_take]; omega))
      have HL2 := Lib.hid (sel_le (fun q => !p q) (css.take k) (ps.take k) k (by rw [List.length_take]; omega))
      have HNB := Lib.hid (show (k + 1) * 48 ≤ 140737488355328 by have := HM.out; omega)
      clear c0 c1 c2 c3 HIF0
      obtain ⟨L1, hL1⟩ : ∃ x, sel p (css.take k) (ps.take k) = x := ⟨_, rfl⟩
      obtain ⟨L2, hL2⟩ : ∃ x, sel (fun q => !p q) (css.take k) (ps.take k) = x := ⟨_, rfl⟩
      rw [hL1] at HL1 HS1 KI
      rw [hL2] at HL2 HS2 KI
      obtain ⟨ck, hck⟩ : ∃ x, css[k] = x := ⟨_, rfl⟩
      obtain ⟨q, hq⟩ : ∃ x, ps[k] = x := ⟨_, rfl⟩
      rw [hck] at hcl HS1 HS2
      rw [hq] at y0 y1 y2 HIF hcl HS1 HS2
      obtain ⟨num, hnum⟩ : ∃ x, q.num = x := ⟨_, rfl⟩
      obtain ⟨time, htime⟩ : ∃ x, q.time = x := ⟨_, rfl⟩
      obtain ⟨size, hsize⟩ : ∃ x, q.size = x := ⟨_, rfl⟩
      rw [hnum, htime, hsize] at hcl HIF
      rw [hnum] at y0
      rw [htime] at y1
      rw [hsize] at y2
      have HCL := Lib.hid hcl
      obtain ⟨A1, c1, hv1, _, _, _⟩ := KI.out.o1.slice
      obtain ⟨A2, c2, hv2, _, _, _⟩ := KI.out.o2.slice
      obtain ⟨n1, hn1⟩ : ∃ x, L1.length = x := ⟨_, rfl⟩
      obtain ⟨n2, hn2⟩ : ∃ x, L2.length = x := ⟨_, rfl⟩
      rw [hn1] at hv1
      rw [hn2] at hv2
      have HN1 := Lib.hid (show L1.length ≤ k from HL1.out)
      have HN2 := Lib.hid (show L2.length ≤ k from HL2.out)
      subst hv1
      subst hv2
      obtain ⟨ok, hok⟩ : ∃ x, p q = x := ⟨_, rfl⟩
      rw [hok] at HIF HS1 HS2
      have hki : (k : Int) < (n : Int) := by omega
      have hn48 : n ≤ 2932031007402 := by have := HM.out; omega
      have AB := Lib.hid ((Below.refl X.heap.size X).alloc (Nat.le_refl _) (.cells #[.int .i64 num, .int .i64 time, .int .i64 size, .slice Af nf cf] 54))
      have PB := Lib.hid (heap_alloc_new X (.cells #[.int .i64 num, .int .i64 time, .int .i64 size, .slice Af nf cf] 54))
      have YB := Lib.hid (KI.out.b.trans (AB.out.mono KI.out.b.size))
      clear hL1 hL2 hck hq hnum htime hsize hcl hn1 hn2 hok
      go_wp2_with fail
      refine (HIF.out _ YB.out).mono ?_
      rintro e w4 ⟨rfl, b4⟩
      have K4 := Lib.hid ((KI.out.on AB.out).on b4)
      have P4 := Lib.hid ((b4.block _ (lt_of_block PB.out)).trans PB.out)
      clear b4 y0 y1 y2 y3
      obtain ⟨z0, z1, z2, z3⟩ := pc4D P4.out
      cases ok with
      | true =>
        simp only [Bool.not_true, Bool.false_eq_true, if_false, if_true, List.append_nil] at HS1 HS2
        have NB := Lib.hid (RowE.one (E := pc4) w4 ck #[.int .i64 num, .int .i64 time, .int .i64 size, .slice Af nf cf] 54 w4.heap.size rfl HCL.out.symm)
        have BN := Lib.hid ((Below.refl w4.heap.size w4).alloc (Nat.le_refl _) (.cells #[.int .i64 num, .int .i64 time, .int .i64 size, .slice Af nf cf] 54))
        go_wp2_with (at_builtin; (refine wpList_appE3 _ rfl (.tmp 17) (.tmp 19) _ rfl w.heap.size 54 i0 _ 48 Try.underlying45 HI.out HZ.out HZ1.out HZ2.out rfl (by decide) (.slice A1 n1 c1) _ rfl (OwnE.later K4.out.o1 BN.out) _ (some ⟨w4.heap.size, 0, none⟩) 1 1 [ck] rfl NB.out rfl (by have := HN1.out; have := HNB.out; omega) (Nat.le_trans K4.out.b.size BN.out.size) ?_; intro v9 w9 own9 gr9 nb9; have O9 := Lib.hid own9; have G9 := Lib.hid gr9; have NB9 := Lib.hid nb9; clear own9 gr9 nb9))
        have K4B := Lib.hid (K4.out.on BN.out)
        have KN := (K4B.out.put1 O9.out G9.out (w4 := w4) (by rcases NB9.out with q | q; exact .inl q; exact .inr (fun j hj => Nat.le_trans BN.out.size (q j hj))) K4.out.lt)
        rw [← HS1.out, ← HS2.out] at KN
        have KN := Lib.hid KN
        go_roundg (gk - 1)
        case measure => omega
        case rel => exact ⟨k + 1, by first | rfl | go_num, by omega, KN⟩
      | false =>
        simp only [Bool.not_false, Bool.false_eq_true, if_false, if_true, List.append_nil] at HS1 HS2
        have NB := Lib.hid (RowE.one (E := pc4) w4 ck #[.int .i64 num, .int .i64 time, .int .i64 size, .slice Af nf cf] 54 w4.heap.size rfl HCL.out.symm)
        have BN := Lib.hid ((Below.refl w4.heap.size w4).alloc (Nat.le_refl _) (.cells #[.int .i64 num, .int .i64 time, .int .i64 size, .slice Af nf cf] 54))
        go_wp2_with (at_builtin; (refine wpList_appE3 _ rfl (.tmp 21) (.tmp 23) _ rfl w.heap.size 54 i0 _ 48 Try.underlying45 HI.out HZ.out HZ1.out HZ2.out rfl (by decide) (.slice A2 n2 c2) _ rfl (OwnE.later K4.out.o2 BN.out) _ (some ⟨w4.heap.size, 0, none⟩) 1 1 [ck] rfl NB.out rfl (by have := HN2.out; have := HNB.out; omega) (Nat.le_trans K4.out.b.size BN.out.size) ?_; intro v9 w9 own9 gr9 nb9; have O9 := Lib.hid own9; have G9 := Lib.hid gr9; have NB9 := Lib.hid nb9; clear own9 gr9 nb9))
        have K4B := Lib.hid (K4.out.on BN.out)
        have KN := (K4B.out.put2 O9.out G9.out (w4 := w4) (by rcases NB9.out with q | q; exact .inl q; exact .inr (fun j hj => Nat.le_trans BN.out.size (q j hj))) K4.out.lt)
        rw [← HS1.out, ← HS2.out] at KN
        have KN := Lib.hid KN
        go_roundg (gk - 1)
        case measure => omega
        case rel => exact ⟨k + 1, by first | rfl | go_num, by omega, KN⟩
    · have hkn : k = n := by omega
      subst k
      obtain rfl : gk = 0 := by omega
      have KK := KI.out
      rw [List.take_of_length_le (by rw [HLC.out]; exact Nat.le_refl _), List.take_of_length_le (by rw [HN.out]; exact Nat.le_refl _)] at KK
      have KD := Lib.hid KK
      clear KK
      go_wp2_with fail
      go_ret2
      exact ⟨_, _, rfl, KD.out⟩
end Go.Proofs.Ytnccibaifffhhaa
