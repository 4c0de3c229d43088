/- The document's answers on ranges: joined. -/
import Derived.Test.YtgfbonfoimiknaaRefSort
import Derived.Test.YtgfbonfoimiknaaRefWo
import Derived.Deep.LoopGhost
import Derived.StillTailTactics
namespace Go.Proofs.Ytgfbonfoimiknaa
set_option linter.unusedVariables false
open Go.RowKit P

/-- the first k of sorted ranges, those that touch as one -/
def JoinInv (Q : List (Int × Int)) (k : Nat) (C : List (Int × Int)) : Prop :=
  okL C ∧ (∀ m, mem C m ↔ mem (Q.take k) m) ∧ ∀ C0 a b, C = C0 ++ [(a, b)] → ∀ j, k ≤ j → j < Q.length → a ≤ (Q.getD j (0, 0)).1
theorem snoc_inj {C0 C1 : List (Int × Int)} {x y : Int × Int} (h : C0 ++ [x] = C1 ++ [y]) : C0 = C1 ∧ x = y := by
  have := List.append_inj' h rfl
  exact ⟨this.1, by simpa using this.2⟩
theorem ji_new {Q C : List (Int × Int)} {k : Nat} {x : Int × Int} (h : JoinInv Q k C) (hk : k < Q.length) (hx : Q.getD k (0, 0) = x) (hr : okR x) (hs : ∀ i j, i < j → j < Q.length → (Q.getD i (0, 0)).1 ≤ (Q.getD j (0, 0)).1)
    (hg : lastHi (-2) C + 2 ≤ x.1) : JoinInv Q (k + 1) (C ++ [x]) := by
  refine ⟨okFrom_snoc.2 ⟨h.1, hr, hg⟩, fun m => ?_, fun C0 a b e j hj hjl => ?_⟩
  · rw [takeR_snoc Q k hk, mem_app, mem_app, h.2.1 m, hx]
  · obtain ⟨_, e2⟩ := snoc_inj e
    have := hs k j (by omega) hjl
    rw [hx, e2] at this
    exact this
theorem ji_join {Q C0 : List (Int × Int)} {a b : Int} {k : Nat} {x : Int × Int} (h : JoinInv Q k (C0 ++ [(a, b)])) (hk : k < Q.length) (hx : Q.getD k (0, 0) = x) (hr : okR x)
    (hg : x.1 ≤ b + 1) : JoinInv Q (k + 1) (C0 ++ [(a, max b x.2)]) := by
  have ha := h.2.2 C0 a b rfl k (Nat.le_refl _) hk
  rw [hx] at ha
  have ho := okFrom_snoc.1 h.1
  have o1 := ho.2.1.1
  have o2 := ho.2.1.2.1
  have o3 := ho.2.1.2.2
  have r1 := hr.1
  have r2 := hr.2.1
  have r3 := hr.2.2
  simp only at o1 o2 o3
  refine ⟨okFrom_snoc.2 ⟨ho.1, ⟨o1, by simp only; omega, by simp only; omega⟩, ho.2.2⟩, fun m => ?_, fun C1 a' b' e j hj hjl => ?_⟩
  · have hm := h.2.1 m
    rw [mem_app] at hm
    rw [takeR_snoc Q k hk, mem_app, mem_app, ← hm, hx]
    simp only [mem, inR, or_false]
    by_cases c : mem C0 m
    · simp [c]
    · simp only [c, false_or]
      omega
  · obtain ⟨_, e2⟩ := snoc_inj e
    have e3 : a' = a := by simp at e2; exact e2.1.symm
    rw [e3]
    exact h.2.2 C0 a b rfl j (by omega) hjl
theorem ji_end {Q C D : List (Int × Int)} (h : JoinInv Q Q.length C) (hp : Q.Perm D) : okL C ∧ ∀ m, mem C m ↔ mem D m := by
  refine ⟨h.1, fun m => ?_⟩
  rw [h.2.1 m, List.take_length, mem_iff, mem_iff]
  exact ⟨fun ⟨x, hx, hi⟩ => ⟨x, hp.mem_iff.1 hx, hi⟩, fun ⟨x, hx, hi⟩ => ⟨x, hp.mem_iff.2 hx, hi⟩⟩
theorem cells_last (C0 : List (Int × Int)) (a b m : Int) : (cellsR (C0 ++ [(a, b)])).set (C0.length * 2 + 1) (.int .i64 m) = cellsR (C0 ++ [(a, m)]) := by
  rw [cellsR_app, cellsR_app, List.set_append_right _ _ (by rw [cellsR_len]; omega), cellsR_len, show C0.length * 2 + 1 - C0.length * 2 = 1 by omega]
  rfl

theorem last_cases (C : List (Int × Int)) : C = [] ∨ ∃ C0 a b, C = C0 ++ [(a, b)] := by
  rcases List.eq_nil_or_concat C with h | ⟨C0, x, h⟩
  · exact .inl h
  · exact .inr ⟨C0, x.1, x.2, by rw [h, List.concat_eq_append]⟩

theorem frozen_of_row' {w : World} {g : Nat} {cs : Array Value} {t : TypeId} (h : w.heap[g]? = some (.cells cs t (0, 0))) (i : Nat) : w.frozen? ⟨g, i, none⟩ = false := by
  simp [World.frozen?, h]
theorem own_form {w : World} {base : Nat} {e : TypeId} {v : Value} {qs : List (Int × Int)} (h : OwnR w base e v qs) (hp : 0 < qs.length) : ∃ g c, v = .slice (some ⟨g, 0, none⟩) qs.length c := by
  rcases h.2 with ⟨_, h0⟩ | ⟨g, cap, cur, hv, _⟩
  · omega
  · exact ⟨g, cap, hv⟩
theorem own_set {w : World} {base : Nat} {e : TypeId} {v : Value} {D : List (Int × Int)} (h : OwnR w base e v D) {p : Addr} (hp : p.block < base) (u : Value) : OwnR (w.setCell p u) base e v D := ownsRow_setCell_below h hp u
theorem cell_set {w : World} {g : Nat} {u : Value} {t : TypeId} (h : w.heap[g]? = some (.cells #[u] t (0, 0))) (v : Value) : (w.setCell ⟨g, 0, none⟩ v).cell? ⟨g, 0, none⟩ = some v := by
  have : (w.setCell ⟨g, 0, none⟩ v).heap[g]? = some (.cells #[v] t (0, 0)) := by simp [World.setCell, Array.getElem?_modify, h]
  rw [cell_of_row _ g 0 _ _ _ this]
  rfl
theorem sort_all (base blk c Bs : Nat) (ps : List (Int × Int)) (n : Nat) (w : World) (h : OwnR w base 80 (.slice (some ⟨blk, 0, none⟩) n c) ps) (hl : ps.length = n) (h1 : 1 ≤ n) (hb : base ≤ w.heap.size) (hsz : n < 4611686018427387904)
    (hBs : w.cell? ⟨Bs, 0, none⟩ = some (.slice (some ⟨blk, 0, none⟩) n c)) (hB2 : Bs ≠ blk) :
    Calls Try.prog 142 #[.iface 25 (.slice (some ⟨blk, 0, none⟩) n c), .func (.func 143) #[] #[.pointer (some ⟨Bs, 0, none⟩)]] w (SortPost base blk ps w) := by
  subst hl
  by_cases h2 : 2 ≤ ps.length
  · exact sort_any base blk c Bs ps w h hb h2 hsz hBs hB2
  · exact sort_tiny base blk c Bs ps w h hb (by omega)
theorem own_later {w w' : World} {base : Nat} {e : TypeId} {v : Value} {D : List (Int × Int)} (h : OwnR w base e v D) (hb : Below w.heap.size w w') : OwnR w' base e v D := by
  have hlt := h.lt
  refine ⟨h.1, ?_⟩
  rcases h.2 with h0 | ⟨g, cap, cur, hv, h2, h3, h4⟩
  · exact .inl h0
  · exact .inr ⟨g, cap, cur, hv, h2, (hb.block g (by subst hv; exact (hlt g rfl).2)).trans h3, h4⟩
theorem own_last {w : World} {base : Nat} {e : TypeId} {g M c : Nat} {a b : Int} {C0 : List (Int × Int)} (h : OwnR w base e (.slice (some ⟨g, 0, none⟩) M c) (C0 ++ [(a, b)])) (hM : C0.length + 1 = M) :
    w.frozen? ⟨g, (M - 1) * 2 + 1, none⟩ = false ∧ base ≤ g ∧ ∀ m, OwnR (w.setCell ⟨g, (M - 1) * 2 + 1, none⟩ (.int .i64 m)) base e (.slice (some ⟨g, 0, none⟩) M c) (C0 ++ [(a, m)]) := by
  have hle : ∀ m, (C0 ++ [(a, m)]).length = M := fun m => by simp; omega
  have h' : w.ownsRow base e 2 (.slice (some ⟨g, 0, none⟩) M c) M (cellsR (C0 ++ [(a, b)])) := by
    unfold OwnR at h
    rw [hle] at h
    exact h
  refine ⟨h'.frozenAt _, (h.lt g rfl).1, fun m => ?_⟩
  have := (h'.stored ((M - 1) * 2 + 1) (.int .i64 m)).1
  rw [show M - 1 = C0.length by omega, cells_last] at this
  unfold OwnR
  rw [hle, show M - 1 = C0.length by omega]
  exact this
def JoinedPost (D : List (Int × Int)) (w : World) (e : Ending) (w' : World) : Prop :=
  ∃ (v' : Value) (C : List (Int × Int)), e = .returned v' ∧ OwnR w' w.heap.size 80 v' C ∧ okL C ∧ (∀ m, mem C m ↔ mem D m) ∧ Below w.heap.size w w'

set_option maxRecDepth 100000 in
set_option maxHeartbeats 1600000 in
theorem joined_any (A : Option Addr) (n c : Nat) (D : List (Int × Int)) (w : World) (h : RRow w w.heap.size A D) (hl : D.length = n) (hok : ∀ x ∈ D, okR x) (h1 : 1 ≤ n) (hm : n * 16 ≤ 140737488355328) :
    Calls Try.prog 126 #[.slice A n c] w (JoinedPost D w) := by
  have hbox := (Below.refl w.heap.size w).alloc (Nat.le_refl _) (.cells #[.slice A n c] 25)
  have HBX := Lib.hid hbox
  have HR := Lib.hid ((h.below hbox).below (B := w.heap.size) ((Below.refl _ _).alloc (by simp) (.cells #[] 80)))
  have HL := Lib.hid hl
  have HK := Lib.hid hok
  obtain ⟨i0, hi0, hz0, hz1, hz2⟩ := info_parts infoR
  have HI := Lib.hid hi0
  have HZ := Lib.hid hz0
  have HZ1 := Lib.hid hz1
  have HZ2 := Lib.hid hz2
  have own0 : OwnR ((w.alloc (.cells #[.slice A n c] 25)).alloc (.cells #[] 80)) (w.heap.size + 1) 80 (.slice (some ⟨w.heap.size + 1, 0, none⟩) 0 0) [] :=
    ⟨rfl, .inr ⟨w.heap.size + 1, 0, #[], rfl, Nat.le_refl _, by have := heap_alloc_new (w.alloc (.cells #[.slice A n c] 25)) (.cells #[] 80); simpa using this, Nat.le_refl _, by unfold maxLen; omega, rfl, rfl⟩⟩
  have O0 := Lib.hid own0
  have hx0 : ((w.alloc (.cells #[.slice A n c] 25)).alloc (.cells #[] 80)).heap[w.heap.size]? = some (.cells #[.slice A n c] 25 (0, 0)) := by
    show ((w.heap.push _).push _)[w.heap.size]? = _; rw [Array.getElem?_push]; simp
  have HX0 := Lib.hid hx0
  clear h hl hok hbox hi0 hz0 hz1 hz2 own0 hx0
  go_enter Try.func126, Try.ntmps126
  go_wp2_with (first
    | (at_builtin
       refine wpList_appR _ rfl (.tmp 7) (.tmp 8) _ rfl (w.heap.size + 1) 80 i0 _ Try.underlying25 HI.out HZ.out HZ1.out HZ2.out rfl (.slice (some ⟨w.heap.size + 1, 0, none⟩) 0 0) [] rfl O0.out w.heap.size A n c D rfl HR.out HL.out (by simp; omega) (by simp) ?_
       intro v1 w1 own1 g1
       have hx1 := Lib.hid ((g1.block w.heap.size (by simp; omega) (by simp [Value.ownBlock])).trans HX0.out)
       have O1 := Lib.hid own1
       have HB1 := Lib.hid ((HBX.out.alloc (by simp) (.cells #[] 80)).grown g1 (by simp; omega) (fun k hk => Nat.le_of_succ_le (O0.out.lt k hk).1))
       obtain ⟨g, cap, hv1⟩ : ∃ g cap, v1 = .slice (some ⟨g, 0, none⟩) n cap := by
         obtain ⟨g, cap, e⟩ := own_form own1 (by simp [HL.out]; omega)
         exact ⟨g, cap, by rw [e]; simp [HL.out]⟩
       subst hv1
       have f0 := frozen_of_row' hx1.out 0
       have c1 : w1.cell? ⟨w.heap.size, 0, none⟩ = some (.slice A n c) := by rw [cell_of_row _ _ 0 _ _ _ hx1.out]; rfl
       have hg := Lib.hid (fun e => by have := (O1.out.lt g rfl).1; omega : w.heap.size ≠ g)
       have OS := Lib.hid (own_set (show OwnR w1 (w.heap.size + 1) 80 (.slice (some ⟨g, 0, none⟩) n cap) D from O1.out) (p := ⟨w.heap.size, 0, none⟩) (Nat.lt_succ_self _) (.slice (some ⟨g, 0, none⟩) n cap))
       have cs := cell_set hx1.out (.slice (some ⟨g, 0, none⟩) n cap)
       have HBS := Lib.hid (HB1.out.setCell (p := ⟨w.heap.size, 0, none⟩) (Nat.le_refl _) (.slice (some ⟨g, 0, none⟩) n cap))
       clear own1 g1)
    | (go_at_call 142
       refine (sort_all (w.heap.size + 1) g cap w.heap.size D n _ OS.out HL.out h1 (by have := HB1.out.size; have := World.block_lt_of_cell? _ _ cs; simp at this ⊢; omega) (by omega) cs hg.out).mono ?_
       rintro e w2 ⟨rfl, Q, hperm, hsort, rq, hb2, hz2, hkeep⟩
       have HP := Lib.hid hperm
       have HS := Lib.hid hsort
       have RQ := Lib.hid rq
       have HB2 := Lib.hid (HBS.out.trans (hb2.mono (by omega)))
       have c2 := hkeep ⟨w.heap.size, 0, none⟩ _ cs hg.out
       clear hperm hsort rq hb2 hz2 hkeep))
  have HQL := Lib.hid (HP.out.length_eq.trans HL.out : Q.length = n)
  have HQK := Lib.hid (fun x hx => HK.out x (HP.out.mem_iff.1 hx) : ∀ x ∈ Q, okR x)
  have hw2 := HB2.out.size
  clear f0 cs c1 c2
  go_loopg [3, 16] n (fun gg v i wr => ∃ (k : Nat) (C : List (Int × Int)), k + gg = n ∧ i = .int .i64 k ∧ C.length ≤ k ∧ Hid (JoinInv Q k C) ∧ Hid (OwnR wr w2.heap.size 80 v C) ∧ Below w2.heap.size w2 wr)
  case atStart => exact ⟨0, [], by omega, rfl, Nat.le_refl _, ⟨trivial, fun m => Iff.rfl, fun C0 a b e => by simp at e⟩, OwnR.nil _ _ _, Below.refl _ _⟩
  case round =>
    obtain ⟨k, C, hk, rfl, hC, JI, O3, hb⟩ := hrel
    have HB := Lib.hid hb
    have hbs := hb.size
    clear hb
    by_cases hlt : k < n
    · obtain ⟨b', off, e', hbb, hc⟩ := (RQ.out.below HB.out) (by rw [HQL.out]; omega)
      have e2 : b' = g ∧ off = 0 := by simp at e'; exact ⟨e'.1.symm, e'.2.symm⟩
      obtain ⟨rfl, rfl⟩ := e2
      clear e'
      obtain ⟨d0, d1⟩ := hc k (by rw [HQL.out]; omega)
      have hxk : Q.getD k (0, 0) ∈ Q := getR_mem Q k (by rw [HQL.out]; omega)
      have hokx := HQK.out _ hxk
      obtain ⟨⟨xl, xh⟩, hq⟩ : ∃ p, Q.getD k (0, 0) = p := ⟨_, rfl⟩
      rw [hq] at d0 d1 hokx
      simp only [Nat.zero_add] at d0 d1
      have HX := Lib.hid hokx
      have HQ := Lib.hid hq
      obtain ⟨x0, x1, x2⟩ := hokx
      simp only at x0 x1 x2
      have i1 : (k : Int) < (n : Int) := by omega
      clear hc hxk hq
      have BX := Lib.hid ((Below.refl wr.heap.size wr).alloc (Nat.le_refl _) (.cells #[.int .i64 xl, .int .i64 xh] 80))
      have OX := Lib.hid (O3.out.alloc (.cells #[.int .i64 xl, .int .i64 xh] 80))
      have ZX : (wr.alloc (.cells #[.int .i64 xl, .int .i64 xh] 80)).heap.size = wr.heap.size + 1 := by simp
      have y0 : (wr.alloc (.cells #[.int .i64 xl, .int .i64 xh] 80)).cell? ⟨wr.heap.size, 0, none⟩ = some (.int .i64 xl) := by simp
      have y1 : (wr.alloc (.cells #[.int .i64 xl, .int .i64 xh] 80)).cell? ⟨wr.heap.size, 1, none⟩ = some (.int .i64 xh) := by simp
      have Y0 := Lib.hid y0
      have Y1 := Lib.hid y1
      have HZX := Lib.hid ZX
      clear y0 y1 ZX
      rcases last_cases C with rfl | ⟨C0, a, b, rfl⟩
      · obtain ⟨A', c', hv, _, _, _⟩ := O3.out.slice
        subst hv
        have JN := Lib.hid (ji_new JI.out (by rw [HQL.out]; omega) HQ.out HX.out HS.out (by show (-2 : Int) + 2 ≤ xl; omega))
        go_wp2_with fail
        refine wp_region_ext (by kernel_rfl) (by kernel_rfl) ?_
        repeat (go_big_quiet_step (fail))
        refine wpQuiet_nil ?_
        intro w3 hb3
        have q0 := (hb3.cell (p := ⟨wr.heap.size, 0, none⟩) (by rw [HZX.out]; simp)).trans Y0.out
        have q1 := (hb3.cell (p := ⟨wr.heap.size, 1, none⟩) (by rw [HZX.out]; simp)).trans Y1.out
        have O4 := Lib.hid (own_later OX.out hb3)
        have B3 := Lib.hid (HB.out.trans ((BX.out.trans (hb3.mono (by rw [HZX.out]; omega))).mono hbs))
        clear hb3
        go_wp2_with (first
          | (at_builtin
             refine wpList_appR _ rfl (.tmp 50) (.tmp 52) _ rfl w2.heap.size 80 i0 _ Try.underlying25 HI.out HZ.out HZ1.out HZ2.out rfl (.slice A' 0 c') [] rfl (O4.out.alloc _) (w3.heap.size + 1) (some ⟨w3.heap.size, 0, none⟩) 1 1 [(xl, xh)] rfl (RRow.one w3 xl xh 80) rfl (by simp) (by have := B3.out.size; first | (simp; omega) | omega) ?_
             intro v5 w5 own5 g5
             have O5 := Lib.hid own5
             have B5 := Lib.hid ((B3.out.alloc (by have := B3.out.size; omega) _).grown g5 (by have := B3.out.size; simp; omega) (fun k hk => (O4.out.lt k hk).1))
             clear own5 g5))
        go_roundg (gk - 1)
        case measure => omega
        case rel => exact ⟨k + 1, [(xl, xh)], by omega, by go_num, by simp, JN.out, O5.out, B5.out⟩
      · have hle : (C0 ++ [(a, b)]).length = C0.length + 1 := by simp
        obtain ⟨g2, c', hv⟩ := own_form O3.out (by rw [hle]; omega)
        obtain ⟨M, hM⟩ : ∃ M, C0.length + 1 = M := ⟨_, rfl⟩
        rw [hle, hM] at hv
        rw [hle, hM] at hC
        subst hv
        have ow : wr.ownsRow w2.heap.size 80 2 (.slice (some ⟨g2, 0, none⟩) M c') M (cellsR (C0 ++ [(a, b)])) := by
          have h := O3.out
          unfold OwnR at h
          rw [hle, hM] at h
          exact h
        have hlast : (C0 ++ [(a, b)]).getD (M - 1) (0, 0) = (a, b) := by
          rw [show M - 1 = C0.length by omega, List.getD_eq_getElem?_getD]; simp
        obtain ⟨b9, off9, e9, hb9, hc9⟩ := (own_rrow ow).1 (by rw [hle]; omega)
        have e2 : b9 = g2 ∧ off9 = 0 := by simp at e9; exact ⟨e9.1.symm, e9.2.symm⟩
        obtain ⟨rfl, rfl⟩ := e2
        clear e9
        have cb := (hc9 (M - 1) (by rw [hle]; omega)).2
        rw [hlast] at cb
        simp only [Nat.zero_add] at cb
        have OW := Lib.hid ow
        have hob := ok_get JI.out.1 (M - 1) (by rw [hle]; omega)
        rw [hlast] at hob
        obtain ⟨b0, b1, b2⟩ := hob
        simp only at b0 b1 b2
        clear hc9 hlast ow
        have j0 : (0 : Int) ≤ (M : Int) - 1 := by omega
        have j1 : (M : Int) - 1 < (M : Int) := by omega
        have j2 : ((M : Int) - 1).toNat = M - 1 := by omega
        have g1 : decide ((0 : Int) < (M : Int)) = true := by simp; omega
        have g3 : decide (0 < M) = true := by simp; omega
        have CB := Lib.hid cb
        clear cb
        go_wp2_with fail
        have d0 := Ext.cell (W := wr.alloc (.cells #[.int .i64 xl, .int .i64 xh] 80)) (p := ⟨wr.heap.size, 0, none⟩) (v := .int .i64 xl) (by simp)
        have d2 := Ext.cell (W := wr.alloc (.cells #[.int .i64 xl, .int .i64 xh] 80)) (p := ⟨b9, (M - 1) * 2 + 1, none⟩) (v := .int .i64 b) (by rw [World.cell?_alloc_lt _ _ _ (by simp; omega)]; exact CB.out)
        refine wp_region_ext (by kernel_rfl) (by kernel_rfl) ?_
        repeat (go_big_quiet_step (fail))
        refine wpQuiet_nil ?_
        intro w3 hb3
        clear d0 d2
        have q0 := (hb3.cell (p := ⟨wr.heap.size, 0, none⟩) (by rw [HZX.out]; simp)).trans Y0.out
        have q1 := (hb3.cell (p := ⟨wr.heap.size, 1, none⟩) (by rw [HZX.out]; simp)).trans Y1.out
        have q2 := (hb3.cell (p := ⟨b9, (M - 1) * 2 + 1, none⟩) (by rw [HZX.out]; simp; omega)).trans ((World.cell?_alloc_lt _ _ _ (by simp; omega)).trans CB.out)
        have O4 := Lib.hid (own_later OX.out hb3)
        have B3 := Lib.hid (HB.out.trans ((BX.out.trans (hb3.mono (by rw [HZX.out]; omega))).mono hbs))
        clear hb3
        by_cases hg : xl ≤ b + 1
        · have gg : decide (xl ≤ b + 1) = true := decide_eq_true hg
          have JN := Lib.hid (ji_join JI.out (by rw [HQL.out]; omega) HQ.out HX.out hg)
          obtain ⟨fz, hbg, os⟩ := own_last O4.out hM
          have OS := Lib.hid os
          clear os
          have jw : IntKind.i64.wrap ((M : Int) - 1) = (M : Int) - 1 := by rw [IntKind.wrap_i64]; omega
          have j3 : (1 : Int) ≤ (M : Int) := by omega
          have j4 : 1 ≤ M := by omega
          go_upto_region 9 with fail
          go_still_tail 14, (by kernel_rfl)
          change wpList _ _ _ _ _ w3.drew
          go_wp2_with fail
          go_roundg (gk - 1)
          case measure => omega
          case rel => exact ⟨k + 1, C0 ++ [(a, max b xh)], by omega, by go_num, by simp; omega, JN.out, (OS.out _).drew, (B3.out.setCell (p := ⟨b9, (M - 1) * 2 + 1, none⟩) hbg _).drew⟩
        · have gg : decide (xl ≤ b + 1) = false := decide_eq_false hg
          have JN := Lib.hid (ji_new JI.out (by rw [HQL.out]; omega) HQ.out HX.out HS.out (by rw [lastHi_snoc]; simp only; omega))
          have hby : ((C0 ++ [(a, b)]).length + 1) * 16 ≤ 140737488355328 := by rw [hle, hM]; omega
          have hle2 : (C0 ++ [(a, b)] ++ [(xl, xh)]).length ≤ k + 1 := by rw [List.length_append, hle]; simp; omega
          clear hle
          go_wp2_with (first
            | (at_builtin
               refine wpList_appR _ rfl (.tmp 50) (.tmp 52) _ rfl w2.heap.size 80 i0 _ Try.underlying25 HI.out HZ.out HZ1.out HZ2.out rfl (.slice (some ⟨b9, 0, none⟩) M c') (C0 ++ [(a, b)]) rfl (O4.out.alloc _) (w3.heap.size + 1) (some ⟨w3.heap.size, 0, none⟩) 1 1 [(xl, xh)] rfl (RRow.one w3 xl xh 80) rfl hby (by have := B3.out.size; first | (simp; omega) | omega) ?_
               intro v5 w5 own5 g5
               have O5 := Lib.hid own5
               have B5 := Lib.hid ((B3.out.alloc (by have := B3.out.size; omega) _).grown g5 (by have := B3.out.size; simp; omega) (fun k hk => (O4.out.lt k hk).1))
               clear own5 g5))
          go_roundg (gk - 1)
          case measure => omega
          case rel => exact ⟨k + 1, C0 ++ [(a, b)] ++ [(xl, xh)], by omega, by go_num, hle2, JN.out, O5.out, B5.out⟩
    · go_wp2
      go_ret
      have hkn : k = n := by omega
      subst hkn
      have hj := JI.out
      rw [← HQL.out] at hj
      obtain ⟨x1, x2⟩ := ji_end hj HP.out
      exact ⟨_, C, rfl, own_baseR O3.out (by omega), x1, x2, HB2.out.trans (HB.out.mono (by omega))⟩
end Go.Proofs.Ytgfbonfoimiknaa
