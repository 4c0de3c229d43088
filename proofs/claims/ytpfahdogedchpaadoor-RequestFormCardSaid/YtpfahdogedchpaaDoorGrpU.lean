/- Several texts in one. -/
import Derived.Test.YtpfahdogedchpaaDoorGrpE
import Derived.Test.YtpfahdogedchpaaDoorGrpB
import Derived.Test.YtpfahdogedchpaaDoorRefPxB
/- Bytes or a string appended onto a row of a call's own (a literal's, an append's, a conversion's, or none): a row of the call's own again, and nothing else turns. Nothing of the program's. -/
namespace Go.Proofs.YtpfahdogedchpaaDoor
set_option linter.unusedVariables false
open Go.RowKit P

/-- a row of the call's own, or none -/
def TRow (w : World) (base : Nat) (e : TypeId) (v : Value) (L : List Int) : Prop := (v = .slice none 0 0 ∧ L = []) ∨ WRow w base e v L
theorem setCell_blk {w : World} {g : Nat} {cur : Array Value} {e : TypeId} {fz : Nat × Nat} (h : w.heap[g]? = some (.cells cur e fz)) (o : Nat) (v : Value) : (w.setCell ⟨g, o, none⟩ v).heap[g]? = some (.cells (cur.setIfInBounds o v) e fz) := by
  have hlt := lt_of_block h
  have h' : w.heap[g] = .cells cur e fz := by simpa [Array.getElem?_eq_getElem hlt] using h
  show (w.heap.modify g _)[g]? = _
  rw [Array.getElem?_eq_getElem (by simpa using hlt), Array.getElem_modify_self, h']
  rfl
theorem setCells_blk (g : Nat) (e : TypeId) (fz : Nat × Nat) : ∀ (vs : List Value) (o : Nat) (w : World) (cur : Array Value), w.heap[g]? = some (.cells cur e fz) → ∃ cur', (w.setCells g o vs).heap[g]? = some (.cells cur' e fz) ∧ cur'.size = cur.size
  | [], o, w, cur, h => ⟨cur, h, rfl⟩
  | v :: vs, o, w, cur, h => by
    obtain ⟨c, h1, h2⟩ := setCells_blk g e fz vs (o + 1) _ _ (setCell_blk h o v)
    exact ⟨c, h1, by rw [h2, Array.size_setIfInBounds]⟩
theorem setCells_gr (g : Nat) : ∀ (vs : List Value) (o : Nat) (w : World), w.grownBy (w.setCells g o vs) (some g)
  | [], o, w => World.grownBy.refl w _
  | v :: vs, o, w => gr_trans (gr_set w g o v) (setCells_gr g vs (o + 1) _)
theorem trow_bsl {w : World} {base : Nat} {e : TypeId} {v : Value} {L : List Int} (h : TRow w base e v L) (hb : Byt L) : BSl w w.heap.size v L := by
  rcases h with ⟨rfl, rfl⟩ | h
  · exact BSl.nil _ _
  · exact wrow_bsl h hb
theorem wrow_below {w w' : World} {base : Nat} {e : TypeId} {v : Value} {L : List Int} (h : WRow w base e v L) (b : Below w.heap.size w w') : WRow w' base e v L := by
  obtain ⟨g, cap, cur, fz, h0, h1, h2, h3⟩ := h
  exact ⟨g, cap, cur, fz, h0, h1, (b.block _ (lt_of_block h2)).trans h2, h3⟩
theorem trow_below {w w' : World} {base : Nat} {e : TypeId} {v : Value} {L : List Int} (h : TRow w base e v L) (b : Below w.heap.size w w') : TRow w' base e v L := by
  rcases h with h | h
  · exact .inl h
  · exact .inr (wrow_below h b)
theorem wrow_lt {w : World} {base : Nat} {e : TypeId} {v : Value} {L : List Int} (h : WRow w base e v L) : ∃ g, v.ownBlock = some g ∧ base ≤ g ∧ g < w.heap.size := by
  obtain ⟨g, cap, cur, fz, rfl, h1, h2, _⟩ := h
  exact ⟨g, rfl, h1, lt_of_block h2⟩
theorem trow_lt {w : World} {base : Nat} {e : TypeId} {v : Value} {L : List Int} (h : TRow w base e v L) : ∀ g, v.ownBlock = some g → base ≤ g ∧ g < w.heap.size := by
  intro g hg
  rcases h with ⟨rfl, _⟩ | h
  · cases hg
  · obtain ⟨k, e, h1, h2⟩ := wrow_lt h
    rw [e] at hg; cases hg; exact ⟨h1, h2⟩
theorem trow_gr {w w' : World} {base y : Nat} {e : TypeId} {v : Value} {L : List Int} (h : TRow w base e v L) (g : w.grownBy w' (some y)) (hy : v.ownBlock ≠ some y) : TRow w' base e v L := by
  rcases h with h | ⟨k, cap, cur, fz, rfl, h1, h2, h3⟩
  · exact .inl h
  · refine .inr ⟨k, cap, cur, fz, rfl, h1, ?_, h3⟩
    rw [g.block k (lt_of_block h2) (fun q => hy (by simpa [Value.ownBlock] using q))]
    exact h2
theorem src_bsl {w : World} {B : Nat} {A : Option Addr} {n c : Nat} {M : List Int} (h : BSl w B (.slice A n c) M) : Src Tryd.prog 1 25 (.slice A n c) M.length (M.map (.int .u8)) w := by
  obtain ⟨A', c', e, h1, h2, h3, h4⟩ := h.ex
  cases e
  rcases Nat.eq_zero_or_pos M.length with q | q
  · have e0 := List.eq_nil_of_length_eq_zero q
    subst e0
    cases A with
    | none => rw [h3 rfl]; exact Src.ofNil w Tryd.underlying25 0
    | some a => exact Src.ofSlice (size := 1) w Tryd.underlying25 a 0 c [] rfl (fun j u hj => by simp at hj) (fun u hu => by cases hu)
  · obtain ⟨b, off, rfl, hb, hc⟩ := h4.2 q
    refine Src.ofSlice (size := 1) w Tryd.underlying25 ⟨b, off, none⟩ M.length c (M.map (.int .u8)) (by simp) (fun j u hj => ?_) (fun u hu => by obtain ⟨z, _, rfl⟩ := List.mem_map.1 hu; rfl)
    have hjl : j < M.length := by have := (List.getElem?_eq_some_iff.1 hj).1; simpa using this
    rw [Go.WideShapes.add_plain, hc j hjl]
    simp [hjl] at hj
    rw [← hj]
    simp [hjl]
/-- what is appended: bytes by a source, onto a row of the call's own, or none -/
theorem trow_app {w : World} {base : Nat} {v x : Value} {L M : List Int} (tx ty : TypeId) (hS : Src Tryd.prog 1 tx x M.length (M.map (.int .u8)) w) (h : TRow w base 5 v L) (hp : 0 < L.length + M.length) (hm : L.length + M.length ≤ 140737488355328) (hbase : base ≤ w.heap.size) :
    ∃ v' w', (Builtin.append_ #[25, tx] ty #[v, x]).run Tryd.prog w = .ok v' w' ∧ WRow w' base 5 v' (L ++ M) ∧ w.grownBy w' v.ownBlock ∧ (v'.ownBlock = v.ownBlock ∨ v'.ownBlock = some w.heap.size) := by
  obtain ⟨i0, hi0, hz0, hz1, hz2⟩ := info_parts infoB1
  rw [← hz1] at hS
  have news : ∀ (A : Option Addr) (cap : Nat), cap ≤ maxLen → L.length ≤ cap → cap < L.length + M.length → (Builtin.firstCells i0.size L.length (.slice A L.length cap)).run Tryd.prog w.drew = .ok (L.map (Value.int .u8)).toArray w.drew →
      ∃ v' w', (Builtin.append_ #[25, tx] ty #[.slice A L.length cap, x]).run Tryd.prog w = .ok v' w' ∧ WRow w' base 5 v' (L ++ M) ∧ w.grownBy w' (Value.slice A L.length cap).ownBlock ∧ (v'.ownBlock = (Value.slice A L.length cap).ownBlock ∨ v'.ownBlock = some w.heap.size) := by
    intro A cap h5 h4 hroom hold
    have hr := run_append_grow_src (P := Tryd.prog) w 25 tx ty 5 i0 (.int .u8 0) Tryd.underlying25 hi0 hz0 A L.length cap (L.map (.int .u8)) hold x M.length (M.map (.int .u8)) hS hroom (by omega) (by rw [hz2]; exact growslice_fits (by omega) (by omega))
    have hge := grownCap_ge w (L.length + M.length) cap 5
    have hcm : grownCap w (L.length + M.length) cap 5 ≤ maxLen := grownCap_le_maxLen w _ cap _ (by unfold maxLen; omega)
    refine ⟨_, _, hr, ⟨w.heap.size, _, _, _, by rw [List.length_append], hbase, heap_alloc_new w.drew _, fun i _ k => by have := k.2; simp at this, by rw [List.length_append]; exact hge, hcm, ?_, ?_⟩, ?_, .inr rfl⟩
    · simp only [Array.size_append, List.size_toArray, List.length_append, List.length_map, Builtin.zeroCells]
      simp [Value.cells]
      omega
    · rw [Array.toList_append, ← List.map_append, List.take_append_of_le_length (by simp), List.take_of_length_le (by simp)]
    · refine ⟨rfl, rfl, rfl, by simp, fun k hk _ => ?_⟩
      exact Below.heap_alloc w.drew _ _ hk
  rcases h with ⟨rfl, rfl⟩ | ⟨g, cap, cur, fz, rfl, h1, h2, h3, h4, h5, h6, h7⟩
  · exact news none 0 (Nat.zero_le _) (Nat.le_refl _) (by simpa using hp) (by simp [Builtin.firstCells])
  · have hglt : g < w.heap.size := lt_of_block h2
    by_cases hroom : L.length + M.length ≤ cap
    · have hin : ∀ j, j < (M.map (Value.int .u8)).length → (w.cell? ⟨g, L.length + j, none⟩).isSome = true := fun j hj => by
        rw [wrow_cell h2, Array.getElem?_eq_getElem (by simp at hj; omega)]; rfl
      have hr := run_append_room_src (P := Tryd.prog) w 25 tx ty 5 i0 Tryd.underlying25 hi0 g 0 L.length cap x M.length (M.map (.int .u8)) hS hroom
        (fun j hj => by rw [hz1, Nat.mul_one, Nat.zero_add]; exact hin j hj)
        (fun j hj => by
          rw [hz1, Nat.mul_one, Nat.zero_add]
          have := h3 (L.length + j) (by simp at hj; omega)
          simp only [World.frozen?, h2]
          by_cases a : fz.1 ≤ L.length + j
          · have : ¬ (L.length + j < fz.2) := fun b => this ⟨a, b⟩
            simp [a]; omega
          · simp; omega)
      rw [hz1, Nat.mul_one, Nat.zero_add] at hr
      obtain ⟨cur', hc1, hc2⟩ := setCells_blk g 5 fz (M.map (Value.int .u8)) L.length w cur h2
      refine ⟨_, _, hr, ⟨g, cap, cur', fz, by rw [List.length_append], h1, hc1, h3, by rw [List.length_append]; exact hroom, h5, by rw [hc2, h6], ?_⟩, setCells_gr g _ _ _, .inl rfl⟩
      apply List.ext_getElem?
      intro j
      rw [List.getElem?_take]
      by_cases hj : j < (L ++ M).length
      · rw [if_pos hj, Array.getElem?_toList, ← wrow_cell hc1 j]
        by_cases q : j < L.length
        · rw [World.cell?_setCells_out g _ _ _ _ (fun _ _ => .inl q), wrow_cell h2, wrow_at h7 j q, List.map_append, List.getElem?_append_left (by simpa using q), List.getElem?_map, List.getElem?_eq_getElem q, List.getD_eq_getElem?_getD, List.getElem?_eq_getElem q]
          rfl
        · rw [List.length_append] at hj
          have k := World.cell?_setCells_in g (M.map (Value.int .u8)) L.length w hin (j - L.length) (by simp; omega)
          rw [show L.length + (j - L.length) = j by omega] at k
          rw [k, List.map_append, List.getElem?_append_right (by simp; omega)]
          simp [List.getElem?_eq_getElem (show j - L.length < M.length by omega)]
      · rw [if_neg hj, List.getElem?_eq_none (by simpa using hj)]
    · refine news (some ⟨g, 0, none⟩) cap h5 h4 (by omega) ?_
      exact run_firstCells_some w.drew i0.size L.length ⟨g, 0, none⟩ L.length cap (L.map (.int .u8)) (by rw [hz1]; simp) (by
        intro j u hj
        have hjl : j < L.length := by have := (List.getElem?_eq_some_iff.1 hj).1; simpa using this
        have ha : (⟨g, 0, none⟩ : Addr).add j = ⟨g, j, none⟩ := by rw [Go.WideShapes.add_plain, Nat.zero_add]
        rw [ha, show w.drew.cell? ⟨g, j, none⟩ = w.cell? ⟨g, j, none⟩ from rfl, wrow_cell h2, wrow_at h7 j hjl]
        simp [hjl] at hj
        rw [← hj]
        simp [hjl])
/-- the same at an operation: a slice of bytes appended -/
theorem wpList_appT {w : World} {ops : Array Oper} {rest : List Oper} {o : Oper} {a : Act} {Q : Exit → Act → World → Prop} (hgd : o.guard = none) (sl x : Operand) (tx : TypeId)
    (ho : o.op = .call { callee := .builtin .append, args := #[sl, x], argTypes := #[25, tx] })
    (base : Nat) (v y : Value) (L M : List Int) (hs : a.eval sl = v) (hx : a.eval x = y) (hS : Src Tryd.prog 1 tx y M.length (M.map (.int .u8)) w) (hW : TRow w base 5 v L) (hp : 0 < L.length + M.length) (hm : L.length + M.length ≤ 140737488355328) (hbase : base ≤ w.heap.size)
    (h : ∀ v' w', WRow w' base 5 v' (L ++ M) → w.grownBy w' v.ownBlock → (v'.ownBlock = v.ownBlock ∨ v'.ownBlock = some w.heap.size) → wpList Tryd.prog ops Q rest (a.put o.dst v') w') : wpList Tryd.prog ops Q (o :: rest) a w := by
  refine wpList_plain hgd fun K hK => ?_
  obtain ⟨v', w', hr, h2, h3, h4⟩ := trow_app tx o.type hS hW hp hm hbase
  unfold Oper.wp execOp
  simp only [ho, resolve, invoke, builtin, Sem.run_bind, Sem.run_pure, Result.andThen_ok, List.map_toArray, List.map_cons, List.map_nil, hs, hx, hr]
  exact hK _ _ (h v' w' h2 h3 h4)
/-- the same at an operation of a region that draws its order -/
theorem step_appT (w : World) {ops : Array Oper} {o : Oper} {a : Act} {K : Act → World → Prop} {Q : Exit → Act → World → Prop} {F : Prop} (hgd : o.guard = none) (sl x : Operand) (tx : TypeId)
    (ho : o.op = .call { callee := .builtin .append, args := #[sl, x], argTypes := #[25, tx] })
    (base : Nat) (v y : Value) (L M : List Int) (hs : a.eval sl = v) (hx : a.eval x = y) (hS : Src Tryd.prog 1 tx y M.length (M.map (.int .u8)) w) (hW : TRow w base 5 v L) (hp : 0 < L.length + M.length) (hm : L.length + M.length ≤ 140737488355328) (hbase : base ≤ w.heap.size)
    (h : ∀ v' w', WRow w' base 5 v' (L ++ M) → w.grownBy w' v.ownBlock → (v'.ownBlock = v.ownBlock ∨ v'.ownBlock = some w.heap.size) → K (a.put o.dst v') w') :
    if Region.wanted o (yielded ops a.tmps) = true then Oper.wp Tryd.prog o a w K Q else F := by
  have hw : Region.wanted o (yielded ops a.tmps) = true := by simp [Region.wanted, hgd]
  rw [if_pos hw]
  obtain ⟨v', w', hr, h2, h3, h4⟩ := trow_app tx o.type hS hW hp hm hbase
  unfold Oper.wp execOp
  simp only [ho, resolve, invoke, builtin, Sem.run_bind, Sem.run_pure, Result.andThen_ok, List.map_toArray, List.map_cons, List.map_nil, hs, hx, hr]
  exact h v' w' h2 h3 h4
theorem gr_below {w w' : World} {v : Value} {base : Nat} (g : w.grownBy w' v.ownBlock) (hb : base ≤ w.heap.size) (h : ∀ k, v.ownBlock = some k → base ≤ k) : Below base w w' :=
  (Below.refl base w).grown g hb h
end Go.Proofs.YtpfahdogedchpaaDoor
/- Texts behind bits: the project's prefix.Text, the document's TextBytes. -/
namespace Go.Proofs.YtpfahdogedchpaaDoor
set_option linter.unusedVariables false
open Go.RowKit P

/-- what Text says, by P13.3 -/
def pxTF (first w : Int) (M : List Int) : Int := if 120 < M.length then 1 else pxF first w M.length
def pxTL (first w : Int) (M : List Int) : List Int := pxL first w M.length ++ M
def PxTxt (P : Program) (f : FuncId) : Prop := ∀ (first wi : Int) (M : List Int) (w : World), Byt M → M.length ≤ 140737488355328 → 0 ≤ first → first < 256 → -9223372036854775808 ≤ wi → wi ≤ 9223372036854775807 → Calls P f #[.int .u8 first, .int .i64 wi, .string (strOfNums M)] w (PxPost (pxTF first wi M) (pxTL first wi M) w)
theorem wpList_appS {w : World} {ops : Array Oper} {rest : List Oper} {o : Oper} {a : Act} {Q : Exit → Act → World → Prop} (hgd : o.guard = none) (sl x : Operand)
    (ho : o.op = .call { callee := .builtin .append, args := #[sl, x], argTypes := #[25, 9] })
    (base : Nat) (v : Value) (L M : List Int) (hs : a.eval sl = v) (hx : a.eval x = .string (strOfNums M)) (hW : WRow w base 5 v L) (hL : Byt L) (hM : Byt M) (hm : L.length + M.length ≤ 140737488355328) (hbase : base ≤ w.heap.size)
    (h : ∀ v' w', Below base w w' → BSl w' w'.heap.size v' (L ++ M) → wpList Tryd.prog ops Q rest (a.put o.dst v') w') : wpList Tryd.prog ops Q (o :: rest) a w := by
  refine wpList_plain hgd fun K hK => ?_
  obtain ⟨v', w', hr, h2, h3⟩ := wrow_app o.type hW hL hM hm hbase
  unfold Oper.wp execOp
  simp only [ho, resolve, invoke, builtin, Sem.run_bind, Sem.run_pure, Result.andThen_ok, List.map_toArray, List.map_cons, List.map_nil, hs, hx, hr]
  exact hK _ _ (h v' w' h2 h3)

set_option maxHeartbeats 1000000 in
theorem pxText_any : PxTxt Tryd.prog 95 := fun first wi M w hM hl f0 f1 w0 w1 => by
  have hsz : (strOfNums M).size = M.length := strOfNums_size M
  have NO := Lib.hid (show ∀ x, x ≠ 0 → ∀ w', Below w.heap.size w w' → PxPost x (pxTL first wi M) w (.returned (.tuple #[.slice none 0 0, .int .i64 x])) w' from fun x hx w' hb => ⟨hb, _, rfl, by rw [if_neg hx]; exact px_none w'⟩)
  by_cases hb : 120 < M.length
  · have HF := Lib.hid (show pxTF first wi M = 1 from if_pos hb)
    rw [HF.out]
    have e1 : decide ((120 : Int) < (M.length : Int)) = true := by simp; omega
    obtain ⟨S, hS⟩ : ∃ S, strOfNums M = S := ⟨_, rfl⟩
    rw [hS] at hsz ⊢
    obtain ⟨N, hN⟩ : ∃ N, M.length = N := ⟨_, rfl⟩
    rw [hN] at hsz e1
    clear hS hN hb hl
    go_enter Tryd.func95, Tryd.ntmps95
    go_wp2_with fail
    go_ret2
    exact NO.out 1 (by decide) _ (Below.refl _ _)
  · have HF := Lib.hid (show pxTF first wi M = pxF first wi M.length from if_neg hb)
    have HL := Lib.hid (show pxTL first wi M = pxL first wi M.length ++ M from rfl)
    have e1 : decide ((120 : Int) < (M.length : Int)) = false := by simp; omega
    have HEN := Lib.hid (fun w => pxEnc_any first wi M.length w f0 f1 w0 w1)
    have HBY := Lib.hid (fun h => pxL_byt' f0 f1 (n := M.length) (w := wi) h)
    have HLE := Lib.hid (fun h => (pxL_len (first := first) (w := wi) (n := (M.length : Int)) h).2)
    rw [HF.out]
    obtain ⟨S, hS⟩ : ∃ S, strOfNums M = S := ⟨_, rfl⟩
    have HS := Lib.hid hS.symm
    rw [hS] at hsz ⊢
    obtain ⟨L, hL⟩ : ∃ L, pxL first wi M.length = L := ⟨_, rfl⟩
    obtain ⟨x, hx⟩ : ∃ x, pxF first wi M.length = x := ⟨_, rfl⟩
    rw [hL] at HL HEN HBY HLE
    rw [hx] at HEN HBY HLE ⊢
    have HMB := Lib.hid hM
    obtain ⟨N, hN⟩ : ∃ N, M.length = N := ⟨_, rfl⟩
    have HNN := Lib.hid hN
    rw [hN] at hsz e1 HEN
    have hN120 : N ≤ 120 := by omega
    clear hS hL hx hb hl hM hN f0 f1 w0 w1 HF
    by_cases h0 : x = 0
    · subst h0
      have HBY0 := Lib.hid (HBY.out rfl)
      have HLE0 := Lib.hid (HLE.out rfl)
      clear HBY HLE
      go_enter Tryd.func95, Tryd.ntmps95
      go_wp2_with fail
      refine (HEN.out _).mono ?_
      rintro e w1 ⟨b1, d, rfl, _, hy⟩
      have B1 := Lib.hid b1
      have WR := Lib.hid (hy rfl)
      clear b1 hy
      go_wp2_with (at_builtin
                   go_loud (refine wpList_appS rfl (.tmp 24) (.tmp 25) rfl w.heap.size d L M rfl (by rw [← HS.out]; rfl) WR.out HBY0.out HMB.out (by have := HLE0.out; have := HNN.out; omega) B1.out.size ?_)
                   intro v2 w2 b2 hb2
                   have B2 := Lib.hid (B1.out.trans b2)
                   have R2 := Lib.hid hb2
                   clear b2 hb2)
      go_ret2
      exact ⟨B2.out, _, rfl, by rw [if_pos rfl, HL.out]; exact R2.out⟩
    · have g : (x != 0) = true := by simp [h0]
      have HX := Lib.hid h0
      clear h0
      go_enter Tryd.func95, Tryd.ntmps95
      go_wp2_with fail
      refine (HEN.out _).mono ?_
      rintro e w1 ⟨b1, d, rfl, hd, _⟩
      obtain rfl := hd HX.out
      have B1 := Lib.hid b1
      clear b1 hd
      go_wp2_with fail
      go_ret2
      exact NO.out x HX.out _ B1.out

end Go.Proofs.YtpfahdogedchpaaDoor
/- The project's writers: Text with a row that may be written on; number, text. -/
namespace Go.Proofs.YtpfahdogedchpaaDoor
set_option linter.unusedVariables false
open Go.RowKit P

set_option maxHeartbeats 1000000 in
theorem pxTextW_any (first wi : Int) (M : List Int) (w : World) (hM : Byt M) (hb : M.length ≤ 120) (f0 : 0 ≤ first) (f1 : first < 256) (w0 : -9223372036854775808 ≤ wi) (w1 : wi ≤ 9223372036854775807) (hok : pxF first wi M.length = 0) :
    Calls Tryd.prog 95 #[.int .u8 first, .int .i64 wi, .string (strOfNums M)] w fun e w' => Below w.heap.size w w' ∧ ∃ d, e = .returned (.tuple #[d, .int .i64 0]) ∧ WRow w' w.heap.size 5 d (pxTL first wi M) := by
  have hsz : (strOfNums M).size = M.length := strOfNums_size M
  have HL := Lib.hid (show pxTL first wi M = pxL first wi M.length ++ M from rfl)
  have e1 : decide ((120 : Int) < (M.length : Int)) = false := by simp; omega
  have HEN := Lib.hid (fun w => pxEnc_any first wi M.length w f0 f1 w0 w1)
  have HLE := Lib.hid ((pxL_len (first := first) (w := wi) (n := (M.length : Int)) hok).2)
  have HPO := Lib.hid (show 0 < (pxL first wi M.length).length by unfold pxL; split <;> simp)
  have HSR := Lib.hid (fun w => (by have := Src.ofString (P := Tryd.prog) w (tx := 9) Tryd.underlying9 (strOfNums M); rw [hsz, strCells_nums M hM] at this; exact this : Src Tryd.prog 1 9 (.string (strOfNums M)) M.length (M.map (.int .u8)) w))
  obtain ⟨S, hS⟩ : ∃ S, strOfNums M = S := ⟨_, rfl⟩
  rw [hS] at hsz HSR ⊢
  obtain ⟨L, hL⟩ : ∃ L, pxL first wi M.length = L := ⟨_, rfl⟩
  rw [hL] at HL HEN HLE HPO
  rw [hok] at HEN
  have HNN := Lib.hid hb
  obtain ⟨N, hN⟩ : ∃ N, M.length = N := ⟨_, rfl⟩
  have HN := Lib.hid hN
  rw [hN] at hsz e1 HEN
  have hN120 : N ≤ 120 := by omega
  clear hS hL hb hM hN f0 f1 w0 w1
  go_enter Tryd.func95, Tryd.ntmps95
  go_wp2_with fail
  refine (HEN.out _).mono ?_
  rintro e w1 ⟨b1, d, rfl, _, hy⟩
  have B1 := Lib.hid b1
  have WR := Lib.hid (hy rfl)
  clear b1 hy
  go_wp2_with (at_builtin
               go_loud (refine wpList_appT rfl (.tmp 24) (.tmp 25) 9 rfl w.heap.size d (.string S) L M rfl rfl (HSR.out _) (.inr WR.out) (by have := HPO.out; omega) (by have := HLE.out; have := HNN.out; omega) B1.out.size ?_)
               intro v2 w2 h2 g2 _
               have B2 := Lib.hid (B1.out.grown g2 B1.out.size (fun k e => (trow_lt (.inr WR.out) k e).1))
               have R2 := Lib.hid h2
               clear h2 g2)
  go_ret2
  exact ⟨B2.out, _, rfl, by rw [HL.out]; exact R2.out⟩
theorem number_any (first wi n : Int) (w : World) (f0 : 0 ≤ first) (f1 : first < 256) (w0 : -9223372036854775808 ≤ wi) (w1 : wi ≤ 9223372036854775807) (hok : pxF first wi n = 0) :
    Calls Tryd.prog 68 #[.int .u8 first, .int .i64 wi, .int .i64 n] w fun e w' => Below w.heap.size w w' ∧ ∃ d, e = .returned d ∧ WRow w' w.heap.size 5 d (pxL first wi n) := by
  have HEN := Lib.hid (fun w => pxEnc_any first wi n w f0 f1 w0 w1)
  rw [hok] at HEN
  obtain ⟨L, hL⟩ : ∃ L, pxL first wi n = L := ⟨_, rfl⟩
  rw [hL] at HEN ⊢
  clear hL hok f0 f1 w0 w1
  go_enter Tryd.func68, Tryd.ntmps68
  go_wp2_with fail
  refine (HEN.out _).mono ?_
  rintro e w1 ⟨b1, d, rfl, _, hy⟩
  have B1 := Lib.hid b1
  have WR := Lib.hid (hy rfl)
  clear b1 hy
  go_wp2_with fail
  go_ret
  exact ⟨B1.out, _, rfl, WR.out⟩
theorem fdtext_any (first wi : Int) (M : List Int) (w : World) (hM : Byt M) (hb : M.length ≤ 120) (f0 : 0 ≤ first) (f1 : first < 256) (w0 : -9223372036854775808 ≤ wi) (w1 : wi ≤ 9223372036854775807) (hok : pxF first wi M.length = 0) :
    Calls Tryd.prog 87 #[.int .u8 first, .int .i64 wi, .string (strOfNums M)] w fun e w' => Below w.heap.size w w' ∧ ∃ d, e = .returned d ∧ WRow w' w.heap.size 5 d (pxTL first wi M) := by
  have HEN := Lib.hid (fun w => pxTextW_any first wi M w hM hb f0 f1 w0 w1 hok)
  obtain ⟨L, hL⟩ : ∃ L, pxTL first wi M = L := ⟨_, rfl⟩
  obtain ⟨S, hS⟩ : ∃ S, strOfNums M = S := ⟨_, rfl⟩
  rw [hL] at HEN ⊢
  rw [hS] at HEN ⊢
  clear hL hS hM hb hok f0 f1 w0 w1
  go_enter Tryd.func87, Tryd.ntmps87
  go_wp2_with fail
  refine (HEN.out _).mono ?_
  rintro e w1 ⟨b1, d, rfl, hy⟩
  have B1 := Lib.hid b1
  have WR := Lib.hid hy
  clear b1 hy
  go_wp2_with fail
  go_ret
  exact ⟨B1.out, _, rfl, WR.out⟩
end Go.Proofs.YtpfahdogedchpaaDoor
