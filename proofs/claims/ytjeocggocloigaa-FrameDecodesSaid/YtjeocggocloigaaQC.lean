/- Texts of the proofs, joined. -/
import Derived.Test.YtjeocggocloigaaQA
import Derived.Maps.AppendAt
import Derived.OwnWalk
import Derived.Test.YtjeocggocloigaaQB
import Derived.Laws.OwnMore
import Derived.Lib.SliceRun
import Derived.Deep.LoopGhost
import Derived.Deep.RegionHeldLaw
import Derived.Deep.RegionHeld3
/- append of bytes onto a row of the call's own: nil, empty or not. Nothing of the program's. -/
namespace Go.Proofs.Ytjeocggocloigaa.P
set_option linter.unusedVariables false
open Go.RowKit

theorem run_app {P : Program} (w : World) (base : Nat) (t ty e : TypeId) (i : TypeInfo) (ht : P.underlying t = some (.slice e)) (hi : P.info? e = some i) (hz : i.zero = some (.int .u8 0)) (hsize : i.size = 1) (hby : i.bytes = 1)
    (v : Value) (n : Nat) (xs : List Value) (hown : w.ownsRow base e 1 v n xs) (B : Nat) (A : Option Addr) (m c : Nat) (zs : List Int) (hr : BRow w B A zs) (hm : zs.length = m) (hc : A = none → c = 0)
    (hbytes : n + m ≤ 140737488355328) (hbase : base ≤ w.heap.size) :
    ∃ v' w', (Builtin.append_ #[t, t] ty #[v, .slice A m c]).run P w = .ok v' w' ∧ w'.ownsRow base e 1 v' (n + m) (xs ++ zs.map (.int .u8)) ∧ w.grownBy w' v.ownBlock ∧ (v'.ownBlock = v.ownBlock ∨ v'.ownBlock = some w.heap.size) := by
  rcases A with _ | ad
  · have h0 : m = 0 := by
      rcases Nat.eq_zero_or_pos zs.length with h | h
      · omega
      · obtain ⟨b, off, e, _⟩ := hr.2 h; cases e
    subst h0
    have hz0 : zs = [] := List.eq_nil_of_length_eq_zero hm
    subst hz0
    rw [hc rfl]
    exact ⟨v, w, run_append_owned_none (P := P) (w := w) base t ty e i 1 ht hi v n xs hown, by simpa using hown, World.grownBy.refl w _, .inl rfl⟩
  · have hn : ∀ j u, (zs.map (Value.int .u8))[j]? = some u → w.cell? (ad.add j) = some u := by
      intro j u hj
      have hjl : j < zs.length := by
        have := (List.getElem?_eq_some_iff.1 hj).1
        simpa using this
      obtain ⟨b, off, e, _, hcell⟩ := hr.2 (by omega)
      cases e
      rw [Go.WideShapes.add_plain, hcell j hjl]
      simp [hjl] at hj
      rw [← hj]
      simp [hjl]
    obtain ⟨v', w', hrun, h2, h3, _, h5⟩ := run_append_own_at (P := P) w base t ty e i (.int .u8 0) 1 1 ht hi hz hsize hby rfl (by decide) v n xs hown ad m c (zs.map (.int .u8)) (by simp [hm]) hn
      (fun u hu => by obtain ⟨z, _, rfl⟩ := List.mem_map.1 hu; rfl) (by unfold maxLen; omega) (by omega) hbase
    exact ⟨v', w', hrun, h2, h3, h5⟩

theorem wpList_app {P : Program} (w : World) {ops : Array Oper} {rest : List Oper} {o : Oper} {a : Act} {Q : Exit → Act → World → Prop} (hgd : o.guard = none) (s x : Operand) (t : TypeId)
    (ho : o.op = .call { callee := .builtin .append, args := #[s, x], argTypes := #[t, t] })
    (base : Nat) (e : TypeId) (i : TypeInfo) (ht : P.underlying t = some (.slice e)) (hi : P.info? e = some i) (hz : i.zero = some (.int .u8 0)) (hsize : i.size = 1) (hby : i.bytes = 1)
    (v : Value) (n : Nat) (xs : List Value) (hs : a.eval s = v) (hown : w.ownsRow base e 1 v n xs) (B : Nat) (A : Option Addr) (m c : Nat) (zs : List Int) (hx : a.eval x = .slice A m c) (hr : BRow w B A zs) (hm : zs.length = m) (hc : A = none → c = 0)
    (hbytes : n + m ≤ 140737488355328) (hbase : base ≤ w.heap.size)
    (h : ∀ v' w', w'.ownsRow base e 1 v' (n + m) (xs ++ zs.map (.int .u8)) → w.grownBy w' v.ownBlock → (v'.ownBlock = v.ownBlock ∨ v'.ownBlock = some w.heap.size) → wpList P ops Q rest (a.put o.dst v') w') :
    wpList P ops Q (o :: rest) a w := by
  refine wpList_plain hgd fun K hK => ?_
  obtain ⟨v', w', hrun, h2, h3, h4⟩ := run_app (P := P) w base t o.type e i ht hi hz hsize hby v n xs hown B A m c zs hr hm hc hbytes hbase
  unfold Oper.wp execOp
  simp only [ho, resolve, invoke, builtin, Sem.run_bind, Sem.run_pure, Result.andThen_ok, List.map_toArray, List.map_cons, List.map_nil, hs, hx, hrun]
  exact hK _ _ (h v' w' h2 h3 h4)

/-- an owned row of bytes, as a row that reads -/
theorem own_brow {w : World} {base e n : Nat} {A : Option Addr} {c : Nat} {zs : List Int} (h : w.ownsRow base e 1 (.slice A n c) n (zs.map (.int .u8))) (hb : Byt zs) : BRow w w.heap.size A zs := by
  refine ⟨hb, fun hp => ?_⟩
  have hl : zs.length = n := by simpa using h.1
  rcases h.2 with ⟨hv, h0⟩ | ⟨g, cap, cur, hv, _, hh, _⟩
  · omega
  · injection hv with hA _ hc
    subst hA hc
    have hlt : g < w.heap.size := by
      rcases Nat.lt_or_ge g w.heap.size with hlt | hge
      · exact hlt
      · rw [Array.getElem?_eq_none hge] at hh; cases hh
    refine ⟨g, 0, rfl, hlt, fun j hj => ?_⟩
    rw [Nat.zero_add, h.cellAt j (by omega)]
    simp [hj]

/-- an owned row is a slice value -/
theorem own_slice {w : World} {base e n : Nat} {v : Value} {xs : List Value} (h : w.ownsRow base e 1 v n xs) : ∃ A c, v = .slice A n c ∧ n ≤ c ∧ c ≤ maxLen := by
  rcases h.2 with ⟨rfl, rfl⟩ | ⟨g, cap, cur, rfl, _, _, h1, h2, _⟩
  · exact ⟨none, 0, rfl, Nat.le_refl _, by unfold maxLen; omega⟩
  · exact ⟨_, _, rfl, h1, h2⟩
end Go.Proofs.Ytjeocggocloigaa.P
/- The eye in memory; contracts of its refuse, number and take. -/
namespace Go.Proofs.Ytjeocggocloigaa
set_option linter.unusedVariables false
open Go.RowKit P

/-- block y holds an eye in state σ; what is left to read lies in elder blocks -/
def EyeAt (w : World) (y : Nat) (σ : St) : Prop :=
  ∃ A c, w.heap[y]? = some (.cells #[.slice A σ.2.length c, .int .i64 σ.1] 54 (0, 0)) ∧ σ.2.length ≤ c ∧ c ≤ maxLen ∧ (A = none → c = 0) ∧ BRow w y A σ.2
theorem two_cells {w : World} {y : Nat} {a b : Value} {T : TypeId} (h : w.heap[y]? = some (.cells #[a, b] T (0, 0))) :
    w.cell? ⟨y, 0, none⟩ = some a ∧ w.cell? ⟨y, 1, none⟩ = some b ∧ w.frozen? ⟨y, 0, none⟩ = false ∧ w.frozen? ⟨y, 1, none⟩ = false := by
  refine ⟨?_, ?_, ?_, ?_⟩ <;> simp [World.cell?, World.frozen?, h]
theorem two_set0 {w : World} {y : Nat} {a b : Value} {T : TypeId} (u : Value) (h : w.heap[y]? = some (.cells #[a, b] T (0, 0))) : (w.setCell ⟨y, 0, none⟩ u).heap[y]? = some (.cells #[u, b] T (0, 0)) := by
  have hlt := lt_of_block h
  have h' : w.heap[y] = .cells #[a, b] T (0, 0) := by simpa [Array.getElem?_eq_getElem hlt] using h
  show (w.heap.modify y _)[y]? = _
  rw [Array.getElem?_eq_getElem (by simpa using hlt), Array.getElem_modify_self, h']
  rfl
theorem two_set1 {w : World} {y : Nat} {a b : Value} {T : TypeId} (u : Value) (h : w.heap[y]? = some (.cells #[a, b] T (0, 0))) : (w.setCell ⟨y, 1, none⟩ u).heap[y]? = some (.cells #[a, u] T (0, 0)) := by
  have hlt := lt_of_block h
  have h' : w.heap[y] = .cells #[a, b] T (0, 0) := by simpa [Array.getElem?_eq_getElem hlt] using h
  show (w.heap.modify y _)[y]? = _
  rw [Array.getElem?_eq_getElem (by simpa using hlt), Array.getElem_modify_self, h']
  rfl
theorem grown_set (w : World) (y o : Nat) (u : Value) : w.grownBy (w.setCell ⟨y, o, none⟩ u) (some y) :=
  ⟨rfl, rfl, rfl, by simp [World.setCell], fun k _ hne => Below.heap_setCell _ _ _ _ (fun e => hne (by rw [e]))⟩
theorem grown_trans {a b c : World} {r : Option Nat} (h : a.grownBy b r) (k : b.grownBy c r) : a.grownBy c r :=
  ⟨k.os.trans h.os, k.tape.trans h.tape, k.output.trans h.output, Nat.le_trans h.size k.size, fun i hi hne => (k.block i (Nat.lt_of_lt_of_le hi h.size) hne).trans (h.block i hi hne)⟩
theorem grown_below {a b : World} (r : Option Nat) (h : Below a.heap.size a b) : a.grownBy b r := ⟨h.os, h.tape, h.output, h.size, fun i hi _ => h.block i hi⟩
theorem grown_drew {a b : World} {r : Option Nat} (h : a.grownBy b r) : a.grownBy b.drew r := ⟨h.os, h.tape, h.output, h.size, h.block⟩
theorem brow_grown {w w' : World} {y : Nat} {A : Option Addr} {zs : List Int} (h : BRow w y A zs) (g : w.grownBy w' (some y)) : BRow w' y A zs :=
  ⟨h.1, fun hn => by
    obtain ⟨b, off, e, hb, hc⟩ := h.2 hn
    exact ⟨b, off, e, hb, fun j hj => g.cell (hc j hj) (by intro e; cases e; exact Nat.lt_irrefl _ hb)⟩⟩
theorem EyeAt.keep {w w' : World} {y : Nat} {σ : St} (h : EyeAt w y σ) (hb : Below w.heap.size w w') : EyeAt w' y σ := by
  obtain ⟨A, c, h1, h2, h3, h4, h5⟩ := h
  have hy := lt_of_block h1
  exact ⟨A, c, (hb.block y hy).trans h1, h2, h3, h4, brow_grown h5 (grown_below _ hb)⟩
theorem EyeAt.lt {w : World} {y : Nat} {σ : St} (h : EyeAt w y σ) : y < w.heap.size := by
  obtain ⟨A, c, h1, _⟩ := h
  exact lt_of_block h1
theorem EyeAt.byt {w : World} {y : Nat} {σ : St} (h : EyeAt w y σ) : Byt σ.2 := by
  obtain ⟨A, c, _, _, _, _, h5⟩ := h
  exact h5.1
def EyePost (y : Nat) (v : Value) (σ' : St) (w : World) (e : Ending) (w' : World) : Prop := e = .returned v ∧ EyeAt w' y σ' ∧ w.grownBy w' (some y)

theorem refuse_no (y : Nat) (e : Int) (w : World) :
    Calls Try.prog 33 #[.pointer (some ⟨y, 0, none⟩), .bool false, .int .i64 e] w fun e w' => e = .returned (.tuple #[]) ∧ w = w' := by
  go_enter Try.func33, Try.ntmps33
  go_wp2
  go_returns
  exact ⟨rfl, rfl⟩
theorem refuse_eye (y : Nat) (σ : St) (bad : Bool) (e : Int) (w : World) (h : EyeAt w y σ) :
    Calls Try.prog 33 #[.pointer (some ⟨y, 0, none⟩), .bool bad, .int .i64 e] w (EyePost y (.tuple #[]) (refS bad e σ) w) := by
  cases bad
  · go_enter Try.func33, Try.ntmps33
    go_wp2
    go_returns
    exact ⟨rfl, h, grown_below _ (Below.refl _ _)⟩
  · obtain ⟨A, c, h1, h2, h3, h4, h5⟩ := h
    obtain ⟨k0, k1, f0, f1⟩ := two_cells h1
    have H1 := Lib.hid h1
    have H5 := Lib.hid h5
    clear h1 h5
    obtain ⟨er, zs⟩ := σ
    simp only at k0 k1 H1 H5 h2 ⊢
    by_cases e0 : er = 0
    · subst e0
      go_enter Try.func33, Try.ntmps33
      go_wp2
      go_returns
      exact ⟨rfl, ⟨A, c, two_set1 _ H1.out, h2, h3, h4, brow_grown H5.out (grown_set _ _ _ _)⟩, grown_set _ _ _ _⟩
    · have g0 : (er == 0) = false := by simp [e0]
      have HR := Lib.hid (show refS true e (er, zs) = (er, zs) from refS_bad (by exact e0) true e)
      go_enter Try.func33, Try.ntmps33
      go_wp2
      go_returns
      rw [HR.out]
      exact ⟨rfl, ⟨A, c, H1.out, h2, h3, h4, H5.out⟩, grown_below _ (Below.refl _ _)⟩

theorem brow_cut {w : World} {B : Nat} {A : Option Addr} {zs : List Int} (h : BRow w B A zs) (k cap : Nat) (hc : zs.length ≤ cap) : BRow w B (if cap = k then A else A.map (·.add k)) (zs.drop k) := by
  refine ⟨h.1.drop k, fun hn => ?_⟩
  rw [List.length_drop] at hn
  obtain ⟨b, off, rfl, hb, hcell⟩ := h.2 (by omega)
  rw [if_neg (by omega)]
  refine ⟨b, off + k, by simp [Go.WideShapes.add_plain], hb, fun j hj => ?_⟩
  rw [List.length_drop] at hj
  rw [getD_drop, show off + k + j = off + (k + j) from by omega]
  exact hcell (k + j) (by omega)
/-- behind the two stores of a number read -/
theorem eye_moved {w : World} {y : Nat} {A : Option Addr} {c k : Nat} {zs : List Int} {er : Int} (h1 : w.heap[y]? = some (.cells #[.slice A zs.length c, .int .i64 er] 54 (0, 0))) (h2 : zs.length ≤ c) (h3 : c ≤ maxLen) (h4 : A = none → c = 0) (h5 : BRow w y A zs) (hk : k ≤ zs.length) (e : Int) (B : Option Addr) (hB : B = if c = k then A else A.map (·.add k)) (d : Nat) (hd : d = c - k) :
    EyeAt ((w.setCell ⟨y, 0, none⟩ (.slice B (zs.length - k) d)).setCell ⟨y, 1, none⟩ (.int .i64 e)) y (e, zs.drop k) ∧ w.grownBy ((w.setCell ⟨y, 0, none⟩ (.slice B (zs.length - k) d)).setCell ⟨y, 1, none⟩ (.int .i64 e)) (some y) := by
  have g := grown_trans (grown_set w y 0 (.slice B (zs.length - k) d)) (grown_set _ y 1 (.int .i64 e))
  refine ⟨⟨B, d, ?_, ?_, by omega, ?_, ?_⟩, g⟩
  · have := two_set1 (.int .i64 e) (two_set0 (.slice B (zs.length - k) d) h1)
    simp only [List.length_drop]
    exact this
  · simp only [List.length_drop]; omega
  · intro hn
    rw [hB] at hn
    by_cases ck : c = k
    · omega
    · rw [if_neg ck] at hn
      have := h4 (by simpa using hn)
      omega
  · have hr := brow_cut h5 k c h2
    rw [← hB] at hr
    exact brow_grown hr g
theorem eye_left {w : World} {y : Nat} {A : Option Addr} {c k : Nat} {zs : List Int} {er : Int} (h1 : w.heap[y]? = some (.cells #[.slice A zs.length c, .int .i64 er] 54 (0, 0))) (h2 : zs.length ≤ c) (h3 : c ≤ maxLen) (h4 : A = none → c = 0) (h5 : BRow w y A zs) (hk : k ≤ zs.length) (B : Option Addr) (hB : B = if c = k then A else A.map (·.add k)) (d : Nat) (hd : d = c - k) :
    EyeAt (w.setCell ⟨y, 0, none⟩ (.slice B (zs.length - k) d)) y (er, zs.drop k) ∧ w.grownBy (w.setCell ⟨y, 0, none⟩ (.slice B (zs.length - k) d)) (some y) := by
  have g := grown_set w y 0 (.slice B (zs.length - k) d)
  refine ⟨⟨B, d, ?_, ?_, by omega, ?_, ?_⟩, g⟩
  · simp only [List.length_drop]
    exact two_set0 _ h1
  · simp only [List.length_drop]; omega
  · intro hn
    rw [hB] at hn
    by_cases ck : c = k
    · omega
    · rw [if_neg ck] at hn
      have := h4 (by simpa using hn)
      omega
  · have hr := brow_cut h5 k c h2
    rw [← hB] at hr
    exact brow_grown hr g

theorem number_eye (y : Nat) (σ : St) (w : World) (h : EyeAt w y σ) :
    Calls Try.prog 35 #[.pointer (some ⟨y, 0, none⟩)] w (EyePost y (.int .i64 (numS σ).1) (numS σ).2 w) := by
  obtain ⟨A, c, h1, h2, h3, h4, h5⟩ := h
  obtain ⟨k0, k1, f0, f1⟩ := two_cells h1
  have H1 := Lib.hid h1
  have H5 := Lib.hid h5
  have H4 := Lib.hid h4
  clear h1 h5 h4
  obtain ⟨er, zs⟩ := σ
  simp only at k0 k1 H1 H5 h2 ⊢
  by_cases e0 : er = 0
  · subst e0
    by_cases hd : decOk zs
    · have HD := Lib.hid hd
      have kb := kOf_bd (zs.getD 0 0)
      have kl := hd.2
      have HN := Lib.hid (show numS (0, zs) = (decV zs, (0, zs.drop (kOf (zs.getD 0 0)).toNat)) by unfold numS; simp [hd])
      obtain ⟨m, hm⟩ : ∃ m : Nat, kOf (zs.getD 0 0) = m := ⟨(kOf (zs.getD 0 0)).toNat, by omega⟩
      rw [hm, Int.toNat_natCast] at HN
      rw [hm] at kb kl
      have HM := Lib.hid hm
      obtain ⟨V, hV⟩ : ∃ V, decV zs = V := ⟨_, rfl⟩
      have HV := Lib.hid hV
      rw [hV] at HN
      clear hd hm hV
      have HE := Lib.hid (fun B hB d hd => eye_moved H1.out h2 h3 H4.out H5.out (by omega : m ≤ zs.length) 0 B hB d hd)
      by_cases hcm : c = m
      · have HC := Lib.hid hcm
        subst hcm
        go_enter Try.func35, Try.ntmps35
        go_wp2_with (go_at_call 40; refine (decode_yes _ _ _ _ _ _ H5.out rfl h2 h3 HD.out).mono ?_; rintro e w' ⟨rfl, rfl⟩; rw [HM.out, HV.out])
        go_ret
        rw [HN.out]
        have X := HE.out A (by simp) 0 (by omega)
        rw [show zs.length - c = 0 by omega] at X
        exact ⟨rfl, X.1, X.2⟩
      · have hcm' : ¬ m = c := fun e => hcm e.symm
        go_enter Try.func35, Try.ntmps35
        go_wp2_with (go_at_call 40; refine (decode_yes _ _ _ _ _ _ H5.out rfl h2 h3 HD.out).mono ?_; rintro e w' ⟨rfl, rfl⟩; rw [HM.out, HV.out])
        go_ret
        rw [HN.out]
        have X := HE.out (A.map (·.add m)) (by rw [if_neg hcm]) (c - m) rfl
        exact ⟨rfl, X.1, X.2⟩
    · have HD := Lib.hid hd
      have HN := Lib.hid (show numS (0, zs) = (0, (4, zs)) by unfold numS; simp [hd])
      have HE := Lib.hid (fun B hB d hd => eye_moved H1.out h2 h3 H4.out H5.out (Nat.zero_le _ : 0 ≤ zs.length) 4 B hB d hd)
      clear hd
      go_enter Try.func35, Try.ntmps35
      go_wp2_with (go_at_call 40; refine (decode_no _ _ _ _ _ _ H5.out rfl h2 h3 HD.out).mono ?_; rintro e w' ⟨rfl, rfl⟩)
      go_ret
      rw [HN.out]
      have X := HE.out A (by split; rfl; cases A <;> simp [Addr.add]) c rfl
      exact ⟨rfl, X.1, X.2⟩
  · have g0 : (er == 0) = false := by simp [e0]
    have HN := Lib.hid (show numS (er, zs) = (0, (er, zs)) from numS_bad (by exact e0))
    go_enter Try.func35, Try.ntmps35
    go_wp2
    go_ret
    rw [HN.out]
    exact ⟨rfl, ⟨A, c, H1.out, h2, h3, H4.out, H5.out⟩, grown_below _ (Below.refl _ _)⟩

/-- bytes handed on: a slice that reads as zs, of elder blocks -/
theorem take_eye (y : Nat) (σ : St) (n : Int) (w : World) (h : EyeAt w y σ) (h0 : 0 ≤ n) (hn : n ≤ 4611686018427387903) :
    Calls Try.prog 41 #[.pointer (some ⟨y, 0, none⟩), .int .i64 n] w fun e w' => ∃ v, e = .returned v ∧ BSl w' y v (takeS n σ).1 ∧ EyeAt w' y (takeS n σ).2 ∧ w.grownBy w' (some y) := by
  have hr := fun b => refuse_eye y σ b 4 w h
  obtain ⟨A, c, h1, h2, h3, h4, h5⟩ := h
  obtain ⟨k0, k1, f0, f1⟩ := two_cells h1
  have H1 := Lib.hid h1
  have H5 := Lib.hid h5
  have H4 := Lib.hid h4
  have HR := Lib.hid hr
  clear h1 h5 h4 hr
  obtain ⟨er, zs⟩ := σ
  simp only at k0 k1 H1 H5 h2 HR ⊢
  by_cases hl : (zs.length : Int) < n
  · have HR1 := Lib.hid (HR.out true)
    obtain ⟨σ', hσ⟩ : ∃ σ', refS true 4 (er, zs) = σ' := ⟨_, rfl⟩
    rw [hσ] at HR1
    have he' : σ'.1 ≠ 0 := by
      rw [← hσ]
      unfold refS
      by_cases e0 : er = 0
      · simp [e0]
      · simp [e0]
    have HT := Lib.hid (show takeS n (er, zs) = ([], σ') by unfold takeS; rw [decide_eq_true hl, hσ, if_neg he'])
    obtain ⟨e1, z1⟩ := σ'
    have g0 : (e1 == 0) = false := by simpa using he'
    clear HR hσ he'
    go_enter Try.func41, Try.ntmps41
    go_wp2_with (go_at_call 33; refine HR1.out.mono ?_; rintro e w1 ⟨rfl, E1, g1⟩; obtain ⟨A1, c1, h11, h12, h13, h14, h15⟩ := E1; obtain ⟨q0, q1, r0, r1⟩ := two_cells h11; have H11 := Lib.hid h11; have H14 := Lib.hid h14; have H15 := Lib.hid h15; have G1 := Lib.hid g1; clear h11 h14 h15 g1)
    go_ret
    rw [HT.out]
    exact ⟨_, rfl, BSl.nil _ _, ⟨A1, c1, H11.out, h12, h13, H14.out, H15.out⟩, G1.out⟩
  · clear HR
    by_cases e0 : er = 0
    · subst e0
      obtain ⟨m, rfl⟩ : ∃ m : Nat, n = m := ⟨n.toNat, by omega⟩
      have hm : m ≤ zs.length := by omega
      have HT := Lib.hid (show takeS m (0, zs) = (zs.take m, (0, zs.drop m)) by unfold takeS; rw [decide_eq_false hl]; rfl)
      have HE := Lib.hid (fun B hB d hd => eye_left H1.out h2 h3 H4.out H5.out hm B hB d hd)
      have HLT := Lib.hid (show (zs.take m).length = m by rw [List.length_take]; omega)
      by_cases hcm : c = m
      · have HC := Lib.hid hcm
        subst hcm
        go_enter Try.func41, Try.ntmps41
        go_wp2_with (go_at_call 33; refine (refuse_no _ _ _).mono ?_; rintro e w' ⟨rfl, rfl⟩)
        go_ret
        rw [HT.out]
        have X := HE.out A (by simp) 0 (by omega)
        rw [show zs.length - c = 0 by omega] at X
        exact ⟨_, rfl, ⟨A, c, by rw [HLT.out]; rfl, by rw [HLT.out]; omega, h3, H4.out, brow_grown (H5.out.take c) X.2⟩, X.1, X.2⟩
      · have hcm' : ¬ m = c := fun e => hcm e.symm
        go_enter Try.func41, Try.ntmps41
        go_wp2_with (go_at_call 33; refine (refuse_no _ _ _).mono ?_; rintro e w' ⟨rfl, rfl⟩)
        go_ret
        rw [HT.out]
        have X := HE.out (A.map (·.add m)) (by rw [if_neg hcm]) (c - m) rfl
        exact ⟨_, rfl, ⟨A, c, by rw [HLT.out]; rfl, by rw [HLT.out]; omega, h3, H4.out, brow_grown (H5.out.take m) X.2⟩, X.1, X.2⟩
    · have g0 : (er == 0) = false := by simp [e0]
      have HT := Lib.hid (show takeS n (er, zs) = ([], (er, zs)) from takeS_bad (by exact e0) n)
      go_enter Try.func41, Try.ntmps41
      go_wp2_with (go_at_call 33; refine (refuse_no _ _ _).mono ?_; rintro e w' ⟨rfl, rfl⟩)
      go_ret
      rw [HT.out]
      exact ⟨_, rfl, BSl.nil _ _, ⟨A, c, H1.out, h2, h3, H4.out, H5.out⟩, grown_below _ (Below.refl _ _)⟩
end Go.Proofs.Ytjeocggocloigaa
/- Contracts of the eye's word, data, kind and downFrom; of bytes.Clone. -/
namespace Go.Proofs.Ytjeocggocloigaa
set_option linter.unusedVariables false
open Go.RowKit P

theorem own_base {w : World} {base base' e size n : Nat} {v : Value} {xs : List Value} (h : w.ownsRow base e size v n xs) (hb : base' ≤ base) : w.ownsRow base' e size v n xs := by
  refine ⟨h.1, ?_⟩
  rcases h.2 with h2 | ⟨g, cap, cur, hv, hg, r⟩
  · exact .inl h2
  · exact .inr ⟨g, cap, cur, hv, Nat.le_trans hb hg, r⟩
theorem own_bsl {w : World} {base e n : Nat} {v : Value} {zs : List Int} (h : w.ownsRow base e 1 v n (zs.map (.int .u8))) (hb : Byt zs) : BSl w w.heap.size v zs := by
  have hl : zs.length = n := by simpa using h.1
  rcases h.2 with ⟨rfl, h0⟩ | ⟨g, cap, cur, rfl, _, hg, h1, h2, h3, h4⟩
  · have e0 : zs = [] := List.eq_nil_of_length_eq_zero (by omega)
    subst e0
    exact BSl.nil _ _
  · subst hl
    exact ⟨_, _, rfl, h1, h2, (fun e => by cases e), own_brow ⟨by simp, .inr ⟨g, cap, cur, rfl, by assumption, hg, h1, h2, h3, h4⟩⟩ hb⟩
theorem infoB1 : (Try.prog.info? 5).map (fun i => (i.zero, i.size, i.bytes)) = some (some (.int .u8 0), 1, 1) := by kernel_rfl
theorem own_mtB (w : World) (base : Nat) (t : TypeId) (hb : base ≤ w.heap.size) : (w.alloc (.cells #[] t)).ownsRow base t 1 (.slice (some ⟨w.heap.size, 0, none⟩) 0 0) 0 [] :=
  ⟨rfl, .inr ⟨w.heap.size, 0, #[], rfl, hb, heap_alloc_new w (.cells #[] t), Nat.le_refl _, by unfold maxLen; omega, rfl, rfl⟩⟩
theorem bclone_any (B : Nat) (v : Value) (zs : List Int) (w : World) (hB : B ≤ w.heap.size) (h : BSl w B v zs) (hm : zs.length ≤ 140737488355328) :
    Calls Try.prog 42 #[v] w fun e w' => ∃ u, e = .returned u ∧ w'.ownsRow w.heap.size 5 1 u zs.length (zs.map (.int .u8)) ∧ Below w.heap.size w w' := by
  obtain ⟨A, c, rfl, h1, h2, hn, h3⟩ := h.ex
  rcases A with _ | a
  · have e0 : zs = [] := by
      rcases Nat.eq_zero_or_pos zs.length with e | e
      · exact List.eq_nil_of_length_eq_zero e
      · obtain ⟨b, off, e, _⟩ := h3.2 e; cases e
    subst e0
    obtain rfl := hn rfl
    clear hn
    have hnil := fun w => Lib.run_eql_slice_nil (P := Try.prog) w 23 5 none 0 0 0 0 Try.underlying23
    go_enter Try.func42, Try.ntmps42
    go_wp2
    go_ret
    exact ⟨_, rfl, World.ownsRow_nil _ _ _ _, Below.refl _ _⟩
  · obtain ⟨i0, hi0, hz0, hz1, hz2⟩ := info_parts infoB1
    have HI := Lib.hid hi0
    have HZ := Lib.hid hz0
    have HZ1 := Lib.hid hz1
    have HZ2 := Lib.hid hz2
    have H3 := Lib.hid (h3.more hB)
    clear hi0 hz0 hz1 hz2 h3
    have hnil := fun w => Lib.run_eql_slice_nil (P := Try.prog) w 23 5 (some a) zs.length c 0 0 Try.underlying23
    go_enter Try.func42, Try.ntmps42
    go_wp2_with (first
      | (at_builtin
         refine wpList_app _ rfl (.tmp 5) (.tmp 6) _ rfl w.heap.size 5 i0 Try.underlying23 HI.out HZ.out HZ1.out HZ2.out (.slice (some ⟨w.heap.size, 0, none⟩) 0 0) 0 [] rfl (own_mtB w w.heap.size 5 (Nat.le_refl _)) w.heap.size (some a) zs.length c zs rfl (H3.out.below ((Below.refl w.heap.size w).alloc (Nat.le_refl _) (.cells #[] 5))) rfl (fun h => by cases h) (by omega) (by simp <;> omega) ?_
         intro v1 u1 own1 g1 _
         have O1 := Lib.hid own1
         have B1 := Lib.hid (((Below.refl w.heap.size w).alloc (Nat.le_refl _) (.cells #[] 5)).grown g1 (by simp <;> omega) (fun k hk => ((own_mtB w w.heap.size 5 (Nat.le_refl _)).lt k hk).1))
         clear own1 g1))
    go_ret
    exact ⟨_, rfl, by simpa using O1.out, B1.out⟩

theorem or_u64 (x y : Int) (hx : 0 ≤ x) (hx1 : x ≤ 72057594037927935) (hy : 0 ≤ y) (hy1 : y ≤ 255) : bits .or .u64 (x * 256) y = x * 256 + y :=
  bits_join .u64 64 (by decide) (fun n h0 h1 => IntWalk.u64_in n (by omega)) 8 (x * 256) y (by omega) (by omega) (by omega) hy (by omega) (by omega)

theorem word_eye (y : Nat) (σ : St) (w : World) (h : EyeAt w y σ) :
    Calls Try.prog 36 #[.pointer (some ⟨y, 0, none⟩)] w (EyePost y (.int .u64 (wordS σ).1) (wordS σ).2 w) := by
  have HT := Lib.hid (take_eye y σ 8 w h (by omega) (by omega))
  have h8 : (takeS 8 σ).1.length ≤ 8 := by
    unfold takeS
    split
    · simp; omega
    · simp
  have HW1 := Lib.hid (show (wordS σ).1 = beFrom 0 (takeS 8 σ).1 from rfl)
  have HW2 := Lib.hid (show (wordS σ).2 = (takeS 8 σ).2 from rfl)
  obtain ⟨zs, hz⟩ : ∃ zs, (takeS 8 σ).1 = zs := ⟨_, rfl⟩
  obtain ⟨σ1, hs⟩ : ∃ σ1, (takeS 8 σ).2 = σ1 := ⟨_, rfl⟩
  rw [hz] at HT h8 HW1
  rw [hs] at HT HW2
  rw [HW1.out, HW2.out]
  clear h hz hs HW1 HW2
  go_enter Try.func36, Try.ntmps36
  go_wp2_with (go_at_call 41; refine HT.out.mono ?_; rintro e w1 ⟨v, rfl, hv, E1, g1⟩; obtain ⟨A1, c1, rfl, l1, m1, n1, r1⟩ := hv.ex; have R1 := Lib.hid r1; have HE := Lib.hid E1; have G1 := Lib.hid g1; clear hv E1 g1 r1 n1)
  go_loop [3, 9] (fun acc i => ∃ k : Nat, k ≤ zs.length ∧ i = .int .i64 k ∧ acc = .int .u64 (beFrom 0 (zs.take k))) (fun _ i => zs.length - (intOf i).toNat)
  case atStart => exact ⟨0, Nat.zero_le _, rfl, rfl⟩
  case round =>
    obtain ⟨k, hk, rfl, rfl⟩ := hrel
    by_cases hlt : k < zs.length
    · obtain ⟨b, off, rfl, _, hc⟩ := R1.out.2 (by omega)
      have hcell := hc k hlt
      have st := beFrom_step 0 zs k hlt
      have bd := beFrom_bd 0 zs R1.out.1 (by omega) k (by omega)
      have hby := R1.out.1 k
      have bd7 : 0 ≤ beFrom 0 (zs.take k) ∧ beFrom 0 (zs.take k) ≤ 72057594037927935 := by
        have p : (256 : Int) ^ k ≤ 72057594037927936 := by
          have c : k = 0 ∨ k = 1 ∨ k = 2 ∨ k = 3 ∨ k = 4 ∨ k = 5 ∨ k = 6 ∨ k = 7 := by omega
          rcases c with rfl | rfl | rfl | rfl | rfl | rfl | rfl | rfl <;> decide
        generalize (256 : Int) ^ k = u at *
        omega
      generalize beFrom 0 (zs.take k) = yy at st bd7
      generalize zs.getD k 0 = x at st hby hcell
      have hor := or_u64 yy x bd7.1 bd7.2 hby.1 hby.2
      have ST := Lib.hid st
      clear st bd hc
      go_wp2
      go_round
      case rel => exact ⟨k + 1, by omega, by go_num, by rw [ST.out]⟩
      case measure => simp [intOf]; omega
    · obtain rfl : k = zs.length := by omega
      go_wp2
      go_ret
      exact ⟨ret_int (by first | rfl | rw [List.take_of_length_le (Nat.le_refl _)]), HE.out, G1.out⟩

theorem data_eye (y : Nat) (σ : St) (w : World) (h : EyeAt w y σ) (hm : σ.2.length ≤ 140737488355328) :
    Calls Try.prog 37 #[.pointer (some ⟨y, 0, none⟩)] w fun e w' => ∃ v, e = .returned v ∧ (w'.ownsRow w.heap.size 5 1 v (dataS σ).1.length ((dataS σ).1.map (.int .u8)) ∧ Byt (dataS σ).1) ∧ EyeAt w' y (dataS σ).2 ∧ w.grownBy w' (some y) := by
  have hb := numS_bd h.byt
  have HN := Lib.hid (number_eye y σ w h)
  have HD := Lib.hid (show dataS σ = takeS (numS σ).1 (refS (decide (120 < (numS σ).1)) 1 (numS σ).2) from rfl)
  obtain ⟨n, hn⟩ : ∃ n, (numS σ).1 = n := ⟨_, rfl⟩
  obtain ⟨σ1, hs⟩ : ∃ σ1, (numS σ).2 = σ1 := ⟨_, rfl⟩
  rw [hn, hs] at HN HD hb
  obtain ⟨n0, n1, nb, nl⟩ := hb
  have HB := Lib.hid nb
  have HL := Lib.hid (show ∀ b, (takeS n (refS b 1 σ1)).1.length ≤ 140737488355328 from fun b => by
    have := (takeS_bd (σ := refS b 1 σ1) (by rw [refS_left]; exact HB.out) n).2.2
    rw [refS_left] at this
    omega)
  have HBT := Lib.hid (show ∀ b, Byt (takeS n (refS b 1 σ1)).1 from fun b => (takeS_bd (σ := refS b 1 σ1) (by rw [refS_left]; exact HB.out) n).1)
  rw [HD.out]
  clear h hn hs HD nb
  go_enter Try.func37, Try.ntmps37
  go_wp2_with (first
    | (go_at_call 35; refine HN.out.mono ?_; rintro e w1 ⟨rfl, E1, g1⟩; have HE1 := Lib.hid E1; have G1 := Lib.hid g1; clear E1 g1)
    | (go_at_call 33; refine (refuse_eye _ _ _ _ _ HE1.out).mono ?_; rintro e w2 ⟨rfl, E2, g2⟩; have HE2 := Lib.hid E2; have G2 := Lib.hid (grown_trans G1.out g2); clear E2 g2)
    | (go_at_call 41; refine (take_eye _ _ _ _ HE2.out n0 n1).mono ?_; rintro e w3 ⟨v3, rfl, s3, E3, g3⟩; have S3 := Lib.hid s3; have HE3 := Lib.hid E3; have G3 := Lib.hid (grown_trans G2.out g3); clear E3 g3 s3)
    | (go_at_call 42; refine (bclone_any _ _ _ _ (Nat.le_of_lt HE3.out.lt) S3.out (HL.out _)).mono ?_; rintro e w4 ⟨v4, rfl, s4, b4⟩; have S4 := Lib.hid s4; have HE4 := Lib.hid (HE3.out.keep b4); have G4 := Lib.hid (grown_trans G3.out (grown_below _ b4)); clear s4 b4))
  go_ret
  exact ⟨_, rfl, ⟨own_base S4.out G3.out.size, HBT.out _⟩, HE4.out, G4.out⟩
end Go.Proofs.Ytjeocggocloigaa
/- Ranges read by an eye, in plain words. Nothing of the program's. -/
namespace Go.Proofs.Ytjeocggocloigaa.P
set_option linter.unusedVariables false
open Go.RowKit

def conR (l : List (Int × Int)) : Except Int (List (Int × Int) × List Int) → Except Int (List (Int × Int) × List Int)
  | .error e => .error e
  | .ok (t, s) => .ok (l ++ t, s)
def decTS (k : Nat) (b : Int) (σ : St) : Except Int (List (Int × Int) × List Int) := if σ.1 = 0 then decT k b σ.2 else .error σ.1
def downS (hi : Int) (σ : St) : (Int × Int) × St := ((hi - (numS σ).1, hi), refS (decide (hi - (numS σ).1 < 0)) 6 (numS σ).2)
theorem conR_con (l m : List (Int × Int)) (x : Except Int (List (Int × Int) × List Int)) : conR l (conR m x) = conR (l ++ m) x := by
  cases x with
  | error e => rfl
  | ok p => obtain ⟨t, s⟩ := p; simp [conR]
theorem decTS_bad {k : Nat} {b : Int} {σ : St} (h : σ.1 ≠ 0) : decTS k b σ = .error σ.1 := if_neg h
theorem decTS_zero (l : List (Int × Int)) (b : Int) (σ : St) : conR l (decTS 0 b σ) = toE σ l := by
  unfold decTS toE
  by_cases h : σ.1 = 0
  · rw [if_pos h, if_pos h]; simp [decT, conR]
  · rw [if_neg h, if_neg h]; rfl
theorem decTS_end (l : List (Int × Int)) (k : Nat) (b : Int) (σ : St) (h : σ.1 ≠ 0) : conR l (decTS k b σ) = toE σ l := by
  unfold decTS toE
  rw [if_neg h, if_neg h]; rfl
theorem decTS_ok {k : Nat} {b : Int} (s : List Int) : decTS k b (0, s) = decT k b s := if_pos rfl
theorem decTS_er {k : Nat} {b : Int} (e : Int) (h : e ≠ 0) (s : List Int) : decTS k b (e, s) = .error e := if_neg h
theorem downS_bad (hi e : Int) (h : e ≠ 0) (s : List Int) : downS hi (e, s) = ((hi, hi), (e, s)) := by
  unfold downS
  rw [numS_bad (σ := (e, s)) h, refS_bad (σ := (e, s)) h]
  simp
theorem downS_er (hi : Int) (s s1 : List Int) (n e : Int) (h : numS (0, s) = (n, (e, s1))) (he : e ≠ 0) : downS hi (0, s) = ((hi - n, hi), (e, s1)) := by
  unfold downS
  rw [h]
  simp only
  rw [refS_bad (σ := (e, s1)) he]
theorem downS_ok (hi : Int) (s s1 : List Int) (n : Int) (h : numS (0, s) = (n, (0, s1))) : downS hi (0, s) = ((hi - n, hi), (if hi - n < 0 then 6 else 0, s1)) := by
  unfold downS
  rw [h]
  simp only [refS]
  by_cases c : hi - n < 0
  · simp [c]
  · simp [c]
theorem rd_ok' {s s1 : List Int} {n : Int} (h : numS (0, s) = (n, (0, s1))) : rd s = .ok (n, s1) := by rw [numS_good, h]; rfl
theorem rd_er' {s s1 : List Int} {n e : Int} (h : numS (0, s) = (n, (e, s1))) (he : e ≠ 0) : rd s = .error e := by rw [numS_good, h]; exact if_neg he
theorem decTS_step (k : Nat) (b : Int) (s : List Int) (g : Int) (σ1 : St) (hN : numS (0, s) = (g, σ1)) (r : Int × Int) (σ2 : St) (hD : downS (b - g - 2) σ1 = (r, σ2)) : decTS (k + 1) b (0, s) = conR [r] (decTS k r.1 σ2) := by
  rw [decTS_ok]
  simp only [decT]
  obtain ⟨e1, s1⟩ := σ1
  by_cases c1 : e1 = 0
  · subst c1
    rw [rd_ok' hN]
    simp only
    obtain ⟨⟨n, e2, s2⟩, hM⟩ : ∃ x, numS (0, s1) = x := ⟨_, rfl⟩
    by_cases c2 : e2 = 0
    · subst c2
      rw [rd_ok' hM]
      simp only
      rw [downS_ok _ _ _ _ hM] at hD
      obtain ⟨rfl, rfl⟩ := Prod.mk.inj hD
      by_cases c3 : b - g - 2 - n < 0
      · rw [if_pos c3, if_pos c3, decTS_er 6 (by decide)]; rfl
      · rw [if_neg c3, if_neg c3, decTS_ok]
        cases decT k (b - g - 2 - n) s2 with
        | error e => rfl
        | ok p => obtain ⟨t, s3⟩ := p; rfl
    · rw [rd_er' hM c2]
      rw [downS_er _ _ _ _ _ hM c2] at hD
      obtain ⟨rfl, rfl⟩ := Prod.mk.inj hD
      rw [decTS_er _ c2]; rfl
  · rw [rd_er' hN c1]
    rw [downS_bad _ _ c1] at hD
    obtain ⟨rfl, rfl⟩ := Prod.mk.inj hD
    rw [decTS_er _ c1]; rfl
theorem decRs_start (s : List Int) (hi : Int) (σ1 : St) (h1 : numS (0, s) = (hi, σ1)) (n : Int) (σ2 : St) (h2 : numS σ1 = (n, σ2)) (r : Int × Int) (σ4 : St) (h4 : downS hi (refS (decide (6 ≤ n)) 1 σ2) = (r, σ4)) : decRs s = conR [r] (decTS n.toNat r.1 σ4) := by
  unfold decRs
  obtain ⟨e1, s1⟩ := σ1
  by_cases c1 : e1 = 0
  · subst c1
    rw [rd_ok' h1]
    simp only
    obtain ⟨e2, s2⟩ := σ2
    by_cases c2 : e2 = 0
    · subst c2
      rw [rd_ok' h2]
      simp only
      by_cases c3 : 6 ≤ n
      · have hq : refS (decide (6 ≤ n)) 1 (0, s2) = (1, s2) := by unfold refS; simp [c3]
        rw [hq, downS_bad _ _ (by decide)] at h4
        obtain ⟨rfl, rfl⟩ := Prod.mk.inj h4
        rw [if_pos c3, decTS_er _ (by decide)]; rfl
      · have hq : refS (decide (6 ≤ n)) 1 (0, s2) = (0, s2) := by unfold refS; simp [c3]
        rw [hq] at h4
        rw [if_neg c3]
        obtain ⟨⟨m, e3, s3⟩, hO⟩ : ∃ x, numS (0, s2) = x := ⟨_, rfl⟩
        by_cases c4 : e3 = 0
        · subst c4
          rw [rd_ok' hO]
          simp only
          rw [downS_ok _ _ _ _ hO] at h4
          obtain ⟨rfl, rfl⟩ := Prod.mk.inj h4
          by_cases c5 : hi - m < 0
          · rw [if_pos c5, if_pos c5, decTS_er 6 (by decide)]; rfl
          · rw [if_neg c5, if_neg c5, decTS_ok]
            cases decT n.toNat (hi - m) s3 with
            | error e => rfl
            | ok p => obtain ⟨t, s4⟩ := p; rfl
        · rw [rd_er' hO c4]
          rw [downS_er _ _ _ _ _ hO c4] at h4
          obtain ⟨rfl, rfl⟩ := Prod.mk.inj h4
          rw [decTS_er _ c4]; rfl
    · rw [rd_er' h2 c2]
      rw [refS_bad (σ := (e2, s2)) c2, downS_bad _ _ c2] at h4
      obtain ⟨rfl, rfl⟩ := Prod.mk.inj h4
      rw [decTS_er _ c2]; rfl
  · rw [rd_er' h1 c1]
    rw [numS_bad (σ := (e1, s1)) c1] at h2
    obtain ⟨rfl, rfl⟩ := Prod.mk.inj h2
    rw [refS_bad (σ := (e1, s1)) c1, downS_bad _ _ c1] at h4
    obtain ⟨rfl, rfl⟩ := Prod.mk.inj h4
    rw [decTS_er _ c1]; rfl
theorem downS_bd {hi : Int} {σ σ' : St} {r : Int × Int} (hb : Byt σ.2) (h : downS hi σ = (r, σ')) : r.1 ≤ hi ∧ (σ'.1 = 0 → 0 ≤ r.1 ∧ σ.1 = 0) ∧ Byt σ'.2 := by
  have b := numS_bd hb
  unfold downS at h
  obtain ⟨rfl, rfl⟩ := Prod.mk.inj h
  refine ⟨by simp only; omega, fun e => ?_, by rw [refS_left]; exact b.2.2.1⟩
  simp only
  unfold refS at e
  by_cases c : hi - (numS σ).1 < 0
  · by_cases c2 : (numS σ).2.1 = 0
    · simp [c, c2] at e
    · simp [c2] at e
  · refine ⟨by omega, ?_⟩
    simp [c] at e
    by_cases c3 : σ.1 = 0
    · exact c3
    · rw [numS_bad c3] at e; exact e
theorem start_bd {hi n : Int} {σ σ' : St} {r : Int × Int} (h : downS hi (refS (decide (6 ≤ n)) 1 σ) = (r, σ')) (hb : Byt σ.2) (e : σ'.1 = 0) : n < 6 := by
  have := (downS_bd (by rw [refS_left]; exact hb) h).2.1 e
  have h2 := this.2
  unfold refS at h2
  by_cases c : 6 ≤ n
  · by_cases c2 : σ.1 = 0
    · simp [c, c2] at h2
    · simp [c2] at h2
  · omega
end Go.Proofs.Ytjeocggocloigaa.P
/- Contracts of the eye's kind, downFrom and ranges. -/
namespace Go.Proofs.Ytjeocggocloigaa
set_option linter.unusedVariables false
open Go.RowKit P

/-- an eye outlives a store into another block -/
theorem EyeAt.other {w w' : World} {y b : Nat} {σ : St} (h : EyeAt w y σ) (g : w.grownBy w' (some b)) (hb : y < b) : EyeAt w' y σ := by
  obtain ⟨A, c, h1, h2, h3, h4, h5⟩ := h
  have hy := lt_of_block h1
  refine ⟨A, c, (g.block y hy (by simp; omega)).trans h1, h2, h3, h4, h5.1, fun hn => ?_⟩
  obtain ⟨bb, off, e, hbb, hc⟩ := h5.2 hn
  exact ⟨bb, off, e, hbb, fun j hj => g.cell (hc j hj) (by simp; omega)⟩
def kindS (σ : St) : (Int × Bool) × St :=
  if (numS σ).1 = 14 ∨ (numS σ).1 = 15 then ((8, (numS σ).1 == 15), (numS σ).2) else if (numS σ).1 = 8 then ((8, false), refS true 2 (numS σ).2) else (((numS σ).1, false), (numS σ).2)
theorem kind_eye (y : Nat) (σ : St) (w : World) (h : EyeAt w y σ) :
    Calls Try.prog 32 #[.pointer (some ⟨y, 0, none⟩)] w (EyePost y (.tuple #[.int .i64 (kindS σ).1.1, .bool (kindS σ).1.2]) (kindS σ).2 w) := by
  have HN := Lib.hid (number_eye y σ w h)
  have HK := Lib.hid (show kindS σ = if (numS σ).1 = 14 ∨ (numS σ).1 = 15 then ((8, (numS σ).1 == 15), (numS σ).2) else if (numS σ).1 = 8 then ((8, false), refS true 2 (numS σ).2) else (((numS σ).1, false), (numS σ).2) from rfl)
  obtain ⟨n, hn⟩ : ∃ n, (numS σ).1 = n := ⟨_, rfl⟩
  obtain ⟨σ1, hs⟩ : ∃ σ1, (numS σ).2 = σ1 := ⟨_, rfl⟩
  rw [hn, hs] at HN HK
  clear h hn hs
  obtain ⟨K, hK⟩ : ∃ K, kindS σ = K := ⟨_, rfl⟩
  rw [hK] at HK ⊢
  clear hK
  by_cases c1 : n = 14
  · subst c1
    have hv := Lib.hid (show K = ((8, false), σ1) by rw [HK.out]; rfl)
    go_enter Try.func32, Try.ntmps32
    go_wp2_with (go_at_call 35; refine HN.out.mono ?_; rintro e w1 ⟨rfl, E1, g1⟩; have HE1 := Lib.hid E1; have G1 := Lib.hid g1; clear E1 g1)
    go_ret2
    rw [hv.out]
    exact ⟨rfl, HE1.out, G1.out⟩
  by_cases c2 : n = 15
  · subst c2
    have hv := Lib.hid (show K = ((8, true), σ1) by rw [HK.out]; rfl)
    go_enter Try.func32, Try.ntmps32
    go_wp2_with (go_at_call 35; refine HN.out.mono ?_; rintro e w1 ⟨rfl, E1, g1⟩; have HE1 := Lib.hid E1; have G1 := Lib.hid g1; clear E1 g1)
    go_ret2
    rw [hv.out]
    exact ⟨rfl, HE1.out, G1.out⟩
  by_cases c3 : n = 8
  · subst c3
    have hv := Lib.hid (show K = ((8, false), refS true 2 σ1) by rw [HK.out]; rfl)
    go_enter Try.func32, Try.ntmps32
    go_wp2_with (first
      | (go_at_call 35; refine HN.out.mono ?_; rintro e w1 ⟨rfl, E1, g1⟩; have HE1 := Lib.hid E1; have G1 := Lib.hid g1; clear E1 g1)
      | (go_at_call 33; refine (refuse_eye _ _ _ _ _ HE1.out).mono ?_; rintro e w2 ⟨rfl, E2, g2⟩; have HE2 := Lib.hid E2; have G2 := Lib.hid (grown_trans G1.out g2); clear E2 g2))
    go_ret2
    rw [hv.out]
    exact ⟨rfl, HE2.out, G2.out⟩
  · have hv := Lib.hid (show K = ((n, false), σ1) by rw [HK.out, if_neg (by omega), if_neg c3])
    go_enter Try.func32, Try.ntmps32
    go_wp2_with (go_at_call 35; refine HN.out.mono ?_; rintro e w1 ⟨rfl, E1, g1⟩; have HE1 := Lib.hid E1; have G1 := Lib.hid g1; clear E1 g1)
    go_ret2
    rw [hv.out]
    exact ⟨rfl, HE1.out, G1.out⟩

theorem down_eye (y : Nat) (σ : St) (hi : Int) (w : World) (h : EyeAt w y σ) (h0 : -4611686018427387905 ≤ hi) (h1 : hi ≤ 4611686018427387903) :
    Calls Try.prog 39 #[.pointer (some ⟨y, 0, none⟩), .int .i64 hi] w (EyePost y (.agg #[.int .i64 (downS hi σ).1.1, .int .i64 (downS hi σ).1.2]) (downS hi σ).2 w) := by
  have hb := numS_bd h.byt
  have HB := Lib.hid ((Below.refl w.heap.size w).alloc (Nat.le_refl _) (.cells #[.int .i64 0, .int .i64 0] 51))
  have HN := Lib.hid (number_eye y σ _ (h.keep HB.out))
  have hy := h.lt
  have HK := Lib.hid (show downS hi σ = ((hi - (numS σ).1, hi), refS (decide (hi - (numS σ).1 < 0)) 6 (numS σ).2) from rfl)
  obtain ⟨n, hn⟩ : ∃ n, (numS σ).1 = n := ⟨_, rfl⟩
  obtain ⟨σ1, hs⟩ : ∃ σ1, (numS σ).2 = σ1 := ⟨_, rfl⟩
  rw [hn, hs] at HN HK
  rw [hn] at hb
  obtain ⟨n0, n1, _, _⟩ := hb
  clear h hn hs
  obtain ⟨K, hK⟩ : ∃ K, downS hi σ = K := ⟨_, rfl⟩
  rw [hK] at HK ⊢
  clear hK
  go_enter Try.func39, Try.ntmps39
  go_wp2_with (first
      | (go_at_call 35; refine HN.out.mono ?_; rintro e w1 ⟨rfl, E1, g1⟩; have HE1 := Lib.hid E1; have G1 := Lib.hid g1; clear E1 g1)
      | (go_at_call 33; refine (refuse_eye _ _ _ _ _ HE1.out).mono ?_; rintro e w2 ⟨rfl, E2, g2⟩; have HE2 := Lib.hid E2; have G2 := Lib.hid (grown_trans G1.out g2); have hB := (G2.out.block w.heap.size (by simp) (by simp; omega)).trans (heap_alloc_new w _); obtain ⟨q0, q1, r0, r1⟩ := two_cells hB; have HBB := Lib.hid hB; clear E2 g2 hB))
  have X0 := two_set0 (.int .i64 (hi - n)) HBB.out
  have X1 := two_set1 (.int .i64 hi) X0
  have t0 := (two_cells X0).1
  have t1 := (two_cells X1).2.1
  have g := grown_trans (grown_set w2 w.heap.size 0 (.int .i64 (hi - n))) (grown_set _ w.heap.size 1 (.int .i64 hi))
  have hlt : w.heap.size < w2.heap.size := lt_of_block HBB.out
  have HEE := Lib.hid (HE2.out.other g (by omega))
  have HGG := Lib.hid (show w.grownBy ((w2.setCell ⟨w.heap.size, 0, none⟩ (.int .i64 (hi - n))).setCell ⟨w.heap.size, 1, none⟩ (.int .i64 hi)) (some y) from
    ⟨g.os.trans (G2.out.os.trans HB.out.os), g.tape.trans (G2.out.tape.trans HB.out.tape), g.output.trans (G2.out.output.trans HB.out.output), Nat.le_trans (Nat.le_of_lt hlt) g.size, fun k hk hne => (g.block k (by omega) (by simp; omega)).trans ((G2.out.block k (by simp; omega) hne).trans (HB.out.block k hk))⟩)
  clear X0 X1 g q0 q1 r0 r1
  (try simp only [Exit.inBlock, Exit.then])
  refine bodyPost_ret (by simp [results, Try.results39, go_sem, t0, t1]; try rfl) rfl ?_
  rw [HK.out]
  exact ⟨rfl, HEE.out, HGG.out⟩
end Go.Proofs.Ytjeocggocloigaa
/- Contract of the eye's ranges. -/
namespace Go.Proofs.Ytjeocggocloigaa
set_option linter.unusedVariables false
open Go.RowKit P

theorem infoR2 : (Try.prog.info? 51).map (fun i => (i.zero, i.size, i.bytes)) = some (some (.agg #[.int .i64 0, .int .i64 0]), 2, 16) := by kernel_rfl
theorem own_one (w : World) (base : Nat) (lo hi : Int) (t : TypeId) (hb : base ≤ w.heap.size) : OwnR (w.alloc (.cells #[.int .i64 lo, .int .i64 hi] t)) base t (.slice (some ⟨w.heap.size, 0, none⟩) 1 1) [(lo, hi)] :=
  ⟨rfl, .inr ⟨w.heap.size, 1, #[.int .i64 lo, .int .i64 hi], rfl, hb, heap_alloc_new w _, Nat.le_refl _, by unfold maxLen; omega, rfl, rfl⟩⟩
theorem own_eye {w w' : World} {base y : Nat} {e : TypeId} {v : Value} {qs : List (Int × Int)} (h : OwnR w base e v qs) (g : w.grownBy w' (some y)) (hy : y < base) : OwnR w' base e v qs :=
  World.ownsRow.kept h g (by
    cases hv : v.ownBlock with
    | none => exact .inl rfl
    | some k => exact .inr (by have := (h.lt k hv).1; simp; omega))
/-- behind an append onto an own row an eye is as it was -/
theorem EyeAt.row {w w' : World} {y base : Nat} {e : TypeId} {v : Value} {qs : List (Int × Int)} {σ : St} (h : EyeAt w y σ) (o : OwnR w base e v qs) (hy : y < base) (g : w.grownBy w' v.ownBlock) : EyeAt w' y σ := by
  cases hv : v.ownBlock with
  | none =>
    rw [hv] at g
    exact h.keep ⟨g.os, g.tape, g.output, g.size, fun k hk => g.block k hk (by simp)⟩
  | some b =>
    rw [hv] at g
    exact h.other g (by have := (o.lt b hv).1; omega)
theorem grown_row {w w' : World} {y base : Nat} {e : TypeId} {v : Value} {qs : List (Int × Int)} (W : World) (hW : W.grownBy w (some y)) (hb : W.heap.size ≤ base) (o : OwnR w base e v qs) (g : w.grownBy w' v.ownBlock) : W.grownBy w' (some y) :=
  ⟨g.os.trans hW.os, g.tape.trans hW.tape, g.output.trans hW.output, Nat.le_trans hW.size g.size, fun k hk hne => (g.block k (Nat.lt_of_lt_of_le hk hW.size) (fun e => by
    have := (o.lt k e.symm).1; omega)).trans (hW.block k hk hne)⟩

def RangesPost (y : Nat) (s : List Int) (w : World) (e : Ending) (w' : World) : Prop :=
  ∃ v l σ', e = .returned v ∧ decRs s = toE σ' l ∧ OwnR w' w.heap.size 51 v l ∧ EyeAt w' y σ' ∧ w.grownBy w' (some y)
set_option maxRecDepth 100000 in
set_option maxHeartbeats 2000000 in
theorem ranges_eye (y : Nat) (s : List Int) (w : World) (h : EyeAt w y (0, s)) :
    Calls Try.prog 34 #[.pointer (some ⟨y, 0, none⟩)] w (RangesPost y s w) := by
  have hy := h.lt
  have hb1 := numS_bd h.byt
  have H1 := Lib.hid (number_eye y (0, s) w h)
  obtain ⟨⟨hi, σ1⟩, e1⟩ : ∃ x, numS (0, s) = x := ⟨_, rfl⟩
  rw [e1] at H1 hb1
  obtain ⟨a0, a1, nb1, _⟩ := hb1
  have hb2 := numS_bd (σ := σ1) nb1
  obtain ⟨⟨n, σ2⟩, e2⟩ : ∃ x, numS σ1 = x := ⟨_, rfl⟩
  rw [e2] at hb2
  obtain ⟨n0, n1, nb2, _⟩ := hb2
  obtain ⟨⟨r, σ4⟩, e4⟩ : ∃ x, downS hi (refS (decide (6 ≤ n)) 1 σ2) = x := ⟨_, rfl⟩
  have HS := Lib.hid (decRs_start s hi σ1 e1 n σ2 e2 r σ4 e4)
  have hd4 := downS_bd (by rw [refS_left]; exact nb2) e4
  have hn6 := start_bd e4 nb2
  have E2 := Lib.hid e2
  have E4 := Lib.hid e4
  simp only at H1 a0 a1 n0 n1
  obtain ⟨i0, hi0, hz0, hz1, hz2⟩ := info_parts infoR2
  have HI := Lib.hid hi0
  have HZ := Lib.hid hz0
  have HZ1 := Lib.hid hz1
  have HZ2 := Lib.hid hz2
  clear h nb1 nb2 e1 e2 e4 hi0 hz0 hz1 hz2
  go_enter Try.func34, Try.ntmps34
  go_wp2_with (first
      | (go_at_call 35; refine H1.out.mono ?_; rintro e w1 ⟨rfl, E1, g1⟩; have HE1 := Lib.hid E1; have G1 := Lib.hid g1; have H2 := Lib.hid (number_eye y σ1 w1 E1); rw [E2.out] at H2; clear E1 g1 H1)
      | (go_at_call 35; refine H2.out.mono ?_; rintro e w2 ⟨rfl, E1, g1⟩; have HE2 := Lib.hid E1; have G2 := Lib.hid (grown_trans G1.out g1); clear E1 g1)
      | (go_at_call 33; refine (refuse_eye _ _ _ _ _ HE2.out).mono ?_; rintro e w3 ⟨rfl, E1, g1⟩; have HE3 := Lib.hid E1; have G3 := Lib.hid (grown_trans G2.out g1); clear E1 g1)
      | (go_at_call 39; refine (down_eye _ _ _ _ HE3.out (by omega) (by omega)).mono ?_; rintro e w4 ⟨rfl, E1, g1⟩; rw [E4.out] at E1; rw [E4.out]; have HE4 := Lib.hid E1; have G4 := Lib.hid (grown_trans G3.out g1); clear E1 g1))
  have HE5 := Lib.hid (HE4.out.keep ((Below.refl w4.heap.size w4).alloc (Nat.le_refl _) (.cells #[.int .i64 r.1, .int .i64 r.2] 51)))
  have O5 := Lib.hid (own_one w4 w.heap.size r.1 r.2 51 G4.out.size)
  have G5 := Lib.hid (grown_trans G4.out (grown_below (some y) ((Below.refl w4.heap.size w4).alloc (Nat.le_refl _) (.cells #[.int .i64 r.1, .int .i64 r.2] 51))))
  have D4 := Lib.hid hd4
  have N6 := Lib.hid hn6
  clear hd4 hn6
  go_loopg [3, 5] n.toNat (fun g s3 s5 wr => ∃ (hh : Int) (l : List (Int × Int)) (b : Int) (σ : St), s3 = .int .i64 hh ∧ Hid (OwnR wr w.heap.size 51 s5 l) ∧ Hid (EyeAt wr y σ) ∧ Hid (w.grownBy wr (some y)) ∧ Hid (decRs s = conR l (decTS g b σ)) ∧ 0 < l.length ∧ Hid ((l.getD (l.length - 1) (0, 0)).1 = b) ∧ Hid (σ.1 = 0 → 0 ≤ b ∧ n < 6) ∧ b ≤ 4611686018427387903 ∧ g + l.length = n.toNat + 1)
  case atStart => exact ⟨hi, [r], r.1, σ4, rfl, O5, HE5, G5, HS, by simp, Lib.hid rfl, Lib.hid (fun e => ⟨(D4.out.2.1 e).1, N6.out e⟩), by have := D4.out.1; omega, by simp⟩
  case round =>
    obtain ⟨hh, l, b, σ, rfl, HO, HE, HG, HR, hl, HB, HN, hbm, hgl⟩ := hrel
    obtain ⟨A, c, h11, h12, h13, h14, h15⟩ := HE.out
    obtain ⟨k0, k1, f0, f1⟩ := two_cells h11
    clear h11 h12 h13 h14 h15 k0 f0 f1
    obtain ⟨Al, cl, hv, hlc, hcm, hrow⟩ := HO.out.slice
    subst hv
    have HW := Lib.hid hrow
    clear hrow
    obtain ⟨er, zs⟩ := σ
    simp only at k1 HN
    by_cases hle : (l.length : Int) ≤ n
    · by_cases e0 : er = 0
      · subst e0
        obtain ⟨b0, n6⟩ := HN.out rfl
        obtain ⟨bb, off, hA, hbb, hc⟩ := HW.out hl
        have hcell := (hc (l.length - 1) (by omega)).1
        rw [HB.out] at hcell
        subst hA
        have hbb2 := (HO.out.lt bb rfl).1
        have hbne : some bb ≠ some y := by simp; omega
        have hcne : some (⟨bb, off + (l.length - 1) * 2, none⟩ : Addr).block ≠ some y := hbne
        obtain ⟨⟨g, σ5⟩, e5⟩ : ∃ x, numS (0, zs) = x := ⟨_, rfl⟩
        have hb5 := numS_bd HE.out.byt
        rw [e5] at hb5
        obtain ⟨g0, g1, nb5, _⟩ := hb5
        simp only at g0 g1
        obtain ⟨⟨r5, σ6⟩, e6⟩ : ∃ x, downS (b - g - 2) σ5 = x := ⟨_, rfl⟩
        have hd6 := downS_bd nb5 e6
        have ST := Lib.hid (decTS_step (gk - 1) b zs g σ5 e5 r5 σ6 e6)
        have E5 := Lib.hid e5
        have E6 := Lib.hid e6
        have D6 := Lib.hid hd6
        have HEr := Lib.hid (show EyeAt wr.drew y (0, zs) from HE.out)
        clear e5 e6 hd6 nb5 hc
        have i0' : (0 : Int) ≤ (l.length : Int) - 1 := by omega
        have i1' : (l.length : Int) - 1 < (l.length : Int) := by omega
        have i2' : ((l.length : Int) - 1).toNat = l.length - 1 := by omega
        have hlm : l.length ≤ 9223372036854775807 := by have := hcm; unfold maxLen at this; omega
        have hwl : IntKind.i64.wrap ((l.length : Int) - 1) = (l.length : Int) - 1 := by rw [IntKind.wrap_i64]; omega
        have hl1 : (1 : Int) ≤ (l.length : Int) := by omega
        have hw1 : IntKind.i64.wrap (b - g) = b - g := by rw [IntKind.wrap_i64]; omega
        have hw2 : IntKind.i64.wrap (b - g - 2) = b - g - 2 := by rw [IntKind.wrap_i64]; omega
        have hl2 : 1 ≤ l.length := hl
        go_wp2
        (go_region_held_law (fun w' => w'.cell? ⟨bb, off + (l.length - 1) * 2, none⟩ = some (.int .i64 b)) (go_keep)
              (first
                | ((go_at_call 35; refine (number_eye y (0, zs) _ HEr.out).mono ?_; rintro e w6 ⟨rfl, E1, g1⟩; rw [E5.out] at E1; rw [E5.out]; have c6 := g1.cell (show wr.drew.cell? _ = _ from hcell) hcne; have HE6 := Lib.hid E1; have G6 := Lib.hid (show wr.grownBy w6 (some y) from ⟨g1.os, g1.tape, g1.output, g1.size, g1.block⟩); clear E1 g1))))
        have HO6 := Lib.hid (own_eye HO.out G6.out hy)
        have HG6 := Lib.hid (grown_trans HG.out G6.out)
        have hm5 : (l.length + 1) * 16 ≤ 140737488355328 := by have := hgl; omega
        clear hcell hcne c6 k1
        go_wp2_with (first
          | (go_at_call 39; refine (down_eye _ _ _ _ HE6.out (by omega) (by omega)).mono ?_; rintro e w7 ⟨rfl, E1, g1⟩; rw [E6.out] at E1; rw [E6.out]; have HE7 := Lib.hid (E1.keep ((Below.refl w7.heap.size w7).alloc (Nat.le_refl _) (.cells #[.int .i64 r5.1, .int .i64 r5.2] 51))); have HG7 := Lib.hid (grown_trans (grown_trans HG6.out g1) (grown_below (some y) ((Below.refl w7.heap.size w7).alloc (Nat.le_refl _) (.cells #[.int .i64 r5.1, .int .i64 r5.2] 51)))); have HO7 := Lib.hid ((own_eye HO6.out g1 hy).alloc (.cells #[.int .i64 r5.1, .int .i64 r5.2] 51)); clear E1 g1)
          | (at_builtin
             refine wpList_appR _ rfl (.tmp 40) (.tmp 44) _ rfl w.heap.size 51 i0 _ Try.underlying22 HI.out HZ.out HZ1.out HZ2.out rfl (.slice (some ⟨bb, off, none⟩) l.length cl) l rfl HO7.out (w7.heap.size + 1) (some ⟨w7.heap.size, 0, none⟩) 1 1 [(r5.1, r5.2)] rfl (RRow.one w7 r5.1 r5.2 51) rfl hm5 HG7.out.size ?_
             intro v8 w8 own8 g8
             have HO8 := Lib.hid own8
             have HE8 := Lib.hid (HE7.out.row HO7.out hy g8)
             have HG8 := Lib.hid (grown_row w HG7.out (Nat.le_refl _) HO7.out g8)
             clear own8 g8))
        have HL8 := Lib.hid (show (l ++ [(r5.1, r5.2)]).getD ((l ++ [(r5.1, r5.2)]).length - 1) (0, 0) = r5 by simp)
        have HR8 := Lib.hid (show decRs s = conR (l ++ [(r5.1, r5.2)]) (decTS (gk - 1) r5.1 σ6) by
          have e1 : gk = gk - 1 + 1 := by omega
          rw [HR.out, e1, ST.out, conR_con]
          simp)
        go_roundg (gk - 1)
        case measure => omega
        case rel => exact ⟨b - g - 2, l ++ [(r5.1, r5.2)], r5.1, σ6, rfl, HO8, HE8, HG8, HR8, by simp, Lib.hid (by rw [HL8.out]), Lib.hid (fun e => ⟨(D6.out.2.1 e).1, n6⟩), by have := D6.out.1; omega, by simp; omega⟩
      · have g0 : (er == 0) = false := by simp [e0]
        have hv := Lib.hid (decTS_end l gk b (er, zs) (by exact e0))
        go_wp2
        go_ret
        exact ⟨_, l, (er, zs), rfl, HR.out.trans hv.out, HO.out, HE.out, HG.out⟩
    · have hz : gk = 0 := by omega
      have HZ := Lib.hid hz
      clear hz
      go_wp2
      go_ret
      exact ⟨_, l, (er, zs), rfl, by rw [HR.out, HZ.out, decTS_zero], HO.out, HE.out, HG.out⟩
end Go.Proofs.Ytjeocggocloigaa
/- A block of cells that a function's own variable lies in: read, written field by field. Nothing of the program's. -/
namespace Go.Proofs.Ytjeocggocloigaa
set_option linter.unusedVariables false
open Go.RowKit P

theorem blk_set {w : World} {b : Nat} {cs : Array Value} {T : TypeId} (h : w.heap[b]? = some (.cells cs T (0, 0))) (i : Nat) (v : Value) : (w.setCell ⟨b, i, none⟩ v).heap[b]? = some (.cells (cs.setIfInBounds i v) T (0, 0)) := by
  have hlt := lt_of_block h
  have h' : w.heap[b] = .cells cs T (0, 0) := by simpa [Array.getElem?_eq_getElem hlt] using h
  show (w.heap.modify b _)[b]? = _
  rw [Array.getElem?_eq_getElem (by simpa using hlt), Array.getElem_modify_self, h']
  rfl
theorem blk_cell {w : World} {b : Nat} {cs : Array Value} {T : TypeId} (h : w.heap[b]? = some (.cells cs T (0, 0))) (i : Nat) : w.cell? ⟨b, i, none⟩ = cs[i]? := by simp [World.cell?, h]
theorem blk_frz {w : World} {b : Nat} {cs : Array Value} {T : TypeId} (h : w.heap[b]? = some (.cells cs T (0, 0))) (i : Nat) : w.frozen? ⟨b, i, none⟩ = false := by simp [World.frozen?, h]
/-- the seven cells of a block -/
theorem blk7 {w : World} {b : Nat} {a0 a1 a2 a3 a4 a5 a6 : Value} {T : TypeId} (h : w.heap[b]? = some (.cells #[a0, a1, a2, a3, a4, a5, a6] T (0, 0))) :
    w.cell? ⟨b, 0, none⟩ = some a0 ∧ w.cell? ⟨b, 1, none⟩ = some a1 ∧ w.cell? ⟨b, 2, none⟩ = some a2 ∧ w.cell? ⟨b, 3, none⟩ = some a3 ∧ w.cell? ⟨b, 4, none⟩ = some a4 ∧ w.cell? ⟨b, 5, none⟩ = some a5 ∧ w.cell? ⟨b, 6, none⟩ = some a6 ∧ ∀ i, w.frozen? ⟨b, i, none⟩ = false :=
  ⟨blk_cell h 0, blk_cell h 1, blk_cell h 2, blk_cell h 3, blk_cell h 4, blk_cell h 5, blk_cell h 6, fun i => blk_frz h i⟩
/-- all seven cells of a block written, one behind the other: each reads as it was written; what the block is, and that nothing else has turned -/
theorem blk7_put {w : World} {b : Nat} {a0 a1 a2 a3 a4 a5 a6 : Value} {T : TypeId} (h : w.heap[b]? = some (.cells #[a0, a1, a2, a3, a4, a5, a6] T (0, 0))) (v0 v1 v2 v3 v4 v5 v6 : Value) :
    (w.setCell ⟨b, 0, none⟩ v0).cell? ⟨b, 0, none⟩ = some v0 ∧
    ((w.setCell ⟨b, 0, none⟩ v0).setCell ⟨b, 1, none⟩ v1).cell? ⟨b, 1, none⟩ = some v1 ∧
    (((w.setCell ⟨b, 0, none⟩ v0).setCell ⟨b, 1, none⟩ v1).setCell ⟨b, 2, none⟩ v2).cell? ⟨b, 2, none⟩ = some v2 ∧
    ((((w.setCell ⟨b, 0, none⟩ v0).setCell ⟨b, 1, none⟩ v1).setCell ⟨b, 2, none⟩ v2).setCell ⟨b, 3, none⟩ v3).cell? ⟨b, 3, none⟩ = some v3 ∧
    (((((w.setCell ⟨b, 0, none⟩ v0).setCell ⟨b, 1, none⟩ v1).setCell ⟨b, 2, none⟩ v2).setCell ⟨b, 3, none⟩ v3).setCell ⟨b, 4, none⟩ v4).cell? ⟨b, 4, none⟩ = some v4 ∧
    ((((((w.setCell ⟨b, 0, none⟩ v0).setCell ⟨b, 1, none⟩ v1).setCell ⟨b, 2, none⟩ v2).setCell ⟨b, 3, none⟩ v3).setCell ⟨b, 4, none⟩ v4).setCell ⟨b, 5, none⟩ v5).cell? ⟨b, 5, none⟩ = some v5 ∧
    (((((((w.setCell ⟨b, 0, none⟩ v0).setCell ⟨b, 1, none⟩ v1).setCell ⟨b, 2, none⟩ v2).setCell ⟨b, 3, none⟩ v3).setCell ⟨b, 4, none⟩ v4).setCell ⟨b, 5, none⟩ v5).setCell ⟨b, 6, none⟩ v6).cell? ⟨b, 6, none⟩ = some v6 ∧
    (((((((w.setCell ⟨b, 0, none⟩ v0).setCell ⟨b, 1, none⟩ v1).setCell ⟨b, 2, none⟩ v2).setCell ⟨b, 3, none⟩ v3).setCell ⟨b, 4, none⟩ v4).setCell ⟨b, 5, none⟩ v5).setCell ⟨b, 6, none⟩ v6).heap[b]? = some (.cells #[v0, v1, v2, v3, v4, v5, v6] T (0, 0)) ∧
    w.grownBy (((((((w.setCell ⟨b, 0, none⟩ v0).setCell ⟨b, 1, none⟩ v1).setCell ⟨b, 2, none⟩ v2).setCell ⟨b, 3, none⟩ v3).setCell ⟨b, 4, none⟩ v4).setCell ⟨b, 5, none⟩ v5).setCell ⟨b, 6, none⟩ v6) (some b) := by
  have h0 : (w.setCell ⟨b, 0, none⟩ v0).heap[b]? = some (.cells #[v0, a1, a2, a3, a4, a5, a6] T (0, 0)) := by simpa using blk_set h 0 v0
  have h1 : ((w.setCell ⟨b, 0, none⟩ v0).setCell ⟨b, 1, none⟩ v1).heap[b]? = some (.cells #[v0, v1, a2, a3, a4, a5, a6] T (0, 0)) := by simpa using blk_set h0 1 v1
  have h2 : (((w.setCell ⟨b, 0, none⟩ v0).setCell ⟨b, 1, none⟩ v1).setCell ⟨b, 2, none⟩ v2).heap[b]? = some (.cells #[v0, v1, v2, a3, a4, a5, a6] T (0, 0)) := by simpa using blk_set h1 2 v2
  have h3 : ((((w.setCell ⟨b, 0, none⟩ v0).setCell ⟨b, 1, none⟩ v1).setCell ⟨b, 2, none⟩ v2).setCell ⟨b, 3, none⟩ v3).heap[b]? = some (.cells #[v0, v1, v2, v3, a4, a5, a6] T (0, 0)) := by simpa using blk_set h2 3 v3
  have h4 : (((((w.setCell ⟨b, 0, none⟩ v0).setCell ⟨b, 1, none⟩ v1).setCell ⟨b, 2, none⟩ v2).setCell ⟨b, 3, none⟩ v3).setCell ⟨b, 4, none⟩ v4).heap[b]? = some (.cells #[v0, v1, v2, v3, v4, a5, a6] T (0, 0)) := by simpa using blk_set h3 4 v4
  have h5 : ((((((w.setCell ⟨b, 0, none⟩ v0).setCell ⟨b, 1, none⟩ v1).setCell ⟨b, 2, none⟩ v2).setCell ⟨b, 3, none⟩ v3).setCell ⟨b, 4, none⟩ v4).setCell ⟨b, 5, none⟩ v5).heap[b]? = some (.cells #[v0, v1, v2, v3, v4, v5, a6] T (0, 0)) := by simpa using blk_set h4 5 v5
  have h6 : (((((((w.setCell ⟨b, 0, none⟩ v0).setCell ⟨b, 1, none⟩ v1).setCell ⟨b, 2, none⟩ v2).setCell ⟨b, 3, none⟩ v3).setCell ⟨b, 4, none⟩ v4).setCell ⟨b, 5, none⟩ v5).setCell ⟨b, 6, none⟩ v6).heap[b]? = some (.cells #[v0, v1, v2, v3, v4, v5, v6] T (0, 0)) := by simpa using blk_set h5 6 v6
  exact ⟨(blk7 h0).1, (blk7 h1).2.1, (blk7 h2).2.2.1, (blk7 h3).2.2.2.1, (blk7 h4).2.2.2.2.1, (blk7 h5).2.2.2.2.2.1, (blk7 h6).2.2.2.2.2.2.1, h6,
    grown_trans (grown_trans (grown_trans (grown_trans (grown_trans (grown_trans (grown_set _ b 0 v0) (grown_set _ b 1 v1)) (grown_set _ b 2 v2)) (grown_set _ b 3 v3)) (grown_set _ b 4 v4)) (grown_set _ b 5 v5)) (grown_set _ b 6 v6)⟩
theorem grown_other {W a b : World} {y c : Nat} (h : W.grownBy a (some y)) (g : a.grownBy b (some c)) (hc : W.heap.size ≤ c) : W.grownBy b (some y) :=
  ⟨g.os.trans h.os, g.tape.trans h.tape, g.output.trans h.output, Nat.le_trans h.size g.size, fun k hk hne => (g.block k (Nat.lt_of_lt_of_le hk h.size) (by simp; omega)).trans (h.block k hk hne)⟩
theorem own_other {w w' : World} {base c e size n : Nat} {v : Value} {xs : List Value} (h : w.ownsRow base e size v n xs) (g : w.grownBy w' (some c)) (hc : c < base) : w'.ownsRow base e size v n xs :=
  World.ownsRow.kept h g (by
    cases hv : v.ownBlock with
    | none => exact .inl rfl
    | some k => exact .inr (by have := (World.ownsRow.lt h k hv).1; simp; omega))
theorem rsl_own {w : World} {base e : Nat} {v : Value} {ps : List (Int × Int)} (h : OwnR w base e v ps) : RSl w w.heap.size v ps := by
  obtain ⟨A, c, rfl, h1, h2, h3⟩ := h.slice
  exact ⟨A, c, rfl, h1, h2, h3⟩
/-- v says the frame f; its rows are owned, from block 'base' on -/
structure FrOwn (w : World) (base : Nat) (v : Value) (f : Fr) : Prop where
  ex : ∃ r d, v = .agg #[.int .i64 f.kind, .int .i64 f.id, .int .i64 f.off, .bool f.fin, .int .i64 f.code, r, d] ∧ OwnR w base 51 r f.rs ∧ w.ownsRow base 5 1 d f.data.length (f.data.map (.int .u8)) ∧ Byt f.data
theorem FrOwn.val {w : World} {base : Nat} {v : Value} {f : Fr} (h : FrOwn w base v f) : FrVal w w.heap.size v f := by
  obtain ⟨r, d, rfl, h1, h2, h3⟩ := h.ex
  exact ⟨r, d, rfl, rsl_own h1, own_bsl h2 h3⟩
theorem FrOwn.other {w w' : World} {base c : Nat} {v : Value} {f : Fr} (h : FrOwn w base v f) (g : w.grownBy w' (some c)) (hc : c < base) : FrOwn w' base v f := by
  obtain ⟨r, d, rfl, h1, h2, h3⟩ := h.ex
  exact ⟨r, d, rfl, own_other h1 g hc, own_other h2 g hc, h3⟩
theorem FrOwn.on {w w' : World} {base : Nat} {v : Value} {f : Fr} (h : FrOwn w base v f) (hb : Below w.heap.size w w') : FrOwn w' base v f := by
  obtain ⟨r, d, rfl, h1, h2, h3⟩ := h.ex
  have g := grown_below none hb
  have key : ∀ {e size n : Nat} {v : Value} {xs : List Value}, w.ownsRow base e size v n xs → w'.ownsRow base e size v n xs := fun {e size n v xs} h => World.ownsRow.kept h g (by cases hv : v.ownBlock with | none => exact .inl rfl | some k => exact .inr (by simp))
  exact ⟨r, d, rfl, key h1, key h2, h3⟩
theorem FrOwn.base {w : World} {base base' : Nat} {v : Value} {f : Fr} (h : FrOwn w base v f) (hb : base' ≤ base) : FrOwn w base' v f := by
  obtain ⟨r, d, rfl, h1, h2, h3⟩ := h.ex
  exact ⟨r, d, rfl, own_base h1 hb, own_base h2 hb, h3⟩
def FramePost (y : Nat) (ps : List Int) (k : Int) (fin : Bool) (σ1 : St) (w : World) (e : Ending) (w' : World) : Prop :=
  ∃ v f σ', e = .returned v ∧ decPsS ps ⟨k, 0, 0, fin, 0, [], []⟩ σ1 = toE σ' f ∧ FrOwn w' w.heap.size v f ∧ EyeAt w' y σ' ∧ w.grownBy w' (some y)
theorem i64Of_wrap (n : Int) (h0 : 0 ≤ n) (h1 : n ≤ 18446744073709551615) : IntKind.i64.wrap n = i64Of n := by
  unfold i64Of
  rw [IntKind.wrap_i64]
  split <;> omega
end Go.Proofs.Ytjeocggocloigaa
