/- The eye in memory; contracts of its refuse, number and take. -/
import Derived.Test.YtgfbonfoimiknaaGrpB
import Derived.Test.YtgfbonfoimiknaaFrEye
import Derived.Test.YtgfbonfoimiknaaGrpZi
import Derived.OwnWalk
import Derived.Laws.OwnMore
namespace Go.Proofs.Ytgfbonfoimiknaa
set_option linter.unusedVariables false
open Go.RowKit P

/-- block y holds an eye in state σ; what is left to read lies in elder blocks -/
def EyeAt (w : World) (y : Nat) (σ : St) : Prop :=
  ∃ A c, w.heap[y]? = some (.cells #[.slice A σ.2.length c, .int .i64 σ.1] 169 (0, 0)) ∧ σ.2.length ≤ c ∧ c ≤ maxLen ∧ (A = none → c = 0) ∧ BRow w y A σ.2
theorem two_cells {w : World} {y : Nat} {a b : Value} {T : TypeId} (h : w.heap[y]? = some (.cells #[a, b] T (0, 0))) :
    w.cell? ⟨y, 0, none⟩ = some a ∧ w.cell? ⟨y, 1, none⟩ = some b ∧ w.frozen? ⟨y, 0, none⟩ = false ∧ w.frozen? ⟨y, 1, none⟩ = false := by
  refine ⟨?_, ?_, ?_, ?_⟩ <;> simp [World.cell?, World.frozen?, h]
theorem two_set0 {w : World} {y : Nat} {a b : Value} {T : TypeId} (u : Value) (h : w.heap[y]? = some (.cells #[a, b] T (0, 0))) : (w.setCell ⟨y, 0, none⟩ u).heap[y]? = some (.cells #[u, b] T (0, 0)) := by
  have hlt := lt_of_block h
  have h' : w.heap[y] = .cells #[a, b] T (0, 0) := by simpa [Array.getElem?_eq_getElem hlt] using h
  show (w.heap.modify y _)[y]? = _
  rw [Array.getElem?_eq_getElem (by simpa using hlt), Array.getElem_modify_self, h']
  rfl
theorem two_set1 {w : World} {y : Nat} {a b : Value} {T : TypeId} (u : Value) (h : w.heap[y]? = some (.cells #[a, b] T (0, 0))) : (w.setCell ⟨y, 1, none⟩ u).heap[y]? = some (.cells #[a, u] T (0, 0)) := by
  have hlt := lt_of_block h
  have h' : w.heap[y] = .cells #[a, b] T (0, 0) := by simpa [Array.getElem?_eq_getElem hlt] using h
  show (w.heap.modify y _)[y]? = _
  rw [Array.getElem?_eq_getElem (by simpa using hlt), Array.getElem_modify_self, h']
  rfl
theorem grown_set (w : World) (y o : Nat) (u : Value) : w.grownBy (w.setCell ⟨y, o, none⟩ u) (some y) :=
  ⟨rfl, rfl, rfl, by simp [World.setCell], fun k _ hne => Below.heap_setCell _ _ _ _ (fun e => hne (by rw [e]))⟩
theorem grown_trans {a b c : World} {r : Option Nat} (h : a.grownBy b r) (k : b.grownBy c r) : a.grownBy c r :=
  ⟨k.os.trans h.os, k.tape.trans h.tape, k.output.trans h.output, Nat.le_trans h.size k.size, fun i hi hne => (k.block i (Nat.lt_of_lt_of_le hi h.size) hne).trans (h.block i hi hne)⟩
theorem grown_below {a b : World} (r : Option Nat) (h : Below a.heap.size a b) : a.grownBy b r := ⟨h.os, h.tape, h.output, h.size, fun i hi _ => h.block i hi⟩
theorem grown_drew {a b : World} {r : Option Nat} (h : a.grownBy b r) : a.grownBy b.drew r := ⟨h.os, h.tape, h.output, h.size, h.block⟩
theorem brow_grown {w w' : World} {y : Nat} {A : Option Addr} {zs : List Int} (h : BRow w y A zs) (g : w.grownBy w' (some y)) : BRow w' y A zs :=
  ⟨h.1, fun hn => by
    obtain ⟨b, off, e, hb, hc⟩ := h.2 hn
    exact ⟨b, off, e, hb, fun j hj => g.cell (hc j hj) (by intro e; cases e; exact Nat.lt_irrefl _ hb)⟩⟩
theorem EyeAt.keep {w w' : World} {y : Nat} {σ : St} (h : EyeAt w y σ) (hb : Below w.heap.size w w') : EyeAt w' y σ := by
  obtain ⟨A, c, h1, h2, h3, h4, h5⟩ := h
  have hy := lt_of_block h1
  exact ⟨A, c, (hb.block y hy).trans h1, h2, h3, h4, brow_grown h5 (grown_below _ hb)⟩
theorem EyeAt.lt {w : World} {y : Nat} {σ : St} (h : EyeAt w y σ) : y < w.heap.size := by
  obtain ⟨A, c, h1, _⟩ := h
  exact lt_of_block h1
theorem EyeAt.byt {w : World} {y : Nat} {σ : St} (h : EyeAt w y σ) : Byt σ.2 := by
  obtain ⟨A, c, _, _, _, _, h5⟩ := h
  exact h5.1
def EyePost (y : Nat) (v : Value) (σ' : St) (w : World) (e : Ending) (w' : World) : Prop := e = .returned v ∧ EyeAt w' y σ' ∧ w.grownBy w' (some y)

theorem refuse_no (y : Nat) (e : Int) (w : World) :
    Calls Try.prog 159 #[.pointer (some ⟨y, 0, none⟩), .bool false, .int .i64 e] w fun e w' => e = .returned (.tuple #[]) ∧ w = w' := by
  go_enter Try.func159, Try.ntmps159
  go_wp2
  go_returns
  exact ⟨rfl, rfl⟩
theorem refuse_eye (y : Nat) (σ : St) (bad : Bool) (e : Int) (w : World) (h : EyeAt w y σ) :
    Calls Try.prog 159 #[.pointer (some ⟨y, 0, none⟩), .bool bad, .int .i64 e] w (EyePost y (.tuple #[]) (refS bad e σ) w) := by
  cases bad
  · go_enter Try.func159, Try.ntmps159
    go_wp2
    go_returns
    exact ⟨rfl, h, grown_below _ (Below.refl _ _)⟩
  · obtain ⟨A, c, h1, h2, h3, h4, h5⟩ := h
    obtain ⟨k0, k1, f0, f1⟩ := two_cells h1
    have H1 := Lib.hid h1
    have H5 := Lib.hid h5
    clear h1 h5
    obtain ⟨er, zs⟩ := σ
    simp only at k0 k1 H1 H5 h2 ⊢
    by_cases e0 : er = 0
    · subst e0
      go_enter Try.func159, Try.ntmps159
      go_wp2
      go_returns
      exact ⟨rfl, ⟨A, c, two_set1 _ H1.out, h2, h3, h4, brow_grown H5.out (grown_set _ _ _ _)⟩, grown_set _ _ _ _⟩
    · have g0 : (er == 0) = false := by simp [e0]
      have HR := Lib.hid (show refS true e (er, zs) = (er, zs) from refS_bad (by exact e0) true e)
      go_enter Try.func159, Try.ntmps159
      go_wp2
      go_returns
      rw [HR.out]
      exact ⟨rfl, ⟨A, c, H1.out, h2, h3, h4, H5.out⟩, grown_below _ (Below.refl _ _)⟩

theorem brow_cut {w : World} {B : Nat} {A : Option Addr} {zs : List Int} (h : BRow w B A zs) (k cap : Nat) (hc : zs.length ≤ cap) : BRow w B (if cap = k then A else A.map (·.add k)) (zs.drop k) := by
  refine ⟨h.1.drop k, fun hn => ?_⟩
  rw [List.length_drop] at hn
  obtain ⟨b, off, rfl, hb, hcell⟩ := h.2 (by omega)
  rw [if_neg (by omega)]
  refine ⟨b, off + k, by simp [Go.WideShapes.add_plain], hb, fun j hj => ?_⟩
  rw [List.length_drop] at hj
  rw [getD_drop, show off + k + j = off + (k + j) from by omega]
  exact hcell (k + j) (by omega)
/-- behind the two stores of a number read -/
theorem eye_moved {w : World} {y : Nat} {A : Option Addr} {c k : Nat} {zs : List Int} {er : Int} (h1 : w.heap[y]? = some (.cells #[.slice A zs.length c, .int .i64 er] 169 (0, 0))) (h2 : zs.length ≤ c) (h3 : c ≤ maxLen) (h4 : A = none → c = 0) (h5 : BRow w y A zs) (hk : k ≤ zs.length) (e : Int) (B : Option Addr) (hB : B = if c = k then A else A.map (·.add k)) (d : Nat) (hd : d = c - k) :
    EyeAt ((w.setCell ⟨y, 0, none⟩ (.slice B (zs.length - k) d)).setCell ⟨y, 1, none⟩ (.int .i64 e)) y (e, zs.drop k) ∧ w.grownBy ((w.setCell ⟨y, 0, none⟩ (.slice B (zs.length - k) d)).setCell ⟨y, 1, none⟩ (.int .i64 e)) (some y) := by
  have g := grown_trans (grown_set w y 0 (.slice B (zs.length - k) d)) (grown_set _ y 1 (.int .i64 e))
  refine ⟨⟨B, d, ?_, ?_, by omega, ?_, ?_⟩, g⟩
  · have := two_set1 (.int .i64 e) (two_set0 (.slice B (zs.length - k) d) h1)
    simp only [List.length_drop]
    exact this
  · simp only [List.length_drop]; omega
  · intro hn
    rw [hB] at hn
    by_cases ck : c = k
    · omega
    · rw [if_neg ck] at hn
      have := h4 (by simpa using hn)
      omega
  · have hr := brow_cut h5 k c h2
    rw [← hB] at hr
    exact brow_grown hr g
theorem eye_left {w : World} {y : Nat} {A : Option Addr} {c k : Nat} {zs : List Int} {er : Int} (h1 : w.heap[y]? = some (.cells #[.slice A zs.length c, .int .i64 er] 169 (0, 0))) (h2 : zs.length ≤ c) (h3 : c ≤ maxLen) (h4 : A = none → c = 0) (h5 : BRow w y A zs) (hk : k ≤ zs.length) (B : Option Addr) (hB : B = if c = k then A else A.map (·.add k)) (d : Nat) (hd : d = c - k) :
    EyeAt (w.setCell ⟨y, 0, none⟩ (.slice B (zs.length - k) d)) y (er, zs.drop k) ∧ w.grownBy (w.setCell ⟨y, 0, none⟩ (.slice B (zs.length - k) d)) (some y) := by
  have g := grown_set w y 0 (.slice B (zs.length - k) d)
  refine ⟨⟨B, d, ?_, ?_, by omega, ?_, ?_⟩, g⟩
  · simp only [List.length_drop]
    exact two_set0 _ h1
  · simp only [List.length_drop]; omega
  · intro hn
    rw [hB] at hn
    by_cases ck : c = k
    · omega
    · rw [if_neg ck] at hn
      have := h4 (by simpa using hn)
      omega
  · have hr := brow_cut h5 k c h2
    rw [← hB] at hr
    exact brow_grown hr g

theorem number_eye (y : Nat) (σ : St) (w : World) (h : EyeAt w y σ) :
    Calls Try.prog 162 #[.pointer (some ⟨y, 0, none⟩)] w (EyePost y (.int .i64 (numS σ).1) (numS σ).2 w) := by
  obtain ⟨A, c, h1, h2, h3, h4, h5⟩ := h
  obtain ⟨k0, k1, f0, f1⟩ := two_cells h1
  have H1 := Lib.hid h1
  have H5 := Lib.hid h5
  have H4 := Lib.hid h4
  clear h1 h5 h4
  obtain ⟨er, zs⟩ := σ
  simp only at k0 k1 H1 H5 h2 ⊢
  by_cases e0 : er = 0
  · subst e0
    by_cases hd : decOk zs
    · have HD := Lib.hid hd
      have kb := kOf_bd (zs.getD 0 0)
      have kl := hd.2
      have HN := Lib.hid (show numS (0, zs) = (decV zs, (0, zs.drop (kOf (zs.getD 0 0)).toNat)) by unfold numS; simp [hd])
      obtain ⟨m, hm⟩ : ∃ m : Nat, kOf (zs.getD 0 0) = m := ⟨(kOf (zs.getD 0 0)).toNat, by omega⟩
      rw [hm, Int.toNat_natCast] at HN
      rw [hm] at kb kl
      have HM := Lib.hid hm
      obtain ⟨V, hV⟩ : ∃ V, decV zs = V := ⟨_, rfl⟩
      have HV := Lib.hid hV
      rw [hV] at HN
      clear hd hm hV
      have HE := Lib.hid (fun B hB d hd => eye_moved H1.out h2 h3 H4.out H5.out (by omega : m ≤ zs.length) 0 B hB d hd)
      by_cases hcm : c = m
      · have HC := Lib.hid hcm
        subst hcm
        go_enter Try.func162, Try.ntmps162
        go_wp2_with (go_at_call 188; refine (decode_yes _ _ _ _ _ _ H5.out rfl h2 h3 HD.out).mono ?_; rintro e w' ⟨rfl, rfl⟩; rw [HM.out, HV.out])
        go_ret
        rw [HN.out]
        have X := HE.out A (by simp) 0 (by omega)
        rw [show zs.length - c = 0 by omega] at X
        exact ⟨rfl, X.1, X.2⟩
      · have hcm' : ¬ m = c := fun e => hcm e.symm
        go_enter Try.func162, Try.ntmps162
        go_wp2_with (go_at_call 188; refine (decode_yes _ _ _ _ _ _ H5.out rfl h2 h3 HD.out).mono ?_; rintro e w' ⟨rfl, rfl⟩; rw [HM.out, HV.out])
        go_ret
        rw [HN.out]
        have X := HE.out (A.map (·.add m)) (by rw [if_neg hcm]) (c - m) rfl
        exact ⟨rfl, X.1, X.2⟩
    · have HD := Lib.hid hd
      have HN := Lib.hid (show numS (0, zs) = (0, (4, zs)) by unfold numS; simp [hd])
      have HE := Lib.hid (fun B hB d hd => eye_moved H1.out h2 h3 H4.out H5.out (Nat.zero_le _ : 0 ≤ zs.length) 4 B hB d hd)
      clear hd
      go_enter Try.func162, Try.ntmps162
      go_wp2_with (go_at_call 188; refine (decode_no _ _ _ _ _ _ H5.out rfl h2 h3 HD.out).mono ?_; rintro e w' ⟨rfl, rfl⟩)
      go_ret
      rw [HN.out]
      have X := HE.out A (by split; rfl; cases A <;> simp [Addr.add]) c rfl
      exact ⟨rfl, X.1, X.2⟩
  · have g0 : (er == 0) = false := by simp [e0]
    have HN := Lib.hid (show numS (er, zs) = (0, (er, zs)) from numS_bad (by exact e0))
    go_enter Try.func162, Try.ntmps162
    go_wp2
    go_ret
    rw [HN.out]
    exact ⟨rfl, ⟨A, c, H1.out, h2, h3, H4.out, H5.out⟩, grown_below _ (Below.refl _ _)⟩

/-- bytes handed on: a slice that reads as zs, of elder blocks -/
theorem take_eye (y : Nat) (σ : St) (n : Int) (w : World) (h : EyeAt w y σ) (h0 : 0 ≤ n) (hn : n ≤ 4611686018427387903) :
    Calls Try.prog 189 #[.pointer (some ⟨y, 0, none⟩), .int .i64 n] w fun e w' => ∃ v, e = .returned v ∧ BSl w' y v (takeS n σ).1 ∧ EyeAt w' y (takeS n σ).2 ∧ w.grownBy w' (some y) := by
  have hr := fun b => refuse_eye y σ b 4 w h
  obtain ⟨A, c, h1, h2, h3, h4, h5⟩ := h
  obtain ⟨k0, k1, f0, f1⟩ := two_cells h1
  have H1 := Lib.hid h1
  have H5 := Lib.hid h5
  have H4 := Lib.hid h4
  have HR := Lib.hid hr
  clear h1 h5 h4 hr
  obtain ⟨er, zs⟩ := σ
  simp only at k0 k1 H1 H5 h2 HR ⊢
  by_cases hl : (zs.length : Int) < n
  · have HR1 := Lib.hid (HR.out true)
    obtain ⟨σ', hσ⟩ : ∃ σ', refS true 4 (er, zs) = σ' := ⟨_, rfl⟩
    rw [hσ] at HR1
    have he' : σ'.1 ≠ 0 := by
      rw [← hσ]
      unfold refS
      by_cases e0 : er = 0
      · simp [e0]
      · simp [e0]
    have HT := Lib.hid (show takeS n (er, zs) = ([], σ') by unfold takeS; rw [decide_eq_true hl, hσ, if_neg he'])
    obtain ⟨e1, z1⟩ := σ'
    have g0 : (e1 == 0) = false := by simpa using he'
    clear HR hσ he'
    go_enter Try.func189, Try.ntmps189
    go_wp2_with (go_at_call 159; refine HR1.out.mono ?_; rintro e w1 ⟨rfl, E1, g1⟩; obtain ⟨A1, c1, h11, h12, h13, h14, h15⟩ := E1; obtain ⟨q0, q1, r0, r1⟩ := two_cells h11; have H11 := Lib.hid h11; have H14 := Lib.hid h14; have H15 := Lib.hid h15; have G1 := Lib.hid g1; clear h11 h14 h15 g1)
    go_ret
    rw [HT.out]
    exact ⟨_, rfl, BSl.nil _ _, ⟨A1, c1, H11.out, h12, h13, H14.out, H15.out⟩, G1.out⟩
  · clear HR
    by_cases e0 : er = 0
    · subst e0
      obtain ⟨m, rfl⟩ : ∃ m : Nat, n = m := ⟨n.toNat, by omega⟩
      have hm : m ≤ zs.length := by omega
      have HT := Lib.hid (show takeS m (0, zs) = (zs.take m, (0, zs.drop m)) by unfold takeS; rw [decide_eq_false hl]; rfl)
      have HE := Lib.hid (fun B hB d hd => eye_left H1.out h2 h3 H4.out H5.out hm B hB d hd)
      have HLT := Lib.hid (show (zs.take m).length = m by rw [List.length_take]; omega)
      by_cases hcm : c = m
      · have HC := Lib.hid hcm
        subst hcm
        go_enter Try.func189, Try.ntmps189
        go_wp2_with (go_at_call 159; refine (refuse_no _ _ _).mono ?_; rintro e w' ⟨rfl, rfl⟩)
        go_ret
        rw [HT.out]
        have X := HE.out A (by simp) 0 (by omega)
        rw [show zs.length - c = 0 by omega] at X
        exact ⟨_, rfl, ⟨A, c, by rw [HLT.out]; rfl, by rw [HLT.out]; omega, h3, H4.out, brow_grown (H5.out.take c) X.2⟩, X.1, X.2⟩
      · have hcm' : ¬ m = c := fun e => hcm e.symm
        go_enter Try.func189, Try.ntmps189
        go_wp2_with (go_at_call 159; refine (refuse_no _ _ _).mono ?_; rintro e w' ⟨rfl, rfl⟩)
        go_ret
        rw [HT.out]
        have X := HE.out (A.map (·.add m)) (by rw [if_neg hcm]) (c - m) rfl
        exact ⟨_, rfl, ⟨A, c, by rw [HLT.out]; rfl, by rw [HLT.out]; omega, h3, H4.out, brow_grown (H5.out.take m) X.2⟩, X.1, X.2⟩
    · have g0 : (er == 0) = false := by simp [e0]
      have HT := Lib.hid (show takeS n (er, zs) = ([], (er, zs)) from takeS_bad (by exact e0) n)
      go_enter Try.func189, Try.ntmps189
      go_wp2_with (go_at_call 159; refine (refuse_no _ _ _).mono ?_; rintro e w' ⟨rfl, rfl⟩)
      go_ret
      rw [HT.out]
      exact ⟨_, rfl, BSl.nil _ _, ⟨A, c, H1.out, h2, h3, H4.out, H5.out⟩, grown_below _ (Below.refl _ _)⟩
end Go.Proofs.Ytgfbonfoimiknaa
