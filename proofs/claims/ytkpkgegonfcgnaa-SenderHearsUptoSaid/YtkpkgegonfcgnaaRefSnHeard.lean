/- The document's SenderHeard (P10.5). -/
import Derived.Test.YtkpkgegonfcgnaaRefSnPart
import Derived.Test.YtkpkgegonfcgnaaRefWo
import Derived.Test.YtkpkgegonfcgnaaRefJoin
import Derived.Test.YtkpkgegonfcgnaaSnTwo
import Derived.Test.YtkpkgegonfcgnaaStepR
import Derived.Test.YtkpkgegonfcgnaaRegInv
import Derived.Deep.CutRange
namespace Go.Proofs.Ytkpkgegonfcgnaa
set_option linter.unusedVariables false
open Go.RowKit P

theorem own_one (w : World) (base : Nat) (t : TypeId) (a b : Int) (hb : base ≤ w.heap.size) : OwnR (w.alloc (.cells #[.int .i64 a, .int .i64 b] t)) base t (.slice (some ⟨w.heap.size, 0, none⟩) 1 1) [(a, b)] :=
  ⟨rfl, .inr ⟨w.heap.size, 1, #[.int .i64 a, .int .i64 b], rfl, hb, heap_alloc_new w _, Nat.le_refl _, by unfold maxLen; omega, rfl, rfl⟩⟩
theorem own_neq {w : World} {base e size n : Nat} {v : Value} {xs : List Value} (h : w.ownsRow base e size v n xs) {k m : Nat} {j : Nat} (hj : (Value.slice (some ⟨w.heap.size, 0, none⟩) k m).ownBlock = some j) : v.ownBlock ≠ some j := fun e => by
  have h1 := (h.lt j e).2
  simp only [Value.ownBlock, Option.some.injEq] at hj
  omega
theorem own_neq2 {w : World} {base e size n : Nat} {v : Value} {xs : List Value} (h : w.ownsRow base e size v n xs) {k m : Nat} {j : Nat} (hj : v.ownBlock = some j) : (Value.slice (some ⟨w.heap.size, 0, none⟩) k m).ownBlock ≠ some j := fun e => by
  have h1 := (h.lt j hj).2
  simp only [Value.ownBlock, Option.some.injEq] at e
  omega
theorem own_rsl {w : World} {base : Nat} {v : Value} {ps : List (Int × Int)} {t : TypeId} (h : OwnR w base t v ps) : RSl w w.heap.size v ps := by
  obtain ⟨A9, c9, e9, k1, k2, k3⟩ := h.slice
  exact ⟨A9, c9, e9, k1, k2, k3⟩
theorem own_keptA {w w' : World} {base e size n : Nat} {v u : Value} {xs : List Value} (h : w.ownsRow base e size v n xs) (g : w.grownBy w' u.ownBlock) (hd : ∀ j, u.ownBlock = some j → v.ownBlock ≠ some j) : w'.ownsRow base e size v n xs :=
  World.ownsRow.kept h g (by
    cases hq : v.ownBlock with
    | none => exact .inl rfl
    | some k => exact .inr fun e2 => hd k e2.symm hq)
structure Hrd7 (w0 : World) (W : World) (qs L1 A1 : List (Int × Int)) (Ad Aa A5 : Option Addr) (nd cd na ca c5 bl : Nat) (fi en ov : Bool) (nx mx off hh : Int) (V1 V2 V4 V8 : Value) (b0 b1 b2 b3 b4 b5 b6 b7 b8 b9 : Bool) (x0 x1 x2 x3 x4 x5 x6 x7 x8 x9 : Value) (w : World) : Prop where
  be : b9 = false → Below w0.heap.size w0 w
  d2 : b2 = true → b1 = true
  d3 : b3 = true → b0 = true ∧ b2 = true
  d5 : b5 = true → b4 = true
  d6 : b6 = true → b3 = true ∧ b5 = true
  d7 : b7 = true → b6 = true
  d8 : b8 = true → b0 = true ∧ b1 = true ∧ b2 = true ∧ b3 = true ∧ b4 = true ∧ b5 = true ∧ b6 = true ∧ b7 = true
  d9 : b9 = true → b0 = true ∧ b1 = true ∧ b2 = true ∧ b3 = true ∧ b4 = true ∧ b5 = true ∧ b6 = true ∧ b7 = true ∧ b8 = true
  ap : b3 = false → b0 = true → b5 = true → ∀ j, x0.ownBlock = some j → x5.ownBlock ≠ some j
  h0 : b0 = true → b3 = false → OwnR w w0.heap.size 61 x0 []
  h1 : b1 = true → x1 = V1
  h2 : b2 = true → x2 = V2
  h3 : b3 = true → b6 = false → OwnR w w0.heap.size 61 x3 qs
  h4 : b4 = true → x4 = V4
  h5 : b5 = true → b6 = false → OwnR w w0.heap.size 61 x5 [(off, hh)]
  h6 : b6 = true → b9 = false → OwnR w w0.heap.size 61 x6 (qs ++ [(off, hh)])
  h7 : b7 = true → b9 = false → ∃ C, OwnR w w0.heap.size 61 x7 C ∧ okL C ∧ (∀ m, mem C m ↔ mem (qs ++ [(off, hh)]) m)
  h8 : b8 = true → x8 = V8
  h9 : b9 = true → ∃ A c, OwnR w w0.heap.size 61 (.slice A A1.length c) A1 ∧ OwnR w bl 61 (.slice A5 L1.length c5) L1 ∧ w.heap[W.heap.size]? = some (.cells #[.slice Ad nd cd, .bool fi, .int .i64 nx, .int .i64 mx, .slice A5 L1.length c5, .slice A A1.length c, .bool en, .bool ov] 25 (0, 0)) ∧ w.heap[W.heap.size + 1]? = some (.cells #[.slice none 0 0, .bool false, .int .i64 0, .int .i64 0, .slice none 0 0, .slice none 0 0, .bool false, .bool false] 25 (0, 0)) ∧ Below W.heap.size W w
set_option maxRecDepth 100000 in
set_option maxHeartbeats 4000000 in
theorem refSnHd_any : SnHd Try.prog 24 := by
  intro v s off n fin w hv hw hn
  obtain ⟨d, l, a, rfl, hd, hl, ha⟩ := hv.ex
  obtain ⟨Ad, cd, rfl, _, _, _, _⟩ := id hd.ex
  obtain ⟨Al, cl, rfl, _, _, hlr⟩ := id hl.ex
  obtain ⟨Aa, ca, rfl, _, _, har⟩ := id ha.ex
  have HF := Lib.hid (fun w' (hb : Below w.heap.size w w') => refSnPart_any _ s off n fin w' (hv.on hb) hw hn)
  have HD := Lib.hid hd
  have HL := Lib.hid hl
  have HA := Lib.hid ha
  have RL := Lib.hid hlr
  have RA := Lib.hid har
  have hll := hw.ll
  have hal := hw.al
  obtain ⟨fi, hfi⟩ : ∃ x, s.fin = x := ⟨_, rfl⟩
  obtain ⟨nx, hnx⟩ : ∃ x, s.next = x := ⟨_, rfl⟩
  obtain ⟨mx, hmx⟩ : ∃ x, s.mx = x := ⟨_, rfl⟩
  obtain ⟨en, hen⟩ : ∃ x, s.ended = x := ⟨_, rfl⟩
  obtain ⟨ov, hov⟩ : ∃ x, s.over = x := ⟨_, rfl⟩
  obtain ⟨nd, hnd⟩ : ∃ x, s.data.length = x := ⟨_, rfl⟩
  obtain ⟨nl, hnl⟩ : ∃ x, s.lost.length = x := ⟨_, rfl⟩
  obtain ⟨na, hna⟩ : ∃ x, s.acked.length = x := ⟨_, rfl⟩
  rw [hfi, hnx, hmx, hen, hov, hnd, hnl, hna] at HF
  rw [hfi, hnx, hmx, hen, hov, hnd, hnl, hna]
  rw [hnl] at hll HL
  rw [hna] at hal HA
  rw [hnd] at HD
  have HNL := Lib.hid hnl
  have HNA0 := Lib.hid hna
  have HND := Lib.hid hnd
  obtain ⟨g0, g1, g2⟩ := twoX w #[.slice Ad nd cd, .bool fi, .int .i64 nx, .int .i64 mx, .slice Al nl cl, .slice Aa na ca, .bool en, .bool ov] #[.slice none 0 0, .bool false, .int .i64 0, .int .i64 0, .slice none 0 0, .slice none 0 0, .bool false, .bool false] 25 25
  have F0 := Lib.hid g0
  have Z0 := Lib.hid g1
  have B0 := Lib.hid g2
  unfold heardS
  by_cases hf : partF s off n fin = 0
  · rw [if_neg (fun e => e hf)]
    have pk := part_ok hf
    have ok := pk.1
    obtain ⟨b1', b2', b3', b4'⟩ := pk.2.1
    have kd := ok.1
    have kn := ok.2.1
    have KL := Lib.hid ok.2.2.2.1
    have KA := Lib.hid ok.2.2.2.2.1
    have HRR := Lib.hid (fun h => part_r ok pk.2.1 h)
    rw [hf] at HF
    obtain ⟨L1, hL1⟩ : ∃ x, (if 0 < n then cutL (off, off + n - 1) s.lost else s.lost) = x := ⟨_, rfl⟩
    obtain ⟨A1, hA1⟩ : ∃ x, (if 0 < n then insR (off, off + n - 1) s.acked else s.acked) = x := ⟨_, rfl⟩
    have HL1 := Lib.hid hL1
    have HA1 := Lib.hid hA1
    rw [hL1, hA1]
    have HFI := Lib.hid hfi
    have HNX := Lib.hid hnx
    have HMX := Lib.hid hmx
    have HEN := Lib.hid hen
    have HOV := Lib.hid hov
    rw [hnd] at kd
    rw [hnx] at b2' b4' kn
    rw [hnd] at kn
    clear hv hw hd hl ha g0 g1 g2 hf pk ok hL1 hA1 hn hfi hnx hmx hen hov hnd hnl hna hlr har
    obtain ⟨bn, hbn⟩ : ∃ x, decide (0 < n) = x := ⟨_, rfl⟩
    have HBN := Lib.hid hbn
    go_enter Try.func24, Try.ntmps24
    go_upto_region 4 with (first
      | (go_at_call 50; refine (HF.out _ B0.out).mono ?_; rintro e w1 ⟨rfl, b1⟩; have B1 := Lib.hid (B0.out.trans (b1.mono B0.out.size)); have F1 := Lib.hid ((b1.block _ (lt_of_block F0.out)).trans F0.out); have Z1 := Lib.hid ((b1.block _ (lt_of_block Z0.out)).trans Z0.out); clear b1; obtain ⟨q0, q1, q2, q3, q4, q5, q6, q7⟩ := bkS F1.out; obtain ⟨z0, z1, z2, z3, z4, z5, z6, z7⟩ := bkS Z1.out; have zf := fun i => bk_frz Z1.out i))
    go_cut [22] from 21 to 22 (fun u wx => u = .bool bn ∧ wx = w1)
    case first =>
      have hbn2 := HBN.out
      go_wp2_with fail
      go_meet
      exact ⟨by first | rfl | rw [hbn] | rw [hbn2], rfl⟩
    case rest =>
    obtain ⟨rfl, hwcq⟩ := hcut
    subst wc
    clear hbn z0 z1 z2 z3 z4 z5 z6 z7 zf
    go_upto_if 22 with fail
    go_cut [11] from 23 to 42 (fun u wx => ∃ A5 c5 A7 c7, Hid (wx.heap[w.heap.size]? = some (.cells #[.slice Ad nd cd, .bool fi, .int .i64 nx, .int .i64 mx, .slice A5 L1.length c5, .slice A7 A1.length c7, .bool en, .bool ov] 25 (0, 0))) ∧ Hid (wx.heap[w.heap.size + 1]? = some (.cells #[.slice none 0 0, .bool false, .int .i64 0, .int .i64 0, .slice none 0 0, .slice none 0 0, .bool false, .bool false] 25 (0, 0))) ∧ Hid (Below w.heap.size w wx) ∧
          Hid (∃ base, w.heap.size + 1 < base ∧ (OwnR wx base 61 (.slice A5 L1.length c5) L1 ∨ (Value.slice A5 L1.length c5 = .slice Al nl cl ∧ L1 = s.lost))) ∧ Hid (∃ base, w.heap.size + 1 < base ∧ (OwnR wx base 61 (.slice A7 A1.length c7) A1 ∨ (Value.slice A7 A1.length c7 = .slice Aa na ca ∧ A1 = s.acked))))
    case first =>
      have hwb := lt_of_block F1.out
      have hwz := lt_of_block Z1.out
      cases bn with
      | false =>
        have hn0 : ¬ 0 < n := of_decide_eq_false HBN.out
        have e1 : L1 = s.lost := by rw [← HL1.out, if_neg hn0]
        have e2 : A1 = s.acked := by rw [← HA1.out, if_neg hn0]
        have E1 := Lib.hid (show Value.slice Al L1.length cl = .slice Al nl cl ∧ L1 = s.lost by rw [e1, HNL.out]; exact ⟨rfl, rfl⟩)
        have E2 := Lib.hid (show Value.slice Aa A1.length ca = .slice Aa na ca ∧ A1 = s.acked by rw [e2, HNA0.out]; exact ⟨rfl, rfl⟩)
        have E3 := Lib.hid (show L1.length = nl ∧ A1.length = na by rw [e1, e2]; exact ⟨HNL.out, HNA0.out⟩)
        clear hn0 e1 e2
        go_wp2_with fail
        go_meet
        exact ⟨Al, cl, Aa, ca, by rw [E3.out.1, E3.out.2]; exact F1, Z1, B1, Lib.hid ⟨_, hwz, .inr E1.out⟩, Lib.hid ⟨_, hwz, .inr E2.out⟩⟩
      | true =>
        have hn0 : 0 < n := of_decide_eq_true HBN.out
        have hr := HRR.out hn0
        obtain ⟨hh, hhh⟩ : ∃ x, off + n - 1 = x := ⟨_, rfl⟩
        rw [hhh] at hr
        have E1 := Lib.hid (show cutL (off, hh) s.lost = L1 by rw [← HL1.out, if_pos hn0, hhh])
        have e2 : insR (off, hh) s.acked = A1 := by rw [← HA1.out, if_pos hn0, hhh]
        have x1 : IntKind.i64.wrap (off + n) = off + n := by rw [IntKind.wrap_i64]; omega
        have x2 : IntKind.i64.wrap (off + n - 1) = hh := by rw [IntKind.wrap_i64]; omega
        obtain ⟨ls, hls⟩ : ∃ x, s.lost = x := ⟨_, rfl⟩
        obtain ⟨qs, hqs⟩ : ∃ x, s.acked = x := ⟨_, rfl⟩
        rw [hqs] at e2
        rw [hls] at E1
        have KLs := Lib.hid (show okL ls by rw [← hls]; exact KL.out)
        have KQ := Lib.hid (show okL qs by rw [← hqs]; exact KA.out)
        have HOK := Lib.hid (fun x hx => by
          rcases List.mem_append.1 hx with hx | hx
          · exact (okFrom_all KQ.out hx).1
          · rw [List.mem_singleton.1 hx]; exact hr : ∀ x ∈ qs ++ [(off, hh)], okR x)
        have HE := Lib.hid (fun C hC hm => ok_ext hC (show okL A1 by rw [← e2]; exact (insL_ok KQ.out hr).1) fun m => (hm m).trans (by rw [← e2, mem_app, (insL_ok KQ.out hr).2 m, Or.comm]; simp [mem]) : ∀ C, okL C → (∀ m, mem C m ↔ mem (qs ++ [(off, hh)]) m) → C = A1)
        have RLs := Lib.hid (show RRow w w.heap.size Al ls by rw [← hls]; exact RL.out)
        have RA2 := Lib.hid (show RRow w w.heap.size Aa qs by rw [← hqs]; exact RA.out)
        have HNA := Lib.hid (show qs.length = na by rw [← hqs]; exact HNA0.out)
        have HNL2 := Lib.hid (show ls.length = nl by rw [← hls]; exact HNL.out)
        clear RA
        have RA := RA2
        obtain ⟨i0, hi0, hz0, hz1, hz2⟩ := info_parts infoR
        have HI := Lib.hid hi0
        have HZ := Lib.hid hz0
        have HZ1 := Lib.hid hz1
        have HZ2 := Lib.hid hz2
        have X4 := (Below.refl w1.heap.size w1).alloc (Nat.le_refl _) (.cells #[.int .i64 off, .int .i64 hh] 61)
        have V4 := Lib.hid (heap_alloc_new w1 (.cells #[.int .i64 off, .int .i64 hh] 61))
        obtain ⟨Y4, hY4⟩ : ∃ x, w1.alloc (.cells #[.int .i64 off, .int .i64 hh] 61) = x := ⟨_, rfl⟩
        rw [hY4] at X4 V4
        have XX := Lib.hid X4
        have F4 := Lib.hid ((XX.out.block _ (lt_of_block F1.out)).trans F1.out)
        have Z4 := Lib.hid ((XX.out.block _ (lt_of_block Z1.out)).trans Z1.out)
        have B4 := Lib.hid (B1.out.trans (XX.out.mono B1.out.size))
        have HWO := Lib.hid (without_any Al nl cl ls off hh Y4 (RLs.out.on B4.out) HNL2.out KLs.out hr (by omega))
        rw [E1.out] at HWO
        clear hi0 hz0 hz1 hz2 X4 e2 hr hn0 hhh hls hqs q0 q1 q2 q3 q4 q5 q6 q7
        obtain ⟨q0, q1, q2, q3, q4, q5, q6, q7⟩ := bkS F4.out
        have m0 := bk_cell V4.out 0
        have m1 := bk_cell V4.out 1
        simp only [List.getElem?_toArray, List.getElem?_cons_zero, List.getElem?_cons_succ] at m0 m1
        go_wp2_with fail
        refine HWO.out.mono ?_
        rintro e w5 ⟨u5, rfl, o5, b5⟩
        obtain ⟨A5, c5, hu5, _, _, _⟩ := o5.slice
        subst hu5
        have O5 := Lib.hid o5
        have F5 := Lib.hid ((b5.block _ (lt_of_block F4.out)).trans F4.out)
        have Z5 := Lib.hid ((b5.block _ (lt_of_block Z4.out)).trans Z4.out)
        have V5 := Lib.hid ((b5.block _ (lt_of_block V4.out)).trans V4.out)
        have B5 := Lib.hid (B4.out.trans (b5.mono B4.out.size))
        have hx4 := XX.out.size
        clear b5 o5 q0 q1 q2 q3 q4 q5 q6 q7 m0 m1 hY4
        obtain ⟨q0, q1, q2, q3, q4, q5, q6, q7⟩ := bkS F5.out
        have qf := fun i => bk_frz F5.out i
        obtain ⟨Y6, hY6⟩ : ∃ x, w5.setCell ⟨w.heap.size, 4, none⟩ (.slice A5 L1.length c5) = x := ⟨_, rfl⟩
        have gg6 := gr_set w5 w.heap.size 4 (.slice A5 L1.length c5)
        have FX6 := (bkS_set F5.out (.slice A5 L1.length c5)).2.2.2.2.1
        rw [hY6] at gg6 FX6
        have FY6 := Lib.hid FX6
        have ZY6 := Lib.hid ((gg6.block _ (lt_of_block Z5.out) (by simp)).trans Z5.out)
        have OL6 := Lib.hid (own_gr O5.out gg6 (by omega))
        have BY6 := Lib.hid (gr_from B5.out B5.out.size (Nat.le_refl _) gg6)
        have V6 := Lib.hid ((gg6.block _ (lt_of_block V5.out) (fun e => by have := Option.some.inj e; omega)).trans V5.out)
        clear gg6 FX6
        go_upto_region 7 with fail
        obtain ⟨X0, hX0⟩ : ∃ x, x = Y6 := ⟨_, rfl⟩
        subst hX0
        obtain ⟨W, hWW⟩ : ∃ x, x = w := ⟨_, rfl⟩
        subst hWW
        have FX := FY6
        have ZX := ZY6
        have VX := V6
        have BX := BY6
        have OLX := OL6
        have hbl1 : W.heap.size + 1 < Y4.heap.size := lt_of_block Z4.out
        have hbl : W.heap.size < Y4.heap.size := by omega
        obtain ⟨bl, hbl2⟩ : ∃ x, Y4.heap.size = x := ⟨_, rfl⟩
        rw [hbl2] at hbl hbl1 OLX
        clear hY6 qf q0 q1 q2 q3 q4 q5 q6 q7 F5 Z5 V5 B5 O5 F4 Z4 V4 B4 XX HWO
        refine wp_region_inv (fun listed a w => ∃ (b0 b1 b2 b3 b4 b5 b6 b7 b8 b9 : Bool) (x0 x1 x2 x3 x4 x5 x6 x7 x8 x9 : Value), listed = #[b0, b1, b2, b3, b4, b5, b6, b7, b8, b9] ∧ a = { tmps := #[Value.agg #[Value.slice Ad nd cd, Value.bool fi, Value.int IntKind.i64 nx, Value.int IntKind.i64 mx, Value.slice Al nl cl, Value.slice Aa na ca, Value.bool en, Value.bool ov], Value.int IntKind.i64 off, Value.int IntKind.i64 n, Value.bool fin, Value.pointer (some { block := W.heap.size, off := 0 }), undef, undef, undef, Value.pointer (some { block := W.heap.size + 1, off := 0 }), Value.int IntKind.i64 0, Value.int IntKind.i64 0, Value.pointer (some { block := w1.heap.size, off := 0 }), Value.agg #[Value.slice Ad nd cd, Value.bool fi, Value.int IntKind.i64 nx, Value.int IntKind.i64 mx, Value.slice Al nl cl, Value.slice Aa na ca, Value.bool en, Value.bool ov], Value.int IntKind.i64 off, Value.int IntKind.i64 n, Value.bool fin, Value.int IntKind.i64 0, Value.int IntKind.i64 0, Value.bool false, undef, undef, u21, Value.bool true, Value.int IntKind.i64 off, Value.int IntKind.i64 off, Value.int IntKind.i64 n, Value.int IntKind.i64 (off + n), Value.int IntKind.i64 hh, Value.agg #[Value.int IntKind.i64 off, Value.int IntKind.i64 hh], Value.pointer (some { block := W.heap.size, off := 4 }), Value.slice Al nl cl, Value.agg #[Value.int IntKind.i64 off, Value.int IntKind.i64 hh], Value.slice A5 L1.length c5, Value.pointer (some { block := W.heap.size, off := 4 }), x0, x1, x2, x3, x4, x5, x6, x7, x8, undef, undef, undef, undef], defers := [] } ∧ Hrd7 X0 W qs L1 A1 Ad Aa A5 nd cd na ca c5 bl fi en ov nx mx off hh (.pointer (some ⟨W.heap.size, 5, none⟩)) (.slice Aa na ca) (.agg #[.int .i64 off, .int .i64 hh]) (.pointer (some ⟨W.heap.size, 5, none⟩)) b0 b1 b2 b3 b4 b5 b6 b7 b8 b9 x0 x1 x2 x3 x4 x5 x6 x7 x8 x9 w) (by kernel_rfl) ?h0 ?hfin ?hI
        case h0 => exact ⟨_, _, _, _, _, _, _, _, _, _, _, _, _, _, _, _, _, _, _, undef, rfl, rfl, ⟨(fun _ => (Below.refl _ _).drew), (fun h => by cases h), (fun h => by cases h), (fun h => by cases h), (fun h => by cases h), (fun h => by cases h), (fun h => by cases h), (fun h => by cases h), (fun _ => (fun h => by cases h)), (fun h => by cases h), (fun h => by cases h), (fun h => by cases h), (fun h => by cases h), (fun h => by cases h), (fun h => by cases h), (fun h => by cases h), (fun h => by cases h), (fun h => by cases h), (fun h => by cases h)⟩⟩
        case hI =>
          rintro listed a w ⟨b0, b1, b2, b3, b4, b5, b6, b7, b8, b9, x0, x1, x2, x3, x4, x5, x6, x7, x8, x9, rfl, rfl, H⟩ i hi
          obtain ⟨hun, oj, hoj, hall⟩ := mem_ready.1 hi
          clear hi
          rcases i with _ | _ | _ | _ | _ | _ | _ | _ | _ | _ | i
          · have ho := hoj
            simp only [List.getElem?_toArray, List.getElem?_cons_succ, List.getElem?_cons_zero, Option.some.injEq] at hoj
            subst hoj
            obtain rfl : b0 = false := hun
            clear hall
            obtain rfl : b3 = false := Bool.eq_false_iff.2 fun h => Bool.false_ne_true (H.d3 h).1
            obtain rfl : b6 = false := Bool.eq_false_iff.2 fun h => Bool.false_ne_true (H.d6 h).1
            obtain rfl : b7 = false := Bool.eq_false_iff.2 fun h => Bool.false_ne_true (H.d7 h)
            obtain rfl : b8 = false := Bool.eq_false_iff.2 fun h => Bool.false_ne_true (H.d8 h).1
            obtain rfl : b9 = false := Bool.eq_false_iff.2 fun h => Bool.false_ne_true (H.d9 h).1
            have hbe := H.be rfl
            have hx_ap := H.ap rfl
            have BA := Lib.hid ((Below.refl w.heap.size w).alloc (Nat.le_refl _) (.cells #[] 61))
            have NA := Lib.hid (own_empty w X0.heap.size 61 hbe.size)
            refine wpOp_step ho (fun K' hK => ?_)
            have HK := Lib.hid hK
            clear hK ho
            go_simp
            exact HK.out _ _ ⟨_, _, _, _, _, _, _, _, _, _, _, _, _, _, _, _, _, _, _, x9, rfl, rfl, ⟨(fun _ => hbe.trans (BA.out.mono hbe.size)), H.d2, (fun h => by cases h), H.d5, H.d6, H.d7, (fun h => by cases h), (fun h => by cases h), (fun _ => fun _ e j hj => own_neq (H.h5 e rfl) hj), (fun _ _ => NA.out), H.h1, H.h2, (fun h => by cases h), H.h4, (fun e f => own_later2 (H.h5 e f) BA.out), (fun h => by cases h), (fun h => by cases h), H.h8, (fun h => by cases h)⟩⟩
          · have ho := hoj
            simp only [List.getElem?_toArray, List.getElem?_cons_succ, List.getElem?_cons_zero, Option.some.injEq] at hoj
            subst hoj
            obtain rfl : b1 = false := hun
            clear hall
            obtain rfl : b2 = false := Bool.eq_false_iff.2 fun h => Bool.false_ne_true (H.d2 h)
            obtain rfl : b3 = false := Bool.eq_false_iff.2 fun h => Bool.false_ne_true (H.d3 h).2
            obtain rfl : b6 = false := Bool.eq_false_iff.2 fun h => Bool.false_ne_true (H.d6 h).1
            obtain rfl : b7 = false := Bool.eq_false_iff.2 fun h => Bool.false_ne_true (H.d7 h)
            obtain rfl : b8 = false := Bool.eq_false_iff.2 fun h => Bool.false_ne_true (H.d8 h).2.1
            obtain rfl : b9 = false := Bool.eq_false_iff.2 fun h => Bool.false_ne_true (H.d9 h).2.1
            have hbe := H.be rfl
            have hx_ap := H.ap rfl
            refine wpOp_step ho (fun K' hK => ?_)
            have HK := Lib.hid hK
            clear hK ho
            go_simp
            exact HK.out _ _ ⟨_, _, _, _, _, _, _, _, _, _, _, _, _, _, _, _, _, _, _, x9, rfl, rfl, ⟨(fun _ => hbe), (fun h => by cases h), H.d3, H.d5, H.d6, H.d7, (fun h => by cases h), (fun h => by cases h), H.ap, H.h0, (fun _ => rfl), H.h2, (fun h => by cases h), H.h4, H.h5, (fun h => by cases h), (fun h => by cases h), H.h8, (fun h => by cases h)⟩⟩
          · have ho := hoj
            simp only [List.getElem?_toArray, List.getElem?_cons_succ, List.getElem?_cons_zero, Option.some.injEq] at hoj
            subst hoj
            obtain rfl : b2 = false := hun
            obtain rfl : b1 = true := hall ⟨1, .data⟩ (by simp) (by kernel_rfl)
            clear hall
            obtain rfl : b3 = false := Bool.eq_false_iff.2 fun h => Bool.false_ne_true (H.d3 h).2
            obtain rfl : b6 = false := Bool.eq_false_iff.2 fun h => Bool.false_ne_true (H.d6 h).1
            obtain rfl : b7 = false := Bool.eq_false_iff.2 fun h => Bool.false_ne_true (H.d7 h)
            obtain rfl : b8 = false := Bool.eq_false_iff.2 fun h => Bool.false_ne_true (H.d8 h).2.2.1
            obtain rfl : b9 = false := Bool.eq_false_iff.2 fun h => Bool.false_ne_true (H.d9 h).2.2.1
            have hbe := H.be rfl
            have hx_ap := H.ap rfl
            obtain rfl := H.h1 rfl
            obtain ⟨q0, q1, q2, q3, q4, q5, q6, q7⟩ := bkS ((hbe.block _ (lt_of_block FX.out)).trans FX.out)
            refine wpOp_step ho (fun K' hK => ?_)
            have HK := Lib.hid hK
            clear hK ho
            go_simp
            exact HK.out _ _ ⟨_, _, _, _, _, _, _, _, _, _, _, _, _, _, _, _, _, _, _, x9, rfl, rfl, ⟨(fun _ => hbe), (fun _ => rfl), (fun h => by cases h), H.d5, H.d6, H.d7, (fun h => by cases h), (fun h => by cases h), H.ap, H.h0, H.h1, (fun _ => rfl), (fun h => by cases h), H.h4, H.h5, (fun h => by cases h), (fun h => by cases h), H.h8, (fun h => by cases h)⟩⟩
          · have ho := hoj
            simp only [List.getElem?_toArray, List.getElem?_cons_succ, List.getElem?_cons_zero, Option.some.injEq] at hoj
            subst hoj
            obtain rfl : b3 = false := hun
            obtain rfl : b0 = true := hall ⟨0, .data⟩ (by simp) (by kernel_rfl)
            obtain rfl : b2 = true := hall ⟨2, .data⟩ (by simp) (by kernel_rfl)
            obtain rfl : b1 = true := (H.d2 rfl)
            clear hall
            obtain rfl : b6 = false := Bool.eq_false_iff.2 fun h => Bool.false_ne_true (H.d6 h).1
            obtain rfl : b7 = false := Bool.eq_false_iff.2 fun h => Bool.false_ne_true (H.d7 h)
            obtain rfl : b8 = false := Bool.eq_false_iff.2 fun h => Bool.false_ne_true (H.d8 h).2.2.2.1
            obtain rfl : b9 = false := Bool.eq_false_iff.2 fun h => Bool.false_ne_true (H.d9 h).2.2.2.1
            have hbe := H.be rfl
            have hx_ap := H.ap rfl
            have P0 := H.h0 rfl rfl
            obtain rfl := H.h1 rfl
            obtain rfl := H.h2 rfl
            have R1 := Lib.hid (RA.out.on (BX.out.trans (hbe.mono BX.out.size)))
            have O1 := Lib.hid P0
            have hsz := hbe.size
            refine wpOp_step ho (fun K' hK => ?_)
            have HK := Lib.hid hK
            clear hK ho
            refine step_appR w rfl (.tmp 34) (.tmp 36) _ rfl X0.heap.size 61 i0 _ Try.underlying23 HI.out HZ.out HZ1.out HZ2.out rfl _ [] rfl O1.out w.heap.size Aa na ca qs rfl R1.out HNA.out (by rw [List.length_nil]; omega) hsz ?_
            intro v1 u1 own1 g1
            have O2 := Lib.hid own1
            have G1 := Lib.hid g1
            have BB := Lib.hid (hbe.grown g1 hsz (fun k hk => (O1.out.lt k hk).1))
            clear own1 g1
            exact HK.out _ _ ⟨_, _, _, _, _, _, _, _, _, _, _, _, _, _, _, _, _, _, _, x9, rfl, rfl, ⟨(fun _ => BB.out), H.d2, (fun _ => ⟨rfl, rfl⟩), H.d5, (fun h => by cases h), H.d7, (fun h => by cases h), (fun h => by cases h), (fun h => by cases h), (fun _ h => by cases h), H.h1, H.h2, (fun _ _ => (by have := O2.out; rwa [List.nil_append] at this)), H.h4, (fun e f => own_keptA (H.h5 e f) G1.out (H.ap rfl rfl e)), (fun h => by cases h), (fun h => by cases h), H.h8, (fun h => by cases h)⟩⟩
          · have ho := hoj
            simp only [List.getElem?_toArray, List.getElem?_cons_succ, List.getElem?_cons_zero, Option.some.injEq] at hoj
            subst hoj
            obtain rfl : b4 = false := hun
            clear hall
            obtain rfl : b5 = false := Bool.eq_false_iff.2 fun h => Bool.false_ne_true (H.d5 h)
            obtain rfl : b6 = false := Bool.eq_false_iff.2 fun h => Bool.false_ne_true (H.d6 h).2
            obtain rfl : b7 = false := Bool.eq_false_iff.2 fun h => Bool.false_ne_true (H.d7 h)
            obtain rfl : b8 = false := Bool.eq_false_iff.2 fun h => Bool.false_ne_true (H.d8 h).2.2.2.2.1
            obtain rfl : b9 = false := Bool.eq_false_iff.2 fun h => Bool.false_ne_true (H.d9 h).2.2.2.2.1
            have hbe := H.be rfl
            have VB := (hbe.block _ (lt_of_block VX.out)).trans VX.out
            have m0 := bk_cell VB 0
            have m1 := bk_cell VB 1
            simp only [List.getElem?_toArray, List.getElem?_cons_zero, List.getElem?_cons_succ] at m0 m1
            refine wpOp_step ho (fun K' hK => ?_)
            have HK := Lib.hid hK
            clear hK ho
            go_simp
            exact HK.out _ _ ⟨_, _, _, _, _, _, _, _, _, _, _, _, _, _, _, _, _, _, _, x9, rfl, rfl, ⟨(fun _ => hbe), H.d2, H.d3, (fun h => by cases h), H.d6, H.d7, (fun h => by cases h), (fun h => by cases h), H.ap, H.h0, H.h1, H.h2, H.h3, (fun _ => rfl), (fun h => by cases h), (fun h => by cases h), (fun h => by cases h), H.h8, (fun h => by cases h)⟩⟩
          · have ho := hoj
            simp only [List.getElem?_toArray, List.getElem?_cons_succ, List.getElem?_cons_zero, Option.some.injEq] at hoj
            subst hoj
            obtain rfl : b5 = false := hun
            obtain rfl : b4 = true := hall ⟨4, .data⟩ (by simp) (by kernel_rfl)
            clear hall
            obtain rfl : b6 = false := Bool.eq_false_iff.2 fun h => Bool.false_ne_true (H.d6 h).2
            obtain rfl : b7 = false := Bool.eq_false_iff.2 fun h => Bool.false_ne_true (H.d7 h)
            obtain rfl : b8 = false := Bool.eq_false_iff.2 fun h => Bool.false_ne_true (H.d8 h).2.2.2.2.2.1
            obtain rfl : b9 = false := Bool.eq_false_iff.2 fun h => Bool.false_ne_true (H.d9 h).2.2.2.2.2.1
            have hbe := H.be rfl
            obtain rfl := H.h4 rfl
            have BA := Lib.hid ((Below.refl w.heap.size w).alloc (Nat.le_refl _) (.cells #[.int .i64 off, .int .i64 hh] 61))
            have NA := Lib.hid (own_one w X0.heap.size 61 off hh hbe.size)
            refine wpOp_step ho (fun K' hK => ?_)
            have HK := Lib.hid hK
            clear hK ho
            go_simp
            exact HK.out _ _ ⟨_, _, _, _, _, _, _, _, _, _, _, _, _, _, _, _, _, _, _, x9, rfl, rfl, ⟨(fun _ => hbe.trans (BA.out.mono hbe.size)), H.d2, H.d3, (fun _ => rfl), (fun h => by cases h), H.d7, (fun h => by cases h), (fun h => by cases h), (fun _ => fun e _ j hj => own_neq2 (H.h0 e (by assumption)) hj), (fun e f => own_later2 (H.h0 e f) BA.out), H.h1, H.h2, (fun e f => own_later2 (H.h3 e f) BA.out), H.h4, (fun _ _ => NA.out), (fun h => by cases h), (fun h => by cases h), H.h8, (fun h => by cases h)⟩⟩
          · have ho := hoj
            simp only [List.getElem?_toArray, List.getElem?_cons_succ, List.getElem?_cons_zero, Option.some.injEq] at hoj
            subst hoj
            obtain rfl : b6 = false := hun
            obtain rfl : b3 = true := hall ⟨3, .data⟩ (by simp) (by kernel_rfl)
            obtain rfl : b5 = true := hall ⟨5, .data⟩ (by simp) (by kernel_rfl)
            obtain rfl : b0 = true := (H.d3 rfl).1
            obtain rfl : b2 = true := (H.d3 rfl).2
            obtain rfl : b4 = true := (H.d5 rfl)
            obtain rfl : b1 = true := (H.d2 rfl)
            clear hall
            obtain rfl : b7 = false := Bool.eq_false_iff.2 fun h => Bool.false_ne_true (H.d7 h)
            obtain rfl : b8 = false := Bool.eq_false_iff.2 fun h => Bool.false_ne_true (H.d8 h).2.2.2.2.2.2.1
            obtain rfl : b9 = false := Bool.eq_false_iff.2 fun h => Bool.false_ne_true (H.d9 h).2.2.2.2.2.2.1
            have hbe := H.be rfl
            obtain rfl := H.h1 rfl
            obtain rfl := H.h2 rfl
            have P3 := H.h3 rfl rfl
            obtain rfl := H.h4 rfl
            have P5 := H.h5 rfl rfl
            have O1 := Lib.hid P3
            have hsz := hbe.size
            obtain ⟨A9, c9, hv9, _, _, r9⟩ := P5.slice
            subst hv9
            have R9 := Lib.hid r9
            clear r9
            refine wpOp_step ho (fun K' hK => ?_)
            have HK := Lib.hid hK
            clear hK ho
            refine step_appR w rfl (.tmp 37) (.tmp 39) _ rfl X0.heap.size 61 i0 _ Try.underlying23 HI.out HZ.out HZ1.out HZ2.out rfl _ qs rfl O1.out w.heap.size A9 1 c9 [(off, hh)] rfl R9.out rfl (by rw [HNA.out]; omega) hsz ?_
            intro v1 u1 own1 g1
            have O2 := Lib.hid own1
            have BB := Lib.hid (hbe.grown g1 hsz (fun k hk => (O1.out.lt k hk).1))
            clear own1 g1
            exact HK.out _ _ ⟨_, _, _, _, _, _, _, _, _, _, _, _, _, _, _, _, _, _, _, x9, rfl, rfl, ⟨(fun _ => BB.out), H.d2, H.d3, H.d5, (fun _ => ⟨rfl, rfl⟩), (fun h => by cases h), (fun h => by cases h), (fun h => by cases h), (fun h => by cases h), (fun _ h => by cases h), H.h1, H.h2, (fun _ h => by cases h), H.h4, (fun _ h => by cases h), (fun _ _ => O2.out), (fun h => by cases h), H.h8, (fun h => by cases h)⟩⟩
          · have ho := hoj
            simp only [List.getElem?_toArray, List.getElem?_cons_succ, List.getElem?_cons_zero, Option.some.injEq] at hoj
            subst hoj
            obtain rfl : b7 = false := hun
            obtain rfl : b6 = true := hall ⟨6, .data⟩ (by simp) (by kernel_rfl)
            obtain rfl : b3 = true := (H.d6 rfl).1
            obtain rfl : b5 = true := (H.d6 rfl).2
            obtain rfl : b0 = true := (H.d3 rfl).1
            obtain rfl : b2 = true := (H.d3 rfl).2
            obtain rfl : b4 = true := (H.d5 rfl)
            obtain rfl : b1 = true := (H.d2 rfl)
            clear hall
            obtain rfl : b8 = false := Bool.eq_false_iff.2 fun h => Bool.false_ne_true (H.d8 h).2.2.2.2.2.2.2
            obtain rfl : b9 = false := Bool.eq_false_iff.2 fun h => Bool.false_ne_true (H.d9 h).2.2.2.2.2.2.2.1
            have hbe := H.be rfl
            obtain rfl := H.h1 rfl
            obtain rfl := H.h2 rfl
            obtain rfl := H.h4 rfl
            have P6 := H.h6 rfl rfl
            obtain ⟨A9, c9, hv9, _, _, r9⟩ := P6.slice
            have hl9 : (qs ++ [(off, hh)]).length = na + 1 := by rw [List.length_append, HNA.out]; rfl
            rw [hl9] at hv9
            subst hv9
            have R9 := Lib.hid r9
            have HL9 := Lib.hid hl9
            clear r9 hl9
            refine wpOp_step ho (fun K' hK => ?_)
            have HK := Lib.hid hK
            clear hK ho
            go_wp2_with fail
            refine (joined_any A9 (na + 1) c9 _ w R9.out HL9.out HOK.out (by omega) (by omega)).mono ?_
            rintro e u3 ⟨v3, C, rfl, oC, okC, mC, hb3⟩
            have BC := Lib.hid hb3
            have OC := Lib.hid (own_lowR oC hbe.size)
            have KC := Lib.hid okC
            have MC := Lib.hid mC
            clear hb3 oC okC mC
            go_wp2_with fail
            exact HK.out _ _ ⟨_, _, _, _, _, _, _, _, _, _, _, _, _, _, _, _, _, _, _, x9, rfl, rfl, ⟨(fun _ => hbe.trans (BC.out.mono hbe.size)), H.d2, H.d3, H.d5, H.d6, (fun _ => rfl), (fun h => by cases h), (fun h => by cases h), (fun h => by cases h), (fun _ h => by cases h), H.h1, H.h2, (fun _ h => by cases h), H.h4, (fun _ h => by cases h), (fun e f => own_later2 (H.h6 e f) BC.out), (fun _ _ => ⟨C, OC.out, KC.out, MC.out⟩), H.h8, (fun h => by cases h)⟩⟩
          · have ho := hoj
            simp only [List.getElem?_toArray, List.getElem?_cons_succ, List.getElem?_cons_zero, Option.some.injEq] at hoj
            subst hoj
            obtain rfl : b8 = false := hun
            obtain rfl : b0 = true := hall ⟨0, .phase⟩ (by simp) (by kernel_rfl)
            obtain rfl : b1 = true := hall ⟨1, .phase⟩ (by simp) (by kernel_rfl)
            obtain rfl : b2 = true := hall ⟨2, .phase⟩ (by simp) (by kernel_rfl)
            obtain rfl : b3 = true := hall ⟨3, .phase⟩ (by simp) (by kernel_rfl)
            obtain rfl : b4 = true := hall ⟨4, .phase⟩ (by simp) (by kernel_rfl)
            obtain rfl : b5 = true := hall ⟨5, .phase⟩ (by simp) (by kernel_rfl)
            obtain rfl : b6 = true := hall ⟨6, .phase⟩ (by simp) (by kernel_rfl)
            obtain rfl : b7 = true := hall ⟨7, .phase⟩ (by simp) (by kernel_rfl)
            clear hall
            obtain rfl : b9 = false := Bool.eq_false_iff.2 fun h => Bool.false_ne_true (H.d9 h).2.2.2.2.2.2.2.2
            have hbe := H.be rfl
            obtain rfl := H.h1 rfl
            obtain rfl := H.h2 rfl
            obtain rfl := H.h4 rfl
            have P6 := H.h6 rfl rfl
            have P7 := H.h7 rfl rfl
            refine wpOp_step ho (fun K' hK => ?_)
            have HK := Lib.hid hK
            clear hK ho
            go_simp
            exact HK.out _ _ ⟨_, _, _, _, _, _, _, _, _, _, _, _, _, _, _, _, _, _, _, x9, rfl, rfl, ⟨(fun _ => hbe), H.d2, H.d3, H.d5, H.d6, H.d7, (fun _ => ⟨rfl, rfl, rfl, rfl, rfl, rfl, rfl, rfl⟩), (fun h => by cases h), (fun h => by cases h), (fun _ h => by cases h), H.h1, H.h2, (fun _ h => by cases h), H.h4, (fun _ h => by cases h), H.h6, H.h7, (fun _ => rfl), (fun h => by cases h)⟩⟩
          · have ho := hoj
            simp only [List.getElem?_toArray, List.getElem?_cons_succ, List.getElem?_cons_zero, Option.some.injEq] at hoj
            subst hoj
            obtain rfl : b9 = false := hun
            obtain rfl : b0 = true := hall ⟨0, .phase⟩ (by simp) (by kernel_rfl)
            obtain rfl : b1 = true := hall ⟨1, .phase⟩ (by simp) (by kernel_rfl)
            obtain rfl : b2 = true := hall ⟨2, .phase⟩ (by simp) (by kernel_rfl)
            obtain rfl : b3 = true := hall ⟨3, .phase⟩ (by simp) (by kernel_rfl)
            obtain rfl : b4 = true := hall ⟨4, .phase⟩ (by simp) (by kernel_rfl)
            obtain rfl : b5 = true := hall ⟨5, .phase⟩ (by simp) (by kernel_rfl)
            obtain rfl : b6 = true := hall ⟨6, .phase⟩ (by simp) (by kernel_rfl)
            obtain rfl : b7 = true := hall ⟨7, .data⟩ (by simp) (by kernel_rfl)
            obtain rfl : b8 = true := hall ⟨8, .data⟩ (by simp) (by kernel_rfl)
            clear hall
            have hbe := H.be rfl
            obtain rfl := H.h1 rfl
            obtain rfl := H.h2 rfl
            obtain rfl := H.h4 rfl
            have P6 := H.h6 rfl rfl
            have P7 := H.h7 rfl rfl
            obtain rfl := H.h8 rfl
            obtain ⟨C, oC, okC, mC⟩ := P7
            obtain rfl := HE.out C okC mC
            obtain ⟨A1', c1, rfl, _, _, _⟩ := oC.slice
            have FB := Lib.hid ((hbe.block _ (lt_of_block FX.out)).trans FX.out)
            have ZB := Lib.hid ((hbe.block _ (lt_of_block ZX.out)).trans ZX.out)
            have gs := gr_set w W.heap.size 5 (.slice A1' C.length c1)
            have FN := Lib.hid ((bkS_set FB.out (.slice A1' C.length c1)).2.2.2.2.2.1)
            have ZN := Lib.hid ((gs.block _ (lt_of_block ZB.out) (by simp)).trans ZB.out)
            have hfx := lt_of_block FX.out
            have ON := Lib.hid (own_gr oC gs hfx)
            have LN := Lib.hid (own_gr (own_later2 OLX.out hbe) gs hbl)
            have BN := Lib.hid (gr_from (BX.out.trans (hbe.mono BX.out.size)) (by have := BX.out.size; have := hbe.size; omega) (Nat.le_refl _) gs)
            obtain ⟨q0, q1, q2, q3, q4, q5, q6, q7⟩ := bkS FB.out
            have qf := fun i => bk_frz FB.out i
            clear gs
            refine wpOp_step ho (fun K' hK => ?_)
            have HK := Lib.hid hK
            clear hK ho
            go_simp
            exact HK.out _ _ ⟨_, _, _, _, _, _, _, _, _, _, _, _, _, _, _, _, _, _, _, x9, rfl, rfl, ⟨(fun h => by cases h), H.d2, H.d3, H.d5, H.d6, H.d7, H.d8, (fun _ => ⟨rfl, rfl, rfl, rfl, rfl, rfl, rfl, rfl, rfl⟩), (fun h => by cases h), (fun _ h => by cases h), H.h1, H.h2, (fun _ h => by cases h), H.h4, (fun _ h => by cases h), (fun _ h => by cases h), (fun _ h => by cases h), H.h8, (fun _ => ⟨_, _, ON.out, LN.out, FN.out, ZN.out, BN.out⟩)⟩⟩
          · have ho := hoj
            simp at ho
        case hfin =>
          rintro listed a w ⟨b0, b1, b2, b3, b4, b5, b6, b7, b8, b9, x0, x1, x2, x3, x4, x5, x6, x7, x8, x9, rfl, rfl, H⟩ hr
          have hb : b9 = true := by
            clear H
            revert b0 b1 b2 b3 b4 b5 b6 b7 b8 b9
            decide +kernel
          subst hb
          clear hr
          obtain rfl : b0 = true := (H.d9 rfl).1
          obtain rfl : b1 = true := (H.d9 rfl).2.1
          obtain rfl : b2 = true := (H.d9 rfl).2.2.1
          obtain rfl : b3 = true := (H.d9 rfl).2.2.2.1
          obtain rfl : b4 = true := (H.d9 rfl).2.2.2.2.1
          obtain rfl : b5 = true := (H.d9 rfl).2.2.2.2.2.1
          obtain rfl : b6 = true := (H.d9 rfl).2.2.2.2.2.2.1
          obtain rfl : b7 = true := (H.d9 rfl).2.2.2.2.2.2.2.1
          obtain rfl : b8 = true := (H.d9 rfl).2.2.2.2.2.2.2.2
          obtain ⟨A7, c7, o1, o2, f1, z1, b1⟩ := H.h9 rfl
          clear H
          go_wp2_with fail
          go_meet
          exact ⟨A5, c5, A7, c7, Lib.hid f1, Lib.hid z1, Lib.hid b1, Lib.hid ⟨_, hbl1, .inl o2⟩, Lib.hid ⟨_, lt_of_block ZX.out, .inl o1⟩⟩
    case rest =>
    obtain ⟨A5, c5, A7, c7, F9, Z9, B9, H5, H7⟩ := hcut
    have HRET : ∀ U, Below w.heap.size w U → (∀ base v ps, w.heap.size + 1 < base → OwnR wc base 61 v ps → OwnR U base 61 v ps) → BSl U U.heap.size (.slice Ad nd cd) s.data ∧ RSl U U.heap.size (.slice A5 L1.length c5) L1 ∧ RSl U U.heap.size (.slice A7 A1.length c7) A1 := by
      intro U hb hk
      have hU := hb.size
      refine ⟨(HD.out.below hb).more hU, ?_, ?_⟩
      · obtain ⟨base, h1, h2⟩ := H5.out
        rcases h2 with o | ⟨e1, e2⟩
        · exact own_rsl (hk _ _ _ h1 o)
        · rw [e1, e2]; exact (HL.out.below hb).more hU
      · obtain ⟨base, h1, h2⟩ := H7.out
        rcases h2 with o | ⟨e1, e2⟩
        · exact own_rsl (hk _ _ _ h1 o)
        · rw [e1, e2]; exact (HA.out.below hb).more hU
    have HRT := Lib.hid HRET
    clear HRET
    cases fin with
    | false =>
      obtain ⟨z0, z1, z2, z3, z4, z5, z6, z7⟩ := bkS Z9.out
      obtain ⟨k0, k1, k2, k3, k4, k5, k6, k7⟩ := bkS F9.out
      have zf := fun i => bk_frz Z9.out i
      go_wp2_with fail
      obtain ⟨RY, gp⟩ := bkS_put Z9.out (.slice Ad nd cd) (.bool fi) (.int .i64 nx) (.int .i64 mx) (.slice A5 L1.length c5) (.slice A7 A1.length c7) (.bool en) (.bool ov)
      obtain ⟨r0, r1, r2, r3, r4, r5, r6, r7⟩ := bkS RY
      refine bodyPost_ret (by simp [results, Try.results24, go_sem, r0, r1, r2, r3, r4, r5, r6, r7]; try rfl) rfl ?_
      have BB := gr_from B9.out B9.out.size (Nat.le_succ _) gp
      obtain ⟨k1', k2', k3'⟩ := HRT.out _ BB (fun base v ps h o => own_gr (o) gp (by omega))
      exact ⟨BB, _, rfl, ⟨_, _, _, by simp [HFI.out, HNX.out, HMX.out, HEN.out, HOV.out], k1', k2', k3'⟩⟩
    | true =>
      obtain ⟨k0, k1, k2, k3, k4, k5, k6, k7⟩ := bkS F9.out
      have kf := fun i => bk_frz F9.out i
      obtain ⟨Y10, hY10⟩ : ∃ x, wc.setCell ⟨w.heap.size, 6, none⟩ (.bool false) = x := ⟨_, rfl⟩
      have gg10 := gr_set wc w.heap.size 6 (.bool false)
      have FX10 := (bkS_set F9.out (.bool false)).2.2.2.2.2.2.1
      rw [hY10] at gg10 FX10
      have FY10 := Lib.hid FX10
      have ZY10 := Lib.hid ((gg10.block _ (lt_of_block Z9.out) (by simp)).trans Z9.out)
      have BY10 := Lib.hid (gr_from B9.out B9.out.size (Nat.le_refl _) gg10)
      have HK10 := Lib.hid (fun base v ps (h : w.heap.size + 1 < base) (o : OwnR wc base 61 v ps) => (own_gr o gg10 (by omega) : OwnR Y10 base 61 v ps))
      clear gg10 FX10
      obtain ⟨t0, t1, t2, t3, t4, t5, t6, t7⟩ := bkS FY10.out
      have tf := fun i => bk_frz FY10.out i
      obtain ⟨Y11, hY11⟩ : ∃ x, Y10.setCell ⟨w.heap.size, 7, none⟩ (.bool true) = x := ⟨_, rfl⟩
      have gg11 := gr_set Y10 w.heap.size 7 (.bool true)
      have FX11 := (bkS_set FY10.out (.bool true)).2.2.2.2.2.2.2
      rw [hY11] at gg11 FX11
      have FY11 := Lib.hid FX11
      have ZY11 := Lib.hid ((gg11.block _ (lt_of_block ZY10.out) (by simp)).trans ZY10.out)
      have BY11 := Lib.hid (gr_from BY10.out BY10.out.size (Nat.le_refl _) gg11)
      have HK11 := Lib.hid (fun base v ps (h : w.heap.size + 1 < base) (o : OwnR wc base 61 v ps) => (own_gr (HK10.out base v ps h o) gg11 (by omega) : OwnR Y11 base 61 v ps))
      clear gg11 FX11
      obtain ⟨u0, u1, u2, u3, u4, u5, u6, u7⟩ := bkS FY11.out
      have zf := fun i => bk_frz ZY11.out i
      obtain ⟨z0, z1, z2, z3, z4, z5, z6, z7⟩ := bkS ZY11.out
      go_wp2_with fail
      obtain ⟨RY, gp⟩ := bkS_put ZY11.out (.slice Ad nd cd) (.bool fi) (.int .i64 nx) (.int .i64 mx) (.slice A5 L1.length c5) (.slice A7 A1.length c7) (.bool false) (.bool true)
      obtain ⟨r0, r1, r2, r3, r4, r5, r6, r7⟩ := bkS RY
      refine bodyPost_ret (by simp [results, Try.results24, go_sem, r0, r1, r2, r3, r4, r5, r6, r7]; try rfl) rfl ?_
      have BB := gr_from BY11.out BY11.out.size (Nat.le_succ _) gp
      obtain ⟨k1', k2', k3'⟩ := HRT.out _ BB (fun base v ps h o => own_gr (HK11.out base v ps h o) gp (by omega))
      exact ⟨BB, _, rfl, ⟨_, _, _, by simp [HFI.out, HNX.out, HMX.out, HEN.out, HOV.out], k1', k2', k3'⟩⟩
  · rw [if_pos hf]
    clear hv hw hd hl ha g0 g1 g2 hfi hnx hmx hen hov hnd hnl hna hlr har
    obtain ⟨x, hx⟩ : ∃ x, partF s off n fin = x := ⟨_, rfl⟩
    rw [hx] at HF hf ⊢
    have gx : (x != 0) = true := by simp [hf]
    clear hx hf
    go_enter Try.func24, Try.ntmps24
    go_wp2_with (first
      | (go_at_call 50; refine (HF.out _ B0.out).mono ?_; rintro e w1 ⟨rfl, b1⟩; have B1 := Lib.hid (B0.out.trans (b1.mono B0.out.size)); have F1 := Lib.hid ((b1.block _ (lt_of_block F0.out)).trans F0.out); have Z1 := Lib.hid ((b1.block _ (lt_of_block Z0.out)).trans Z0.out); clear b1; obtain ⟨q0, q1, q2, q3, q4, q5, q6, q7⟩ := bkS F1.out; obtain ⟨z0, z1, z2, z3, z4, z5, z6, z7⟩ := bkS Z1.out; have zf := fun i => bk_frz Z1.out i))
    obtain ⟨RY, gp⟩ := bkS_put Z1.out (.slice none 0 0) (.bool false) (.int .i64 0) (.int .i64 0) (.slice none 0 0) (.slice none 0 0) (.bool false) (.bool false)
    obtain ⟨r0, r1, r2, r3, r4, r5, r6, r7⟩ := bkS RY
    refine bodyPost_ret (by simp [results, Try.results24, go_sem, r0, r1, r2, r3, r4, r5, r6, r7]; try rfl) rfl ?_
    exact ⟨gr_from B1.out B1.out.size (Nat.le_succ _) gp, _, rfl, SnVal.nil _ _⟩
end Go.Proofs.Ytkpkgegonfcgnaa
