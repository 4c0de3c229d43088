/- Contracts of package sender: sets, whole, heardAll's span. -/
import Derived.Test.YtkmkcpjmhcpjpaaRngChk
import Derived.Test.YtkmkcpjmhcpjpaaSnBk
import Derived.Deep.LoopGhost
namespace Go.Proofs.Ytkmkcpjmhcpjpaa.P
set_option linter.unusedVariables false
/-- what the last range says of a set that lies below a number -/
theorem below_last {l : List (Int × Int)} {n : Int} (h : okL l) (hl : 0 < l.length) : belowS l n ↔ (l.getD (l.length - 1) (0, 0)).2 < n := by
  have hm : ∀ {a : Int} {l : List (Int × Int)}, okFrom a l → ∀ x ∈ l, x.2 ≤ (l.getD (l.length - 1) (0, 0)).2 := by
    intro a l
    induction l generalizing a with
    | nil => intro _ x hx; cases hx
    | cons y l ih =>
      intro h x hx
      have e : (y :: l).getD ((y :: l).length - 1) (0, 0) = if l.length = 0 then y else l.getD (l.length - 1) (0, 0) := by
        cases l with
        | nil => rfl
        | cons z l => simp
      rw [e]
      rcases List.mem_cons.1 hx with rfl | hx
      · by_cases h0 : l.length = 0
        · rw [if_pos h0]; exact Int.le_refl _
        · rw [if_neg h0]
          have hz : l.getD (l.length - 1) (0, 0) ∈ l := by rw [List.getD_eq_getElem?_getD, List.getElem?_eq_getElem (by omega)]; exact List.getElem_mem (by omega)
          have k := okFrom_all h.2.2 hz
          have := k.1.2.1
          have := k.2
          omega
      · have h0 : l.length ≠ 0 := by cases l with | nil => cases hx | cons z l => simp
        rw [if_neg h0]
        exact ih h.2.2 x hx
  constructor
  · intro hb
    refine hb _ ?_
    rw [List.getD_eq_getElem?_getD, List.getElem?_eq_getElem (by omega)]
    exact List.getElem_mem (by omega)
  · intro hb x hx
    have := hm h x hx
    omega
/-- what sets asks -/
def setsP (s : Sn) : Prop := (okL s.lost ∧ belowS s.lost s.next) ∧ okL s.acked ∧ belowS s.acked s.next
instance (s : Sn) : Decidable (setsP s) := by unfold setsP belowS; infer_instance
theorem decN {b : Bool} {p : Prop} [Decidable p] (h : ¬ p) : Value.bool false = .bool (decide p) := by rw [decide_eq_false h]
theorem decY {b : Bool} {p : Prop} [Decidable p] (h : p) : Value.bool true = .bool (decide p) := by rw [decide_eq_true h]
end Go.Proofs.Ytkmkcpjmhcpjpaa.P
namespace Go.Proofs.Ytkmkcpjmhcpjpaa
set_option linter.unusedVariables false
open Go.RowKit P

set_option maxRecDepth 100000 in
set_option maxHeartbeats 1000000 in
theorem sets_any (v : Value) (s : Sn) (w : World) (hv : SnVal w w.heap.size v s) (hw : SnWf s) :
    Calls Try.prog 59 #[v] w fun e w' => e = .returned (.bool (decide (setsP s))) ∧ Below w.heap.size w w' := by
  obtain ⟨d, l, a, rfl, hd, hl, ha⟩ := hv.ex
  obtain ⟨Al, cl, rfl, hlc, hlm, hlr⟩ := hl.ex
  obtain ⟨Aa, ca, rfl, hac, ham, har⟩ := ha.ex
  have B0 := Lib.hid ((Below.refl w.heap.size w).alloc (Nat.le_refl _) (.cells #[d, .bool s.fin, .int .i64 s.next, .int .i64 s.mx, .slice Al s.lost.length cl, .slice Aa s.acked.length ca, .bool s.ended, .bool s.over] 27))
  have F0 := Lib.hid (heap_alloc_new w (.cells #[d, .bool s.fin, .int .i64 s.next, .int .i64 s.mx, .slice Al s.lost.length cl, .slice Aa s.acked.length ca, .bool s.ended, .bool s.over] 27))
  have HRl := Lib.hid hlr
  have HRa := Lib.hid har
  have hll := hw.ll
  have hal := hw.al
  obtain ⟨nl, hnl⟩ : ∃ n, s.lost.length = n := ⟨_, rfl⟩
  obtain ⟨na, hna⟩ : ∃ n, s.acked.length = n := ⟨_, rfl⟩
  obtain ⟨nx, hnx⟩ : ∃ n, s.next = n := ⟨_, rfl⟩
  rw [hnl] at hlc B0 F0 hll ⊢
  rw [hna] at hac B0 F0 hal ⊢
  rw [hnx] at B0 F0 ⊢
  have HNl := Lib.hid hnl
  have HNa := Lib.hid hna
  have HX := Lib.hid hnx
  clear hv hd hl ha hlr har hnl hna hnx hw
  go_enter Try.func59, Try.ntmps59
  go_wp2
  go_loopg [10] 2 (fun g i wr => (g = 2 ∧ i = .int .i64 0 ∧ Hid (Below w.heap.size w wr) ∧ Hid (wr.heap[w.heap.size]? = some (.cells #[d, .bool s.fin, .int .i64 nx, .int .i64 s.mx, .slice Al nl cl, .slice Aa na ca, .bool s.ended, .bool s.over] 27 (0, 0)))) ∨
    (g = 1 ∧ i = .int .i64 1 ∧ Hid (Below w.heap.size w wr) ∧ Hid (wr.heap[w.heap.size]? = some (.cells #[d, .bool s.fin, .int .i64 nx, .int .i64 s.mx, .slice Al nl cl, .slice Aa na ca, .bool s.ended, .bool s.over] 27 (0, 0))) ∧ Hid (okL s.lost ∧ belowS s.lost s.next)) ∨
    (g = 0 ∧ i = .int .i64 2 ∧ Hid (Below w.heap.size w wr) ∧ Hid (setsP s)))
  case atStart => exact .inl ⟨rfl, rfl, B0, F0⟩
  case round =>
    have ix0 : ∀ w, (Instr.index 118 (.agg #[.slice Al nl cl, .slice Aa na ca]) (.int .i64 0)).run Try.prog w = .ok (.slice Al nl cl) w := fun _ => by kernel_rfl
    have ix1 : ∀ w, (Instr.index 118 (.agg #[.slice Al nl cl, .slice Aa na ca]) (.int .i64 1)).run Try.prog w = .ok (.slice Aa na ca) w := fun _ => by kernel_rfl
    rcases hrel with ⟨rfl, rfl, BX, FX⟩ | ⟨rfl, rfl, BX, FX, GL⟩ | ⟨rfl, rfl, BX, GS⟩
    · obtain ⟨q0, q1, q2, q3, q4, q5, q6, q7⟩ := bkS FX.out
      have HC := Lib.hid (check_any Al nl cl s.lost wr ((HRl.out.below BX.out).more BX.out.size) HNl.out (by omega))
      by_cases hok : okL s.lost
      · have hck : ckV s.lost = 0 := if_pos hok
        by_cases h0 : nl = 0
        · have GL1 := Lib.hid (show okL s.lost ∧ belowS s.lost s.next from ⟨hok, fun x hx => absurd hx (by rw [List.eq_nil_of_length_eq_zero (HNl.out.trans h0)]; exact List.not_mem_nil)⟩)
          subst h0
          go_wp2_with (go_at_call 67; refine HC.out.mono ?_; rintro e w1 ⟨rfl, b1⟩; rw [hck]; have B1 := Lib.hid (BX.out.trans (b1.mono BX.out.size)); have F1 := Lib.hid ((b1.block _ (lt_of_block FX.out)).trans FX.out); clear b1 q0 q1 q2 q3 q4 q5 q6 q7; obtain ⟨q0, q1, q2, q3, q4, q5, q6, q7⟩ := bkS F1.out)
          have z2 := Ext.cell q2
          refine wp_region_ext (by kernel_rfl) (by kernel_rfl) ?_
          repeat (go_big_quiet_step (fail))
          refine wpQuiet_nil ?_
          intro w2 hb2
          have B2 := Lib.hid (B1.out.trans (hb2.mono B1.out.size))
          have F2 := Lib.hid ((hb2.block _ (lt_of_block F1.out)).trans F1.out)
          clear hb2 z2
          go_wp2
          go_roundg 1
          case measure => omega
          case rel => exact .inr (.inl ⟨by omega, by first | rfl | go_num, B2, F2, GL1⟩)
        · obtain ⟨b, off, hA, hbb, hc⟩ := HRl.out (by rw [HNl.out]; omega)
          subst hA
          have c1 := (hc (nl - 1) (by rw [HNl.out]; omega)).2
          have HLS := Lib.hid (below_last (n := s.next) hok (by rw [HNl.out]; omega))
          rw [HNl.out] at HLS
          obtain ⟨⟨lo, hi⟩, hp⟩ : ∃ p, s.lost.getD (nl - 1) (0, 0) = p := ⟨_, rfl⟩
          rw [hp] at c1 HLS
          simp only at c1
          clear hc hp
          have hn0 : (0 : Int) < (nl : Int) := by omega
          have hn1 : decide (0 < nl) = true := by simp; omega
          have i0 : (0 : Int) ≤ (nl : Int) - 1 := by omega
          have i1 : (nl : Int) - 1 < (nl : Int) := by omega
          have i2 : ((nl : Int) - 1).toNat = nl - 1 := by omega
          have i3 : IntKind.i64.wrap ((nl : Int) - 1) = (nl : Int) - 1 := by rw [IntKind.wrap_i64]; omega
          go_wp2_with (go_at_call 67; refine HC.out.mono ?_; rintro e w1 ⟨rfl, b1⟩; rw [hck]; have B1 := Lib.hid (BX.out.trans (b1.mono BX.out.size)); have F1 := Lib.hid ((b1.block _ (lt_of_block FX.out)).trans FX.out); clear b1 q0 q1 q2 q3 q4 q5 q6 q7; obtain ⟨q0, q1, q2, q3, q4, q5, q6, q7⟩ := bkS F1.out)
          have z2 := Ext.cell q2
          have z3 := Ext.cell ((B1.out.cell hbb).trans c1)
          refine wp_region_ext (by kernel_rfl) (by kernel_rfl) ?_
          repeat (go_big_quiet_step (fail))
          refine wpQuiet_nil ?_
          intro w2 hb2
          have B2 := Lib.hid (B1.out.trans (hb2.mono B1.out.size))
          have F2 := Lib.hid ((hb2.block _ (lt_of_block F1.out)).trans F1.out)
          clear hb2 z2 z3
          by_cases hg : hi < nx
          · have g1 : decide (nx ≤ hi) = false := by simp; omega
            have GL1 := Lib.hid (show okL s.lost ∧ belowS s.lost s.next from ⟨hok, HLS.out.2 (by rw [HX.out]; exact hg)⟩)
            clear c1
            go_wp2
            go_roundg 1
            case measure => omega
            case rel => exact .inr (.inl ⟨by omega, by first | rfl | go_num, B2, F2, GL1⟩)
          · have g1 : decide (nx ≤ hi) = true := by simp; omega
            have GN := Lib.hid (show ¬ setsP s from fun h => hg (by have := HLS.out.1 h.1.2; rw [HX.out] at this; exact this))
            clear c1
            go_wp2
            go_ret
            exact ⟨congrArg Ending.returned (decN (b := true) GN.out), B2.out⟩
      · have hck : ckV s.lost = 3 := if_neg hok
        have GN := Lib.hid (show ¬ setsP s from fun h => hok h.1.1)
        go_wp2_with (go_at_call 67; refine HC.out.mono ?_; rintro e w1 ⟨rfl, b1⟩; rw [hck]; have B1 := Lib.hid (BX.out.trans (b1.mono BX.out.size)); clear b1)
        go_ret
        exact ⟨congrArg Ending.returned (decN (b := true) GN.out), B1.out⟩
    · obtain ⟨q0, q1, q2, q3, q4, q5, q6, q7⟩ := bkS FX.out
      have HC := Lib.hid (check_any Aa na ca s.acked wr ((HRa.out.below BX.out).more BX.out.size) HNa.out (by omega))
      by_cases hok : okL s.acked
      · have hck : ckV s.acked = 0 := if_pos hok
        by_cases h0 : na = 0
        · have GL1 := Lib.hid (show setsP s from ⟨GL.out, hok, fun x hx => absurd hx (by rw [List.eq_nil_of_length_eq_zero (HNa.out.trans h0)]; exact List.not_mem_nil)⟩)
          subst h0
          go_wp2_with (go_at_call 67; refine HC.out.mono ?_; rintro e w1 ⟨rfl, b1⟩; rw [hck]; have B1 := Lib.hid (BX.out.trans (b1.mono BX.out.size)); have F1 := Lib.hid ((b1.block _ (lt_of_block FX.out)).trans FX.out); clear b1 q0 q1 q2 q3 q4 q5 q6 q7; obtain ⟨q0, q1, q2, q3, q4, q5, q6, q7⟩ := bkS F1.out)
          have z2 := Ext.cell q2
          refine wp_region_ext (by kernel_rfl) (by kernel_rfl) ?_
          repeat (go_big_quiet_step (fail))
          refine wpQuiet_nil ?_
          intro w2 hb2
          have B2 := Lib.hid (B1.out.trans (hb2.mono B1.out.size))
          have F2 := Lib.hid ((hb2.block _ (lt_of_block F1.out)).trans F1.out)
          clear hb2 z2
          go_wp2
          go_roundg 0
          case measure => omega
          case rel => exact .inr (.inr ⟨by omega, by first | rfl | go_num, B2, GL1⟩)
        · obtain ⟨b, off, hA, hbb, hc⟩ := HRa.out (by rw [HNa.out]; omega)
          subst hA
          have c1 := (hc (na - 1) (by rw [HNa.out]; omega)).2
          have HLS := Lib.hid (below_last (n := s.next) hok (by rw [HNa.out]; omega))
          rw [HNa.out] at HLS
          obtain ⟨⟨lo, hi⟩, hp⟩ : ∃ p, s.acked.getD (na - 1) (0, 0) = p := ⟨_, rfl⟩
          rw [hp] at c1 HLS
          simp only at c1
          clear hc hp
          have hn0 : (0 : Int) < (na : Int) := by omega
          have hn1 : decide (0 < na) = true := by simp; omega
          have i0 : (0 : Int) ≤ (na : Int) - 1 := by omega
          have i1 : (na : Int) - 1 < (na : Int) := by omega
          have i2 : ((na : Int) - 1).toNat = na - 1 := by omega
          have i3 : IntKind.i64.wrap ((na : Int) - 1) = (na : Int) - 1 := by rw [IntKind.wrap_i64]; omega
          go_wp2_with (go_at_call 67; refine HC.out.mono ?_; rintro e w1 ⟨rfl, b1⟩; rw [hck]; have B1 := Lib.hid (BX.out.trans (b1.mono BX.out.size)); have F1 := Lib.hid ((b1.block _ (lt_of_block FX.out)).trans FX.out); clear b1 q0 q1 q2 q3 q4 q5 q6 q7; obtain ⟨q0, q1, q2, q3, q4, q5, q6, q7⟩ := bkS F1.out)
          have z2 := Ext.cell q2
          have z3 := Ext.cell ((B1.out.cell hbb).trans c1)
          refine wp_region_ext (by kernel_rfl) (by kernel_rfl) ?_
          repeat (go_big_quiet_step (fail))
          refine wpQuiet_nil ?_
          intro w2 hb2
          have B2 := Lib.hid (B1.out.trans (hb2.mono B1.out.size))
          have F2 := Lib.hid ((hb2.block _ (lt_of_block F1.out)).trans F1.out)
          clear hb2 z2 z3
          by_cases hg : hi < nx
          · have g1 : decide (nx ≤ hi) = false := by simp; omega
            have GL1 := Lib.hid (show setsP s from ⟨GL.out, hok, HLS.out.2 (by rw [HX.out]; exact hg)⟩)
            clear c1
            go_wp2
            go_roundg 0
            case measure => omega
            case rel => exact .inr (.inr ⟨by omega, by first | rfl | go_num, B2, GL1⟩)
          · have g1 : decide (nx ≤ hi) = true := by simp; omega
            have GN := Lib.hid (show ¬ setsP s from fun h => hg (by have := HLS.out.1 h.2.2; rw [HX.out] at this; exact this))
            clear c1
            go_wp2
            go_ret
            exact ⟨congrArg Ending.returned (decN (b := true) GN.out), B2.out⟩
      · have hck : ckV s.acked = 3 := if_neg hok
        have GN := Lib.hid (show ¬ setsP s from fun h => hok h.2.1)
        go_wp2_with (go_at_call 67; refine HC.out.mono ?_; rintro e w1 ⟨rfl, b1⟩; rw [hck]; have B1 := Lib.hid (BX.out.trans (b1.mono BX.out.size)); clear b1)
        go_ret
        exact ⟨congrArg Ending.returned (decN (b := true) GN.out), B1.out⟩
    · go_wp2
      go_ret
      exact ⟨congrArg Ending.returned (decY (b := true) GS.out), BX.out⟩
set_option maxHeartbeats 1000000 in
theorem whole_any (v : Value) (s : Sn) (w : World) (hv : SnVal w w.heap.size v s) :
    Calls Try.prog 61 #[v] w fun e w' => e = .returned (.bool (decide (s.fin = true ∧ s.next = s.data.length))) ∧ Below w.heap.size w w' := by
  obtain ⟨d, l, a, rfl, hd, hl, ha⟩ := hv.ex
  obtain ⟨Ad, cd, rfl, hdc, hdm, hdn, hdr⟩ := hd.ex
  have B0 := Lib.hid ((Below.refl w.heap.size w).alloc (Nat.le_refl _) (.cells #[.slice Ad s.data.length cd, .bool s.fin, .int .i64 s.next, .int .i64 s.mx, l, a, .bool s.ended, .bool s.over] 27))
  obtain ⟨n, hn⟩ : ∃ n, s.data.length = n := ⟨_, rfl⟩
  obtain ⟨fin, hf⟩ : ∃ n, s.fin = n := ⟨_, rfl⟩
  obtain ⟨nx, hx⟩ : ∃ n, s.next = n := ⟨_, rfl⟩
  rw [hn, hf, hx] at B0 ⊢
  clear hv hd hl ha hdr hn hf hx hdc hdm hdn
  cases fin with
  | false =>
    go_enter Try.func61, Try.ntmps61
    go_wp2
    go_ret
    exact ⟨by simp, B0.out⟩
  | true =>
    by_cases h : nx = n
    · subst h
      go_enter Try.func61, Try.ntmps61
      go_wp2
      go_ret
      exact ⟨by simp, B0.out⟩
    · have g : (nx == (n : Int)) = false := by simp [h]
      go_enter Try.func61, Try.ntmps61
      go_wp2
      go_ret
      exact ⟨by simp [h], B0.out⟩
end Go.Proofs.Ytkmkcpjmhcpjpaa
