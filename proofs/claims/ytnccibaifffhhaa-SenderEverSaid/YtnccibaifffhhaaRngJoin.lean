/- Contract of package ranges: join. -/
import Derived.Test.YtnccibaifffhhaaRngSome
import Derived.Deep.LoopGhost
import Derived.Deep.CutRange
import Derived.Deep.DeepCutAuto
import Derived.StillTailTactics
namespace Go.Proofs.Ytnccibaifffhhaa
set_option linter.unusedVariables false
open Go.RowKit P

theorem frozen_of_row {w : World} {g : Nat} {cs : Array Value} {t : TypeId} (h : w.heap[g]? = some (.cells cs t (0, 0))) (i : Nat) : w.frozen? ⟨g, i, none⟩ = false := by
  simp [World.frozen?, h]
theorem two_set {w : World} {g : Nat} {u0 u1 v0 v1 : Value} {t : TypeId} (h : w.heap[g]? = some (.cells #[u0, u1] t (0, 0))) :
    (((w.setCell ⟨g, 0, none⟩ v0).setCell ⟨g, 1, none⟩ v1).drew).heap[g]? = some (.cells #[v0, v1] t (0, 0)) := by
  show ((w.setCell ⟨g, 0, none⟩ v0).setCell ⟨g, 1, none⟩ v1).heap[g]? = _
  simp [World.setCell, Array.getElem?_modify, h]
/-- does the range ahead lie ahead of lo, and not beside it -/
def skB (ps : List (Int × Int)) (lo : Int) (k : Nat) : Bool := decide (k < ps.length ∧ (ps.getD k (0, 0)).2 + 1 < lo)
/-- does the range at k overlap what ends with hi, or lie beside it -/
def tkB (ps : List (Int × Int)) (hi : Int) (k : Nat) : Bool := decide (k < ps.length ∧ (ps.getD k (0, 0)).1 ≤ hi + 1)

def JoinPost (J : List (Int × Int)) (w : World) (e : Ending) (w' : World) : Prop :=
  ∃ v', e = .returned v' ∧ OwnR w' w.heap.size 63 v' J ∧ Below w.heap.size w w'

set_option maxRecDepth 100000 in
set_option maxHeartbeats 1000000 in
theorem join_any (A : Option Addr) (len cap : Nat) (ps : List (Int × Int)) (lo hi : Int) (w : World) (h : RRow w w.heap.size A ps) (hl : ps.length = len) (hok : okL ps) (hr : okR (lo, hi)) (hm : (len + 1) * 16 ≤ 140737488355328) (hcap : len ≤ cap) (hcm : cap ≤ maxLen) :
    Calls Try.prog 60 #[.slice A len cap, .agg #[.int .i64 lo, .int .i64 hi]] w (JoinPost (insR (lo, hi) ps) w) := by
  have HR := Lib.hid h
  have HL := Lib.hid hl
  have HO := Lib.hid hok
  have HK := Lib.hid hr
  clear h hl hok
  obtain ⟨r0, r1, r2⟩ := hr
  simp only at r0 r1 r2
  have hcm' := hcm
  unfold maxLen at hcm'
  have HW := Lib.hid ((Below.refl w.heap.size w).alloc (Nat.le_refl _) (.cells #[.int .i64 lo, .int .i64 hi] 63))
  go_enter Try.func60, Try.ntmps60
  go_wp2
  go_loopg [5] len (fun g i wr => ∃ k : Nat, k + g = len ∧ i = .int .i64 k ∧ Below (w.heap.size + 1) (w.alloc (.cells #[.int .i64 lo, .int .i64 hi] 63)) wr ∧ Hid (insR (lo, hi) ps = ps.take k ++ insR (lo, hi) (ps.drop k)))
  case atStart => exact ⟨0, by omega, rfl, Below.refl _ _, rfl⟩
  case round =>
    obtain ⟨k, hk, rfl, hb, HI⟩ := hrel
    have HB := Lib.hid hb
    have HBW := Lib.hid (HW.out.trans (hb.mono (by omega)))
    have e0 := (hb.cell (p := ⟨w.heap.size, 0, none⟩) (by simp)).trans (by simp : _ = some (.int .i64 lo))
    have e1 := (hb.cell (p := ⟨w.heap.size, 1, none⟩) (by simp)).trans (by simp : _ = some (.int .i64 hi))
    clear hb
    go_upto_region 2 with fail
    go_cut [22] from 8 to 24 (fun s22 wx => Below wr.heap.size wr wx ∧ s22 = .bool (skB ps lo k))
    case first =>
      by_cases hlt : k < len
      · obtain ⟨b, off, rfl, hbb, hc⟩ := (HR.out.below HBW.out) (by rw [HL.out]; omega)
        have d1 := Ext.cell (hc k (by rw [HL.out]; omega)).2
        have d2 := Ext.cell e0
        have pk := ok_get HO.out k (by rw [HL.out]; omega)
        have HS := Lib.hid (show skB ps lo k = decide ((ps.getD k (0, 0)).2 + 1 < lo) by unfold skB; rw [HL.out]; simp [hlt])
        obtain ⟨⟨plo, phi⟩, hq⟩ : ∃ p, ps.getD k (0, 0) = p := ⟨_, rfl⟩
        rw [hq] at d1 HS pk
        simp only at d1 HS
        have p1 : phi ≤ 4611686018427387903 := pk.2.2
        have p2 : 0 ≤ phi := Int.le_trans pk.1 pk.2.1
        clear hc hq pk
        have g1 : decide ((k : Int) < (len : Int)) = true := by simp; omega
        have g2 : decide (k < len) = true := by simp; omega
        refine wp_region_ext (by kernel_rfl) (by kernel_rfl) ?_
        repeat (go_big_quiet_step (fail))
        refine wpQuiet_nil ?_
        intro w1 hb1
        go_wp2_with fail
        go_meet
        exact ⟨hb1, by rw [HS.out]⟩
      · have HS := Lib.hid (show skB ps lo k = false by unfold skB; rw [HL.out]; simp [hlt])
        have g1 : decide ((k : Int) < (len : Int)) = false := by simp; omega
        have g2 : decide (k < len) = false := by simp; omega
        refine wp_region_ext (by kernel_rfl) (by kernel_rfl) ?_
        repeat (go_big_quiet_step (fail))
        refine wpQuiet_nil ?_
        intro w1 hb1
        go_wp2_with fail
        go_meet
        exact ⟨hb1, by rw [HS.out]⟩
    case rest =>
      obtain ⟨hb1, rfl⟩ := hcut
      have HB1 := Lib.hid (HB.out.trans (hb1.mono (by have := HB.out.size; simp at this; omega)))
      clear hb1 e0 e1
      cases hs : skB ps lo k with
      | true =>
        obtain ⟨s1, s2⟩ := of_decide_eq_true hs
        rw [HL.out] at s1
        have HI1 := Lib.hid (HI.out.trans (ins_skip (lo, hi) ps k (by rw [HL.out]; omega) s2))
        clear s2 hs
        go_wp2
        go_roundg (gk - 1)
        case measure => omega
        case rel => exact ⟨k + 1, by omega, by go_num, HB1.out, HI1⟩
      | false =>
        have hs' := of_decide_eq_false hs
        have HI1 := Lib.hid (HI.out.trans (congrArg (ps.take k ++ ·) (ins_stop (lo, hi) ps k fun h1 h2 => hs' ⟨h1, h2⟩)))
        clear hs hs' HI
        have hbk : wc.heap[w.heap.size]? = some (.cells #[.int .i64 lo, .int .i64 hi] 63 (0, 0)) := (HB1.out.block w.heap.size (by omega)).trans (by show (w.heap.push _)[w.heap.size]? = _; simp)
        have HBC := Lib.hid (HW.out.trans (HB1.out.mono (by omega)))
        have HX := Lib.hid hbk
        clear hbk HB1 HB HBW
        go_wp2_with fail
        go_loopg [6] (len - k) (fun g j wq => ∃ (t : Nat) (p q : Int), t + g = len ∧ k ≤ t ∧ j = .int .i64 t ∧ Below w.heap.size w wq ∧ Hid (wq.heap[w.heap.size]? = some (.cells #[.int .i64 p, .int .i64 q] 63 (0, 0))) ∧ Hid (okR (p, q)) ∧ Hid (insR (lo, hi) ps = ps.take k ++ absR (p, q) (ps.drop t)))
        case atStart => exact ⟨k, lo, hi, by omega, Nat.le_refl _, rfl, HBC.out, HX, HK, HI1⟩
        case round =>
          clear HI1 HX HBC
          obtain ⟨t, p, q, ht, hkt, rfl, hb, HX, HPQ, HI⟩ := hrel
          have HB := Lib.hid hb
          clear hb
          obtain ⟨q0, q1, q2⟩ := HPQ.out
          simp only at q0 q1 q2
          have e0 := cell_of_row wr w.heap.size 0 _ _ _ HX.out
          have e1 := cell_of_row wr w.heap.size 1 _ _ _ HX.out
          simp at e0 e1
          go_upto_region 5 with fail
          go_cut [40] from 26 to 59 (fun s40 wx => Below wr.heap.size wr wx ∧ s40 = .bool (tkB ps q t))
          case first =>
            by_cases hlt : t < len
            · obtain ⟨b, off, rfl, hbb, hc⟩ := (HR.out.below HB.out) (by rw [HL.out]; omega)
              have d1 := Ext.cell (hc t (by rw [HL.out]; omega)).1
              have d2 := Ext.cell e1
              have HS := Lib.hid (show tkB ps q t = decide ((ps.getD t (0, 0)).1 ≤ q + 1) by unfold tkB; rw [HL.out]; simp [hlt])
              obtain ⟨⟨plo, phi⟩, hq⟩ : ∃ p, ps.getD t (0, 0) = p := ⟨_, rfl⟩
              rw [hq] at d1 HS
              simp only at d1 HS
              clear hc hq
              have g1 : decide ((t : Int) < (len : Int)) = true := by simp; omega
              have g2 : decide (t < len) = true := by simp; omega
              refine wp_region_ext (by kernel_rfl) (by kernel_rfl) ?_
              repeat (go_big_quiet_step (fail))
              refine wpQuiet_nil ?_
              intro w1 hb1
              go_wp2_with fail
              go_meet
              exact ⟨hb1, by rw [HS.out]⟩
            · have HS := Lib.hid (show tkB ps q t = false by unfold tkB; rw [HL.out]; simp [hlt])
              have g1 : decide ((t : Int) < (len : Int)) = false := by simp; omega
              have g2 : decide (t < len) = false := by simp; omega
              refine wp_region_ext (by kernel_rfl) (by kernel_rfl) ?_
              repeat (go_big_quiet_step (fail))
              refine wpQuiet_nil ?_
              intro w1 hb1
              go_wp2_with fail
              go_meet
              exact ⟨hb1, by rw [HS.out]⟩
          case rest =>
            obtain ⟨hb1, rfl⟩ := hcut
            have HB1 := Lib.hid (HB.out.trans (hb1.mono HB.out.size))
            have h0 := World.block_lt_of_cell? wr _ e0
            have hx := (hb1.block w.heap.size (by simpa using h0)).trans HX.out
            clear hb1 e0 e1 HB
            have e0 := cell_of_row wc w.heap.size 0 _ _ _ hx
            have e1 := cell_of_row wc w.heap.size 1 _ _ _ hx
            simp at e0 e1
            have HX1 := Lib.hid hx
            clear hx
            cases hs : tkB ps q t with
            | true =>
              obtain ⟨s1, s2⟩ := of_decide_eq_true hs
              rw [HL.out] at s1
              have HI1 := Lib.hid (HI.out.trans (congrArg (ps.take k ++ ·) (abs_step (p, q) ps t (by rw [HL.out]; omega) s2)))
              obtain ⟨b, off, rfl, hbb, hc⟩ := (HR.out.below HB1.out) (by rw [HL.out]; omega)
              obtain ⟨d0, d1⟩ := hc t (by rw [HL.out]; omega)
              have pk := ok_get HO.out t (by rw [HL.out]; omega)
              obtain ⟨⟨plo, phi⟩, hq⟩ : ∃ p, ps.getD t (0, 0) = p := ⟨_, rfl⟩
              rw [hq] at d0 d1 HI1 pk
              simp only at d0 d1 HI1
              obtain ⟨p0, p1, p2⟩ := pk
              simp only at p0 p1 p2
              have i1 : (t : Int) < (len : Int) := by omega
              clear s2 hs hc hq
              have f0 := frozen_of_row HX1.out 0
              have f1 := frozen_of_row HX1.out 1
              go_upto_region 6 with fail
              go_still_tail 17, (by kernel_rfl)
              change wpList _ _ _ _ _ wc.drew
              go_wp2_with fail
              all_goals
                go_roundg (gk - 1)
                case measure => omega
                case rel => exact ⟨t + 1, _, _, by omega, by omega, by go_num, ((HB1.out.setCell (p := ⟨w.heap.size, 0, none⟩) (Nat.le_refl _) _).setCell (p := ⟨w.heap.size, 1, none⟩) (Nat.le_refl _) _).drew, two_set HX1.out, ⟨by simp only; omega, by simp only; omega, by simp only; omega⟩, HI1.out.trans (congrArg (fun r => ps.take k ++ absR r (ps.drop (t + 1))) (Prod.ext (by simp only; omega) (by simp only; omega)))⟩
            | false =>
              have hs' := of_decide_eq_false hs
              have HI1 := Lib.hid (HI.out.trans (congrArg (ps.take k ++ ·) (abs_stop (p, q) ps t fun h1 h2 => hs' ⟨h1, h2⟩)))
              clear hs hs' HI
              have f0 := frozen_of_row HX1.out 0
              have f1 := frozen_of_row HX1.out 1
              obtain ⟨i0, hi0, hz0, hz1, hz2⟩ := info_parts infoR
              have HI0 := Lib.hid hi0
              have HZ := Lib.hid hz0
              have HZ1 := Lib.hid hz1
              have HZ2 := Lib.hid hz2
              clear hi0 hz0 hz1 hz2
              have hbw := HB1.out.size
              have h0c : w.heap.size < wc.heap.size := World.block_lt_of_cell? wc _ e0
              go_wp2_with (first
                | (at_make
                   refine wpList_make_own _ rfl _ _ _ rfl w.heap.size 63 i0 _ 2 Try.underlying25 HI0.out HZ.out HZ1.out _ _ _ (k + 1 + len - t) rfl rfl (by omega) (by rw [HZ2.out]; omega) (by unfold maxLen; omega) (by omega) ?_
                   intro w2 own2 g2
                   have O2 : Hid (OwnR w2 w.heap.size 63 (.slice (some ⟨wc.heap.size, 0, none⟩) 0 (k + 1 + len - t)) []) := own2
                   have B2 := Lib.hid (HB1.out.grown g2 (by omega) (fun _ h => by cases h))
                   have X2 := Lib.hid ((g2.block w.heap.size h0c (by simp)).trans HX1.out)
                   have B2z := Lib.hid g2.size
                   clear own2 g2)
                | (at_builtin
                   refine wpList_appR _ rfl (.tmp 68) (.tmp 71) _ rfl w.heap.size 63 i0 _ Try.underlying25 HI0.out HZ.out HZ1.out HZ2.out rfl _ [] rfl O2.out w.heap.size A k cap (ps.take k) rfl ((HR.out.below B2.out).take k) (by rw [List.length_take, HL.out]; omega) (by simp; omega) B2.out.size ?_
                   intro v3 w3 own3 g3
                   have hlt2 := Nat.lt_of_lt_of_le h0c B2z.out
                   have hx3 := (g3.block w.heap.size hlt2 (fun h => Nat.ne_of_lt h0c (Option.some.inj h))).trans X2.out
                   have e4 := cell_of_row w3 w.heap.size 0 _ _ _ hx3
                   have e5 := cell_of_row w3 w.heap.size 1 _ _ _ hx3
                   simp at e4 e5
                   have B3 := Lib.hid (B2.out.grown g3 B2.out.size (fun k hk => (O2.out.lt k hk).1))
                   have O3 := Lib.hid own3
                   have A3 := Lib.hid ((Below.refl w.heap.size w3).alloc B3.out.size (.cells #[.int .i64 p, .int .i64 q] 63))
                   clear own3 g3 hx3 hlt2)
                | (at_builtin
                   refine wpList_appR _ rfl (.tmp 73) (.tmp 75) _ rfl w.heap.size 63 i0 _ Try.underlying25 HI0.out HZ.out HZ1.out HZ2.out rfl v3 ([] ++ ps.take k) rfl (O3.out.alloc _) (w3.heap.size + 1) (some ⟨w3.heap.size, 0, none⟩) 1 1 [(p, q)] rfl (RRow.one _ _ _ _) rfl (by simp; omega) (B3.out.trans A3.out).size ?_
                   intro v4 w4 own4 g4
                   have B4 := Lib.hid ((B3.out.trans A3.out).grown g4 (B3.out.trans A3.out).size (fun k hk => (O3.out.lt k hk).1))
                   have O4 := Lib.hid own4
                   clear own4 g4)
                | (at_builtin
                   refine wpList_appR _ rfl (.tmp 77) (.tmp 80) _ rfl w.heap.size 63 i0 _ Try.underlying25 HI0.out HZ.out HZ1.out HZ2.out rfl v4 (([] ++ ps.take k) ++ [(p, q)]) rfl O4.out w.heap.size _ (len - t) _ (ps.drop t) rfl ((HR.out.below B4.out).cut t cap (by rw [HL.out]; omega)) (by rw [List.length_drop, HL.out]) (by simp; omega) B4.out.size ?_
                   intro v5 w5 own5 g5
                   have B5 := Lib.hid (B4.out.grown g5 B4.out.size (fun k hk => (O4.out.lt k hk).1))
                   have O5 := Lib.hid own5
                   clear own5 g5))
              all_goals
                go_ret
                refine ⟨v5, rfl, ?_, B5.out⟩
                have e := O5.out
                rw [show ([] ++ ps.take k) ++ [(p, q)] ++ ps.drop t = insR (lo, hi) ps by rw [HI1.out]; simp] at e
                exact e
end Go.Proofs.Ytnccibaifffhhaa
