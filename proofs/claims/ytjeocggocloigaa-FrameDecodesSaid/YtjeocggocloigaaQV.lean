/- Texts of the proofs, joined. -/
import Derived.Test.YtjeocggocloigaaQO
import Derived.Deep.RegionHeldLaw
/- The document's answers on frames: FrameFault, where a kind has a small Code. -/
namespace Go.Proofs.Ytjeocggocloigaa
set_option linter.unusedVariables false
open Go.RowKit P

set_option maxHeartbeats 8000000 in
theorem refFault_B (v : Value) (f : Fr) (w : World) (h : FrVal w w.heap.size v f) (hk : (Lit.int .i64 f.kind).wf = true) (s : List Int) (hp0 : partsOf f.kind = some s) (c10 : ¬ 120 < f.data.length) (c20 : ¬ 6 < f.rs.length) (hg : inS s 99 = true) :
    Calls Try.prog 7 #[v] w fun e w' => e = .returned (.int .i64 (faultF f)) ∧ Below w.heap.size w w' := by
  obtain ⟨r, d, rfl, hr, hd⟩ := h.ex
  obtain ⟨A', n', hdv, _, _, _, _⟩ := hd.ex
  obtain ⟨A, c, hrv, _, _, hrr⟩ := hr.ex
  subst hrv hdv
  have HF0 := Lib.hid (fun h => faultF_no (f := f) h)
  have HF1 := Lib.hid (fun s h => faultF_some (f := f) (s := s) h)
  have HFR := Lib.hid (fun s h => faultR (f := f) (s := s) h)
  have HW := Lib.hid ((Below.refl w.heap.size w).alloc (Nat.le_refl _) (.cells #[.int .i64 f.kind, .int .i64 f.id, .int .i64 f.off, .bool f.fin, .int .i64 f.code, .slice A f.rs.length c, .slice A' f.data.length n'] 25))
  have HR := Lib.hid (hrr.on HW.out)
  clear hr hd h hrr
  obtain ⟨x, hx⟩ : ∃ x, faultF f = x := ⟨_, rfl⟩
  rw [hx] at HF0 HF1 HFR ⊢
  clear hx
  obtain ⟨k, id, off, fin, code, rs, data⟩ := f
  simp only at HF0 HF1 HFR HW HR hk ⊢
  have HK := Lib.hid hk
  clear hk
  have hp : partsOf k = some s := hp0
  have c1 : ¬ 120 < data.length := c10
  have c2 : ¬ 6 < rs.length := c20
  clear hp0 c10 c20
  have HV1 := Lib.hid (HF1.out s hp)
  have HVR := Lib.hid (HFR.out s hp)
  have HP := Lib.hid hp
  have HIN := Lib.hid (refInS hp)
  clear HF0 HF1 HFR hp
  obtain ⟨S, hS⟩ : ∃ S, strOfNums s = S := ⟨_, rfl⟩
  have HH := Lib.hid (fun w => hS ▸ refHas_some HP.out HK.out w : ∀ w, Calls Try.prog 17 #[.int .i64 k] w fun e w' => e = .returned (.tuple #[.string S, .bool true]) ∧ Below w.heap.size w w')
  have HI := Lib.hid (HIN.out S hS.symm)
  clear hS HIN
  clear HV1
  have HG := Lib.hid hg
  go_enter Try.func7, Try.ntmps7
  go_wp2_with (go_at_call 17; refine (HH.out _).mono ?_; rintro e w1 ⟨rfl, hb1⟩; obtain ⟨d0, d1, d2, d3, d4, d5, d6⟩ := seven hb1; have HB1 := Lib.hid (HW.out.trans (hb1.mono HW.out.size)); have HR1 := Lib.hid (HR.out.on hb1); clear hb1)
  have hww := World.block_lt_of_cell? w1 _ d1
  simp only at hww
  have k01 := World.new_ne w1 _ d1
  have k02 := World.new_ne w1 _ d2
  have k04 := World.new_ne w1 _ d4
  first
    | (go_region_held_law (fun w' => w'.cell? ⟨w.heap.size, 1, none⟩ = some (.int .i64 id) ∧ w'.cell? ⟨w.heap.size, 2, none⟩ = some (.int .i64 off) ∧ w'.cell? ⟨w.heap.size, 4, none⟩ = some (.int .i64 code)) (go_keep)
    (first
      | ((go_at_call 18; refine (HI.out _ _).mono ?_; rintro e w' ⟨rfl, rfl⟩))))
    | fail
  clear k01 k02 k04
  obtain ⟨u1, hu1⟩ : ∃ u1, u1 = (w1.alloc (.cells #[.bool (inS s 105), .int .i64 id, .bool (inS s 111), .int .i64 off, .bool true, .int .i64 code] 47)).drew := ⟨_, rfl⟩
  have U0 := Lib.hid (show u1.cell? ⟨w1.heap.size, 0, none⟩ = some (.bool (inS s 105)) by rw [hu1]; simp)
  have U1 := Lib.hid (show u1.cell? ⟨w1.heap.size, 1, none⟩ = some (.int .i64 id) by rw [hu1]; simp)
  have U2 := Lib.hid (show u1.cell? ⟨w1.heap.size, 2, none⟩ = some (.bool (inS s 111)) by rw [hu1]; simp)
  have U3 := Lib.hid (show u1.cell? ⟨w1.heap.size, 3, none⟩ = some (.int .i64 off) by rw [hu1]; simp)
  have U4 := Lib.hid (show u1.cell? ⟨w1.heap.size, 4, none⟩ = some (.bool true) by rw [hu1]; simp)
  have U5 := Lib.hid (show u1.cell? ⟨w1.heap.size, 5, none⟩ = some (.int .i64 code) by rw [hu1]; simp)
  have BU := Lib.hid (show Below w1.heap.size w1 u1 by rw [hu1]; exact ((Below.refl _ _).alloc (Nat.le_refl _) _).drew)
  rw [← hu1]
  have D2 := Lib.hid d2
  have D3 := Lib.hid d3
  have D5 := Lib.hid d5
  have D6 := Lib.hid d6
  have hwu : w1.heap.size < u1.heap.size := by have := World.block_lt_of_cell? u1 _ U0.out; exact this
  clear hu1 d0 d1 d2 d3 d4 d5 d6
  have HVR' := Lib.hid (HVR.out (by omega) (by omega))
  rw [HG.out, Bool.true_or] at HVR'
  go_wp2
  go_loopg [49] 3 (fun g i wr => ∃ k : Nat, k + g = 3 ∧ i = .int .i64 k ∧ Below u1.heap.size u1 wr ∧ Hid (0 < k → nbV (inS s 105) id = false) ∧ Hid (1 < k → nbV (inS s 111) off = false) ∧ Hid (2 < k → nbV true code = false))
  case atStart => exact ⟨0, rfl, rfl, Below.refl _ _, Lib.hid (fun h => absurd h (by omega)), Lib.hid (fun h => absurd h (by omega)), Lib.hid (fun h => absurd h (by omega))⟩
  case round =>
    obtain ⟨kk, hk3, rfl, hbw, N0, N1, N2⟩ := hrel
    have BW := Lib.hid hbw
    have hbs := hbw.size
    have BX := Lib.hid ((HB1.out.trans (BU.out.mono HB1.out.size)).trans (hbw.mono (Nat.le_trans HB1.out.size BU.out.size)))
    have hbx := BX.out.size
    clear hbw
    obtain rfl | rfl | rfl | rfl : kk = 0 ∨ kk = 1 ∨ kk = 2 ∨ kk = 3 := by omega
    · have c0 := (BW.out.cell (p := ⟨w1.heap.size, 0, none⟩) hwu).trans U0.out
      have c1 := (BW.out.cell (p := ⟨w1.heap.size, 1, none⟩) hwu).trans U1.out
      cases f1 : upB id 4611686018427387903
      · have hv := Lib.hid (show x = 6 by rw [HVR'.out, show nbV (inS s 105) id = true by unfold nbV; rw [f1]; rfl]; simp)
        go_wp2_with (go_at_call 19; refine (upto_any _ _ _).mono ?_; rintro e w' ⟨rfl, rfl⟩)
        go_ret
        exact ⟨by rw [hv.out]; rfl, BX.out.alloc hbx _⟩
      obtain ⟨b2, f2⟩ : ∃ b, (inS s 105) = b := ⟨_, rfl⟩
      have F2 := Lib.hid f2
      rw [f2] at c0
      clear f2
      cases b2
      · by_cases f3 : id = 0
        · have hN := Lib.hid (show nbV (inS s 105) id = false by unfold nbV; rw [f1, F2.out, f3]; rfl)
          have f1z : upB 0 4611686018427387903 = true := by decide
          rw [f3] at c1
          clear f1 f3
          go_wp2_with (go_at_call 19; refine (upto_any _ _ _).mono ?_; rintro e w' ⟨rfl, rfl⟩)
          go_roundg (gk - 1)
          case measure => omega
          case rel => exact ⟨1, by omega, rfl, BW.out.alloc hbs _, Lib.hid (fun _ => hN.out), Lib.hid (fun h => absurd h (by omega)), Lib.hid (fun h => absurd h (by omega))⟩
        · have g3 : (id == 0) = false := by simp [f3]
          have hv := Lib.hid (show x = 6 by rw [HVR'.out, show nbV (inS s 105) id = true by unfold nbV; rw [f1, F2.out, g3]; rfl]; simp)
          go_wp2_with (go_at_call 19; refine (upto_any _ _ _).mono ?_; rintro e w' ⟨rfl, rfl⟩)
          go_ret
          exact ⟨by rw [hv.out]; rfl, BX.out.alloc hbx _⟩
      · have hN := Lib.hid (show nbV (inS s 105) id = false by unfold nbV; rw [f1, F2.out]; rfl)
        go_wp2_with (go_at_call 19; refine (upto_any _ _ _).mono ?_; rintro e w' ⟨rfl, rfl⟩)
        go_roundg (gk - 1)
        case measure => omega
        case rel => exact ⟨1, by omega, rfl, BW.out.alloc hbs _, Lib.hid (fun _ => hN.out), Lib.hid (fun h => absurd h (by omega)), Lib.hid (fun h => absurd h (by omega))⟩
    · have c0 := (BW.out.cell (p := ⟨w1.heap.size, 2, none⟩) hwu).trans U2.out
      have c1 := (BW.out.cell (p := ⟨w1.heap.size, 3, none⟩) hwu).trans U3.out
      cases f1 : upB off 4611686018427387903
      · have hv := Lib.hid (show x = 6 by rw [HVR'.out, show nbV (inS s 111) off = true by unfold nbV; rw [f1]; rfl]; simp)
        go_wp2_with (go_at_call 19; refine (upto_any _ _ _).mono ?_; rintro e w' ⟨rfl, rfl⟩)
        go_ret
        exact ⟨by rw [hv.out]; rfl, BX.out.alloc hbx _⟩
      obtain ⟨b2, f2⟩ : ∃ b, (inS s 111) = b := ⟨_, rfl⟩
      have F2 := Lib.hid f2
      rw [f2] at c0
      clear f2
      cases b2
      · by_cases f3 : off = 0
        · have hN := Lib.hid (show nbV (inS s 111) off = false by unfold nbV; rw [f1, F2.out, f3]; rfl)
          have f1z : upB 0 4611686018427387903 = true := by decide
          rw [f3] at c1
          clear f1 f3
          go_wp2_with (go_at_call 19; refine (upto_any _ _ _).mono ?_; rintro e w' ⟨rfl, rfl⟩)
          go_roundg (gk - 1)
          case measure => omega
          case rel => exact ⟨2, by omega, rfl, BW.out.alloc hbs _, Lib.hid (fun _ => N0.out (by omega)), Lib.hid (fun _ => hN.out), Lib.hid (fun h => absurd h (by omega))⟩
        · have g3 : (off == 0) = false := by simp [f3]
          have hv := Lib.hid (show x = 6 by rw [HVR'.out, show nbV (inS s 111) off = true by unfold nbV; rw [f1, F2.out, g3]; rfl]; simp)
          go_wp2_with (go_at_call 19; refine (upto_any _ _ _).mono ?_; rintro e w' ⟨rfl, rfl⟩)
          go_ret
          exact ⟨by rw [hv.out]; rfl, BX.out.alloc hbx _⟩
      · have hN := Lib.hid (show nbV (inS s 111) off = false by unfold nbV; rw [f1, F2.out]; rfl)
        go_wp2_with (go_at_call 19; refine (upto_any _ _ _).mono ?_; rintro e w' ⟨rfl, rfl⟩)
        go_roundg (gk - 1)
        case measure => omega
        case rel => exact ⟨2, by omega, rfl, BW.out.alloc hbs _, Lib.hid (fun _ => N0.out (by omega)), Lib.hid (fun _ => hN.out), Lib.hid (fun h => absurd h (by omega))⟩
    · have c0 := (BW.out.cell (p := ⟨w1.heap.size, 4, none⟩) hwu).trans U4.out
      have c1 := (BW.out.cell (p := ⟨w1.heap.size, 5, none⟩) hwu).trans U5.out
      cases f1 : upB code 4611686018427387903
      · have hv := Lib.hid (show x = 6 by rw [HVR'.out, show nbV true code = true by unfold nbV; rw [f1]; rfl]; simp)
        go_wp2_with (go_at_call 19; refine (upto_any _ _ _).mono ?_; rintro e w' ⟨rfl, rfl⟩)
        go_ret
        exact ⟨by rw [hv.out]; rfl, BX.out.alloc hbx _⟩
      · have hN := Lib.hid (show nbV true code = false by unfold nbV; rw [f1]; rfl)
        go_wp2_with (go_at_call 19; refine (upto_any _ _ _).mono ?_; rintro e w' ⟨rfl, rfl⟩)
        go_roundg (gk - 1)
        case measure => omega
        case rel => exact ⟨3, by omega, rfl, BW.out.alloc hbs _, Lib.hid (fun _ => N0.out (by omega)), Lib.hid (fun _ => N1.out (by omega)), Lib.hid (fun _ => hN.out)⟩
    · obtain ⟨wq, hwq⟩ : ∃ wq, wq = wr := ⟨_, rfl⟩
      subst hwq
      have hu := Nat.le_trans HB1.out.size BU.out.size
      have hwu1 := Nat.lt_of_lt_of_le hww BU.out.size
      have e2 := (BW.out.cell (p := ⟨w.heap.size, 2, none⟩) hwu1).trans ((BU.out.cell (p := ⟨w.heap.size, 2, none⟩) hww).trans D2.out)
      have e3 := (BW.out.cell (p := ⟨w.heap.size, 3, none⟩) hwu1).trans ((BU.out.cell (p := ⟨w.heap.size, 3, none⟩) hww).trans D3.out)
      have e5 := (BW.out.cell (p := ⟨w.heap.size, 5, none⟩) hwu1).trans ((BU.out.cell (p := ⟨w.heap.size, 5, none⟩) hww).trans D5.out)
      have e6 := (BW.out.cell (p := ⟨w.heap.size, 6, none⟩) hwu1).trans ((BU.out.cell (p := ⟨w.heap.size, 6, none⟩) hww).trans D6.out)
      have hob : 0 ≤ off ∧ off ≤ 4611686018427387903 := by
        have := N1.out (by omega)
        unfold nbV upB at this
        simp at this
        omega
      obtain ⟨o0, o1⟩ := hob
      have HRW := Lib.hid ((HR1.out.on BU.out).on BW.out)
      have hwr : w.heap.size < wq.heap.size := Nat.lt_of_lt_of_le hww (Nat.le_trans BU.out.size hbs)
      have E3 := Lib.hid e3
      have E5 := Lib.hid e5
      have E6 := Lib.hid e6
      cases hd : inS s 100
      · skip
        have N2' := Lib.hid (HVR'.out)
        have HV3 := Lib.hid (show x = if ((decide (0 < rs.length) == inS s 114) && decide (downL rs) && !(decide (0 < data.length) && !inS s 100) && !(fin && !inS s 102)) = true then 0 else 3 by rw [HVR'.out, N0.out (by omega), N1.out (by omega), N2.out (by omega), hd]; rfl)
        clear N2' HVR' N0 N1 N2
        go_wp2_with (go_at_call 18; refine (HI.out _ _).mono ?_; rintro e w' ⟨rfl, rfl⟩)
        go_quiet ((go_at_call 18; exact Calls.quiet_of_same ((HI.out _ _).mono fun _ _ ⟨a, b⟩ => ⟨a, b.symm⟩)))
        go_wp2
        go_loopg [7, 89] rs.length (fun g v i wr => ∃ (k : Nat) (dk : Bool), k + g = rs.length ∧ i = .int .i64 k ∧ v = .bool dk ∧ Hid (dk = ((decide (0 < rs.length) == inS s 114) && decide (downL (rs.take k)))) ∧ Below wq.heap.size wq wr)
        case atStart => exact ⟨0, _, by omega, rfl, rfl, Lib.hid (by simp [downL, downFrom]), Go.below_drewN (Below.refl _ _) _⟩
        case round =>
          obtain ⟨k, dk, hk, rfl, rfl, HD, hb⟩ := hrel
          have HB2 := Lib.hid hb
          have hbw2 := hb.size
          have BX2 := Lib.hid (BX.out.trans (hb.mono BX.out.size))
          have p3 := (hb.cell (p := ⟨w.heap.size, 3, none⟩) hwr).trans E3.out
          have p5 := (hb.cell (p := ⟨w.heap.size, 5, none⟩) hwr).trans E5.out
          have p6 := (hb.cell (p := ⟨w.heap.size, 6, none⟩) hwr).trans E6.out
          clear hb
          by_cases hlt : k < rs.length
          · obtain ⟨b, off', hA, hbb, hc⟩ := (HRW.out.on HB2.out) (by omega)
            obtain ⟨c0, c1⟩ := hc k hlt
            have cp := fun h0 : 0 < k => (hc (k - 1) (by omega)).1
            have HS := Lib.hid (down_step rs k hlt)
            obtain ⟨⟨lo, hi⟩, hp⟩ : ∃ p, rs.getD k (0, 0) = p := ⟨_, rfl⟩
            rw [hp] at c0 c1 HS
            simp only at c0 c1
            subst hA
            clear hc hp
            cases dk
            · have H1 := Lib.hid (show false = ((decide (0 < rs.length) == inS s 114) && decide (downL (rs.take (k + 1)))) by
                have := HD.out
                cases hz : (decide (0 < rs.length) == inS s 114)
                · rfl
                · rw [hz] at this
                  rw [decide_eq_false fun hx => ?_]
                  · rfl
                  · have := decide_eq_true (HS.out.1 hx).1
                    simp_all)
              clear cp
              go_wp2
              have q0 := Ext.cell (W := wr.alloc (.cells #[.int .i64 lo, .int .i64 hi] 51)) (p := ⟨wr.heap.size, 0, none⟩) (v := .int .i64 lo) (by simp)
              have q1 := Ext.cell (W := wr.alloc (.cells #[.int .i64 lo, .int .i64 hi] 51)) (p := ⟨wr.heap.size, 1, none⟩) (v := .int .i64 hi) (by simp)
              refine wp_region_ext (by kernel_rfl) (by kernel_rfl) ?_
              repeat (go_big_quiet_step ((go_at_call 20; exact Ext.call (isrange_any _ _ _))))
              refine wpQuiet_nil ?_
              intro w3 hb3
              clear q0 q1
              have HB3 := Lib.hid ((HB2.out.alloc hbw2 _).trans (hb3.mono (by simp; omega)))
              clear hb3
              go_wp2
              go_roundg (gk - 1)
              case measure => omega
              case rel => exact ⟨k + 1, _, by omega, by go_num, rfl, H1, HB3.out⟩
            · have hz := Lib.hid (show (decide (0 < rs.length) == inS s 114) = true by have := HD.out; cases hz : (decide (0 < rs.length) == inS s 114); rw [hz] at this; simp at this; rfl)
              have hdl := Lib.hid (show downL (rs.take k) by have := HD.out; rw [hz.out] at this; simpa using this.symm)
              cases hr : decide (okR (lo, hi))
              · have H1 := Lib.hid (show false = ((decide (0 < rs.length) == inS s 114) && decide (downL (rs.take (k + 1)))) by
                  rw [show decide (downL (rs.take (k + 1))) = false from decide_eq_false fun hx => of_decide_eq_false hr (HS.out.1 hx).2.1]; simp)
                clear cp
                go_wp2
                have q0 := Ext.cell (W := wr.alloc (.cells #[.int .i64 lo, .int .i64 hi] 51)) (p := ⟨wr.heap.size, 0, none⟩) (v := .int .i64 lo) (by simp)
                have q1 := Ext.cell (W := wr.alloc (.cells #[.int .i64 lo, .int .i64 hi] 51)) (p := ⟨wr.heap.size, 1, none⟩) (v := .int .i64 hi) (by simp)
                refine wp_region_ext (by kernel_rfl) (by kernel_rfl) ?_
                repeat (go_big_quiet_step ((go_at_call 20; exact Ext.call (isrange_any _ _ _))))
                refine wpQuiet_nil ?_
                intro w3 hb3
                clear q0 q1
                have HB3 := Lib.hid ((HB2.out.alloc hbw2 _).trans (hb3.mono (by simp; omega)))
                clear hb3
                go_wp2
                go_roundg (gk - 1)
                case measure => omega
                case rel => exact ⟨k + 1, _, by omega, by go_num, rfl, H1, HB3.out⟩
              · have HK := Lib.hid (of_decide_eq_true hr)
                by_cases h0 : k = 0
                · have H1 := Lib.hid (show true = ((decide (0 < rs.length) == inS s 114) && decide (downL (rs.take (k + 1)))) by
                    rw [hz.out, decide_eq_true (HS.out.2 ⟨hdl.out, HK.out, fun h => absurd h (by omega)⟩)]; rfl)
                  clear cp
                  have gk0 : ((k : Int) == 0) = true := by simp [h0]
                  clear h0
                  go_wp2
                  have q0 := Ext.cell (W := wr.alloc (.cells #[.int .i64 lo, .int .i64 hi] 51)) (p := ⟨wr.heap.size, 0, none⟩) (v := .int .i64 lo) (by simp)
                  have q1 := Ext.cell (W := wr.alloc (.cells #[.int .i64 lo, .int .i64 hi] 51)) (p := ⟨wr.heap.size, 1, none⟩) (v := .int .i64 hi) (by simp)
                  refine wp_region_ext (by kernel_rfl) (by kernel_rfl) ?_
                  repeat (go_big_quiet_step ((go_at_call 20; exact Ext.call (isrange_any _ _ _))))
                  refine wpQuiet_nil ?_
                  intro w3 hb3
                  clear q0 q1
                  have HB3 := Lib.hid ((HB2.out.alloc hbw2 _).trans (hb3.mono (by simp; omega)))
                  clear hb3
                  go_wp2
                  go_roundg (gk - 1)
                  case measure => omega
                  case rel => exact ⟨k + 1, _, by omega, by go_num, rfl, H1, HB3.out⟩
                · have cq := cp (by omega)
                  obtain ⟨⟨plo, phi⟩, hq⟩ : ∃ p, rs.getD (k - 1) (0, 0) = p := ⟨_, rfl⟩
                  rw [hq] at cq HS
                  simp only at cq HS
                  have r2 : hi ≤ 4611686018427387903 := HK.out.2.2
                  have r3 : 0 ≤ hi := Int.le_trans HK.out.1 HK.out.2.1
                  clear cp hq
                  have gk0 : ((k : Int) == 0) = false := by simp; omega
                  have i0 : (0 : Int) ≤ (k : Int) - 1 := by omega
                  have i1 : (k : Int) - 1 < (rs.length : Int) := by omega
                  have i2 : ((k : Int) - 1).toNat = k - 1 := by omega
                  by_cases hg : hi + 1 < plo
                  · have H1 := Lib.hid (show true = ((decide (0 < rs.length) == inS s 114) && decide (downL (rs.take (k + 1)))) by
                      rw [hz.out, decide_eq_true (HS.out.2 ⟨hdl.out, HK.out, fun h => by omega⟩)]; rfl)
                    have g3 : decide (hi + 1 < plo) = true := decide_eq_true hg
                    go_wp2
                    have q0 := Ext.cell (W := wr.alloc (.cells #[.int .i64 lo, .int .i64 hi] 51)) (p := ⟨wr.heap.size, 0, none⟩) (v := .int .i64 lo) (by simp)
                    have q1 := Ext.cell (W := wr.alloc (.cells #[.int .i64 lo, .int .i64 hi] 51)) (p := ⟨wr.heap.size, 1, none⟩) (v := .int .i64 hi) (by simp)
                    have q2 := Ext.cell (W := wr.alloc (.cells #[.int .i64 lo, .int .i64 hi] 51)) (p := ⟨b, off' + (k - 1) * 2, none⟩) (v := .int .i64 plo) (by rw [World.cell?_alloc_lt _ _ _ (by simp; omega)]; exact cq)
                    have q3 := Ext.cell (W := wr.alloc (.cells #[.int .i64 lo, .int .i64 hi] 51)) (p := ⟨w.heap.size, 5, none⟩) (v := .slice (some ⟨b, off', none⟩) rs.length c) (by rw [World.cell?_alloc_lt _ _ _ (by simp; omega)]; exact p5)
                    refine wp_region_ext (by kernel_rfl) (by kernel_rfl) ?_
                    repeat (go_big_quiet_step ((go_at_call 20; exact Ext.call (isrange_any _ _ _))))
                    refine wpQuiet_nil ?_
                    intro w3 hb3
                    clear q0 q1
                    have HB3 := Lib.hid ((HB2.out.alloc hbw2 _).trans (hb3.mono (by simp; omega)))
                    clear hb3
                    clear q2 q3
                    go_wp2
                    go_roundg (gk - 1)
                    case measure => omega
                    case rel => exact ⟨k + 1, _, by omega, by go_num, rfl, H1, HB3.out⟩
                  · have H1 := Lib.hid (show false = ((decide (0 < rs.length) == inS s 114) && decide (downL (rs.take (k + 1)))) by
                      rw [show decide (downL (rs.take (k + 1))) = false from decide_eq_false fun hx => hg (by have := (HS.out.1 hx).2.2 (by omega); omega)]; simp)
                    have g3 : decide (hi + 1 < plo) = false := decide_eq_false hg
                    go_wp2
                    have q0 := Ext.cell (W := wr.alloc (.cells #[.int .i64 lo, .int .i64 hi] 51)) (p := ⟨wr.heap.size, 0, none⟩) (v := .int .i64 lo) (by simp)
                    have q1 := Ext.cell (W := wr.alloc (.cells #[.int .i64 lo, .int .i64 hi] 51)) (p := ⟨wr.heap.size, 1, none⟩) (v := .int .i64 hi) (by simp)
                    have q2 := Ext.cell (W := wr.alloc (.cells #[.int .i64 lo, .int .i64 hi] 51)) (p := ⟨b, off' + (k - 1) * 2, none⟩) (v := .int .i64 plo) (by rw [World.cell?_alloc_lt _ _ _ (by simp; omega)]; exact cq)
                    have q3 := Ext.cell (W := wr.alloc (.cells #[.int .i64 lo, .int .i64 hi] 51)) (p := ⟨w.heap.size, 5, none⟩) (v := .slice (some ⟨b, off', none⟩) rs.length c) (by rw [World.cell?_alloc_lt _ _ _ (by simp; omega)]; exact p5)
                    refine wp_region_ext (by kernel_rfl) (by kernel_rfl) ?_
                    repeat (go_big_quiet_step ((go_at_call 20; exact Ext.call (isrange_any _ _ _))))
                    refine wpQuiet_nil ?_
                    intro w3 hb3
                    clear q0 q1
                    have HB3 := Lib.hid ((HB2.out.alloc hbw2 _).trans (hb3.mono (by simp; omega)))
                    clear hb3
                    clear q2 q3
                    go_wp2
                    go_roundg (gk - 1)
                    case measure => omega
                    case rel => exact ⟨k + 1, _, by omega, by go_num, rfl, H1, HB3.out⟩
          · have hkl : k = rs.length := by omega
            have HD' := Lib.hid (show dk = ((decide (0 < rs.length) == inS s 114) && decide (downL rs)) by have := HD.out; rwa [List.take_of_length_le (by omega)] at this)
            rw [← HD'.out] at HV3
            clear HD HD'
            cases dk
            · have hv := Lib.hid (show x = 3 from HV3.out)
              go_wp2_with (go_at_call 18; refine (HI.out _ _).mono ?_; rintro e w' ⟨rfl, rfl⟩)
              go_ret
              exact ⟨by rw [hv.out]; rfl, BX2.out⟩
            by_cases n0 : 0 < data.length
            · have hv := Lib.hid (show x = 3 by rw [HV3.out, hd]; simp [n0])
              go_wp2_with (go_at_call 18; refine (HI.out _ _).mono ?_; rintro e w' ⟨rfl, rfl⟩)
              go_ret
              exact ⟨by rw [hv.out]; rfl, BX2.out⟩
            · have n0' : data.length = 0 := by omega
              cases fin
              · have hv := Lib.hid (show x = 0 by rw [HV3.out]; simp [n0'])
                go_wp2_with (go_at_call 18; refine (HI.out _ _).mono ?_; rintro e w' ⟨rfl, rfl⟩)
                go_ret
                exact ⟨by rw [hv.out]; rfl, BX2.out⟩
              · cases h2 : inS s 102
                · have hv := Lib.hid (show x = 3 by rw [HV3.out, h2]; simp)
                  go_wp2_with (go_at_call 18; refine (HI.out _ _).mono ?_; rintro e w' ⟨rfl, rfl⟩)
                  go_ret
                  exact ⟨by rw [hv.out]; rfl, BX2.out⟩
                · have hv := Lib.hid (show x = 0 by rw [HV3.out, h2]; simp [n0'])
                  go_wp2_with (go_at_call 18; refine (HI.out _ _).mono ?_; rintro e w' ⟨rfl, rfl⟩)
                  go_ret
                  exact ⟨by rw [hv.out]; rfl, BX2.out⟩
      · by_cases hof : 4611686018427387903 < off + (data.length : Int)
        · have hv := Lib.hid (show x = 6 by rw [HVR'.out, N0.out (by omega), N1.out (by omega), N2.out (by omega), hd, decide_eq_true hof]; rfl)
          go_wp2_with (go_at_call 18; refine (HI.out _ _).mono ?_; rintro e w' ⟨rfl, rfl⟩)
          go_ret
          exact ⟨by rw [hv.out]; rfl, BX.out⟩
        · skip
          have N2' := Lib.hid (HVR'.out)
          have hbig : decide (4611686018427387903 < off + (data.length : Int)) = false := decide_eq_false hof
          have HV3 := Lib.hid (show x = if ((decide (0 < rs.length) == inS s 114) && decide (downL rs) && !(decide (0 < data.length) && !inS s 100) && !(fin && !inS s 102)) = true then 0 else 3 by rw [HVR'.out, N0.out (by omega), N1.out (by omega), N2.out (by omega), hd, hbig]; rfl)
          clear hbig
          clear N2' HVR' N0 N1 N2
          go_wp2_with (go_at_call 18; refine (HI.out _ _).mono ?_; rintro e w' ⟨rfl, rfl⟩)
          go_quiet ((go_at_call 18; exact Calls.quiet_of_same ((HI.out _ _).mono fun _ _ ⟨a, b⟩ => ⟨a, b.symm⟩)))
          go_wp2
          go_loopg [7, 89] rs.length (fun g v i wr => ∃ (k : Nat) (dk : Bool), k + g = rs.length ∧ i = .int .i64 k ∧ v = .bool dk ∧ Hid (dk = ((decide (0 < rs.length) == inS s 114) && decide (downL (rs.take k)))) ∧ Below wq.heap.size wq wr)
          case atStart => exact ⟨0, _, by omega, rfl, rfl, Lib.hid (by simp [downL, downFrom]), Go.below_drewN (Below.refl _ _) _⟩
          case round =>
            obtain ⟨k, dk, hk, rfl, rfl, HD, hb⟩ := hrel
            have HB2 := Lib.hid hb
            have hbw2 := hb.size
            have BX2 := Lib.hid (BX.out.trans (hb.mono BX.out.size))
            have p3 := (hb.cell (p := ⟨w.heap.size, 3, none⟩) hwr).trans E3.out
            have p5 := (hb.cell (p := ⟨w.heap.size, 5, none⟩) hwr).trans E5.out
            have p6 := (hb.cell (p := ⟨w.heap.size, 6, none⟩) hwr).trans E6.out
            clear hb
            by_cases hlt : k < rs.length
            · obtain ⟨b, off', hA, hbb, hc⟩ := (HRW.out.on HB2.out) (by omega)
              obtain ⟨c0, c1⟩ := hc k hlt
              have cp := fun h0 : 0 < k => (hc (k - 1) (by omega)).1
              have HS := Lib.hid (down_step rs k hlt)
              obtain ⟨⟨lo, hi⟩, hp⟩ : ∃ p, rs.getD k (0, 0) = p := ⟨_, rfl⟩
              rw [hp] at c0 c1 HS
              simp only at c0 c1
              subst hA
              clear hc hp
              cases dk
              · have H1 := Lib.hid (show false = ((decide (0 < rs.length) == inS s 114) && decide (downL (rs.take (k + 1)))) by
                  have := HD.out
                  cases hz : (decide (0 < rs.length) == inS s 114)
                  · rfl
                  · rw [hz] at this
                    rw [decide_eq_false fun hx => ?_]
                    · rfl
                    · have := decide_eq_true (HS.out.1 hx).1
                      simp_all)
                clear cp
                go_wp2
                have q0 := Ext.cell (W := wr.alloc (.cells #[.int .i64 lo, .int .i64 hi] 51)) (p := ⟨wr.heap.size, 0, none⟩) (v := .int .i64 lo) (by simp)
                have q1 := Ext.cell (W := wr.alloc (.cells #[.int .i64 lo, .int .i64 hi] 51)) (p := ⟨wr.heap.size, 1, none⟩) (v := .int .i64 hi) (by simp)
                refine wp_region_ext (by kernel_rfl) (by kernel_rfl) ?_
                repeat (go_big_quiet_step ((go_at_call 20; exact Ext.call (isrange_any _ _ _))))
                refine wpQuiet_nil ?_
                intro w3 hb3
                clear q0 q1
                have HB3 := Lib.hid ((HB2.out.alloc hbw2 _).trans (hb3.mono (by simp; omega)))
                clear hb3
                go_wp2
                go_roundg (gk - 1)
                case measure => omega
                case rel => exact ⟨k + 1, _, by omega, by go_num, rfl, H1, HB3.out⟩
              · have hz := Lib.hid (show (decide (0 < rs.length) == inS s 114) = true by have := HD.out; cases hz : (decide (0 < rs.length) == inS s 114); rw [hz] at this; simp at this; rfl)
                have hdl := Lib.hid (show downL (rs.take k) by have := HD.out; rw [hz.out] at this; simpa using this.symm)
                cases hr : decide (okR (lo, hi))
                · have H1 := Lib.hid (show false = ((decide (0 < rs.length) == inS s 114) && decide (downL (rs.take (k + 1)))) by
                    rw [show decide (downL (rs.take (k + 1))) = false from decide_eq_false fun hx => of_decide_eq_false hr (HS.out.1 hx).2.1]; simp)
                  clear cp
                  go_wp2
                  have q0 := Ext.cell (W := wr.alloc (.cells #[.int .i64 lo, .int .i64 hi] 51)) (p := ⟨wr.heap.size, 0, none⟩) (v := .int .i64 lo) (by simp)
                  have q1 := Ext.cell (W := wr.alloc (.cells #[.int .i64 lo, .int .i64 hi] 51)) (p := ⟨wr.heap.size, 1, none⟩) (v := .int .i64 hi) (by simp)
                  refine wp_region_ext (by kernel_rfl) (by kernel_rfl) ?_
                  repeat (go_big_quiet_step ((go_at_call 20; exact Ext.call (isrange_any _ _ _))))
                  refine wpQuiet_nil ?_
                  intro w3 hb3
                  clear q0 q1
                  have HB3 := Lib.hid ((HB2.out.alloc hbw2 _).trans (hb3.mono (by simp; omega)))
                  clear hb3
                  go_wp2
                  go_roundg (gk - 1)
                  case measure => omega
                  case rel => exact ⟨k + 1, _, by omega, by go_num, rfl, H1, HB3.out⟩
                · have HK := Lib.hid (of_decide_eq_true hr)
                  by_cases h0 : k = 0
                  · have H1 := Lib.hid (show true = ((decide (0 < rs.length) == inS s 114) && decide (downL (rs.take (k + 1)))) by
                      rw [hz.out, decide_eq_true (HS.out.2 ⟨hdl.out, HK.out, fun h => absurd h (by omega)⟩)]; rfl)
                    clear cp
                    have gk0 : ((k : Int) == 0) = true := by simp [h0]
                    clear h0
                    go_wp2
                    have q0 := Ext.cell (W := wr.alloc (.cells #[.int .i64 lo, .int .i64 hi] 51)) (p := ⟨wr.heap.size, 0, none⟩) (v := .int .i64 lo) (by simp)
                    have q1 := Ext.cell (W := wr.alloc (.cells #[.int .i64 lo, .int .i64 hi] 51)) (p := ⟨wr.heap.size, 1, none⟩) (v := .int .i64 hi) (by simp)
                    refine wp_region_ext (by kernel_rfl) (by kernel_rfl) ?_
                    repeat (go_big_quiet_step ((go_at_call 20; exact Ext.call (isrange_any _ _ _))))
                    refine wpQuiet_nil ?_
                    intro w3 hb3
                    clear q0 q1
                    have HB3 := Lib.hid ((HB2.out.alloc hbw2 _).trans (hb3.mono (by simp; omega)))
                    clear hb3
                    go_wp2
                    go_roundg (gk - 1)
                    case measure => omega
                    case rel => exact ⟨k + 1, _, by omega, by go_num, rfl, H1, HB3.out⟩
                  · have cq := cp (by omega)
                    obtain ⟨⟨plo, phi⟩, hq⟩ : ∃ p, rs.getD (k - 1) (0, 0) = p := ⟨_, rfl⟩
                    rw [hq] at cq HS
                    simp only at cq HS
                    have r2 : hi ≤ 4611686018427387903 := HK.out.2.2
                    have r3 : 0 ≤ hi := Int.le_trans HK.out.1 HK.out.2.1
                    clear cp hq
                    have gk0 : ((k : Int) == 0) = false := by simp; omega
                    have i0 : (0 : Int) ≤ (k : Int) - 1 := by omega
                    have i1 : (k : Int) - 1 < (rs.length : Int) := by omega
                    have i2 : ((k : Int) - 1).toNat = k - 1 := by omega
                    by_cases hg : hi + 1 < plo
                    · have H1 := Lib.hid (show true = ((decide (0 < rs.length) == inS s 114) && decide (downL (rs.take (k + 1)))) by
                        rw [hz.out, decide_eq_true (HS.out.2 ⟨hdl.out, HK.out, fun h => by omega⟩)]; rfl)
                      have g3 : decide (hi + 1 < plo) = true := decide_eq_true hg
                      go_wp2
                      have q0 := Ext.cell (W := wr.alloc (.cells #[.int .i64 lo, .int .i64 hi] 51)) (p := ⟨wr.heap.size, 0, none⟩) (v := .int .i64 lo) (by simp)
                      have q1 := Ext.cell (W := wr.alloc (.cells #[.int .i64 lo, .int .i64 hi] 51)) (p := ⟨wr.heap.size, 1, none⟩) (v := .int .i64 hi) (by simp)
                      have q2 := Ext.cell (W := wr.alloc (.cells #[.int .i64 lo, .int .i64 hi] 51)) (p := ⟨b, off' + (k - 1) * 2, none⟩) (v := .int .i64 plo) (by rw [World.cell?_alloc_lt _ _ _ (by simp; omega)]; exact cq)
                      have q3 := Ext.cell (W := wr.alloc (.cells #[.int .i64 lo, .int .i64 hi] 51)) (p := ⟨w.heap.size, 5, none⟩) (v := .slice (some ⟨b, off', none⟩) rs.length c) (by rw [World.cell?_alloc_lt _ _ _ (by simp; omega)]; exact p5)
                      refine wp_region_ext (by kernel_rfl) (by kernel_rfl) ?_
                      repeat (go_big_quiet_step ((go_at_call 20; exact Ext.call (isrange_any _ _ _))))
                      refine wpQuiet_nil ?_
                      intro w3 hb3
                      clear q0 q1
                      have HB3 := Lib.hid ((HB2.out.alloc hbw2 _).trans (hb3.mono (by simp; omega)))
                      clear hb3
                      clear q2 q3
                      go_wp2
                      go_roundg (gk - 1)
                      case measure => omega
                      case rel => exact ⟨k + 1, _, by omega, by go_num, rfl, H1, HB3.out⟩
                    · have H1 := Lib.hid (show false = ((decide (0 < rs.length) == inS s 114) && decide (downL (rs.take (k + 1)))) by
                        rw [show decide (downL (rs.take (k + 1))) = false from decide_eq_false fun hx => hg (by have := (HS.out.1 hx).2.2 (by omega); omega)]; simp)
                      have g3 : decide (hi + 1 < plo) = false := decide_eq_false hg
                      go_wp2
                      have q0 := Ext.cell (W := wr.alloc (.cells #[.int .i64 lo, .int .i64 hi] 51)) (p := ⟨wr.heap.size, 0, none⟩) (v := .int .i64 lo) (by simp)
                      have q1 := Ext.cell (W := wr.alloc (.cells #[.int .i64 lo, .int .i64 hi] 51)) (p := ⟨wr.heap.size, 1, none⟩) (v := .int .i64 hi) (by simp)
                      have q2 := Ext.cell (W := wr.alloc (.cells #[.int .i64 lo, .int .i64 hi] 51)) (p := ⟨b, off' + (k - 1) * 2, none⟩) (v := .int .i64 plo) (by rw [World.cell?_alloc_lt _ _ _ (by simp; omega)]; exact cq)
                      have q3 := Ext.cell (W := wr.alloc (.cells #[.int .i64 lo, .int .i64 hi] 51)) (p := ⟨w.heap.size, 5, none⟩) (v := .slice (some ⟨b, off', none⟩) rs.length c) (by rw [World.cell?_alloc_lt _ _ _ (by simp; omega)]; exact p5)
                      refine wp_region_ext (by kernel_rfl) (by kernel_rfl) ?_
                      repeat (go_big_quiet_step ((go_at_call 20; exact Ext.call (isrange_any _ _ _))))
                      refine wpQuiet_nil ?_
                      intro w3 hb3
                      clear q0 q1
                      have HB3 := Lib.hid ((HB2.out.alloc hbw2 _).trans (hb3.mono (by simp; omega)))
                      clear hb3
                      clear q2 q3
                      go_wp2
                      go_roundg (gk - 1)
                      case measure => omega
                      case rel => exact ⟨k + 1, _, by omega, by go_num, rfl, H1, HB3.out⟩
            · have hkl : k = rs.length := by omega
              have HD' := Lib.hid (show dk = ((decide (0 < rs.length) == inS s 114) && decide (downL rs)) by have := HD.out; rwa [List.take_of_length_le (by omega)] at this)
              rw [← HD'.out] at HV3
              clear HD HD'
              cases dk
              · have hv := Lib.hid (show x = 3 from HV3.out)
                go_wp2_with (go_at_call 18; refine (HI.out _ _).mono ?_; rintro e w' ⟨rfl, rfl⟩)
                go_ret
                exact ⟨by rw [hv.out]; rfl, BX2.out⟩
              by_cases n0 : 0 < data.length
              · skip
                cases fin
                · have hv := Lib.hid (show x = 0 by rw [HV3.out]; simp [hd])
                  go_wp2_with (go_at_call 18; refine (HI.out _ _).mono ?_; rintro e w' ⟨rfl, rfl⟩)
                  go_ret
                  exact ⟨by rw [hv.out]; rfl, BX2.out⟩
                · cases h2 : inS s 102
                  · have hv := Lib.hid (show x = 3 by rw [HV3.out, h2]; simp)
                    go_wp2_with (go_at_call 18; refine (HI.out _ _).mono ?_; rintro e w' ⟨rfl, rfl⟩)
                    go_ret
                    exact ⟨by rw [hv.out]; rfl, BX2.out⟩
                  · have hv := Lib.hid (show x = 0 by rw [HV3.out, h2]; simp [hd])
                    go_wp2_with (go_at_call 18; refine (HI.out _ _).mono ?_; rintro e w' ⟨rfl, rfl⟩)
                    go_ret
                    exact ⟨by rw [hv.out]; rfl, BX2.out⟩
              · have n0' : data.length = 0 := by omega
                cases fin
                · have hv := Lib.hid (show x = 0 by rw [HV3.out]; simp [n0'])
                  go_wp2_with (go_at_call 18; refine (HI.out _ _).mono ?_; rintro e w' ⟨rfl, rfl⟩)
                  go_ret
                  exact ⟨by rw [hv.out]; rfl, BX2.out⟩
                · cases h2 : inS s 102
                  · have hv := Lib.hid (show x = 3 by rw [HV3.out, h2]; simp)
                    go_wp2_with (go_at_call 18; refine (HI.out _ _).mono ?_; rintro e w' ⟨rfl, rfl⟩)
                    go_ret
                    exact ⟨by rw [hv.out]; rfl, BX2.out⟩
                  · have hv := Lib.hid (show x = 0 by rw [HV3.out, h2]; simp [n0'])
                    go_wp2_with (go_at_call 18; refine (HI.out _ _).mono ?_; rintro e w' ⟨rfl, rfl⟩)
                    go_ret
                    exact ⟨by rw [hv.out]; rfl, BX2.out⟩
end Go.Proofs.Ytjeocggocloigaa
