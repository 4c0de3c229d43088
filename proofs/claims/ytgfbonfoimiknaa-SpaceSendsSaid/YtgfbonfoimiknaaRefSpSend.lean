/- The document's answers on spaces: SpaceSent. -/
import Derived.Test.YtgfbonfoimiknaaRefSpOver
namespace Go.Proofs.Ytgfbonfoimiknaa
set_option linter.unusedVariables false
open Go.RowKit P

set_option maxRecDepth 100000 in
set_option maxHeartbeats 2000000 in
theorem refSpSend_any (v vl : Value) (s : Sp) (now size : Int) (l : List Fr) (w : World) (hv : SpVal w w.heap.size v s) (hw : SpWf s) (hl : FsSl w w.heap.size vl l) : Calls Try.prog 34 #[v, .int .i64 now, .int .i64 size, vl] w (SpSendR (sendSp s now size l) w) := by
  have HCK := Lib.hid (fun w' (hb : Below w.heap.size w w') => refSpFault_any v s w' ((hv.below hb).more hb.size) hw)
  have HL := Lib.hid hl
  obtain ⟨Al, cl, _, rfl, _, _, _, _⟩ := hl.ex
  obtain ⟨a, h, kk, rfl, ha, hh, hk⟩ := hv.ex
  have HH := Lib.hid hh
  have HK := Lib.hid hk
  obtain ⟨Aa, ca, csa, rfl, _, _, hrw, hp⟩ := ha.ex
  have HRW := Lib.hid hrw
  have HP := Lib.hid hp
  have HLC := Lib.hid hp.len
  obtain ⟨Ah, ch, rfl, _, _, _⟩ := hh.ex
  obtain ⟨Ak, ck, rfl, _, _, _⟩ := hk.ex
  obtain ⟨g0, g1, g2⟩ := twoX w #[.int .i64 s.next, .slice Aa s.sent.length ca, .int .i64 s.top, .slice Ah s.heard.length ch, .slice Ak s.skip.length ck] #[.int .i64 0, .slice none 0 0, .int .i64 0, .slice none 0 0, .slice none 0 0] 48 48
  have F0 := Lib.hid g0
  have Z0 := Lib.hid g1
  have B0 := Lib.hid g2
  clear g0 g1 g2
  clear hv ha hh hk hrw hp hl
  obtain ⟨i0, hi0, hz0, hz1, hz2⟩ := info_partsE infoP4
  have HI := Lib.hid hi0
  have HZ := Lib.hid hz0
  have HZ1 := Lib.hid hz1
  have HZ2 := Lib.hid hz2
  clear hi0 hz0 hz1 hz2
  obtain ⟨q0, q1, q2, q3, q4⟩ := sp5 F0.out
  go_enter Try.func34, Try.ntmps34
  go_wp2_with fail
  refine (HCK.out _ B0.out).mono ?_
  rintro e w1 ⟨rfl, b1⟩
  have B1 := Lib.hid (B0.out.trans (b1.mono B0.out.size))
  have F1 := Lib.hid ((b1.block _ (lt_of_block F0.out)).trans F0.out)
  have Z1 := Lib.hid ((b1.block _ (lt_of_block Z0.out)).trans Z0.out)
  clear b1
  clear q0 q1 q2 q3 q4
  obtain ⟨q0, q1, q2, q3, q4⟩ := sp5 F1.out
  obtain ⟨z0, z1, z2, z3, z4⟩ := sp5 Z1.out
  have zf := fun i => bk_frz Z1.out i
  rcases faultSp_two s with f | f
  · by_cases c1 : 0 ≤ now ∧ now ≤ 1099511627776
    · have d1 : upB2 now 1099511627776 = true := upB2_yes c1.1 c1.2
      by_cases c2 : 0 ≤ size ∧ size ≤ 400
      · have d2 : upB2 size 400 = true := upB2_yes c2.1 c2.2
        rw [f]
        go_wp2_with fail
        refine (upTo_any _ _ _).mono ?_
        rintro e w9 ⟨rfl, rfl⟩
        rw [d1]
        go_wp2_with fail
        refine (upTo_any _ _ _).mono ?_
        rintro e w9 ⟨rfl, rfl⟩
        rw [d2]
        have hs24 := ((faultSp_iff s).1 f).2.2.1
        have hnx := ((faultSp_iff s).1 f).1
        by_cases c3 : s.sent.length = 24
        · have d3 : decide ((24 : Int) ≤ (s.sent.length : Int)) = true := by simp; omega
          have HR := Lib.hid (show sendSp s now size l = (sp0, 0, 8) from by unfold sendSp; rw [if_neg (by simp [f]), if_neg (by simp only [Decidable.not_not]; exact ⟨c1, c2⟩), if_pos (by omega)])
          clear c3
          go_wp2_with fail
          obtain ⟨RY, gp⟩ := sp5_put Z1.out (.int .i64 0) (.slice none 0 0) (.int .i64 0) (.slice none 0 0) (.slice none 0 0)
          obtain ⟨y0, y1, y2, y3, y4⟩ := sp5 RY
          refine bodyPost_ret (by simp [results, Try.results34, go_sem, y0, y1, y2, y3, y4]; try rfl) rfl ?_
          rw [HR.out]
          exact ⟨gr_from B1.out B1.out.size (Nat.le_succ _) gp, _, rfl, SpVal.nil _ _⟩
        · have d3 : decide ((24 : Int) ≤ (s.sent.length : Int)) = false := by simp; omega
          by_cases c4 : s.next = 4611686018427387903
          · have d4 : decide (4611686018427387903 ≤ s.next) = true := by simp [c4]
            have HR := Lib.hid (show sendSp s now size l = (sp0, 0, 8) from by unfold sendSp; rw [if_neg (by simp [f]), if_neg (by simp only [Decidable.not_not]; exact ⟨c1, c2⟩), if_pos (by omega)])
            clear c4
            go_wp2_with fail
            obtain ⟨RY, gp⟩ := sp5_put Z1.out (.int .i64 0) (.slice none 0 0) (.int .i64 0) (.slice none 0 0) (.slice none 0 0)
            obtain ⟨y0, y1, y2, y3, y4⟩ := sp5 RY
            refine bodyPost_ret (by simp [results, Try.results34, go_sem, y0, y1, y2, y3, y4]; try rfl) rfl ?_
            rw [HR.out]
            exact ⟨gr_from B1.out B1.out.size (Nat.le_succ _) gp, _, rfl, SpVal.nil _ _⟩
          · have d4 : decide (4611686018427387903 ≤ s.next) = false := by simp; omega
            have ok := (faultSp_iff s).1 f
            have HR := Lib.hid (show sendSp s now size l = ({ s with next := s.next + 1, sent := s.sent ++ [⟨s.next, now, size, l⟩] }, s.next, 0) from by unfold sendSp; rw [if_neg (by simp [f]), if_neg (by simp only [Decidable.not_not]; exact ⟨c1, c2⟩), if_neg (by omega)])
            have HS24 := Lib.hid (show s.sent.length ≤ 24 from ok.2.2.1)
            have hnb := ok.1
            have hz1 := lt_of_block Z1.out
            obtain ⟨pc, hpc⟩ : ∃ pc : Cells 4, pc = ⟨[.int .i64 s.next, .int .i64 now, .int .i64 size, .slice Al l.length cl], rfl, by simp [Value.oneCell']⟩ := ⟨_, rfl⟩
            have HPC := Lib.hid hpc
            have E0 := Lib.hid (OwnE.empty (E := pc4) w1 w1.heap.size 77 w1.heap.size rfl (Nat.le_refl _))
            have BE0 := Lib.hid ((Below.refl w1.heap.size w1).alloc (Nat.le_refl _) (.cells #[] 77))
            have G1 := Lib.hid ((BE0.out.block _ (lt_of_block F1.out)).trans F1.out)
            clear hpc z0 z1 z2 z3 z4 zf ok
            obtain ⟨j0, j1, j2, j3, j4⟩ := sp5 G1.out
            go_wp2_with (first
              | (at_builtin
                 refine wpList_appE _ rfl (.tmp 40) (.tmp 42) _ rfl w1.heap.size 77 i0 _ 48 Try.underlying45 HI.out HZ.out HZ1.out HZ2.out rfl (by decide) (.slice (some ⟨w1.heap.size, 0, none⟩) 0 0) [] rfl E0.out w.heap.size Aa s.sent.length ca csa rfl (HRW.out.below (B1.out.trans (BE0.out.mono B1.out.size))) HLC.out (by have := HS24.out; simp; omega) (Nat.le_trans (Nat.le_refl _) BE0.out.size) ?_
                 intro v1 u1 own1 gr1
                 have O1 := Lib.hid own1
                 have BU1 := Lib.hid (BE0.out.grown gr1 BE0.out.size (fun q hq => (OwnE.lt E0.out q hq).1))
                 obtain ⟨A1, c1_, hv1, _, _, _⟩ := own1.slice
                 have hl1 : ([] ++ csa).length = s.sent.length := by rw [List.nil_append]; exact HLC.out
                 rw [hl1] at hv1
                 subst hv1
                 have NB := Lib.hid (RowE.one (E := pc4) u1 pc #[.int .i64 s.next, .int .i64 now, .int .i64 size, .slice Al l.length cl] 77 u1.heap.size rfl (by rw [HPC.out]; rfl))
                 have BN := Lib.hid ((Below.refl u1.heap.size u1).alloc (Nat.le_refl _) (.cells #[.int .i64 s.next, .int .i64 now, .int .i64 size, .slice Al l.length cl] 77))
                 clear own1 gr1 hl1)
              | (at_builtin
                 refine wpList_appE _ rfl (.tmp 43) (.tmp 49) _ rfl w1.heap.size 77 i0 _ 48 Try.underlying45 HI.out HZ.out HZ1.out HZ2.out rfl (by decide) (.slice A1 s.sent.length c1_) ([] ++ csa) rfl (OwnE.later O1.out BN.out) _ (some ⟨u1.heap.size, 0, none⟩) 1 1 [pc] rfl NB.out rfl (by have := HS24.out; have := HLC.out; rw [List.nil_append]; omega) (Nat.le_trans BU1.out.size BN.out.size) ?_
                 intro v2 w9 own2 gr2
                 have BV := (BU1.out.trans (BN.out.mono BU1.out.size)).grown gr2 (Nat.le_trans BU1.out.size BN.out.size) (fun q hq => (OwnE.lt (OwnE.later O1.out BN.out) q hq).1)
                 have B9 := Lib.hid (B1.out.trans (BV.mono B1.out.size))
                 have F9 := Lib.hid ((BV.block _ (lt_of_block F1.out)).trans F1.out)
                 have Z9 := Lib.hid ((BV.block _ (lt_of_block Z1.out)).trans Z1.out)
                 obtain ⟨A9, c9, hv2, _, _, _⟩ := own2.slice
                 obtain ⟨n9, hn9⟩ : ∃ x, (([] ++ csa) ++ [pc]).length = x := ⟨_, rfl⟩
                 rw [hn9] at hv2
                 subst hv2
                 have O9 := Lib.hid own2
                 clear own2 gr2 hn9 BV q0 q1 q2 q3 q4 j0 j1 j2 j3 j4
                 obtain ⟨q0, q1, q2, q3, q4⟩ := sp5 F9.out
                 have qf := fun i => bk_frz F9.out i
                 obtain ⟨W10, hW10⟩ : ∃ x, w9.setCell ⟨w.heap.size, 1, none⟩ (.slice A9 n9 c9) = x := ⟨_, rfl⟩
                 have f10 := (sp5_set F9.out (.slice A9 n9 c9)).2.1
                 have g10 := gr_set w9 w.heap.size 1 (.slice A9 n9 c9)
                 rw [hW10] at f10 g10
                 have F10 := Lib.hid f10
                 have Z10 := Lib.hid ((g10.block _ (lt_of_block Z9.out) (by simp)).trans Z9.out)
                 have B10 := Lib.hid (gr_from B9.out B9.out.size (Nat.le_refl _) g10)
                 have O10 := Lib.hid (OwnE.kept O9.out g10 (fun e => by have := (OwnE.lt O9.out _ e).1; omega))
                 clear f10 g10
                 obtain ⟨p0, p1, p2, p3, p4⟩ := sp5 F10.out
                 have pf := fun i => bk_frz F10.out i
                 obtain ⟨W11, hW11⟩ : ∃ x, W10.setCell ⟨w.heap.size, 0, none⟩ (.int .i64 (s.next + 1)) = x := ⟨_, rfl⟩
                 have f11 := (sp5_set F10.out (.int .i64 (s.next + 1))).1
                 have g11 := gr_set W10 w.heap.size 0 (.int .i64 (s.next + 1))
                 rw [hW11] at f11 g11
                 have F11 := Lib.hid f11
                 have Z11 := Lib.hid ((g11.block _ (lt_of_block Z10.out) (by simp)).trans Z10.out)
                 have B11 := Lib.hid (gr_from B10.out B10.out.size (Nat.le_refl _) g11)
                 have O11 := Lib.hid (OwnE.kept O10.out g11 (fun e => by have := (OwnE.lt O10.out _ e).1; omega))
                 clear f11 g11
                 obtain ⟨r0, r1, r2, r3, r4⟩ := sp5 F11.out
                 obtain ⟨z0, z1, z2, z3, z4⟩ := sp5 Z11.out
                 have zf := fun i => bk_frz Z11.out i))
            obtain ⟨RY, gp⟩ := sp5_put Z11.out (.int .i64 (s.next + 1)) (.slice A9 n9 c9) (.int .i64 s.top) (.slice Ah s.heard.length ch) (.slice Ak s.skip.length ck)
            obtain ⟨y0, y1, y2, y3, y4⟩ := sp5 RY
            refine bodyPost_ret (by simp [results, Try.results34, go_sem, y0, y1, y2, y3, y4]; try rfl) rfl ?_
            rw [HR.out]
            have BE := gr_from B11.out B11.out.size (Nat.le_succ _) gp
            have O12 := OwnE.kept O11.out gp (fun e => by have := (OwnE.lt O11.out _ e).1; omega)
            refine ⟨BE, _, rfl, _, _, _, rfl, pl_fin O12 (All2.app (by rw [List.nil_append]; exact HP.out.imp fun _ _ q => (q.below BE).more BE.size) ⟨?_, trivial⟩), (HH.out.below BE).more BE.size, HK.out.on BE⟩
            exact ⟨.slice Al l.length cl, by rw [HPC.out], HL.out.on BE⟩
      · have d2 : upB2 size 400 = false := upB2_no (by omega)
        have HR := Lib.hid (show sendSp s now size l = (sp0, 0, 6) from by unfold sendSp; rw [if_neg (by simp [f]), if_pos (fun q => c2 q.2)])
        rw [f]
        go_wp2_with fail
        refine (upTo_any _ _ _).mono ?_
        rintro e w9 ⟨rfl, rfl⟩
        rw [d1]
        go_wp2_with fail
        refine (upTo_any _ _ _).mono ?_
        rintro e w9 ⟨rfl, rfl⟩
        rw [d2]
        go_wp2_with fail
        obtain ⟨RY, gp⟩ := sp5_put Z1.out (.int .i64 0) (.slice none 0 0) (.int .i64 0) (.slice none 0 0) (.slice none 0 0)
        obtain ⟨y0, y1, y2, y3, y4⟩ := sp5 RY
        refine bodyPost_ret (by simp [results, Try.results34, go_sem, y0, y1, y2, y3, y4]; try rfl) rfl ?_
        rw [HR.out]
        exact ⟨gr_from B1.out B1.out.size (Nat.le_succ _) gp, _, rfl, SpVal.nil _ _⟩
    · have d1 : upB2 now 1099511627776 = false := upB2_no (by omega)
      have HR := Lib.hid (show sendSp s now size l = (sp0, 0, 6) from by unfold sendSp; rw [if_neg (by simp [f]), if_pos (fun q => c1 q.1)])
      rw [f]
      go_wp2_with fail
      refine (upTo_any _ _ _).mono ?_
      rintro e w9 ⟨rfl, rfl⟩
      rw [d1]
      go_wp2_with fail
      obtain ⟨RY, gp⟩ := sp5_put Z1.out (.int .i64 0) (.slice none 0 0) (.int .i64 0) (.slice none 0 0) (.slice none 0 0)
      obtain ⟨y0, y1, y2, y3, y4⟩ := sp5 RY
      refine bodyPost_ret (by simp [results, Try.results34, go_sem, y0, y1, y2, y3, y4]; try rfl) rfl ?_
      rw [HR.out]
      exact ⟨gr_from B1.out B1.out.size (Nat.le_succ _) gp, _, rfl, SpVal.nil _ _⟩
  · have HR := Lib.hid (show sendSp s now size l = (sp0, 0, 9) from by unfold sendSp; rw [f]; rfl)
    rw [f]
    go_wp2_with fail
    obtain ⟨RY, gp⟩ := sp5_put Z1.out (.int .i64 0) (.slice none 0 0) (.int .i64 0) (.slice none 0 0) (.slice none 0 0)
    obtain ⟨y0, y1, y2, y3, y4⟩ := sp5 RY
    refine bodyPost_ret (by simp [results, Try.results34, go_sem, y0, y1, y2, y3, y4]; try rfl) rfl ?_
    rw [HR.out]
    exact ⟨gr_from B1.out B1.out.size (Nat.le_succ _) gp, _, rfl, SpVal.nil _ _⟩
end Go.Proofs.Ytgfbonfoimiknaa
