/- The document's Check of a space. -/
import Derived.Test.YtgfbonfoimiknaaSpFlt
import Derived.Deep.CutRange
namespace Go.Proofs.Ytgfbonfoimiknaa
set_option linter.unusedVariables false
open Go.RowKit P

theorem pc4C {w : World} {b : Nat} {a0 a1 a2 a3 : Value} {T : TypeId} (h : w.heap[b]? = some (.cells #[a0, a1, a2, a3] T (0, 0))) :
    w.cell? ⟨b, 0, none⟩ = some a0 ∧ w.cell? ⟨b, 1, none⟩ = some a1 ∧ w.cell? ⟨b, 2, none⟩ = some a2 ∧ w.cell? ⟨b, 3, none⟩ = some a3 := ⟨bk_cell h 0, bk_cell h 1, bk_cell h 2, bk_cell h 3⟩
set_option maxRecDepth 100000 in
set_option maxHeartbeats 4000000 in
theorem refSpFault_any : SpChk Try.prog 28 := by
  intro v s w hv hw
  obtain ⟨a, h, kk, rfl, ha, hh, hk⟩ := hv.ex
  obtain ⟨Aa, ca, csa, rfl, ha1, ha2, ha3, ha4⟩ := ha.ex
  obtain ⟨Ah, ch, rfl, hh1, hh2, hh3⟩ := hh.ex
  obtain ⟨Ak, ck, rfl, hk1, hk2, hk3⟩ := hk.ex
  have F00 := Lib.hid (heap_alloc_new w (.cells #[.int .i64 s.next, .slice Aa s.sent.length ca, .int .i64 s.top, .slice Ah s.heard.length ch, .slice Ak s.skip.length ck] 48))
  have B00 := Lib.hid ((Below.refl w.heap.size w).alloc (Nat.le_refl _) (.cells #[.int .i64 s.next, .slice Aa s.sent.length ca, .int .i64 s.top, .slice Ah s.heard.length ch, .slice Ak s.skip.length ck] 48))
  obtain ⟨W1, hW1⟩ : ∃ x, w.alloc (.cells #[.int .i64 s.next, .slice Aa s.sent.length ca, .int .i64 s.top, .slice Ah s.heard.length ch, .slice Ak s.skip.length ck] 48) = x := ⟨_, rfl⟩
  rw [hW1] at F00 B00
  have hhl := hw.hl
  have hkl := hw.kl
  have hsl := hw.sl
  have HR := Lib.hid (ha3.on B00.out)
  have HP := Lib.hid (ha4.imp fun _ _ q => (q.below B00.out).more B00.out.size)
  have HKR := Lib.hid (hk3.on B00.out)
  have HRC := Lib.hid (fun w' (hb : Below W1.heap.size W1 w') => fault_any Ah s.heard.length ch s.heard w' ((hh3.on B00.out).on hb) rfl (by omega))
  have HIS := Lib.hid (fun x w' (hb : Below W1.heap.size W1 w') => isIn_any Ak s.skip.length ck s.skip x w' ((hk3.on B00.out).on hb) rfl (by omega))
  obtain ⟨o, ho⟩ : ∃ x, oB s = x := ⟨_, rfl⟩
  have HNX := Lib.hid (fun (e : o = true) => ((oB_iff s).1 (ho.trans e)).1)
  obtain ⟨nx, hnx⟩ : ∃ x, s.next = x := ⟨_, rfl⟩
  obtain ⟨tp, htp⟩ : ∃ x, s.top = x := ⟨_, rfl⟩
  obtain ⟨na, hna⟩ : ∃ x, s.sent.length = x := ⟨_, rfl⟩
  obtain ⟨nh, hnh⟩ : ∃ x, s.heard.length = x := ⟨_, rfl⟩
  obtain ⟨nk, hnk⟩ : ∃ x, s.skip.length = x := ⟨_, rfl⟩
  obtain ⟨cv, hcv⟩ : ∃ x, ckV s.heard = x := ⟨_, rfl⟩
  have HCV := Lib.hid (show cv = 0 ∨ cv = 3 from by
    rw [← hcv]
    unfold ckV
    by_cases q : okL s.heard
    · simp [q]
    · simp [q])
  obtain ⟨b0, hb0⟩ : ∃ b, b = upB2 nx 4611686018427387903 := ⟨_, rfl⟩
  obtain ⟨b1, hb1⟩ : ∃ b, b = decide (-1 ≤ tp) := ⟨_, rfl⟩
  obtain ⟨b2, hb2⟩ : ∃ b, b = decide (tp < nx) := ⟨_, rfl⟩
  obtain ⟨b3, hb3⟩ : ∃ b, b = decide ((na : Int) ≤ 24) := ⟨_, rfl⟩
  obtain ⟨b4, hb4⟩ : ∃ b, b = decide ((nh : Int) ≤ 6) := ⟨_, rfl⟩
  obtain ⟨b5, hb5⟩ : ∃ b, b = decide ((nk : Int) ≤ 6) := ⟨_, rfl⟩
  obtain ⟨b6, hb6⟩ : ∃ b, b = decide (cv = 0) := ⟨_, rfl⟩
  obtain ⟨b7, hb7⟩ : ∃ b, b = decide (tp ∈ s.skip) := ⟨_, rfl⟩
  have HOB := Lib.hid (show o = (b0 && (b1 && (b2 && (b3 && (b4 && (b5 && (b6 && !b7))))))) from by rw [← ho]; unfold oB; rw [hnx, htp, hna, hnh, hnk, hcv, hb0, hb1, hb2, hb3, hb4, hb5, hb6, hb7])
  have HU0 := Lib.hid (fun w' => by have := upTo_any nx 4611686018427387903 w'; rw [← hb0] at this; exact this)
  have HIT := Lib.hid (fun w' (hb : Below W1.heap.size W1 w') => by have := HIS.out tp w' hb; rw [← hb7, hnk] at this; exact this)
  have HB1 := Lib.hid hb1
  have HB2 := Lib.hid hb2
  have HB3 := Lib.hid hb3
  have HB4 := Lib.hid hb4
  have HB5 := Lib.hid hb5
  have HB6 := Lib.hid hb6
  have HFL := Lib.hid (fltB_fault s)
  have HNXE := Lib.hid hnx
  have HNA := Lib.hid hna
  have HNK := Lib.hid hnk
  have HOO := Lib.hid ho
  rw [hnx] at HNX F00 hW1 ⊢
  rw [htp] at F00 hW1 ⊢
  rw [hna] at F00 hW1 hsl ⊢
  rw [hnh] at F00 hW1 HRC hhl ⊢
  rw [hnk] at F00 hW1 HIS hkl ⊢
  unfold CheckPost at HRC
  rw [hcv] at HRC
  clear hv ha hh hk hw ha1 ha2 ha3 ha4 hh1 hh2 hh3 hk1 hk2 hk3 hnx htp hna hnh hnk hcv hb0 hb1 hb2 hb3 hb4 hb5 hb6 hb7 ho
  have F0 := F00
  have B0 := B00
  clear F00 B00
  go_enter Try.func28, Try.ntmps28
  go_upto_region 1 with fail
  try rw [hW1]
  clear hW1
  obtain ⟨q0, q1, q2, q3, q4⟩ := sp5 F0.out
  go_cut [3] from 8 to 54 (fun u wx => u = .bool o ∧ Hid (Below W1.heap.size W1 wx))
  case first =>
    cases b0 with
    | false =>
      go_wp2_with fail
      refine (HU0.out _).mono ?_
      rintro e w2 ⟨rfl, rfl⟩
      have HOV := Lib.hid (show Value.bool o = .bool false from by rw [HOB.out]; rfl)
      go_wp2_with fail
      go_meet
      exact ⟨HOV.out.symm, Lib.hid (Below.refl _ _)⟩
    | true =>
      go_wp2_with fail
      refine (HU0.out _).mono ?_
      rintro e w2 ⟨rfl, rfl⟩
      by_cases e1 : decide (-1 ≤ tp) = true
      · have j1 := HB1.out.trans e1
        subst j1
        by_cases e2 : decide (tp < nx) = true
        · have j2 := HB2.out.trans e2
          subst j2
          by_cases e3 : decide ((na : Int) ≤ 24) = true
          · have j3 := HB3.out.trans e3
            subst j3
            by_cases e4 : decide ((nh : Int) ≤ 6) = true
            · have j4 := HB4.out.trans e4
              subst j4
              by_cases e5 : decide ((nk : Int) ≤ 6) = true
              · have j5 := HB5.out.trans e5
                subst j5
                go_wp2_with fail
                refine (HRC.out _ (Below.refl _ _)).mono ?_
                rintro e w3 ⟨rfl, b3⟩
                have F3 := Lib.hid ((b3.block _ (lt_of_block F0.out)).trans F0.out)
                have C3 := Lib.hid b3
                clear b3
                clear q0 q1 q2 q3 q4
                obtain ⟨q0, q1, q2, q3, q4⟩ := sp5 F3.out
                rcases HCV.out with hv0 | hv3
                · have j6 := HB6.out.trans (show decide (cv = 0) = true from by simp [hv0])
                  subst j6
                  subst hv0
                  go_wp2_with fail
                  refine (HIT.out _ C3.out).mono ?_
                  rintro e w4 ⟨rfl, rfl⟩
                  cases b7 with
                  | true =>
                    have HOV := Lib.hid (show Value.bool o = .bool false from by rw [HOB.out]; rfl)
                    go_wp2_with fail
                    go_meet
                    exact ⟨HOV.out.symm, C3⟩
                  | false =>
                    have HOV := Lib.hid (show Value.bool o = .bool true from by rw [HOB.out]; rfl)
                    go_wp2_with fail
                    go_meet
                    exact ⟨HOV.out.symm, C3⟩
                · have j6 := HB6.out.trans (show decide (cv = 0) = false from by simp [hv3])
                  subst j6
                  subst hv3
                  have HOV := Lib.hid (show Value.bool o = .bool false from by rw [HOB.out]; rfl)
                  go_wp2_with fail
                  go_meet
                  exact ⟨HOV.out.symm, C3⟩
              · have e5 := Bool.eq_false_iff.2 e5
                have j5 := HB5.out.trans e5
                subst j5
                have HOV := Lib.hid (show Value.bool o = .bool false from by rw [HOB.out]; rfl)
                go_wp2_with fail
                go_meet
                exact ⟨HOV.out.symm, Lib.hid (Below.refl _ _)⟩
            · have e4 := Bool.eq_false_iff.2 e4
              have j4 := HB4.out.trans e4
              subst j4
              have HOV := Lib.hid (show Value.bool o = .bool false from by rw [HOB.out]; rfl)
              go_wp2_with fail
              go_meet
              exact ⟨HOV.out.symm, Lib.hid (Below.refl _ _)⟩
          · have e3 := Bool.eq_false_iff.2 e3
            have j3 := HB3.out.trans e3
            subst j3
            have HOV := Lib.hid (show Value.bool o = .bool false from by rw [HOB.out]; rfl)
            go_wp2_with fail
            go_meet
            exact ⟨HOV.out.symm, Lib.hid (Below.refl _ _)⟩
        · have e2 := Bool.eq_false_iff.2 e2
          have j2 := HB2.out.trans e2
          subst j2
          have HOV := Lib.hid (show Value.bool o = .bool false from by rw [HOB.out]; rfl)
          go_wp2_with fail
          go_meet
          exact ⟨HOV.out.symm, Lib.hid (Below.refl _ _)⟩
      · have e1 := Bool.eq_false_iff.2 e1
        have j1 := HB1.out.trans e1
        subst j1
        have HOV := Lib.hid (show Value.bool o = .bool false from by rw [HOB.out]; rfl)
        go_wp2_with fail
        go_meet
        exact ⟨HOV.out.symm, Lib.hid (Below.refl _ _)⟩
  case rest =>
  obtain ⟨rfl, HB0⟩ := hcut
  obtain ⟨W2, hW2⟩ : ∃ x, x = wc := ⟨_, rfl⟩
  subst wc
  have F2 := Lib.hid ((HB0.out.block _ (lt_of_block F0.out)).trans F0.out)
  clear q0 q1 q2 q3 q4
  obtain ⟨q0, q1, q2, q3, q4⟩ := sp5 F2.out
  go_wp2_with fail
  go_loopg [3, 58] na (fun gq okv iv wr => ∃ (k : Nat), iv = .int .i64 k ∧ k + gq = na ∧ okv = .bool (allB o (itB s) k) ∧ Hid (Below W1.heap.size W1 wr))
  case atStart => exact ⟨0, rfl, by omega, rfl, HB0⟩
  case round =>
    clear q0   q1   q2   q3   q4
    obtain ⟨k, rfl, hk, hokv, BW⟩ := hrel
    obtain ⟨X, hX⟩ : ∃ X, X = wr := ⟨_, rfl⟩
    subst hX
    by_cases hlt : k < na
    · have hkp : k < s.sent.length := by rw [HNA.out]; exact hlt
      obtain ⟨b, off, v, hAa, hb, hF, c0, c1, c2, c3⟩ := pc_cells (HR.out.below BW.out) (HP.out.imp fun _ _ q => q.below BW.out) k hkp
      subst hAa
      obtain ⟨Af, cf, cf2, hvf, hf1, hf2, hf3, hf4⟩ := hF.ex
      obtain ⟨nf, hnf⟩ : ∃ n, (s.sent[k]).frs.length = n := ⟨_, rfl⟩
      rw [hnf] at hvf
      subst hvf
      have hsk : s.sent[k] = sent_ s k := by unfold sent_; rw [List.getD_eq_getElem?_getD, List.getElem?_eq_getElem hkp]; rfl
      rw [hsk] at c0 c1 c2
      obtain ⟨num, hnum⟩ : ∃ x, (sent_ s k).num = x := ⟨_, rfl⟩
      obtain ⟨time, htime⟩ : ∃ x, (sent_ s k).time = x := ⟨_, rfl⟩
      obtain ⟨size, hsize⟩ : ∃ x, (sent_ s k).size = x := ⟨_, rfl⟩
      rw [hnum] at c0
      rw [htime] at c1
      rw [hsize] at c2
      clear hnf hF hf1 hf2 hf3 hf4 cf2 hsk
      obtain ⟨okk, hok⟩ : ∃ x, allB o (itB s) k = x := ⟨_, rfl⟩
      rw [hok] at hokv
      subst hokv
      have HOK := Lib.hid hok
      have HN0 := Lib.hid (fun (e : okk = true) => HNX.out (((allB_iff _ _ _).1 (hok.trans e)).1))
      obtain ⟨b1, hb1⟩ : ∃ x, upB2 num (nx - 1) = x := ⟨_, rfl⟩
      obtain ⟨b2, hb2⟩ : ∃ x, upB2 time 1099511627776 = x := ⟨_, rfl⟩
      obtain ⟨b3, hb3⟩ : ∃ x, upB2 size 400 = x := ⟨_, rfl⟩
      obtain ⟨b4, hb4⟩ : ∃ x, decide (num ∈ s.skip) = x := ⟨_, rfl⟩
      have HIB := Lib.hid (show itB s k = (b1 && (b2 && (b3 && (!b4 && (decide (k = 0) || decide ((sent_ s (k - 1)).num < num)))))) from by unfold itB; rw [hnum, htime, hsize, HNXE.out, hb1, hb2, hb3, hb4])
      have BX := Lib.hid (BW.out.alloc BW.out.size (.cells #[.int .i64 num, .int .i64 time, .int .i64 size, .slice Af nf cf] 77))
      have HU1 : Hid (∀ x : Ext (X.alloc (.cells #[.int .i64 num, .int .i64 time, .int .i64 size, .slice Af nf cf] 77)), Calls Try.prog 79 #[.int .i64 num, .int .i64 (nx - 1)] x.w fun e w' => e = .returned (.bool b1) ∧ x.w = w') := Lib.hid (fun x => by have := upTo_any num (nx - 1) x.w; rwa [hb1] at this)
      have HU2 : Hid (∀ x : Ext (X.alloc (.cells #[.int .i64 num, .int .i64 time, .int .i64 size, .slice Af nf cf] 77)), Calls Try.prog 79 #[.int .i64 time, .int .i64 1099511627776] x.w fun e w' => e = .returned (.bool b2) ∧ x.w = w') := Lib.hid (fun x => by have := upTo_any time 1099511627776 x.w; rwa [hb2] at this)
      have HU3 : Hid (∀ x : Ext (X.alloc (.cells #[.int .i64 num, .int .i64 time, .int .i64 size, .slice Af nf cf] 77)), Calls Try.prog 79 #[.int .i64 size, .int .i64 400] x.w fun e w' => e = .returned (.bool b3) ∧ x.w = w') := Lib.hid (fun x => by have := upTo_any size 400 x.w; rwa [hb3] at this)
      have HI4 : Hid (∀ x : Ext (X.alloc (.cells #[.int .i64 num, .int .i64 time, .int .i64 size, .slice Af nf cf] 77)), Calls Try.prog 81 #[.slice Ak nk ck, .int .i64 num] x.w fun e w' => e = .returned (.bool b4) ∧ x.w = w') := Lib.hid (fun x => by have := HIS.out num x.w (BX.out.trans (x.h.mono BX.out.size)); rwa [hb4] at this)
      have HPV := Lib.hid (fun j (e : k = j + 1) => show ∃ pv, (X.alloc (.cells #[.int .i64 num, .int .i64 time, .int .i64 size, .slice Af nf cf] 77)).cell? ⟨b, off + j * 4, none⟩ = some (.int .i64 pv) ∧ pv = (sent_ s j).num from by
        have hjp : j < s.sent.length := by omega
        obtain ⟨b', off', v', hA', _, _, e0, _⟩ := pc_cells (HR.out.below BX.out) (HP.out.imp fun _ _ q => q.below BX.out) j hjp
        cases hA'
        refine ⟨_, e0, ?_⟩
        unfold sent_
        rw [List.getD_eq_getElem?_getD, List.getElem?_eq_getElem hjp]
        rfl)
      have F4 := Lib.hid ((BX.out.block _ (lt_of_block F0.out)).trans F0.out)
      have V4 := Lib.hid (heap_alloc_new X (.cells #[.int .i64 num, .int .i64 time, .int .i64 size, .slice Af nf cf] 77))
      have hki : (k : Int) < (na : Int) := by omega
      go_upto_region 5 with fail
      clear c0 c1 c2 c3 hnum htime hsize hb1 hb2 hb3 hb4 hok
      obtain ⟨q0, q1, q2, q3, q4⟩ := sp5 F4.out
      obtain ⟨v0, v1, v2, v3⟩ := pc4C V4.out
      have d0 := Ext.cell q0
      have d1 := Ext.cell q1
      have d2 := Ext.cell q2
      have d3 := Ext.cell q3
      have d4 := Ext.cell q4
      have d5 := Ext.cell v0
      have d6 := Ext.cell v1
      have d7 := Ext.cell v2
      have d8 := Ext.cell v3
      clear q0 q1 q2 q3 q4 v0 v1 v2 v3
      cases okk with
      | false =>
        refine wp_region_ext (by kernel_rfl) (by kernel_rfl) ?_
        repeat (go_big_quiet_step (fail))
        refine wpQuiet_nil ?_
        intro w9 hb9
        have HB9 := Lib.hid (BX.out.trans (hb9.mono BX.out.size))
        clear hb9
        go_wp2_with fail
        go_roundg (gk - 1)
        case measure => omega
        case rel => exact ⟨k + 1, by first | rfl | go_num, by omega, by show Value.bool false = .bool (allB o (itB s) k && itB s k); rw [HOK.out, HIB.out]; rfl, HB9⟩
      | true =>
        have hn0 := HN0.out rfl
        have hwr : IntKind.i64.wrap (nx - 1) = nx - 1 := by rw [IntKind.wrap_i64]; omega
        cases b1 with
        | false =>
          refine wp_region_ext (by kernel_rfl) (by kernel_rfl) ?_
          repeat (go_big_quiet_step ((go_at_call 79; exact Ext.call_same (HU1.out _))))
          refine wpQuiet_nil ?_
          intro w9 hb9
          have HB9 := Lib.hid (BX.out.trans (hb9.mono BX.out.size))
          clear hb9
          go_wp2_with fail
          go_roundg (gk - 1)
          case measure => omega
          case rel => exact ⟨k + 1, by first | rfl | go_num, by omega, by show Value.bool false = .bool (allB o (itB s) k && itB s k); rw [HOK.out, HIB.out]; rfl, HB9⟩
        | true =>
          cases b2 with
          | false =>
            refine wp_region_ext (by kernel_rfl) (by kernel_rfl) ?_
            iterate 8 (go_big_quiet_step ((go_at_call 79; exact Ext.call_same (HU1.out _))))
            repeat (go_big_quiet_step ((go_at_call 79; exact Ext.call_same (HU2.out _))))
            refine wpQuiet_nil ?_
            intro w9 hb9
            have HB9 := Lib.hid (BX.out.trans (hb9.mono BX.out.size))
            clear hb9
            go_wp2_with fail
            go_roundg (gk - 1)
            case measure => omega
            case rel => exact ⟨k + 1, by first | rfl | go_num, by omega, by show Value.bool false = .bool (allB o (itB s) k && itB s k); rw [HOK.out, HIB.out]; rfl, HB9⟩
          | true =>
            cases b3 with
            | false =>
              refine wp_region_ext (by kernel_rfl) (by kernel_rfl) ?_
              iterate 8 (go_big_quiet_step ((go_at_call 79; exact Ext.call_same (HU1.out _))))
              iterate 5 (go_big_quiet_step ((go_at_call 79; exact Ext.call_same (HU2.out _))))
              repeat (go_big_quiet_step ((go_at_call 79; exact Ext.call_same (HU3.out _))))
              refine wpQuiet_nil ?_
              intro w9 hb9
              have HB9 := Lib.hid (BX.out.trans (hb9.mono BX.out.size))
              clear hb9
              go_wp2_with fail
              go_roundg (gk - 1)
              case measure => omega
              case rel => exact ⟨k + 1, by first | rfl | go_num, by omega, by show Value.bool false = .bool (allB o (itB s) k && itB s k); rw [HOK.out, HIB.out]; rfl, HB9⟩
            | true =>
              cases b4 with
              | true =>
                refine wp_region_ext (by kernel_rfl) (by kernel_rfl) ?_
                iterate 8 (go_big_quiet_step ((go_at_call 79; exact Ext.call_same (HU1.out _))))
                iterate 5 (go_big_quiet_step ((go_at_call 79; exact Ext.call_same (HU2.out _))))
                iterate 5 (go_big_quiet_step ((go_at_call 79; exact Ext.call_same (HU3.out _))))
                repeat (go_big_quiet_step ((go_at_call 81; exact Ext.call_same (HI4.out _))))
                refine wpQuiet_nil ?_
                intro w9 hb9
                have HB9 := Lib.hid (BX.out.trans (hb9.mono BX.out.size))
                clear hb9
                go_wp2_with fail
                go_roundg (gk - 1)
                case measure => omega
                case rel => exact ⟨k + 1, by first | rfl | go_num, by omega, by show Value.bool false = .bool (allB o (itB s) k && itB s k); rw [HOK.out, HIB.out]; rfl, HB9⟩
              | false =>
                rcases k with _ | j
                · have HIB := Lib.hid (show itB s 0 = true from by rw [HIB.out]; rfl)
                  refine wp_region_ext (by kernel_rfl) (by kernel_rfl) ?_
                  iterate 8 (go_big_quiet_step ((go_at_call 79; exact Ext.call_same (HU1.out _))))
                  iterate 5 (go_big_quiet_step ((go_at_call 79; exact Ext.call_same (HU2.out _))))
                  iterate 5 (go_big_quiet_step ((go_at_call 79; exact Ext.call_same (HU3.out _))))
                  repeat (go_big_quiet_step ((go_at_call 81; exact Ext.call_same (HI4.out _))))
                  refine wpQuiet_nil ?_
                  intro w9 hb9
                  have HB9 := Lib.hid (BX.out.trans (hb9.mono BX.out.size))
                  clear hb9
                  go_wp2_with fail
                  go_roundg (gk - 1)
                  case measure => omega
                  case rel => exact ⟨0 + 1, by first | rfl | go_num, by omega, by show Value.bool true = .bool (allB o (itB s) 0 && itB s 0); rw [HOK.out, HIB.out]; rfl, HB9⟩
                · obtain ⟨pv, c0, HPR⟩ := HPV.out j rfl
                  have d9 := Ext.cell (W := X.alloc (.cells #[.int .i64 num, .int .i64 time, .int .i64 size, .slice Af nf cf] 77)) c0
                  have hz : (((j : Int) + 1) == 0) = false := by simp; omega
                  have hj1 : IntKind.i64.wrap ((j : Int) + 1 - 1) = j := by rw [IntKind.wrap_i64]; omega
                  have hjn : (j : Int) < (na : Int) := by omega
                  have HIB := Lib.hid (show itB s (j + 1) = decide (pv < num) from by rw [HIB.out, HPR]; simp)
                  clear HPR
                  obtain ⟨lt, hlt9⟩ : ∃ b, decide (pv < num) = b := ⟨_, rfl⟩
                  rw [hlt9] at HIB
                  refine wp_region_ext (by kernel_rfl) (by kernel_rfl) ?_
                  iterate 8 (go_big_quiet_step ((go_at_call 79; exact Ext.call_same (HU1.out _))))
                  iterate 5 (go_big_quiet_step ((go_at_call 79; exact Ext.call_same (HU2.out _))))
                  iterate 5 (go_big_quiet_step ((go_at_call 79; exact Ext.call_same (HU3.out _))))
                  repeat (go_big_quiet_step ((go_at_call 81; exact Ext.call_same (HI4.out _))))
                  refine wpQuiet_nil ?_
                  intro w9 hb9
                  have HB9 := Lib.hid (BX.out.trans (hb9.mono BX.out.size))
                  clear hb9
                  go_wp2_with fail
                  go_roundg (gk - 1)
                  case measure => omega
                  case rel => exact ⟨j + 1 + 1, by first | rfl | go_num, by omega, by show Value.bool lt = .bool (allB o (itB s) (j + 1) && itB s (j + 1)); rw [HOK.out, HIB.out]; simp, HB9⟩
    · have hkn : k = na := by omega
      subst k
      obtain ⟨o2, ho2⟩ : ∃ x, allB o (itB s) na = x := ⟨_, rfl⟩
      rw [ho2] at hokv
      subst hokv
      have HO2 := Lib.hid ho2
      have BX := BW
      have FX := Lib.hid ((BW.out.block _ (lt_of_block F0.out)).trans F0.out)
      clear ho2
      obtain ⟨q0, q1, q2, q3, q4⟩ := sp5 FX.out
      go_wp2_with fail
      go_loopg [3, 110] nk (fun gq okv iv wr => ∃ (k : Nat), iv = .int .i64 k ∧ k + gq = nk ∧ okv = .bool (allB o2 (skpB s) k) ∧ Hid (Below W1.heap.size W1 wr))
      case atStart => exact ⟨0, rfl, by omega, rfl, BX⟩
      case round =>
        clear q0 q1 q2 q3 q4
        obtain ⟨k, rfl, hk, hokv, BW⟩ := hrel
        obtain ⟨X, hX⟩ : ∃ X, X = wr := ⟨_, rfl⟩
        subst hX
        by_cases hlt : k < nk
        · have hkz : k < s.skip.length := by rw [HNK.out]; exact hlt
          obtain ⟨b, off, hAk, hb, hc⟩ := (HKR.out.below BW.out) (by omega)
          subst hAk
          have a0 := int_at hc k hkz
          have hsk : s.skip[k] = s.skip.getD k 0 := by rw [List.getD_eq_getElem?_getD, List.getElem?_eq_getElem hkz]; rfl
          rw [hsk] at a0
          have HPV := Lib.hid (fun j (e : k = j + 1) => show ∃ pv, X.cell? ⟨b, off + j, none⟩ = some (.int .i64 pv) ∧ pv = s.skip.getD j 0 from by
            have hjp : j < s.skip.length := by omega
            refine ⟨_, int_at hc j hjp, ?_⟩
            rw [List.getD_eq_getElem?_getD, List.getElem?_eq_getElem hjp]
            rfl)
          obtain ⟨z, hz⟩ : ∃ x, s.skip.getD k 0 = x := ⟨_, rfl⟩
          rw [hz] at a0
          obtain ⟨okk, hok⟩ : ∃ x, allB o2 (skpB s) k = x := ⟨_, rfl⟩
          rw [hok] at hokv
          subst hokv
          have HOK := Lib.hid hok
          have HN0 := Lib.hid (fun (e : okk = true) => HNX.out (((allB_iff _ _ _).1 (HO2.out.trans ((allB_iff _ _ _).1 (hok.trans e)).1)).1))
          obtain ⟨b1, hb1⟩ : ∃ x, upB2 z (nx - 1) = x := ⟨_, rfl⟩
          have HIB := Lib.hid (show skpB s k = (b1 && (decide (k = 0) || decide (s.skip.getD (k - 1) 0 < z))) from by unfold skpB; rw [hz, HNXE.out, hb1])
          have HU1 := Lib.hid (fun w' => by have := upTo_any z (nx - 1) w'; rw [hb1] at this; exact this)
          have F4 := Lib.hid ((BW.out.block _ (lt_of_block F0.out)).trans F0.out)
          have hki : (k : Int) < (nk : Int) := by omega
          clear hc hsk hz hb1 hok
          obtain ⟨q0, q1, q2, q3, q4⟩ := sp5 F4.out
          go_upto_region 10 with fail
          clear a0
          cases okk with
          | false =>
            go_wp2_with fail
            go_roundg (gk - 1)
            case measure => omega
            case rel => exact ⟨k + 1, by first | rfl | go_num, by omega, by show Value.bool false = .bool (allB o2 (skpB s) k && skpB s k); rw [HOK.out, HIB.out]; simp, BW⟩
          | true =>
            have hn0 := HN0.out rfl
            have hwr : IntKind.i64.wrap (nx - 1) = nx - 1 := by rw [IntKind.wrap_i64]; omega
            cases b1 with
            | false =>
              go_wp2_with fail
              refine (HU1.out _).mono ?_
              rintro e w9 ⟨rfl, rfl⟩
              go_wp2_with fail
              go_roundg (gk - 1)
              case measure => omega
              case rel => exact ⟨k + 1, by first | rfl | go_num, by omega, by show Value.bool false = .bool (allB o2 (skpB s) k && skpB s k); rw [HOK.out, HIB.out]; simp, BW⟩
            | true =>
              rcases k with _ | j
              · have HIB := Lib.hid (show skpB s 0 = true from by rw [HIB.out]; rfl)
                go_wp2_with fail
                refine (HU1.out _).mono ?_
                rintro e w9 ⟨rfl, rfl⟩
                go_wp2_with fail
                go_roundg (gk - 1)
                case measure => omega
                case rel => exact ⟨0 + 1, by first | rfl | go_num, by omega, by show Value.bool true = .bool (allB o2 (skpB s) 0 && skpB s 0); rw [HOK.out, HIB.out]; simp, BW⟩
              · obtain ⟨pv, c0, HPR⟩ := HPV.out j rfl
                have hz : (((j : Int) + 1) == 0) = false := by simp; omega
                have hj1 : IntKind.i64.wrap ((j : Int) + 1 - 1) = j := by rw [IntKind.wrap_i64]; omega
                have hjn : (j : Int) < (nk : Int) := by omega
                have HIB := Lib.hid (show skpB s (j + 1) = decide (pv < z) from by rw [HIB.out, HPR]; simp)
                clear HPR
                obtain ⟨lt, hlt9⟩ : ∃ b, decide (pv < z) = b := ⟨_, rfl⟩
                rw [hlt9] at HIB
                go_wp2_with fail
                refine (HU1.out _).mono ?_
                rintro e w9 ⟨rfl, rfl⟩
                go_wp2_with fail
                go_roundg (gk - 1)
                case measure => omega
                case rel => exact ⟨j + 1 + 1, by first | rfl | go_num, by omega, by show Value.bool lt = .bool (allB o2 (skpB s) (j + 1) && skpB s (j + 1)); rw [HOK.out, HIB.out]; simp, BW⟩
        · have hkn : k = nk := by omega
          subst k
          have HF := Lib.hid (show faultSp s = if allB o2 (skpB s) nk then 0 else 9 from by rw [HFL.out]; unfold fltB; rw [HOO.out, HNA.out, HNK.out, HO2.out])
          cases hq : allB o2 (skpB s) nk with
          | true =>
            rw [hq] at hokv
            subst hokv
            go_wp2_with fail
            go_ret
            exact ⟨by rw [HF.out, hq]; rfl, B0.out.trans (BW.out.mono B0.out.size)⟩
          | false =>
            rw [hq] at hokv
            subst hokv
            go_wp2_with fail
            go_ret
            exact ⟨by rw [HF.out, hq]; rfl, B0.out.trans (BW.out.mono B0.out.size)⟩
end Go.Proofs.Ytgfbonfoimiknaa
