/- Several texts in one. -/
import Derived.Test.YtpfahdogedchpaaDoorGrpH
/- The project's tables: last. -/
namespace Go.Proofs.YtpfahdogedchpaaDoor
set_option linter.unusedVariables false
open Go.RowKit P

set_option maxHeartbeats 2000000 in
theorem last_any (A : Option Addr) (n c : Nat) (l : List Fld) (room : Int) (W : World) (h : RowE FdE W W.heap.size A l) (hn : l.length = n) (hnc : n ≤ c) (hc : c ≤ maxLen) (hm : n ≤ 1000) (hwf : ∀ x ∈ l, FdWf x) (hs : wtL l ≤ 1000000) (hroom : 0 ≤ room ∧ room ≤ 160) :
    Calls Tryd.prog 86 #[.slice A n c, .int .i64 room] W fun e w' => Below W.heap.size W w' ∧ ∃ v, e = .returned v ∧ OwnE FdE w' W.heap.size 54 v (young room l) := by
  have HR := Lib.hid h
  have HN := Lib.hid hn
  have HW := Lib.hid hwf
  have HS := Lib.hid hs
  have HC := Lib.hid hc
  unfold maxLen at hc
  clear h hn hwf hs
  go_enter Tryd.func86, Tryd.ntmps86
  go_wp2_with fail
  go_loopg [1, 5] n (fun gq rv iv wr => ∃ (k : Nat) (r : Int), k = gq ∧ k ≤ n ∧ rv = .int .i64 r ∧ iv = .int .i64 (k : Int) ∧ (0 ≤ r ∧ r ≤ 160) ∧ Hid (r = room - (wtL (l.drop k) : Int)) ∧ Hid (Below W.heap.size W wr))
  case atStart => exact ⟨n, room, rfl, Nat.le_refl _, rfl, rfl, hroom, Lib.hid (by rw [List.drop_eq_nil_of_le (by rw [HN.out]; exact Nat.le_refl _), wtL_nil]; simp), Lib.hid (Below.refl _ _)⟩
  case round =>
    obtain ⟨k, r, rfl, hkn, rfl, rfl, hrb, HA, BK⟩ := hrel
    cases k with
    | zero =>
      have HCL := Lib.hid (fun w (hb : Below W.heap.size W w) => fclone_any w.heap.size A n c l w (Nat.le_refl _) (HR.out.on hb) HN.out (by omega))
      have HY := Lib.hid (show young room l = l from young_fits (by have := HA.out; rw [List.drop_zero] at this; omega))
      go_wp2_with fail
      refine (HCL.out _ BK.out).mono ?_
      rintro e w1 ⟨b1, v1, rfl, o1⟩
      have B1 := Lib.hid (BK.out.trans (b1.mono BK.out.size))
      have O1 := Lib.hid (OwnE.low o1 BK.out.size)
      clear b1 o1
      go_wp2_with fail
      go_ret
      exact ⟨B1.out, _, rfl, by rw [HY.out]; exact O1.out⟩
    | succ i =>
      have hil : i < l.length := by rw [HN.out]; omega
      have hmem : l.getD i fd0 ∈ l := by rw [List.getD_eq_getElem?_getD, List.getElem?_eq_getElem hil]; exact List.getElem_mem hil
      have HX := Lib.hid (HW.out _ hmem)
      have HD := Lib.hid (drop_one hil)
      obtain ⟨b, off, hA, hb, x0, x1⟩ := fd_cells HR.out hil
      obtain ⟨x, hx⟩ : ∃ x, l.getD i fd0 = x := ⟨_, rfl⟩
      rw [hx] at x0 x1 HX HD
      have hszD : wtL (l.drop i) = szF x + wtL (l.drop (i + 1)) := by rw [HD.out, wtL_cons]
      have hwl := wtL_drop l i
      have hsz : szF x ≤ 1000000 := by have := HS.out; omega
      have HT := Lib.hid (fun w => tsize_any x w HX.out)
      unfold fdV at HT
      have hcut := RowE.cut HR.out (i + 1) c (by rw [HN.out]; exact hnc)
      have HCL1 := Lib.hid (fun (hc : c = i + 1) w (hb : Below W.heap.size W w) => fclone_any w.heap.size (some ⟨b, off, none⟩) (n - (i + 1)) 0 (l.drop (i + 1)) w (Nat.le_refl _) (by rw [List.drop_eq_nil_of_le (by rw [HN.out]; omega)]; exact RowE.nil _ _ _) (by rw [List.length_drop, HN.out]) (by omega))
      have HCL2 := Lib.hid (fun (hc : ¬ c = i + 1) w (hb : Below W.heap.size W w) => fclone_any w.heap.size (some ⟨b, off + (i + 1) * 2, none⟩) (n - (i + 1)) (c - (i + 1)) (l.drop (i + 1)) w (Nat.le_refl _) (by
        have h := hcut.on hb
        rw [if_neg hc, hA] at h
        exact h) (by rw [List.length_drop, HN.out]) (by omega))
      clear hcut
      subst hA
      have X0 := Lib.hid (fun wr (BK : Below W.heap.size W wr) => (BK.cell (p := ⟨b, off + i * 2, none⟩) hb).trans x0)
      have X1 := Lib.hid (fun wr (BK : Below W.heap.size W wr) => (BK.cell (p := ⟨b, off + i * 2 + 1, none⟩) hb).trans x1)
      obtain ⟨S1, hS1⟩ : ∃ S, strOfNums x.name = S := ⟨_, rfl⟩
      obtain ⟨S2, hS2⟩ : ∃ S, strOfNums x.val = S := ⟨_, rfl⟩
      rw [hS1] at X0 HT
      rw [hS2] at X1 HT
      obtain ⟨s, hs⟩ : ∃ s, szF x = s := ⟨_, rfl⟩
      rw [hs] at HT hsz hszD
      have HSD := Lib.hid hszD
      have y0 := X0.out _ BK.out
      have y1 := X1.out _ BK.out
      have hi1 : ((i + 1 : Nat) : Int) = (i : Int) + 1 := by omega
      have hii : (i : Int) + 1 - 1 = (i : Int) := by omega
      have hit : ((i : Int) + 1).toNat = i + 1 := by omega
      have hin : (i : Int) < (n : Int) := by omega
      have hic : (i : Int) + 1 ≤ (c : Int) := by omega
      have hi0 : (0 : Int) < (i : Int) + 1 := by omega
      have hrs : IntKind.i64.wrap (r - (s : Int)) = r - (s : Int) := by rw [IntKind.wrap_i64]; omega
      rw [hi1]
      clear x0 x1 hx hS1 hS2 hmem hil hb hs hszD hwl hi1
      by_cases hle : (s : Int) ≤ r
      · have HA1 := Lib.hid (show r - (s : Int) = room - (wtL (l.drop i) : Int) by have := HA.out; have := HSD.out; omega)
        clear HCL1 HCL2
        go_wp2_with fail
        refine (HT.out _).mono ?_
        rintro e w1 ⟨rfl, b1⟩
        have B1 := Lib.hid (BK.out.trans (b1.mono BK.out.size))
        clear b1 y0 y1
        have y0 := X0.out _ B1.out
        have y1 := X1.out _ B1.out
        go_wp2_with fail
        refine (HT.out _).mono ?_
        rintro e w2 ⟨rfl, b2⟩
        have B2 := Lib.hid (B1.out.trans (b2.mono B1.out.size))
        clear b2 y0 y1
        go_wp2_with fail
        go_roundg i
        case measure => omega
        case rel => exact ⟨i, r - (s : Int), rfl, by omega, by first | rfl | go_num, by first | rfl | go_num, by omega, HA1, B2⟩
      · have HY := Lib.hid (show young room l = l.drop (i + 1) from young_at (i + 1) (by have := HA.out; omega) (fun j hj => by
          have h1 := wtL_drop (l.drop j) (i - j)
          rw [List.drop_drop, show j + (i - j) = i by omega] at h1
          have := HA.out
          have := HSD.out
          omega))
        go_wp2_with fail
        refine (HT.out _).mono ?_
        rintro e w1 ⟨rfl, b1⟩
        have B1 := Lib.hid (BK.out.trans (b1.mono BK.out.size))
        clear b1 y0 y1
        by_cases hci : c = i + 1
        · have HCL := Lib.hid (HCL1.out hci)
          clear HCL1 HCL2
          go_wp2_with fail
          refine (HCL.out _ B1.out).mono ?_
          rintro e w2 ⟨b2, v2, rfl, o2⟩
          have B2 := Lib.hid (B1.out.trans (b2.mono B1.out.size))
          have O2 := Lib.hid (OwnE.low o2 B1.out.size)
          clear b2 o2
          go_wp2_with fail
          go_ret
          exact ⟨B2.out, _, rfl, by rw [HY.out]; exact O2.out⟩
        · have HCL := Lib.hid (HCL2.out hci)
          clear HCL1 HCL2
          go_wp2_with fail
          refine (HCL.out _ B1.out).mono ?_
          rintro e w2 ⟨b2, v2, rfl, o2⟩
          have B2 := Lib.hid (B1.out.trans (b2.mono B1.out.size))
          have O2 := Lib.hid (OwnE.low o2 B1.out.size)
          clear b2 o2
          go_wp2_with fail
          go_ret
          exact ⟨B2.out, _, rfl, by rw [HY.out]; exact O2.out⟩
end Go.Proofs.YtpfahdogedchpaaDoor
/- The project's tables: refuse, Get. -/
namespace Go.Proofs.YtpfahdogedchpaaDoor
set_option linter.unusedVariables false
open Go.RowKit P

/-- why Insert refuses -/
def refT (t : Tb) (f : Fld) : Int := if faultTb t ≠ 0 then faultTb t else if ¬ okFd f then 3 else if t.room < (szF f : Int) then 1 else if t.put = 4611686018427387903 then 8 else 0
theorem young_put {room : Int} {f : Fld} (h : (szF f : Int) ≤ room) (l : List Fld) : young room (l ++ [f]) = young (room - (szF f : Int)) l ++ [f] := by
  induction l with
  | nil =>
    have : (wtL [f] : Int) ≤ room := by rw [wtL_cons, wtL_nil]; omega
    rw [List.nil_append, young_fits this]
    rfl
  | cons x l ih =>
    have e : wtL (x :: l ++ [f]) = wtL (x :: l) + szF f := by rw [wtL_app, wtL_cons (x := f), wtL_nil]; rfl
    by_cases q : (wtL (x :: l) : Int) ≤ room - (szF f : Int)
    · rw [young_fits q, young_fits (by rw [e]; omega)]
    · rw [young_step (room := room - (szF f : Int)) (by omega), ← ih]
      show young room (x :: (l ++ [f])) = young room (l ++ [f])
      have e2 : wtL (x :: (l ++ [f])) = wtL (x :: l) + szF f := e
      exact young_step (by omega)
theorem insT_ref (t : Tb) (f : Fld) : insT t f = if refT t f ≠ 0 then (tb0, refT t f) else (⟨t.room, t.put + 1, young (t.room - (szF f : Int)) t.rows ++ [f]⟩, 0) := by
  unfold insT refT
  by_cases c : faultTb t ≠ 0
  · rw [if_pos c, if_pos c, if_pos c]
  · rw [if_neg c, if_neg c]
    by_cases c2 : ¬ okFd f
    · rw [if_pos c2, if_pos c2, if_pos (by decide)]
    · rw [if_neg c2, if_neg c2]
      by_cases c3 : t.room < (szF f : Int)
      · rw [if_pos c3, if_pos c3, if_pos (by decide)]
      · rw [if_neg c3, if_neg c3]
        by_cases c4 : t.put = 4611686018427387903
        · rw [if_pos c4, if_pos c4, if_pos (by decide)]
        · rw [if_neg c4, if_neg c4, if_neg (by decide), young_put (by omega)]
set_option maxHeartbeats 2000000 in
theorem refuse_any (v : Value) (t : Tb) (f : Fld) (W : World) (hv : TbVal W W.heap.size v t) (hw : TbWf t) (hfw : FdWf f) :
    Calls Tryd.prog 85 #[v, fdV f] W fun e w' => e = .returned (.int .i64 (refT t f)) ∧ Below W.heap.size W w' := by
  have HFT := Lib.hid (fun w (hb : Below W.heap.size W w) => tchk_any v t w (hv.on hb) hw)
  have HIF := Lib.hid (fun w => mayBe_any f hfw w)
  have HT := Lib.hid (fun w => tsize_any f w hfw)
  have hsz : szF f ≤ 281474976710688 := by have := hfw.2.2; unfold szF; omega
  obtain ⟨A, c, rfl⟩ := tb_slices hv
  have hG : refT t f = if faultTb t ≠ 0 then faultTb t else if ¬ okFd f then 3 else if t.room < (szF f : Int) then 1 else if t.put = 4611686018427387903 then 8 else 0 := rfl
  rw [hG]
  unfold fdV at HIF HT ⊢
  obtain ⟨S1, hS1⟩ : ∃ S, strOfNums f.name = S := ⟨_, rfl⟩
  obtain ⟨S2, hS2⟩ : ∃ S, strOfNums f.val = S := ⟨_, rfl⟩
  rw [hS1, hS2] at HIF HT ⊢
  obtain ⟨g0, g1, g3⟩ := two_bk W #[.int .i64 t.room, .int .i64 t.put, .slice A t.rows.length c] #[.string S1, .string S2] 24 54
  have F0 := Lib.hid g0
  have G0 := Lib.hid g1
  have B0 := Lib.hid g3
  clear g0 g1 g3 hS1 hS2
  have rb := hw.room
  have pb := hw.put
  obtain ⟨x, hx⟩ : ∃ x, faultTb t = x := ⟨_, rfl⟩
  rw [hx] at HFT ⊢
  obtain ⟨q, hq⟩ : ∃ q, szF f = q := ⟨_, rfl⟩
  rw [hq] at HT hsz ⊢
  obtain ⟨room, put, rows⟩ := t
  simp only at *
  obtain ⟨N, hN⟩ : ∃ N, rows.length = N := ⟨_, rfl⟩
  rw [hN] at HFT F0 G0 B0 ⊢
  clear hv hw hx hG hq hN hfw
  by_cases h0 : x = 0
  · subst h0
    rw [if_neg (fun k => k rfl)]
    by_cases h1 : okFd f
    · rw [if_neg (fun k => k h1)]
      rw [decide_eq_true h1] at HIF
      by_cases hbig : room < (q : Int)
      · rw [if_pos hbig]
        clear h1
        go_enter Tryd.func85, Tryd.ntmps85
        go_upto_region 6 with (first
          | (go_at_call 40; refine (HFT.out _ B0.out).mono ?_; rintro e w1 ⟨rfl, b1⟩; have B1 := Lib.hid (B0.out.trans (b1.mono B0.out.size)); have F1 := Lib.hid ((b1.block _ (lt_of_block F0.out)).trans F0.out); have G1 := Lib.hid ((b1.block _ (lt_of_block G0.out)).trans G0.out); clear b1; obtain ⟨q0, q1, q2⟩ := bk3T F1.out; obtain ⟨y0, y1⟩ := bk2F G1.out)
          | (go_at_call 79; refine (HIF.out _).mono ?_; rintro e w2 ⟨rfl, b2⟩; have B2 := Lib.hid (B1.out.trans (b2.mono B1.out.size)); have F2 := Lib.hid ((b2.block _ (lt_of_block F1.out)).trans F1.out); have G2 := Lib.hid ((b2.block _ (lt_of_block G1.out)).trans G1.out); clear b2 q0 q1 q2 y0 y1; obtain ⟨q0, q1, q2⟩ := bk3T F2.out; obtain ⟨y0, y1⟩ := bk2F G2.out))
        have z0 := Ext.cell q0
        have z1 := Ext.cell q1
        have z3 := Ext.cell y0
        have z4 := Ext.cell y1
        clear q0 q1 q2 y0 y1
        refine wp_region_ext (by kernel_rfl) (by kernel_rfl) ?_
        repeat (go_big_quiet_step (first | (go_at_call 78; with_reducible exact Ext.call (HT.out _))))
        refine wpQuiet_nil ?_
        intro w3 hb3
        have B3 := Lib.hid (B2.out.trans (hb3.mono B2.out.size))
        clear z0 z1 z3 z4 hb3
        go_wp2_with fail
        go_ret
        exact ⟨by rfl, B3.out⟩
      · rw [if_neg hbig]
        by_cases hmx : put = 4611686018427387903
        · rw [if_pos hmx]
          subst hmx
          clear h1
          go_enter Tryd.func85, Tryd.ntmps85
          go_upto_region 6 with (first
            | (go_at_call 40; refine (HFT.out _ B0.out).mono ?_; rintro e w1 ⟨rfl, b1⟩; have B1 := Lib.hid (B0.out.trans (b1.mono B0.out.size)); have F1 := Lib.hid ((b1.block _ (lt_of_block F0.out)).trans F0.out); have G1 := Lib.hid ((b1.block _ (lt_of_block G0.out)).trans G0.out); clear b1; obtain ⟨q0, q1, q2⟩ := bk3T F1.out; obtain ⟨y0, y1⟩ := bk2F G1.out)
            | (go_at_call 79; refine (HIF.out _).mono ?_; rintro e w2 ⟨rfl, b2⟩; have B2 := Lib.hid (B1.out.trans (b2.mono B1.out.size)); have F2 := Lib.hid ((b2.block _ (lt_of_block F1.out)).trans F1.out); have G2 := Lib.hid ((b2.block _ (lt_of_block G1.out)).trans G1.out); clear b2 q0 q1 q2 y0 y1; obtain ⟨q0, q1, q2⟩ := bk3T F2.out; obtain ⟨y0, y1⟩ := bk2F G2.out))
          have z0 := Ext.cell q0
          have z1 := Ext.cell q1
          have z3 := Ext.cell y0
          have z4 := Ext.cell y1
          clear q0 q1 q2 y0 y1
          refine wp_region_ext (by kernel_rfl) (by kernel_rfl) ?_
          repeat (go_big_quiet_step (first | (go_at_call 78; with_reducible exact Ext.call (HT.out _))))
          refine wpQuiet_nil ?_
          intro w3 hb3
          have B3 := Lib.hid (B2.out.trans (hb3.mono B2.out.size))
          have F3 := Lib.hid ((hb3.block _ (lt_of_block F2.out)).trans F2.out)
          clear z0 z1 z3 z4 hb3
          obtain ⟨q0, q1, q2⟩ := bk3T F3.out
          go_wp2_with fail
          go_ret
          exact ⟨by rfl, B3.out⟩
        · rw [if_neg hmx]
          clear h1
          go_enter Tryd.func85, Tryd.ntmps85
          go_upto_region 6 with (first
            | (go_at_call 40; refine (HFT.out _ B0.out).mono ?_; rintro e w1 ⟨rfl, b1⟩; have B1 := Lib.hid (B0.out.trans (b1.mono B0.out.size)); have F1 := Lib.hid ((b1.block _ (lt_of_block F0.out)).trans F0.out); have G1 := Lib.hid ((b1.block _ (lt_of_block G0.out)).trans G0.out); clear b1; obtain ⟨q0, q1, q2⟩ := bk3T F1.out; obtain ⟨y0, y1⟩ := bk2F G1.out)
            | (go_at_call 79; refine (HIF.out _).mono ?_; rintro e w2 ⟨rfl, b2⟩; have B2 := Lib.hid (B1.out.trans (b2.mono B1.out.size)); have F2 := Lib.hid ((b2.block _ (lt_of_block F1.out)).trans F1.out); have G2 := Lib.hid ((b2.block _ (lt_of_block G1.out)).trans G1.out); clear b2 q0 q1 q2 y0 y1; obtain ⟨q0, q1, q2⟩ := bk3T F2.out; obtain ⟨y0, y1⟩ := bk2F G2.out))
          have z0 := Ext.cell q0
          have z1 := Ext.cell q1
          have z3 := Ext.cell y0
          have z4 := Ext.cell y1
          clear q0 q1 q2 y0 y1
          refine wp_region_ext (by kernel_rfl) (by kernel_rfl) ?_
          repeat (go_big_quiet_step (first | (go_at_call 78; with_reducible exact Ext.call (HT.out _))))
          refine wpQuiet_nil ?_
          intro w3 hb3
          have B3 := Lib.hid (B2.out.trans (hb3.mono B2.out.size))
          have F3 := Lib.hid ((hb3.block _ (lt_of_block F2.out)).trans F2.out)
          clear z0 z1 z3 z4 hb3
          obtain ⟨q0, q1, q2⟩ := bk3T F3.out
          go_wp2_with fail
          go_ret
          exact ⟨by rfl, B3.out⟩
    · rw [if_pos h1]
      rw [decide_eq_false h1] at HIF
      clear h1
      go_enter Tryd.func85, Tryd.ntmps85
      go_wp2_with (first
        | (go_at_call 40; refine (HFT.out _ B0.out).mono ?_; rintro e w1 ⟨rfl, b1⟩; have B1 := Lib.hid (B0.out.trans (b1.mono B0.out.size)); have F1 := Lib.hid ((b1.block _ (lt_of_block F0.out)).trans F0.out); have G1 := Lib.hid ((b1.block _ (lt_of_block G0.out)).trans G0.out); clear b1; obtain ⟨q0, q1, q2⟩ := bk3T F1.out; obtain ⟨y0, y1⟩ := bk2F G1.out)
        | (go_at_call 79; refine (HIF.out _).mono ?_; rintro e w2 ⟨rfl, b2⟩; have B2 := Lib.hid (B1.out.trans (b2.mono B1.out.size)); clear b2))
      go_ret
      exact ⟨by rfl, B2.out⟩
  · rw [if_pos h0]
    have g : (x != 0) = true := by simp [h0]
    go_enter Tryd.func85, Tryd.ntmps85
    go_wp2_with (first
      | (go_at_call 40; refine (HFT.out _ B0.out).mono ?_; rintro e w1 ⟨rfl, b1⟩; have B1 := Lib.hid (B0.out.trans (b1.mono B0.out.size)); clear b1))
    go_ret
    exact ⟨by rfl, B1.out⟩
end Go.Proofs.YtpfahdogedchpaaDoor
