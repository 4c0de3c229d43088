/- The document's answers on spaces: SpaceAcked. -/
import Derived.Test.YtgfbonfoimiknaaRefSpOver
import Derived.Test.YtgfbonfoimiknaaSpAcked
namespace Go.Proofs.Ytgfbonfoimiknaa
set_option linter.unusedVariables false
open Go.RowKit P

theorem rng_all {e : Int} : ∀ {l : List (Int × Int)}, rngF e l = 0 → ∀ r ∈ l, 0 ≤ r.1 ∧ r.1 ≤ r.2 ∧ r.2 < e
  | [], _, r, h => by cases h
  | r :: l, h, x, hx => by
    unfold rngF at h
    by_cases c : r.1 < 0 ∨ r.2 < r.1
    · rw [if_pos c] at h; cases h
    · rw [if_neg c] at h
      by_cases d : e ≤ r.2
      · rw [if_pos d] at h; cases h
      · rw [if_neg d] at h
        rcases List.mem_cons.1 hx with rfl | hx
        · exact ⟨by omega, by omega, by omega⟩
        · exact rng_all h x hx
theorem insideA_any (A : Option Addr) (len cap : Nat) (ps : List (Int × Int)) (n : Int) (w : World) {e : Int} (h : RRow w w.heap.size A ps) (hl : ps.length = len) (hok : ∀ r ∈ ps, 0 ≤ r.1 ∧ r.1 ≤ r.2 ∧ r.2 < e) (hm : len ≤ 9223372036854775807) (n0 : 0 ≤ n) (n1 : n ≤ 4611686018427387904) (he : e ≤ 4611686018427387904) :
    Calls Try.prog 94 #[.slice A len cap, .int .i64 n] w fun e w' => e = .returned (.bool (memB ps n)) ∧ Below w.heap.size w w' := by
  rw [memB_has]
  have HR := Lib.hid h
  have HL := Lib.hid hl
  have HO := Lib.hid hok
  clear h hl hok
  go_enter Try.func94, Try.ntmps94
  go_wp2
  go_loopg [9] len (fun g i wr => ∃ k : Nat, k + g = len ∧ i = .int .i64 k ∧ Below w.heap.size w wr ∧ Hid (mem ps n ↔ mem (ps.drop k) n))
  case atStart => exact ⟨0, by omega, rfl, Below.refl _ _, Iff.rfl⟩
  case round =>
    obtain ⟨k, hk, rfl, hb, HM⟩ := hrel
    have HB := Lib.hid hb
    have hbw := hb.size
    clear hb
    by_cases hlt : k < len
    · obtain ⟨b, off, rfl, hbb, hc⟩ := (HR.out.below HB.out) (by rw [HL.out]; omega)
      obtain ⟨c0, c1⟩ := hc k (by rw [HL.out]; omega)
      have pk := HO.out (ps.getD k (0, 0)) (getD_mem' (by rw [HL.out]; exact hlt))
      have HD := Lib.hid (dropR_cons ps k (by rw [HL.out]; omega))
      obtain ⟨⟨lo, hi⟩, hp⟩ : ∃ p, ps.getD k (0, 0) = p := ⟨_, rfl⟩
      rw [hp] at c0 c1 HD pk
      simp only at c0 c1
      obtain ⟨r0, r1, r2⟩ := pk
      simp only at r0 r1 r2
      clear hc hp
      have HB1 := Lib.hid (HB.out.alloc hbw (.cells #[.int .i64 lo, .int .i64 hi] 80))
      by_cases hin : lo ≤ n ∧ n ≤ hi
      · have HE := Lib.hid (show hasB ps n = true from decide_eq_true (HM.out.2 (by rw [HD.out]; exact .inl hin)))
        obtain ⟨g0, g1⟩ := hin
        go_wp2_with (go_at_call 79; refine (upto_yes _ _ (by omega) (by omega) _).mono ?_; rintro e w' ⟨rfl, rfl⟩)
        go_ret
        exact ⟨by rw [HE.out]; rfl, HB1.out⟩
      · have HE := Lib.hid (HM.out.trans (by rw [HD.out]; exact ⟨fun h => h.elim (fun c => absurd c hin) id, .inr⟩ : mem (ps.drop k) n ↔ mem (ps.drop (k + 1)) n))
        have hc : n - lo < 0 ∨ hi - lo < n - lo := by omega
        clear hin
        go_wp2_with (go_at_call 79; refine (upto_no _ _ hc _).mono ?_; rintro e w' ⟨rfl, rfl⟩)
        go_roundg (gk - 1)
        case measure => omega
        case rel => exact ⟨k + 1, by omega, by go_num, HB1.out, HE⟩
    · have HE2 := Lib.hid (show hasB ps n = false from decide_eq_false (fun h => by have := HM.out.1 h; rw [List.drop_eq_nil_of_le (by rw [HL.out]; omega)] at this; exact this))
      go_wp2
      go_ret
      exact ⟨by rw [HE2.out]; rfl, HB.out⟩
/-- three rows that grow, each for itself -/
structure Spl3 (w wr : World) (v1 v2 v3 : Value) (c1 c2 c3 : List (Cells 4)) : Prop where
  o1 : OwnE pc4 wr w.heap.size 77 v1 c1
  o2 : OwnE pc4 wr w.heap.size 77 v2 c2
  o3 : OwnE pc4 wr w.heap.size 77 v3 c3
  b : Below w.heap.size w wr
  n12 : ∀ j, v1.ownBlock = some j → v2.ownBlock ≠ some j
  n13 : ∀ j, v1.ownBlock = some j → v3.ownBlock ≠ some j
  n23 : ∀ j, v2.ownBlock = some j → v3.ownBlock ≠ some j
theorem Spl3.on {w wr w' : World} {v1 v2 v3 : Value} {c1 c2 c3 : List (Cells 4)} (h : Spl3 w wr v1 v2 v3 c1 c2 c3) (b : Below wr.heap.size wr w') : Spl3 w w' v1 v2 v3 c1 c2 c3 := ⟨h.o1.later b, h.o2.later b, h.o3.later b, h.b.trans (b.mono h.b.size), h.n12, h.n13, h.n23⟩
theorem Spl3.lt {w wr : World} {v1 v2 v3 : Value} {c1 c2 c3 : List (Cells 4)} (h : Spl3 w wr v1 v2 v3 c1 c2 c3) : ∀ j, (v1.ownBlock = some j ∨ v2.ownBlock = some j ∨ v3.ownBlock = some j) → j < wr.heap.size := fun j hj => by
  rcases hj with hj | hj | hj
  · exact (h.o1.lt j hj).2
  · exact (h.o2.lt j hj).2
  · exact (h.o3.lt j hj).2
theorem Spl3.put1 {w w4 wb w' : World} {v1 v2 v3 v' : Value} {c1 c2 c3 : List (Cells 4)} {x : Cells 4} (h : Spl3 w wb v1 v2 v3 c1 c2 c3) (o : OwnE pc4 w' w.heap.size 77 v' (c1 ++ [x])) (g : wb.grownBy w' v1.ownBlock) (nb : v'.ownBlock = v1.ownBlock ∨ (∀ j, v'.ownBlock = some j → w4.heap.size ≤ j)) (hl : ∀ j, (v1.ownBlock = some j ∨ v2.ownBlock = some j ∨ v3.ownBlock = some j) → j < w4.heap.size) : Spl3 w w' v' v2 v3 (c1 ++ [x]) c2 c3 :=
  ⟨o, own_keptO h.o2 g (fun j hj q => h.n12 j q hj), own_keptO h.o3 g (fun j hj q => h.n13 j q hj), h.b.grown g h.b.size (fun q hq => (h.o1.lt q hq).1), fun j hj q => by
    rcases nb with e | e
    · exact h.n12 j (by rw [← e]; exact hj) q
    · have := e j hj
      have := hl j (.inr (.inl q))
      omega, fun j hj q => by
    rcases nb with e | e
    · exact h.n13 j (by rw [← e]; exact hj) q
    · have := e j hj
      have := hl j (.inr (.inr q))
      omega, h.n23⟩
theorem Spl3.put2 {w w4 wb w' : World} {v1 v2 v3 v' : Value} {c1 c2 c3 : List (Cells 4)} {x : Cells 4} (h : Spl3 w wb v1 v2 v3 c1 c2 c3) (o : OwnE pc4 w' w.heap.size 77 v' (c2 ++ [x])) (g : wb.grownBy w' v2.ownBlock) (nb : v'.ownBlock = v2.ownBlock ∨ (∀ j, v'.ownBlock = some j → w4.heap.size ≤ j)) (hl : ∀ j, (v1.ownBlock = some j ∨ v2.ownBlock = some j ∨ v3.ownBlock = some j) → j < w4.heap.size) : Spl3 w w' v1 v' v3 c1 (c2 ++ [x]) c3 :=
  ⟨own_keptO h.o1 g (fun j hj q => h.n12 j hj q), o, own_keptO h.o3 g (fun j hj q => h.n23 j q hj), h.b.grown g h.b.size (fun q hq => (h.o2.lt q hq).1), fun j hj q => by
    rcases nb with e | e
    · exact h.n12 j hj (by rw [← e]; exact q)
    · have := e j q
      have := hl j (.inl hj)
      omega, h.n13, fun j hj q => by
    rcases nb with e | e
    · exact h.n23 j (by rw [← e]; exact hj) q
    · have := e j hj
      have := hl j (.inr (.inr q))
      omega⟩
theorem Spl3.put3 {w w4 wb w' : World} {v1 v2 v3 v' : Value} {c1 c2 c3 : List (Cells 4)} {x : Cells 4} (h : Spl3 w wb v1 v2 v3 c1 c2 c3) (o : OwnE pc4 w' w.heap.size 77 v' (c3 ++ [x])) (g : wb.grownBy w' v3.ownBlock) (nb : v'.ownBlock = v3.ownBlock ∨ (∀ j, v'.ownBlock = some j → w4.heap.size ≤ j)) (hl : ∀ j, (v1.ownBlock = some j ∨ v2.ownBlock = some j ∨ v3.ownBlock = some j) → j < w4.heap.size) : Spl3 w w' v1 v2 v' c1 c2 (c3 ++ [x]) :=
  ⟨own_keptO h.o1 g (fun j hj q => h.n13 j hj q), own_keptO h.o2 g (fun j hj q => h.n23 j hj q), o, h.b.grown g h.b.size (fun q hq => (h.o3.lt q hq).1), h.n12, fun j hj q => by
    rcases nb with e | e
    · exact h.n13 j hj (by rw [← e]; exact q)
    · have := e j q
      have := hl j (.inl hj)
      omega, fun j hj q => by
    rcases nb with e | e
    · exact h.n23 j hj (by rw [← e]; exact q)
    · have := e j q
      have := hl j (.inr (.inl hj))
      omega⟩
/-- between the rounds of SpaceAcked's third loop -/
structure RAckI (w wr : World) (a h k : Value) (nx t : Int) : Prop where
  box : wr.heap[w.heap.size]? = some (.cells #[.int .i64 nx, a, .int .i64 t, h, k] 48 (0, 0))
  res : wr.heap[w.heap.size + 1]? = some (.cells #[.int .i64 0, .slice none 0 0, .int .i64 0, .slice none 0 0, .slice none 0 0] 48 (0, 0))
  be : Below w.heap.size w wr
theorem RAckI.on {w wr w' : World} {a h k : Value} {nx t : Int} (q : RAckI w wr a h k nx t) (b : Below wr.heap.size wr w') : RAckI w w' a h k nx t := ⟨(b.block _ (lt_of_block q.box)).trans q.box, (b.block _ (lt_of_block q.res)).trans q.res, q.be.trans (b.mono q.be.size)⟩
theorem RAckI.top {w wr : World} {a h k : Value} {nx t : Int} (q : RAckI w wr a h k nx t) (t' : Int) : RAckI w (wr.setCell ⟨w.heap.size, 2, none⟩ (.int .i64 t')) a h k nx t' :=
  have g := gr_set wr w.heap.size 2 (.int .i64 t')
  ⟨(sp5_set q.box (.int .i64 t')).2.2.1, (g.block _ (lt_of_block q.res) (by simp)).trans q.res, gr_from q.be q.be.size (Nat.le_refl _) g⟩
set_option maxRecDepth 100000 in
set_option maxHeartbeats 8000000 in
theorem refSpAck_any (v vl : Value) (s : Sp) (l : List (Int × Int)) (w : World) (hv : SpVal w w.heap.size v s) (hw : SpWf s) (hl : RSl w w.heap.size vl l) (hlm : l.length * 16 ≤ 140737488355328) (hlw : ∀ r ∈ l, i64N r.1 ∧ i64N r.2) : Calls Try.prog 42 #[v, vl] w (SpAckR (ackSp s l) w) := by
  have HCK := Lib.hid (fun w' (hb : Below w.heap.size w w') => refSpFault_any v s w' ((hv.below hb).more hb.size) hw)
  obtain ⟨Al, cl, rfl, _, _, hlr⟩ := hl.ex
  obtain ⟨a, h, kk, rfl, ha, hh, hk⟩ := hv.ex
  have HH := Lib.hid hh
  have HK := Lib.hid hk
  obtain ⟨Aa, ca, csa, rfl, _, _, hrw, hp⟩ := ha.ex
  have HRW := Lib.hid hrw
  have HP := Lib.hid hp
  obtain ⟨Ah, ch, rfl, _, _, _⟩ := hh.ex
  obtain ⟨Ak, ck, rfl, _, _, hkr⟩ := hk.ex
  have HLR := Lib.hid hlr
  have HKR := Lib.hid hkr
  obtain ⟨g0, g1, g2⟩ := twoX w #[.int .i64 s.next, .slice Aa s.sent.length ca, .int .i64 s.top, .slice Ah s.heard.length ch, .slice Ak s.skip.length ck] #[.int .i64 0, .slice none 0 0, .int .i64 0, .slice none 0 0, .slice none 0 0] 48 48
  have F0 := Lib.hid g0
  have Z0 := Lib.hid g1
  have B0 := Lib.hid g2
  clear g0 g1 g2
  clear hv ha hh hk hrw hp hl hlr hkr
  obtain ⟨na, hna⟩ : ∃ x, s.sent.length = x := ⟨_, rfl⟩
  have HNA := Lib.hid hna
  obtain ⟨nk, hnk⟩ : ∃ x, s.skip.length = x := ⟨_, rfl⟩
  have HNK := Lib.hid hnk
  obtain ⟨nl, hnl⟩ : ∃ x, l.length = x := ⟨_, rfl⟩
  have HNL := Lib.hid hnl
  rw [hna, hnk] at F0 B0 Z0 HCK ⊢
  rw [hnl] at hlm ⊢
  have hkl8 := hw.kl
  rw [hnk] at hkl8
  clear hna hnk hnl
  obtain ⟨i0, hi0, hz0, hz1, hz2⟩ := info_partsE infoP4
  have HI := Lib.hid hi0
  have HZ := Lib.hid hz0
  have HZ1 := Lib.hid hz1
  have HZ2 := Lib.hid hz2
  clear hi0 hz0 hz1 hz2
  obtain ⟨q0, q1, q2, q3, q4⟩ := sp5 F0.out
  go_enter Try.func42, Try.ntmps42
  go_wp2_with fail
  refine (HCK.out _ B0.out).mono ?_
  rintro e w1 ⟨rfl, b1⟩
  have B1 := Lib.hid (B0.out.trans (b1.mono B0.out.size))
  have F1 := Lib.hid ((b1.block _ (lt_of_block F0.out)).trans F0.out)
  have Z1 := Lib.hid ((b1.block _ (lt_of_block Z0.out)).trans Z0.out)
  clear b1
  clear q0 q1 q2 q3 q4
  obtain ⟨q0, q1, q2, q3, q4⟩ := sp5 F1.out
  obtain ⟨z0, z1, z2, z3, z4⟩ := sp5 Z1.out
  have zf := fun i => bk_frz Z1.out i
  rcases faultSp_two s with f | f
  · have ok := (faultSp_iff s).1 f
    have HTN := Lib.hid ok.2.1.2
    have HS24 := Lib.hid (show na ≤ 24 from by rw [← HNA.out]; exact ok.2.2.1)
    have HNUM := Lib.hid (fun i (hi : i < s.sent.length) => show 0 ≤ (s.sent[i]).num ∧ (s.sent[i]).num ≤ 4611686018427387903 from by
      have := riseF_bd ok.2.2.2.2.1 (show (s.sent[i]).num ∈ nums s.sent from List.mem_map.2 ⟨_, List.getElem_mem hi, rfl⟩)
      have := ok.1.2
      omega)
    have htp0 := ok.2.1.1
    have hnx1 := ok.1.2
    have HSK := Lib.hid (fun n (hn : n ∈ s.skip) => show 0 ≤ n ∧ n ≤ 4611686018427387903 from by have := riseF_bd ok.2.2.2.2.2.2.2.2.1 hn; have := ok.1.2; omega)
    have HE := Lib.hid (fun (e : Int) (he : e ≠ 0) (h : rngF s.next l = e) => show ackSp s l = (sp0, [], [], e) from by
      have : ackF s l = e := by unfold ackF; rw [if_neg (by simp [f]), if_pos (by rw [h]; exact he), h]
      unfold ackSp
      rw [this, if_pos he])
    have HES := Lib.hid (fun (h : rngF s.next l = 0) (q : s.skip.any (memB l) = true) => show ackSp s l = (sp0, [], [], 13) from by
      have : ackF s l = 13 := by unfold ackF; rw [if_neg (by simp [f]), if_neg (by simp [h]), if_pos q]
      unfold ackSp
      rw [this, if_pos (by decide)])
    have HEO := Lib.hid (fun (h : rngF s.next l = 0) (q : s.skip.any (memB l) = false) => show ackSp s l = ({ s with top := topOf s.top l, sent := (s.sent.filter fun p => !memB l p.num).filter fun p => !decide (p.num ≤ topOf s.top l - 3) }, s.sent.filter fun p => memB l p.num, (s.sent.filter fun p => !memB l p.num).filter fun p => decide (p.num ≤ topOf s.top l - 3), 0) from by
      have : ackF s l = 0 := by unfold ackF; rw [if_neg (by simp [f]), if_neg (by simp [h]), if_neg (by simp [q])]
      unfold ackSp
      rw [if_neg (by simp [this])])
    obtain ⟨rv, hrv⟩ : ∃ x, rngF s.next l = x := ⟨_, rfl⟩
    have HRV2 := Lib.hid hrv
    have HRV := Lib.hid (show rngF s.next (l.drop 0) = rv from by rw [List.drop_zero]; exact hrv)
    rw [hrv] at HE
    rw [f]
    clear hrv ok
    go_wp2_with fail
    go_loopg [28] nl (fun gq iv wr => ∃ k : Nat, iv = .int .i64 k ∧ k + gq = nl ∧ Hid (rngF s.next (l.drop k) = rv) ∧ Hid (Below w1.heap.size w1 wr))
    case atStart => exact ⟨0, rfl, by omega, HRV, Lib.hid (Below.refl _ _)⟩
    case round =>
      obtain ⟨k, rfl, hkg, HP, BK⟩ := hrel
      obtain ⟨X, hX⟩ : ∃ X, X = wr := ⟨_, rfl⟩
      subst hX
      clear q0 q1 q2 q3 q4 z0 z1 z2 z3 z4 zf HRV
      have BX := Lib.hid (B1.out.trans (BK.out.mono B1.out.size))
      by_cases hlt : k < nl
      · have hkl' : k < l.length := by rw [HNL.out]; exact hlt
        obtain ⟨b, off, rfl, hbb, hc⟩ := HLR.out (by omega)
        obtain ⟨c0, c1⟩ := hc k hkl'
        obtain ⟨⟨lo, hi⟩, hp⟩ : ∃ p, l.getD k (0, 0) = p := ⟨_, rfl⟩
        rw [hp] at c0 c1
        simp only at c0 c1
        have x0 := (BX.out.cell (p := ⟨b, off + k * 2, none⟩) hbb).trans c0
        have x1 := (BX.out.cell (p := ⟨b, off + k * 2 + 1, none⟩) hbb).trans c1
        have hq := HP.out
        rw [List.drop_eq_getElem_cons hkl', show l[k] = (lo, hi) from by rw [← hp, List.getD_eq_getElem?_getD, List.getElem?_eq_getElem hkl']; rfl] at hq
        unfold rngF at hq
        have HQ := Lib.hid hq
        have hki : (k : Int) < (nl : Int) := by omega
        have AB := Lib.hid ((Below.refl X.heap.size X).alloc (Nat.le_refl _) (.cells #[.int .i64 lo, .int .i64 hi] 80))
        have PB := Lib.hid (heap_alloc_new X (.cells #[.int .i64 lo, .int .i64 hi] 80))
        have F5 := Lib.hid ((AB.out.block _ (Nat.lt_of_lt_of_le (lt_of_block F1.out) BK.out.size)).trans ((BK.out.block _ (lt_of_block F1.out)).trans F1.out))
        have Z5 := Lib.hid ((AB.out.block _ (Nat.lt_of_lt_of_le (lt_of_block Z1.out) BK.out.size)).trans ((BK.out.block _ (lt_of_block Z1.out)).trans Z1.out))
        clear hc hp c0 c1 hq HP
        go_upto_region 7 with fail
        clear x0 x1
        obtain ⟨Y, hY⟩ : ∃ x, X.alloc (.cells #[.int .i64 lo, .int .i64 hi] 80) = x := ⟨_, rfl⟩
        rw [hY] at AB PB F5 Z5
        try rw [hY]
        clear hY
        have y0 := bk_cell PB.out 0
        have y1 := bk_cell PB.out 1
        simp only [List.getElem?_toArray, List.getElem?_cons_zero, List.getElem?_cons_succ] at y0 y1
        have BY := Lib.hid (BX.out.trans (AB.out.mono BX.out.size))
        have BK2 := Lib.hid (BK.out.trans (AB.out.mono BK.out.size))
        obtain ⟨q0, q1, q2, q3, q4⟩ := sp5 F5.out
        obtain ⟨z0, z1, z2, z3, z4⟩ := sp5 Z5.out
        have zf := fun i => bk_frz Z5.out i
        by_cases e1 : 0 ≤ lo ∧ lo ≤ hi
        · have d1 : upB2 lo hi = true := upB2_yes e1.1 e1.2
          by_cases e3 : s.next ≤ hi
          · have HV := Lib.hid (show (13 : Int) = rv from by have := HQ.out; rw [if_neg (by omega), if_pos e3] at this; exact this)
            have HA0 := Lib.hid (show ackSp s l = (sp0, [], [], 13) from HE.out 13 (by decide) HV.out.symm)
            have d3 : decide (s.next ≤ hi) = true := by simp [e3]
            clear HQ e1 e3
            go_wp2_with fail
            refine (upTo_any _ _ _).mono ?_
            rintro e w9 ⟨rfl, rfl⟩
            rw [d1]
            go_wp2_with fail
            obtain ⟨RY, gp⟩ := sp5_put Z5.out (.int .i64 0) (.slice none 0 0) (.int .i64 0) (.slice none 0 0) (.slice none 0 0)
            obtain ⟨y0_, y1_, y2_, y3_, y4_⟩ := sp5 RY
            refine bodyPost_ret (by simp [results, Try.results42, go_sem, y0_, y1_, y2_, y3_, y4_]; try rfl) rfl ?_
            rw [HA0.out]
            exact ⟨gr_from BY.out BY.out.size (Nat.le_succ _) gp, _, _, _, rfl, SpVal.nil _ _, PlSl.nil _ _, PlSl.nil _ _⟩
          have d3 : decide (s.next ≤ hi) = false := by simp; omega
          have HV := Lib.hid (show rngF s.next (l.drop (k + 1)) = rv from by have := HQ.out; rw [if_neg (by omega), if_neg e3] at this; exact this)
          clear HQ e1 e3
          go_wp2_with fail
          refine (upTo_any _ _ _).mono ?_
          rintro e w9 ⟨rfl, rfl⟩
          rw [d1]
          go_wp2_with fail
          go_roundg (gk - 1)
          case measure => omega
          case rel => exact ⟨k + 1, by first | rfl | go_num, by omega, HV, BK2⟩
        · have d1 : upB2 lo hi = false := upB2_no (by omega)
          have HV := Lib.hid (show (3 : Int) = rv from by have := HQ.out; rw [if_pos (by omega)] at this; exact this)
          have HA0 := Lib.hid (show ackSp s l = (sp0, [], [], 3) from HE.out 3 (by decide) HV.out.symm)
          clear HQ e1
          go_wp2_with fail
          refine (upTo_any _ _ _).mono ?_
          rintro e w9 ⟨rfl, rfl⟩
          rw [d1]
          go_wp2_with fail
          obtain ⟨RY, gp⟩ := sp5_put Z5.out (.int .i64 0) (.slice none 0 0) (.int .i64 0) (.slice none 0 0) (.slice none 0 0)
          obtain ⟨y0_, y1_, y2_, y3_, y4_⟩ := sp5 RY
          refine bodyPost_ret (by simp [results, Try.results42, go_sem, y0_, y1_, y2_, y3_, y4_]; try rfl) rfl ?_
          rw [HA0.out]
          exact ⟨gr_from BY.out BY.out.size (Nat.le_succ _) gp, _, _, _, rfl, SpVal.nil _ _, PlSl.nil _ _, PlSl.nil _ _⟩
      · have hkn : k = nl := by omega
        subst k
        have hr0 : rv = 0 := by
          have := HP.out
          rw [List.drop_eq_nil_of_le (by rw [HNL.out]; exact Nat.le_refl _)] at this
          exact this.symm
        have HOK := Lib.hid (rng_all (HRV2.out.trans hr0))
        have HE2 := Lib.hid (fun (q : s.skip.any (memB l) = true) => HES.out (HRV2.out.trans hr0) q)
        have HE3 := Lib.hid (fun (q : s.skip.any (memB l) = false) => HEO.out (HRV2.out.trans hr0) q)
        have HTL := Lib.hid (Int.le_of_lt (rng_top (HRV2.out.trans hr0) HTN.out))
        have F2 := Lib.hid ((BK.out.block _ (lt_of_block F1.out)).trans F1.out)
        have Z2 := Lib.hid ((BK.out.block _ (lt_of_block Z1.out)).trans Z1.out)
        have B2 := BX
        clear HP hr0 BK
        obtain ⟨W2, hW2⟩ : ∃ x, x = X := ⟨_, rfl⟩
        subst X
        obtain ⟨q0, q1, q2, q3, q4⟩ := sp5 F2.out
        go_wp2_with fail
        go_loopg [49] nk (fun gq iv wr => ∃ k : Nat, iv = .int .i64 k ∧ k + gq = nk ∧ Hid ((s.skip.drop k).any (memB l) = s.skip.any (memB l)) ∧ Hid (Below W2.heap.size W2 wr))
        case atStart => exact ⟨0, rfl, by omega, Lib.hid (by rw [List.drop_zero]), Lib.hid (Below.refl _ _)⟩
        case round =>
          obtain ⟨k, rfl, hkg, HP, BK⟩ := hrel
          obtain ⟨X, hX⟩ : ∃ X, X = wr := ⟨_, rfl⟩
          subst hX
          clear q0 q1 q2 q3 q4
          have BX := Lib.hid (B2.out.trans (BK.out.mono B2.out.size))
          have Z4 := Lib.hid ((BK.out.block _ (lt_of_block Z2.out)).trans Z2.out)
          by_cases hlt : k < nk
          · have hkz : k < s.skip.length := by rw [HNK.out]; exact hlt
            obtain ⟨b, off, rfl, hb, hc⟩ := HKR.out (by omega)
            have a0 := (BX.out.cell (p := ⟨b, off + k, none⟩) hb).trans (int_at hc k hkz)
            obtain ⟨x, hx⟩ : ∃ x, s.skip[k] = x := ⟨_, rfl⟩
            rw [hx] at a0
            have hx0 : 0 ≤ x ∧ x ≤ 4611686018427387903 := by rw [← hx]; exact HSK.out _ (List.getElem_mem hkz)
            have hq := HP.out
            rw [List.drop_eq_getElem_cons hkz, hx, List.any_cons] at hq
            have HQ := Lib.hid hq
            have HIN := Lib.hid (insideA_any Al nl cl l x X ((HLR.out.below BX.out).more BX.out.size) HNL.out HOK.out (by omega) hx0.1 (by omega) (by omega))
            obtain ⟨rb, hrb⟩ : ∃ y, memB l x = y := ⟨_, rfl⟩
            rw [hrb] at HIN HQ
            have hki : (k : Int) < (nk : Int) := by omega
            clear hc hx hq hrb HP hx0
            go_wp2_with fail
            refine (HIN.out).mono ?_
            rintro e w5 ⟨rfl, b5⟩
            have B5 := Lib.hid (BX.out.trans (b5.mono BX.out.size))
            have BK5 := Lib.hid (BK.out.trans (b5.mono BK.out.size))
            have Z5 := Lib.hid ((b5.block _ (lt_of_block Z4.out)).trans Z4.out)
            clear b5 a0
            cases rb with
            | true =>
              have HA0 := Lib.hid (show ackSp s l = (sp0, [], [], 13) from HE2.out (by rw [← HQ.out]; rfl))
              obtain ⟨z0, z1, z2, z3, z4⟩ := sp5 Z5.out
              have zf := fun i => bk_frz Z5.out i
              go_wp2_with fail
              obtain ⟨RY, gp⟩ := sp5_put Z5.out (.int .i64 0) (.slice none 0 0) (.int .i64 0) (.slice none 0 0) (.slice none 0 0)
              obtain ⟨y0_, y1_, y2_, y3_, y4_⟩ := sp5 RY
              refine bodyPost_ret (by simp [results, Try.results42, go_sem, y0_, y1_, y2_, y3_, y4_]; try rfl) rfl ?_
              rw [HA0.out]
              exact ⟨gr_from B5.out B5.out.size (Nat.le_succ _) gp, _, _, _, rfl, SpVal.nil _ _, PlSl.nil _ _, PlSl.nil _ _⟩
            | false =>
              have HN5 := Lib.hid (show (s.skip.drop (k + 1)).any (memB l) = s.skip.any (memB l) from by rw [← HQ.out]; rfl)
              go_wp2_with fail
              go_roundg (gk - 1)
              case measure => omega
              case rel => exact ⟨k + 1, by first | rfl | go_num, by omega, HN5, BK5⟩
          · have hkn : k = nk := by omega
            subst k
            have hr0 : s.skip.any (memB l) = false := by
              have := HP.out
              rw [List.drop_eq_nil_of_le (by rw [HNK.out]; exact Nat.le_refl _)] at this
              exact this.symm
            have HR := Lib.hid (HE3.out hr0)
            have F4 := Lib.hid ((BK.out.block _ (lt_of_block F2.out)).trans F2.out)
            clear HP hr0 HE2 HE3
            obtain ⟨W4, hW4⟩ : ∃ x, x = X := ⟨_, rfl⟩
            subst X
            have K0 := Lib.hid (show RAckI w W4 (.slice Aa na ca) (.slice Ah s.heard.length ch) (.slice Ak nk ck) s.next (topOf s.top (l.take 0)) from ⟨F4.out, Z4.out, BX.out⟩)
            obtain ⟨q0, q1, q2, q3, q4⟩ := sp5 F4.out
            go_wp2_with fail
            clear q0 q1 q2 q3 q4
            go_loopg [60] nl (fun gq iv wr => ∃ k : Nat, iv = .int .i64 k ∧ k + gq = nl ∧ Hid (RAckI w wr (.slice Aa na ca) (.slice Ah s.heard.length ch) (.slice Ak nk ck) s.next (topOf s.top (l.take k))))
            case atStart => exact ⟨0, rfl, by omega, K0⟩
            case round =>
              obtain ⟨k, rfl, hkg, KI⟩ := hrel
              obtain ⟨X, hX⟩ : ∃ X, X = wr := ⟨_, rfl⟩
              subst hX
              clear K0
              by_cases hlt : k < nl
              · have hkl' : k < l.length := by rw [HNL.out]; exact hlt
                obtain ⟨b, off, rfl, hbb, hc⟩ := HLR.out (by omega)
                obtain ⟨c0, c1⟩ := hc k hkl'
                obtain ⟨⟨lo, hi⟩, hp⟩ : ∃ p, l.getD k (0, 0) = p := ⟨_, rfl⟩
                have HT := Lib.hid (show topOf s.top (l.take (k + 1)) = max (topOf s.top (l.take k)) hi from by
                  unfold topOf
                  rw [List.take_succ_eq_append_getElem hkl', List.foldl_append]
                  have : l[k] = (lo, hi) := by rw [← hp, List.getD_eq_getElem?_getD, List.getElem?_eq_getElem hkl']; rfl
                  rw [this]
                  rfl)
                rw [hp] at c0 c1
                simp only at c0 c1
                have x0 := (KI.out.be.cell (p := ⟨b, off + k * 2, none⟩) hbb).trans c0
                have x1 := (KI.out.be.cell (p := ⟨b, off + k * 2 + 1, none⟩) hbb).trans c1
                obtain ⟨tk, htk⟩ : ∃ x, topOf s.top (l.take k) = x := ⟨_, rfl⟩
                rw [htk] at KI HT
                have hki : (k : Int) < (nl : Int) := by omega
                have AB := Lib.hid ((Below.refl X.heap.size X).alloc (Nat.le_refl _) (.cells #[.int .i64 lo, .int .i64 hi] 80))
                have PB := Lib.hid (heap_alloc_new X (.cells #[.int .i64 lo, .int .i64 hi] 80))
                have KA := Lib.hid (KI.out.on AB.out)
                clear hc hp c0 c1 htk
                go_upto_region 21 with fail
                clear x0 x1
                obtain ⟨Y, hY⟩ : ∃ x, X.alloc (.cells #[.int .i64 lo, .int .i64 hi] 80) = x := ⟨_, rfl⟩
                rw [hY] at AB PB KA
                try rw [hY]
                clear hY
                have y0 := bk_cell PB.out 0
                have y1 := bk_cell PB.out 1
                simp only [List.getElem?_toArray, List.getElem?_cons_zero, List.getElem?_cons_succ] at y0 y1
                obtain ⟨q0, q1, q2, q3, q4⟩ := sp5 KA.out.box
                have qf := fun i => bk_frz KA.out.box i
                by_cases hm : tk < hi
                · have e5 : max tk hi = hi := by omega
                  have KN := Lib.hid (KA.out.top hi)
                  have HT2 := Lib.hid (show topOf s.top (l.take (k + 1)) = hi from by rw [HT.out]; exact e5)
                  have d5 : decide (tk < hi) = true := by simp [hm]
                  obtain ⟨Y2, hY2⟩ : ∃ x, Y.setCell ⟨w.heap.size, 2, none⟩ (.int .i64 hi) = x := ⟨_, rfl⟩
                  rw [hY2] at KN
                  clear HT
                  go_wp2_with fail
                  go_roundg (gk - 1)
                  case measure => omega
                  case rel => exact ⟨k + 1, by first | rfl | go_num, by omega, by rw [HT2.out]; exact KN⟩
                · have e5 : max tk hi = tk := by omega
                  have KN := Lib.hid (KA.out.top tk)
                  have HT2 := Lib.hid (show topOf s.top (l.take (k + 1)) = tk from by rw [HT.out]; exact e5)
                  have d5 : decide (tk < hi) = false := by simp; omega
                  obtain ⟨Y2, hY2⟩ : ∃ x, Y.setCell ⟨w.heap.size, 2, none⟩ (.int .i64 tk) = x := ⟨_, rfl⟩
                  rw [hY2] at KN
                  clear HT
                  go_wp2_with fail
                  go_roundg (gk - 1)
                  case measure => omega
                  case rel => exact ⟨k + 1, by first | rfl | go_num, by omega, by rw [HT2.out]; exact KN⟩
              · have hkn : k = nl := by omega
                subst k
                have KE := KI.out
                rw [List.take_of_length_le (by rw [HNL.out]; exact Nat.le_refl _)] at KE
                have F5 := Lib.hid KE.box
                have Z5 := Lib.hid KE.res
                have B5 := Lib.hid KE.be
                have htl := HTL.out
                have htg := topOf_ge s.top l
                obtain ⟨top, htop⟩ : ∃ x, topOf s.top l = x := ⟨_, rfl⟩
                rw [htop] at F5 HR htl htg
                obtain ⟨W5, hW5⟩ : ∃ x, x = X := ⟨_, rfl⟩
                subst X
                clear KE KI htop
                obtain ⟨pm, hpm0⟩ : ∃ p : Pcl → Bool, p = fun p => memB l p.num := ⟨_, rfl⟩
                obtain ⟨pl, hpl0⟩ : ∃ p : Pcl → Bool, p = fun p => decide (p.num ≤ top - 3) && !memB l p.num := ⟨_, rfl⟩
                obtain ⟨pf_, hpf0⟩ : ∃ p : Pcl → Bool, p = fun p => (!decide (p.num ≤ top - 3)) && !memB l p.num := ⟨_, rfl⟩
                have HPM := Lib.hid hpm0
                have HPL := Lib.hid hpl0
                have HPF := Lib.hid hpf0
                have HLC := Lib.hid (show csa.length = na from by rw [HP.out.len, HNA.out])
                have K0 := Lib.hid (show Spl3 W5 W5 (.slice none 0 0) (.slice none 0 0) (.slice none 0 0) (sel pm (csa.take 0) (s.sent.take 0)) (sel pl (csa.take 0) (s.sent.take 0)) (sel pf_ (csa.take 0) (s.sent.take 0)) from ⟨OwnE.nil _ _ _, OwnE.nil _ _ _, OwnE.nil _ _ _, Below.refl _ _, (fun j h => by cases h), (fun j h => by cases h), (fun j h => by cases h)⟩)
                clear hpm0 hpl0 hpf0
                obtain ⟨q0, q1, q2, q3, q4⟩ := sp5 F5.out
                go_wp2_with fail
                go_loopg [74, 15, 16, 17] na (fun gq iv v1 v2 v3 wr => ∃ k : Nat, iv = .int .i64 k ∧ k + gq = na ∧ Hid (Spl3 W5 wr v1 v2 v3 (sel pm (csa.take k) (s.sent.take k)) (sel pl (csa.take k) (s.sent.take k)) (sel pf_ (csa.take k) (s.sent.take k))))
                case atStart => exact ⟨0, rfl, by omega, K0⟩
                case round =>
                  obtain ⟨k, rfl, hkg, KI⟩ := hrel
                  obtain ⟨X, hX⟩ : ∃ X, X = wr := ⟨_, rfl⟩
                  subst hX
                  clear K0 q0 q1 q2 q3 q4
                  by_cases hlt : k < na
                  · have hkp : k < s.sent.length := by rw [HNA.out]; exact hlt
                    have hkc : k < csa.length := by rw [HLC.out]; exact hlt
                    obtain ⟨b, off, v, hA, hbl, hF, c0, c1', c2', c3, hcl⟩ := pc_cells2 (HRW.out.on B5.out) (HP.out.imp fun _ _ q => (q.below B5.out).more B5.out.size) k hkc hkp
                    subst hA
                    obtain ⟨Af, cf, cf2, hvf, hf1, hf2, hf3, hf4⟩ := hF.ex
                    obtain ⟨nf, hnf⟩ : ∃ n, (s.sent[k]).frs.length = n := ⟨_, rfl⟩
                    rw [hnf] at hvf
                    subst hvf
                    clear hnf hF hf1 hf2 hf3 hf4 cf2
                    have y0 := (KI.out.b.cell (p := ⟨b, off + k * 4, none⟩) hbl).trans c0
                    have y1 := (KI.out.b.cell (p := ⟨b, off + k * 4 + 1, none⟩) hbl).trans c1'
                    have y2 := (KI.out.b.cell (p := ⟨b, off + k * 4 + 2, none⟩) hbl).trans c2'
                    have y3 := (KI.out.b.cell (p := ⟨b, off + k * 4 + 3, none⟩) hbl).trans c3
                    have hnm := HNUM.out k hkp
                    have HS1 := Lib.hid (sel_snoc pm csa s.sent k hkc hkp)
                    have HS2 := Lib.hid (sel_snoc pl csa s.sent k hkc hkp)
                    have HS3 := Lib.hid (sel_snoc pf_ csa s.sent k hkc hkp)
                    have HL1 := Lib.hid (sel_le pm (csa.take k) (s.sent.take k) k (by rw [List.length_take]; omega))
                    have HL2 := Lib.hid (sel_le pl (csa.take k) (s.sent.take k) k (by rw [List.length_take]; omega))
                    have HL3 := Lib.hid (sel_le pf_ (csa.take k) (s.sent.take k) k (by rw [List.length_take]; omega))
                    clear c0 c1' c2' c3
                    obtain ⟨L1, hL1⟩ : ∃ x, sel pm (csa.take k) (s.sent.take k) = x := ⟨_, rfl⟩
                    obtain ⟨L2, hL2⟩ : ∃ x, sel pl (csa.take k) (s.sent.take k) = x := ⟨_, rfl⟩
                    obtain ⟨L3, hL3⟩ : ∃ x, sel pf_ (csa.take k) (s.sent.take k) = x := ⟨_, rfl⟩
                    rw [hL1] at HL1 HS1 KI
                    rw [hL2] at HL2 HS2 KI
                    rw [hL3] at HL3 HS3 KI
                    obtain ⟨ck_, hck⟩ : ∃ x, csa[k] = x := ⟨_, rfl⟩
                    obtain ⟨q, hq⟩ : ∃ x, s.sent[k] = x := ⟨_, rfl⟩
                    rw [hck] at hcl HS1 HS2 HS3
                    rw [hq] at y0 y1 y2 hcl HS1 HS2 HS3 hnm
                    have hpm : pm q = memB l q.num := by rw [HPM.out]
                    have hpl : pl q = (decide (q.num + 3 ≤ top) && !memB l q.num) := by
                      rw [HPL.out]
                      have : q.num ≤ top - 3 ↔ q.num + 3 ≤ top := by omega
                      simp only [this]
                    have hpf : pf_ q = ((!decide (q.num + 3 ≤ top)) && !memB l q.num) := by
                      rw [HPF.out]
                      have : q.num ≤ top - 3 ↔ q.num + 3 ≤ top := by omega
                      simp only [this]
                    obtain ⟨num, hnum⟩ : ∃ x, q.num = x := ⟨_, rfl⟩
                    obtain ⟨time, htime⟩ : ∃ x, q.time = x := ⟨_, rfl⟩
                    obtain ⟨size, hsize⟩ : ∃ x, q.size = x := ⟨_, rfl⟩
                    rw [hnum, htime, hsize] at hcl
                    rw [hnum] at y0 hpm hpl hpf hnm
                    rw [htime] at y1
                    rw [hsize] at y2
                    have HCL := Lib.hid hcl
                    obtain ⟨A1, c1_, hv1, _, _, _⟩ := KI.out.o1.slice
                    obtain ⟨A2, c2_, hv2, _, _, _⟩ := KI.out.o2.slice
                    obtain ⟨A3, c3_, hv3, _, _, _⟩ := KI.out.o3.slice
                    obtain ⟨n1, hn1⟩ : ∃ x, L1.length = x := ⟨_, rfl⟩
                    obtain ⟨n2, hn2⟩ : ∃ x, L2.length = x := ⟨_, rfl⟩
                    obtain ⟨n3, hn3⟩ : ∃ x, L3.length = x := ⟨_, rfl⟩
                    rw [hn1] at hv1
                    rw [hn2] at hv2
                    rw [hn3] at hv3
                    have HN1 := Lib.hid (show L1.length ≤ 24 from Nat.le_trans HL1.out (by have := HS24.out; omega))
                    have HN2 := Lib.hid (show L2.length ≤ 24 from Nat.le_trans HL2.out (by have := HS24.out; omega))
                    have HN3 := Lib.hid (show L3.length ≤ 24 from Nat.le_trans HL3.out (by have := HS24.out; omega))
                    subst hv1
                    subst hv2
                    subst hv3
                    obtain ⟨om, hom⟩ : ∃ x, memB l num = x := ⟨_, rfl⟩
                    obtain ⟨op, hop⟩ : ∃ x, decide (num + 3 ≤ top) = x := ⟨_, rfl⟩
                    rw [hpm, hom] at HS1
                    rw [hpl, hom, hop] at HS2
                    rw [hpf, hom, hop] at HS3
                    have hwr : IntKind.i64.wrap (num + 3) = num + 3 := by rw [IntKind.wrap_i64]; omega
                    have hki : (k : Int) < (na : Int) := by omega
                    have hn48 : na ≤ 24 := HS24.out
                    have AB := Lib.hid ((Below.refl X.heap.size X).alloc (Nat.le_refl _) (.cells #[.int .i64 num, .int .i64 time, .int .i64 size, .slice Af nf cf] 77))
                    have P4 := Lib.hid (heap_alloc_new X (.cells #[.int .i64 num, .int .i64 time, .int .i64 size, .slice Af nf cf] 77))
                    have K4 := Lib.hid (KI.out.on AB.out)
                    clear hL1 hL2 hL3 hck hq hnum htime hsize hcl hn1 hn2 hn3 hpm hpl hpf
                    go_upto_region 28 with fail
                    clear y0 y1 y2 y3
                    obtain ⟨w3, hw3⟩ : ∃ x, X.alloc (.cells #[.int .i64 num, .int .i64 time, .int .i64 size, .slice Af nf cf] 77) = x := ⟨_, rfl⟩
                    rw [hw3] at P4 K4
                    try rw [hw3]
                    clear hw3 AB
                    obtain ⟨z0, z1, z2, z3⟩ := pc4D P4.out
                    have B3 := Lib.hid (B5.out.trans (K4.out.b.mono B5.out.size))
                    have HIN := Lib.hid (insideA_any Al nl cl l num w3 ((HLR.out.below B3.out).more B3.out.size) HNL.out HOK.out (by omega) hnm.1 (by omega) (by omega))
                    rw [hom] at HIN
                    clear hom
                    go_wp2_with fail
                    refine (HIN.out).mono ?_
                    rintro e w4 ⟨rfl, b4⟩
                    have PP := Lib.hid ((b4.block _ (lt_of_block P4.out)).trans P4.out)
                    have KP := Lib.hid (K4.out.on b4)
                    clear K4 P4 b4 z0 z1 z2 z3
                    have K4 := KP
                    have F6 := Lib.hid ((K4.out.b.block _ (lt_of_block F5.out)).trans F5.out)
                    obtain ⟨z0, z1, z2, z3⟩ := pc4D PP.out
                    obtain ⟨q0, q1, q2, q3, q4⟩ := sp5 F6.out
                    cases om with
                    | true =>
                      simp only [Bool.not_true, Bool.and_false, Bool.false_eq_true, if_false, if_true, List.append_nil] at HS1 HS2 HS3
                      have NB := Lib.hid (RowE.one (E := pc4) w4 ck_ #[.int .i64 num, .int .i64 time, .int .i64 size, .slice Af nf cf] 77 w4.heap.size rfl HCL.out.symm)
                      have BN := Lib.hid ((Below.refl w4.heap.size w4).alloc (Nat.le_refl _) (.cells #[.int .i64 num, .int .i64 time, .int .i64 size, .slice Af nf cf] 77))
                      go_wp2_with (at_builtin; (refine wpList_appE3 _ rfl (.tmp 87) (.tmp 89) _ rfl W5.heap.size 77 i0 _ 48 Try.underlying45 HI.out HZ.out HZ1.out HZ2.out rfl (by decide) (.slice A1 n1 c1_) _ rfl (OwnE.later K4.out.o1 BN.out) _ (some ⟨w4.heap.size, 0, none⟩) 1 1 [ck_] rfl NB.out rfl (by have := HN1.out; omega) (Nat.le_trans K4.out.b.size BN.out.size) ?_; intro v9 w9 own9 gr9 nb9; have O9 := Lib.hid own9; have G9 := Lib.hid gr9; have NB9 := Lib.hid nb9; clear own9 gr9 nb9))
                      have K4B := Lib.hid (K4.out.on BN.out)
                      have KN := (K4B.out.put1 O9.out G9.out (w4 := w4) (by rcases NB9.out with q | q; exact .inl q; exact .inr (fun j hj => Nat.le_trans BN.out.size (q j hj))) K4.out.lt)
                      rw [← HS1.out, ← HS2.out, ← HS3.out] at KN
                      have KN := Lib.hid KN
                      go_roundg (gk - 1)
                      case measure => omega
                      case rel => exact ⟨k + 1, by first | rfl | go_num, by omega, KN⟩
                    | false =>
                      cases op with
                      | true =>
                        simp only [Bool.not_false, Bool.not_true, Bool.and_true, Bool.and_self, Bool.false_and, Bool.false_eq_true, if_false, if_true, List.append_nil] at HS1 HS2 HS3
                        have NB := Lib.hid (RowE.one (E := pc4) w4 ck_ #[.int .i64 num, .int .i64 time, .int .i64 size, .slice Af nf cf] 77 w4.heap.size rfl HCL.out.symm)
                        have BN := Lib.hid ((Below.refl w4.heap.size w4).alloc (Nat.le_refl _) (.cells #[.int .i64 num, .int .i64 time, .int .i64 size, .slice Af nf cf] 77))
                        go_wp2_with (at_builtin; (refine wpList_appE3 _ rfl (.tmp 98) (.tmp 100) _ rfl W5.heap.size 77 i0 _ 48 Try.underlying45 HI.out HZ.out HZ1.out HZ2.out rfl (by decide) (.slice A2 n2 c2_) _ rfl (OwnE.later K4.out.o2 BN.out) _ (some ⟨w4.heap.size, 0, none⟩) 1 1 [ck_] rfl NB.out rfl (by have := HN2.out; omega) (Nat.le_trans K4.out.b.size BN.out.size) ?_; intro v9 w9 own9 gr9 nb9; have O9 := Lib.hid own9; have G9 := Lib.hid gr9; have NB9 := Lib.hid nb9; clear own9 gr9 nb9))
                        have K4B := Lib.hid (K4.out.on BN.out)
                        have KN := (K4B.out.put2 O9.out G9.out (w4 := w4) (by rcases NB9.out with q | q; exact .inl q; exact .inr (fun j hj => Nat.le_trans BN.out.size (q j hj))) K4.out.lt)
                        rw [← HS1.out, ← HS2.out, ← HS3.out] at KN
                        have KN := Lib.hid KN
                        go_roundg (gk - 1)
                        case measure => omega
                        case rel => exact ⟨k + 1, by first | rfl | go_num, by omega, KN⟩
                      | false =>
                        simp only [Bool.not_false, Bool.not_true, Bool.and_true, Bool.and_self, Bool.false_and, Bool.false_eq_true, if_false, if_true, List.append_nil] at HS1 HS2 HS3
                        have NB := Lib.hid (RowE.one (E := pc4) w4 ck_ #[.int .i64 num, .int .i64 time, .int .i64 size, .slice Af nf cf] 77 w4.heap.size rfl HCL.out.symm)
                        have BN := Lib.hid ((Below.refl w4.heap.size w4).alloc (Nat.le_refl _) (.cells #[.int .i64 num, .int .i64 time, .int .i64 size, .slice Af nf cf] 77))
                        go_wp2_with (at_builtin; (refine wpList_appE3 _ rfl (.tmp 78) (.tmp 80) _ rfl W5.heap.size 77 i0 _ 48 Try.underlying45 HI.out HZ.out HZ1.out HZ2.out rfl (by decide) (.slice A3 n3 c3_) _ rfl (OwnE.later K4.out.o3 BN.out) _ (some ⟨w4.heap.size, 0, none⟩) 1 1 [ck_] rfl NB.out rfl (by have := HN3.out; omega) (Nat.le_trans K4.out.b.size BN.out.size) ?_; intro v9 w9 own9 gr9 nb9; have O9 := Lib.hid own9; have G9 := Lib.hid gr9; have NB9 := Lib.hid nb9; clear own9 gr9 nb9))
                        have K4B := Lib.hid (K4.out.on BN.out)
                        have KN := (K4B.out.put3 O9.out G9.out (w4 := w4) (by rcases NB9.out with q | q; exact .inl q; exact .inr (fun j hj => Nat.le_trans BN.out.size (q j hj))) K4.out.lt)
                        rw [← HS1.out, ← HS2.out, ← HS3.out] at KN
                        have KN := Lib.hid KN
                        go_roundg (gk - 1)
                        case measure => omega
                        case rel => exact ⟨k + 1, by first | rfl | go_num, by omega, KN⟩
                  · have hkn : k = na := by omega
                    subst k
                    have SI := KI.out
                    rw [List.take_of_length_le (by rw [HLC.out]; exact Nat.le_refl _), List.take_of_length_le (by rw [HNA.out]; exact Nat.le_refl _)] at SI
                    have BX := Lib.hid SI.b
                    have O1 := Lib.hid SI.o1
                    have O2 := Lib.hid SI.o2
                    have O3 := Lib.hid SI.o3
                    have A1_ := Lib.hid (fun (R : Cells 4 → Pcl → Prop) (h : All2 R csa s.sent) => sel_all pm h)
                    have A2_ := Lib.hid (fun (R : Cells 4 → Pcl → Prop) (h : All2 R csa s.sent) => sel_all pl h)
                    have A3_ := Lib.hid (fun (R : Cells 4 → Pcl → Prop) (h : All2 R csa s.sent) => sel_all pf_ h)
                    obtain ⟨L1, hL1⟩ : ∃ x, sel pm csa s.sent = x := ⟨_, rfl⟩
                    obtain ⟨L2, hL2⟩ : ∃ x, sel pl csa s.sent = x := ⟨_, rfl⟩
                    obtain ⟨L3, hL3⟩ : ∃ x, sel pf_ csa s.sent = x := ⟨_, rfl⟩
                    rw [hL1] at O1 A1_
                    rw [hL2] at O2 A2_
                    rw [hL3] at O3 A3_
                    obtain ⟨P1, hP1⟩ : ∃ x, s.sent.filter pm = x := ⟨_, rfl⟩
                    obtain ⟨P2, hP2⟩ : ∃ x, s.sent.filter pl = x := ⟨_, rfl⟩
                    obtain ⟨P3, hP3⟩ : ∃ x, s.sent.filter pf_ = x := ⟨_, rfl⟩
                    rw [hP1] at A1_
                    rw [hP2] at A2_
                    rw [hP3] at A3_
                    have HR2 := Lib.hid (show ackSp s l = ({ s with top := top, sent := P3 }, P1, P2, 0) from by rw [HR.out, ← hP1, ← hP2, ← hP3, HPM.out, HPL.out, HPF.out, List.filter_filter, List.filter_filter])
                    have hl1 := (A1_.out _ HP.out).len
                    have hl2 := (A2_.out _ HP.out).len
                    have hl3 := (A3_.out _ HP.out).len
                    clear hL1 hL2 hL3 hP1 hP2 hP3 SI
                    obtain ⟨A1, c1_, hv1, _, _, _⟩ := O1.out.slice
                    obtain ⟨A2, c2_, hv2, _, _, _⟩ := O2.out.slice
                    obtain ⟨A3, c3_, hv3, _, _, _⟩ := O3.out.slice
                    rw [hl1] at hv1
                    rw [hl2] at hv2
                    rw [hl3] at hv3
                    subst hv1
                    subst hv2
                    subst hv3
                    have F6 := Lib.hid ((BX.out.block _ (lt_of_block F5.out)).trans F5.out)
                    have Z6 := Lib.hid ((BX.out.block _ (lt_of_block Z5.out)).trans Z5.out)
                    have B6 := Lib.hid (B5.out.trans (BX.out.mono B5.out.size))
                    have hz1 := lt_of_block Z5.out
                    clear hl1 hl2 hl3 KI
                    obtain ⟨p0, p1, p2, p3, p4⟩ := sp5 F6.out
                    have pf := fun i => bk_frz F6.out i
                    obtain ⟨W7, hW7⟩ : ∃ x, X.setCell ⟨w.heap.size, 1, none⟩ (.slice A3 P3.length c3_) = x := ⟨_, rfl⟩
                    have f7 := (sp5_set F6.out (.slice A3 P3.length c3_)).2.1
                    have g7 := gr_set X w.heap.size 1 (.slice A3 P3.length c3_)
                    rw [hW7] at f7 g7
                    have F7 := Lib.hid f7
                    have Z7 := Lib.hid ((g7.block _ (lt_of_block Z6.out) (by simp)).trans Z6.out)
                    have B7 := Lib.hid (gr_from B6.out B6.out.size (Nat.le_refl _) g7)
                    have O17 := Lib.hid (OwnE.kept O1.out g7 (fun e => by have := (OwnE.lt O1.out _ e).1; omega))
                    have O27 := Lib.hid (OwnE.kept O2.out g7 (fun e => by have := (OwnE.lt O2.out _ e).1; omega))
                    have O37 := Lib.hid (OwnE.kept O3.out g7 (fun e => by have := (OwnE.lt O3.out _ e).1; omega))
                    clear f7 g7
                    obtain ⟨q0, q1, q2, q3, q4⟩ := sp5 F7.out
                    obtain ⟨z0, z1, z2, z3, z4⟩ := sp5 Z7.out
                    have zf := fun i => bk_frz Z7.out i
                    go_wp2_with fail
                    obtain ⟨RY, gp⟩ := sp5_put Z7.out (.int .i64 s.next) (.slice A3 P3.length c3_) (.int .i64 top) (.slice Ah s.heard.length ch) (.slice Ak nk ck)
                    obtain ⟨y0, y1, y2, y3, y4⟩ := sp5 RY
                    refine bodyPost_ret (by simp [results, Try.results42, go_sem, y0, y1, y2, y3, y4]; try rfl) rfl ?_
                    rw [HR2.out]
                    have BE := gr_from B7.out B7.out.size (Nat.le_succ _) gp
                    have O18 := OwnE.kept O17.out gp (fun e => by have := (OwnE.lt O17.out _ e).1; omega)
                    have O28 := OwnE.kept O27.out gp (fun e => by have := (OwnE.lt O27.out _ e).1; omega)
                    have O38 := OwnE.kept O37.out gp (fun e => by have := (OwnE.lt O37.out _ e).1; omega)
                    have HPE := HP.out.imp fun _ _ q => (q.below BE).more BE.size
                    exact ⟨BE, _, _, _, rfl, ⟨_, _, _, rfl, pl_fin O38 (A3_.out _ HPE), (HH.out.below BE).more BE.size, by have := HK.out.on BE; rw [HNK.out] at this; exact this⟩, pl_fin O18 (A1_.out _ HPE), pl_fin O28 (A2_.out _ HPE)⟩
  · have HR := Lib.hid (show ackSp s l = (sp0, [], [], 9) from by
      have : ackF s l = 9 := by unfold ackF; rw [f]; rfl
      unfold ackSp
      rw [this, if_pos (by decide)])
    rw [f]
    go_wp2_with fail
    obtain ⟨RY, gp⟩ := sp5_put Z1.out (.int .i64 0) (.slice none 0 0) (.int .i64 0) (.slice none 0 0) (.slice none 0 0)
    obtain ⟨y0_, y1_, y2_, y3_, y4_⟩ := sp5 RY
    refine bodyPost_ret (by simp [results, Try.results42, go_sem, y0_, y1_, y2_, y3_, y4_]; try rfl) rfl ?_
    rw [HR.out]
    exact ⟨gr_from B1.out B1.out.size (Nat.le_succ _) gp, _, _, _, rfl, SpVal.nil _ _, PlSl.nil _ _, PlSl.nil _ _⟩
end Go.Proofs.Ytgfbonfoimiknaa
