/- Contract of package gather: together. -/
import Derived.Test.YtippenbfoaohoaaGaClos
import Derived.Test.YtippenbfoaohoaaGaChk
namespace Go.Proofs.Ytippenbfoaohoaa
set_option linter.unusedVariables false
open Go.RowKit P

/-- the closure, on any piece -/
theorem put_any (off : Int) (dv : Value) (ds : List Int) (cs : List PC) (K : Nat) (w : World) (hT : TL w K cs) (hd : BSl w K dv ds) (hs : sumP (cs.map PC.pc) + ds.length ≤ 140737488355328) (hln : cs.length ≤ 1000)
    (hq : ∀ p ∈ cs.map PC.pc, -9223372036854775808 ≤ endP p ∧ endP p ≤ 9223372036854775807) :
    Calls Try.prog 37 #[.agg #[.int .i64 off, dv], .pointer (some ⟨K, 0, none⟩)] w (AddPost K cs off ds w) := by
  by_cases h0 : ds = []
  · exact put_empty hT hd h0
  have h0' : 0 < ds.length := List.length_pos_iff.2 h0
  rcases List.eq_nil_or_concat cs with e | ⟨qs, q, e⟩
  · exact put_first hT hd h0' (by omega) (by rw [e]; rfl)
  · rw [List.concat_eq_append] at e
    have hq' := hq q.pc (by rw [e]; simp)
    have hsq : q.zs.length ≤ sumP (cs.map PC.pc) := by
      have := sum_mem (ps := cs.map PC.pc) (p := q.pc) (by rw [e]; simp)
      exact this
    by_cases t : endP q.pc = off
    · exact put_touch qs q e hT hd h0' (by omega) hln hq' t
    · exact put_apart qs q e hT hd h0' (by omega) hln hq' t
theorem ok_mem_bd {a : Int} {l : List Pc} (h : okPs a l) {p : Pc} (hp : p ∈ l) : a < p.1 ∧ endP p ≤ reachP a l ∧ p.2 ≠ [] := by
  obtain ⟨i, hi, rfl⟩ := List.getElem_of_mem hp
  have e : l.getD i pc0 = l[i] := by rw [List.getD_eq_getElem?_getD, List.getElem?_eq_getElem hi]; rfl
  have r1 := reach_take (d := a) h (i + 1) (by omega) (by omega)
  rw [reach_step hi, e] at r1
  have t := ok_take h (i + 1)
  rw [take_step hi, e] at t
  obtain ⟨t1, t2, t3⟩ := (ok_snoc _ _ _).1 t
  have := reach_mono _ _ t1
  exact ⟨by omega, r1, t2⟩
theorem addP_len (l : List Pc) (p : Pc) : (addP l p).length ≤ l.length + 1 := by
  by_cases e : p.2 = []
  · rw [addP_nil l e]; omega
  rcases List.eq_nil_or_concat l with k | ⟨qs, q, k⟩
  · subst k; rw [addP_first e]; simp
  · rw [List.concat_eq_append] at k
    subst k
    by_cases t : endP q = p.1
    · rw [addP_touch qs q e t]; simp
    · rw [addP_apart qs q e t]; simp
/-- what lies in memory while pieces are put together -/
structure TgSt (w : World) (g : Ga) (off : Int) (d : List Int) (dv : Value) (k : Nat) (next : Int) (wr : World) : Prop where
  ex : ∃ cs, TL wr (w.heap.size + 1) cs ∧ TogI g off d (cs.map PC.pc) next (g.held.drop k) ∧ cs.length ≤ 2 * k
  be : Below w.heap.size w wr
  box : wr.heap[w.heap.size]? = some (.cells #[.int .i64 off, dv] 55 (0, 0))
  nb : next ≤ 4611686018427387903
theorem togI_bd {g : Ga} {off next : Int} {d : List Int} {l ps : List Pc} (h : TogI g off d l next ps) (h0 : 0 ≤ g.done) (hn : next ≤ 4611686018427387903) : ∀ p ∈ l, -9223372036854775808 ≤ endP p ∧ endP p ≤ 9223372036854775807 := fun p hp => by
  obtain ⟨b1, b2, b3⟩ := ok_mem_bd h.ok hp
  have := end_gt b3
  have := h.re
  constructor <;> omega
theorem part_sum {g : Ga} {off next to : Int} {d : List Int} {l ps : List Pc} (h : TogI g off d l next ps) (hs : d.length + sumP g.held ≤ 140737488355328) : sumP l + (partP (off, d) next to).2.length + sumP ps ≤ 140737488355328 := by
  have h1 := (partP_does off d next to).2.2
  have h2 := h.sum
  omega
set_option maxRecDepth 100000 in
set_option maxHeartbeats 2000000 in
theorem together_any (g : Ga) (A Ad : Option Addr) (n c m cd : Nat) (off : Int) (d : List Int) (w : World) (hok : okG g) (hrow : PSl w w.heap.size (.slice A n c) g.held) (hd : BSl w w.heap.size (.slice Ad m cd) d)
    (h0 : 0 ≤ off) (h1 : off + d.length ≤ 4611686018427387903) (hs : d.length + sumP g.held ≤ 140737488355328) :
    Calls Try.prog 30 #[.int .i64 g.done, .slice A n c, .agg #[.int .i64 off, .slice Ad m cd]] w fun e w' => ∃ u cs, e = .returned u ∧ RowP w' (w.heap.size + 2) u cs ∧ cs.map PC.pc = putP g off d ∧ Below w.heap.size w w' := by
  obtain ⟨A', c', e, hnc, hcm, hpr⟩ := hrow.ex
  injection e with e1 e2 e3
  subst e1 e2 e3
  obtain ⟨Ad', cd', e, hdc, hdm, hdn, hdr⟩ := id hd.ex
  injection e with e1 e2 e3
  subst e1 e2 e3
  obtain ⟨m, hm⟩ : ∃ m, d.length = m := ⟨_, rfl⟩
  rw [hm] at h1 hd hdc ⊢
  have hdone : 0 ≤ g.done := hok.1
  have hok2 := okG_apG hok
  have hl4 : g.held.length ≤ 4 := hok.2.2.2.1
  have HM := Lib.hid hm
  have HROW := Lib.hid hpr
  have HOK := Lib.hid hok
  have HS := Lib.hid hs
  have HD := Lib.hid hd
  have hdm2 : m ≤ 140737488355328 := by omega
  unfold maxLen at hcm hdm
  have T0 := Lib.hid (show TgSt w g off d (.slice Ad m cd) 0 g.done ((w.alloc (.cells #[.int .i64 off, .slice Ad m cd] 55)).alloc (.cells #[.slice none 0 0] 22)) from by
    have h2 := heap_alloc_new (w.alloc (.cells #[.int .i64 off, .slice Ad m cd] 55)) (.cells #[.slice none 0 0] 22)
    rw [show (w.alloc (.cells #[.int .i64 off, .slice Ad m cd] 55)).heap.size = w.heap.size + 1 by simp] at h2
    refine ⟨⟨[], ⟨_, h2, RowP.nil _ _⟩, TogI.start hok.2.2.2.2.1 h0, by simp⟩, ((Below.refl _ _).alloc (Nat.le_refl _) _).alloc (by simp) _, (Below.heap_alloc _ _ _ (by simp)).trans (heap_alloc_new w _), ?_⟩
    have := hok2.2
    have := hok.2.2.1
    omega)
  clear hm hrow hd hpr hok hs hdr
  go_enter Try.func30, Try.ntmps30
  go_wp2_with fail
  go_loopg [9, 16] g.held.length (fun gq nv iv wr => ∃ (k : Nat) (next : Int), nv = .int .i64 next ∧ iv = .int .i64 k ∧ k + gq = g.held.length ∧ Hid (TgSt w g off d (.slice Ad m cd) k next wr))
  case atStart => exact ⟨0, g.done, rfl, rfl, by omega, T0⟩
  case round =>
    obtain ⟨k, next, rfl, rfl, hkg, SK⟩ := hrel
    by_cases hk : k < g.held.length
    · obtain ⟨b0, o, hA, hb0, hc⟩ := HROW.out (by omega)
      subst hA
      obtain ⟨e1, dp, e2, hdp⟩ := hc k hk
      obtain ⟨A2, c2, rfl, _, _, _, _⟩ := id hdp.ex
      have x0 := (SK.out.be.cell (p := ⟨b0, o + k * 2, none⟩) hb0).trans e1
      have x1 := (SK.out.be.cell (p := ⟨b0, o + k * 2 + 1, none⟩) hb0).trans e2
      have hmem : g.held.getD k pc0 ∈ g.held := by rw [List.getD_eq_getElem?_getD, List.getElem?_eq_getElem hk]; exact List.getElem_mem hk
      have hpb := (okG_apG HOK.out).1.2.2 _ hmem
      have hpo := held_bd HOK.out _ hmem
      obtain ⟨cs, hTL, hTI, hcl⟩ := SK.out.ex
      have hdr : g.held.drop k = g.held.getD k pc0 :: g.held.drop (k + 1) := by
        rw [List.drop_eq_getElem_cons hk, List.getD_eq_getElem?_getD, List.getElem?_eq_getElem hk]; rfl
      rw [hdr] at hTI
      obtain ⟨p, hp⟩ : ∃ p, g.held.getD k pc0 = p := ⟨_, rfl⟩
      rw [hp] at x0 x1 hpb hpo hTI hdp
      obtain ⟨po, ds⟩ := p
      have hme : endP (po, ds) = po + (ds.length : Int) := rfl
      rw [hme] at hpb hpo
      simp only at x0 x1 hpo hdp
      have hokr := hTI.okr
      have hnp : next ≤ po := by have := hokr.2.1; simp only at this; omega
      have HST := Lib.hid hTI.step
      have HGP := hTI.gap po hnp (fun x hx => by
        have gp := end_gt hokr.1
        unfold atP
        rw [if_neg (by simp only at *; omega)]
        exact at_below hokr.2.2 (by simp only at *; omega))
      have hps := part_sum (to := po) hTI HS.out
      have hts := hTI.sum
      have hql := (partP_does off d next po).2.2
      have HBD := Lib.hid (togI_bd hTI hdone SK.out.nb)
      have HE1 := Lib.hid hme
      obtain ⟨q, hq⟩ : ∃ q, partP (off, d) next po = q := ⟨_, rfl⟩
      have HQ := Lib.hid hq
      rw [hq] at HST HGP hps hql
      obtain ⟨qo, qd⟩ := q
      have HGP2 := Lib.hid HGP
      have hs2 : sumP (addP (cs.map PC.pc) (qo, qd)) + ds.length ≤ 140737488355328 := by
        have h4 := HGP.2.2.2
        have h5 := HS.out
        have h6 : sumP ((po, ds) :: g.held.drop (k + 1)) = ds.length + sumP (g.held.drop (k + 1)) := by simp [sumP]
        omega
      have hs1 : sumP (cs.map PC.pc) + qd.length ≤ 140737488355328 := by simp only at hps; omega
      obtain ⟨pm, hpm⟩ : ∃ m, ds.length = m := ⟨_, rfl⟩
      rw [hpm] at x1 hpb hpo hs2 hdp
      have HPM := Lib.hid hpm
      have HDP := Lib.hid hdp
      have HTL := Lib.hid hTL
      have HCL := Lib.hid hcl
      have hnk : (k : Int) < (g.held.length : Int) := by omega
      have hsz := SK.out.be.size
      have hK := hTL.lt
      have BA := Lib.hid (SK.out.be.alloc SK.out.be.size (.cells #[.int .i64 po, .slice A2 pm c2] 55))
      have FA := Lib.hid ((Below.heap_alloc wr (.cells #[.int .i64 po, .slice A2 pm c2] 55) _ (lt_of_block SK.out.box)).trans SK.out.box)
      have PA := Lib.hid (heap_alloc_new wr (.cells #[.int .i64 po, .slice A2 pm c2] 55))
      have TA := Lib.hid (hTL.below ((Below.refl wr.heap.size wr).alloc (Nat.le_refl _) (.cells #[.int .i64 po, .slice A2 pm c2] 55)))
      have q0 := bk_cell FA.out 0
      have q1 := bk_cell FA.out 1
      simp only [List.getElem?_toArray, List.getElem?_cons_zero, List.getElem?_cons_succ] at q0 q1
      clear hTL hTI hdr hp hmem hdp hc e1 e2 hme hpm hq HGP hps hql hts hokr hcl
      go_wp2_with fail
      refine (part_any off next po Ad m cd d w.heap.size _ (HD.out.below BA.out) BA.out.size HM.out ⟨by omega, by omega⟩).mono ?_
      rintro e w1 ⟨dq, rfl, hq1, b1⟩
      rw [HQ.out] at hq1 ⊢
      obtain ⟨Aq, cq, rfl, _, _, _, _⟩ := id hq1.ex
      have DQ := Lib.hid hq1
      have B1 := Lib.hid (BA.out.trans (b1.mono BA.out.size))
      have F1 := Lib.hid ((b1.block _ (lt_of_block FA.out)).trans FA.out)
      have P1 := Lib.hid ((b1.block _ (lt_of_block PA.out)).trans PA.out)
      have T1 := Lib.hid (TA.out.below b1)
      have HFK := Lib.hid (fun lv0 (hl0 : wr.heap[w.heap.size + 1]? = some (.cells #[lv0] 22 (0, 0))) => (b1.block (w.heap.size + 1) (by simp; omega)).trans ((Below.heap_alloc wr (.cells #[.int .i64 po, .slice A2 pm c2] 55) _ hK).trans hl0))
      clear b1 hq1 q0 q1
      have p0 := bk_cell P1.out 0
      have p1 := bk_cell P1.out 1
      simp only [List.getElem?_toArray, List.getElem?_cons_zero, List.getElem?_cons_succ] at p0 p1
      simp only at DQ
      go_wp2_with fail
      refine (put_any qo (.slice Aq qd.length cq) qd cs (w.heap.size + 1) _ T1.out (DQ.out.more (Nat.le_succ _)) hs1 (by have := HCL.out; omega) HBD.out).mono ?_
      unfold AddPost
      rintro e w2 ⟨rfl, cs2, t2, ec2, b2, f2⟩
      have hfar : Far w1 (w.heap.size + 1) cs wr.heap.size := ⟨by omega, fun lv hl => (by
        obtain ⟨lv0, hl0, hr0⟩ := HTL.out.ex
        have hl1 : w1.heap[w.heap.size + 1]? = some (.cells #[lv0] 22 (0, 0)) := HFK.out lv0 hl0
        rw [hl1] at hl
        cases hl
        exact fun e => by have := hr0.lt _ e; omega), fun p hp e => (by
        obtain ⟨lv0, hl0, hr0⟩ := HTL.out.ex
        have := World.ownsRow.lt (hr0.oks p hp).own _ e
        omega)⟩
      obtain ⟨fb, ff⟩ := f2 wr.heap.size (lt_of_block P1.out) hfar
      have P2 := Lib.hid (fb.trans P1.out)
      have FF := Lib.hid ff
      have T2 := Lib.hid t2
      have EC2 := Lib.hid ec2
      have B2 := Lib.hid (B1.out.trans (b2.mono (Nat.le_succ _)))
      have F2 := Lib.hid ((b2.block _ (Nat.lt_succ_self _)).trans F1.out)
      clear t2 ec2 b2 f2 hfar fb ff p0 p1
      have p0 := bk_cell P2.out 0
      have p1 := bk_cell P2.out 1
      simp only [List.getElem?_toArray, List.getElem?_cons_zero, List.getElem?_cons_succ] at p0 p1
      have hcl2 : cs2.length ≤ 2 * k + 1 := by
        have h1 := congrArg List.length EC2.out
        have h2 := addP_len (cs.map PC.pc) (qo, qd)
        have h3 := HCL.out
        rw [List.length_map] at h1 h2
        omega
      have HBD2 := Lib.hid (show ∀ p ∈ cs2.map PC.pc, -9223372036854775808 ≤ endP p ∧ endP p ≤ 9223372036854775807 from by
        rw [EC2.out]
        intro p hp
        obtain ⟨g1, g2, g3, g4⟩ := HGP2.out
        obtain ⟨c1, c2, c3⟩ := ok_mem_bd g1 hp
        have := end_gt c3
        constructor <;> omega)
      go_wp2_with fail
      refine (put_any po (.slice A2 pm c2) ds cs2 (w.heap.size + 1) _ T2.out ((HDP.out.below B2.out).more (Nat.le_succ _)) (by rw [EC2.out, HPM.out]; exact hs2) (by omega) HBD2.out).mono ?_
      unfold AddPost
      rintro e w3 ⟨rfl, cs3, t3, ec3, b3, f3⟩
      obtain ⟨fb, ff⟩ := f3 wr.heap.size (lt_of_block P2.out) FF.out
      have P3 := Lib.hid (fb.trans P2.out)
      have T3 := Lib.hid t3
      have EC3 := Lib.hid (show cs3.map PC.pc = addP (addP (cs.map PC.pc) (qo, qd)) (po, ds) from by rw [ec3, EC2.out])
      have B3 := Lib.hid (B2.out.trans (b3.mono (Nat.le_succ _)))
      have F3 := Lib.hid ((b3.block _ (Nat.lt_succ_self _)).trans F2.out)
      clear t3 ec3 b3 f3 fb ff p0 p1
      have p0 := bk_cell P3.out 0
      have p1 := bk_cell P3.out 1
      simp only [List.getElem?_toArray, List.getElem?_cons_zero, List.getElem?_cons_succ] at p0 p1
      have hcl3 : cs3.length ≤ 2 * (k + 1) := by
        have h1 := congrArg List.length EC3.out
        have h2 := addP_len (addP (cs.map PC.pc) (qo, qd)) (po, ds)
        have h4 := congrArg List.length EC2.out
        rw [List.length_map] at h1 h4
        omega
      go_wp2_with fail
      refine (end_any po A2 pm c2 _ ⟨by omega, by omega⟩).mono ?_
      rintro e w4 ⟨rfl, b4⟩
      have T4 := Lib.hid (T3.out.below b4)
      have B4 := Lib.hid (B3.out.trans (b4.mono B3.out.size))
      have F4 := Lib.hid ((b4.block _ (lt_of_block F3.out)).trans F3.out)
      clear b4 p0 p1
      have N4 := Lib.hid (show TgSt w g off d (.slice Ad m cd) (k + 1) (po + (pm : Int)) w4 from ⟨⟨cs3, T4.out, by rw [EC3.out, ← HPM.out]; exact HST.out, hcl3⟩, B4.out, F4.out, by omega⟩)
      go_wp2_with fail
      go_roundg (gk - 1)
      case measure => omega
      case rel => exact ⟨k + 1, _, rfl, by first | rfl | go_num, by omega, N4⟩
    · obtain rfl : k = g.held.length := by omega
      obtain rfl : gk = 0 := by omega
      obtain ⟨cs, hTL, hTI, hcl⟩ := SK.out.ex
      rw [List.drop_length] at hTI
      have hfin := hTI.last h0 HOK.out.2.2.2.2.1
      have hps := part_sum (to := endP (off, d)) hTI HS.out
      have HBD := Lib.hid (togI_bd hTI hdone SK.out.nb)
      have hme : endP (off, d) = off + (m : Int) := by rw [← HM.out]; rfl
      rw [hme] at hfin hps
      obtain ⟨q, hq⟩ : ∃ q, partP (off, d) next (off + (m : Int)) = q := ⟨_, rfl⟩
      have HQ := Lib.hid hq
      rw [hq] at hfin hps
      obtain ⟨qo, qd⟩ := q
      have HFIN := Lib.hid hfin
      have hs1 : sumP (cs.map PC.pc) + qd.length ≤ 140737488355328 := by simp only at hps; omega
      have HCL := Lib.hid hcl
      have T0' := Lib.hid hTL
      have q0 := bk_cell SK.out.box 0
      have q1 := bk_cell SK.out.box 1
      simp only [List.getElem?_toArray, List.getElem?_cons_zero, List.getElem?_cons_succ] at q0 q1
      clear hTL hTI hfin hps hme hq hcl T0
      have BD := Lib.hid (SK.out.be.drew)
      have TD := Lib.hid (T0'.out.below ((Below.refl wr.heap.size wr).drew))
      have FD := Lib.hid (show wr.drew.heap[w.heap.size]? = some (.cells #[.int .i64 off, .slice Ad m cd] 55 (0, 0)) from SK.out.box)
      go_wp2_with fail
      have d0 := bk_cell FD.out 0
      have d1 := bk_cell FD.out 1
      simp only [List.getElem?_toArray, List.getElem?_cons_zero, List.getElem?_cons_succ] at d0 d1
      go_region_held3 (fun w' => w'.cell? ⟨w.heap.size, 0, none⟩ = some (.int .i64 off) ∧ w'.cell? ⟨w.heap.size, 1, none⟩ = some (.slice Ad m cd))
        (first
          | exact ⟨d0, d1⟩
          | exact ⟨e0, e1⟩
          | exact ⟨s0, s1⟩
          | exact ⟨t0, t1⟩)
        (first
          | (go_at_call 31
             refine (end_any off Ad m cd _ ⟨by omega, by omega⟩).mono ?_
             rintro e w1 ⟨rfl, b1⟩
             have B1 := Lib.hid (BD.out.trans (b1.mono BD.out.size))
             have T1 := Lib.hid (TD.out.below b1)
             have F1 := Lib.hid ((b1.block _ (lt_of_block FD.out)).trans FD.out)
             have e0 := bk_cell F1.out 0
             have e1 := bk_cell F1.out 1
             simp only [List.getElem?_toArray, List.getElem?_cons_zero, List.getElem?_cons_succ] at e0 e1
             clear b1)
          | (go_at_call 38
             refine (part_any off next (off + (m : Int)) Ad m cd d w.heap.size _ (HD.out.below B1.out) B1.out.size HM.out ⟨by omega, by omega⟩).mono ?_
             rintro e w2 ⟨dq, rfl, hq1, b2⟩
             rw [HQ.out] at hq1 ⊢
             obtain ⟨Aq, cq, hdq, _, _, _, _⟩ := id hq1.ex
             subst hdq
             have DQ := Lib.hid hq1
             have B2 := Lib.hid (B1.out.trans (b2.mono B1.out.size))
             have T2 := Lib.hid (T1.out.below b2)
             have F2 := Lib.hid ((b2.block _ (lt_of_block F1.out)).trans F1.out)
             have s0 := bk_cell F2.out 0
             have s1 := bk_cell F2.out 1
             simp only [List.getElem?_toArray, List.getElem?_cons_zero, List.getElem?_cons_succ] at s0 s1
             clear b2 hq1)
          | (go_at_call 37
             refine (put_any qo (.slice Aq qd.length cq) qd cs (w.heap.size + 1) _ T2.out (DQ.out.more (Nat.le_succ _)) hs1 (by have := HCL.out; omega) HBD.out).mono ?_
             unfold AddPost
             rintro e w3 ⟨rfl, cs3, t3, ec3, b3, _⟩
             have T3 := Lib.hid t3
             have EC3 := Lib.hid ec3
             have B3 := Lib.hid (B2.out.trans (b3.mono (Nat.le_succ _)))
             have F3 := Lib.hid ((b3.block _ (Nat.lt_succ_self _)).trans F2.out)
             have t0 := bk_cell F3.out 0
             have t1 := bk_cell F3.out 1
             simp only [List.getElem?_toArray, List.getElem?_cons_zero, List.getElem?_cons_succ] at t0 t1
             clear t3 ec3 b3))
      obtain ⟨lv, hl1, hl2⟩ := T3.out.ex
      have HL2 := Lib.hid hl2
      have l0 := bk_cell hl1 0
      simp only [List.getElem?_toArray, List.getElem?_cons_zero] at l0
      clear hl1 hl2 q0 q1
      go_wp2_with fail
      go_ret
      exact ⟨_, cs3, rfl, HL2.out, by rw [EC3.out]; exact HFIN.out, B3.out⟩
end Go.Proofs.Ytippenbfoaohoaa
