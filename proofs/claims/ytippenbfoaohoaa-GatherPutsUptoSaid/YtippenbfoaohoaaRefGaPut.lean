/- The document's answers on gathers: GatherPut. -/
import Derived.Test.YtippenbfoaohoaaRefGaPutE
import Derived.Test.YtippenbfoaohoaaPcRow
import Derived.Test.YtippenbfoaohoaaSortIC
import Derived.Test.YtippenbfoaohoaaFresh
import Derived.Deep.CutRange
import Derived.Deep.RegionLaw
import Derived.Deep.AppendLies
namespace Go.Proofs.Ytippenbfoaohoaa
set_option linter.unusedVariables false
open Go.RowKit P

theorem infoI : (Try.prog.info? 3).map (fun i => (i.zero, i.size, i.bytes)) = some (some (.int .i64 0), 1, 8) := by kernel_rfl
/-- what lies in memory while the map is filled and read -/
structure PutSt (w : World) (g : Ga) (s : Value) (M n : Nat) (f : Int → Option Int) (wr : World) : Prop where
  be : Below w.heap.size w wr
  gc : wr.heap[w.heap.size]? = some (.cells #[.int .i64 g.done, s, .int .i64 g.final, .int .i64 g.window] 24 (0, 0))
  zc : wr.heap[w.heap.size + 1]? = some (.cells #[.int .i64 0, .slice none 0 0, .int .i64 0, .int .i64 0] 24 (0, 0))
  mp : ∃ D : DataW Unit, wr.ownsMap Try.prog 3 (plainElem Try.prog 5) M n D ∧ MapB D f
  lo : w.heap.size + 2 ≤ M
theorem PutSt.grown {w wr wr' : World} {g : Ga} {s : Value} {M n : Nat} {f : Int → Option Int} {row : Option Nat} (h : PutSt w g s M n f wr) (k : wr.grownBy wr' row) (hr : ∀ j, row = some j → w.heap.size + 2 ≤ j ∧ j ≠ M) : PutSt w g s M n f wr' := by
  obtain ⟨D, o, m⟩ := h.mp
  refine ⟨h.be.grown k h.be.size (fun j hj => by have := (hr j hj).1; omega), ?_, ?_, ⟨D, o.kept k (fun e => (hr M e.symm).2 rfl), m⟩, h.lo⟩
  · exact (k.block _ (lt_of_block h.gc) (fun e => by have := (hr _ e.symm).1; omega)).trans h.gc
  · exact (k.block _ (lt_of_block h.zc) (fun e => by have := (hr _ e.symm).1; omega)).trans h.zc
theorem PutSt.alloc {w wr : World} {g : Ga} {s : Value} {M n : Nat} {f : Int → Option Int} (h : PutSt w g s M n f wr) (o : Obj) : PutSt w g s M n f (wr.alloc o) := h.grown (World.grownBy_alloc wr o none) (fun j e => by cases e)
theorem PutSt.drew {w wr : World} {g : Ga} {s : Value} {M n : Nat} {f : Int → Option Int} (h : PutSt w g s M n f wr) : PutSt w g s M n f wr.drew := h.grown (row := none) ⟨rfl, rfl, rfl, Nat.le_refl _, fun _ _ _ => rfl⟩ (fun j e => by cases e)
theorem PutSt.more {w wr : World} {g : Ga} {s : Value} {M n n' : Nat} {f f' : Int → Option Int} (h : PutSt w g s M n f wr) (hn : n ≤ n') (hf : ∀ x, f x = f' x) : PutSt w g s M n' f' wr := by
  obtain ⟨D, o, m⟩ := h.mp
  exact ⟨h.be, h.gc, h.zc, ⟨D, o.mono hn, m.congr hf⟩, h.lo⟩
theorem PutSt.store {w wr wr' : World} {g : Ga} {s : Value} {M n : Nat} {f : Int → Option Int} {D : DataW Unit} {x z : Int} (h : PutSt w g s M n f wr) (hm : MapB D f) (o : wr'.ownsMap Try.prog 3 (plainElem Try.prog 5) M (n + 1) (D.put (ky x) (.lit (.int .u8 z)))) (k : wr.grownBy wr' (some M)) : PutSt w g s M (n + 1) (fun y => if y = x then some z else f y) wr' := by
  have lo := h.lo
  refine ⟨h.be.grown k h.be.size (fun j hj => by cases hj; omega), ?_, ?_, ⟨_, o, hm.put x z⟩, h.lo⟩
  · exact (k.block _ (lt_of_block h.gc) (fun e => by cases e; omega)).trans h.gc
  · exact (k.block _ (lt_of_block h.zc) (fun e => by cases e; omega)).trans h.zc
theorem zeroB (w : World) : (zeroValue 5).run Try.prog w = .ok (.int .u8 0) w := by kernel_rfl
theorem wf_ky {x : Int} (h0 : -9223372036854775808 ≤ x) (h1 : x ≤ 9223372036854775807) : (Lit.int .i64 x).wf = true := ga_i64.2 ⟨h0, h1⟩
theorem wf_u8 {x : Int} (h0 : 0 ≤ x) (h1 : x ≤ 255) : (Lit.int .u8 x).wf = true := by
  have a1 : IntKind.u8.min = 0 := by kernel_rfl
  have a2 : IntKind.u8.max = 255 := by kernel_rfl
  rw [Lit.wf_int_iff, a1, a2]
  omega
theorem look_run {wr : World} {M n : Nat} {D : DataW Unit} {f : Int → Option Int} (O : wr.ownsMap Try.prog 3 (plainElem Try.prog 5) M n D) (MB : MapB D f) {x z : Int} (hf : f x = some z) (hx : (Lit.int .i64 x).wf = true) :
    (Instr.lookup 59 (.map (some M)) (.int .i64 x) false).run Try.prog wr = .ok (.int .u8 z) wr ∧ 0 ≤ z ∧ z ≤ 255 := by
  obtain ⟨cv, hrun, hatv, hwv⟩ := O.lookup_int (Maps.int_keyed Try.underlying3) Try.underlying59 Try.underlying5 (zeroB wr) (Maps.keyOf_int_mk (a := x) Try.underlying3 hx)
  have hcz : cv = z := by
    have := (MB.yes x z hf).2 (.lit (.int .u8 0))
    rw [hatv] at this
    cases this
    rfl
  subst hcz
  have a1 : IntKind.u8.min = 0 := by kernel_rfl
  have a2 : IntKind.u8.max = 255 := by kernel_rfl
  rw [Lit.wf_int_iff, a1, a2] at hwv
  exact ⟨hrun, hwv⟩
set_option maxRecDepth 100000 in
set_option maxHeartbeats 8000000 in
theorem refPut_big (g : Ga) (A Ad : Option Addr) (c cd : Nat) (off : Int) (d : List Int) (fin : Bool) (w : World) (hok : okG g) (hrow : PSl w w.heap.size (.slice A g.held.length c) g.held) (hd : BSl w w.heap.size (.slice Ad d.length cd) d)
    (hF : ∀ w', Below w.heap.size w w' → Calls Try.prog 13 #[.agg #[.int .i64 g.done, .slice A g.held.length c, .int .i64 g.final, .int .i64 g.window]] w' fun e w'' => e = .returned (.int .i64 0) ∧ Below w'.heap.size w' w'')
    (hS : SortInts Try.prog 33) (h0 : 0 ≤ off) (h1 : off + d.length ≤ 4611686018427387903) (hsum : d.length + sumP g.held ≤ 1048576) :
    Calls Try.prog 16 #[.agg #[.int .i64 g.done, .slice A g.held.length c, .int .i64 g.final, .int .i64 g.window], .int .i64 off, .slice Ad d.length cd, .bool fin] w (GaRes (putG g off d fin) w) := by
  obtain ⟨g0, g1, g2⟩ := twoG w #[.int .i64 g.done, .slice A g.held.length c, .int .i64 g.final, .int .i64 g.window] #[.int .i64 0, .slice none 0 0, .int .i64 0, .int .i64 0] 24 24
  have G0 := Lib.hid g0
  have G1 := Lib.hid g1
  have B0 := Lib.hid g2
  have HF := Lib.hid hF
  have HRE := Lib.hid (fun w' (hb : Below w.heap.size w w') => refReach_any (.agg #[.int .i64 g.done, .slice A g.held.length c, .int .i64 g.final, .int .i64 g.window]) g w' ⟨_, rfl, (hrow.below hb).more hb.size⟩ (held_bd hok))
  obtain ⟨N, hN⟩ : ∃ N, d.length = N := ⟨_, rfl⟩
  rw [hN] at h1 hsum hd ⊢
  have HN := Lib.hid hN
  obtain ⟨R, hR⟩ : ∃ R, reachP g.done g.held = R := ⟨_, rfl⟩
  rw [hR] at HRE
  have HRR := Lib.hid hR
  have HOK := Lib.hid hok
  obtain ⟨Ah, ch, hhe, hhc, hhm, hpr⟩ := hrow.ex
  injection hhe with hhe1 hhe2 hhe3
  subst hhe1 hhe3
  unfold maxLen at hhm
  have HPR := Lib.hid hpr
  obtain ⟨Ad', cd', hde, hdc, hdm, hdn, hdr⟩ := hd.ex
  injection hde with hde1 hde2 hde3
  subst hde1 hde3
  rw [hN] at hdc
  have HD := Lib.hid hdr
  unfold maxLen at hdm
  have HSUM := Lib.hid hsum
  have hw1 : IntKind.i64.wrap (4611686018427387903 - (N : Int)) = 4611686018427387903 - (N : Int) := by rw [IntKind.wrap_i64]; omega
  have hw2 : IntKind.i64.wrap (off + (N : Int)) = off + (N : Int) := by rw [IntKind.wrap_i64]; omega
  have u1 : upB2 off (4611686018427387903 - (N : Int)) = true := by unfold upB2; simp; omega
  have HP := Lib.hid (show putG g off d fin = if (0 ≤ g.final ∧ (g.final < off + N ∨ fin = true ∧ off + N < g.final)) ∨ fin = true ∧ off + N < R then (ga0, 12) else if g.window < off + N then (ga0, 11) else if 4 < (putP g off d).length then (ga0, 8) else (⟨g.done, putP g off d, if fin then off + N else g.final, g.window⟩, 0) from by
    unfold putG
    rw [if_neg (by unfold faultG; rw [if_pos HOK.out]; simp), HN.out, HRR.out, if_neg (fun k => k ⟨h0, h1⟩)]
    rfl)
  obtain ⟨RES, hRES⟩ : ∃ r, putG g off d fin = r := ⟨_, rfl⟩
  rw [hRES] at HP ⊢
  have hmm := @run_makeMap Try.prog
  clear hF g0 g1 g2 hok hrow hd hsum hN hR hRES hde2 hdr hdn hhe2 hpr
  go_enter Try.func16, Try.ntmps16
  go_upto_region 7 with (first
    | (go_at_call 28; refine (upTo_any _ _ _).mono ?_; rintro e w' ⟨rfl, rfl⟩)
    | (go_at_call 13; refine (HF.out _ B0.out).mono ?_; rintro e w1 ⟨rfl, b1⟩; have B1 := Lib.hid (B0.out.trans (b1.mono B0.out.size)); have F1 := Lib.hid ((b1.block _ (lt_of_block G0.out)).trans G0.out); have Z1 := Lib.hid ((b1.block _ (lt_of_block G1.out)).trans G1.out); clear b1; obtain ⟨q0, q1, q2, q3⟩ := bkG F1.out))
  go_cut [67] from 41 to 67 (fun c67 wx => c67 = .bool (decide ((0 ≤ g.final ∧ (g.final < off + N ∨ fin = true ∧ off + N < g.final)) ∨ fin = true ∧ off + N < R)) ∧ Hid (Below w.heap.size w wx) ∧ Hid (wx.heap[w.heap.size]? = some (.cells #[.int .i64 g.done, .slice A g.held.length c, .int .i64 g.final, .int .i64 g.window] 24 (0, 0))) ∧ Hid (wx.heap[w.heap.size + 1]? = some (.cells #[.int .i64 0, .slice none 0 0, .int .i64 0, .int .i64 0] 24 (0, 0))))
  case first =>
    have hrc : ∀ (a b : Int), decide (a > b) = decide (b < a) := fun a b => rfl
    by_cases a : 0 ≤ g.final
    · by_cases b : g.final < off + N
      · go_wp2_with fail
        go_meet
        exact ⟨congrArg Value.bool (by first | (simp [*]; done) | (simp [*]; omega)), B1, F1, Z1⟩
      · cases fin with
        | true =>
          by_cases b2 : off + N < g.final
          · go_wp2_with fail
            go_meet
            exact ⟨congrArg Value.bool (by first | (simp [*]; done) | (simp [*]; omega)), B1, F1, Z1⟩
          · by_cases b3 : off + N < R
            · go_wp2_with (go_at_call 32; refine (HRE.out _ B1.out).mono ?_; rintro e w2 ⟨rfl, b2⟩; have B2 := Lib.hid (B1.out.trans (b2.mono B1.out.size)); have F2 := Lib.hid ((b2.block _ (lt_of_block F1.out)).trans F1.out); have Z2 := Lib.hid ((b2.block _ (lt_of_block Z1.out)).trans Z1.out); clear b2)
              go_meet
              exact ⟨congrArg Value.bool (by first | (simp [*]; done) | (simp [*]; omega)), B2, F2, Z2⟩
            · go_wp2_with (go_at_call 32; refine (HRE.out _ B1.out).mono ?_; rintro e w2 ⟨rfl, b2⟩; have B2 := Lib.hid (B1.out.trans (b2.mono B1.out.size)); have F2 := Lib.hid ((b2.block _ (lt_of_block F1.out)).trans F1.out); have Z2 := Lib.hid ((b2.block _ (lt_of_block Z1.out)).trans Z1.out); clear b2)
              go_meet
              exact ⟨congrArg Value.bool (by first | (simp [*]; done) | (simp [*]; omega)), B2, F2, Z2⟩
        | false =>
          go_wp2_with fail
          go_meet
          exact ⟨congrArg Value.bool (by first | (simp [*]; done) | (simp [*]; omega)), B1, F1, Z1⟩
    · cases fin with
      | true =>
        by_cases b3 : off + N < R
        · go_wp2_with (go_at_call 32; refine (HRE.out _ B1.out).mono ?_; rintro e w2 ⟨rfl, b2⟩; have B2 := Lib.hid (B1.out.trans (b2.mono B1.out.size)); have F2 := Lib.hid ((b2.block _ (lt_of_block F1.out)).trans F1.out); have Z2 := Lib.hid ((b2.block _ (lt_of_block Z1.out)).trans Z1.out); clear b2)
          go_meet
          exact ⟨congrArg Value.bool (by first | (simp [*]; done) | (simp [*]; omega)), B2, F2, Z2⟩
        · go_wp2_with (go_at_call 32; refine (HRE.out _ B1.out).mono ?_; rintro e w2 ⟨rfl, b2⟩; have B2 := Lib.hid (B1.out.trans (b2.mono B1.out.size)); have F2 := Lib.hid ((b2.block _ (lt_of_block F1.out)).trans F1.out); have Z2 := Lib.hid ((b2.block _ (lt_of_block Z1.out)).trans Z1.out); clear b2)
          go_meet
          exact ⟨congrArg Value.bool (by first | (simp [*]; done) | (simp [*]; omega)), B2, F2, Z2⟩
      | false =>
        go_wp2_with fail
        go_meet
        exact ⟨congrArg Value.bool (by first | (simp [*]; done) | (simp [*]; omega)), B1, F1, Z1⟩
  case rest =>
    obtain ⟨hc, BW, FW, ZW⟩ := hcut
    by_cases bad : (0 ≤ g.final ∧ (g.final < off + N ∨ fin = true ∧ off + N < g.final)) ∨ fin = true ∧ off + N < R
    · rw [decide_eq_true bad] at hc
      subst hc
      have e := HP.out
      rw [if_pos bad] at e
      subst e
      clear bad HP HRE
      obtain ⟨z0, z1, z2, z3⟩ := bkG ZW.out
      have zf := fun i => bk_frz ZW.out i
      go_wp2_with fail
      obtain ⟨r0, r1, r2, r3, gp⟩ := bkG_put ZW.out (.int .i64 0) (.slice none 0 0) (.int .i64 0) (.int .i64 0)
      refine bodyPost_ret (by simp [results, Try.results16, go_sem, r0, r1, r2, r3]; try rfl) rfl ?_
      exact ⟨gr_from BW.out BW.out.size (Nat.le_succ _) gp, _, rfl, ⟨_, rfl, PSl.nil _ _⟩⟩
    rw [decide_eq_false bad] at hc
    subst hc
    have HQ := HP.out
    rw [if_neg bad] at HQ
    clear bad HP HRE HF
    obtain ⟨q0, q1, q2, q3⟩ := bkG FW.out
    by_cases flow : g.window < off + N
    · rw [if_pos flow] at HQ
      subst HQ
      obtain ⟨z0, z1, z2, z3⟩ := bkG ZW.out
      have zf := fun i => bk_frz ZW.out i
      go_wp2_with fail
      obtain ⟨r0, r1, r2, r3, gp⟩ := bkG_put ZW.out (.int .i64 0) (.slice none 0 0) (.int .i64 0) (.int .i64 0)
      refine bodyPost_ret (by simp [results, Try.results16, go_sem, r0, r1, r2, r3]; try rfl) rfl ?_
      exact ⟨gr_from BW.out BW.out.size (Nat.le_succ _) gp, _, rfl, ⟨_, rfl, PSl.nil _ _⟩⟩
    rw [if_neg flow] at HQ
    have HP := Lib.hid HQ
    clear HQ
    go_upto_region 12 with fail
    have S0 := Lib.hid (show PutSt w g (.slice A g.held.length c) wc.heap.size 0 (dF g off d 0) (wc.alloc (.map #[] 0)) from ⟨BW.out.alloc BW.out.size _, (Below.heap_alloc _ _ _ (lt_of_block FW.out)).trans FW.out, (Below.heap_alloc _ _ _ (lt_of_block ZW.out)).trans ZW.out, ⟨_, World.ownsMap_made wc Try.prog 3 (plainElem Try.prog 5), MapB.empty.congr (dF_zero g off d)⟩, by have := lt_of_block ZW.out; omega⟩)
    obtain ⟨M, hM⟩ : ∃ M, wc.heap.size = M := ⟨_, rfl⟩
    rw [hM] at S0 ⊢
    obtain ⟨W0, hW0⟩ : ∃ W0, wc.alloc (.map #[] 0) = W0 := ⟨_, rfl⟩
    rw [hW0] at S0 ⊢
    clear q0 q1 q2 q3 hM hW0 BW FW ZW hmm flow
    go_wp2_with fail
    go_loopg [77] N (fun gq iv wr => ∃ k : Nat, iv = .int .i64 k ∧ k + gq = N ∧ Hid (PutSt w g (.slice A g.held.length c) M k (dF g off d k) wr))
    case atStart => exact ⟨0, rfl, by omega, S0⟩
    case round =>
      obtain ⟨k, rfl, hkg, SK⟩ := hrel
      by_cases hk : k < N
      · obtain ⟨b, o, hA, hb, hcell⟩ := HD.out.2 (by rw [HN.out]; omega)
        subst hA
        have x0 := (SK.out.be.cell (p := ⟨b, o + k, none⟩) hb).trans (hcell k (by rw [HN.out]; exact hk))
        have hz := HD.out.1 k
        have hwk : IntKind.i64.wrap (off + (k : Int)) = off + (k : Int) := by rw [IntKind.wrap_i64]; omega
        have hsl := HSUM.out
        obtain ⟨q0, q1, q2, q3⟩ := bkG SK.out.gc
        obtain ⟨D, O, MB⟩ := SK.out.mp
        by_cases hdk : g.done ≤ off + k
        · have HST := Lib.hid (dF_yes g off d k hdk)
          obtain ⟨z, hz0⟩ : ∃ z, d.getD k 0 = z := ⟨_, rfl⟩
          rw [hz0] at x0 hz HST
          have OO := Lib.hid O
          have MM := Lib.hid MB
          clear hz0 O MB hcell
          go_wp2_with (at_mapUpdate; refine wpList_mapUpdate_own _ rfl _ _ _ 59 rfl 3 5 (Maps.int_keyed Try.underlying3) Try.underlying59 _ M k D rfl OO.out (by unfold maxLen; omega) _ _ (ky (off + k)) rfl rfl (Maps.keyOf_int_mk Try.underlying3 (wf_ky (by omega) (by omega))) _ [] (plainElem_int Try.underlying5 (wf_u8 hz.1 hz.2)) ?_; intro w2 own2 gr2; have S2 := Lib.hid (SK.out.store MM.out own2 gr2); clear own2 gr2)
          go_roundg (gk - 1)
          case measure => omega
          case rel => exact ⟨k + 1, by first | rfl | go_num, by omega, Lib.hid (S2.out.more (Nat.le_refl _) HST.out)⟩
        · have HST := Lib.hid (dF_no g off d k hdk)
          clear O MB hcell
          go_wp2_with fail
          go_roundg (gk - 1)
          case measure => omega
          case rel => exact ⟨k + 1, by first | rfl | go_num, by omega, Lib.hid (SK.out.more (Nat.le_succ _) HST.out)⟩
      · obtain rfl : k = N := by omega
        obtain rfl : gk = 0 := by omega
        have S1 := Lib.hid (SK.out.more (n' := k + sumP (g.held.take 0)) (Nat.le_refl _) (fun x => show dF g off d k x = hF g off d (g.held.take 0) x by rw [List.take_zero, ← hF_zero, HN.out]))
        obtain ⟨q0, q1, q2, q3⟩ := bkG SK.out.gc
        have hhl : g.held.length ≤ 4 := HOK.out.2.2.2.1
        go_wp2_with fail
        clear q0 q1 q2 q3 SK
        go_loopg [97] g.held.length (fun gq iv wr => ∃ j : Nat, iv = .int .i64 j ∧ j + gq = g.held.length ∧ Hid (PutSt w g (.slice A g.held.length c) M (k + sumP (g.held.take j)) (hF g off d (g.held.take j)) wr))
        case atStart => exact ⟨0, rfl, by omega, S1⟩
        case round =>
          obtain ⟨j, rfl, hjg, SJ⟩ := hrel
          by_cases hj : j < g.held.length
          · obtain ⟨b0, o, hA, hb0, hcj⟩ := HPR.out (by omega)
            subst hA
            obtain ⟨e1, dv, e2, hdv⟩ := hcj j hj
            obtain ⟨A2, c2, rfl, h2c, h2m, h2n, h2r⟩ := hdv.ex
            have x0 := (SJ.out.be.cell (p := ⟨b0, o + j * 2, none⟩) hb0).trans e1
            have x1 := (SJ.out.be.cell (p := ⟨b0, o + j * 2 + 1, none⟩) hb0).trans e2
            have hmem : g.held.getD j pc0 ∈ g.held := by rw [List.getD_eq_getElem?_getD, List.getElem?_eq_getElem hj]; exact List.getElem_mem hj
            have hpb := held_bd HOK.out _ hmem
            have hs1 := sum_take hj
            have hs2 := sum_le g.held (j + 1)
            have htk := take_step hj
            have hok2 := ok_take HOK.out.2.2.2.2.1 (j + 1)
            rw [htk] at hok2
            obtain ⟨p, hp⟩ : ∃ p, g.held.getD j pc0 = p := ⟨_, rfl⟩
            rw [hp] at x0 x1 h2c h2r hpb hs1 htk hok2
            obtain ⟨po, zs⟩ := p
            simp only at x0 x1 h2c h2r hpb hs1
            obtain ⟨m, hm⟩ : ∃ m, zs.length = m := ⟨_, rfl⟩
            have hme : endP (po, zs) = po + (m : Int) := by unfold endP; rw [hm]
            rw [hm] at x1 hs1 h2c
            rw [hme] at hpb
            have HM := Lib.hid hm
            have HTK := Lib.hid htk
            have HOK2 := Lib.hid hok2
            have HR2 := Lib.hid h2r
            have hsl := HSUM.out
            obtain ⟨T, hT⟩ : ∃ T, sumP (g.held.take j) = T := ⟨_, rfl⟩
            obtain ⟨T2, hT2⟩ : ∃ T, sumP (g.held.take (j + 1)) = T := ⟨_, rfl⟩
            rw [hT, hT2] at hs1
            rw [hT] at SJ
            rw [hT2] at hs2
            have HT2 := Lib.hid hT2
            have hjn : (j : Int) < (g.held.length : Int) := by omega
            unfold maxLen at h2m
            obtain ⟨wq, hwq⟩ : ∃ q, q = wr := ⟨_, rfl⟩
            subst hwq
            obtain ⟨qk, hqk⟩ : ∃ q, q = gk := ⟨_, rfl⟩
            subst hqk
            have S2 := Lib.hid ((SJ.out.alloc (.cells #[.int .i64 po, .slice A2 m c2] 55)).more (n' := k + T + 0) (Nat.le_refl _) (hF_begin g off d (g.held.take j) po zs))
            have FP := Lib.hid (heap_alloc_new wq (.cells #[.int .i64 po, .slice A2 m c2] 55))
            have hMq : M < wq.heap.size := by obtain ⟨D, O, _⟩ := SJ.out.mp; exact O.lt
            clear hp hme hm htk hok2 h2r hcj e1 e2 hdv hmem hT hT2 h2n
            go_wp2_with fail
            go_loopg [104] m (fun gq iv wr => ∃ i : Nat, iv = .int .i64 i ∧ i + gq = m ∧ Hid (PutSt w g (.slice (some ⟨b0, o, none⟩) g.held.length c) M (k + T + i) (hF g off d (g.held.take j ++ [(po, zs.take i)])) wr) ∧ Hid (wr.heap[wq.heap.size]? = some (.cells #[.int .i64 po, .slice A2 m c2] 55 (0, 0))))
            case atStart => exact ⟨0, rfl, by omega, S2, FP⟩
            case round =>
              obtain ⟨i, rfl, hig, SI, FI⟩ := hrel
              by_cases hi : i < m
              · obtain ⟨b2, o2, hA2, hb2, hcell2⟩ := HR2.out.2 (by rw [HM.out]; omega)
                subst hA2
                have y0 := (SI.out.be.cell (p := ⟨b2, o2 + i, none⟩) hb2).trans (hcell2 i (by rw [HM.out]; exact hi))
                have hz := HR2.out.1 i
                have hwk : IntKind.i64.wrap (po + (i : Int)) = po + (i : Int) := by rw [IntKind.wrap_i64]; omega
                have f0 := bk_cell FI.out 0
                have f1 := bk_cell FI.out 1
                simp only [List.getElem?_toArray, List.getElem?_cons_zero, List.getElem?_cons_succ] at f0 f1
                obtain ⟨D, O, MB⟩ := SI.out.mp
                have HST := Lib.hid (hF_step g off d (g.held.take j) po zs (g.done - 1) HOK2.out i (by rw [HM.out]; exact hi))
                obtain ⟨z, hz0⟩ : ∃ z, zs.getD i 0 = z := ⟨_, rfl⟩
                rw [hz0] at y0 hz HST
                have OO := Lib.hid O
                have MM := Lib.hid MB
                clear hz0 O MB hcell2
                go_wp2_with (at_mapUpdate; refine wpList_mapUpdate_own _ rfl _ _ _ 59 rfl 3 5 (Maps.int_keyed Try.underlying3) Try.underlying59 _ M (k + T + i) D rfl OO.out (by unfold maxLen; omega) _ _ (ky (po + i)) rfl rfl (Maps.keyOf_int_mk Try.underlying3 (wf_ky (by omega) (by omega))) _ [] (plainElem_int Try.underlying5 (wf_u8 hz.1 hz.2)) ?_; intro w2 own2 gr2; have S3 := Lib.hid (SI.out.store MM.out own2 gr2); have FI2 := Lib.hid ((gr2.block _ (lt_of_block FI.out) (fun e => by cases e; omega)).trans FI.out); clear own2 gr2)
                go_roundg (gk - 1)
                case measure => omega
                case rel => exact ⟨i + 1, by first | rfl | go_num, by omega, Lib.hid (S3.out.more (Nat.le_refl _) HST.out), FI2⟩
              · obtain rfl : i = m := by omega
                obtain rfl : gk = 0 := by omega
                have S4 := Lib.hid (SI.out.more (n' := k + sumP (g.held.take (j + 1))) (by rw [HT2.out]; omega) (fun x => show hF g off d (g.held.take j ++ [(po, zs.take i)]) x = hF g off d (g.held.take (j + 1)) x by rw [HTK.out, ← HM.out, List.take_length]))
                go_wp2_with fail
                go_roundg (qk - 1)
                case measure => omega
                case rel => exact ⟨j + 1, by first | rfl | go_num, by omega, S4⟩
          · obtain rfl : j = g.held.length := by omega
            obtain rfl : gk = 0 := by omega
            have hsl := HSUM.out
            have S5 := Lib.hid (SJ.out.more (n' := 1048576) (by rw [List.take_length]; omega) (fun x => show hF g off d (g.held.take g.held.length) x = putF g off d x by rw [List.take_length]; rfl))
            obtain ⟨W1, hW1⟩ : ∃ q, q = wr := ⟨_, rfl⟩
            subst hW1
            obtain ⟨D, O, MB⟩ := S5.out.mp
            have OO := Lib.hid O
            have MM := Lib.hid MB
            have hsz := size_le O
            have hMr := O.lt
            have hlo := S5.out.lo
            obtain ⟨r, hr⟩ : ∃ r, W1.heap.size = r := ⟨_, rfl⟩
            clear SJ O MB hjg
            go_wp2_with (at_range; refine wpList_range_own _ rfl _ 59 rfl 3 5 (Maps.int_keyed Try.underlying3) Try.underlying59 (plainElem Try.prog 5) M 1048576 D rfl OO.out ?_; intro w3 hrg3 hg3 hs3)
            go_frame
            rw [hr] at hrg3 hs3 hMr ⊢
            have S6 := Lib.hid (S5.out.grown hg3 (fun j e => by cases e))
            have R3 := Lib.hid hrg3
            clear hrg3 hg3 S5 OO
            go_loopg [19] (Maps.size D) (fun gq pv wr => ∃ (ks : List Int) (left : Lit → Bool) (A' : Option Addr) (c' : Nat), pv = .slice A' ks.length c' ∧ ks.length + gq ≤ Maps.size D ∧ Hid (wr.ownsRow (r + 1) 3 1 (.slice A' ks.length c') ks.length (ks.map (.int .i64))) ∧ Hid (wr.ranges Try.prog 3 (plainElem Try.prog 5) M r 1048576 D left gq) ∧ Hid (CollI D left ks) ∧ Hid (PutSt w g (.slice A g.held.length c) M 1048576 (putF g off d) wr) ∧ r < wr.heap.size)
            case atStart => exact ⟨[], _, none, 0, rfl, by simp, Lib.hid ⟨rfl, .inl ⟨rfl, rfl⟩⟩, R3, Lib.hid (CollI.start D), S6, by omega⟩
            case round =>
              obtain ⟨ks, left, A', c', rfl, hkl, OK, RK, CK, SK, hrl⟩ := hrel
              obtain ⟨W2, hW2⟩ : ∃ q, q = wr := ⟨_, rfl⟩
              subst hW2
              obtain ⟨i0, hi0, hz0, hz1, hz2⟩ := info_parts infoI
              have HI := Lib.hid hi0
              have HZ := Lib.hid hz0
              have HZ1 := Lib.hid hz1
              have HZ2 := Lib.hid hz2
              clear hi0 hz0 hz1 hz2
              go_wp2_with (at_next; refine wpList_next_ranges_ii _ rfl _ rfl 3 5 .i64 .u8 (Maps.int_keyed Try.underlying3) Try.underlying3 Try.underlying5 M r 1048576 D left gk rfl RK.out ?_ ?_)
              · intro hc0 hl0
                subst hc0
                have HMEM := Lib.hid (CK.out.done MM.out hl0)
                have HND := Lib.hid CK.out.1
                have hlo2 := fun g hg => (World.ownsRow.lt OK.out g hg).1
                have HLO := Lib.hid hlo2
                clear RK CK hlo2
                go_wp2_with fail
                refine (hS (r + 1) (.slice A' ks.length c') ks _ OK.out (by omega) (by omega)).mono ?_
                rintro e w5 ⟨rfl, o5, g5⟩
                have S6 := Lib.hid (SK.out.grown g5 (fun j e => by have := HLO.out j e; omega))
                have hr5 : r + 1 ≤ w5.heap.size := by have := g5.size; omega
                have HRS := Lib.hid (sort_rises HND.out)
                have HMS := Lib.hid (fun x => (sort_mem (ks := ks) (x := x)).trans (HMEM.out x))
                have hnl := sort_len (ks := ks)
                obtain ⟨pl, hpl⟩ : ∃ pl, (ks.mergeSort fun x y => decide (x ≤ y)) = pl := ⟨_, rfl⟩
                rw [hpl] at o5 HRS HMS hnl
                obtain ⟨n, hn⟩ : ∃ n, ks.length = n := ⟨_, rfl⟩
                rw [hn] at o5 hnl HLO hkl
                have O5 := Lib.hid o5
                have HNL := Lib.hid hnl
                obtain ⟨_, _, hsl5, hnc5, hcm5⟩ := own_slice o5
                injection hsl5 with hsa hsb hsc
                subst hsa hsc
                unfold maxLen at hcm5
                rw [hn]
                clear o5 g5 OK SK HMEM HND hpl hnl hn hsb
                go_wp2_with fail
                go_loopg [21, 131] n (fun gq lv iv wr => ∃ (k1 : Nat) (cs : List PC), iv = .int .i64 k1 ∧ k1 + gq = n ∧ cs.length ≤ k1 ∧ Hid (RowP wr (r + 1) lv cs) ∧ Hid (wr.ownsRow (r + 1) 3 1 (.slice A' n c') n (pl.map (.int .i64))) ∧ Hid (PutSt w g (.slice A g.held.length c) M 1048576 (putF g off d) wr) ∧ Hid (Grp (g.done - 1) (putF g off d) (pl.take k1) (cs.map PC.pc)) ∧ r + 1 ≤ wr.heap.size)
                case atStart => exact ⟨0, [], rfl, by omega, Nat.le_refl _, Lib.hid (RowP.nil _ _), O5, S6, Lib.hid (Grp.start _ _), hr5⟩
                case round =>
                  obtain ⟨k1, cs, rfl, hkg, hck, PK, OK, SK, GK, hrk⟩ := hrel
                  by_cases hk1 : k1 < n
                  · obtain ⟨hlt1, htk1, hlast1⟩ := rise_step HRS.out (k := k1) (by rw [HNL.out]; exact hk1)
                    have hxm : pl.getD k1 0 ∈ pl := by rw [List.getD_eq_getElem?_getD, List.getElem?_eq_getElem (by rw [HNL.out]; exact hk1)]; exact List.getElem_mem _
                    have hgp : ∀ j : Nat, j < n → (pl.map (Value.int .i64))[j]? = some (.int .i64 (pl.getD j 0)) := fun j hj => by
                      rw [List.getElem?_map, List.getElem?_eq_getElem (by rw [HNL.out]; exact hj), List.getD_eq_getElem?_getD, List.getElem?_eq_getElem (by rw [HNL.out]; exact hj)]; rfl
                    obtain ⟨b5, hA5, hb5, hcell5⟩ : ∃ b, A' = some ⟨b, 0, none⟩ ∧ b < wr.heap.size ∧ ∀ j : Nat, j < n → wr.cell? ⟨b, j, none⟩ = some (.int .i64 (pl.getD j 0)) := by
                      have OO5 := OK.out
                      rcases OK.out.2 with ⟨e, h0⟩ | ⟨gg, cap, cur, e, _, hh, _⟩
                      · omega
                      · injection e with e1 e2 e3
                        subst e1
                        exact ⟨gg, rfl, lt_of_block hh, fun j hj => (OO5.cellAt j (by omega)).trans (hgp j hj)⟩
                    subst hA5
                    have c5 := hcell5 k1 hk1
                    have c5p := fun h : 0 < k1 => hcell5 (k1 - 1) (by omega)
                    obtain ⟨z, hfz⟩ := Option.isSome_iff_exists.1 ((HMS.out _).1 hxm)
                    have hxb := putF_bd HOK.out h0 (by rw [HN.out]; exact h1) hfz
                    have hdn0 := HOK.out.1
                    obtain ⟨xp, hxp⟩ : ∃ x, pl.getD (k1 - 1) 0 = x := ⟨_, rfl⟩
                    rw [hxp] at c5p hlast1
                    obtain ⟨x, hx⟩ : ∃ x, pl.getD k1 0 = x := ⟨_, rfl⟩
                    rw [hx] at hlt1 htk1 c5 hfz hxb
                    have HFZ := Lib.hid hfz
                    have HLT := Lib.hid hlt1
                    have HTK := Lib.hid htk1
                    have HLA := Lib.hid hlast1
                    have hnk : (k1 : Int) < (n : Int) := by omega
                    have hwx : IntKind.i64.wrap (x - 1) = x - 1 := by rw [IntKind.wrap_i64]; omega
                    obtain ⟨W4, hW4⟩ : ∃ q, q = wr := ⟨_, rfl⟩
                    subst hW4
                    clear hlt1 htk1 hlast1 hxm hgp hfz hcell5 hx hxp
                    go_upto_region 37 with fail
                    go_cut [131, 147] from 131 to 171 (fun iv c147 wx => iv = .int .i64 (k1 : Int) ∧ c147 = .bool (decide (k1 = 0 ∨ xp ≠ x - 1)) ∧ wx = W4)
                    case first =>
                      by_cases e0 : k1 = 0
                      · subst e0
                        go_wp2_with fail
                        go_meet
                        exact ⟨rfl, congrArg Value.bool (by simp), rfl⟩
                      · have e0' : ((k1 : Int) == 0) = false := by simp; omega
                        have cp := c5p (by omega)
                        have hwk : IntKind.i64.wrap ((k1 : Int) - 1) = ((k1 - 1 : Nat) : Int) := by rw [IntKind.wrap_i64]; omega
                        have hk11 : ((k1 - 1 : Nat) : Int) < (n : Int) := by omega
                        by_cases e1 : xp = x - 1
                        · subst e1
                          go_wp2_with fail
                          go_meet
                          exact ⟨rfl, congrArg Value.bool (by simp [e0]), rfl⟩
                        · have e1' : (xp != x - 1) = true := by simp [e1]
                          go_wp2_with fail
                          go_meet
                          exact ⟨rfl, congrArg Value.bool (by simp [e1]), rfl⟩
                    case rest =>
                    obtain ⟨rfl, rfl, rfl⟩ := hcut
                    go_upto_if 147 with fail
                    go_cut [21, 131] from 131 to 171 (fun lv iv wx => iv = .int .i64 (k1 : Int) ∧ ∃ (qs : List PC) (p : PC), qs.length ≤ k1 ∧ Hid (RowP wx (r + 1) lv (qs ++ [p])) ∧ Hid (wx.ownsRow (r + 1) 3 1 (.slice (some ⟨b5, 0, none⟩) n c') n (pl.map (.int .i64))) ∧ Hid (PutSt w g (.slice A g.held.length c) M 1048576 (putF g off d) wx) ∧ Hid (Grp (g.done - 1) (putF g off d) (pl.take (k1 + 1)) (qs.map PC.pc ++ [(p.off, p.zs ++ [z])])) ∧ r + 1 ≤ wx.heap.size)
                    case first =>
                      by_cases hnew : k1 = 0 ∨ xp ≠ x - 1
                      · have HG := Lib.hid (GK.out.push (x := x) (c := z) hxb.1 HLT.out HFZ.out (fun y hy => by
                          rw [HLA.out] at hy
                          by_cases e0 : k1 = 0
                          · rw [if_pos e0] at hy; cases hy
                          · rw [if_neg e0] at hy; cases hy; omega))
                        rw [decide_eq_true hnew]
                        obtain ⟨Al, cl, hlv, hlc, hlm⟩ := PK.out.slice
                        have PA := Lib.hid (PK.out.alloc (.cells #[.int .i64 x, .slice none 0 0] 55))
                        have NA := Lib.hid (heap_alloc_new wc (.cells #[.int .i64 x, .slice none 0 0] 55))
                        have PL := Lib.hid PK.out.lt
                        have OAP := Lib.hid (own_apart OK.out PK.out.own (by decide))
                        clear hnew
                        go_wp2_with (at_builtin
                                     refine wpList_pushP _ rfl (.tmp 148) (.tmp 151) rfl (r + 1) _ cs rfl PA.out wc.heap.size 1 x rfl NA.out (by omega) (by simp; omega) ?_
                                     intro v2 w4 P2 g2
                                     have PP2 := Lib.hid P2
                                     have gall := (World.grownBy_alloc wc (.cells #[.int .i64 x, .slice none 0 0] 55) _).trans g2
                                     have S4 := Lib.hid (SK.out.grown gall (fun j e => by have := PL.out j e; omega))
                                     have O4 := Lib.hid (World.ownsRow.kept OK.out gall OAP.out)
                                     have hsz4 := gall.size
                                     clear P2 g2 gall)
                        go_meet
                        exact ⟨rfl, cs, _, hck, PP2, O4, S4, Lib.hid (by rw [HTK.out]; exact HG.out), by omega⟩
                      · have e0 : ¬ k1 = 0 := fun e => hnew (.inl e)
                        have e1 : xp = x - 1 := Decidable.byContradiction fun e => hnew (.inr e)
                        have hla := HLA.out
                        rw [if_neg e0, e1] at hla
                        rw [decide_eq_false hnew]
                        clear hnew
                        rcases List.eq_nil_or_concat cs with e | ⟨qs, p, e⟩
                        · exfalso
                          have := GK.out.last _ hla
                          rw [e] at this
                          simp only [List.map_nil, reachP] at this
                          omega
                        · rw [List.concat_eq_append] at e
                          subst e
                          have hgk := GK.out
                          rw [List.map_append] at hgk
                          have HG := Lib.hid (Grp.more (qs := qs.map PC.pc) (p := p.pc) hgk HLT.out HFZ.out hla)
                          have hql : qs.length ≤ k1 := by rw [List.length_append] at hck; omega
                          clear hgk hla
                          go_wp2_with fail
                          go_meet
                          exact ⟨rfl, qs, p, hql, PK, OK, SK, Lib.hid (by rw [HTK.out]; exact HG.out), hrk⟩
                    case rest =>
                      obtain ⟨rfl, qs, p, hql, PK, OK, SK, GK2, hrk⟩ := hcut
                      obtain ⟨gb, capb, hv, hb1, hb2, hb3, hb4, hbc⟩ := PK.out.at_ (by simp)
                      subst hv
                      obtain ⟨_, xc, fz⟩ := hbc qs.length (by simp)
                      have hpget : (qs ++ [p]).getD qs.length pcz = p := by rw [List.getD_eq_getElem?_getD, List.getElem?_append_right (Nat.le_refl _), Nat.sub_self]; rfl
                      rw [hpget] at xc
                      obtain ⟨po, pz, pa, pcp⟩ := p
                      have hpv : (PC.mk po pz pa pcp).val = .slice pa pz.length pcp := rfl
                      rw [hpv] at xc
                      obtain ⟨nn, hnn⟩ : ∃ m, (qs ++ [PC.mk po pz pa pcp]).length = m := ⟨_, rfl⟩
                      have hnn' : nn = qs.length + 1 := by rw [← hnn]; simp
                      rw [hnn] at hb1 PK ⊢
                      obtain ⟨D2, O2, MB2⟩ := SK.out.mp
                      have hwf : (Lit.int .i64 x).wf = true := wf_ky (by omega) (by omega)
                      obtain ⟨hrun, hbz⟩ := look_run O2 MB2 HFZ.out hwf
                      have HWF := Lib.hid hwf
                      have OO2 := Lib.hid O2
                      have MM2 := Lib.hid MB2
                      have hMb := O2.lt
                      have HPO := Lib.hid (PK.out.oks (PC.mk po pz pa pcp) (by simp)).own
                      have HPB := Lib.hid (PK.out.oks (PC.mk po pz pa pcp) (by simp)).byt
                      have HAP := Lib.hid (own_apart HPO.out PK.out.own (by decide))
                      have HNE := Lib.hid (show (Value.slice pa pz.length pcp).ownBlock ≠ some gb from fun e => by
                        rcases HAP.out with q | q
                        · rw [show (PC.mk po pz pa pcp).val.ownBlock = some gb from e] at q; cases q
                        · exact q e)
                      have hpl := GK2.out.len
                      rw [sumP_app, sumP_one, List.length_append, List.length_singleton, List.length_take] at hpl
                      dsimp only at hpl
                      have hpl2 : pz.length ≤ n := by have := HNL.out; omega
                      obtain ⟨ql, hqll⟩ : ∃ m, qs.length = m := ⟨_, rfl⟩
                      rw [hqll] at xc fz hnn' hql
                      have hwn : IntKind.i64.wrap ((nn : Int) - 1) = (ql : Int) := by rw [IntKind.wrap_i64]; omega
                      have hq0 : (0 : Int) ≤ (ql : Int) := by omega
                      have hq1 : (ql : Int) < (nn : Int) := by omega
                      have HNN := Lib.hid hnn
                      have HQL := Lib.hid hqll
                      have HBC := Lib.hid hbc
                      have HNN2 := Lib.hid hnn'
                      clear MB2 O2 hwf hpv hpget hnn hqll hbc hpl hnn'
                      obtain ⟨i0, hi0, hz0, hz1, hz2⟩ := info_parts infoB1
                      have HI := Lib.hid hi0
                      have HZ := Lib.hid hz0
                      have HZ1 := Lib.hid hz1
                      have HZ2 := Lib.hid hz2
                      clear hi0 hz0 hz1 hz2
                      have OB := Lib.hid ((HPO.out.alloc (.cells #[.int .u8 z] 5)).drew)
                      have hrund := (look_run OO2.out.drew MM2.out HFZ.out HWF.out).1
                      have hruna := (look_run ((OO2.out.alloc (.cells #[.int .u8 z] 5)).drew) MM2.out HFZ.out HWF.out).1
                      have xca : (wc.alloc (.cells #[.int .u8 z] 5)).drew.cell? ⟨gb, ql * 2 + 1, none⟩ = some (.slice pa pz.length pcp) := (World.cell?_alloc_lt _ _ _ hb4).trans xc
                      have NA := Lib.hid (heap_alloc_new wc (.cells #[.int .u8 z] 5))
                      go_upto_region 39 with fail
                      go_region_law
                        ((refine step_append_lies _ (by rfl) (.tmp 163) (.tmp 167) _ (by rfl) (r + 1) 5 i0 (.int .u8 0) 1 1 Try.underlying31 HI.out HZ.out HZ1.out HZ2.out rfl (by decide) (.slice pa pz.length pcp) pz.length (pz.map (.int .u8)) (by rfl) OB.out ⟨wc.heap.size, 0, none⟩ 1 1 [.int .u8 z] (by rfl) (by rfl) (World.news_of_block (cs := #[.int .u8 z]) (t := 5) (fr := (0, 0)) NA.out) (by simp [Value.oneCell']) (by omega) (by unfold maxLen; omega) (by omega) (by simp; omega) (wc.heap.size + 1) (by simp) ?_
                          intro g1 cap1 w1 own1 gr1 hat1 hlt1
                          have O1 := Lib.hid own1
                          have GR1 := Lib.hid gr1
                          have HAT1 := Lib.hid hat1
                          have kb : w1.heap[gb]? = wc.heap[gb]? := (gr1.block gb (by simp; omega) (fun e => HNE.out e.symm)).trans (Below.heap_alloc wc _ gb hb4)
                          have xc1 : w1.cell? ⟨gb, ql * 2 + 1, none⟩ = some (.slice pa pz.length pcp) := by rw [← xc]; simp only [World.cell?, kb]
                          have fz1 : w1.frozen? ⟨gb, ql * 2 + 1, none⟩ = false := by rw [← fz]; simp only [World.frozen?, kb]
                          have hrun1 := (look_run (((OO2.out.alloc (.cells #[.int .u8 z] 5)).drew).kept gr1 (fun e => by have := (World.ownsRow.lt HPO.out M e.symm).1; omega)) MM2.out HFZ.out HWF.out).1
                          clear own1 gr1 hat1 kb))
                      all_goals
                        have PX := Lib.hid ((PK.out.alloc (.cells #[.int .u8 z] 5)).drew)
                        have HLX := Lib.hid (World.ownsRow.kept PX.out.own GR1.out (own_apart PX.out.own OB.out (by decide)))
                        have eq1 : (PC.mk po (pz ++ [z]) (some ⟨g1, 0, none⟩) cap1).val = .slice (some ⟨g1, 0, none⟩) (pz.length + 1) cap1 := by simp [PC.val]
                        obtain ⟨p9, gr9⟩ := PX.out.more (A' := 0) (c' := 0) (q := PC.mk po (pz ++ [z]) (some ⟨g1, 0, none⟩) cap1) hbz rfl rfl (by rw [eq1]; have := O1.out; simpa using this) GR1.out (by
                          rcases HAT1.out with e | e
                          · exact .inl e.symm
                          · exact .inr ⟨g1, rfl, by simp; omega⟩)
                        rw [eq1, HQL.out] at p9 gr9
                        have P9 := Lib.hid p9
                        have OX := Lib.hid (World.ownsRow.kept ((OK.out.alloc (.cells #[.int .u8 z] 5)).drew) GR1.out (own_apart ((OK.out.alloc (.cells #[.int .u8 z] 5)).drew) OB.out (by decide)))
                        have O9 := Lib.hid (World.ownsRow.kept OX.out gr9 (own_apart OX.out HLX.out (by decide)))
                        have S9 := Lib.hid ((((SK.out.alloc (.cells #[.int .u8 z] 5)).drew).grown GR1.out (fun j e => by have := (World.ownsRow.lt HPO.out j e).1; have := SK.out.lo; omega)).grown gr9 (fun j e => by cases e; have := SK.out.lo; omega))
                        have hs9 : r + 1 ≤ (w1.setCell ⟨gb, ql * 2 + 1, none⟩ (.slice (some ⟨g1, 0, none⟩) (pz.length + 1) cap1)).heap.size := by
                          have a1 := gr9.size
                          have a2 := GR1.out.size
                          simp at a1 a2 ⊢
                          omega
                        have HGX := Lib.hid (show Grp (g.done - 1) (putF g off d) (pl.take (k1 + 1)) ((qs ++ [PC.mk po (pz ++ [z]) (some ⟨g1, 0, none⟩) cap1]).map PC.pc) from by rw [List.map_append]; exact GK2.out)
                        have hlx : (qs ++ [PC.mk po (pz ++ [z]) (some ⟨g1, 0, none⟩) cap1]).length ≤ k1 + 1 := by have := HQL.out; simp; omega
                        clear p9 gr9 OX HLX PX SK OK PK GK2 hrun hrund hruna hrun1 xc xca xc1 fz fz1
                        go_wp2_with fail
                        go_roundg (gk - 1)
                        case measure => omega
                        case rel => exact ⟨k1 + 1, _, by first | rfl | go_num, by omega, hlx, P9, O9, S9, HGX, hs9⟩
                  · obtain rfl : k1 = n := by omega
                    obtain rfl : gk = 0 := by omega
                    have hall := grp_put h0 HOK.out.2.2.2.2.1 (show Grp (g.done - 1) (putF g off d) pl (cs.map PC.pc) from by
                      have q := GK.out
                      rwa [List.take_of_length_le (by rw [HNL.out]; exact Nat.le_refl _)] at q) (fun x hx => (HMS.out x).2 hx)
                    have HQ := HP.out
                    rw [← hall, List.length_map] at HQ
                    obtain ⟨AL, cL, rfl, hL1, hL2⟩ := PK.out.slice
                    by_cases big : 4 < cs.length
                    · rw [if_pos big] at HQ
                      subst HQ
                      have bigi : ((cs.length : Nat) : Int) > 4 := by omega
                      obtain ⟨z0, z1, z2, z3⟩ := bkG SK.out.zc
                      have zf := fun i => bk_frz SK.out.zc i
                      go_wp2_with fail
                      obtain ⟨r0, r1, r2, r3, gp⟩ := bkG_put SK.out.zc (.int .i64 0) (.slice none 0 0) (.int .i64 0) (.int .i64 0)
                      refine bodyPost_ret (by simp [results, Try.results16, go_sem, r0, r1, r2, r3]; try rfl) rfl ?_
                      exact ⟨gr_from SK.out.be SK.out.be.size (Nat.le_succ _) gp, _, rfl, ⟨_, rfl, PSl.nil _ _⟩⟩
                    · rw [if_neg big] at HQ
                      subst HQ
                      have bigi : ¬ ((cs.length : Nat) : Int) > 4 := by omega
                      have hlo9 := SK.out.lo
                      obtain ⟨z0, z1, z2, z3⟩ := bkG SK.out.zc
                      have zf := fun i => bk_frz SK.out.zc i
                      obtain ⟨q0, q1, q2, q3⟩ := bkG SK.out.gc
                      have qf := fun i => bk_frz SK.out.gc i
                      cases fin with
                      | true =>
                        go_upto_region 46 with fail
                        have G1x := Lib.hid (show wr.grownBy ((wr.setCell ⟨w.heap.size, 1, none⟩ (.slice AL cs.length cL)).setCell ⟨w.heap.size, 2, none⟩ (.int .i64 (off + (k : Int)))) (some w.heap.size) from gr_trans (gr_set wr w.heap.size 1 (.slice AL cs.length cL)) (gr_set (wr.setCell ⟨w.heap.size, 1, none⟩ (.slice AL cs.length cL)) w.heap.size 2 (.int .i64 (off + (k : Int)))))
                        have f1 : (wr.setCell ⟨w.heap.size, 1, none⟩ (.slice AL cs.length cL)).heap[w.heap.size]? = some (.cells #[.int .i64 g.done, .slice AL cs.length cL, .int .i64 g.final, .int .i64 g.window] 24 (0, 0)) := by simpa using bk_set SK.out.gc 1 (.slice AL cs.length cL)
                        have F1x := Lib.hid (show ((wr.setCell ⟨w.heap.size, 1, none⟩ (.slice AL cs.length cL)).setCell ⟨w.heap.size, 2, none⟩ (.int .i64 (off + (k : Int)))).heap[w.heap.size]? = some (.cells #[.int .i64 g.done, .slice AL cs.length cL, .int .i64 (off + (k : Int)), .int .i64 g.window] 24 (0, 0)) by simpa using bk_set f1 2 (.int .i64 (off + (k : Int))))
                        clear f1
                        have ZGx := Lib.hid ((G1x.out.block _ (lt_of_block SK.out.zc) (fun e => by injection e; omega)).trans SK.out.zc)
                        obtain ⟨W9, hW9⟩ : ∃ W, ((wr.setCell ⟨w.heap.size, 1, none⟩ (.slice AL cs.length cL)).setCell ⟨w.heap.size, 2, none⟩ (.int .i64 (off + (k : Int)))) = W := ⟨_, rfl⟩
                        rw [hW9] at G1x F1x ZGx ⊢
                        clear hW9 z0 z1 z2 z3 zf q0 q1 q2 q3 qf
                        obtain ⟨z0, z1, z2, z3⟩ := bkG ZGx.out
                        have zf := fun i => bk_frz ZGx.out i
                        obtain ⟨q0, q1, q2, q3⟩ := bkG F1x.out
                        go_wp2_with fail
                        obtain ⟨r0, r1, r2, r3, gp⟩ := bkG_put ZGx.out (.int .i64 g.done) (.slice AL cs.length cL) (.int .i64 (off + (k : Int))) (.int .i64 g.window)
                        refine bodyPost_ret (by simp [results, Try.results16, go_sem, r0, r1, r2, r3]; try rfl) rfl ?_
                        have hbx := gr_from SK.out.be SK.out.be.size (Nat.le_refl _) G1x.out
                        exact ⟨gr_from hbx hbx.size (Nat.le_succ _) gp, _, rfl, ⟨_, rfl, ((pf_of PK.out hall (Nat.le_refl (r + 1))).on (Keeps.trans (Keeps.gr G1x.out (by omega)) (Keeps.gr gp (by omega)))).now⟩⟩
                      | false =>
                        go_upto_region 46 with fail
                        have G1x := Lib.hid (show wr.grownBy (wr.setCell ⟨w.heap.size, 1, none⟩ (.slice AL cs.length cL)) (some w.heap.size) from gr_set wr w.heap.size 1 (.slice AL cs.length cL))
                        have F1x := Lib.hid (show (wr.setCell ⟨w.heap.size, 1, none⟩ (.slice AL cs.length cL)).heap[w.heap.size]? = some (.cells #[.int .i64 g.done, .slice AL cs.length cL, .int .i64 g.final, .int .i64 g.window] 24 (0, 0)) by simpa using bk_set SK.out.gc 1 (.slice AL cs.length cL))
                        have ZGx := Lib.hid ((G1x.out.block _ (lt_of_block SK.out.zc) (fun e => by injection e; omega)).trans SK.out.zc)
                        obtain ⟨W9, hW9⟩ : ∃ W, (wr.setCell ⟨w.heap.size, 1, none⟩ (.slice AL cs.length cL)) = W := ⟨_, rfl⟩
                        rw [hW9] at G1x F1x ZGx ⊢
                        clear hW9 z0 z1 z2 z3 zf q0 q1 q2 q3 qf
                        obtain ⟨z0, z1, z2, z3⟩ := bkG ZGx.out
                        have zf := fun i => bk_frz ZGx.out i
                        obtain ⟨q0, q1, q2, q3⟩ := bkG F1x.out
                        go_wp2_with fail
                        obtain ⟨r0, r1, r2, r3, gp⟩ := bkG_put ZGx.out (.int .i64 g.done) (.slice AL cs.length cL) (.int .i64 g.final) (.int .i64 g.window)
                        refine bodyPost_ret (by simp [results, Try.results16, go_sem, r0, r1, r2, r3]; try rfl) rfl ?_
                        have hbx := gr_from SK.out.be SK.out.be.size (Nat.le_refl _) G1x.out
                        exact ⟨gr_from hbx hbx.size (Nat.le_succ _) gp, _, rfl, ⟨_, rfl, ((pf_of PK.out hall (Nat.le_refl (r + 1))).on (Keeps.trans (Keeps.gr G1x.out (by omega)) (Keeps.gr gp (by omega)))).now⟩⟩
              · intro x cv w3 cnt1 hwx hwc hlx hat hrg1 hlt hg1 hs1 hen
                have C1 := Lib.hid (CK.out.step hlx hat)
                have S1 := Lib.hid (SK.out.grown hg1 (fun j e => by cases e; omega))
                have hlo2 := fun g hg => (World.ownsRow.lt OK.out g hg).1
                have O1 := Lib.hid (World.ownsRow.kept OK.out hg1 (by
                  cases hv : (Value.slice A' ks.length c').ownBlock with
                  | none => exact .inl rfl
                  | some j => exact .inr (fun e => by cases e; have := hlo2 _ hv; omega)))
                have R1 := Lib.hid hrg1
                have HLO := Lib.hid hlo2
                have HS1 := Lib.hid hs1
                have hr1 : r < w3.heap.size := by rw [hs1]; exact hrl
                clear RK CK SK OK hrg1 hg1 hlx hat hlo2 hs1
                go_wp2_with (at_builtin
                             refine wpList_append_own_at _ rfl (.tmp 123) (.tmp 125) 49 rfl (r + 1) 3 i0 (.int .i64 0) 1 8 Try.underlying49 HI.out HZ.out HZ1.out HZ2.out rfl (by decide) (.slice A' ks.length c') ks.length (ks.map (.int .i64)) rfl (O1.out.alloc _) ⟨w3.heap.size, 0, none⟩ 1 1 [.int .i64 x] rfl rfl (cell_one_new _ _ _) (ints_oneCell .i64 [x]) (by unfold maxLen; omega) (by omega) (by simp; omega) ?_
                             intro v2 w4 own2 g2 hnil2 hr2
                             obtain ⟨A2, c2, hv2, _, _⟩ := own_slice own2
                             subst hv2
                             have O4 := Lib.hid own2
                             have gall := (World.grownBy_alloc w3 (.cells #[.int .i64 x] 3) (Value.slice A' ks.length c').ownBlock).trans g2
                             have S4 := Lib.hid (S1.out.grown gall (fun j e => by have := HLO.out j e; omega))
                             have R4 := Lib.hid (R1.out.kept gall (fun e => by have := HLO.out _ e.symm; omega) (fun e => by have := HLO.out _ e.symm; omega))
                             have hsz4 := gall.size
                             clear own2 g2 hr2 hnil2 gall)
                have e9 : (ks ++ [x]).length = ks.length + 1 := by simp
                go_roundg cnt1
                case measure => omega
                case rel => exact ⟨ks ++ [x], _, A2, c2, by rw [e9], by rw [e9]; omega, Lib.hid (by rw [e9, List.map_append]; exact O4.out), R4, C1, S4, by omega⟩
end Go.Proofs.Ytippenbfoaohoaa
