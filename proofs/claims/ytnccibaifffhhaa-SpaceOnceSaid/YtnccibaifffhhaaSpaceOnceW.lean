/- The walk of SpaceOnce. -/
import Derived.Test.YtnccibaifffhhaaSpaced
namespace Go.Proofs.Ytnccibaifffhhaa
set_option linter.unusedVariables false
open Go.RowKit P

def wayF (ns : List Int) : Int → Option Int := fun n => if n ∈ ns then some 1 else none
theorem wayF_step {ns : List Int} (k : Nat) (hk : k < ns.length) (y : Int) : (if y = ns[k] then some 1 else wayF (ns.take k) y) = wayF (ns.take (k + 1)) y := by
  unfold wayF
  rw [List.take_succ_eq_append_getElem hk]
  by_cases e : y = ns[k]
  · rw [if_pos e, if_pos (List.mem_append.2 (.inr (List.mem_singleton.2 e)))]
  · rw [if_neg e]
    by_cases m : y ∈ ns.take k
    · rw [if_pos m, if_pos (List.mem_append.2 (.inl m))]
    · rw [if_neg m, if_neg (fun q => (List.mem_append.1 q).elim m fun q => e (List.mem_singleton.1 q))]
theorem nodup_take {ns : List Int} (hd : ns.Nodup) (k : Nat) (hk : k < ns.length) : ns[k] ∉ ns.take k := fun q => by
  obtain ⟨i, hi, e⟩ := List.getElem_of_mem q
  rw [List.length_take] at hi
  rw [List.getElem_take] at e
  have := (List.getElem_inj hd).1 e
  omega
theorem lookI0 {wr : World} {M n : Nat} {D : DataW Unit} {f : Int → Option Int} (O : wr.ownsMap Try.prog 3 (plainElem Try.prog 3) M n D) (MB : MapI D f) {x : Int} (hx : (Lit.int .i64 x).wf = true) :
    (Instr.lookup 49 (.map (some M)) (.int .i64 x) false).run Try.prog wr = .ok (.int .i64 ((f x).getD 0)) wr := by
  cases hf : f x with
  | some z => exact lookI O MB hf hx
  | none =>
    obtain ⟨cv, hrun, hatv, hwv⟩ := O.lookup_int (Maps.int_keyed Try.underlying3) Try.underlying49 Try.underlying3 (zeroII wr) (Maps.keyOf_int_mk (a := x) Try.underlying3 hx)
    rw [Maps.atKey_of_not_has (MB.no x hf)] at hatv
    have : cv = 0 := by cases hatv; rfl
    subst this
    exact hrun
/-- what holds in both loops: the space's variable, the map of how each number ended, the map of those on their way -/
structure OncK (W0 : World) (V M n : Nat) (D : DataW Unit) (s : Sp) (Aa Ah Ak : Option Addr) (ca ch ck nS : Nat) (MW i : Nat) (f : Int → Option Int) (w : World) : Prop where
  b : Below W0.heap.size W0 w
  x : w.heap[V]? = some (.cells #[.int .i64 s.next, .slice Aa nS ca, .int .i64 s.top, .slice Ah s.heard.length ch, .slice Ak s.skip.length ck] 48 (0, 0))
  v : StS w (fun j => j < M + 1 ∨ MW ≤ j) (fun wv => SpVal wv wv.heap.size (.agg #[.int .i64 s.next, .slice Aa s.sent.length ca, .int .i64 s.top, .slice Ah s.heard.length ch, .slice Ak s.skip.length ck]) s)
  m : w.ownsMap Try.prog 3 (plainElem Try.prog 3) M n D
  y : ∃ D' : DataW Unit, w.ownsMap Try.prog 3 (plainElem Try.prog 3) MW i D' ∧ MapI D' f ∧ Maps.size D' = i
theorem OncK.on {W0 : World} {V M n : Nat} {D : DataW Unit} {s : Sp} {Aa Ah Ak : Option Addr} {ca ch ck nS MW i : Nat} {f : Int → Option Int} {w w' : World} (h : OncK W0 V M n D s Aa Ah Ak ca ch ck nS MW i f w) (hb : Below w.heap.size w w') : OncK W0 V M n D s Aa Ah Ak ca ch ck nS MW i f w' := by
  obtain ⟨D', o, m, z⟩ := h.y
  exact ⟨h.b.trans (hb.mono h.b.size), (hb.block _ (lt_of_block h.x)).trans h.x, StS.on h.v (KpS.below hb), own_same h.m (hb.block _ h.m.lt), D', own_same o (hb.block _ o.lt), m, z⟩
theorem OncK.store {W0 : World} {V M n : Nat} {D D' : DataW Unit} {s : Sp} {Aa Ah Ak : Option Addr} {ca ch ck nS MW i : Nat} {f f' : Int → Option Int} {w w' : World} (h : OncK W0 V M n D s Aa Ah Ak ca ch ck nS MW i f w) (g : w.grownBy w' (some MW)) (o : w'.ownsMap Try.prog 3 (plainElem Try.prog 3) MW (i + 1) D') (m : MapI D' f') (z : Maps.size D' = i + 1)
    (h1 : M < V) (h2 : V < MW) (h3 : W0.heap.size ≤ MW) : OncK W0 V M n D s Aa Ah Ak ca ch ck nS MW (i + 1) f' w' :=
  ⟨gr_from h.b h.b.size h3 g, (g.block _ (lt_of_block h.x) (fun e => by cases e; omega)).trans h.x, StS.on h.v (KpS.gr g (.inr (Nat.le_refl _))), own_same h.m (g.block _ h.m.lt (fun e => by cases e; omega)), D', o, m, z⟩
theorem OncK.turn {W0 : World} {V M n : Nat} {D : DataW Unit} {s : Sp} {Aa Ah Ak : Option Addr} {ca ch ck nS MW i r : Nat} {f : Int → Option Int} {w w' : World} (h : OncK W0 V M n D s Aa Ah Ak ca ch ck nS MW i f w) (g : w.grownBy w' (some r)) (h1 : M < V) (h2 : V < MW) (h3 : W0.heap.size ≤ MW) (h4 : MW < r) : OncK W0 V M n D s Aa Ah Ak ca ch ck nS MW i f w' := by
  obtain ⟨D', o, m, z⟩ := h.y
  exact ⟨gr_from h.b h.b.size (by omega) g, (g.block _ (lt_of_block h.x) (fun e => by cases e; omega)).trans h.x, StS.on h.v (KpS.gr g (.inr (Nat.le_of_lt h4))), own_same h.m (g.block _ h.m.lt (fun e => by cases e; omega)), D', own_same o (g.block _ o.lt (fun e => by cases e; omega)), m, z⟩
theorem sp_sent {w : World} {B : Nat} {Aa Ah Ak : Option Addr} {ca ch ck : Nat} {s : Sp} (h : SpVal w B (.agg #[.int .i64 s.next, .slice Aa s.sent.length ca, .int .i64 s.top, .slice Ah s.heard.length ch, .slice Ak s.skip.length ck]) s) : PlSl w B (.slice Aa s.sent.length ca) s.sent := by
  obtain ⟨a, h', k, e, h1, _, _⟩ := h.ex
  injection e with e
  have e := congrArg Array.toList e
  simp only [List.cons.injEq, true_and, and_true] at e
  obtain ⟨e1, _, _⟩ := e
  rw [e1]
  exact h1
set_option maxRecDepth 100000 in
set_option maxHeartbeats 4000000 in
theorem spaceOnce_walk (A : Option Addr) (len cap : Nat) (rs : List RawT) (W : World) (hr : RawRow W W.heap.size A rs) (hl : rs.length = len) (hlc : len ≤ cap) (hcm : cap ≤ maxLen) :
    Calls Try.prog 4 #[.slice A len cap] W fun e w' => e = .returned (.bool true) ∧ Below W.heap.size W w' := by
  have HSP := Lib.hid (spaced_any A len cap rs W hr hl hlc hcm)
  have hmm := @run_makeMap Try.prog
  clear hr hl hlc hcm
  go_enter Try.func4, Try.ntmps4
  go_wp2_with fail
  refine HSP.out.mono ?_
  rintro e w1 hp
  have b1 := hp.be
  obtain ⟨s, E, M, n, Aa, Ah, Ak, ca, ch, ck, D, rfl, hv, hm, hmi, hon, hnf, hnx, hWM⟩ := hp.ex
  have HV1 := Lib.hid hv
  have HM1 := Lib.hid hm
  have HMI := Lib.hid hmi
  have HON := Lib.hid hon
  have HNF := Lib.hid hnf
  have HND := Lib.hid (rise_nodup hon.ok.2.2.2.2.1)
  have HPN := Lib.hid (show ∀ m ∈ nums s.sent, i64N m from fun m hm => on_num hon (hon.way m hm))
  have h24 := hon.ok.2.2.1
  clear hp hv hm hmi hon hnf HSP
  dsimp only
  have hMw := HM1.out.lt
  obtain ⟨nS, hnS⟩ : ∃ n, s.sent.length = n := ⟨_, rfl⟩
  have HNS := Lib.hid hnS
  rw [hnS] at h24 ⊢
  clear hnS
  have C1 := (Below.refl w1.heap.size w1).alloc (Nat.le_refl _) (.cells #[.int .i64 s.next, .slice Aa nS ca, .int .i64 s.top, .slice Ah s.heard.length ch, .slice Ak s.skip.length ck] 48)
  have X1 := heap_alloc_new w1 (.cells #[.int .i64 s.next, .slice Aa nS ca, .int .i64 s.top, .slice Ah s.heard.length ch, .slice Ak s.skip.length ck] 48)
  have D1 := b1.trans (C1.mono b1.size)
  have M1 := own_same HM1.out (C1.block _ hMw)
  have V1 := StS.on HV1.out (KpS.below C1)
  go_upto_region 3 with fail
  obtain ⟨V, hV⟩ : ∃ V, w1.heap.size = V := ⟨_, rfl⟩
  obtain ⟨W1, hW1⟩ : ∃ x, w1.alloc (.cells #[.int .i64 s.next, .slice Aa nS ca, .int .i64 s.top, .slice Ah s.heard.length ch, .slice Ak s.skip.length ck] 48) = x := ⟨_, rfl⟩
  have hMV : W1.heap.size = V + 1 := by rw [← hW1, ← hV]; simp
  rw [hW1] at D1 X1 M1 V1
  rw [hV] at X1 hMw
  try rw [hW1]
  try rw [hV]
  have C2 := (Below.refl W1.heap.size W1).alloc (Nat.le_refl _) (.map #[] 0)
  have G0 : Hid (OncK W V M n D s Aa Ah Ak ca ch ck nS (V + 1) 0 (fun _ => none) (W1.alloc (.map #[] 0))) := Lib.hid ⟨D1.trans (C2.mono D1.size), (C2.block _ (by rw [hMV]; omega)).trans X1, (StS.anti (StS.new V1 C2) fun j hj => by
    rcases hj with hj | hj
    · exact .inl hj
    · exact .inr (by rw [hMV]; exact hj)), own_same M1 (C2.block _ (by rw [hMV]; omega)), _, (hMV ▸ World.ownsMap_made W1 Try.prog 3 (plainElem Try.prog 3)), MapI.empty, rfl⟩
  have HMV := Lib.hid hMw
  have HWV := Lib.hid (show W.heap.size ≤ V + 1 by omega)
  obtain ⟨MW, hMW⟩ : ∃ M, V + 1 = M := ⟨_, rfl⟩
  have HVW := Lib.hid (show V < MW by omega)
  obtain ⟨W2, hW2⟩ : ∃ x, W1.alloc (.map #[] 0) = x := ⟨_, rfl⟩
  try simp only [hMV]
  try rw [hW2]
  rw [hW2, hMW] at G0
  rw [hMW] at HWV
  try rw [hMW]
  clear b1 C1 X1 D1 hW1 hMV C2 hW2 hV M1 V1 HV1 HM1 hmm hMW hMw
  obtain ⟨q0, q1, q2, q3, q4⟩ := sp5 G0.out.x
  go_wp2_with fail
  clear q0 q1 q2 q3 q4
  go_loopg [21] nS (fun gq iv wx => ∃ (i : Nat), iv = .int .i64 (i : Int) ∧ i + gq = nS ∧ Hid (OncK W V M n D s Aa Ah Ak ca ch ck nS MW i (wayF ((nums s.sent).take i)) wx))
  case atStart => exact ⟨0, rfl, by omega, Lib.hid (by
    obtain ⟨a, b, c, d, D', e, f, g⟩ := G0.out
    exact ⟨a, b, c, d, D', e, f.congr (fun x => by simp [wayF]), g⟩)⟩
  case round =>
    obtain ⟨i, rfl, hig, GI⟩ := hrel
    obtain ⟨XI, hXI⟩ : ∃ X, X = wr := ⟨_, rfl⟩
    subst hXI
    by_cases hi : i < nS
    · have hiN : (i : Int) < (nS : Int) := by omega
      have hsv := (StS.now GI.out.v).ex
      obtain ⟨bL, oL, AF, nF, cF, hAL, hbL, x0, x1, x2, x3⟩ := pl_at (PlSl.toW (sp_sent (StS.now GI.out.v))) i (by rw [HNS.out]; omega)
      clear hsv
      subst hAL
      have hin : i < (nums s.sent).length := by unfold nums; rw [List.length_map, HNS.out]; omega
      obtain ⟨p, hp⟩ : ∃ p, (s.sent)[i]'(by rw [HNS.out]; omega) = p := ⟨_, rfl⟩
      rw [hp] at x0 x1 x2
      have hpn : (nums s.sent)[i] = p.num := by rw [nums_at _ i hin (by rw [HNS.out]; omega), hp]
      have hst := fun y => wayF_step i hin y
      have hno := nodup_take HND.out i hin
      rw [hpn] at hst hno
      have HB2 := Lib.hid hst
      have HNO := Lib.hid hno
      have hpb : i64N p.num := HPN.out _ (hpn ▸ List.getElem_mem hin)
      have hwf : (Lit.int .i64 p.num).wf = true := i64_wf hpb
      have BP := (Below.refl XI.heap.size XI).alloc (Nat.le_refl _) (.cells #[.int .i64 p.num, .int .i64 p.time, .int .i64 p.size, .slice AF nF cF] 54)
      have NP := Lib.hid (heap_alloc_new XI (.cells #[.int .i64 p.num, .int .i64 p.time, .int .i64 p.size, .slice AF nF cF] 54))
      have GP := Lib.hid (GI.out.on BP)
      clear hp hpn hst hno BP
      go_upto_region 6 with fail
      clear x0 x1 x2 x3
      obtain ⟨XP, hXP⟩ : ∃ X, XI.alloc (.cells #[.int .i64 p.num, .int .i64 p.time, .int .i64 p.size, .slice AF nF cF] 54) = X := ⟨_, rfl⟩
      obtain ⟨PB, hPB⟩ : ∃ b, XI.heap.size = b := ⟨_, rfl⟩
      rw [hXP] at NP GP
      rw [hPB] at NP
      try rw [hXP]
      try rw [hPB]
      clear hXP hPB
      obtain ⟨D', OO, MM, SZ⟩ := GP.out.y
      have HOO := Lib.hid OO
      have HMM := Lib.hid MM
      have HSZ := Lib.hid SZ
      clear OO MM SZ
      obtain ⟨z0, z1, z2, z3⟩ := bk4R NP.out
      go_wp2_with (at_mapUpdate; refine wpList_mapUpdate_own _ rfl _ _ _ 49 rfl 3 3 (Maps.int_keyed Try.underlying3) Try.underlying49 _ MW i D' rfl HOO.out (by unfold maxLen; omega) _ _ (kyI p.num) rfl rfl (Maps.keyOf_int_mk Try.underlying3 hwf) _ _ (plainElem_int Try.underlying3 (by decide)) ?_; intro WU hou hgu; have OU := Lib.hid hou; have GU := Lib.hid hgu; clear hou hgu)
      have hhas : Maps.has D' (kyI p.num) = false := by rw [HMM.out.has]; unfold wayF; rw [if_neg HNO.out]; rfl
      have GN := Lib.hid (GP.out.store GU.out OU.out ((HMM.out.put p.num 1).congr HB2.out) (by rw [size_put_new HMM.out.map hhas, HSZ.out]) HMV.out HVW.out HWV.out)
      clear z0 z1 z2 z3 hhas
      go_roundg (gk - 1)
      case measure => omega
      case rel => exact ⟨i + 1, by first | rfl | go_num, by omega, GN⟩
    · obtain rfl : i = nS := by omega
      have GE := Lib.hid (show OncK W V M n D s Aa Ah Ak ca ch ck i MW i (wayF (nums s.sent)) XI by
        obtain ⟨a, b, c, d, D', e, f, g⟩ := GI.out
        exact ⟨a, b, c, d, D', e, f.congr (fun x => by rw [List.take_of_length_le (by unfold nums; rw [List.length_map, HNS.out]; omega)]), g⟩)
      clear GI
      go_upto_region 8 with fail
      have hMI := GE.out.m
      obtain ⟨r, hrr⟩ : ∃ r, XI.heap.size = r := ⟨_, rfl⟩
      go_upto_region 9 with (at_range; refine wpList_range_own _ rfl _ 49 rfl 3 3 (Maps.int_keyed Try.underlying3) Try.underlying49 (plainElem Try.prog 3) M n D rfl hMI ?_; intro w3 hrg3 hg3 hs3)
      go_frame
      rw [hrr] at hrg3
      try rw [hrr]
      have B3 := (Below.refl XI.heap.size XI).grown hg3 (Nat.le_refl _) (fun k hk => by cases hk)
      have G3 := Lib.hid (GE.out.on B3)
      have R3 := Lib.hid hrg3
      have hr3 : r < w3.heap.size := by omega
      have hrM : MW < r := by obtain ⟨_, o, _⟩ := GE.out.y; have := o.lt; omega
      have HRM := Lib.hid hrM
      clear hrg3 hg3 GE hMI B3 hs3 hrr hrM
      go_loopg [9] (Maps.size D) (fun gq _ wx => ∃ (left : Lit → Bool), Hid (wx.ranges Try.prog 3 (plainElem Try.prog 3) M r n D left gq) ∧ Hid (OncK W V M n D s Aa Ah Ak ca ch ck i MW i (wayF (nums s.sent)) wx))
      case atStart => exact ⟨_, R3, G3⟩
      case round =>
        obtain ⟨left, RK, GK⟩ := hrel
        clear R3 G3
        obtain ⟨X3, hX3⟩ : ∃ X, X = wr := ⟨_, rfl⟩
        subst hX3
        go_wp2_with (at_next; refine wpList_next_ranges_ii _ rfl _ rfl 3 3 .i64 .i64 (Maps.int_keyed Try.underlying3) Try.underlying3 Try.underlying3 M r n D left gk rfl RK.out ?_ ?_)
        · intro hc0 hl0
          clear hc0 hl0 RK
          obtain ⟨D', OO, MM, SZ⟩ := GK.out.y
          go_wp2_with fail
          refine (spaceTells_any _).mono ?_
          rintro e w4 ⟨rfl, b4⟩
          have G4 := Lib.hid (GK.out.on b4)
          clear b4 OO MM SZ
          obtain ⟨q0, q1, q2, q3, q4⟩ := sp5 G4.out.x
          go_wp2_with fail
          have HSZ2 : SpVal w4 w4.heap.size (.agg #[.int .i64 s.next, .slice Aa i ca, .int .i64 s.top, .slice Ah s.heard.length ch, .slice Ak s.skip.length ck]) s := by have := StS.now G4.out.v; rw [HNS.out] at this; exact this
          refine (spChk_any _ s w4 HSZ2 (spwf_of HON.out.ok HNF.out)).mono ?_
          rintro e w5 ⟨rfl, b5⟩
          rw [(faultSp_iff s).2 HON.out.ok]
          have G5 := Lib.hid (G4.out.on b5)
          clear b5 q0 q1 q2 q3 q4 HSZ2
          obtain ⟨q0, q1, q2, q3, q4⟩ := sp5 G5.out.x
          obtain ⟨D', OO, MM, SZ⟩ := G5.out.y
          have hlen := OO.len Try.underlying49 3
          rw [SZ] at hlen
          have g24 : decide ((i : Int) ≤ 24) = true := by simp; omega
          clear OO MM SZ
          go_wp2_with fail
          go_ret
          exact ⟨by first | rfl | simp, G5.out.b⟩
        · intro x c w' cnt' hx hc hlk hat hrg hlt hgr hsz hen
          have hhas := Maps.has_true_of_atKey hat
          rw [HMI.out.has x] at hhas
          obtain ⟨c', hc'⟩ := Option.isSome_iff_exists.1 hhas
          have hcc : c = c' := by
            have h1 := (HMI.out.yes x c' hc').2 (.lit (.int .i64 0))
            rw [hat] at h1
            cases h1
            rfl
          subst hcc
          have GN := Lib.hid (GK.out.turn hgr HMV.out HVW.out HWV.out HRM.out)
          have RN := Lib.hid hrg
          obtain ⟨D', OO, MM, SZ⟩ := GN.out.y
          have hlook := lookI0 OO MM hx
          have hsum : c + (wayF (nums s.sent) x).getD 0 = 2 := by
            unfold wayF
            by_cases q : x ∈ nums s.sent
            · have := HON.out.way x q
              rw [hc'] at this
              rw [if_pos q]
              cases this
              rfl
            · rw [if_neg q, HON.out.gone x c hc' q]
              rfl
          obtain ⟨k, hk⟩ : ∃ k, (wayF (nums s.sent) x).getD 0 = k := ⟨_, rfl⟩
          rw [hk] at hlook hsum
          have hw2 : IntKind.i64.wrap (c + k) = 2 := by rw [hsum]; rfl
          have HCNT := Lib.hid hlt
          clear hk hsum hc' hhas hat hlk hrg hlt hgr OO MM SZ GK RK
          go_wp2_with fail
          go_roundg cnt'
          case measure => exact HCNT.out
          case rel => exact ⟨_, RN, GN⟩
end Go.Proofs.Ytnccibaifffhhaa
