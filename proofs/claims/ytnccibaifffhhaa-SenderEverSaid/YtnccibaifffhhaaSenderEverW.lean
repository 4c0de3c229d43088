/- The walk of SenderEver. -/
import Derived.Test.YtnccibaifffhhaaSnEvV
import Derived.Test.YtnccibaifffhhaaSnLose
import Derived.Test.YtnccibaifffhhaaSnHeard
import Derived.Test.YtnccibaifffhhaaGrpZd
import Derived.Test.YtnccibaifffhhaaGrpC
import Derived.Test.YtnccibaifffhhaaStoreR
import Derived.Test.YtnccibaifffhhaaGrpD
import Derived.Deep.CutRange
namespace Go.Proofs.Ytnccibaifffhhaa
set_option linter.unusedVariables false
open Go.RowKit P

theorem wf_u8E {x : Int} (h0 : 0 ≤ x) (h1 : x ≤ 255) : (Lit.int .u8 x).wf = true := by
  rw [Lit.wf_int_iff, show IntKind.u8.min = 0 by kernel_rfl, show IntKind.u8.max = 255 by kernel_rfl]
  omega
theorem ready_neE {l : List Nat} (h : l.isEmpty = false) : l ≠ [] := by
  intro e
  rw [e] at h
  cases h
theorem bk4R {w : World} {b : Nat} {a0 a1 a2 a3 : Value} {T : TypeId} (h : w.heap[b]? = some (.cells #[a0, a1, a2, a3] T (0, 0))) :
    w.cell? ⟨b, 0, none⟩ = some a0 ∧ w.cell? ⟨b, 1, none⟩ = some a1 ∧ w.cell? ⟨b, 2, none⟩ = some a2 ∧ w.cell? ⟨b, 3, none⟩ = some a3 := ⟨bk_cell h 0, bk_cell h 1, bk_cell h 2, bk_cell h 3⟩
theorem evn_of {X w w' : World} {p : Value} {g : Nat} {s2 : Sn} {f : Fr} {Fr_ Fd : Option Addr} {cFr cFd : Nat} (h : EvA X true p true (.pointer (some ⟨g, 0, none⟩)) w s2) (ht : FrX (SX2 X true p true (.pointer (some ⟨g, 0, none⟩))) w (.agg #[.int .i64 f.kind, .int .i64 f.id, .int .i64 f.off, .bool f.fin, .int .i64 f.code, .slice Fr_ f.rs.length cFr, .slice Fd f.data.length cFd]) f) (hg0 : X.heap.size ≤ g) {z0 z1 z2 z3 z4 z5 z6 : Value} (hg : w.heap[g]? = some (.cells #[z0, z1, z2, z3, z4, z5, z6] 35 (0, 0)))
    (k1 : w'.heap[g]? = some (.cells #[.int .i64 f.kind, .int .i64 f.id, .int .i64 f.off, .bool f.fin, .int .i64 f.code, .slice Fr_ f.rs.length cFr, .slice Fd f.data.length cFd] 35 (0, 0))) (gp : w.grownBy w' (some g)) (bv : Below X.heap.size X w') : EvN X w' p (.pointer (some ⟨g, 0, none⟩)) s2 f := by
  obtain ⟨k, Nd, Nl, Na, cNd, cNl, cNa, e, h0, h1, h2⟩ := h.ex
  have hne : k ≠ g := fun e => by subst e; rw [hg] at h1; simp at h1
  have kk : KpS (SX2 X true p true (.pointer (some ⟨g, 0, none⟩))) w w' := KpS.gr gp (.inr (.inr ⟨rfl, rfl⟩))
  exact ⟨k, g, Nd, Nl, Na, cNd, cNl, cNa, Fr_, Fd, cFr, cFd, e, rfl, h0, hg0, (gp.block _ (lt_of_block h1) (fun q => hne (Option.some.inj q))).trans h1, k1, StS.anti (StS.on h2 kk) (fun j hj => .inl hj), StS.anti (StS.on ht kk) (fun j hj => .inl hj), bv⟩
structure EvR (w0 : World) (Ad Al Aa : Option Addr) (cAd cAl cAa : Nat) (s s2 : Sn) (f : Fr) (R : Nat) (ra r39 pa room : Int) (ob : Bool) (V0 V1 V2 V3 V4 V5 V10 V11 V16 V17 : Value) (sb0 sb1 sb2 sb3 sb4 sb5 sb6 sb7 sb8 sb9 sb10 sb11 sb12 sb13 sb14 sb15 sb16 sb17 : Bool) (sx0 sx1 sx2 sx3 sx4 sx5 sx6 sx7 sx8 sx9 sx10 sx11 sx12 sx13 sx14 sx15 sx16 sx17 : Value) (w : World) : Prop where
  be : Below w0.heap.size w0 w
  d2 : sb2 = true → sb1 = true
  d3 : sb3 = true → sb2 = true
  d4 : sb4 = true → sb3 = true
  d5 : sb5 = true → sb4 = true
  d6 : sb6 = true → sb0 = true ∧ sb4 = true ∧ sb5 = true
  d7 : sb7 = true → sb6 = true
  d8 : sb8 = true → sb7 = true
  d9 : sb9 = true → sb7 = true
  d10 : sb10 = true → sb7 = true
  d11 : sb11 = true → sb7 = true
  d14 : sb14 = true → sb0 = true ∧ sb1 = true ∧ sb2 = true ∧ sb3 = true ∧ sb4 = true ∧ sb5 = true ∧ sb6 = true ∧ sb7 = true ∧ sb8 = true ∧ sb12 = true ∧ sb13 = true
  d15 : sb15 = true → sb0 = true ∧ sb1 = true ∧ sb2 = true ∧ sb3 = true ∧ sb4 = true ∧ sb5 = true ∧ sb6 = true ∧ sb7 = true ∧ sb8 = true ∧ sb9 = true ∧ sb12 = true ∧ sb13 = true ∧ sb14 = true
  d16 : sb16 = true → sb0 = true ∧ sb1 = true ∧ sb2 = true ∧ sb3 = true ∧ sb4 = true ∧ sb5 = true ∧ sb6 = true ∧ sb7 = true ∧ sb8 = true ∧ sb9 = true ∧ sb10 = true ∧ sb12 = true ∧ sb13 = true ∧ sb14 = true ∧ sb15 = true
  d17 : sb17 = true → sb0 = true ∧ sb1 = true ∧ sb2 = true ∧ sb3 = true ∧ sb4 = true ∧ sb5 = true ∧ sb6 = true ∧ sb7 = true ∧ sb8 = true ∧ sb9 = true ∧ sb10 = true ∧ sb11 = true ∧ sb12 = true ∧ sb13 = true ∧ sb14 = true ∧ sb15 = true ∧ sb16 = true
  t5 : sb6 = true → ∃ u t, sx6 = .tuple #[u, t, .bool ob, .int .i64 0]
  t6 : sb7 = true → ∃ u t, sx7 = .tuple #[u, t, .bool ob, .int .i64 0]
  h0 : sb0 = true → sx0 = V0
  h1 : sb1 = true → sx1 = V1
  h2 : sb2 = true → sx2 = V2
  h3 : sb3 = true → sx3 = V3
  h4 : sb4 = true → sx4 = V4
  h5 : sb5 = true → sx5 = V5
  h6 : sb6 = true → TupE w0 sb12 sx12 sb13 sx13 w sx6 s2 f ob
  h7 : sb7 = true → TupE w0 sb12 sx12 sb13 sx13 w sx7 s2 f ob
  h8 : sb8 = true → sb14 = false → SnX (SX2 w0 sb12 sx12 sb13 sx13) w sx8 s2
  h9 : sb9 = true → sb15 = false → FrX (SX2 w0 sb12 sx12 sb13 sx13) w sx9 f
  h10 : sb10 = true → sx10 = V10
  h11 : sb11 = true → sx11 = V11
  h12 : sb12 = true → sb14 = false → ∃ k, sx12 = .pointer (some ⟨k, 0, none⟩) ∧ w0.heap.size ≤ k ∧ w.heap[k]? = some (.cells #[.slice none 0 0, .bool false, .int .i64 0, .int .i64 0, .slice none 0 0, .slice none 0 0, .bool false, .bool false] 27 (0, 0))
  h13 : sb13 = true → sb15 = false → ∃ k, sx13 = .pointer (some ⟨k, 0, none⟩) ∧ w0.heap.size ≤ k ∧ w.heap[k]? = some (.cells #[.int .i64 0, .int .i64 0, .int .i64 0, .bool false, .int .i64 0, .slice none 0 0, .slice none 0 0] 35 (0, 0))
  h14 : sb14 = true → sb15 = false → EvA w0 sb12 sx12 sb13 sx13 w s2
  h15 : sb15 = true → EvN w0 w sx12 sx13 s2 f
  h16 : sb16 = true → sx16 = V16
  h17 : sb17 = true → sx17 = V17
set_option maxRecDepth 100000 in
set_option maxHeartbeats 40000000 in
theorem senderEver_walk (tx : ByteArray) (nn : Int) (A : Option Addr) (len cap : Nat) (rs : List RawT) (W : World) (htx : tx.size ≤ maxLen) (hr : RawRow W W.heap.size A rs) (hl : rs.length = len) (hlc : len ≤ cap) (hcm : cap ≤ maxLen) :
    Calls Try.prog 3 #[.string tx, .int .i64 nn, .slice A len cap] W fun e w' => e = .returned (.bool true) ∧ Below W.heap.size W w' := by
  have HR := Lib.hid hr
  have HLN := Lib.hid hl
  unfold maxLen at hcm
  have HTX := Lib.hid (text_any tx nn 300 (by decide) htx W)
  have HTL := Lib.hid (fun w => senderTells_any w)
  have hmm := @run_makeMap Try.prog
  clear hr hl htx
  go_enter Try.func3, Try.ntmps3
  go_wp2_with fail
  refine HTX.out.mono ?_
  rintro e w1 hp
  have b1 := hp.be
  obtain ⟨bs, Ab, cb, rfl, hbl, hbf⟩ := hp.ex
  have HBS := Lib.hid hbf.now
  have hb300 : bs.length ≤ 300 := by have := Int.emod_lt_of_pos nn (show (0 : Int) < 300 + 1 by decide); omega
  obtain ⟨ew, ei⟩ := ev_begin hb300
  have HB0 := Lib.hid b1
  have HEI := Lib.hid ei
  have HWR0 := Lib.hid (ew ▸ snWrite_F (.agg #[.slice none 0 0, .bool false, .int .i64 0, .int .i64 300, .slice none 0 0, .slice none 0 0, .bool false, .bool false]) (.slice Ab bs.length cb) ⟨[], false, 0, 300, [], [], false, false⟩ bs true w1 ⟨_, _, _, rfl, BSl.nil _ _, RSl.nil _ _, RSl.nil _ _⟩ ⟨by decide, by decide, by simp, by simp, by simp⟩ hbf.now (by omega))
  have HBR := Lib.hid hbf.now.ex
  clear hp hbf b1 ew ei HTX hbl
  obtain ⟨L, hL⟩ : ∃ L, bs.length = L := ⟨_, rfl⟩
  have HL := Lib.hid hL
  rw [hL] at hb300 HBS HWR0 ⊢
  clear hL
  go_wp2_with fail
  refine HWR0.out.mono ?_
  rintro e w2 hr
  have b2 := hr.be
  obtain ⟨u2, rfl, hu2⟩ := hr.ex
  dsimp only at hu2 ⊢
  obtain ⟨Id, cId, Il, cIl, Ia, cIa, rfl⟩ := sn_slices hu2.now
  dsimp only [List.length_nil]
  have hq2 := Lib.hid hu2.toSt
  rw [HL.out] at hq2 ⊢
  have C2 := (Below.refl w2.heap.size w2).alloc (Nat.le_refl _) (.cells #[.slice Id L cId, .bool true, .int .i64 0, .int .i64 300, .slice Il 0 cIl, .slice Ia 0 cIa, .bool false, .bool false] 27)
  have X2 := heap_alloc_new w2 (.cells #[.slice Id L cId, .bool true, .int .i64 0, .int .i64 300, .slice Il 0 cIl, .slice Ia 0 cIa, .bool false, .bool false] 27)
  have D2 := b2.trans (C2.mono b2.size)
  have C2' := C2
  have hw2 : w1.heap.size ≤ w2.heap.size := b2.size
  go_upto_region 5 with fail
  obtain ⟨V, hV⟩ : ∃ V, w2.heap.size = V := ⟨_, rfl⟩
  obtain ⟨W2, hW2⟩ : ∃ x, w2.alloc (.cells #[.slice Id L cId, .bool true, .int .i64 0, .int .i64 300, .slice Il 0 cIl, .slice Ia 0 cIa, .bool false, .bool false] 27) = x := ⟨_, rfl⟩
  have hM : W2.heap.size = V + 1 := by rw [← hW2, ← hV]; simp
  have Q2 := StS.on hq2.out (KpS.below C2)
  rw [hW2] at D2 X2 Q2 C2'
  rw [hV] at X2 hw2
  try rw [hW2]
  try rw [hV]
  have C3 := (Below.refl W2.heap.size W2).alloc (Nat.le_refl _) (.map #[] 0)
  obtain ⟨s0, hs0⟩ : ∃ x, (⟨bs, true, 0, 300, [], [], false, false⟩ : Sn) = x := ⟨_, rfl⟩
  have hE : (#[.slice Id L cId, .bool true, .int .i64 0, .int .i64 300, .slice Il 0 cIl, .slice Ia 0 cIa, .bool false, .bool false] : Array Value) = #[.slice Id s0.data.length cId, .bool s0.fin, .int .i64 s0.next, .int .i64 s0.mx, .slice Il s0.lost.length cIl, .slice Ia s0.acked.length cIa, .bool s0.ended, .bool s0.over] := by rw [← hs0]; dsimp only; rw [HL.out]; rfl
  have hcn : cntF (gA bs s0.acked) L = 0 := cntF_none _ (fun x => by rw [← hs0]; simp [gA, mem]) L
  have Q3 := StS.new (StS.new hq2.out C2') C3
  dsimp only [List.length_nil] at Q3
  rw [hE, hs0] at Q3
  have G0 : Hid (EvK w1 V (V + 1) 0 L s0 (gA bs s0.acked) Id Il Ia cId cIl cIa (W2.alloc (.map #[] 0))) := Lib.hid ⟨D2.trans (C3.mono D2.size), (C3.block _ (by rw [hM]; omega)).trans (hE ▸ X2), StS.anti Q3 (fun j hj => by
      rcases hj with hj | hj
      · exact .inl (.inr (by rw [hj, ← hV]; exact Nat.le_refl _))
      · exact .inr (by rw [hj, hM]; exact Nat.le_refl _)), _, (hM ▸ World.ownsMap_made W2 Try.prog 3 (plainElem Try.prog 5)), MapB.empty.congr (fun x => by rw [← hs0]; simp [gA, mem]), hcn.symm⟩
  have HEI0 : Hid (EvI bs s0 0) := by rw [← hs0]; exact HEI
  have HOV : s0.over = false := by rw [← hs0]
  obtain ⟨M, hMM⟩ : ∃ M, V + 1 = M := ⟨_, rfl⟩
  have HVM := Lib.hid (show V < M by omega)
  have HWV := Lib.hid hw2
  obtain ⟨W3, hW3⟩ : ∃ x, W2.alloc (.map #[] 0) = x := ⟨_, rfl⟩
  try simp only [hM]
  try rw [hW3]
  rw [hW3, hMM] at G0
  try rw [hMM]
  clear b2 hu2 hq2 C2 C2' X2 D2 hV hW2 hM Q2 C3 hE hcn Q3 hs0 HEI hw2 hMM hW3 hmm
  go_wp2_with fail
  have HMU := Lib.hid (show len ≤ 0 → muS s0 + 40 * ((0 : Nat) : Int) ≤ 80 * len + 382 from fun _ => by have := muS_le HEI0.out; omega)
  go_loopg [11, 32] 60 (fun gq ev iv wr => ∃ (i n0 : Nat) (s : Sn) (Ad Al Aa : Option Addr) (cAd cAl cAa : Nat), ev = .bool s.over ∧ iv = .int .i64 (i : Int) ∧ i + gq = 60 ∧ n0 ≤ 100 * i ∧ Hid (EvI bs s i) ∧ Hid (len ≤ i → muS s + 40 * (i : Int) ≤ 80 * len + 382) ∧ Hid (EvK w1 V M n0 L s (gA bs s.acked) Ad Al Aa cAd cAl cAa wr))
  case atStart => exact ⟨0, 0, s0, Id, Il, Ia, cId, cIl, cIa, by rw [HOV], rfl, by omega, by omega, HEI0, HMU, G0⟩
  case round =>
    obtain ⟨i, n0, s, Ad, Al, Aa, cAd, cAl, cAa, rfl, rfl, hig, hn0, EI, MU, GK⟩ := hrel
    clear G0 HEI0 HMU HOV
    obtain ⟨X0, hX0⟩ : ∃ X, X = wr := ⟨_, rfl⟩
    subst hX0
    by_cases h60 : i < 60
    · have h60I : decide ((i : Int) < 60) = true := by simp; omega
      have XR := Lib.hid ((Below.refl X0.heap.size X0).alloc (Nat.le_refl _) (.cells #[.int .i64 0, .int .i64 0, .int .i64 0, .string ⟨#[]⟩] 33))
      have RX := Lib.hid (heap_alloc_new X0 (.cells #[.int .i64 0, .int .i64 0, .int .i64 0, .string ⟨#[]⟩] 33))
      have G9 := Lib.hid (GK.out.on XR.out)
      go_upto_region 9 with fail
      obtain ⟨X1, hX1⟩ : ∃ w, X0.alloc (.cells #[.int .i64 0, .int .i64 0, .int .i64 0, .string ⟨#[]⟩] 33) = w := ⟨_, rfl⟩
      obtain ⟨R, hR⟩ : ∃ R, X0.heap.size = R := ⟨_, rfl⟩
      rw [hX1] at XR RX G9
      rw [hR] at RX
      try rw [hX1]
      try rw [hR]
      have HRX := Lib.hid (show X0.heap.size ≤ R by omega)
      have HMR := Lib.hid (show M < R by have := GK.out.mlt; omega)
      clear hX1 hR
      go_upto_if 39 with fail
      go_cut [] from 39 to 43 (fun wx => ∃ (kd ra rb : Int) (rt : ByteArray), (len ≤ i → ra = 0) ∧ Hid (EvK w1 V M n0 L s (gA bs s.acked) Ad Al Aa cAd cAl cAa wx) ∧ Hid (wx.heap[R]? = some (.cells #[.int .i64 kd, .int .i64 ra, .int .i64 rb, .string rt] 33 (0, 0))))
      case first =>
        by_cases hil : i < len
        · have hilI : decide ((i : Int) < (len : Int)) = true := by simp; omega
          have hilJ : (i : Int) < (len : Int) := by omega
          obtain ⟨b, off, hA, hbb, hc⟩ := HR.out (by rw [HLN.out]; omega)
          subst hA
          obtain ⟨c0, c1, c2, c3⟩ := hc i (by rw [HLN.out]; omega)
          generalize rs.getD i raw0 = r at c0 c1 c2 c3
          obtain ⟨kd, ra, rb, rt⟩ := r
          simp only at c0 c1 c2 c3
          have BK := HB0.out.trans (G9.out.b.mono HB0.out.size)
          have x0 := (BK.cell (p := ⟨b, off + i * 4, none⟩) hbb).trans c0
          have x1 := (BK.cell (p := ⟨b, off + i * 4 + 1, none⟩) hbb).trans c1
          have x2 := (BK.cell (p := ⟨b, off + i * 4 + 2, none⟩) hbb).trans c2
          have x3 := (BK.cell (p := ⟨b, off + i * 4 + 3, none⟩) hbb).trans c3
          clear c0 c1 c2 c3 hc BK
          go_wp2_with (refine wpList_store_blk rfl 33 (.tmp 13) (.tmp 43) rfl R RX.out rfl rfl rfl (by kernel_rfl) (by simp [Value.oneCell']) ?_; intro W9 k9 gp; have KM := Lib.hid k9; have GP := Lib.hid gp; clear k9 gp)
          go_meet
          exact ⟨kd, ra, rb, rt, fun q => by omega, Lib.hid (GK.out.fresh XR.out GP.out HRX.out), KM⟩
        · have hilI : decide ((i : Int) < (len : Int)) = false := by simp; omega
          go_wp2_with fail
          go_meet
          exact ⟨0, 0, 0, _, fun _ => rfl, G9, RX⟩
      case rest =>
        obtain ⟨kd, ra, rb, rt, hra, GX, RXX⟩ := hcut
        clear GK G9 RX XR HRX
        have RX := RXX
        clear RXX
        obtain ⟨X, hX⟩ : ∃ X, X = wc := ⟨_, rfl⟩
        subst hX
        obtain ⟨r39, hr39⟩ : ∃ x, IntKind.i64.wrap (ra + 39) = x := ⟨_, rfl⟩
        have HW39 := Lib.hid hr39
        obtain ⟨pa, hpa⟩ : ∃ x, r39 % 100 = x := ⟨_, rfl⟩
        have HPA := Lib.hid (fun w => hpa ▸ picked_any r39 100 (by decide) (by decide) w)
        have pa0 : 0 ≤ pa := by omega
        have pa1 : pa < 100 := by omega
        obtain ⟨room, hroom⟩ : ∃ x, 1 + pa = x := ⟨_, rfl⟩
        have HWR := Lib.hid (show IntKind.i64.wrap (1 + pa) = room by rw [IntKind.wrap_i64]; omega)
        have ro0 : 1 ≤ room := by omega
        have ro1 : room ≤ 100 := by omega
        have HRO := Lib.hid (show len ≤ i → room = 40 from fun q => by
          have e1 := hra q
          rw [e1] at hr39
          have e2 : IntKind.i64.wrap (0 + 39) = 39 := by decide
          rw [e2] at hr39
          omega)
        have hev := ev_piece EI.out ro0 ro1
        have HWF := Lib.hid (snwfE EI.out.ok (by rw [EI.out.mx]; decide))
        obtain ⟨⟨s2, f, ob, ec⟩, hq⟩ : ∃ r, pieceS s room 100 = r := ⟨_, rfl⟩
        have hec : ec = 0 := by
          rcases hev with ⟨e, _⟩ | ⟨lo, n, fin, s', h⟩
          · rw [hq] at e; cases e; rfl
          · have e := h.eq; rw [hq] at e; cases e; rfl
        subst hec
        have HEQ := Lib.hid hq
        have HEV := Lib.hid hev
        clear hr39 hpa hroom hra hq hev
        go_upto_region 11 with fail
        refine wp_region_inv (fun lis_ act_ wld_ => ∃ (sb0 sb1 sb2 sb3 sb4 sb5 sb6 sb7 sb8 sb9 sb10 sb11 sb12 sb13 sb14 sb15 sb16 sb17 : Bool) (sx0 sx1 sx2 sx3 sx4 sx5 sx6 sx7 sx8 sx9 sx10 sx11 sx12 sx13 sx14 sx15 sx16 sx17 : Value), lis_ = #[sb0, sb1, sb2, sb3, sb4, sb5, sb6, sb7, sb8, sb9, sb10, sb11, sb12, sb13, sb14, sb15, sb16, sb17] ∧ act_ = { tmps := #[Value.string tx, Value.int IntKind.i64 nn, Value.slice A len cap, undef, undef, undef, u6, Value.slice Ab L cb, Value.pointer (some { block := V, off := 0 }), Value.int IntKind.i64 0, Value.map (some M), Value.bool s.over, Value.int IntKind.i64 ↑i, Value.pointer (some { block := R, off := 0 }), sx12, sx13, sx16, sx17, u18, u19, undef, undef, Value.string tx, Value.int IntKind.i64 nn, Value.slice Ab L cb, Value.tuple #[Value.agg #[Value.slice Id L cId, Value.bool true, Value.int IntKind.i64 0, Value.int IntKind.i64 300, Value.slice Il 0 cIl, Value.slice Ia 0 cIa, Value.bool false, Value.bool false], Value.int IntKind.i64 0], Value.agg #[Value.slice none 0 0, Value.bool false, Value.int IntKind.i64 0, Value.int IntKind.i64 300, Value.slice none 0 0, Value.slice none 0 0, Value.bool false, Value.bool false], Value.slice Ab L cb, Value.tuple #[Value.agg #[Value.slice Id L cId, Value.bool true, Value.int IntKind.i64 0, Value.int IntKind.i64 300, Value.slice Il 0 cIl, Value.slice Ia 0 cIa, Value.bool false, Value.bool false], Value.int IntKind.i64 0], Value.agg #[Value.slice Id L cId, Value.bool true, Value.int IntKind.i64 0, Value.int IntKind.i64 300, Value.slice Il 0 cIl, Value.slice Ia 0 cIa, Value.bool false, Value.bool false], Value.int IntKind.i64 0, Value.map (some M), Value.int IntKind.i64 ↑i, Value.bool true, Value.int IntKind.i64 ↑i, Value.agg #[Value.int IntKind.i64 0, Value.int IntKind.i64 0, Value.int IntKind.i64 0, Value.string { data := #[] }], Value.int IntKind.i64 ↑i, Value.slice A len cap, Value.int IntKind.i64 ↑len, u39, u40, u41, u42, u43, sx7, sx0, sx1, sx2, sx3, sx4, sx5, sx6, sx8, sx9, sx10, sx11, u56, u57, u58, u59, u60, u61, u62, u63, u64, u65, u66, u67, u68, u69, u70, u71, u72, u73, u74, u75, u76, u77, u78, u79, u80, u81, u82, u83, u84, u85, u86, u87, u88, u89, u90, u91, u92, u93, u94, u95, u96, u97, u98, u99, u100, u101, u102, u103, u104, u105, u106, u107, u108, u109, u110, u111, u112, u113, u114, u115, u116, u117, u118, u119, u120, u121, u122, u123, u124, u125, u126, u127, u128, u129, u130, u131, u132, u133, u134, u135, u136, u137, u138, u139, u140, u141, u142, u143, u144, u145, u146, u147, u148, u149, u150, u151, u152, u153, u154, u155, u156, u157, u158, u159, u160, u161, u162, u163, undef, undef, undef, undef, undef, undef, undef, undef, undef, undef, undef, undef, undef, undef, undef, undef, undef, undef, undef, undef, undef, undef, undef, undef, undef, undef, undef, undef, undef, undef, undef, undef], defers := [] } ∧ EvR X Ad Al Aa cAd cAl cAa s s2 f R ra r39 pa room ob (.agg #[.slice Ad s.data.length cAd, .bool s.fin, .int .i64 s.next, .int .i64 s.mx, .slice Al s.lost.length cAl, .slice Aa s.acked.length cAa, .bool s.ended, .bool s.over]) (.pointer (some ⟨R, 1, none⟩)) (.int .i64 ra) (.int .i64 r39) (.int .i64 pa) (.int .i64 room) (.bool ob) (.int .i64 0) (.bool ob) (.int .i64 0) sb0 sb1 sb2 sb3 sb4 sb5 sb6 sb7 sb8 sb9 sb10 sb11 sb12 sb13 sb14 sb15 sb16 sb17 sx0 sx1 sx2 sx3 sx4 sx5 sx6 sx7 sx8 sx9 sx10 sx11 sx12 sx13 sx14 sx15 sx16 sx17 wld_) (by kernel_rfl) ?h0 ?hfin ?hI
        case h0 => exact ⟨_, _, _, _, _, _, _, _, _, _, _, _, _, _, _, _, _, _, _, _, _, _, _, _, _, _, _, _, _, _, _, _, undef, undef, _, _, rfl, rfl, ⟨(Below.refl _ _).drew, (fun h => by cases h), (fun h => by cases h), (fun h => by cases h), (fun h => by cases h), (fun h => by cases h), (fun h => by cases h), (fun h => by cases h), (fun h => by cases h), (fun h => by cases h), (fun h => by cases h), (fun h => by cases h), (fun h => by cases h), (fun h => by cases h), (fun h => by cases h), (fun h => by cases h), (fun h => by cases h), (fun h => by cases h), (fun h => by cases h), (fun h => by cases h), (fun h => by cases h), (fun h => by cases h), (fun h => by cases h), (fun h => by cases h), (fun h => by cases h), (fun h => by cases h), (fun h => by cases h), (fun h => by cases h), (fun h => by cases h), (fun h => by cases h), (fun h => by cases h), (fun h => by cases h), (fun h => by cases h), (fun h => by cases h), (fun h => by cases h)⟩⟩
        case hI =>
          rintro listed a w ⟨sb0, sb1, sb2, sb3, sb4, sb5, sb6, sb7, sb8, sb9, sb10, sb11, sb12, sb13, sb14, sb15, sb16, sb17, sx0, sx1, sx2, sx3, sx4, sx5, sx6, sx7, sx8, sx9, sx10, sx11, sx12, sx13, sx14, sx15, sx16, sx17, rfl, rfl, H⟩ i hi
          obtain ⟨hun, oj, hoj, hall⟩ := mem_ready.1 hi
          clear hi
          rcases i with _ | _ | _ | _ | _ | _ | _ | _ | _ | _ | _ | _ | _ | _ | _ | _ | _ | _ | i
          · have ho := hoj
            simp only [List.getElem?_toArray, List.getElem?_cons_zero, Option.some.injEq] at hoj
            subst hoj
            obtain rfl : sb0 = false := hun
            clear hall
            obtain rfl : sb6 = false := Bool.eq_false_iff.2 fun h => Bool.false_ne_true (H.d6 h).1
            obtain rfl : sb7 = false := Bool.eq_false_iff.2 fun h => Bool.false_ne_true (H.d7 h)
            obtain rfl : sb8 = false := Bool.eq_false_iff.2 fun h => Bool.false_ne_true (H.d8 h)
            obtain rfl : sb9 = false := Bool.eq_false_iff.2 fun h => Bool.false_ne_true (H.d9 h)
            obtain rfl : sb10 = false := Bool.eq_false_iff.2 fun h => Bool.false_ne_true (H.d10 h)
            obtain rfl : sb11 = false := Bool.eq_false_iff.2 fun h => Bool.false_ne_true (H.d11 h)
            obtain rfl : sb14 = false := Bool.eq_false_iff.2 fun h => Bool.false_ne_true (H.d14 h).1
            obtain rfl : sb15 = false := Bool.eq_false_iff.2 fun h => Bool.false_ne_true (H.d15 h).1
            obtain rfl : sb16 = false := Bool.eq_false_iff.2 fun h => Bool.false_ne_true (H.d16 h).1
            obtain rfl : sb17 = false := Bool.eq_false_iff.2 fun h => Bool.false_ne_true (H.d17 h).1
            have hbe := H.be
            have hx_t5 := H.t5
            have hx_t6 := H.t6
            obtain ⟨q0, q1, q2, q3, q4, q5, q6, q7⟩ := bkS ((hbe.block _ (lt_of_block GX.out.x)).trans GX.out.x)
            refine wpOp_step ho (fun K' hK => ?_)
            have HK := Lib.hid hK
            clear hK ho
            go_simp
            exact HK.out _ _ ⟨_, _, _, _, _, _, _, _, _, _, _, _, _, _, _, _, _, _, _, _, _, _, _, _, _, _, _, _, _, _, _, _, sx14, sx15, _, _, rfl, rfl, ⟨hbe, H.d2, H.d3, H.d4, H.d5, (fun h => by cases h), H.d7, H.d8, H.d9, H.d10, H.d11, (fun h => by cases h), (fun h => by cases h), (fun h => by cases h), (fun h => by cases h), H.t5, H.t6, (fun _ => rfl), H.h1, H.h2, H.h3, H.h4, H.h5, (fun h => by cases h), (fun h => by cases h), (fun h => by cases h), (fun h => by cases h), H.h10, H.h11, H.h12, H.h13, (fun h => by cases h), (fun h => by cases h), H.h16, H.h17⟩⟩
          · have ho := hoj
            simp only [List.getElem?_toArray, List.getElem?_cons_succ, List.getElem?_cons_zero, Option.some.injEq] at hoj
            subst hoj
            obtain rfl : sb1 = false := hun
            clear hall
            obtain rfl : sb2 = false := Bool.eq_false_iff.2 fun h => Bool.false_ne_true (H.d2 h)
            obtain rfl : sb3 = false := Bool.eq_false_iff.2 fun h => Bool.false_ne_true (H.d3 h)
            obtain rfl : sb4 = false := Bool.eq_false_iff.2 fun h => Bool.false_ne_true (H.d4 h)
            obtain rfl : sb5 = false := Bool.eq_false_iff.2 fun h => Bool.false_ne_true (H.d5 h)
            obtain rfl : sb6 = false := Bool.eq_false_iff.2 fun h => Bool.false_ne_true (H.d6 h).2.1
            obtain rfl : sb7 = false := Bool.eq_false_iff.2 fun h => Bool.false_ne_true (H.d7 h)
            obtain rfl : sb8 = false := Bool.eq_false_iff.2 fun h => Bool.false_ne_true (H.d8 h)
            obtain rfl : sb9 = false := Bool.eq_false_iff.2 fun h => Bool.false_ne_true (H.d9 h)
            obtain rfl : sb10 = false := Bool.eq_false_iff.2 fun h => Bool.false_ne_true (H.d10 h)
            obtain rfl : sb11 = false := Bool.eq_false_iff.2 fun h => Bool.false_ne_true (H.d11 h)
            obtain rfl : sb14 = false := Bool.eq_false_iff.2 fun h => Bool.false_ne_true (H.d14 h).2.1
            obtain rfl : sb15 = false := Bool.eq_false_iff.2 fun h => Bool.false_ne_true (H.d15 h).2.1
            obtain rfl : sb16 = false := Bool.eq_false_iff.2 fun h => Bool.false_ne_true (H.d16 h).2.1
            obtain rfl : sb17 = false := Bool.eq_false_iff.2 fun h => Bool.false_ne_true (H.d17 h).2.1
            have hbe := H.be
            have hx_t5 := H.t5
            have hx_t6 := H.t6
            refine wpOp_step ho (fun K' hK => ?_)
            have HK := Lib.hid hK
            clear hK ho
            go_simp
            exact HK.out _ _ ⟨_, _, _, _, _, _, _, _, _, _, _, _, _, _, _, _, _, _, _, _, _, _, _, _, _, _, _, _, _, _, _, _, sx14, sx15, _, _, rfl, rfl, ⟨hbe, (fun h => by cases h), H.d3, H.d4, H.d5, H.d6, H.d7, H.d8, H.d9, H.d10, H.d11, (fun h => by cases h), (fun h => by cases h), (fun h => by cases h), (fun h => by cases h), H.t5, H.t6, H.h0, (fun _ => rfl), H.h2, H.h3, H.h4, H.h5, (fun h => by cases h), (fun h => by cases h), (fun h => by cases h), (fun h => by cases h), H.h10, H.h11, H.h12, H.h13, (fun h => by cases h), (fun h => by cases h), H.h16, H.h17⟩⟩
          · have ho := hoj
            simp only [List.getElem?_toArray, List.getElem?_cons_succ, List.getElem?_cons_zero, Option.some.injEq] at hoj
            subst hoj
            obtain rfl : sb2 = false := hun
            obtain rfl : sb1 = true := hall ⟨1, .data⟩ (by simp) (by kernel_rfl)
            clear hall
            obtain rfl : sb3 = false := Bool.eq_false_iff.2 fun h => Bool.false_ne_true (H.d3 h)
            obtain rfl : sb4 = false := Bool.eq_false_iff.2 fun h => Bool.false_ne_true (H.d4 h)
            obtain rfl : sb5 = false := Bool.eq_false_iff.2 fun h => Bool.false_ne_true (H.d5 h)
            obtain rfl : sb6 = false := Bool.eq_false_iff.2 fun h => Bool.false_ne_true (H.d6 h).2.1
            obtain rfl : sb7 = false := Bool.eq_false_iff.2 fun h => Bool.false_ne_true (H.d7 h)
            obtain rfl : sb8 = false := Bool.eq_false_iff.2 fun h => Bool.false_ne_true (H.d8 h)
            obtain rfl : sb9 = false := Bool.eq_false_iff.2 fun h => Bool.false_ne_true (H.d9 h)
            obtain rfl : sb10 = false := Bool.eq_false_iff.2 fun h => Bool.false_ne_true (H.d10 h)
            obtain rfl : sb11 = false := Bool.eq_false_iff.2 fun h => Bool.false_ne_true (H.d11 h)
            obtain rfl : sb14 = false := Bool.eq_false_iff.2 fun h => Bool.false_ne_true (H.d14 h).2.2.1
            obtain rfl : sb15 = false := Bool.eq_false_iff.2 fun h => Bool.false_ne_true (H.d15 h).2.2.1
            obtain rfl : sb16 = false := Bool.eq_false_iff.2 fun h => Bool.false_ne_true (H.d16 h).2.2.1
            obtain rfl : sb17 = false := Bool.eq_false_iff.2 fun h => Bool.false_ne_true (H.d17 h).2.2.1
            have hbe := H.be
            have hx_t5 := H.t5
            have hx_t6 := H.t6
            obtain rfl := H.h1 rfl
            obtain ⟨z0, z1, z2, z3⟩ := bk4R ((hbe.block _ (lt_of_block RX.out)).trans RX.out)
            refine wpOp_step ho (fun K' hK => ?_)
            have HK := Lib.hid hK
            clear hK ho
            go_simp
            exact HK.out _ _ ⟨_, _, _, _, _, _, _, _, _, _, _, _, _, _, _, _, _, _, _, _, _, _, _, _, _, _, _, _, _, _, _, _, sx14, sx15, _, _, rfl, rfl, ⟨hbe, (fun _ => rfl), (fun h => by cases h), H.d4, H.d5, H.d6, H.d7, H.d8, H.d9, H.d10, H.d11, (fun h => by cases h), (fun h => by cases h), (fun h => by cases h), (fun h => by cases h), H.t5, H.t6, H.h0, H.h1, (fun _ => rfl), H.h3, H.h4, H.h5, (fun h => by cases h), (fun h => by cases h), (fun h => by cases h), (fun h => by cases h), H.h10, H.h11, H.h12, H.h13, (fun h => by cases h), (fun h => by cases h), H.h16, H.h17⟩⟩
          · have ho := hoj
            simp only [List.getElem?_toArray, List.getElem?_cons_succ, List.getElem?_cons_zero, Option.some.injEq] at hoj
            subst hoj
            obtain rfl : sb3 = false := hun
            obtain rfl : sb2 = true := hall ⟨2, .data⟩ (by simp) (by kernel_rfl)
            obtain rfl : sb1 = true := (H.d2 rfl)
            clear hall
            obtain rfl : sb4 = false := Bool.eq_false_iff.2 fun h => Bool.false_ne_true (H.d4 h)
            obtain rfl : sb5 = false := Bool.eq_false_iff.2 fun h => Bool.false_ne_true (H.d5 h)
            obtain rfl : sb6 = false := Bool.eq_false_iff.2 fun h => Bool.false_ne_true (H.d6 h).2.1
            obtain rfl : sb7 = false := Bool.eq_false_iff.2 fun h => Bool.false_ne_true (H.d7 h)
            obtain rfl : sb8 = false := Bool.eq_false_iff.2 fun h => Bool.false_ne_true (H.d8 h)
            obtain rfl : sb9 = false := Bool.eq_false_iff.2 fun h => Bool.false_ne_true (H.d9 h)
            obtain rfl : sb10 = false := Bool.eq_false_iff.2 fun h => Bool.false_ne_true (H.d10 h)
            obtain rfl : sb11 = false := Bool.eq_false_iff.2 fun h => Bool.false_ne_true (H.d11 h)
            obtain rfl : sb14 = false := Bool.eq_false_iff.2 fun h => Bool.false_ne_true (H.d14 h).2.2.2.1
            obtain rfl : sb15 = false := Bool.eq_false_iff.2 fun h => Bool.false_ne_true (H.d15 h).2.2.2.1
            obtain rfl : sb16 = false := Bool.eq_false_iff.2 fun h => Bool.false_ne_true (H.d16 h).2.2.2.1
            obtain rfl : sb17 = false := Bool.eq_false_iff.2 fun h => Bool.false_ne_true (H.d17 h).2.2.2.1
            have hbe := H.be
            have hx_t5 := H.t5
            have hx_t6 := H.t6
            obtain rfl := H.h1 rfl
            obtain rfl := H.h2 rfl
            have hw39 := HW39.out
            refine wpOp_step ho (fun K' hK => ?_)
            have HK := Lib.hid hK
            clear hK ho
            go_simp
            exact HK.out _ _ ⟨_, _, _, _, _, _, _, _, _, _, _, _, _, _, _, _, _, _, _, _, _, _, _, _, _, _, _, _, _, _, _, _, sx14, sx15, _, _, rfl, rfl, ⟨hbe, H.d2, (fun _ => rfl), (fun h => by cases h), H.d5, H.d6, H.d7, H.d8, H.d9, H.d10, H.d11, (fun h => by cases h), (fun h => by cases h), (fun h => by cases h), (fun h => by cases h), H.t5, H.t6, H.h0, H.h1, H.h2, (fun _ => rfl), H.h4, H.h5, (fun h => by cases h), (fun h => by cases h), (fun h => by cases h), (fun h => by cases h), H.h10, H.h11, H.h12, H.h13, (fun h => by cases h), (fun h => by cases h), H.h16, H.h17⟩⟩
          · have ho := hoj
            simp only [List.getElem?_toArray, List.getElem?_cons_succ, List.getElem?_cons_zero, Option.some.injEq] at hoj
            subst hoj
            obtain rfl : sb4 = false := hun
            obtain rfl : sb3 = true := hall ⟨3, .data⟩ (by simp) (by kernel_rfl)
            obtain rfl : sb2 = true := (H.d3 rfl)
            obtain rfl : sb1 = true := (H.d2 rfl)
            clear hall
            obtain rfl : sb5 = false := Bool.eq_false_iff.2 fun h => Bool.false_ne_true (H.d5 h)
            obtain rfl : sb6 = false := Bool.eq_false_iff.2 fun h => Bool.false_ne_true (H.d6 h).2.1
            obtain rfl : sb7 = false := Bool.eq_false_iff.2 fun h => Bool.false_ne_true (H.d7 h)
            obtain rfl : sb8 = false := Bool.eq_false_iff.2 fun h => Bool.false_ne_true (H.d8 h)
            obtain rfl : sb9 = false := Bool.eq_false_iff.2 fun h => Bool.false_ne_true (H.d9 h)
            obtain rfl : sb10 = false := Bool.eq_false_iff.2 fun h => Bool.false_ne_true (H.d10 h)
            obtain rfl : sb11 = false := Bool.eq_false_iff.2 fun h => Bool.false_ne_true (H.d11 h)
            obtain rfl : sb14 = false := Bool.eq_false_iff.2 fun h => Bool.false_ne_true (H.d14 h).2.2.2.2.1
            obtain rfl : sb15 = false := Bool.eq_false_iff.2 fun h => Bool.false_ne_true (H.d15 h).2.2.2.2.1
            obtain rfl : sb16 = false := Bool.eq_false_iff.2 fun h => Bool.false_ne_true (H.d16 h).2.2.2.2.1
            obtain rfl : sb17 = false := Bool.eq_false_iff.2 fun h => Bool.false_ne_true (H.d17 h).2.2.2.2.1
            have hbe := H.be
            have hx_t5 := H.t5
            have hx_t6 := H.t6
            obtain rfl := H.h1 rfl
            obtain rfl := H.h2 rfl
            obtain rfl := H.h3 rfl
            refine wpOp_step ho (fun K' hK => ?_)
            have HK := Lib.hid hK
            clear hK ho
            go_wp2_with (go_at_call 11; refine (HPA.out _).mono ?_; rintro e w' ⟨rfl, rfl⟩)
            exact HK.out _ _ ⟨_, _, _, _, _, _, _, _, _, _, _, _, _, _, _, _, _, _, _, _, _, _, _, _, _, _, _, _, _, _, _, _, sx14, sx15, _, _, rfl, rfl, ⟨hbe, H.d2, H.d3, (fun _ => rfl), (fun h => by cases h), (fun h => by cases h), H.d7, H.d8, H.d9, H.d10, H.d11, (fun h => by cases h), (fun h => by cases h), (fun h => by cases h), (fun h => by cases h), H.t5, H.t6, H.h0, H.h1, H.h2, H.h3, (fun _ => rfl), H.h5, (fun h => by cases h), (fun h => by cases h), (fun h => by cases h), (fun h => by cases h), H.h10, H.h11, H.h12, H.h13, (fun h => by cases h), (fun h => by cases h), H.h16, H.h17⟩⟩
          · have ho := hoj
            simp only [List.getElem?_toArray, List.getElem?_cons_succ, List.getElem?_cons_zero, Option.some.injEq] at hoj
            subst hoj
            obtain rfl : sb5 = false := hun
            obtain rfl : sb4 = true := hall ⟨4, .data⟩ (by simp) (by kernel_rfl)
            obtain rfl : sb3 = true := (H.d4 rfl)
            obtain rfl : sb2 = true := (H.d3 rfl)
            obtain rfl : sb1 = true := (H.d2 rfl)
            clear hall
            obtain rfl : sb6 = false := Bool.eq_false_iff.2 fun h => Bool.false_ne_true (H.d6 h).2.2
            obtain rfl : sb7 = false := Bool.eq_false_iff.2 fun h => Bool.false_ne_true (H.d7 h)
            obtain rfl : sb8 = false := Bool.eq_false_iff.2 fun h => Bool.false_ne_true (H.d8 h)
            obtain rfl : sb9 = false := Bool.eq_false_iff.2 fun h => Bool.false_ne_true (H.d9 h)
            obtain rfl : sb10 = false := Bool.eq_false_iff.2 fun h => Bool.false_ne_true (H.d10 h)
            obtain rfl : sb11 = false := Bool.eq_false_iff.2 fun h => Bool.false_ne_true (H.d11 h)
            obtain rfl : sb14 = false := Bool.eq_false_iff.2 fun h => Bool.false_ne_true (H.d14 h).2.2.2.2.2.1
            obtain rfl : sb15 = false := Bool.eq_false_iff.2 fun h => Bool.false_ne_true (H.d15 h).2.2.2.2.2.1
            obtain rfl : sb16 = false := Bool.eq_false_iff.2 fun h => Bool.false_ne_true (H.d16 h).2.2.2.2.2.1
            obtain rfl : sb17 = false := Bool.eq_false_iff.2 fun h => Bool.false_ne_true (H.d17 h).2.2.2.2.2.1
            have hbe := H.be
            have hx_t5 := H.t5
            have hx_t6 := H.t6
            obtain rfl := H.h1 rfl
            obtain rfl := H.h2 rfl
            obtain rfl := H.h3 rfl
            obtain rfl := H.h4 rfl
            have hwr := HWR.out
            refine wpOp_step ho (fun K' hK => ?_)
            have HK := Lib.hid hK
            clear hK ho
            go_simp
            exact HK.out _ _ ⟨_, _, _, _, _, _, _, _, _, _, _, _, _, _, _, _, _, _, _, _, _, _, _, _, _, _, _, _, _, _, _, _, sx14, sx15, _, _, rfl, rfl, ⟨hbe, H.d2, H.d3, H.d4, (fun _ => rfl), (fun h => by cases h), H.d7, H.d8, H.d9, H.d10, H.d11, (fun h => by cases h), (fun h => by cases h), (fun h => by cases h), (fun h => by cases h), H.t5, H.t6, H.h0, H.h1, H.h2, H.h3, H.h4, (fun _ => rfl), (fun h => by cases h), (fun h => by cases h), (fun h => by cases h), (fun h => by cases h), H.h10, H.h11, H.h12, H.h13, (fun h => by cases h), (fun h => by cases h), H.h16, H.h17⟩⟩
          · have ho := hoj
            simp only [List.getElem?_toArray, List.getElem?_cons_succ, List.getElem?_cons_zero, Option.some.injEq] at hoj
            subst hoj
            obtain rfl : sb6 = false := hun
            obtain rfl : sb0 = true := hall ⟨0, .data⟩ (by simp) (by kernel_rfl)
            obtain rfl : sb4 = true := hall ⟨4, .chain⟩ (by simp) (by kernel_rfl)
            obtain rfl : sb5 = true := hall ⟨5, .data⟩ (by simp) (by kernel_rfl)
            obtain rfl : sb3 = true := (H.d4 rfl)
            obtain rfl : sb2 = true := (H.d3 rfl)
            obtain rfl : sb1 = true := (H.d2 rfl)
            clear hall
            obtain rfl : sb7 = false := Bool.eq_false_iff.2 fun h => Bool.false_ne_true (H.d7 h)
            obtain rfl : sb8 = false := Bool.eq_false_iff.2 fun h => Bool.false_ne_true (H.d8 h)
            obtain rfl : sb9 = false := Bool.eq_false_iff.2 fun h => Bool.false_ne_true (H.d9 h)
            obtain rfl : sb10 = false := Bool.eq_false_iff.2 fun h => Bool.false_ne_true (H.d10 h)
            obtain rfl : sb11 = false := Bool.eq_false_iff.2 fun h => Bool.false_ne_true (H.d11 h)
            obtain rfl : sb14 = false := Bool.eq_false_iff.2 fun h => Bool.false_ne_true (H.d14 h).2.2.2.2.2.2.1
            obtain rfl : sb15 = false := Bool.eq_false_iff.2 fun h => Bool.false_ne_true (H.d15 h).2.2.2.2.2.2.1
            obtain rfl : sb16 = false := Bool.eq_false_iff.2 fun h => Bool.false_ne_true (H.d16 h).2.2.2.2.2.2.1
            obtain rfl : sb17 = false := Bool.eq_false_iff.2 fun h => Bool.false_ne_true (H.d17 h).2.2.2.2.2.2.1
            have hbe := H.be
            have hx_t5 := H.t5
            have hx_t6 := H.t6
            obtain rfl := H.h0 rfl
            obtain rfl := H.h1 rfl
            obtain rfl := H.h2 rfl
            obtain rfl := H.h3 rfl
            obtain rfl := H.h4 rfl
            obtain rfl := H.h5 rfl
            refine wpOp_step ho (fun K' hK => ?_)
            have HK := Lib.hid hK
            clear hK ho
            go_wp2_with fail
            refine (snPiece_F _ s room 100 w (StS.on GX.out.v (KpS.below hbe)).now HWF.out).mono ?_
            rintro e w1 hr
            have BC := Lib.hid hr.be
            obtain ⟨u1, t1, rfl, hu1, ht1⟩ := hr.ex
            rw [HEQ.out] at hu1 ht1 ⊢
            have UC := Lib.hid (show TupE X sb12 sx12 sb13 sx13 w1 (.tuple #[u1, t1, .bool ob, .int .i64 0]) s2 f ob from ⟨_, _, rfl, StS.toX2 hu1.toSt hbe.size (fun hb => let ⟨k, e1, _, e3⟩ := H.h12 hb rfl; ⟨k, e1, lt_of_block e3⟩) (fun hb => let ⟨k, e1, _, e3⟩ := H.h13 hb rfl; ⟨k, e1, lt_of_block e3⟩), StS.toX2 ht1.toSt hbe.size (fun hb => let ⟨k, e1, _, e3⟩ := H.h12 hb rfl; ⟨k, e1, lt_of_block e3⟩) (fun hb => let ⟨k, e1, _, e3⟩ := H.h13 hb rfl; ⟨k, e1, lt_of_block e3⟩)⟩)
            clear hr hu1 ht1
            go_wp2_with fail
            exact HK.out _ _ ⟨_, _, _, _, _, _, _, _, _, _, _, _, _, _, _, _, _, _, _, _, _, _, _, _, _, _, _, _, _, _, _, _, sx14, sx15, _, _, rfl, rfl, ⟨hbe.trans (BC.out.mono hbe.size), H.d2, H.d3, H.d4, H.d5, (fun _ => ⟨rfl, rfl, rfl⟩), (fun h => by cases h), H.d8, H.d9, H.d10, H.d11, (fun h => by cases h), (fun h => by cases h), (fun h => by cases h), (fun h => by cases h), fun _ => ⟨_, _, rfl⟩, hx_t6, H.h0, H.h1, H.h2, H.h3, H.h4, H.h5, (fun _ => UC.out), (fun h => by cases h), (fun h => by cases h), (fun h => by cases h), H.h10, H.h11, (fun e f => let ⟨k, e1, e2, e3⟩ := (H.h12 e f); ⟨k, e1, e2, (BC.out.block _ (lt_of_block e3)).trans e3⟩), (fun e f => let ⟨k, e1, e2, e3⟩ := (H.h13 e f); ⟨k, e1, e2, (BC.out.block _ (lt_of_block e3)).trans e3⟩), (fun h => by cases h), (fun h => by cases h), H.h16, H.h17⟩⟩
          · have ho := hoj
            simp only [List.getElem?_toArray, List.getElem?_cons_succ, List.getElem?_cons_zero, Option.some.injEq] at hoj
            subst hoj
            obtain rfl : sb7 = false := hun
            obtain rfl : sb6 = true := hall ⟨6, .data⟩ (by simp) (by kernel_rfl)
            obtain rfl : sb0 = true := (H.d6 rfl).1
            obtain rfl : sb4 = true := (H.d6 rfl).2.1
            obtain rfl : sb5 = true := (H.d6 rfl).2.2
            obtain rfl : sb3 = true := (H.d4 rfl)
            obtain rfl : sb2 = true := (H.d3 rfl)
            obtain rfl : sb1 = true := (H.d2 rfl)
            clear hall
            obtain rfl : sb8 = false := Bool.eq_false_iff.2 fun h => Bool.false_ne_true (H.d8 h)
            obtain rfl : sb9 = false := Bool.eq_false_iff.2 fun h => Bool.false_ne_true (H.d9 h)
            obtain rfl : sb10 = false := Bool.eq_false_iff.2 fun h => Bool.false_ne_true (H.d10 h)
            obtain rfl : sb11 = false := Bool.eq_false_iff.2 fun h => Bool.false_ne_true (H.d11 h)
            obtain rfl : sb14 = false := Bool.eq_false_iff.2 fun h => Bool.false_ne_true (H.d14 h).2.2.2.2.2.2.2.1
            obtain rfl : sb15 = false := Bool.eq_false_iff.2 fun h => Bool.false_ne_true (H.d15 h).2.2.2.2.2.2.2.1
            obtain rfl : sb16 = false := Bool.eq_false_iff.2 fun h => Bool.false_ne_true (H.d16 h).2.2.2.2.2.2.2.1
            obtain rfl : sb17 = false := Bool.eq_false_iff.2 fun h => Bool.false_ne_true (H.d17 h).2.2.2.2.2.2.2.1
            have hbe := H.be
            have hx_t5 := H.t5
            have hx_t6 := H.t6
            obtain rfl := H.h0 rfl
            obtain rfl := H.h1 rfl
            obtain rfl := H.h2 rfl
            obtain rfl := H.h3 rfl
            obtain rfl := H.h4 rfl
            obtain rfl := H.h5 rfl
            have P6 := H.h6 rfl
            have PT := Lib.hid P6
            have TT := Lib.hid (H.t5 rfl)
            clear P6
            refine wpOp_step ho (fun K' hK => ?_)
            have HK := Lib.hid hK
            clear hK ho
            go_simp
            exact HK.out _ _ ⟨_, _, _, _, _, _, _, _, _, _, _, _, _, _, _, _, _, _, _, _, _, _, _, _, _, _, _, _, _, _, _, _, sx14, sx15, _, _, rfl, rfl, ⟨hbe, H.d2, H.d3, H.d4, H.d5, H.d6, (fun _ => rfl), (fun h => by cases h), (fun h => by cases h), (fun h => by cases h), (fun h => by cases h), (fun h => by cases h), (fun h => by cases h), (fun h => by cases h), (fun h => by cases h), H.t5, fun _ => TT.out, H.h0, H.h1, H.h2, H.h3, H.h4, H.h5, H.h6, (fun _ => PT.out), (fun h => by cases h), (fun h => by cases h), H.h10, H.h11, H.h12, H.h13, (fun h => by cases h), (fun h => by cases h), H.h16, H.h17⟩⟩
          · have ho := hoj
            simp only [List.getElem?_toArray, List.getElem?_cons_succ, List.getElem?_cons_zero, Option.some.injEq] at hoj
            subst hoj
            obtain rfl : sb8 = false := hun
            obtain rfl : sb7 = true := hall ⟨7, .data⟩ (by simp) (by kernel_rfl)
            obtain rfl : sb6 = true := (H.d7 rfl)
            obtain rfl : sb0 = true := (H.d6 rfl).1
            obtain rfl : sb4 = true := (H.d6 rfl).2.1
            obtain rfl : sb5 = true := (H.d6 rfl).2.2
            obtain rfl : sb3 = true := (H.d4 rfl)
            obtain rfl : sb2 = true := (H.d3 rfl)
            obtain rfl : sb1 = true := (H.d2 rfl)
            clear hall
            obtain rfl : sb14 = false := Bool.eq_false_iff.2 fun h => Bool.false_ne_true (H.d14 h).2.2.2.2.2.2.2.2.1
            obtain rfl : sb15 = false := Bool.eq_false_iff.2 fun h => Bool.false_ne_true (H.d15 h).2.2.2.2.2.2.2.2.1
            obtain rfl : sb16 = false := Bool.eq_false_iff.2 fun h => Bool.false_ne_true (H.d16 h).2.2.2.2.2.2.2.2.1
            obtain rfl : sb17 = false := Bool.eq_false_iff.2 fun h => Bool.false_ne_true (H.d17 h).2.2.2.2.2.2.2.2.1
            have hbe := H.be
            have hx_t5 := H.t5
            have hx_t6 := H.t6
            obtain rfl := H.h0 rfl
            obtain rfl := H.h1 rfl
            obtain rfl := H.h2 rfl
            obtain rfl := H.h3 rfl
            obtain rfl := H.h4 rfl
            obtain rfl := H.h5 rfl
            have P6 := H.h6 rfl
            have P7 := H.h7 rfl
            obtain ⟨u, t, rfl, hu, ht⟩ := P7.ex
            have HU := Lib.hid hu
            clear hu ht
            refine wpOp_step ho (fun K' hK => ?_)
            have HK := Lib.hid hK
            clear hK ho
            go_simp
            exact HK.out _ _ ⟨_, _, _, _, _, _, _, _, _, _, _, _, _, _, _, _, _, _, _, _, _, _, _, _, _, _, _, _, _, _, _, _, sx14, sx15, _, _, rfl, rfl, ⟨hbe, H.d2, H.d3, H.d4, H.d5, H.d6, H.d7, (fun _ => rfl), H.d9, H.d10, H.d11, (fun h => by cases h), (fun h => by cases h), (fun h => by cases h), (fun h => by cases h), H.t5, H.t6, H.h0, H.h1, H.h2, H.h3, H.h4, H.h5, H.h6, H.h7, (fun _ _ => HU.out), H.h9, H.h10, H.h11, H.h12, H.h13, (fun h => by cases h), (fun h => by cases h), H.h16, H.h17⟩⟩
          · have ho := hoj
            simp only [List.getElem?_toArray, List.getElem?_cons_succ, List.getElem?_cons_zero, Option.some.injEq] at hoj
            subst hoj
            obtain rfl : sb9 = false := hun
            obtain rfl : sb7 = true := hall ⟨7, .data⟩ (by simp) (by kernel_rfl)
            obtain rfl : sb6 = true := (H.d7 rfl)
            obtain rfl : sb0 = true := (H.d6 rfl).1
            obtain rfl : sb4 = true := (H.d6 rfl).2.1
            obtain rfl : sb5 = true := (H.d6 rfl).2.2
            obtain rfl : sb3 = true := (H.d4 rfl)
            obtain rfl : sb2 = true := (H.d3 rfl)
            obtain rfl : sb1 = true := (H.d2 rfl)
            clear hall
            obtain rfl : sb15 = false := Bool.eq_false_iff.2 fun h => Bool.false_ne_true (H.d15 h).2.2.2.2.2.2.2.2.2.1
            obtain rfl : sb16 = false := Bool.eq_false_iff.2 fun h => Bool.false_ne_true (H.d16 h).2.2.2.2.2.2.2.2.2.1
            obtain rfl : sb17 = false := Bool.eq_false_iff.2 fun h => Bool.false_ne_true (H.d17 h).2.2.2.2.2.2.2.2.2.1
            have hbe := H.be
            have hx_t5 := H.t5
            have hx_t6 := H.t6
            obtain rfl := H.h0 rfl
            obtain rfl := H.h1 rfl
            obtain rfl := H.h2 rfl
            obtain rfl := H.h3 rfl
            obtain rfl := H.h4 rfl
            obtain rfl := H.h5 rfl
            have P6 := H.h6 rfl
            have P7 := H.h7 rfl
            obtain ⟨u, t, rfl, hu, ht⟩ := P7.ex
            have HU := Lib.hid ht
            clear hu ht
            refine wpOp_step ho (fun K' hK => ?_)
            have HK := Lib.hid hK
            clear hK ho
            go_simp
            exact HK.out _ _ ⟨_, _, _, _, _, _, _, _, _, _, _, _, _, _, _, _, _, _, _, _, _, _, _, _, _, _, _, _, _, _, _, _, sx14, sx15, _, _, rfl, rfl, ⟨hbe, H.d2, H.d3, H.d4, H.d5, H.d6, H.d7, H.d8, (fun _ => rfl), H.d10, H.d11, H.d14, (fun h => by cases h), (fun h => by cases h), (fun h => by cases h), H.t5, H.t6, H.h0, H.h1, H.h2, H.h3, H.h4, H.h5, H.h6, H.h7, H.h8, (fun _ _ => HU.out), H.h10, H.h11, H.h12, H.h13, H.h14, (fun h => by cases h), H.h16, H.h17⟩⟩
          · have ho := hoj
            simp only [List.getElem?_toArray, List.getElem?_cons_succ, List.getElem?_cons_zero, Option.some.injEq] at hoj
            subst hoj
            obtain rfl : sb10 = false := hun
            obtain rfl : sb7 = true := hall ⟨7, .data⟩ (by simp) (by kernel_rfl)
            obtain rfl : sb6 = true := (H.d7 rfl)
            obtain rfl : sb0 = true := (H.d6 rfl).1
            obtain rfl : sb4 = true := (H.d6 rfl).2.1
            obtain rfl : sb5 = true := (H.d6 rfl).2.2
            obtain rfl : sb3 = true := (H.d4 rfl)
            obtain rfl : sb2 = true := (H.d3 rfl)
            obtain rfl : sb1 = true := (H.d2 rfl)
            clear hall
            obtain rfl : sb16 = false := Bool.eq_false_iff.2 fun h => Bool.false_ne_true (H.d16 h).2.2.2.2.2.2.2.2.2.2.1
            obtain rfl : sb17 = false := Bool.eq_false_iff.2 fun h => Bool.false_ne_true (H.d17 h).2.2.2.2.2.2.2.2.2.2.1
            have hbe := H.be
            have hx_t5 := H.t5
            have hx_t6 := H.t6
            obtain rfl := H.h0 rfl
            obtain rfl := H.h1 rfl
            obtain rfl := H.h2 rfl
            obtain rfl := H.h3 rfl
            obtain rfl := H.h4 rfl
            obtain rfl := H.h5 rfl
            have P6 := H.h6 rfl
            have P7 := H.h7 rfl
            obtain ⟨u, t, rfl⟩ := H.t6 rfl
            refine wpOp_step ho (fun K' hK => ?_)
            have HK := Lib.hid hK
            clear hK ho
            go_simp
            exact HK.out _ _ ⟨_, _, _, _, _, _, _, _, _, _, _, _, _, _, _, _, _, _, _, _, _, _, _, _, _, _, _, _, _, _, _, _, sx14, sx15, _, _, rfl, rfl, ⟨hbe, H.d2, H.d3, H.d4, H.d5, H.d6, H.d7, H.d8, H.d9, (fun _ => rfl), H.d11, H.d14, H.d15, (fun h => by cases h), (fun h => by cases h), H.t5, H.t6, H.h0, H.h1, H.h2, H.h3, H.h4, H.h5, H.h6, H.h7, H.h8, H.h9, (fun _ => rfl), H.h11, H.h12, H.h13, H.h14, H.h15, H.h16, H.h17⟩⟩
          · have ho := hoj
            simp only [List.getElem?_toArray, List.getElem?_cons_succ, List.getElem?_cons_zero, Option.some.injEq] at hoj
            subst hoj
            obtain rfl : sb11 = false := hun
            obtain rfl : sb7 = true := hall ⟨7, .data⟩ (by simp) (by kernel_rfl)
            obtain rfl : sb6 = true := (H.d7 rfl)
            obtain rfl : sb0 = true := (H.d6 rfl).1
            obtain rfl : sb4 = true := (H.d6 rfl).2.1
            obtain rfl : sb5 = true := (H.d6 rfl).2.2
            obtain rfl : sb3 = true := (H.d4 rfl)
            obtain rfl : sb2 = true := (H.d3 rfl)
            obtain rfl : sb1 = true := (H.d2 rfl)
            clear hall
            obtain rfl : sb17 = false := Bool.eq_false_iff.2 fun h => Bool.false_ne_true (H.d17 h).2.2.2.2.2.2.2.2.2.2.2.1
            have hbe := H.be
            have hx_t5 := H.t5
            have hx_t6 := H.t6
            obtain rfl := H.h0 rfl
            obtain rfl := H.h1 rfl
            obtain rfl := H.h2 rfl
            obtain rfl := H.h3 rfl
            obtain rfl := H.h4 rfl
            obtain rfl := H.h5 rfl
            have P6 := H.h6 rfl
            have P7 := H.h7 rfl
            obtain ⟨u, t, rfl⟩ := H.t6 rfl
            refine wpOp_step ho (fun K' hK => ?_)
            have HK := Lib.hid hK
            clear hK ho
            go_simp
            exact HK.out _ _ ⟨_, _, _, _, _, _, _, _, _, _, _, _, _, _, _, _, _, _, _, _, _, _, _, _, _, _, _, _, _, _, _, _, sx14, sx15, _, _, rfl, rfl, ⟨hbe, H.d2, H.d3, H.d4, H.d5, H.d6, H.d7, H.d8, H.d9, H.d10, (fun _ => rfl), H.d14, H.d15, H.d16, (fun h => by cases h), H.t5, H.t6, H.h0, H.h1, H.h2, H.h3, H.h4, H.h5, H.h6, H.h7, H.h8, H.h9, H.h10, (fun _ => rfl), H.h12, H.h13, H.h14, H.h15, H.h16, H.h17⟩⟩
          · have ho := hoj
            simp only [List.getElem?_toArray, List.getElem?_cons_succ, List.getElem?_cons_zero, Option.some.injEq] at hoj
            subst hoj
            obtain rfl : sb12 = false := hun
            clear hall
            obtain rfl : sb14 = false := Bool.eq_false_iff.2 fun h => Bool.false_ne_true (H.d14 h).2.2.2.2.2.2.2.2.2.1
            obtain rfl : sb15 = false := Bool.eq_false_iff.2 fun h => Bool.false_ne_true (H.d15 h).2.2.2.2.2.2.2.2.2.2.1
            obtain rfl : sb16 = false := Bool.eq_false_iff.2 fun h => Bool.false_ne_true (H.d16 h).2.2.2.2.2.2.2.2.2.2.2.1
            obtain rfl : sb17 = false := Bool.eq_false_iff.2 fun h => Bool.false_ne_true (H.d17 h).2.2.2.2.2.2.2.2.2.2.2.2.1
            have hbe := H.be
            have hx_t5 := H.t5
            have hx_t6 := H.t6
            have BA := Lib.hid ((Below.refl w.heap.size w).alloc (Nat.le_refl _) (.cells #[.slice none 0 0, .bool false, .int .i64 0, .int .i64 0, .slice none 0 0, .slice none 0 0, .bool false, .bool false] 27))
            have NA := Lib.hid (heap_alloc_new w (.cells #[.slice none 0 0, .bool false, .int .i64 0, .int .i64 0, .slice none 0 0, .slice none 0 0, .bool false, .bool false] 27))
            have hsz := hbe.size
            refine wpOp_step ho (fun K' hK => ?_)
            have HK := Lib.hid hK
            clear hK ho
            go_simp
            exact HK.out _ _ ⟨_, _, _, _, _, _, _, _, _, _, _, _, _, _, _, _, _, _, _, _, _, _, _, _, _, _, _, _, _, _, _, _, sx14, sx15, _, _, rfl, rfl, ⟨hbe.trans (BA.out.mono hbe.size), H.d2, H.d3, H.d4, H.d5, H.d6, H.d7, H.d8, H.d9, H.d10, H.d11, (fun h => by cases h), (fun h => by cases h), (fun h => by cases h), (fun h => by cases h), hx_t5, hx_t6, H.h0, H.h1, H.h2, H.h3, H.h4, H.h5, (fun e => (H.h6 e).made1 BA.out), (fun e => (H.h7 e).made1 BA.out), (fun e f => StS.made1 (H.h8 e f) BA.out), (fun e f => StS.made1 (H.h9 e f) BA.out), H.h10, H.h11, (fun _ _ => ⟨_, rfl, hsz, NA.out⟩), (fun e f => let ⟨k, e1, e2, e3⟩ := (H.h13 e f); ⟨k, e1, e2, (BA.out.block _ (lt_of_block e3)).trans e3⟩), (fun h => by cases h), (fun h => by cases h), H.h16, H.h17⟩⟩
          · have ho := hoj
            simp only [List.getElem?_toArray, List.getElem?_cons_succ, List.getElem?_cons_zero, Option.some.injEq] at hoj
            subst hoj
            obtain rfl : sb13 = false := hun
            clear hall
            obtain rfl : sb14 = false := Bool.eq_false_iff.2 fun h => Bool.false_ne_true (H.d14 h).2.2.2.2.2.2.2.2.2.2
            obtain rfl : sb15 = false := Bool.eq_false_iff.2 fun h => Bool.false_ne_true (H.d15 h).2.2.2.2.2.2.2.2.2.2.2.1
            obtain rfl : sb16 = false := Bool.eq_false_iff.2 fun h => Bool.false_ne_true (H.d16 h).2.2.2.2.2.2.2.2.2.2.2.2.1
            obtain rfl : sb17 = false := Bool.eq_false_iff.2 fun h => Bool.false_ne_true (H.d17 h).2.2.2.2.2.2.2.2.2.2.2.2.2.1
            have hbe := H.be
            have hx_t5 := H.t5
            have hx_t6 := H.t6
            have BA := Lib.hid ((Below.refl w.heap.size w).alloc (Nat.le_refl _) (.cells #[.int .i64 0, .int .i64 0, .int .i64 0, .bool false, .int .i64 0, .slice none 0 0, .slice none 0 0] 35))
            have NA := Lib.hid (heap_alloc_new w (.cells #[.int .i64 0, .int .i64 0, .int .i64 0, .bool false, .int .i64 0, .slice none 0 0, .slice none 0 0] 35))
            have hsz := hbe.size
            refine wpOp_step ho (fun K' hK => ?_)
            have HK := Lib.hid hK
            clear hK ho
            go_simp
            exact HK.out _ _ ⟨_, _, _, _, _, _, _, _, _, _, _, _, _, _, _, _, _, _, _, _, _, _, _, _, _, _, _, _, _, _, _, _, sx14, sx15, _, _, rfl, rfl, ⟨hbe.trans (BA.out.mono hbe.size), H.d2, H.d3, H.d4, H.d5, H.d6, H.d7, H.d8, H.d9, H.d10, H.d11, (fun h => by cases h), (fun h => by cases h), (fun h => by cases h), (fun h => by cases h), hx_t5, hx_t6, H.h0, H.h1, H.h2, H.h3, H.h4, H.h5, (fun e => (H.h6 e).made2 BA.out), (fun e => (H.h7 e).made2 BA.out), (fun e f => StS.made2 (H.h8 e f) BA.out), (fun e f => StS.made2 (H.h9 e f) BA.out), H.h10, H.h11, (fun e f => let ⟨k, e1, e2, e3⟩ := (H.h12 e f); ⟨k, e1, e2, (BA.out.block _ (lt_of_block e3)).trans e3⟩), (fun _ _ => ⟨_, rfl, hsz, NA.out⟩), (fun h => by cases h), (fun h => by cases h), H.h16, H.h17⟩⟩
          · have ho := hoj
            simp only [List.getElem?_toArray, List.getElem?_cons_succ, List.getElem?_cons_zero, Option.some.injEq] at hoj
            subst hoj
            obtain rfl : sb14 = false := hun
            obtain rfl : sb0 = true := hall ⟨0, .phase⟩ (by simp) (by kernel_rfl)
            obtain rfl : sb1 = true := hall ⟨1, .phase⟩ (by simp) (by kernel_rfl)
            obtain rfl : sb2 = true := hall ⟨2, .phase⟩ (by simp) (by kernel_rfl)
            obtain rfl : sb3 = true := hall ⟨3, .phase⟩ (by simp) (by kernel_rfl)
            obtain rfl : sb4 = true := hall ⟨4, .phase⟩ (by simp) (by kernel_rfl)
            obtain rfl : sb5 = true := hall ⟨5, .phase⟩ (by simp) (by kernel_rfl)
            obtain rfl : sb6 = true := hall ⟨6, .chain⟩ (by simp) (by kernel_rfl)
            obtain rfl : sb7 = true := hall ⟨7, .phase⟩ (by simp) (by kernel_rfl)
            obtain rfl : sb8 = true := hall ⟨8, .data⟩ (by simp) (by kernel_rfl)
            obtain rfl : sb12 = true := hall ⟨12, .data⟩ (by simp) (by kernel_rfl)
            obtain rfl : sb13 = true := hall ⟨13, .phase⟩ (by simp) (by kernel_rfl)
            clear hall
            obtain rfl : sb15 = false := Bool.eq_false_iff.2 fun h => Bool.false_ne_true (H.d15 h).2.2.2.2.2.2.2.2.2.2.2.2
            obtain rfl : sb16 = false := Bool.eq_false_iff.2 fun h => Bool.false_ne_true (H.d16 h).2.2.2.2.2.2.2.2.2.2.2.2.2.1
            obtain rfl : sb17 = false := Bool.eq_false_iff.2 fun h => Bool.false_ne_true (H.d17 h).2.2.2.2.2.2.2.2.2.2.2.2.2.2.1
            have hbe := H.be
            have hx_t5 := H.t5
            have hx_t6 := H.t6
            obtain rfl := H.h0 rfl
            obtain rfl := H.h1 rfl
            obtain rfl := H.h2 rfl
            obtain rfl := H.h3 rfl
            obtain rfl := H.h4 rfl
            obtain rfl := H.h5 rfl
            have P6 := H.h6 rfl
            have P7 := H.h7 rfl
            have P8 := H.h8 rfl rfl
            have P12 := H.h12 rfl rfl
            have P13 := H.h13 rfl rfl
            obtain ⟨k, rfl, hk0, hk⟩ := P12
            have hu := Lib.hid P8
            obtain ⟨Nd, cNd, Nl, cNl, Na, cNa, rfl⟩ := sn_slices (StS.now P8)
            obtain ⟨k1, gp⟩ := bkS_put hk (.slice Nd s2.data.length cNd) (.bool s2.fin) (.int .i64 s2.next) (.int .i64 s2.mx) (.slice Nl s2.lost.length cNl) (.slice Na s2.acked.length cNa) (.bool s2.ended) (.bool s2.over)
            have HKP := Lib.hid (KpS.gr (S := SX2 X true (.pointer (some ⟨k, 0, none⟩)) true sx13) gp (.inr (.inl ⟨rfl, rfl⟩)))
            have GPZ := Lib.hid (fun (j : Nat) (hj : w.heap[j]? = some (.cells #[.int .i64 0, .int .i64 0, .int .i64 0, .bool false, .int .i64 0, .slice none 0 0, .slice none 0 0] 35 (0, 0))) => (gp.block j (lt_of_block hj) (fun e => by have e : j = k := Option.some.inj e; subst e; rw [hk] at hj; simp at hj)).trans hj)
            have BV := Lib.hid (gr_from hbe hbe.size hk0 gp)
            have NV := Lib.hid (show EvA X true (.pointer (some ⟨k, 0, none⟩)) true sx13 _ s2 from ⟨k, Nd, Nl, Na, cNd, cNl, cNa, rfl, hk0, k1, StS.on hu.out HKP.out⟩)
            obtain ⟨q0, q1, q2, q3, q4, q5, q6, q7⟩ := bkS hk
            have qf := fun i => bk_frz hk i
            clear hk k1 gp hu
            refine wpOp_step ho (fun K' hK => ?_)
            have HK := Lib.hid hK
            clear hK ho
            go_simp
            exact HK.out _ _ ⟨_, _, _, _, _, _, _, _, _, _, _, _, _, _, _, _, _, _, _, _, _, _, _, _, _, _, _, _, _, _, _, _, sx14, sx15, _, _, rfl, rfl, ⟨BV.out, H.d2, H.d3, H.d4, H.d5, H.d6, H.d7, H.d8, H.d9, H.d10, H.d11, (fun _ => ⟨rfl, rfl, rfl, rfl, rfl, rfl, rfl, rfl, rfl, rfl, rfl⟩), (fun h => by cases h), (fun h => by cases h), (fun h => by cases h), H.t5, H.t6, H.h0, H.h1, H.h2, H.h3, H.h4, H.h5, (fun e => (H.h6 e).kp HKP.out), (fun e => (H.h7 e).kp HKP.out), (fun _ h => by cases h), (fun e f => StS.on (H.h9 e f) HKP.out), H.h10, H.h11, (fun _ h => by cases h), (fun e f => let ⟨k, e1, e2, e3⟩ := (H.h13 e f); ⟨k, e1, e2, GPZ.out k e3⟩), (fun _ _ => NV.out), (fun h => by cases h), H.h16, H.h17⟩⟩
          · have ho := hoj
            simp only [List.getElem?_toArray, List.getElem?_cons_succ, List.getElem?_cons_zero, Option.some.injEq] at hoj
            subst hoj
            obtain rfl : sb15 = false := hun
            obtain rfl : sb0 = true := hall ⟨0, .phase⟩ (by simp) (by kernel_rfl)
            obtain rfl : sb1 = true := hall ⟨1, .phase⟩ (by simp) (by kernel_rfl)
            obtain rfl : sb2 = true := hall ⟨2, .phase⟩ (by simp) (by kernel_rfl)
            obtain rfl : sb3 = true := hall ⟨3, .phase⟩ (by simp) (by kernel_rfl)
            obtain rfl : sb4 = true := hall ⟨4, .phase⟩ (by simp) (by kernel_rfl)
            obtain rfl : sb5 = true := hall ⟨5, .phase⟩ (by simp) (by kernel_rfl)
            obtain rfl : sb6 = true := hall ⟨6, .phase⟩ (by simp) (by kernel_rfl)
            obtain rfl : sb7 = true := hall ⟨7, .phase⟩ (by simp) (by kernel_rfl)
            obtain rfl : sb8 = true := hall ⟨8, .phase⟩ (by simp) (by kernel_rfl)
            obtain rfl : sb9 = true := hall ⟨9, .data⟩ (by simp) (by kernel_rfl)
            obtain rfl : sb12 = true := hall ⟨12, .phase⟩ (by simp) (by kernel_rfl)
            obtain rfl : sb13 = true := hall ⟨13, .data⟩ (by simp) (by kernel_rfl)
            obtain rfl : sb14 = true := hall ⟨14, .chain⟩ (by simp) (by kernel_rfl)
            clear hall
            obtain rfl : sb16 = false := Bool.eq_false_iff.2 fun h => Bool.false_ne_true (H.d16 h).2.2.2.2.2.2.2.2.2.2.2.2.2.2
            obtain rfl : sb17 = false := Bool.eq_false_iff.2 fun h => Bool.false_ne_true (H.d17 h).2.2.2.2.2.2.2.2.2.2.2.2.2.2.2.1
            have hbe := H.be
            have hx_t5 := H.t5
            have hx_t6 := H.t6
            obtain rfl := H.h0 rfl
            obtain rfl := H.h1 rfl
            obtain rfl := H.h2 rfl
            obtain rfl := H.h3 rfl
            obtain rfl := H.h4 rfl
            obtain rfl := H.h5 rfl
            have P6 := H.h6 rfl
            have P7 := H.h7 rfl
            have P9 := H.h9 rfl rfl
            have P13 := H.h13 rfl rfl
            have P14 := H.h14 rfl rfl
            obtain ⟨g, rfl, hg0, hg⟩ := P13
            have hnf := Lib.hid P14
            have ht := Lib.hid P9
            obtain ⟨Fr_, cFr, Fd, cFd, rfl⟩ := fr_slices (StS.now P9)
            obtain ⟨k1, gp⟩ := bkF_put hg (.int .i64 f.kind) (.int .i64 f.id) (.int .i64 f.off) (.bool f.fin) (.int .i64 f.code) (.slice Fr_ f.rs.length cFr) (.slice Fd f.data.length cFd)
            have BV := Lib.hid (gr_from hbe hbe.size hg0 gp)
            have HKP := Lib.hid (KpS.gr (S := SX2 X true sx12 true (.pointer (some ⟨g, 0, none⟩))) gp (.inr (.inr ⟨rfl, rfl⟩)))
            have NV := Lib.hid (evn_of hnf.out ht.out hg0 hg k1 gp BV.out)
            obtain ⟨z0, z1, z2, z3, z4, z5, z6⟩ := bkF hg
            have zf := fun i => bk_frz hg i
            clear hg ht k1 gp hnf
            refine wpOp_step ho (fun K' hK => ?_)
            have HK := Lib.hid hK
            clear hK ho
            go_simp
            exact HK.out _ _ ⟨_, _, _, _, _, _, _, _, _, _, _, _, _, _, _, _, _, _, _, _, _, _, _, _, _, _, _, _, _, _, _, _, sx14, sx15, _, _, rfl, rfl, ⟨BV.out, H.d2, H.d3, H.d4, H.d5, H.d6, H.d7, H.d8, H.d9, H.d10, H.d11, H.d14, (fun _ => ⟨rfl, rfl, rfl, rfl, rfl, rfl, rfl, rfl, rfl, rfl, rfl, rfl, rfl⟩), (fun h => by cases h), (fun h => by cases h), H.t5, H.t6, H.h0, H.h1, H.h2, H.h3, H.h4, H.h5, (fun e => (H.h6 e).kp HKP.out), (fun e => (H.h7 e).kp HKP.out), (fun _ h => by cases h), (fun _ h => by cases h), H.h10, H.h11, (fun _ h => by cases h), (fun _ h => by cases h), (fun _ h => by cases h), (fun _ => NV.out), H.h16, H.h17⟩⟩
          · have ho := hoj
            simp only [List.getElem?_toArray, List.getElem?_cons_succ, List.getElem?_cons_zero, Option.some.injEq] at hoj
            subst hoj
            obtain rfl : sb16 = false := hun
            obtain rfl : sb0 = true := hall ⟨0, .phase⟩ (by simp) (by kernel_rfl)
            obtain rfl : sb1 = true := hall ⟨1, .phase⟩ (by simp) (by kernel_rfl)
            obtain rfl : sb2 = true := hall ⟨2, .phase⟩ (by simp) (by kernel_rfl)
            obtain rfl : sb3 = true := hall ⟨3, .phase⟩ (by simp) (by kernel_rfl)
            obtain rfl : sb4 = true := hall ⟨4, .phase⟩ (by simp) (by kernel_rfl)
            obtain rfl : sb5 = true := hall ⟨5, .phase⟩ (by simp) (by kernel_rfl)
            obtain rfl : sb6 = true := hall ⟨6, .phase⟩ (by simp) (by kernel_rfl)
            obtain rfl : sb7 = true := hall ⟨7, .phase⟩ (by simp) (by kernel_rfl)
            obtain rfl : sb8 = true := hall ⟨8, .phase⟩ (by simp) (by kernel_rfl)
            obtain rfl : sb9 = true := hall ⟨9, .phase⟩ (by simp) (by kernel_rfl)
            obtain rfl : sb10 = true := hall ⟨10, .data⟩ (by simp) (by kernel_rfl)
            obtain rfl : sb12 = true := hall ⟨12, .phase⟩ (by simp) (by kernel_rfl)
            obtain rfl : sb13 = true := hall ⟨13, .phase⟩ (by simp) (by kernel_rfl)
            obtain rfl : sb14 = true := hall ⟨14, .phase⟩ (by simp) (by kernel_rfl)
            obtain rfl : sb15 = true := hall ⟨15, .chain⟩ (by simp) (by kernel_rfl)
            clear hall
            obtain rfl : sb17 = false := Bool.eq_false_iff.2 fun h => Bool.false_ne_true (H.d17 h).2.2.2.2.2.2.2.2.2.2.2.2.2.2.2.2
            have hbe := H.be
            have hx_t5 := H.t5
            have hx_t6 := H.t6
            obtain rfl := H.h0 rfl
            obtain rfl := H.h1 rfl
            obtain rfl := H.h2 rfl
            obtain rfl := H.h3 rfl
            obtain rfl := H.h4 rfl
            obtain rfl := H.h5 rfl
            have P6 := H.h6 rfl
            have P7 := H.h7 rfl
            obtain rfl := H.h10 rfl
            have P15 := H.h15 rfl
            refine wpOp_step ho (fun K' hK => ?_)
            have HK := Lib.hid hK
            clear hK ho
            go_simp
            exact HK.out _ _ ⟨_, _, _, _, _, _, _, _, _, _, _, _, _, _, _, _, _, _, _, _, _, _, _, _, _, _, _, _, _, _, _, _, sx14, sx15, _, _, rfl, rfl, ⟨hbe, H.d2, H.d3, H.d4, H.d5, H.d6, H.d7, H.d8, H.d9, H.d10, H.d11, H.d14, H.d15, (fun _ => ⟨rfl, rfl, rfl, rfl, rfl, rfl, rfl, rfl, rfl, rfl, rfl, rfl, rfl, rfl, rfl⟩), (fun h => by cases h), H.t5, H.t6, H.h0, H.h1, H.h2, H.h3, H.h4, H.h5, H.h6, H.h7, (fun _ h => by cases h), (fun _ h => by cases h), H.h10, H.h11, (fun _ h => by cases h), (fun _ h => by cases h), (fun _ h => by cases h), H.h15, (fun _ => rfl), H.h17⟩⟩
          · have ho := hoj
            simp only [List.getElem?_toArray, List.getElem?_cons_succ, List.getElem?_cons_zero, Option.some.injEq] at hoj
            subst hoj
            obtain rfl : sb17 = false := hun
            obtain rfl : sb0 = true := hall ⟨0, .phase⟩ (by simp) (by kernel_rfl)
            obtain rfl : sb1 = true := hall ⟨1, .phase⟩ (by simp) (by kernel_rfl)
            obtain rfl : sb2 = true := hall ⟨2, .phase⟩ (by simp) (by kernel_rfl)
            obtain rfl : sb3 = true := hall ⟨3, .phase⟩ (by simp) (by kernel_rfl)
            obtain rfl : sb4 = true := hall ⟨4, .phase⟩ (by simp) (by kernel_rfl)
            obtain rfl : sb5 = true := hall ⟨5, .phase⟩ (by simp) (by kernel_rfl)
            obtain rfl : sb6 = true := hall ⟨6, .phase⟩ (by simp) (by kernel_rfl)
            obtain rfl : sb7 = true := hall ⟨7, .phase⟩ (by simp) (by kernel_rfl)
            obtain rfl : sb8 = true := hall ⟨8, .phase⟩ (by simp) (by kernel_rfl)
            obtain rfl : sb9 = true := hall ⟨9, .phase⟩ (by simp) (by kernel_rfl)
            obtain rfl : sb10 = true := hall ⟨10, .phase⟩ (by simp) (by kernel_rfl)
            obtain rfl : sb11 = true := hall ⟨11, .data⟩ (by simp) (by kernel_rfl)
            obtain rfl : sb12 = true := hall ⟨12, .phase⟩ (by simp) (by kernel_rfl)
            obtain rfl : sb13 = true := hall ⟨13, .phase⟩ (by simp) (by kernel_rfl)
            obtain rfl : sb14 = true := hall ⟨14, .phase⟩ (by simp) (by kernel_rfl)
            obtain rfl : sb15 = true := hall ⟨15, .phase⟩ (by simp) (by kernel_rfl)
            obtain rfl : sb16 = true := hall ⟨16, .chain⟩ (by simp) (by kernel_rfl)
            clear hall
            have hbe := H.be
            have hx_t5 := H.t5
            have hx_t6 := H.t6
            obtain rfl := H.h0 rfl
            obtain rfl := H.h1 rfl
            obtain rfl := H.h2 rfl
            obtain rfl := H.h3 rfl
            obtain rfl := H.h4 rfl
            obtain rfl := H.h5 rfl
            have P6 := H.h6 rfl
            have P7 := H.h7 rfl
            obtain rfl := H.h10 rfl
            obtain rfl := H.h11 rfl
            have P15 := H.h15 rfl
            obtain rfl := H.h16 rfl
            refine wpOp_step ho (fun K' hK => ?_)
            have HK := Lib.hid hK
            clear hK ho
            go_simp
            exact HK.out _ _ ⟨_, _, _, _, _, _, _, _, _, _, _, _, _, _, _, _, _, _, _, _, _, _, _, _, _, _, _, _, _, _, _, _, sx14, sx15, _, _, rfl, rfl, ⟨hbe, H.d2, H.d3, H.d4, H.d5, H.d6, H.d7, H.d8, H.d9, H.d10, H.d11, H.d14, H.d15, H.d16, (fun _ => ⟨rfl, rfl, rfl, rfl, rfl, rfl, rfl, rfl, rfl, rfl, rfl, rfl, rfl, rfl, rfl, rfl, rfl⟩), H.t5, H.t6, H.h0, H.h1, H.h2, H.h3, H.h4, H.h5, H.h6, H.h7, (fun _ h => by cases h), (fun _ h => by cases h), H.h10, H.h11, (fun _ h => by cases h), (fun _ h => by cases h), (fun _ h => by cases h), H.h15, H.h16, (fun _ => rfl)⟩⟩
          · have ho := hoj
            simp at ho
        case hfin =>
          rintro listed a w ⟨sb0, sb1, sb2, sb3, sb4, sb5, sb6, sb7, sb8, sb9, sb10, sb11, sb12, sb13, sb14, sb15, sb16, sb17, sx0, sx1, sx2, sx3, sx4, sx5, sx6, sx7, sx8, sx9, sx10, sx11, sx12, sx13, sx14, sx15, sx16, sx17, rfl, rfl, H⟩ hr
          have hb : sb17 = true := by
            clear H
            obtain rfl : sb0 = true := by
              cases sb0
              · exact absurd hr (ready_neE (by kernel_rfl))
              · rfl
            obtain rfl : sb1 = true := by
              cases sb1
              · exact absurd hr (ready_neE (by kernel_rfl))
              · rfl
            obtain rfl : sb2 = true := by
              cases sb2
              · exact absurd hr (ready_neE (by kernel_rfl))
              · rfl
            obtain rfl : sb3 = true := by
              cases sb3
              · exact absurd hr (ready_neE (by kernel_rfl))
              · rfl
            obtain rfl : sb4 = true := by
              cases sb4
              · exact absurd hr (ready_neE (by kernel_rfl))
              · rfl
            obtain rfl : sb5 = true := by
              cases sb5
              · exact absurd hr (ready_neE (by kernel_rfl))
              · rfl
            obtain rfl : sb6 = true := by
              cases sb6
              · exact absurd hr (ready_neE (by kernel_rfl))
              · rfl
            obtain rfl : sb7 = true := by
              cases sb7
              · exact absurd hr (ready_neE (by kernel_rfl))
              · rfl
            obtain rfl : sb8 = true := by
              cases sb8
              · exact absurd hr (ready_neE (by kernel_rfl))
              · rfl
            obtain rfl : sb9 = true := by
              cases sb9
              · exact absurd hr (ready_neE (by kernel_rfl))
              · rfl
            obtain rfl : sb10 = true := by
              cases sb10
              · exact absurd hr (ready_neE (by kernel_rfl))
              · rfl
            obtain rfl : sb11 = true := by
              cases sb11
              · exact absurd hr (ready_neE (by kernel_rfl))
              · rfl
            obtain rfl : sb12 = true := by
              cases sb12
              · exact absurd hr (ready_neE (by kernel_rfl))
              · rfl
            obtain rfl : sb13 = true := by
              cases sb13
              · exact absurd hr (ready_neE (by kernel_rfl))
              · rfl
            obtain rfl : sb14 = true := by
              cases sb14
              · exact absurd hr (ready_neE (by kernel_rfl))
              · rfl
            obtain rfl : sb15 = true := by
              cases sb15
              · exact absurd hr (ready_neE (by kernel_rfl))
              · rfl
            obtain rfl : sb16 = true := by
              cases sb16
              · exact absurd hr (ready_neE (by kernel_rfl))
              · rfl
            obtain rfl : sb17 = true := by
              cases sb17
              · exact absurd hr (ready_neE (by kernel_rfl))
              · rfl
            rfl
          subst hb
          clear hr
          obtain rfl : sb0 = true := (H.d17 rfl).1
          obtain rfl : sb1 = true := (H.d17 rfl).2.1
          obtain rfl : sb2 = true := (H.d17 rfl).2.2.1
          obtain rfl : sb3 = true := (H.d17 rfl).2.2.2.1
          obtain rfl : sb4 = true := (H.d17 rfl).2.2.2.2.1
          obtain rfl : sb5 = true := (H.d17 rfl).2.2.2.2.2.1
          obtain rfl : sb6 = true := (H.d17 rfl).2.2.2.2.2.2.1
          obtain rfl : sb7 = true := (H.d17 rfl).2.2.2.2.2.2.2.1
          obtain rfl : sb8 = true := (H.d17 rfl).2.2.2.2.2.2.2.2.1
          obtain rfl : sb9 = true := (H.d17 rfl).2.2.2.2.2.2.2.2.2.1
          obtain rfl : sb10 = true := (H.d17 rfl).2.2.2.2.2.2.2.2.2.2.1
          obtain rfl : sb11 = true := (H.d17 rfl).2.2.2.2.2.2.2.2.2.2.2.1
          obtain rfl : sb12 = true := (H.d17 rfl).2.2.2.2.2.2.2.2.2.2.2.2.1
          obtain rfl : sb13 = true := (H.d17 rfl).2.2.2.2.2.2.2.2.2.2.2.2.2.1
          obtain rfl : sb14 = true := (H.d17 rfl).2.2.2.2.2.2.2.2.2.2.2.2.2.2.1
          obtain rfl : sb15 = true := (H.d17 rfl).2.2.2.2.2.2.2.2.2.2.2.2.2.2.2.1
          obtain rfl : sb16 = true := (H.d17 rfl).2.2.2.2.2.2.2.2.2.2.2.2.2.2.2.2
          have hnv := Lib.hid (H.h15 rfl)
          have e16 := H.h16 rfl
          have e17 := H.h17 rfl
          clear H
          obtain ⟨Y, hY⟩ : ∃ Y, Y = w := ⟨_, rfl⟩
          subst w
          subst e16 e17
          obtain ⟨NB, FB, Nd, Nl, Na, cNd, cNl, cNa, Fr_, Fd, cFr, cFd, rfl, rfl, hnk, hfk, hn1, hf1, hn2, hf2, hbb⟩ := hnv.out.ex
          have N7 := Lib.hid hn1
          have F7 := Lib.hid hf1
          have NU7 := Lib.hid hn2
          have FU7 := Lib.hid hf2
          have B7 := Lib.hid hbb
          clear hnv hn1 hf1 hn2 hf2 hbb
          have GY := Lib.hid (GX.out.on B7.out)
          have RY := Lib.hid ((B7.out.block _ (lt_of_block RX.out)).trans RX.out)
          have HMX := Lib.hid (GX.out.mlt)
          have HVX := Lib.hid (show V < X.heap.size by have := HVM.out; have := HMX.out; omega)
          rcases HEV.out with ⟨e1, ho, hlo, hnx, hov, hal⟩ | ⟨lo, n, fin, s', HP⟩
          · have e2 := HEQ.out
            rw [e1] at e2
            cases e2
            clear e1 HEV HEQ
            have GE := Lib.hid GY.out
            have HSZ := Lib.hid (show cntF (gA bs s.acked) L = L from cntF_all _ _ (fun k hk => by unfold gA; rw [if_pos (hal k (by omega) (by rw [HL.out]; omega))]; rfl))
            have HCO := Lib.hid (fun w (h : StS w (fun j => j = V ∨ j = M) (fun wv => SnVal wv wv.heap.size (.agg #[.slice Ad s.data.length cAd, .bool s.fin, .int .i64 s.next, .int .i64 s.mx, .slice Al s.lost.length cAl, .slice Aa s.acked.length cAa, .bool s.ended, .bool s.over]) s)) => hov ▸ snOv_any _ s w (StS.now h) HWF.out)
            have HOT := Lib.hid ho
            clear hov hal ho hlo hnx GY RY N7 F7 NU7 FU7
            obtain ⟨ov, hov2⟩ : ∃ x, s.over = x := ⟨_, rfl⟩
            have hovt : ov = true := by rw [← hov2]; exact HOT.out
            obtain ⟨q0, q1, q2, q3, q4, q5, q6, q7⟩ := bkS GE.out.x
            rw [hov2]
            subst hovt
            clear hov2
            go_wp2_with fail
            refine (HCO.out _ GE.out.v).mono ?_
            clear q0 q1 q2 q3 q4 q5 q6 q7
            rintro e w8 ⟨rfl, b8⟩
            have G8 := Lib.hid (GE.out.on b8)
            clear b8 HCO GE
            go_wp2_with fail
            refine (HTL.out _).mono ?_
            rintro e w9 ⟨rfl, b9⟩
            have G9 := Lib.hid (G8.out.on b9)
            clear b9 G8
            obtain ⟨D, OO, MM, SZ⟩ := G9.out.m
            have hlen := OO.len Try.underlying31 3
            rw [SZ, HSZ.out] at hlen
            clear OO MM SZ
            by_cases h15 : 15 < len
            · have g15 : decide ((15 : Int) < (len : Int)) = true := by simp; omega
              have g15N : decide (15 < len) = true := by simp [h15]
              go_wp2_with fail
              go_ret
              exact ⟨by first | rfl | simp, HB0.out.trans (G9.out.b.mono HB0.out.size)⟩
            · have g15 : decide ((15 : Int) < (len : Int)) = false := by simp; omega
              have g15N : decide (15 < len) = false := by simp; omega
              go_wp2_with fail
              go_ret
              exact ⟨by first | rfl | simp, HB0.out.trans (G9.out.b.mono HB0.out.size)⟩
          · have e2 := HEQ.out
            rw [HP.eq] at e2
            obtain ⟨e3, e4, e5, _⟩ : s' = s2 ∧ (⟨8, 0, lo, fin, 0, [], (bs.drop lo.toNat).take n.toNat⟩ : Fr) = f ∧ true = ob ∧ True := by
              injection e2 with a1 a2
              injection a2 with a2 a3
              injection a3 with a3 a4
              exact ⟨a1, a2, a3, trivial⟩
            subst e3 e5
            have HPP := Lib.hid HP
            obtain ⟨LO, hLO⟩ : ∃ LO : Nat, lo = (LO : Int) := ⟨lo.toNat, by have := HP.lo0; omega⟩
            obtain ⟨ND, hND⟩ : ∃ ND : Nat, n = (ND : Int) := ⟨n.toNat, by have := HP.nn; omega⟩
            subst hLO hND
            obtain ⟨dat, hdat⟩ : ∃ x, (bs.drop LO).take ND = x := ⟨_, rfl⟩
            simp only [Int.toNat_natCast] at e4
            rw [hdat] at e4
            have hhi : LO + ND ≤ L := by have := HP.hi; have := HL.out; omega
            have hnr : ND ≤ 100 := by have := HP.nr; omega
            have hdl : dat.length = ND := by rw [← hdat, List.length_take, List.length_drop, HL.out]; omega
            have HDL := Lib.hid hdl
            have HDT := Lib.hid hdat
            have hfo : f.off = (LO : Int) := by rw [← e4]
            have hff : f.fin = fin := by rw [← e4]
            have hfd : f.data = dat := by rw [← e4]
            have hfk : f.kind = 8 := by rw [← e4]
            have hfl : f.data.length = ND := by rw [hfd, hdl]
            rw [hfl, hfo, hff] at F7 FU7
            clear e2 e4 hdat hdl HEV HEQ HP hfl hfo hff hfk
            have HFD := Lib.hid hfd
            clear hfd
            obtain ⟨q0, q1, q2, q3, q4, q5, q6, q7⟩ := bkS N7.out
            go_upto_region 16 with (refine wpList_store_blk rfl 27 (.tmp 8) (.tmp 60) rfl V GY.out.x rfl rfl rfl (by kernel_rfl) (by simp [Value.oneCell']) ?_; intro W9 k9 gp; have KM := Lib.hid k9; have GP := Lib.hid gp; clear k9 gp)
            go_frame
            clear q0 q1 q2 q3 q4 q5 q6 q7
            have G8 := Lib.hid (GY.out.put GP.out KM.out (StS.anti NU7.out (fun j hj => by
              rcases hj with hj | hj
              · rw [hj]; exact HVX.out
              · rw [hj]; exact HMX.out)) HVM.out HWV.out)
            have FU8 := Lib.hid (FU7.out.kp (KpS.gr GP.out HVX.out))
            have F8 := Lib.hid ((GP.out.block FB (lt_of_block F7.out) (fun e => by have e : FB = V := Option.some.inj e; have := HVX.out; omega)).trans F7.out)
            have R8 := Lib.hid ((GP.out.block R (lt_of_block RY.out) (fun e => by have e : R = V := Option.some.inj e; have := HMR.out; have := HVM.out; omega)).trans RY.out)
            have hWX := GP.out.size
            have fdt := fr_data FU8.out.now
            rw [HFD.out] at fdt
            have htx := HBS.out.below G8.out.b
            obtain ⟨Ab', cb', ea, hbc, hbm, _, htr⟩ := htx.ex
            obtain ⟨eaa, eab, eac⟩ := Value.slice.inj ea
            subst eaa eac
            rw [HL.out] at hbc
            unfold maxLen at hbm
            obtain ⟨Fd', cF', fa, hfc, hfm, _, hfr⟩ := fdt.ex
            obtain ⟨faa, fab, fac⟩ := Value.slice.inj fa
            subst faa fac
            have hs9 : w1.heap.size ≤ W9.heap.size := G8.out.b.size
            obtain ⟨SA, hSA⟩ : ∃ x, (if cb = LO then Ab else Option.map (fun x => x.add LO) Ab) = x := ⟨_, rfl⟩
            have hsub := brow_sub htr (c := cb) (by rw [HL.out]; exact hbc) LO ND
            rw [hSA, HDT.out] at hsub
            have hsub' : BRow W9 W9.heap.size SA dat := ⟨hsub.1, fun h => by obtain ⟨b, o, e, hb, hc⟩ := hsub.2 h; exact ⟨b, o, e, Nat.lt_of_lt_of_le hb hs9, hc⟩⟩
            have c1 := fun x : Ext W9 => run_str (P := Try.prog) (hsub'.below x.h) HDL.out 23 9 5 (cb - LO) Try.underlying23 Try.underlying5 Try.underlying9
            have c2 := fun x : Ext W9 => run_str (P := Try.prog) (hfr.below x.h) HDL.out 23 9 5 cFd Try.underlying23 Try.underlying5 Try.underlying9
            have HFR := Lib.hid hfr
            obtain ⟨z0, z1, z2, z3, z4, z5, z6⟩ := bkF F8.out
            have d2 := Ext.cell z2
            have d3 := Ext.cell z3
            have d6 := Ext.cell z6
            have g1 : decide ((L : Int) < (LO : Int) + (ND : Int)) = false := by simp; omega
            have g1N : decide (L < LO + ND) = false := by simp; omega
            have g1P : ¬ L < LO + ND := by omega
            have hw1 : IntKind.i64.wrap ((LO : Int) + (ND : Int)) = (LO : Int) + (ND : Int) := by rw [IntKind.wrap_i64]; omega
            have i1 : LO ≤ LO + ND := by omega
            have i2 : LO + ND ≤ cb := by omega
            have i3 : ((LO : Int) + (ND : Int)).toNat = LO + ND := by omega
            have i4 : (LO : Int) ≤ (LO : Int) + (ND : Int) := by omega
            have i5 : (LO : Int) + (ND : Int) ≤ (cb : Int) := by omega
            have i6 : (0 : Int) ≤ (LO : Int) + (ND : Int) := by omega
            have i7 : LO + ND - LO = ND := by omega
            have HSAE := Lib.hid hSA
            clear eab fab htx htr hbm ea fa fdt hsub hsub' hfr hs9 hfm KM GP F7 FU7 NU7 GY RY N7
            go_cut [101] from 61 to 101 (fun v wx => v = .bool false ∧ Hid (Below W9.heap.size W9 wx))
            case first =>
              have g2 : fin = true → ((LO : Int) + (ND : Int) == (L : Int)) = true := fun q => by have := HPP.out.end' q; have := HL.out; simp; omega
              cases fin with
              | true =>
                have g3 := g2 rfl
                have g3B : (LO + ND == L) = true := by simp at g3 ⊢; omega
                clear g2
                refine wp_region_ext (by kernel_rfl) (by kernel_rfl) ?_
                iterate 41 (go_big_quiet_step (fail))
                refine wpQuiet_nil ?_
                intro w5 hb5
                go_wp2_with fail
                go_meet
                exact ⟨by first | rfl | (simp; done) | (simp; have e1 := HPP.out.end' rfl; have e2 := HL.out; omega), Lib.hid hb5⟩
              | false =>
                clear g2
                refine wp_region_ext (by kernel_rfl) (by kernel_rfl) ?_
                iterate 41 (go_big_quiet_step (fail))
                refine wpQuiet_nil ?_
                intro w5 hb5
                go_wp2_with fail
                go_meet
                exact ⟨by first | rfl | simp, Lib.hid hb5⟩
            case rest =>
              obtain ⟨rfl, BW⟩ := hcut
              clear c1 c2 d2 d3 d6 z0 z1 z2 z3 z4 z5 z6 g1 g1N g1P hw1 i1 i2 i3 i4 i5 i6 i7
              obtain ⟨Z, hZ⟩ : ∃ X, X = wc := ⟨_, rfl⟩
              subst hZ
              have GZ := Lib.hid (G8.out.on BW.out)
              have FUZ := Lib.hid (FU8.out.later BW.out)
              have FZ := Lib.hid ((BW.out.block _ (lt_of_block F8.out)).trans F8.out)
              have RZ := Lib.hid ((BW.out.block _ (lt_of_block R8.out)).trans R8.out)
              have HXZ := Lib.hid (show X.heap.size ≤ Z.heap.size by have := BW.out.size; have := B7.out.size; omega)
              clear G8 FU8 F8 R8 BW B7 HFR
              obtain ⟨z0, z1, z2, z3⟩ := bk4R RZ.out
              go_upto_region 18 with fail
              go_cut [111] from 102 to 111 (fun v wx => ∃ lz : Bool, v = .bool lz ∧ (lz = true → i < len) ∧ wx = Z)
              case first =>
                by_cases hil : i < len
                · have hilI : decide ((i : Int) < (len : Int)) = true := by simp; omega
                  obtain ⟨K3, hK3⟩ : ∃ a, kd % 3 = a := ⟨_, rfl⟩
                  have HPK := Lib.hid (fun w => hK3 ▸ picked_any kd 3 (by decide) (by decide) w)
                  clear hK3
                  go_wp2_with fail
                  refine (HPK.out _).mono ?_
                  rintro e w' ⟨rfl, rfl⟩
                  go_wp2_with fail
                  go_meet
                  exact ⟨(K3 == 0), rfl, fun _ => hil, rfl⟩
                · have hilI : decide ((i : Int) < (len : Int)) = false := by simp; omega
                  go_wp2_with fail
                  go_meet
                  exact ⟨false, rfl, (fun q => by cases q), rfl⟩
              case rest =>
                obtain ⟨lz, rfl, hlz, hwc⟩ := hcut
                subst wc
                clear z0 z1 z2 z3
                obtain ⟨q0, q1, q2, q3, q4, q5, q6, q7⟩ := bkS GZ.out.x
                obtain ⟨z0, z1, z2, z3, z4, z5, z6⟩ := bkF FZ.out
                cases lz with
                | true =>
                  have hil := hlz rfl
                  clear hlz
                  obtain ⟨sl, hls, EIl, hovl, hacl⟩ := HPP.out.lose
                  have HLS := Lib.hid hls
                  have HEIL := Lib.hid EIl
                  have HMUL := Lib.hid (show len ≤ i + 1 → muS sl + 40 * ((i + 1 : Nat) : Int) ≤ 80 * len + 382 from fun q => by have := muS_le EIl; omega)
                  have HOL := Lib.hid hovl
                  have HAL := Lib.hid hacl
                  clear hls EIl hovl hacl
                  go_wp2_with fail
                  refine (snLose_F _ s' (LO : Int) (ND : Int) fin Z (StS.now GZ.out.v) (snwfO HPP.out.okp) (by omega)).mono ?_
                  clear q0 q1 q2 q3 q4 q5 q6 q7 z0 z1 z2 z3 z4 z5 z6
                  rintro e w5 hr5
                  have b5 := hr5.be
                  obtain ⟨u5, rfl, hu5⟩ := hr5.ex
                  rw [HLS.out] at hu5 ⊢
                  obtain ⟨Pd, cPd, Pl, cPl, Pa, cPa, rfl⟩ := sn_slices hu5.now
                  have U5 := Lib.hid (hu5.toSt)
                  have G5 := Lib.hid (GZ.out.on b5)
                  have HZ5 := Lib.hid b5.size
                  clear hr5 hu5 b5 GZ FUZ FZ RZ
                  dsimp only
                  go_upto_region 27 with (refine wpList_store_blk rfl 27 (.tmp 8) (.tmp 122) rfl V G5.out.x rfl rfl rfl (by kernel_rfl) (by simp [Value.oneCell']) ?_; intro WA k9 gp; have KM := Lib.hid k9; have GP := Lib.hid gp; clear k9 gp)
                  have G6 := Lib.hid (G5.out.put GP.out KM.out (StS.anti U5.out (fun j hj => by
                    have h1 := HVX.out; have h2 := HMX.out; have h3 := HXZ.out
                    rcases hj with hj | hj
                    · show j < Z.heap.size; omega
                    · show j < Z.heap.size; omega)) HVM.out HWV.out)
                  have HCK := Lib.hid (fun w (h : StS w (fun j => j = V ∨ j = M) (fun wv => SnVal wv wv.heap.size (.agg #[.slice Pd sl.data.length cPd, .bool sl.fin, .int .i64 sl.next, .int .i64 sl.mx, .slice Pl sl.lost.length cPl, .slice Pa sl.acked.length cPa, .bool sl.ended, .bool sl.over]) sl)) => (fault_iff sl).2 HEIL.out.ok ▸ snChk_any _ sl w (StS.now h) (snwfO HEIL.out.ok))
                  clear G5 U5 KM GP HZ5
                  obtain ⟨q0, q1, q2, q3, q4, q5, q6, q7⟩ := bkS G6.out.x
                  go_wp2_with fail
                  refine (HCK.out _ G6.out.v).mono ?_
                  clear q0 q1 q2 q3 q4 q5 q6 q7
                  rintro e w6 ⟨rfl, b6⟩
                  have G7 := Lib.hid (G6.out.on b6)
                  clear b6 G6 HCK
                  go_wp2_with fail
                  go_roundg (gk - 1)
                  case measure => omega
                  case rel => exact ⟨i + 1, n0, sl, Pd, Pl, Pa, cPd, cPl, cPa, by rw [HOL.out], by first | rfl | go_num, by omega, by omega, HEIL, HMUL, by rw [HAL.out]; exact G7⟩
                | false =>
                  obtain ⟨sh, hhs, EIh, hovh, hach, hmuh⟩ := HPP.out.heard
                  have HHS := Lib.hid hhs
                  have HEIH := Lib.hid (EvI.mono EIh (Nat.le_succ i))
                  have HMUH := Lib.hid (show len ≤ i + 1 → muS sh + 40 * ((i + 1 : Nat) : Int) ≤ 80 * len + 382 from fun q => by
                    by_cases c : len ≤ i
                    · have h1 := hmuh (HRO.out c)
                      have h2 := MU.out c
                      omega
                    · have := muS_le (EvI.mono EIh (Nat.le_succ i))
                      omega)
                  have HOH := Lib.hid hovh
                  have HAH := Lib.hid hach
                  clear hhs EIh hovh hach hmuh hlz
                  go_wp2_with fail
                  refine (snHeard_F _ s' (LO : Int) (ND : Int) fin Z (StS.now GZ.out.v) (snwfO HPP.out.okp) (by omega)).mono ?_
                  clear q0 q1 q2 q3 q4 q5 q6 q7 z0 z1 z2 z3 z4 z5 z6
                  rintro e w5 hr5
                  have b5 := hr5.be
                  obtain ⟨u5, rfl, hu5⟩ := hr5.ex
                  rw [HHS.out] at hu5 ⊢
                  obtain ⟨Pd, cPd, Pl, cPl, Pa, cPa, rfl⟩ := sn_slices hu5.now
                  have U5 := Lib.hid (hu5.toSt)
                  have G5 := Lib.hid (GZ.out.on b5)
                  have FU5 := Lib.hid (FUZ.out.later b5)
                  have F5 := Lib.hid ((b5.block _ (lt_of_block FZ.out)).trans FZ.out)
                  clear hr5 hu5 b5 GZ FUZ FZ RZ
                  dsimp only
                  go_upto_region 21 with (refine wpList_store_blk rfl 27 (.tmp 8) (.tmp 134) rfl V G5.out.x rfl rfl rfl (by kernel_rfl) (by simp [Value.oneCell']) ?_; intro WA k9 gp; have KM := Lib.hid k9; have GP := Lib.hid gp; clear k9 gp)
                  have G6 := Lib.hid (G5.out.put GP.out KM.out (StS.anti U5.out (fun j hj => by
                    have h1 := HVX.out; have h2 := HMX.out; have h3 := HXZ.out
                    rcases hj with hj | hj
                    · show j < Z.heap.size; omega
                    · show j < Z.heap.size; omega)) HVM.out HWV.out)
                  have FU6 := Lib.hid (FU5.out.kp (KpS.gr GP.out HVX.out))
                  have F6 := Lib.hid ((GP.out.block FB (lt_of_block F5.out) (fun e => by have e : FB = V := Option.some.inj e; have := HVX.out; omega)).trans F5.out)
                  clear G5 FU5 F5 U5 KM GP
                  obtain ⟨qk, hqk⟩ : ∃ q, q = gk := ⟨_, rfl⟩
                  subst hqk
                  have HNEW := Lib.hid HPP.out.new
                  have HHI := Lib.hid hhi
                  obtain ⟨ov, hov⟩ : ∃ x, s.over = x := ⟨_, rfl⟩
                  have HOV := Lib.hid hov
                  rw [hov]
                  clear hov
                  obtain ⟨z0, z1, z2, z3, z4, z5, z6⟩ := bkF F6.out
                  go_wp2_with fail
                  clear z0 z1 z2 z3 z4 z5 z6
                  have G60 := Lib.hid (G6.out.same (fun y => (gU_zero (gA bs s.acked) bs (LO : Int) y).symm))
                  clear G6
                  go_loopg [139] ND (fun gq iv wx => ∃ (j : Nat), iv = .int .i64 (j : Int) ∧ j + gq = ND ∧ Hid (EvK w1 V M (n0 + j) L sh (gU (gA bs s.acked) bs (LO : Int) j) Pd Pl Pa cPd cPl cPa wx) ∧ Hid (FrU X wx (.agg #[.int .i64 f.kind, .int .i64 f.id, .int .i64 (LO : Int), .bool fin, .int .i64 f.code, .slice Fr_ f.rs.length cFr, .slice Fd ND cFd]) f) ∧ Hid (wx.heap[FB]? = some (.cells #[.int .i64 f.kind, .int .i64 f.id, .int .i64 (LO : Int), .bool fin, .int .i64 f.code, .slice Fr_ f.rs.length cFr, .slice Fd ND cFd] 35 (0, 0))))
                  case atStart => exact ⟨0, rfl, by omega, G60, FU6, F6⟩
                  case round =>
                    obtain ⟨j, rfl, hjg, GJ, FUJ, FJ⟩ := hrel
                    clear G60 FU6 F6
                    obtain ⟨XJ, hXJ⟩ : ∃ X, X = wr := ⟨_, rfl⟩
                    subst hXJ
                    by_cases hj : j < ND
                    · have hjI : (j : Int) < (ND : Int) := by omega
                      have fdt := fr_data FUJ.out.now
                      rw [HFD.out] at fdt
                      obtain ⟨Fd', cF', fa, _, _, _, hfr⟩ := fdt.ex
                      obtain ⟨faa, fab, fac⟩ := Value.slice.inj fa
                      subst faa fac
                      clear fab
                      obtain ⟨bD, oD, hAD, hbD, hcD⟩ := hfr.2 (by rw [HDL.out]; omega)
                      have hbyt := hfr.1
                      subst hAD
                      have x0 := hcD j (by rw [HDL.out]; exact hj)
                      obtain ⟨c, hc⟩ : ∃ c, dat.getD j 0 = c := ⟨_, rfl⟩
                      rw [hc] at x0
                      have hcb : c = bs.getD (((LO : Int) + (j : Int)).toNat) 0 := by
                        rw [← hc, ← HDT.out, show ((LO : Int) + (j : Int)).toNat = LO + j by omega, List.getD_eq_getElem?_getD, List.getD_eq_getElem?_getD, List.getElem?_take_of_lt hj, List.getElem?_drop]
                      have hcw : (Lit.int .u8 c).wf = true := by
                        have := hbyt j
                        rw [hc] at this
                        exact wf_u8E this.1 this.2
                      have hnone : gU (gA bs s.acked) bs (LO : Int) j ((LO : Int) + (j : Int)) = none := by
                        unfold gU gA
                        rw [if_neg (by omega), if_neg (HNEW.out _ (by omega) (by omega))]
                      have hwf : (Lit.int .i64 ((LO : Int) + (j : Int))).wf = true := by
                        have := HHI.out
                        rw [Lit.wf_int_iff, show IntKind.i64.min = -9223372036854775808 by kernel_rfl, show IntKind.i64.max = 9223372036854775807 by kernel_rfl]
                        omega
                      have hwk : IntKind.i64.wrap ((LO : Int) + (j : Int)) = (LO : Int) + (j : Int) := by have := HHI.out; rw [IntKind.wrap_i64]; omega
                      obtain ⟨D, OO, MM, SZ⟩ := GJ.out.m
                      have HOO := Lib.hid OO
                      have HMM := Lib.hid MM
                      have HSZ := Lib.hid SZ
                      have HNO := Lib.hid hnone
                      have HCB := Lib.hid hcb
                      obtain ⟨z0, z1, z2, z3, z4, z5, z6⟩ := bkF FJ.out
                      clear fdt fa hfr hcD hbyt hc hcb hnone OO MM SZ
                      go_wp2_with (at_mapUpdate; refine wpList_mapUpdate_own _ rfl _ _ _ 31 rfl 3 5 (Maps.int_keyed Try.underlying3) Try.underlying31 _ M (n0 + j) D rfl HOO.out (by unfold maxLen; omega) _ _ (ky ((LO : Int) + (j : Int))) rfl rfl (Maps.keyOf_int_mk Try.underlying3 hwf) _ _ (plainElem_int Try.underlying5 hcw) ?_; intro WU hou hgu; have OU := Lib.hid hou; have GU := Lib.hid hgu; clear hou hgu)
                      have hhas : Maps.has D (ky ((LO : Int) + (j : Int))) = false := by rw [HMM.out.has, HNO.out]; rfl
                      have hcnt : cntF (gU (gA bs s.acked) bs (LO : Int) (j + 1)) L = cntF (gU (gA bs s.acked) bs (LO : Int) j) L + 1 := by
                        have h1 := cntF_put (gU (gA bs s.acked) bs (LO : Int) j) (LO + j) c (by rw [show ((LO + j : Nat) : Int) = (LO : Int) + (j : Int) by omega]; exact HNO.out) L
                        rw [if_pos (by have := HHI.out; omega)] at h1
                        have h2 := cntF_congr (f := fun y => if y = ((LO + j : Nat) : Int) then some c else gU (gA bs s.acked) bs (LO : Int) j y) (g := gU (gA bs s.acked) bs (LO : Int) (j + 1)) (fun y => by rw [show ((LO + j : Nat) : Int) = (LO : Int) + (j : Int) by omega, HCB.out]; exact gU_step _ _ _ _ _) L
                        rw [h2] at h1
                        exact h1
                      have GN := Lib.hid (GJ.out.store (f' := gU (gA bs s.acked) bs (LO : Int) (j + 1)) GU.out OU.out ((HMM.out.put ((LO : Int) + (j : Int)) c).congr (fun y => by rw [HCB.out]; exact gU_step _ _ _ _ _)) (by rw [size_put_new HMM.out.map hhas, HSZ.out, hcnt]) HVM.out HWV.out)
                      have FUN := Lib.hid (FUJ.out.kp (KpS.gr GU.out HMX.out))
                      have FN := Lib.hid ((GU.out.block FB (lt_of_block FJ.out) (fun e => by have e : FB = M := Option.some.inj e; have := HMX.out; omega)).trans FJ.out)
                      clear hhas hcnt z0 z1 z2 z3 z4 z5 z6
                      go_roundg (gk - 1)
                      case measure => omega
                      case rel => exact ⟨j + 1, by first | rfl | go_num, by omega, GN, FUN, FN⟩
                    · obtain rfl : j = ND := by omega
                      have G7 := Lib.hid (GJ.out.same (fun y => gU_all (n := ((j : Nat) : Int)) (by omega) (fun k => HAH.out k) y))
                      have HCK := Lib.hid (fun w (h : StS w (fun j => j = V ∨ j = M) (fun wv => SnVal wv wv.heap.size (.agg #[.slice Pd sh.data.length cPd, .bool sh.fin, .int .i64 sh.next, .int .i64 sh.mx, .slice Pl sh.lost.length cPl, .slice Pa sh.acked.length cPa, .bool sh.ended, .bool sh.over]) sh)) => (fault_iff sh).2 HEIH.out.ok ▸ snChk_any _ sh w (StS.now h) (snwfO HEIH.out.ok))
                      obtain ⟨q0, q1, q2, q3, q4, q5, q6, q7⟩ := bkS G7.out.x
                      obtain ⟨z0, z1, z2, z3, z4, z5, z6⟩ := bkF FJ.out
                      have HOH2 := Lib.hid (show sh.over = (ov || fin) by rw [HOH.out, HOV.out])
                      cases ov with
                      | true =>
                        go_wp2_with fail
                        refine (HCK.out _ G7.out.v).mono ?_
                        clear q0 q1 q2 q3 q4 q5 q6 q7 z0 z1 z2 z3 z4 z5 z6
                        rintro e w6 ⟨rfl, b6⟩
                        have G8 := Lib.hid (G7.out.on b6)
                        clear b6 G7 HCK
                        go_wp2_with fail
                        go_roundg (qk - 1)
                        case measure => omega
                        case rel => exact ⟨i + 1, n0 + j, sh, Pd, Pl, Pa, cPd, cPl, cPa, by rw [HOH2.out]; rfl, by first | rfl | go_num, by omega, by omega, HEIH, HMUH, G8⟩
                      | false =>
                        go_wp2_with fail
                        refine (HCK.out _ G7.out.v).mono ?_
                        clear q0 q1 q2 q3 q4 q5 q6 q7 z0 z1 z2 z3 z4 z5 z6
                        rintro e w6 ⟨rfl, b6⟩
                        have G8 := Lib.hid (G7.out.on b6)
                        clear b6 G7 HCK
                        go_wp2_with fail
                        go_roundg (qk - 1)
                        case measure => omega
                        case rel => exact ⟨i + 1, n0 + j, sh, Pd, Pl, Pa, cPd, cPl, cPa, by rw [HOH2.out]; rfl, by first | rfl | go_num, by omega, by omega, HEIH, HMUH, G8⟩
    · obtain rfl : i = 60 := by omega
      have h15 : 15 < len := by
        by_cases c : 15 < len
        · exact c
        · have h1 := MU.out (by omega)
          have h2 := muS_nn EI.out
          omega
      have g15 : decide ((15 : Int) < (len : Int)) = true := by simp; omega
      have g15N : decide (15 < len) = true := by simp [h15]
      have hf0 : (overS s).2 = 0 := by unfold overS; rw [if_neg (fun q => q ((fault_iff s).2 EI.out.ok))]
      obtain ⟨⟨ox, oe⟩, hox⟩ : ∃ p, overS s = p := ⟨_, rfl⟩
      rw [hox] at hf0
      have hf0 : oe = 0 := hf0
      subst hf0
      have HCO := Lib.hid (fun w (h : StS w (fun j => j = V ∨ j = M) (fun wv => SnVal wv wv.heap.size (.agg #[.slice Ad s.data.length cAd, .bool s.fin, .int .i64 s.next, .int .i64 s.mx, .slice Al s.lost.length cAl, .slice Aa s.acked.length cAa, .bool s.ended, .bool s.over]) s)) => hox ▸ snOv_any _ s w (StS.now h) (snwfO EI.out.ok))
      clear hox
      obtain ⟨q0, q1, q2, q3, q4, q5, q6, q7⟩ := bkS GK.out.x
      go_wp2_with fail
      refine (HCO.out _ GK.out.v).mono ?_
      clear q0 q1 q2 q3 q4 q5 q6 q7
      rintro e w8 ⟨rfl, b8⟩
      have G8 := Lib.hid (GK.out.on b8)
      clear b8 HCO GK
      go_wp2_with fail
      refine (HTL.out _).mono ?_
      rintro e w9 ⟨rfl, b9⟩
      have G9 := Lib.hid (G8.out.on b9)
      clear b9 G8
      go_wp2_with fail
      go_ret
      exact ⟨by first | rfl | simp, HB0.out.trans (G9.out.b.mono HB0.out.size)⟩
end Go.Proofs.Ytnccibaifffhhaa
