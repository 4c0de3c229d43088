/- PROVED HERE: FrameAny: called with any input that can be read, spillway/spillwaykeep.FrameAny returns true and does not panic, and its arguments read afterwards as they read before. Condition: the listed library tables (math/bits.deBruijn32tab, math/bits.deBruijn64tab) hold at the start what the program text lays; the card ties this to the text. -/
import Derived.Test.YtjeocggocloigaaDoorQH
import Derived.Test.YtjeocggocloigaaDoorQL
import Derived.Test.YtjeocggocloigaaDoorQP
import Derived.Test.YtjeocggocloigaaDoorQA
import Derived.Test.YtjeocggocloigaaDoorRows
import Derived.Test.YtjeocggocloigaaDoorCards
import Derived.Test.YtjeocggocloigaaDoorTie
import Derived.WalkKit
import Derived.ProofKit
import Derived.OpenShut
import Derived.ShutString
import Derived.ChangeOld
import Derived.Below
import Derived.SizedLaws
import Derived.LaidMore
import Derived.Lay
import Derived.SevenTiedAt
import Derived.Stop.Joined
/- The walk of FrameAny. -/
namespace Go.Proofs.YtjeocggocloigaaDoor
set_option linter.unusedVariables false
open Go.RowKit P

set_option maxRecDepth 100000 in
set_option maxHeartbeats 400000 in
theorem frameAny_walk (a0 : Option Addr) (len cap : Nat) (z0 : List Int) (W : World) (T : Tab W) (h : IsRow .u8 W a0 len cap z0) (hr : cap * 1 ≤ 140737488351232) :
    Calls Tryd.prog 5 #[.slice a0 len cap] W fun e w' => e = .returned (.bool true) ∧ Below W.heap.size W w' := by
  obtain ⟨hb, hl, hc, hm⟩ := InRow.brow h
  have hn : a0 = none → cap = 0 := by
    rcases h with ⟨_, _, h, _⟩ | ⟨x, h, _⟩
    · exact fun _ => h
    · intro e; rw [h] at e; cases e
  obtain ⟨zs, hz⟩ : ∃ zs, z0.take len = zs := ⟨_, rfl⟩
  rw [hz] at hb hl
  have HB := Lib.hid hb
  have HL := Lib.hid hl
  have HN := Lib.hid hn
  have hl47 : len ≤ 140737488355328 := by omega
  have HT := Lib.hid T
  clear h hb hl hz T hn
  cases hd : decF zs with
  | error x =>
    have HD := Lib.hid hd
    have hx : (x != 0) = true := by have := decF_ne hd; simp [this]
    clear hd
    go_enter Tryd.func5, Tryd.ntmps5
    go_wp2_with (first
      | (go_at_call 10; have g := B1.out; refine (decode_any none 0 0 [] _ (BRow.nil _ _ _) rfl (Nat.le_refl _) (by unfold maxLen; omega) (fun _ => rfl) (by omega)).mono ?_; rintro e w2 hD; obtain ⟨b2, hm2⟩ := hD; rw [decF_nil] at hm2; obtain rfl := hm2; have B2 := Lib.hid (B1.out.trans (((Below.refl w1.heap.size w1).alloc (Nat.le_refl _) (.cells #[.int .i64 0, .int .i64 0, .int .i64 0, .bool false, .int .i64 0, .slice none 0 0, .slice none 0 0] 25)).trans (b2.mono (by simp)) |>.mono B1.out.size)); clear b2 g)
      | (go_at_call 10; refine (decode_any a0 len cap zs _ HB.out HL.out hc hm HN.out hl47).mono ?_; rintro e w1 hD; obtain ⟨b1, hm1⟩ := hD; rw [HD.out] at hm1; obtain rfl := hm1; have B1 := Lib.hid b1; clear b1))
    go_ret
    exact ⟨rfl, B2.out.alloc B2.out.size _⟩
  | ok p =>
    obtain ⟨f, t⟩ := p
    have HD := Lib.hid hd
    obtain ⟨hf, hlen, _, _⟩ := decF_any HB.out.1 hd
    have HF := Lib.hid hf
    have HE := Lib.hid (show decF (frT f) = .ok (f, []) by have := decF_back hf []; rwa [List.append_nil] at this)
    have k1 : (frT f).length ≤ zs.length := by omega
    have k2 : t.length ≤ zs.length := by omega
    have k3 : (frT f).length + t.length ≤ zs.length := hlen
    have HLen := Lib.hid (show zs.length = len from HL.out)
    clear hd hf hlen
    go_enter Tryd.func5, Tryd.ntmps5
    go_wp2_with (first
      | (go_at_call 13; refine (sameFr_eq _ _ f _ HV5.out HX5.out).mono ?_; rintro e w6 ⟨rfl, b6⟩; have B6 := Lib.hid (B5.out.trans (b6.mono B5.out.size)); clear b6)
      | (go_at_call 12; refine (frCheck_any _ f _ HV4.out).mono ?_; rintro e w5 ⟨rfl, b5⟩; rw [HF.out]; have B5 := Lib.hid (B4.out.trans (b5.mono B4.out.size)); have HV5 := Lib.hid (HV4.out.on b5); have HX5 := Lib.hid (HX4.out.on b5); clear q0 q1 q2 q3 q4 q5 q6; obtain ⟨q0, q1, q2, q3, q4, q5, q6, _⟩ := blk7 ((b5.block _ (lt_of_block FB4.out)).trans FB4.out); obtain ⟨x0, x1, x2, x3, x4, x5, x6, _⟩ := blk7 ((b5.block _ (lt_of_block FX4.out)).trans FX4.out); clear b5)
      | (go_at_call 10; have g := HR3.out; refine (decode_any A3 (frT f).length c3 (frT f) _ HR3.out rfl hc3 hm3 HN3.out (by have := HLen.out; omega)).mono ?_; rintro e w4 hD; obtain ⟨b4, hm4⟩ := hD; rw [HE.out] at hm4; obtain ⟨v4, rfl, ho4⟩ := hm4; obtain ⟨r4, d4, rfl, hr4, hd4, hy4⟩ := (ho4).ex; obtain ⟨Ar4, cr4, hra4, _, _, _⟩ := hr4.slice; subst hra4; obtain ⟨Ad4, cd4, hda4, _, _⟩ := own_slice hd4; subst hda4; have X4 := Lib.hid ((Below.refl w4.heap.size w4).alloc (Nat.le_refl _) (.cells #[.int .i64 f.kind, .int .i64 f.id, .int .i64 f.off, .bool f.fin, .int .i64 f.code, .slice Ar4 f.rs.length cr4, .slice Ad4 f.data.length cd4] 25)); have B4 := Lib.hid ((B3.out.trans (b4.mono B3.out.size)).trans (X4.out.mono ((B3.out.trans (b4.mono B3.out.size)).size))); have b34 := b4.trans (X4.out.mono b4.size); have FB4 := Lib.hid ((b34.block _ (lt_of_block FB3.out)).trans FB3.out); have FX4 := Lib.hid (heap_alloc_new w4 (.cells #[.int .i64 f.kind, .int .i64 f.id, .int .i64 f.off, .bool f.fin, .int .i64 f.code, .slice Ar4 f.rs.length cr4, .slice Ad4 f.data.length cd4] 25)); have HV4 := Lib.hid (HV3.out.on b34); have HX4 := Lib.hid (ho4.val.on X4.out); clear q0 q1 q2 q3 q4 q5 q6; obtain ⟨q0, q1, q2, q3, q4, q5, q6, _⟩ := blk7 FB4.out; clear b4 b34 g ho4 hr4 hd4 hy4)
      | (go_at_call 6; refine (encodeFr_yes _ f _ HV2.out HF.out (HT.out.below B2.out)).mono ?_; rintro e w3 ⟨A3, c3, rfl, o3, y3, b3⟩; have B3 := Lib.hid (B2.out.trans (b3.mono B2.out.size)); have FB3 := Lib.hid ((b3.block _ (lt_of_block FB2.out)).trans FB2.out); have HV3 := Lib.hid (HV2.out.on b3); obtain ⟨A3', c3', he3, hc3, hm3, hn3, hr3⟩ := (own_bsl o3 y3).ex; obtain ⟨ee1, _, ee3⟩ := Value.slice.inj he3; subst ee1; subst ee3; have HR3 := Lib.hid hr3; have HN3 := Lib.hid hn3; clear o3 y3 b3 hr3 hn3 he3)
      | (go_at_call 10; have g := HV1.out; refine (decode_any none 0 0 [] _ (BRow.nil _ _ _) rfl (Nat.le_refl _) (by unfold maxLen; omega) (fun _ => rfl) (by omega)).mono ?_; rintro e w2 hD; obtain ⟨b2, hm2⟩ := hD; rw [decF_nil] at hm2; obtain rfl := hm2; have b2z := b2.alloc b2.size (.cells #[.int .i64 0, .int .i64 0, .int .i64 0, .bool false, .int .i64 0, .slice none 0 0, .slice none 0 0] 25); have B2 := Lib.hid (B1.out.trans ((A1.out.trans (b2z.mono A1.out.size)).mono B1.out.size)); have FB2 := Lib.hid ((b2z.block _ (lt_of_block FB1.out)).trans FB1.out); have HV2 := Lib.hid (HV1.out.on b2z); obtain ⟨q0, q1, q2, q3, q4, q5, q6, _⟩ := blk7 FB2.out; clear b2 b2z g)
      | (go_at_call 10; refine (decode_any a0 len cap zs _ HB.out HL.out hc hm HN.out hl47).mono ?_; rintro e w1 hD; obtain ⟨b1, hm1⟩ := hD; rw [HD.out] at hm1; obtain ⟨v1, rfl, ho⟩ := hm1; obtain ⟨r1, d1, rfl, hr1, hd1, hy1⟩ := (ho).ex; obtain ⟨Ar1, cr1, hra1, _, _, _⟩ := hr1.slice; subst hra1; obtain ⟨Ad1, cd1, hda1, _, _⟩ := own_slice hd1; subst hda1; have B1 := Lib.hid b1; have A1 := Lib.hid ((Below.refl w1.heap.size w1).alloc (Nat.le_refl _) (.cells #[.int .i64 f.kind, .int .i64 f.id, .int .i64 f.off, .bool f.fin, .int .i64 f.code, .slice Ar1 f.rs.length cr1, .slice Ad1 f.data.length cd1] 25)); have FB1 := Lib.hid (heap_alloc_new w1 (.cells #[.int .i64 f.kind, .int .i64 f.id, .int .i64 f.off, .bool f.fin, .int .i64 f.code, .slice Ar1 f.rs.length cr1, .slice Ad1 f.data.length cd1] 25)); have HV1 := Lib.hid (ho.val.on A1.out); clear b1 ho hr1 hd1 hy1))
    all_goals have hL := HLen.out
    all_goals first
      | (exfalso; omega)
      | (go_ret; exact ⟨rfl, B6.out⟩)
end Go.Proofs.YtjeocggocloigaaDoor
namespace Go.Proofs.YtjeocggocloigaaDoor.frameAny
open Go.ChangeShapes Go.WideShapes Go.ChangeAt Go.RowKit P
open Go.ChangeMaps (open_string shut_string)
set_option linter.unusedVariables false

theorem own : ownKnob Tryd.prog.godebug = none := by kernel_rfl
theorem laidOut : laidOutB Tryd.prog = true := by kernel_rfl

/-- the cells of the listed table that the four sizes lead to -/
theorem tabOf {W : World} (h : laidMetH Tryd.prog [("math/bits.deBruijn32tab", Rows.laid_math_bits_deBruijn32tab), ("math/bits.deBruijn64tab", Rows.laid_math_bits_deBruijn64tab)] W) : Tab W := by
  rw [MakeChecks.laidMetH_plain _ _ _ (by kernel_rfl)] at h
  obtain ⟨ps, ⟨_, _, _, _, _, _, _, _, _, _, ⟨g, t, cs, fuel, p, q, hg, ht, hv, hd, _, _⟩, _⟩, _, _⟩ := h
  have hG : Tryd.prog.globalNamed "math/bits.deBruijn64tab" = some 1 := by kernel_rfl
  have hTy : (Tryd.prog.globals[1]?).map (·.type) = some 101 := by kernel_rfl
  obtain rfl := Option.some.inj (hG.symm.trans hg)
  obtain rfl := Option.some.inj (hTy.symm.trans ht)
  obtain ⟨xs, m, _, ex, _, hl, hel⟩ := DataW.trod_array Tryd.underlying101 hd
  have c5 : Tryd.prog.cellsOf 5 = 1 := by kernel_rfl
  have e3 := (DataW.agg.inj (Prod.mk.inj ex).1).symm
  have cell : ∀ (r : Nat) (v : Int), r < 64 → (xs.map (·.1))[r]? = some (.lit (.int .u8 v)) → W.cell? ⟨1, r, none⟩ = some (.int .u8 v) := by
    intro r v hr e4
    have hE := hel r hr
    rw [c5, Nat.mul_one, List.getElem?_eq_getElem (by omega)] at hE
    obtain ⟨z, e1, e2, _⟩ := DataW.trod_int Tryd.underlying5 hE
    rw [List.getElem?_map, List.getElem?_eq_getElem (by omega : r < xs.length), e2] at e4
    have hz : z = v := by simpa using e4
    subst hz
    rw [World.var?_cell hg hv r]
    have : cs.toList[r]? = some (.int .u8 z) := by
      have h0 : ((cs.toList.drop r).take 1)[0]? = some (.int .u8 z) := by rw [e1]; rfl
      simpa using h0
    simpa using this
  have k0 := cell 0 0 (by decide) (by rw [e3]; rfl)
  exact ⟨k0, cell 1 1 (by decide) (by rw [e3]; rfl), cell 3 2 (by decide) (by rw [e3]; rfl), cell 7 3 (by decide) (by rw [e3]; rfl), cell_lt k0⟩


set_option maxRecDepth 100000 in
theorem lifted (os : Os) (started : os.Started) (H : Type) (enc : TypeId × Value → H) :
    ReturnsInHanded {} Tryd.checked os 5 .any (fun w args => (Rows.frameAnySpec.pre enc Tryd.prog Tryd.f5 Rows.frameAnyRow.domain false w args ∧ laidMetH Tryd.prog [("math/bits.deBruijn32tab", Rows.laid_math_bits_deBruijn32tab), ("math/bits.deBruijn64tab", Rows.laid_math_bits_deBruijn64tab)] w) ∧ sizedMet enc Tryd.prog Tryd.f5 (OpenSpec.ofChange Rows.frameAnySpec) false w args) (Rows.frameAnySpec.post enc Tryd.prog Tryd.f5 false true false false) := by
  refine returnsInHanded_of_change_and (C := Tryd.checked) (X := fun w _ => laidMetH Tryd.prog [("math/bits.deBruijn32tab", Rows.laid_math_bits_deBruijn32tab), ("math/bits.deBruijn64tab", Rows.laid_math_bits_deBruijn64tab)] w) (fun _ _ _ hh h => h.of_heap hh) own started (by kernel_rfl) Tryd.func5
    (ChangeSpec.witness_shaped (enc := enc) (C := Tryd.checked) (os := os) (X := fun w _ => laidMetH Tryd.prog [("math/bits.deBruijn32tab", Rows.laid_math_bits_deBruijn32tab), ("math/bits.deBruijn64tab", Rows.laid_math_bits_deBruijn64tab)] w) false (World.laidAll Tryd.prog os [("math/bits.deBruijn32tab", Rows.laid_math_bits_deBruijn32tab), ("math/bits.deBruijn64tab", Rows.laid_math_bits_deBruijn64tab)]) #[.slice none 0 0] 8 (World.laidAll_os _ _ _)
      (World.shaped_of_ZipB (by kernel_rfl) (by kernel_rfl)) (by kernel_rfl) (by kernel_rfl) (by kernel_rfl)
      (by rw [MakeChecks.laidMetH_plain _ _ _ (by kernel_rfl)]; exact laidMet_laidAll _ (by kernel_rfl) (by kernel_rfl))) ?_
  intro W base args ds gs before hval0 hW hcnd hsz0 hL _
  have T := tabOf hL
  have hsz : (DataW.weightsEach Tryd.prog (Tryd.f5.params.toList ++ Rows.frameAnySpec.plain.varTypes Tryd.prog) (ds ++ gs)).all (· ≤ reachBytes) = true := hsz0
  have hval : ∀ (j : Nat) t v, Tryd.f5.params[j]? = some t → args[j]? = some v → Value.okWide Tryd.prog W .any base t v := hval0
  have hW' := hW
  obtain ⟨p, q, hA0, hV, rfl, hfz, hnd⟩ := hW
  have hA : DataW.TrodAll enc Tryd.prog W 0 (fun _ => true) true Tryd.f5.params.toList args.toList ds p := hA0
  rw [Tryd.params5] at hA hval hsz
  obtain ⟨v0, vs0, d0, ds0, p0, q0, hargs, rfl, rfl, h0, tr0⟩ := trodAll_cons hA
  obtain ⟨rfl, rfl, rfl⟩ := trodAll_nil tr0
  obtain rfl : args = #[v0] := by cases args; simp_all
  obtain ⟨rfl, rfl⟩ := trodVars_none hV
  obtain ⟨a0, len0, cap0, rfl⟩ := okWide_slice Tryd.underlying23 (hval 0 23 v0 rfl rfl)
  have k0 := h0
  have lt0 : ∀ x ∈ p0, x.block < W.heap.size := by obtain ⟨m, hm⟩ := k0; exact DataW.trod_lt m _ _ _ hm
  obtain ⟨z0, w0, r0⟩ : ∃ zs, IsRow .u8 W a0 len0 cap0 zs ∧ cap0 * 1 ≤ 140737488351232 := by
    obtain ⟨fuel, hf⟩ := h0
    rcases open_ints Tryd.underlying23 Tryd.underlying5 (by kernel_rfl) hf with ⟨hcs, _⟩ | ⟨x, l, c, zs, hcs, _, hl, hm, hz, hx, hcell, hwz⟩
    · simp [Value.cells] at hcs
      obtain ⟨rfl, rfl, rfl⟩ := hcs
      exact ⟨[], .inl ⟨rfl, rfl, rfl, rfl⟩, by omega⟩
    · simp [Value.cells] at hcs
      obtain ⟨rfl, rfl, rfl⟩ := hcs
      have hz' : zs.length = cap0 := by simpa using hz
      have hd := (Prod.mk.inj hx).1
      have hb : Tryd.prog.bytesOf 5 = 1 := by kernel_rfl
      have := sized_slice hsz (j := 0) (t := 23) (e := 5) (elems := lits .u8 (zs.take len0)) (spare := lits .u8 (zs.drop len0)) rfl (by rw [← hd]; rfl) Tryd.underlying23
      rw [hb] at this
      simp only [lits, List.length_map, List.length_take, List.length_drop, reachBytes] at this
      exact ⟨zs, .inr ⟨_, rfl, hl, hm, hz', hcell, hwz⟩, by omega⟩
  clear hA0 hval0
  refine (show Calls Tryd.prog 5 _ W fun e w' => e = .returned (.bool true) ∧ Below W.heap.size W w' from frameAny_walk a0 len0 cap0 z0 W T w0 r0).mono fun e W' ⟨he, bel⟩ => ?_
  subst he
  exact ⟨_, rfl, _, _, _, [], _, [], hW', trodAll_mk1 (shut_bool Tryd.underlying4 _), (trodAll_cons_mk (Below.trod laidOut (by kernel_rfl) (of_decide_eq_true (by kernel_rfl)) k0 bel lt0) trodAll_mk0), rfl, bel.frame _, fun h => by cases h⟩

theorem over : Rows.frameAnyRow.holds Tryd.pinned (OpenSpec.ofChange Rows.frameAnySpec) :=
  OpenClaim.holds_of_wide 5 Tryd.f5 rfl rfl rfl rfl rfl rfl rfl ⟨rfl, rfl, rfl, rfl, rfl⟩ rfl rfl rfl rfl rfl (by kernel_rfl) Tryd.func5 (by kernel_rfl)
    (of_decide_eq_true (by kernel_rfl)) (by unfold Func.isWrapper; first | (rw [if_pos (by decide +kernel)]; kernel_rfl) | (rw [if_neg (by decide +kernel)]; exact ⟨rfl, rfl⟩))
    (fun os started H enc _ => lifted os started H enc)

theorem proved : Rows.FrameAnyCardSaid :=
  Claim7.holds_tied_plain_at .later [] [.data, .data] true (true, "ded5ab80380f37c9ad442ef690ddf82dcb27d309b274b7d99d369ef7bd5ecc7b") false
    over (fun _ h => by cases h) (by kernel_rfl) (fun _ h => by cases h) frameAny_row_tie rfl ⟨rfl, rfl⟩ (by kernel_rfl) rfl
    (fun f fn hf hfn => by
      obtain rfl : f = 5 := Option.some.inj ((show Tryd.prog.funcNamed "spillway/spillwaykeep.FrameAny" = some 5 by kernel_rfl).symm.trans hf) |>.symm
      obtain rfl : fn = Tryd.f5 := (Option.some.inj (Tryd.func5.symm.trans hfn)).symm
      exact ⟨by kernel_rfl, fun j t ht => by
        rw [Tryd.params5] at ht
        have hm : t ∈ [23] := by simpa using Array.mem_of_getElem? ht
        have hall : ([23].all fun u => !Tryd.prog.wantsStandIn u) = true := by kernel_rfl
        exact (show Tryd.prog.wantsStandIn t = false by simpa using List.all_eq_true.1 hall t hm)⟩)
    (by kernel_rfl)
#print axioms proved
end Go.Proofs.YtjeocggocloigaaDoor.frameAny
