/- PROVED HERE: FrameEncodes: called with any input that can be read, spillway/spillwaylaw.FrameEncodes returns true and does not panic, and its arguments read afterwards as they read before. Condition: the listed library tables (math/bits.deBruijn32tab, math/bits.deBruijn64tab) hold at the start what the program text lays; the card ties this to the text. -/
import Derived.Test.YtjeocggocloigaaDoorQL
import Derived.Test.YtjeocggocloigaaDoorQW
import Derived.Test.YtjeocggocloigaaDoorQX
import Derived.Test.YtjeocggocloigaaDoorQM
import Derived.Test.YtjeocggocloigaaDoorQS
import Derived.Test.YtjeocggocloigaaDoorRows
import Derived.Test.YtjeocggocloigaaDoorCards
import Derived.Test.YtjeocggocloigaaDoorTie
import Derived.WalkKit
import Derived.ProofKit
import Derived.OpenShut
import Derived.ShutString
import Derived.ChangeOld
import Derived.Below
import Derived.SizedLaws
import Derived.LaidMore
import Derived.Lay
import Derived.SevenTiedAt
import Derived.Stop.Joined
/- The walk of FrameEncodes. -/
namespace Go.Proofs.YtjeocggocloigaaDoor
set_option linter.unusedVariables false
open Go.RowKit P

theorem frameBytes_no (v : Value) (f : Fr) (w : World) (h : FrVal w w.heap.size v f) (hk : (Lit.int .i64 f.kind).wf = true) (hf : faultF f ≠ 0) :
    Calls Tryd.prog 7 #[v] w fun e w' => e = .returned (.tuple #[.slice none 0 0, .int .i64 (faultF f)]) ∧ Below w.heap.size w w' := by
  obtain ⟨r, d, rfl, hr, hd⟩ := h.ex
  have HW := Lib.hid ((Below.refl w.heap.size w).alloc (Nat.le_refl _) (.cells #[.int .i64 f.kind, .int .i64 f.id, .int .i64 f.off, .bool f.fin, .int .i64 f.code, r, d] 25))
  have HV := Lib.hid (h.on HW.out)
  have HK := Lib.hid hk
  obtain ⟨x, hx⟩ : ∃ x, faultF f = x := ⟨_, rfl⟩
  have HX := Lib.hid hx
  rw [hx] at hf ⊢
  have g : (x != 0) = true := by simp [hf]
  clear h hr hd hx hf hk
  go_enter Tryd.func7, Tryd.ntmps7
  go_wp2_with (go_at_call 15; refine (refFault_any _ _ _ HV.out HK.out).mono ?_; rintro e w1 ⟨rfl, hb1⟩; rw [HX.out]; have HB1 := Lib.hid (HW.out.trans (hb1.mono HW.out.size)); clear hb1)
  go_ret2
  exact ⟨rfl, HB1.out⟩

set_option maxRecDepth 100000 in
set_option maxHeartbeats 600000 in
theorem frameBytes_yes (v : Value) (f : Fr) (w : World) (h : FrVal w w.heap.size v f) (hk : (Lit.int .i64 f.kind).wf = true) (hf : faultF f = 0) (hy : Byt (frT f)) :
    Calls Tryd.prog 7 #[v] w (BytesPost (frT f) w) := by
  obtain ⟨r, d, rfl, hr, hd⟩ := h.ex
  obtain ⟨Ar, cr, hra, _, _, _⟩ := hr.ex
  subst hra
  obtain ⟨Ad, cd, hda, _, _, _, _⟩ := hd.ex
  subst hda
  have HW := Lib.hid ((Below.refl w.heap.size w).alloc (Nat.le_refl _) (.cells #[.int .i64 f.kind, .int .i64 f.id, .int .i64 f.off, .bool f.fin, .int .i64 f.code, .slice Ar f.rs.length cr, .slice Ad f.data.length cd] 25))
  have FB := Lib.hid (heap_alloc_new w (.cells #[.int .i64 f.kind, .int .i64 f.id, .int .i64 f.off, .bool f.fin, .int .i64 f.code, .slice Ar f.rs.length cr, .slice Ad f.data.length cd] 25))
  have HV := Lib.hid (h.on HW.out)
  have HK := Lib.hid hk
  have HF := Lib.hid hf
  have HYY := Lib.hid hy
  obtain ⟨X, hX⟩ : ∃ X, frT f = X := ⟨_, rfl⟩
  have hl : (strOfNums X).size = X.length := strOfNums_size _
  have hbs := fun w => run_bytes_of_string (P := Tryd.prog) w 9 23 5 (strOfNums X) Tryd.underlying9 Tryd.underlying23 Tryd.underlying5
  have HT : Hid (∀ v w, FrVal w w.heap.size v f → Calls Tryd.prog 16 #[v] w fun e w' => e = .returned (.string (strOfNums X)) ∧ Below w.heap.size w w') := Lib.hid (fun v w h => hX ▸ refText_any v f w h hf hk)
  rw [hX] at HYY ⊢
  clear h hr hd hf hk hy hX
  go_enter Tryd.func7, Tryd.ntmps7
  go_wp2_with (first
    | (go_at_call 15; refine (refFault_any _ _ _ HV.out HK.out).mono ?_; rintro e w1 ⟨rfl, hb1⟩; rw [HF.out]; have HB1 := Lib.hid (HW.out.trans (hb1.mono HW.out.size)); have HV1 := Lib.hid (HV.out.on hb1); obtain ⟨q0, q1, q2, q3, q4, q5, q6, _⟩ := blk7 ((hb1.block _ (lt_of_block FB.out)).trans FB.out); clear hb1)
    | (go_at_call 16; refine (HT.out _ _ HV1.out).mono ?_; rintro e w2 ⟨rfl, hb2⟩; have HB2 := Lib.hid (HB1.out.trans (hb2.mono HB1.out.size)); clear hb2 q0 q1 q2 q3 q4 q5 q6))
  go_ret2
  exact ⟨w2.heap.size, _, rfl, (HB2.out.trans ((Below.refl _ _).alloc HB2.out.size _).drew), (bytesRow_brow w2 X HYY.out _ _ _).more (by simp)⟩

set_option maxRecDepth 100000 in
set_option maxHeartbeats 600000 in
theorem frameEncodes_walk (v : Value) (f : Fr) (w : World) (T : Tab w) (h : FrVal w w.heap.size v f) (hw : FrWf f) :
    Calls Tryd.prog 3 #[v] w fun e w' => e = .returned (.bool true) ∧ Below w.heap.size w w' := by
  obtain ⟨r, d, rfl, hr, hd⟩ := h.ex
  obtain ⟨Ar, cr, hra, _, _, _⟩ := hr.ex
  subst hra
  obtain ⟨Ad, cd, hda, _, _, _, _⟩ := hd.ex
  subst hda
  have HW := Lib.hid ((Below.refl w.heap.size w).alloc (Nat.le_refl _) (.cells #[.int .i64 f.kind, .int .i64 f.id, .int .i64 f.off, .bool f.fin, .int .i64 f.code, .slice Ar f.rs.length cr, .slice Ad f.data.length cd] 25))
  have FB := Lib.hid (heap_alloc_new w (.cells #[.int .i64 f.kind, .int .i64 f.id, .int .i64 f.off, .bool f.fin, .int .i64 f.code, .slice Ar f.rs.length cr, .slice Ad f.data.length cd] 25))
  have HV := Lib.hid (h.on HW.out)
  have HK := Lib.hid hw.kind
  have HT := Lib.hid T
  clear h hr hd hw T
  by_cases hf : faultF f = 0
  · have HF := Lib.hid hf
    obtain ⟨X, hX⟩ : ∃ X, frT f = X := ⟨_, rfl⟩
    have HENC : Hid (∀ v w, FrVal w w.heap.size v f → Tab w → Calls Tryd.prog 6 #[v] w (EncFrPost X w)) := Lib.hid (fun v w h t => hX ▸ encodeFr_yes v f w h hf t)
    have HREF : Hid (∀ v w, Byt X → FrVal w w.heap.size v f → Calls Tryd.prog 7 #[v] w (BytesPost X w)) := Lib.hid (fun v w hy h => by subst hX; exact frameBytes_yes v f w h HK.out hf hy)
    clear hf hX
    go_enter Tryd.func3, Tryd.ntmps3
    go_wp2_with (first
      | (go_at_call 8; refine (sameBytes_eq _ _ _ _ _ _ _ _ _ X R4.out S4.out rfl rfl).mono ?_; rintro e w' ⟨rfl, rfl⟩)
      | (go_at_call 7; have g := R3.out; refine (HREF.out _ _ HY.out HV3.out).mono ?_; rintro e w4 ⟨g4, cap4, rfl, hb4, hr4⟩; have B4 := Lib.hid (B3.out.trans (hb4.mono B3.out.size)); have R4 := Lib.hid (R3.out.on hb4); have S4 := Lib.hid hr4; clear hb4 hr4 g)
      | (go_at_call 6; refine (HENC.out _ _ HV.out (HT.out.below HW.out)).mono ?_; rintro e w3 ⟨A5, c5, rfl, o3, y3, b3⟩; have B3 := Lib.hid (HW.out.trans (b3.mono HW.out.size)); have HV3 := Lib.hid (HV.out.on b3); obtain ⟨A5', c5', he, hc5, hm5, hn5, hr5⟩ := (own_bsl o3 y3).ex; obtain ⟨ee1, _, ee3⟩ := Value.slice.inj he; subst ee1; subst ee3; have R3 := Lib.hid hr5; have HY := Lib.hid y3; obtain ⟨q0, q1, q2, q3, q4, q5, q6, _⟩ := blk7 ((b3.block _ (lt_of_block FB.out)).trans FB.out); clear o3 y3 b3 hr5 hn5 he))
    go_ret
    exact ⟨rfl, B4.out⟩
  · obtain ⟨x, hx⟩ : ∃ x, faultF f = x := ⟨_, rfl⟩
    have HENC : Hid (∀ v w, FrVal w w.heap.size v f → Calls Tryd.prog 6 #[v] w fun e w' => e = .returned (.tuple #[.slice none 0 0, .int .i64 x]) ∧ Below w.heap.size w w') := Lib.hid (fun v w h => hx ▸ encodeFr_no v f w h hf)
    have HREF : Hid (∀ v w, FrVal w w.heap.size v f → Calls Tryd.prog 7 #[v] w fun e w' => e = .returned (.tuple #[.slice none 0 0, .int .i64 x]) ∧ Below w.heap.size w w') := Lib.hid (fun v w h => hx ▸ frameBytes_no v f w h HK.out hf)
    have S := Lib.hid (fun w => sameBytes_eq w 0 0 0 0 0 0 none none [] (BRow.nil _ _ _) (BRow.nil _ _ _) rfl rfl)
    clear hf hx
    go_enter Tryd.func3, Tryd.ntmps3
    go_wp2_with (first
      | (go_at_call 8; refine (S.out _).mono ?_; rintro e w' ⟨rfl, rfl⟩)
      | (go_at_call 7; refine (HREF.out _ _ HV3.out).mono ?_; rintro e w4 ⟨rfl, hb4⟩; have B4 := Lib.hid (B3.out.trans (hb4.mono B3.out.size)); clear hb4)
      | (go_at_call 6; refine (HENC.out _ _ HV.out).mono ?_; rintro e w3 ⟨rfl, b3⟩; have B3 := Lib.hid (HW.out.trans (b3.mono HW.out.size)); have HV3 := Lib.hid (HV.out.on b3); obtain ⟨q0, q1, q2, q3, q4, q5, q6, _⟩ := blk7 ((b3.block _ (lt_of_block FB.out)).trans FB.out); clear b3))
    go_ret
    exact ⟨by first | rfl | simp, B4.out⟩
end Go.Proofs.YtjeocggocloigaaDoor
namespace Go.Proofs.YtjeocggocloigaaDoor.frameEncodes
open Go.ChangeShapes Go.WideShapes Go.ChangeAt Go.RowKit P
open Go.ChangeMaps (open_string shut_string)
set_option linter.unusedVariables false

theorem own : ownKnob Tryd.prog.godebug = none := by kernel_rfl
theorem laidOut : laidOutB Tryd.prog = true := by kernel_rfl

/-- the cells of the listed table that the four sizes lead to -/
theorem tabOf {W : World} (h : laidMetH Tryd.prog [("math/bits.deBruijn32tab", Rows.laid_math_bits_deBruijn32tab), ("math/bits.deBruijn64tab", Rows.laid_math_bits_deBruijn64tab)] W) : Tab W := by
  rw [MakeChecks.laidMetH_plain _ _ _ (by kernel_rfl)] at h
  obtain ⟨ps, ⟨_, _, _, _, _, _, _, _, _, _, ⟨g, t, cs, fuel, p, q, hg, ht, hv, hd, _, _⟩, _⟩, _, _⟩ := h
  have hG : Tryd.prog.globalNamed "math/bits.deBruijn64tab" = some 1 := by kernel_rfl
  have hTy : (Tryd.prog.globals[1]?).map (·.type) = some 101 := by kernel_rfl
  obtain rfl := Option.some.inj (hG.symm.trans hg)
  obtain rfl := Option.some.inj (hTy.symm.trans ht)
  obtain ⟨xs, m, _, ex, _, hl, hel⟩ := DataW.trod_array Tryd.underlying101 hd
  have c5 : Tryd.prog.cellsOf 5 = 1 := by kernel_rfl
  have e3 := (DataW.agg.inj (Prod.mk.inj ex).1).symm
  have cell : ∀ (r : Nat) (v : Int), r < 64 → (xs.map (·.1))[r]? = some (.lit (.int .u8 v)) → W.cell? ⟨1, r, none⟩ = some (.int .u8 v) := by
    intro r v hr e4
    have hE := hel r hr
    rw [c5, Nat.mul_one, List.getElem?_eq_getElem (by omega)] at hE
    obtain ⟨z, e1, e2, _⟩ := DataW.trod_int Tryd.underlying5 hE
    rw [List.getElem?_map, List.getElem?_eq_getElem (by omega : r < xs.length), e2] at e4
    have hz : z = v := by simpa using e4
    subst hz
    rw [World.var?_cell hg hv r]
    have : cs.toList[r]? = some (.int .u8 z) := by
      have h0 : ((cs.toList.drop r).take 1)[0]? = some (.int .u8 z) := by rw [e1]; rfl
      simpa using h0
    simpa using this
  have k0 := cell 0 0 (by decide) (by rw [e3]; rfl)
  exact ⟨k0, cell 1 1 (by decide) (by rw [e3]; rfl), cell 3 2 (by decide) (by rw [e3]; rfl), cell 7 3 (by decide) (by rw [e3]; rfl), cell_lt k0⟩


set_option maxRecDepth 100000 in
theorem lifted (os : Os) (started : os.Started) (H : Type) (enc : TypeId × Value → H) :
    ReturnsInHanded {} Tryd.checked os 3 .any (fun w args => (Rows.frameEncodesSpec.pre enc Tryd.prog Tryd.f3 Rows.frameEncodesRow.domain false w args ∧ laidMetH Tryd.prog [("math/bits.deBruijn32tab", Rows.laid_math_bits_deBruijn32tab), ("math/bits.deBruijn64tab", Rows.laid_math_bits_deBruijn64tab)] w) ∧ sizedMet enc Tryd.prog Tryd.f3 (OpenSpec.ofChange Rows.frameEncodesSpec) false w args) (Rows.frameEncodesSpec.post enc Tryd.prog Tryd.f3 false true false false) := by
  refine returnsInHanded_of_change_and (C := Tryd.checked) (X := fun w _ => laidMetH Tryd.prog [("math/bits.deBruijn32tab", Rows.laid_math_bits_deBruijn32tab), ("math/bits.deBruijn64tab", Rows.laid_math_bits_deBruijn64tab)] w) (fun _ _ _ hh h => h.of_heap hh) own started (by kernel_rfl) Tryd.func3
    (ChangeSpec.witness_shaped (enc := enc) (C := Tryd.checked) (os := os) (X := fun w _ => laidMetH Tryd.prog [("math/bits.deBruijn32tab", Rows.laid_math_bits_deBruijn32tab), ("math/bits.deBruijn64tab", Rows.laid_math_bits_deBruijn64tab)] w) false (World.laidAll Tryd.prog os [("math/bits.deBruijn32tab", Rows.laid_math_bits_deBruijn32tab), ("math/bits.deBruijn64tab", Rows.laid_math_bits_deBruijn64tab)]) #[.agg #[.int .i64 0, .int .i64 0, .int .i64 0, .bool false, .int .i64 0, .slice none 0 0, .slice none 0 0]] 8 (World.laidAll_os _ _ _)
      (World.shaped_of_ZipB (by kernel_rfl) (by kernel_rfl)) (by kernel_rfl) (by kernel_rfl) (by kernel_rfl)
      (by rw [MakeChecks.laidMetH_plain _ _ _ (by kernel_rfl)]; exact laidMet_laidAll _ (by kernel_rfl) (by kernel_rfl))) ?_
  intro W base args ds gs before hval0 hW hcnd hsz0 hL _
  have T := tabOf hL
  have hsz : (DataW.weightsEach Tryd.prog (Tryd.f3.params.toList ++ Rows.frameEncodesSpec.plain.varTypes Tryd.prog) (ds ++ gs)).all (· ≤ reachBytes) = true := hsz0
  have hval : ∀ (j : Nat) t v, Tryd.f3.params[j]? = some t → args[j]? = some v → Value.okWide Tryd.prog W .any base t v := hval0
  have hW' := hW
  obtain ⟨p, q, hA0, hV, rfl, hfz, hnd⟩ := hW
  have hA : DataW.TrodAll enc Tryd.prog W 0 (fun _ => true) true Tryd.f3.params.toList args.toList ds p := hA0
  rw [Tryd.params3] at hA hval hsz
  obtain ⟨v0, vs0, d0, ds0, p0, q0, hargs, rfl, rfl, h0, tr0⟩ := trodAll_cons hA
  obtain ⟨rfl, rfl, rfl⟩ := trodAll_nil tr0
  obtain rfl : args = #[v0] := by cases args; simp_all
  obtain ⟨rfl, rfl⟩ := trodVars_none hV
  have k0 := h0
  have lt0 : ∀ x ∈ p0, x.block < W.heap.size := by obtain ⟨m, hm⟩ := k0; exact DataW.trod_lt m _ _ _ hm
  obtain ⟨f0, fv0, fw0⟩ := open_fr Tryd.underlying25 (by kernel_rfl) (by kernel_rfl) Tryd.underlying3 Tryd.underlying3 Tryd.underlying3 Tryd.underlying4 Tryd.underlying3 Tryd.underlying22 Tryd.underlying23 Tryd.underlying48 (by kernel_rfl) (by kernel_rfl) Tryd.underlying3 Tryd.underlying3 Tryd.underlying5 (by kernel_rfl) (hval 0 25 v0 rfl rfl) h0
  clear hA0 hval0
  refine (show Calls Tryd.prog 3 _ W fun e w' => e = .returned (.bool true) ∧ Below W.heap.size W w' from frameEncodes_walk v0 f0 W T fv0 fw0).mono fun e W' ⟨he, bel⟩ => ?_
  subst he
  exact ⟨_, rfl, _, _, _, [], _, [], hW', trodAll_mk1 (shut_bool Tryd.underlying4 _), (trodAll_cons_mk (Below.trod laidOut (by kernel_rfl) (of_decide_eq_true (by kernel_rfl)) k0 bel lt0) trodAll_mk0), rfl, bel.frame _, fun h => by cases h⟩

theorem over : Rows.frameEncodesRow.holds Tryd.pinned (OpenSpec.ofChange Rows.frameEncodesSpec) :=
  OpenClaim.holds_of_wide 3 Tryd.f3 rfl rfl rfl rfl rfl rfl rfl ⟨rfl, rfl, rfl, rfl, rfl⟩ rfl rfl rfl rfl rfl (by kernel_rfl) Tryd.func3 (by kernel_rfl)
    (of_decide_eq_true (by kernel_rfl)) (by unfold Func.isWrapper; first | (rw [if_pos (by decide +kernel)]; kernel_rfl) | (rw [if_neg (by decide +kernel)]; exact ⟨rfl, rfl⟩))
    (fun os started H enc _ => lifted os started H enc)

theorem proved : Rows.FrameEncodesCardSaid :=
  Claim7.holds_tied_plain_at .later [] [.data, .data] true (true, "ded5ab80380f37c9ad442ef690ddf82dcb27d309b274b7d99d369ef7bd5ecc7b") false
    over (fun _ h => by cases h) (by kernel_rfl) (fun _ h => by cases h) frameEncodes_row_tie rfl ⟨rfl, rfl⟩ (by kernel_rfl) rfl
    (fun f fn hf hfn => by
      obtain rfl : f = 3 := Option.some.inj ((show Tryd.prog.funcNamed "spillway/spillwaylaw.FrameEncodes" = some 3 by kernel_rfl).symm.trans hf) |>.symm
      obtain rfl : fn = Tryd.f3 := (Option.some.inj (Tryd.func3.symm.trans hfn)).symm
      exact ⟨by kernel_rfl, fun j t ht => by
        rw [Tryd.params3] at ht
        have hm : t ∈ [25] := by simpa using Array.mem_of_getElem? ht
        have hall : ([25].all fun u => !Tryd.prog.wantsStandIn u) = true := by kernel_rfl
        exact (show Tryd.prog.wantsStandIn t = false by simpa using List.all_eq_true.1 hall t hm)⟩)
    (by kernel_rfl)
#print axioms proved
end Go.Proofs.YtjeocggocloigaaDoor.frameEncodes
