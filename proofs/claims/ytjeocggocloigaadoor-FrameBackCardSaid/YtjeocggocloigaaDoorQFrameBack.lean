/- PROVED HERE: FrameBack: called with any input that can be read, spillway/spillwaykeep.FrameBack returns true and does not panic, and its arguments read afterwards as they read before. Condition: the listed library tables (math/bits.deBruijn32tab, math/bits.deBruijn64tab) hold at the start what the program text lays; the card ties this to the text. -/
import Derived.Test.YtjeocggocloigaaDoorQR
import Derived.Test.YtjeocggocloigaaDoorQL
import Derived.Test.YtjeocggocloigaaDoorQH
import Derived.Test.YtjeocggocloigaaDoorQM
import Derived.Test.YtjeocggocloigaaDoorQS
import Derived.Test.YtjeocggocloigaaDoorRows
import Derived.Test.YtjeocggocloigaaDoorCards
import Derived.Test.YtjeocggocloigaaDoorTie
import Derived.WalkKit
import Derived.ProofKit
import Derived.OpenShut
import Derived.ShutString
import Derived.ChangeOld
import Derived.Below
import Derived.SizedLaws
import Derived.LaidMore
import Derived.Lay
import Derived.SevenTiedAt
import Derived.Stop.Joined
/- The walk of FrameBack. -/
namespace Go.Proofs.YtjeocggocloigaaDoor
set_option linter.unusedVariables false
open Go.RowKit P

theorem infoB : (Tryd.prog.info? 5).map (fun i => (i.zero, i.size, i.bytes)) = some (some (.int .u8 0), 1, 1) := by kernel_rfl

theorem own0 (w : World) : (w.alloc (.cells #[] 5)).ownsRow w.heap.size 5 1 (.slice (some ⟨w.heap.size, 0, none⟩) 0 0) 0 [] :=
  ⟨rfl, .inr ⟨w.heap.size, 0, #[], rfl, Nat.le_refl _, heap_new w _, Nat.le_refl _, by unfold maxLen; omega, rfl, rfl⟩⟩
theorem row0 {w : World} {A : Option Addr} {X : List Int} (h : BRow w w.heap.size A X) : BRow (w.alloc (.cells #[] 5)) w.heap.size A X := h.below ((Below.refl _ _).alloc (Nat.le_refl _) _)

set_option maxRecDepth 100000 in
set_option maxHeartbeats 600000 in
theorem frameBack_walk (x0 : RawT) (hs : x0.text.size ≤ maxLen) (at_ : Int) (A : Option Addr) (len cap : Nat) (z : List Int) (W : World) (T : Tab W) (h : IsRow .u8 W A len cap z) (hreach : cap * 1 ≤ 140737488351232) :
    Calls Tryd.prog 4 #[.agg #[.int .i64 x0.kind, .int .i64 x0.a, .int .i64 x0.b, .string x0.text], .slice A len cap, .int .i64 at_] W fun e w' => e = .returned (.bool true) ∧ Below W.heap.size W w' := by
  obtain ⟨hb, hl, hc, hm⟩ := InRow.brow (show InRow W A len cap z from h)
  have hn : A = none → cap = 0 := fun e => by subst e; rcases h with ⟨_, _, e, _⟩ | ⟨x, e, _⟩ <;> first | exact e | cases e
  obtain ⟨k, x, y, s⟩ := x0
  simp only at *
  have HFO : Hid (∀ w, Calls Tryd.prog 9 #[.agg #[.int .i64 k, .int .i64 x, .int .i64 y, .string s]] w (FrOut (fOf (k % 14) x y ((numsOf s).take 40)) w)) := Lib.hid (fun w => frameOf_any k x y s hs w)
  have hf0 : faultF (fOf (k % 14) x y ((numsOf s).take 40)) = 0 := fOf_ok _ _ _ _ (by rw [List.length_take]; omega)
  generalize fOf (k % 14) x y ((numsOf s).take 40) = f at *
  obtain ⟨zs, hz⟩ : ∃ zs, z.take len = zs := ⟨_, rfl⟩
  rw [hz] at hb hl
  obtain ⟨i0, hi0, hz0, hz1, hz2⟩ := info_parts infoB
  have HI := Lib.hid hi0
  have HZ := Lib.hid hz0
  have HZ1 := Lib.hid hz1
  have HZ2 := Lib.hid hz2
  have HF := Lib.hid hf0
  have HR := Lib.hid hb
  have HL := Lib.hid hl
  have HN := Lib.hid hn
  have HT := Lib.hid T
  have hX8 := frT_le hf0
  have hX0 := frT_pos f hf0
  have HDEC := Lib.hid (decF_back hf0 zs)
  have HCUT := Lib.hid (fun j => decF_cut hf0 j)
  clear hf0 hb hl hz h hn T hi0 hz0 hz1 hz2
  obtain ⟨X, hX⟩ : ∃ X, frT f = X := ⟨_, rfl⟩
  have HX := Lib.hid hX
  rw [hX] at hX8 hX0 HDEC HCUT
  have HENC : Hid (∀ v w, FrVal w w.heap.size v f → Tab w → Calls Tryd.prog 6 #[v] w (EncFrPost X w)) := Lib.hid (fun v w h t => hX ▸ encodeFr_yes v f w h HF.out t)
  clear hX
  go_enter Tryd.func4, Tryd.ntmps4
  go_wp2_with (first
    | (at_builtin
       refine wpList_app _ rfl (.tmp 24) (.tmp 25) _ rfl w3.heap.size 5 i0 Tryd.underlying23 HI.out HZ.out HZ1.out HZ2.out _ 0 [] rfl O0.out w3.heap.size A3 X.length c3 X rfl R1.out rfl HN3.out (by omega) (by simp) ?_
       intro v4 w4 own4 g4 at4
       simp only [Nat.zero_add, List.nil_append] at own4
       have B4 : Hid (Below w3.heap.size w3 w4) := Lib.hid (((Below.refl _ _).alloc (Nat.le_refl _) _).grown g4 (by simp) (fun k h => by cases h; exact Nat.le_refl _))
       have A4 := Lib.hid at4
       have O4 := Lib.hid own4
       have sz4 : w3.heap.size + 1 ≤ w4.heap.size := by have := g4.size; simpa using this
       clear own4 g4 at4
       have R4 : Hid (BRow w4 W.heap.size A zs) := Lib.hid ((HR.out.below B3.out).below (B4.out.mono B3.out.size)))
    | (at_builtin
       refine wpList_app _ rfl (.tmp 26) (.tmp 27) _ rfl w3.heap.size 5 i0 Tryd.underlying23 HI.out HZ.out HZ1.out HZ2.out v4 X.length _ rfl O4.out W.heap.size A len cap zs rfl R4.out HL.out HN.out (by omega) (by omega) ?_
       intro v5 w5 own5 g5 at5
       have O5 := Lib.hid own5
       have G5 := Lib.hid g5
       clear own5 g5 at5)
    | (go_at_call 6; have g := HV1.out; refine (HENC.out _ _ HV1.out (HT.out.below (B1.out.trans (A1.out.mono B1.out.size)))).mono ?_; rintro e w3 ⟨A3, c3, rfl, o3, y3, b3⟩; have B3 := Lib.hid ((B1.out.trans (A1.out.mono B1.out.size)).trans (b3.mono (B1.out.trans (A1.out.mono B1.out.size)).size)); have FB3 := Lib.hid ((b3.block _ (lt_of_block FB1.out)).trans FB1.out); have HV3 := Lib.hid (HV1.out.on b3); obtain ⟨A3', c3', he3, hc3, hm3, hn3, hr3⟩ := (own_bsl o3 y3).ex; obtain ⟨ee1, _, ee3⟩ := Value.slice.inj he3; subst ee1; subst ee3; have HR3 := Lib.hid hr3; have HN3 := Lib.hid hn3; have HY := Lib.hid y3; clear o3 y3 b3 hr3 hn3 he3 g; have O0 := Lib.hid (own0 w3); have R1 := Lib.hid (row0 HR3.out))
    | (go_at_call 9; refine (HFO.out _).mono ?_; rintro e w1 ⟨v1, rfl, hv1, hb1⟩; obtain ⟨r1, d1, rfl, hr1, hd1⟩ := hv1.ex; obtain ⟨Ar1, cr1, hra1, _, _, _⟩ := hr1.ex; subst hra1; obtain ⟨Ad1, cd1, hda1, _, _, _, _⟩ := hd1.ex; subst hda1; have B1 := Lib.hid (((Below.refl W.heap.size W).alloc (Nat.le_refl _) (.cells #[.int .i64 k, .int .i64 x, .int .i64 y, .string s] 32)).trans (hb1.mono (by simp))); have A1 := Lib.hid ((Below.refl w1.heap.size w1).alloc (Nat.le_refl _) (.cells #[.int .i64 f.kind, .int .i64 f.id, .int .i64 f.off, .bool f.fin, .int .i64 f.code, .slice Ar1 f.rs.length cr1, .slice Ad1 f.data.length cd1] 25)); have FB1 := Lib.hid (heap_alloc_new w1 (.cells #[.int .i64 f.kind, .int .i64 f.id, .int .i64 f.off, .bool f.fin, .int .i64 f.code, .slice Ar1 f.rs.length cr1, .slice Ad1 f.data.length cd1] 25)); have HV1 := Lib.hid (hv1.on A1.out); clear hb1 hv1 hr1 hd1))
  have B5 : Hid (Below w3.heap.size w4 w5) := Lib.hid ((Below.refl _ _).grown G5.out (by have := B4.out.size; omega) (fun k hk => (O4.out.lt k hk).1))
  have O6 := O5.out
  rw [← List.map_append] at O6
  obtain ⟨A5, c5, he5, hc5, hm5, hn5, hr5⟩ := (own_bsl O6 (Byt.append HY.out HR.out.1)).ex
  subst he5
  have hlen : (X ++ zs).length = X.length + len := by rw [List.length_append, HL.out]
  have HR5 := Lib.hid hr5
  have HN5 := Lib.hid hn5
  have b45 := B4.out.trans B5.out
  have B6 := Lib.hid (B3.out.trans (b45.mono B3.out.size))
  have HR6 := Lib.hid (HR3.out.on b45)
  have HV6 := Lib.hid (HV3.out.on b45)
  have FB6 := Lib.hid ((b45.block _ (lt_of_block FB3.out)).trans FB3.out)
  have hus : ((X ++ zs).length : Int) - zs.length = X.length := by rw [hlen, HL.out]; omega
  have HUS := Lib.hid hus
  have hcap : (X ++ zs).length ≤ 140737488355328 := by rw [hlen]; omega
  clear O6 O5 G5 hr5 hn5 b45 hus hlen O4 R4 A4 R1 O0
  obtain ⟨j, hj, hjl⟩ : ∃ j : Nat, at_ % (X.length : Int) = j ∧ j < X.length := ⟨(at_ % (X.length : Int)).toNat, by have := Int.emod_nonneg at_ (show (X.length : Int) ≠ 0 by omega); omega, by have := Int.emod_lt_of_pos at_ (show (0 : Int) < X.length by omega); have := Int.emod_nonneg at_ (show (X.length : Int) ≠ 0 by omega); omega⟩
  have HP : Hid (∀ w, Calls Tryd.prog 11 #[.int .i64 at_, .int .i64 (max (X.length : Int) 1)] w fun e w' => e = .returned (.int .i64 j) ∧ w = w') := Lib.hid (fun w => by
    have := picked_any at_ X.length (by omega) (by omega) w
    rw [show max (X.length : Int) 1 = X.length by omega]
    rwa [hj] at this)
  clear hj
  have g := HR6.out
  refine (decode_any A5 (X ++ zs).length c5 (X ++ zs) _ HR5.out rfl hc5 hm5 HN5.out hcap).mono ?_
  rintro e w7 hD
  obtain ⟨b7, hm7⟩ := hD
  rw [HDEC.out] at hm7
  obtain ⟨v7, rfl, ho7⟩ := hm7
  rw [HUS.out]
  obtain ⟨r7, d7, rfl, hr7, hd7, hy7⟩ := (ho7).ex
  obtain ⟨Ar7, cr7, hra7, _, _, _⟩ := hr7.slice
  subst hra7
  obtain ⟨Ad7, cd7, hda7, _, _⟩ := own_slice hd7
  subst hda7
  have X7 := Lib.hid ((Below.refl w7.heap.size w7).alloc (Nat.le_refl _) (.cells #[.int .i64 f.kind, .int .i64 f.id, .int .i64 f.off, .bool f.fin, .int .i64 f.code, .slice Ar7 f.rs.length cr7, .slice Ad7 f.data.length cd7] 25))
  have b67 := b7.trans (X7.out.mono b7.size)
  have B7 := Lib.hid (B6.out.trans (b67.mono B6.out.size))
  have FB7 := Lib.hid ((b67.block _ (lt_of_block FB6.out)).trans FB6.out)
  have FX7 := Lib.hid (heap_alloc_new w7 (.cells #[.int .i64 f.kind, .int .i64 f.id, .int .i64 f.off, .bool f.fin, .int .i64 f.code, .slice Ar7 f.rs.length cr7, .slice Ad7 f.data.length cd7] 25))
  have HV7 := Lib.hid (HV6.out.on b67)
  have HX7 := Lib.hid (ho7.val.on X7.out)
  have HR7 := Lib.hid (HR6.out.on b67)
  clear b7 b67 g ho7 hr7 hd7 hy7
  go_wp2_with (go_at_call 11; refine (HP.out _).mono ?_; rintro e w' ⟨rfl, rfl⟩)
  have hjc : j ≤ c3 := by omega
  have hjt : (X.take j).length = j := by rw [List.length_take]; omega
  refine (decode_any A3 j c3 (X.take j) _ (HR7.out.take j) hjt hjc hm3 HN3.out (by omega)).mono ?_
  rintro e w8 hD
  obtain ⟨b8, hm8⟩ := hD
  rw [HCUT.out j hjl] at hm8
  obtain rfl := hm8
  have b8z := b8.alloc b8.size (.cells #[.int .i64 0, .int .i64 0, .int .i64 0, .bool false, .int .i64 0, .slice none 0 0, .slice none 0 0] 25)
  have B8 := Lib.hid (B7.out.trans (b8z.mono B7.out.size))
  have FB8 := Lib.hid ((b8z.block _ (lt_of_block FB7.out)).trans FB7.out)
  have FX8 := Lib.hid ((b8z.block _ (lt_of_block FX7.out)).trans FX7.out)
  have HV8 := Lib.hid (HV7.out.on b8z)
  have HX8 := Lib.hid (HX7.out.on b8z)
  obtain ⟨q0, q1, q2, q3, q4, q5, q6, _⟩ := blk7 FB8.out
  clear b8 b8z hjt hjc
  go_wp2_with (first
    | (go_at_call 13; refine (sameFrN_any _ _ f f _ HV9.out HX9.out).mono ?_; rintro e w10 ⟨b, rfl, hbb, b10⟩; obtain rfl := hbb.2 rfl; have B10 := Lib.hid (B9.out.trans (b10.mono B9.out.size)); clear b10)
    | (go_at_call 12; refine (frCheck_any _ f _ HV8.out).mono ?_; rintro e w9 ⟨rfl, b9⟩; rw [HF.out]; have B9 := Lib.hid (B8.out.trans (b9.mono B8.out.size)); have HV9 := Lib.hid (HV8.out.on b9); have HX9 := Lib.hid (HX8.out.on b9); clear q0 q1 q2 q3 q4 q5 q6; obtain ⟨q0, q1, q2, q3, q4, q5, q6, _⟩ := blk7 ((b9.block _ (lt_of_block FB8.out)).trans FB8.out); obtain ⟨x0, x1, x2, x3, x4, x5, x6, _⟩ := blk7 ((b9.block _ (lt_of_block FX8.out)).trans FX8.out); clear b9))
  go_ret
  exact ⟨rfl, B10.out⟩
end Go.Proofs.YtjeocggocloigaaDoor
namespace Go.Proofs.YtjeocggocloigaaDoor.frameBack
open Go.ChangeShapes Go.WideShapes Go.ChangeAt Go.RowKit P
open Go.ChangeMaps (open_string shut_string)
set_option linter.unusedVariables false

theorem own : ownKnob Tryd.prog.godebug = none := by kernel_rfl
theorem laidOut : laidOutB Tryd.prog = true := by kernel_rfl

/-- the cells of the listed table that the four sizes lead to -/
theorem tabOf {W : World} (h : laidMetH Tryd.prog [("math/bits.deBruijn32tab", Rows.laid_math_bits_deBruijn32tab), ("math/bits.deBruijn64tab", Rows.laid_math_bits_deBruijn64tab)] W) : Tab W := by
  rw [MakeChecks.laidMetH_plain _ _ _ (by kernel_rfl)] at h
  obtain ⟨ps, ⟨_, _, _, _, _, _, _, _, _, _, ⟨g, t, cs, fuel, p, q, hg, ht, hv, hd, _, _⟩, _⟩, _, _⟩ := h
  have hG : Tryd.prog.globalNamed "math/bits.deBruijn64tab" = some 1 := by kernel_rfl
  have hTy : (Tryd.prog.globals[1]?).map (·.type) = some 101 := by kernel_rfl
  obtain rfl := Option.some.inj (hG.symm.trans hg)
  obtain rfl := Option.some.inj (hTy.symm.trans ht)
  obtain ⟨xs, m, _, ex, _, hl, hel⟩ := DataW.trod_array Tryd.underlying101 hd
  have c5 : Tryd.prog.cellsOf 5 = 1 := by kernel_rfl
  have e3 := (DataW.agg.inj (Prod.mk.inj ex).1).symm
  have cell : ∀ (r : Nat) (v : Int), r < 64 → (xs.map (·.1))[r]? = some (.lit (.int .u8 v)) → W.cell? ⟨1, r, none⟩ = some (.int .u8 v) := by
    intro r v hr e4
    have hE := hel r hr
    rw [c5, Nat.mul_one, List.getElem?_eq_getElem (by omega)] at hE
    obtain ⟨z, e1, e2, _⟩ := DataW.trod_int Tryd.underlying5 hE
    rw [List.getElem?_map, List.getElem?_eq_getElem (by omega : r < xs.length), e2] at e4
    have hz : z = v := by simpa using e4
    subst hz
    rw [World.var?_cell hg hv r]
    have : cs.toList[r]? = some (.int .u8 z) := by
      have h0 : ((cs.toList.drop r).take 1)[0]? = some (.int .u8 z) := by rw [e1]; rfl
      simpa using h0
    simpa using this
  have k0 := cell 0 0 (by decide) (by rw [e3]; rfl)
  exact ⟨k0, cell 1 1 (by decide) (by rw [e3]; rfl), cell 3 2 (by decide) (by rw [e3]; rfl), cell 7 3 (by decide) (by rw [e3]; rfl), cell_lt k0⟩


set_option maxRecDepth 100000 in
theorem lifted (os : Os) (started : os.Started) (H : Type) (enc : TypeId × Value → H) :
    ReturnsInHanded {} Tryd.checked os 4 .any (fun w args => (Rows.frameBackSpec.pre enc Tryd.prog Tryd.f4 Rows.frameBackRow.domain false w args ∧ laidMetH Tryd.prog [("math/bits.deBruijn32tab", Rows.laid_math_bits_deBruijn32tab), ("math/bits.deBruijn64tab", Rows.laid_math_bits_deBruijn64tab)] w) ∧ sizedMet enc Tryd.prog Tryd.f4 (OpenSpec.ofChange Rows.frameBackSpec) false w args) (Rows.frameBackSpec.post enc Tryd.prog Tryd.f4 false true false false) := by
  refine returnsInHanded_of_change_and (C := Tryd.checked) (X := fun w _ => laidMetH Tryd.prog [("math/bits.deBruijn32tab", Rows.laid_math_bits_deBruijn32tab), ("math/bits.deBruijn64tab", Rows.laid_math_bits_deBruijn64tab)] w) (fun _ _ _ hh h => h.of_heap hh) own started (by kernel_rfl) Tryd.func4
    (ChangeSpec.witness_shaped (enc := enc) (C := Tryd.checked) (os := os) (X := fun w _ => laidMetH Tryd.prog [("math/bits.deBruijn32tab", Rows.laid_math_bits_deBruijn32tab), ("math/bits.deBruijn64tab", Rows.laid_math_bits_deBruijn64tab)] w) false (World.laidAll Tryd.prog os [("math/bits.deBruijn32tab", Rows.laid_math_bits_deBruijn32tab), ("math/bits.deBruijn64tab", Rows.laid_math_bits_deBruijn64tab)]) #[.agg #[.int .i64 0, .int .i64 0, .int .i64 0, .string ⟨#[]⟩], .slice none 0 0, .int .i64 0] 8 (World.laidAll_os _ _ _)
      (World.shaped_of_ZipB (by kernel_rfl) (by kernel_rfl)) (by kernel_rfl) (by kernel_rfl) (by kernel_rfl)
      (by rw [MakeChecks.laidMetH_plain _ _ _ (by kernel_rfl)]; exact laidMet_laidAll _ (by kernel_rfl) (by kernel_rfl))) ?_
  intro W base args ds gs before hval0 hW hcnd hsz0 hL _
  have T := tabOf hL
  have hsz : (DataW.weightsEach Tryd.prog (Tryd.f4.params.toList ++ Rows.frameBackSpec.plain.varTypes Tryd.prog) (ds ++ gs)).all (· ≤ reachBytes) = true := hsz0
  have hval : ∀ (j : Nat) t v, Tryd.f4.params[j]? = some t → args[j]? = some v → Value.okWide Tryd.prog W .any base t v := hval0
  have hW' := hW
  obtain ⟨p, q, hA0, hV, rfl, hfz, hnd⟩ := hW
  have hA : DataW.TrodAll enc Tryd.prog W 0 (fun _ => true) true Tryd.f4.params.toList args.toList ds p := hA0
  rw [Tryd.params4] at hA hval hsz
  obtain ⟨v0, vs0, d0, ds0, p0, q0, hargs, rfl, rfl, h0, tr0⟩ := trodAll_cons hA
  obtain ⟨v1, vs1, d1, ds1, p1, q1, rfl, rfl, rfl, h1, tr1⟩ := trodAll_cons tr0
  obtain ⟨v2, vs2, d2, ds2, p2, q2, rfl, rfl, rfl, h2, tr2⟩ := trodAll_cons tr1
  obtain ⟨rfl, rfl, rfl⟩ := trodAll_nil tr2
  obtain rfl : args = #[v0, v1, v2] := by cases args; simp_all
  obtain ⟨rfl, rfl⟩ := trodVars_none hV
  have k0 := h0
  have lt0 : ∀ x ∈ p0, x.block < W.heap.size := by obtain ⟨m, hm⟩ := k0; exact DataW.trod_lt m _ _ _ hm
  obtain ⟨x0, rfl, wk0, wa0, wb0, ws0⟩ := open_raw Tryd.underlying32 (by kernel_rfl) (by kernel_rfl) Tryd.underlying3 Tryd.underlying3 Tryd.underlying3 Tryd.underlying9 (hval 0 32 v0 rfl rfl) h0
  obtain ⟨a1, len1, cap1, rfl⟩ := okWide_slice Tryd.underlying23 (hval 1 23 v1 rfl rfl)
  have k1 := h1
  have lt1 : ∀ x ∈ p1, x.block < W.heap.size := by obtain ⟨m, hm⟩ := k1; exact DataW.trod_lt m _ _ _ hm
  obtain ⟨z1, w1, r1⟩ : ∃ zs, IsRow .u8 W a1 len1 cap1 zs ∧ cap1 * 1 ≤ 140737488351232 := by
    obtain ⟨fuel, hf⟩ := h1
    rcases open_ints Tryd.underlying23 Tryd.underlying5 (by kernel_rfl) hf with ⟨hcs, _⟩ | ⟨x, l, c, zs, hcs, _, hl, hm, hz, hx, hcell, hwz⟩
    · simp [Value.cells] at hcs
      obtain ⟨rfl, rfl, rfl⟩ := hcs
      exact ⟨[], .inl ⟨rfl, rfl, rfl, rfl⟩, by omega⟩
    · simp [Value.cells] at hcs
      obtain ⟨rfl, rfl, rfl⟩ := hcs
      have hz' : zs.length = cap1 := by simpa using hz
      have hd := (Prod.mk.inj hx).1
      have hb : Tryd.prog.bytesOf 5 = 1 := by kernel_rfl
      have := sized_slice hsz (j := 1) (t := 23) (e := 5) (elems := lits .u8 (zs.take len1)) (spare := lits .u8 (zs.drop len1)) rfl (by rw [← hd]; rfl) Tryd.underlying23
      rw [hb] at this
      simp only [lits, List.length_map, List.length_take, List.length_drop, reachBytes] at this
      exact ⟨zs, .inr ⟨_, rfl, hl, hm, hz', hcell, hwz⟩, by omega⟩
  obtain ⟨a2, rfl, rfl, rfl, w2⟩ := open_int Tryd.underlying3 (hval 2 3 v2 rfl rfl) h2
  clear hA0 hval0
  refine (show Calls Tryd.prog 4 _ W fun e w' => e = .returned (.bool true) ∧ Below W.heap.size W w' from frameBack_walk x0 ws0 a2 a1 len1 cap1 z1 W T w1 r1).mono fun e W' ⟨he, bel⟩ => ?_
  subst he
  exact ⟨_, rfl, _, _, _, [], _, [], hW', trodAll_mk1 (shut_bool Tryd.underlying4 _), (trodAll_cons_mk (Below.trod laidOut (by kernel_rfl) (of_decide_eq_true (by kernel_rfl)) k0 bel lt0) (trodAll_cons_mk (Below.trod laidOut (by kernel_rfl) (of_decide_eq_true (by kernel_rfl)) k1 bel lt1) (trodAll_cons_mk (shut_int Tryd.underlying3 w2) trodAll_mk0))), rfl, bel.frame _, fun h => by cases h⟩

theorem over : Rows.frameBackRow.holds Tryd.pinned (OpenSpec.ofChange Rows.frameBackSpec) :=
  OpenClaim.holds_of_wide 4 Tryd.f4 rfl rfl rfl rfl rfl rfl rfl ⟨rfl, rfl, rfl, rfl, rfl⟩ rfl rfl rfl rfl rfl (by kernel_rfl) Tryd.func4 (by kernel_rfl)
    (of_decide_eq_true (by kernel_rfl)) (by unfold Func.isWrapper; first | (rw [if_pos (by decide +kernel)]; kernel_rfl) | (rw [if_neg (by decide +kernel)]; exact ⟨rfl, rfl⟩))
    (fun os started H enc _ => lifted os started H enc)

theorem proved : Rows.FrameBackCardSaid :=
  Claim7.holds_tied_plain_at .later [] [.data, .data] true (true, "ded5ab80380f37c9ad442ef690ddf82dcb27d309b274b7d99d369ef7bd5ecc7b") false
    over (fun _ h => by cases h) (by kernel_rfl) (fun _ h => by cases h) frameBack_row_tie rfl ⟨rfl, rfl⟩ (by kernel_rfl) rfl
    (fun f fn hf hfn => by
      obtain rfl : f = 4 := Option.some.inj ((show Tryd.prog.funcNamed "spillway/spillwaykeep.FrameBack" = some 4 by kernel_rfl).symm.trans hf) |>.symm
      obtain rfl : fn = Tryd.f4 := (Option.some.inj (Tryd.func4.symm.trans hfn)).symm
      exact ⟨by kernel_rfl, fun j t ht => by
        rw [Tryd.params4] at ht
        have hm : t ∈ [32, 23, 3] := by simpa using Array.mem_of_getElem? ht
        have hall : ([32, 23, 3].all fun u => !Tryd.prog.wantsStandIn u) = true := by kernel_rfl
        exact (show Tryd.prog.wantsStandIn t = false by simpa using List.all_eq_true.1 hall t hm)⟩)
    (by kernel_rfl)
#print axioms proved
end Go.Proofs.YtjeocggocloigaaDoor.frameBack
