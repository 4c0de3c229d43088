/- Texts of the proofs, joined. -/
import Derived.Test.YtjeocggocloigaaQAF
import Derived.Test.YtjeocggocloigaaQAE
import Derived.Test.YtjeocggocloigaaQAC
import Derived.Test.YtjeocggocloigaaQAA
import Derived.Test.YtjeocggocloigaaQH
/- The document's answer on bytes that a frame begins with: FrameOf (whatever it begins with). -/
namespace Go.Proofs.Ytjeocggocloigaa
set_option linter.unusedVariables false
open Go.RowKit P

theorem refFrameOf_any (zs : List Int) (hy : Byt zs) (hl : zs.length ≤ 140737488351232) (w : World) :
    Calls Try.prog 9 #[.string (strOfNums zs)] w (RefDec zs w) := by
  obtain ⟨⟨n, e1, t1⟩, hN⟩ : ∃ x, numS (0, zs) = x := ⟨_, rfl⟩
  by_cases he1 : e1 = 0
  · by_cases n8 : n = 8
    · exact refFrO_eight zs hy hl w n e1 t1 hN he1 n8
    by_cases n14 : n = 14
    · exact refFrO_n14 zs hy hl w n e1 t1 hN he1 n14 [105, 111, 100, 102] rfl
    by_cases n15 : n = 15
    · exact refFrO_n15 zs hy hl w n e1 t1 hN he1 n15 [105, 111, 100, 102] rfl
    cases hp : partsOf n with
    | none => exact refFrO_none zs hy hl w n e1 t1 hN he1 n8 n14 n15 hp
    | some ps => exact refFrO_x zs hy hl w n e1 t1 hN he1 n8 n14 n15 ps hp
  · exact refFrO_bad zs hy hl w n e1 t1 hN he1
end Go.Proofs.Ytjeocggocloigaa
/- The walk of FrameDecodes, over the document's answer. -/
namespace Go.Proofs.Ytjeocggocloigaa
set_option linter.unusedVariables false
open Go.RowKit P

set_option maxRecDepth 100000 in
set_option maxHeartbeats 600000 in
theorem frameDecodes_core (hREF : ∀ (zs : List Int) (hy : Byt zs) (hl : zs.length ≤ 140737488351232) (w : World), Calls Try.prog 9 #[.string (strOfNums zs)] w (RefDec zs w)) (a0 : Option Addr) (len cap : Nat) (z0 : List Int) (W : World) (h : IsRow .u8 W a0 len cap z0) (hr : cap * 1 ≤ 140737488351232) :
    Calls Try.prog 4 #[.slice a0 len cap] W fun e w' => e = .returned (.bool true) ∧ Below W.heap.size W w' := by
  obtain ⟨hb, hl, hc, hm⟩ := InRow.brow h
  have hn : a0 = none → cap = 0 := by
    rcases h with ⟨_, _, h, _⟩ | ⟨x, h, _⟩
    · exact fun _ => h
    · intro e; rw [h] at e; cases e
  obtain ⟨zs, hz⟩ : ∃ zs, z0.take len = zs := ⟨_, rfl⟩
  rw [hz] at hb hl
  have HB := Lib.hid hb
  have HN := Lib.hid hn
  have hl47 : len ≤ 140737488355328 := by omega
  have HL := Lib.hid hl
  have HREF := Lib.hid (hREF zs hb.1 (by omega))
  obtain ⟨S, hS⟩ : ∃ S, strOfNums zs = S := ⟨_, rfl⟩
  rw [hS] at HREF
  have HSS := Lib.hid hS
  clear h hb hl hz hn hS hREF
  cases hd : decF zs with
  | error x =>
    have HD := Lib.hid hd
    clear hd
    go_enter Try.func4, Try.ntmps4
    go_wp2_with (first
      | (go_at_call 10; refine (lsameFr_eq _ _ ⟨0, 0, 0, false, 0, [], []⟩ _ ⟨_, _, rfl, RSl.nil _ _, BSl.nil _ _⟩ ⟨_, _, rfl, RSl.nil _ _, BSl.nil _ _⟩).mono ?_; rintro e w3 ⟨rfl, b3⟩; have B3 := Lib.hid (B2.out.trans (b3.mono B2.out.size)); clear b3)
      | (go_at_call 9; refine (HREF.out _).mono ?_; rintro e w2 hD; obtain ⟨b2, hm2⟩ := hD; rw [HD.out] at hm2; obtain rfl := hm2; have b2z := b2.alloc b2.size (.cells #[.int .i64 0, .int .i64 0, .int .i64 0, .bool false, .int .i64 0, .slice none 0 0, .slice none 0 0] 25); have B2 := Lib.hid (B1.out.trans (b2z.mono B1.out.size)); have F1 := Lib.hid ((b2z.block _ (lt_of_block F0.out)).trans F0.out); have F2 := Lib.hid (heap_alloc_new w2 (.cells #[.int .i64 0, .int .i64 0, .int .i64 0, .bool false, .int .i64 0, .slice none 0 0, .slice none 0 0] 25)); obtain ⟨q0, q1, q2, q3, q4, q5, q6, _⟩ := blk7 F1.out; obtain ⟨y0, y1, y2, y3, y4, y5, y6, _⟩ := blk7 F2.out; clear b2 b2z s1)
      | (go_at_call 8; refine (decode_any a0 len cap zs _ HB.out HL.out hc hm HN.out hl47).mono ?_; rintro e w1 hD; obtain ⟨b1, hm1⟩ := hD; rw [HD.out] at hm1; obtain rfl := hm1; have B1 := Lib.hid (b1.alloc b1.size (.cells #[.int .i64 0, .int .i64 0, .int .i64 0, .bool false, .int .i64 0, .slice none 0 0, .slice none 0 0] 25)); have F0 := Lib.hid (heap_alloc_new w1 (.cells #[.int .i64 0, .int .i64 0, .int .i64 0, .bool false, .int .i64 0, .slice none 0 0, .slice none 0 0] 25)); have s1 := run_str (P := Try.prog) (HB.out.below B1.out) HL.out 23 9 5 cap Try.underlying23 Try.underlying5 Try.underlying9; rw [HSS.out] at s1; clear b1))
    go_ret
    exact ⟨by simp, B3.out⟩
  | ok p =>
    obtain ⟨f, t⟩ := p
    have HD := Lib.hid hd
    clear hd
    go_enter Try.func4, Try.ntmps4
    go_wp2_with (first
      | (go_at_call 10; refine (lsameFr_eq _ _ f _ V1.out V2.out).mono ?_; rintro e w3 ⟨rfl, b3⟩; have B3 := Lib.hid (B2.out.trans (b3.mono B2.out.size)); clear b3)
      | (go_at_call 9; refine (HREF.out _).mono ?_; rintro e w2 hD; obtain ⟨b2, hm2⟩ := hD; rw [HD.out] at hm2; obtain ⟨v2, rfl, hv2⟩ := hm2; obtain ⟨r2, d2, rfl, hr2, hd2⟩ := hv2.ex; obtain ⟨Ar2, cr2, hra2, _, _, _⟩ := hr2.ex; subst hra2; obtain ⟨Ad2, cd2, hda2, _, _, _, _⟩ := hd2.ex; subst hda2; have a2 := (Below.refl w2.heap.size w2).alloc (Nat.le_refl _) (.cells #[.int .i64 f.kind, .int .i64 f.id, .int .i64 f.off, .bool f.fin, .int .i64 f.code, .slice Ar2 f.rs.length cr2, .slice Ad2 f.data.length cd2] 25); have b2z := b2.alloc b2.size (.cells #[.int .i64 f.kind, .int .i64 f.id, .int .i64 f.off, .bool f.fin, .int .i64 f.code, .slice Ar2 f.rs.length cr2, .slice Ad2 f.data.length cd2] 25); have B2 := Lib.hid (B1.out.trans (b2z.mono B1.out.size)); have F1 := Lib.hid ((b2z.block _ (lt_of_block F0.out)).trans F0.out); have F2 := Lib.hid (heap_alloc_new w2 (.cells #[.int .i64 f.kind, .int .i64 f.id, .int .i64 f.off, .bool f.fin, .int .i64 f.code, .slice Ar2 f.rs.length cr2, .slice Ad2 f.data.length cd2] 25)); have V1 := Lib.hid (V0.out.on b2z); have V2 := Lib.hid (hv2.on a2); obtain ⟨q0, q1, q2, q3, q4, q5, q6, _⟩ := blk7 F1.out; obtain ⟨y0, y1, y2, y3, y4, y5, y6, _⟩ := blk7 F2.out; clear b2 b2z s1 a2 hv2 hr2 hd2)
      | (go_at_call 8; refine (decode_any a0 len cap zs _ HB.out HL.out hc hm HN.out hl47).mono ?_; rintro e w1 hD; obtain ⟨b1, hm1⟩ := hD; rw [HD.out] at hm1; obtain ⟨v1, rfl, ho1⟩ := hm1; obtain ⟨r1, d1, rfl, hr1, hd1⟩ := ho1.val.ex; obtain ⟨Ar1, cr1, hra1, _, _, _⟩ := hr1.ex; subst hra1; obtain ⟨Ad1, cd1, hda1, _, _, _, _⟩ := hd1.ex; subst hda1; have B1 := Lib.hid (b1.alloc b1.size (.cells #[.int .i64 f.kind, .int .i64 f.id, .int .i64 f.off, .bool f.fin, .int .i64 f.code, .slice Ar1 f.rs.length cr1, .slice Ad1 f.data.length cd1] 25)); have F0 := Lib.hid (heap_alloc_new w1 (.cells #[.int .i64 f.kind, .int .i64 f.id, .int .i64 f.off, .bool f.fin, .int .i64 f.code, .slice Ar1 f.rs.length cr1, .slice Ad1 f.data.length cd1] 25)); have V0 := Lib.hid (ho1.val.on ((Below.refl w1.heap.size w1).alloc (Nat.le_refl _) (.cells #[.int .i64 f.kind, .int .i64 f.id, .int .i64 f.off, .bool f.fin, .int .i64 f.code, .slice Ar1 f.rs.length cr1, .slice Ad1 f.data.length cd1] 25))); have s1 := run_str (P := Try.prog) (HB.out.below B1.out) HL.out 23 9 5 cap Try.underlying23 Try.underlying5 Try.underlying9; rw [HSS.out] at s1; clear b1 ho1 hr1 hd1))
    go_ret
    exact ⟨by simp, B3.out⟩
end Go.Proofs.Ytjeocggocloigaa
