/- Texts of the proofs, joined. -/
import Derived.Test.YtjeocggocloigabDoorQI
import Derived.Test.YtjeocggocloigabDoorQD
import Derived.Test.YtjeocggocloigabDoorQJ
import Derived.Test.YtjeocggocloigabDoorQK
/- The pen's frame, where a kind has the parts 'io'. -/
namespace Go.Proofs.YtjeocggocloigabDoor
set_option linter.unusedVariables false
open Go.RowKit P

set_option maxRecDepth 100000 in
set_option maxHeartbeats 2000000 in
theorem penf_io (q base : Nat) (v : Value) (xs : List Int) (f : Fr) (Ar Ad : Option Addr) (cr cd : Nat) (w : World) (h : PenAt w q base v xs) (hrr : RRow w q Ar f.rs) (hrc : f.rs.length ≤ cr) (hrm : cr ≤ maxLen) (hdr : BRow w q Ad f.data) (hdn : Ad = none → cd = 0) (ok : OkF f [105, 111]) (hx : xs.length + 400 ≤ 140737488355328) (hbase : base ≤ w.heap.size) :
    Calls Tryd.prog 12 #[.pointer (some ⟨q, 0, none⟩), .agg #[.int .i64 f.kind, .int .i64 f.id, .int .i64 f.off, .bool f.fin, .int .i64 f.code, .slice Ar f.rs.length cr, .slice Ad f.data.length cd]] w (PenPost q base v (xs ++ frT f) w) := by
  have hp := ok.parts
  obtain ⟨m1, m2, m4, m8, m16, m32, m64, _⟩ := mask_of hp
  have g1 : hasM (maskOf f.kind) 1 = true := m1.trans (by decide)
  have g2 : hasM (maskOf f.kind) 2 = true := m2.trans (by decide)
  have g8 : hasM (maskOf f.kind) 8 = false := m8.trans (by decide)
  have g16 : hasM (maskOf f.kind) 16 = false := m16.trans (by decide)
  have g32 : hasM (maskOf f.kind) 32 = false := m32.trans (by decide)
  have g64 : hasM (maskOf f.kind) 64 = false := m64.trans (by decide)
  clear m1 m2 m4 m8 m16 m32 m64
  have hs : (partsOf f.kind).isSome = true := by rw [hp]; rfl
  have HT := Lib.hid (show frT f = markF f ++ encPs f [105, 111] by unfold frT; rw [hp]; rfl)
  have hk0 : 0 ≤ f.kind ∧ f.kind ≤ 30 := by
    rcases parts_cases hp with ⟨_, c⟩ | ⟨_, c⟩ | ⟨_, c⟩ | ⟨_, c⟩ | ⟨_, c⟩ | ⟨_, c⟩ | ⟨_, c⟩ | ⟨_, c⟩ | ⟨_, c⟩ | ⟨_, c⟩ | ⟨_, c⟩ <;> omega
  have id0 := ok.id0
  have id1 := ok.id1
  have of0 := ok.off0
  have of1 := ok.off1
  have co0 := ok.code0
  have co1 := ok.code1
  have dl := ok.data
  have l1 : ∀ n : Int, (enc n).length ≤ 8 := fun n => by have := enc_len n; have := sz_bd n; omega
  obtain ⟨Y1, y1⟩ : ∃ Y, xs ++ markF f = Y := ⟨_, rfl⟩
  have L1 : Y1.length ≤ xs.length + 8 := by rw [← y1, mark_enc, List.length_append]; have := l1 (mkF f); omega
  obtain ⟨Y2, y2⟩ : ∃ Y, Y1 ++ enc f.id = Y := ⟨_, rfl⟩
  have L2 : Y2.length ≤ xs.length + 16 := by rw [← y2, List.length_append]; have := l1 f.id; omega
  obtain ⟨Y3, y3⟩ : ∃ Y, Y2 ++ enc f.off = Y := ⟨_, rfl⟩
  have L3 : Y3.length ≤ xs.length + 24 := by rw [← y3, List.length_append]; have := l1 f.off; omega
  have HY1 := Lib.hid y1
  have HY2 := Lib.hid y2
  have HY3 := Lib.hid y3
  have HE := Lib.hid (show xs ++ frT f = Y3 by
    rw [HT.out]
    simp only [encPs, show encP f 105 = enc f.id from rfl, show encP f 111 = enc f.off from rfl, List.append_nil, ← List.append_assoc]
    simp only [y1, y2, y3])
  clear hp ok l1 y1 y2 y3
  have B0 := Lib.hid ((Below.refl w.heap.size w).alloc (Nat.le_refl _) (.cells #[.int .i64 f.kind, .int .i64 f.id, .int .i64 f.off, .bool f.fin, .int .i64 f.code, .slice Ar f.rs.length cr, .slice Ad f.data.length cd] 33))
  have P0 := Lib.hid (h.on B0.out)
  have RR := Lib.hid (hrr.below ((B0.out).mono (Nat.le_of_lt h.lt_size)))
  have DR := Lib.hid (hdr.below ((B0.out).mono (Nat.le_of_lt h.lt_size)))
  have M0 := Lib.hid (mod_below q v B0.out)
  have F0 := Lib.hid (heap_alloc_new w (.cells #[.int .i64 f.kind, .int .i64 f.id, .int .i64 f.off, .bool f.fin, .int .i64 f.code, .slice Ar f.rs.length cr, .slice Ad f.data.length cd] 33))
  have NV0 := Lib.hid (show some w.heap.size ≠ v.ownBlock from fun e => by have := (World.ownsRow.lt h.own _ e.symm).2; omega)
  have BS0 := Lib.hid (Nat.le_trans hbase B0.out.size)
  have hq := h.lt_size
  clear h hrr hdr
  go_enter Tryd.func12, Tryd.ntmps12
  go_wp2_with (first
    | (go_at_call 24; refine (number_pen q base _ Y2 f.off _ P2.out (by omega) (by omega) (by omega) BS2.out).mono ?_; clear c0 c1 c2 c3 c4 c5 c6 cf; rintro e w3 ⟨rfl, v3, p, m⟩; rw [HY3.out] at p; have P3 := Lib.hid p; have M3 := Lib.hid (M2.out.trans m); have BX3 := Lib.hid (m.below P2.out (Nat.le_refl _) (Nat.le_of_lt P2.out.lt_size)); have F3 := Lib.hid (m.keep F2.out (by omega) NV2.out); have NV3 := Lib.hid (m.ne (lt_of_block F2.out) NV2.out); have BS3 := Lib.hid (Nat.le_trans BS2.out m.size); obtain ⟨c0, c1, c2, c3, c4, c5, c6, cf⟩ := blk7 F3.out; clear p m)
    | (go_at_call 24; refine (number_pen q base _ Y1 f.id _ P1.out (by omega) (by omega) (by omega) BS1.out).mono ?_; clear c0 c1 c2 c3 c4 c5 c6 cf; rintro e w2 ⟨rfl, v2, p, m⟩; rw [HY2.out] at p; have P2 := Lib.hid p; have M2 := Lib.hid (M1.out.trans m); have BX2 := Lib.hid (m.below P1.out (Nat.le_refl _) (Nat.le_of_lt P1.out.lt_size)); have F2 := Lib.hid (m.keep F1.out (by omega) NV1.out); have NV2 := Lib.hid (m.ne (lt_of_block F1.out) NV1.out); have BS2 := Lib.hid (Nat.le_trans BS1.out m.size); obtain ⟨c0, c1, c2, c3, c4, c5, c6, cf⟩ := blk7 F2.out; clear p m)
    | (go_at_call 21; refine (kind_pen q base v xs f _ _ _ P0.out hk0.1 (by omega) (by omega) BS0.out ⟨_, rfl⟩).mono ?_; rintro e w1 ⟨rfl, v1, p, m⟩; rw [HY1.out] at p; have P1 := Lib.hid p; have M1 := Lib.hid (M0.out.trans m); have BX1 := Lib.hid (m.below P0.out (Nat.le_refl _) (Nat.le_of_lt P0.out.lt_size)); have F1 := Lib.hid (m.keep F0.out (by omega) NV0.out); have NV1 := Lib.hid (m.ne (lt_of_block F0.out) NV0.out); have BS1 := Lib.hid (Nat.le_trans BS0.out m.size); obtain ⟨c0, c1, c2, c3, c4, c5, c6, cf⟩ := blk7 F1.out; clear p m)
    | (go_at_call 22; refine (hasP_any _ _ _).mono ?_; rintro e w' ⟨rfl, rfl⟩)
    | (go_at_call 18; refine (partsOf_any _ _).mono ?_; rintro e w' ⟨rfl, rfl⟩))
  go_returns
  rw [HE.out]
  exact ⟨rfl, _, P3.out, M3.out⟩
end Go.Proofs.YtjeocggocloigabDoor
/- The pen's frame, where a kind has the parts 'w'. -/
namespace Go.Proofs.YtjeocggocloigabDoor
set_option linter.unusedVariables false
open Go.RowKit P

set_option maxRecDepth 100000 in
set_option maxHeartbeats 2000000 in
theorem penf_w (q base : Nat) (v : Value) (xs : List Int) (f : Fr) (Ar Ad : Option Addr) (cr cd : Nat) (w : World) (h : PenAt w q base v xs) (hrr : RRow w q Ar f.rs) (hrc : f.rs.length ≤ cr) (hrm : cr ≤ maxLen) (hdr : BRow w q Ad f.data) (hdn : Ad = none → cd = 0) (ok : OkF f [119]) (hx : xs.length + 400 ≤ 140737488355328) (hbase : base ≤ w.heap.size) :
    Calls Tryd.prog 12 #[.pointer (some ⟨q, 0, none⟩), .agg #[.int .i64 f.kind, .int .i64 f.id, .int .i64 f.off, .bool f.fin, .int .i64 f.code, .slice Ar f.rs.length cr, .slice Ad f.data.length cd]] w (PenPost q base v (xs ++ frT f) w) := by
  have hp := ok.parts
  obtain ⟨m1, m2, m4, m8, m16, m32, m64, _⟩ := mask_of hp
  have g1 : hasM (maskOf f.kind) 1 = false := m1.trans (by decide)
  have g2 : hasM (maskOf f.kind) 2 = false := m2.trans (by decide)
  have g8 : hasM (maskOf f.kind) 8 = true := m8.trans (by decide)
  have g16 : hasM (maskOf f.kind) 16 = true := m16.trans (by decide)
  have g32 : hasM (maskOf f.kind) 32 = false := m32.trans (by decide)
  have g64 : hasM (maskOf f.kind) 64 = false := m64.trans (by decide)
  clear m1 m2 m4 m8 m16 m32 m64
  have hs : (partsOf f.kind).isSome = true := by rw [hp]; rfl
  have HT := Lib.hid (show frT f = markF f ++ encPs f [119] by unfold frT; rw [hp]; rfl)
  have hk0 : 0 ≤ f.kind ∧ f.kind ≤ 30 := by
    rcases parts_cases hp with ⟨_, c⟩ | ⟨_, c⟩ | ⟨_, c⟩ | ⟨_, c⟩ | ⟨_, c⟩ | ⟨_, c⟩ | ⟨_, c⟩ | ⟨_, c⟩ | ⟨_, c⟩ | ⟨_, c⟩ | ⟨_, c⟩ <;> omega
  have id0 := ok.id0
  have id1 := ok.id1
  have of0 := ok.off0
  have of1 := ok.off1
  have co0 := ok.code0
  have co1 := ok.code1
  have dl := ok.data
  have hcw : IntKind.u64.wrap f.code = f.code := by rw [IntKind.wrap_u64]; omega
  have l1 : ∀ n : Int, (enc n).length ≤ 8 := fun n => by have := enc_len n; have := sz_bd n; omega
  obtain ⟨Y1, y1⟩ : ∃ Y, xs ++ markF f = Y := ⟨_, rfl⟩
  have L1 : Y1.length ≤ xs.length + 8 := by rw [← y1, mark_enc, List.length_append]; have := l1 (mkF f); omega
  obtain ⟨Y2, y2⟩ : ∃ Y, Y1 ++ lowB 8 f.code = Y := ⟨_, rfl⟩
  have L2 : Y2.length ≤ xs.length + 16 := by rw [← y2, List.length_append, lowB_len]; omega
  have HY1 := Lib.hid y1
  have HY2 := Lib.hid y2
  have HE := Lib.hid (show xs ++ frT f = Y2 by
    rw [HT.out]
    simp only [encPs, show encP f 119 = lowB 8 f.code from rfl, List.append_nil, ← List.append_assoc]
    simp only [y1, y2])
  clear hp ok l1 y1 y2
  have B0 := Lib.hid ((Below.refl w.heap.size w).alloc (Nat.le_refl _) (.cells #[.int .i64 f.kind, .int .i64 f.id, .int .i64 f.off, .bool f.fin, .int .i64 f.code, .slice Ar f.rs.length cr, .slice Ad f.data.length cd] 33))
  have P0 := Lib.hid (h.on B0.out)
  have RR := Lib.hid (hrr.below ((B0.out).mono (Nat.le_of_lt h.lt_size)))
  have DR := Lib.hid (hdr.below ((B0.out).mono (Nat.le_of_lt h.lt_size)))
  have M0 := Lib.hid (mod_below q v B0.out)
  have F0 := Lib.hid (heap_alloc_new w (.cells #[.int .i64 f.kind, .int .i64 f.id, .int .i64 f.off, .bool f.fin, .int .i64 f.code, .slice Ar f.rs.length cr, .slice Ad f.data.length cd] 33))
  have NV0 := Lib.hid (show some w.heap.size ≠ v.ownBlock from fun e => by have := (World.ownsRow.lt h.own _ e.symm).2; omega)
  have BS0 := Lib.hid (Nat.le_trans hbase B0.out.size)
  have hq := h.lt_size
  clear h hrr hdr
  go_enter Tryd.func12, Tryd.ntmps12
  go_wp2_with (first
    | (go_at_call 25; refine (word_pen q base _ Y1 f.code _ P1.out (by omega) (by omega) (by omega) BS1.out).mono ?_; clear c0 c1 c2 c3 c4 c5 c6 cf; rintro e w2 ⟨rfl, v2, p, m⟩; rw [HY2.out] at p; have P2 := Lib.hid p; have M2 := Lib.hid (M1.out.trans m); have BX2 := Lib.hid (m.below P1.out (Nat.le_refl _) (Nat.le_of_lt P1.out.lt_size)); have F2 := Lib.hid (m.keep F1.out (by omega) NV1.out); have NV2 := Lib.hid (m.ne (lt_of_block F1.out) NV1.out); have BS2 := Lib.hid (Nat.le_trans BS1.out m.size); obtain ⟨c0, c1, c2, c3, c4, c5, c6, cf⟩ := blk7 F2.out; clear p m)
    | (go_at_call 21; refine (kind_pen q base v xs f _ _ _ P0.out hk0.1 (by omega) (by omega) BS0.out ⟨_, rfl⟩).mono ?_; rintro e w1 ⟨rfl, v1, p, m⟩; rw [HY1.out] at p; have P1 := Lib.hid p; have M1 := Lib.hid (M0.out.trans m); have BX1 := Lib.hid (m.below P0.out (Nat.le_refl _) (Nat.le_of_lt P0.out.lt_size)); have F1 := Lib.hid (m.keep F0.out (by omega) NV0.out); have NV1 := Lib.hid (m.ne (lt_of_block F0.out) NV0.out); have BS1 := Lib.hid (Nat.le_trans BS0.out m.size); obtain ⟨c0, c1, c2, c3, c4, c5, c6, cf⟩ := blk7 F1.out; clear p m)
    | (go_at_call 22; refine (hasP_any _ _ _).mono ?_; rintro e w' ⟨rfl, rfl⟩)
    | (go_at_call 18; refine (partsOf_any _ _).mono ?_; rintro e w' ⟨rfl, rfl⟩))
  go_returns
  rw [HE.out]
  exact ⟨rfl, _, P2.out, M2.out⟩
end Go.Proofs.YtjeocggocloigabDoor
/- The pen's frame, where a kind has the parts 'c'. -/
namespace Go.Proofs.YtjeocggocloigabDoor
set_option linter.unusedVariables false
open Go.RowKit P

set_option maxRecDepth 100000 in
set_option maxHeartbeats 2000000 in
theorem penf_c (q base : Nat) (v : Value) (xs : List Int) (f : Fr) (Ar Ad : Option Addr) (cr cd : Nat) (w : World) (h : PenAt w q base v xs) (hrr : RRow w q Ar f.rs) (hrc : f.rs.length ≤ cr) (hrm : cr ≤ maxLen) (hdr : BRow w q Ad f.data) (hdn : Ad = none → cd = 0) (ok : OkF f [99]) (hx : xs.length + 400 ≤ 140737488355328) (hbase : base ≤ w.heap.size) :
    Calls Tryd.prog 12 #[.pointer (some ⟨q, 0, none⟩), .agg #[.int .i64 f.kind, .int .i64 f.id, .int .i64 f.off, .bool f.fin, .int .i64 f.code, .slice Ar f.rs.length cr, .slice Ad f.data.length cd]] w (PenPost q base v (xs ++ frT f) w) := by
  have hp := ok.parts
  obtain ⟨m1, m2, m4, m8, m16, m32, m64, _⟩ := mask_of hp
  have g1 : hasM (maskOf f.kind) 1 = false := m1.trans (by decide)
  have g2 : hasM (maskOf f.kind) 2 = false := m2.trans (by decide)
  have g8 : hasM (maskOf f.kind) 8 = true := m8.trans (by decide)
  have g16 : hasM (maskOf f.kind) 16 = false := m16.trans (by decide)
  have g32 : hasM (maskOf f.kind) 32 = false := m32.trans (by decide)
  have g64 : hasM (maskOf f.kind) 64 = false := m64.trans (by decide)
  clear m1 m2 m4 m8 m16 m32 m64
  have hs : (partsOf f.kind).isSome = true := by rw [hp]; rfl
  have HT := Lib.hid (show frT f = markF f ++ encPs f [99] by unfold frT; rw [hp]; rfl)
  have hk0 : 0 ≤ f.kind ∧ f.kind ≤ 30 := by
    rcases parts_cases hp with ⟨_, c⟩ | ⟨_, c⟩ | ⟨_, c⟩ | ⟨_, c⟩ | ⟨_, c⟩ | ⟨_, c⟩ | ⟨_, c⟩ | ⟨_, c⟩ | ⟨_, c⟩ | ⟨_, c⟩ | ⟨_, c⟩ <;> omega
  have id0 := ok.id0
  have id1 := ok.id1
  have of0 := ok.off0
  have of1 := ok.off1
  have co0 := ok.code0
  have co1 := ok.code1
  have dl := ok.data
  have l1 : ∀ n : Int, (enc n).length ≤ 8 := fun n => by have := enc_len n; have := sz_bd n; omega
  obtain ⟨Y1, y1⟩ : ∃ Y, xs ++ markF f = Y := ⟨_, rfl⟩
  have L1 : Y1.length ≤ xs.length + 8 := by rw [← y1, mark_enc, List.length_append]; have := l1 (mkF f); omega
  obtain ⟨Y2, y2⟩ : ∃ Y, Y1 ++ enc f.code = Y := ⟨_, rfl⟩
  have L2 : Y2.length ≤ xs.length + 16 := by rw [← y2, List.length_append]; have := l1 f.code; omega
  have HY1 := Lib.hid y1
  have HY2 := Lib.hid y2
  have HE := Lib.hid (show xs ++ frT f = Y2 by
    rw [HT.out]
    simp only [encPs, show encP f 99 = enc f.code from rfl, List.append_nil, ← List.append_assoc]
    simp only [y1, y2])
  clear hp ok l1 y1 y2
  have B0 := Lib.hid ((Below.refl w.heap.size w).alloc (Nat.le_refl _) (.cells #[.int .i64 f.kind, .int .i64 f.id, .int .i64 f.off, .bool f.fin, .int .i64 f.code, .slice Ar f.rs.length cr, .slice Ad f.data.length cd] 33))
  have P0 := Lib.hid (h.on B0.out)
  have RR := Lib.hid (hrr.below ((B0.out).mono (Nat.le_of_lt h.lt_size)))
  have DR := Lib.hid (hdr.below ((B0.out).mono (Nat.le_of_lt h.lt_size)))
  have M0 := Lib.hid (mod_below q v B0.out)
  have F0 := Lib.hid (heap_alloc_new w (.cells #[.int .i64 f.kind, .int .i64 f.id, .int .i64 f.off, .bool f.fin, .int .i64 f.code, .slice Ar f.rs.length cr, .slice Ad f.data.length cd] 33))
  have NV0 := Lib.hid (show some w.heap.size ≠ v.ownBlock from fun e => by have := (World.ownsRow.lt h.own _ e.symm).2; omega)
  have BS0 := Lib.hid (Nat.le_trans hbase B0.out.size)
  have hq := h.lt_size
  clear h hrr hdr
  go_enter Tryd.func12, Tryd.ntmps12
  go_wp2_with (first
    | (go_at_call 24; refine (number_pen q base _ Y1 f.code _ P1.out (by omega) (by omega) (by omega) BS1.out).mono ?_; clear c0 c1 c2 c3 c4 c5 c6 cf; rintro e w2 ⟨rfl, v2, p, m⟩; rw [HY2.out] at p; have P2 := Lib.hid p; have M2 := Lib.hid (M1.out.trans m); have BX2 := Lib.hid (m.below P1.out (Nat.le_refl _) (Nat.le_of_lt P1.out.lt_size)); have F2 := Lib.hid (m.keep F1.out (by omega) NV1.out); have NV2 := Lib.hid (m.ne (lt_of_block F1.out) NV1.out); have BS2 := Lib.hid (Nat.le_trans BS1.out m.size); obtain ⟨c0, c1, c2, c3, c4, c5, c6, cf⟩ := blk7 F2.out; clear p m)
    | (go_at_call 21; refine (kind_pen q base v xs f _ _ _ P0.out hk0.1 (by omega) (by omega) BS0.out ⟨_, rfl⟩).mono ?_; rintro e w1 ⟨rfl, v1, p, m⟩; rw [HY1.out] at p; have P1 := Lib.hid p; have M1 := Lib.hid (M0.out.trans m); have BX1 := Lib.hid (m.below P0.out (Nat.le_refl _) (Nat.le_of_lt P0.out.lt_size)); have F1 := Lib.hid (m.keep F0.out (by omega) NV0.out); have NV1 := Lib.hid (m.ne (lt_of_block F0.out) NV0.out); have BS1 := Lib.hid (Nat.le_trans BS0.out m.size); obtain ⟨c0, c1, c2, c3, c4, c5, c6, cf⟩ := blk7 F1.out; clear p m)
    | (go_at_call 22; refine (hasP_any _ _ _).mono ?_; rintro e w' ⟨rfl, rfl⟩)
    | (go_at_call 18; refine (partsOf_any _ _).mono ?_; rintro e w' ⟨rfl, rfl⟩))
  go_returns
  rw [HE.out]
  exact ⟨rfl, _, P2.out, M2.out⟩
end Go.Proofs.YtjeocggocloigabDoor
/- The pen's frame, whatever the kind; contract of package frame: Encode. -/
namespace Go.Proofs.YtjeocggocloigabDoor
set_option linter.unusedVariables false
open Go.RowKit P

theorem frame_pen (q base : Nat) (v : Value) (xs : List Int) (f : Fr) (Ar Ad : Option Addr) (cr cd : Nat) (w : World) (h : PenAt w q base v xs) (hrr : RRow w q Ar f.rs) (hrc : f.rs.length ≤ cr) (hrm : cr ≤ maxLen) (hdr : BRow w q Ad f.data) (hdn : Ad = none → cd = 0) (hf : faultF f = 0) (hx : xs.length + 400 ≤ 140737488355328) (hbase : base ≤ w.heap.size) :
    Calls Tryd.prog 12 #[.pointer (some ⟨q, 0, none⟩), .agg #[.int .i64 f.kind, .int .i64 f.id, .int .i64 f.off, .bool f.fin, .int .i64 f.code, .slice Ar f.rs.length cr, .slice Ad f.data.length cd]] w (PenPost q base v (xs ++ frT f) w) := by
  obtain ⟨ps, ok⟩ := okF_of hf
  rcases parts_cases ok.parts with ⟨rfl, _⟩ | ⟨rfl, _⟩ | ⟨rfl, _⟩ | ⟨rfl, _⟩ | ⟨rfl, _⟩ | ⟨rfl, _⟩ | ⟨rfl, _⟩ | ⟨rfl, _⟩ | ⟨rfl, _⟩ | ⟨rfl, _⟩ | ⟨rfl, _⟩
  · exact penf_non q base v xs f Ar Ad cr cd w h hrr hrc hrm hdr hdn ok hx hbase
  · exact penf_r q base v xs f Ar Ad cr cd w h hrr hrc hrm hdr hdn ok hx hbase
  · exact penf_ioc q base v xs f Ar Ad cr cd w h hrr hrc hrm hdr hdn ok hx hbase
  · exact penf_ic q base v xs f Ar Ad cr cd w h hrr hrc hrm hdr hdn ok hx hbase
  · exact penf_od q base v xs f Ar Ad cr cd w h hrr hrc hrm hdr hdn ok hx hbase
  · exact penf_d q base v xs f Ar Ad cr cd w h hrr hrc hrm hdr hdn ok hx hbase
  · exact penf_iodf q base v xs f Ar Ad cr cd w h hrr hrc hrm hdr hdn ok hx hbase
  · exact penf_o q base v xs f Ar Ad cr cd w h hrr hrc hrm hdr hdn ok hx hbase
  · exact penf_io q base v xs f Ar Ad cr cd w h hrr hrc hrm hdr hdn ok hx hbase
  · exact penf_w q base v xs f Ar Ad cr cd w h hrr hrc hrm hdr hdn ok hx hbase
  · exact penf_c q base v xs f Ar Ad cr cd w h hrr hrc hrm hdr hdn ok hx hbase

/-- bytes of the call's own, and no error -/
def EncFrPost (ys : List Int) (w : World) (e : Ending) (w' : World) : Prop :=
  ∃ A c, e = .returned (.tuple #[.slice A ys.length c, .int .i64 0]) ∧ w'.ownsRow w.heap.size 5 1 (.slice A ys.length c) ys.length (ys.map (.int .u8)) ∧ Byt ys ∧ Below w.heap.size w w'
theorem encodeFr_no (v : Value) (f : Fr) (w : World) (h : FrVal w w.heap.size v f) (hf : faultF f ≠ 0) :
    Calls Tryd.prog 6 #[v] w fun e w' => e = .returned (.tuple #[.slice none 0 0, .int .i64 (faultF f)]) ∧ Below w.heap.size w w' := by
  obtain ⟨r, d, rfl, hr, hd⟩ := h.ex
  have HW := Lib.hid ((Below.refl w.heap.size w).alloc (Nat.le_refl _) (.cells #[.int .i64 f.kind, .int .i64 f.id, .int .i64 f.off, .bool f.fin, .int .i64 f.code, r, d] 33))
  have HV := Lib.hid (h.on HW.out)
  obtain ⟨x, hx⟩ : ∃ x, faultF f = x := ⟨_, rfl⟩
  have HX := Lib.hid hx
  rw [hx] at hf ⊢
  have g : (x != 0) = true := by simp [hf]
  clear h hr hd hx hf
  go_enter Tryd.func6, Tryd.ntmps6
  go_wp2_with (go_at_call 11; refine (frCheck_any _ _ _ HV.out).mono ?_; rintro e w1 ⟨rfl, hb1⟩; rw [HX.out]; have HB1 := Lib.hid (HW.out.trans (hb1.mono HW.out.size)); clear hb1)
  go_ret2
  exact ⟨rfl, HB1.out⟩
set_option maxRecDepth 100000 in
set_option maxHeartbeats 1000000 in
theorem encodeFr_yes (v : Value) (f : Fr) (w : World) (h : FrVal w w.heap.size v f) (hf : faultF f = 0) (ht : Tab w) :
    Calls Tryd.prog 6 #[v] w (EncFrPost (frT f) w) := by
  obtain ⟨r, d, rfl, hr, hd⟩ := h.ex
  obtain ⟨Ar, cr, hr1, hrc, hrm, hrr⟩ := hr.ex
  subst hr1
  obtain ⟨Ad, cd, hd1, hdc, hdm, hdn, hdr⟩ := hd.ex
  subst hd1
  have HW := Lib.hid ((Below.refl w.heap.size w).alloc (Nat.le_refl _) (.cells #[.int .i64 f.kind, .int .i64 f.id, .int .i64 f.off, .bool f.fin, .int .i64 f.code, .slice Ar f.rs.length cr, .slice Ad f.data.length cd] 33))
  have HV := Lib.hid (h.on HW.out)
  have HX := Lib.hid hf
  have HT := Lib.hid ht
  have RR := Lib.hid hrr
  have DR := Lib.hid hdr
  have DN := Lib.hid hdn
  clear h hr hd hf ht hrr hdr hdn
  go_enter Tryd.func6, Tryd.ntmps6
  go_wp2_with (first
    | (go_at_call 11; refine (frCheck_any _ _ _ HV.out).mono ?_; rintro e w1 ⟨rfl, hb1⟩; rw [HX.out]; have F1 := Lib.hid ((hb1.block _ (by simp)).trans (heap_alloc_new w _)); obtain ⟨c0, c1, c2, c3, c4, c5, c6, cf⟩ := blk7 ((hb1.block w.heap.size (by simp)).trans (heap_alloc_new w (.cells #[.int .i64 f.kind, .int .i64 f.id, .int .i64 f.off, .bool f.fin, .int .i64 f.code, .slice Ar f.rs.length cr, .slice Ad f.data.length cd] 33))); have hww : w.heap.size < w1.heap.size := World.block_lt_of_cell? w1 _ c0; have HB1 := Lib.hid (HW.out.trans (hb1.mono HW.out.size)); have PB := Lib.hid ((Below.refl w1.heap.size w1).alloc (Nat.le_refl _) (.cells #[.slice none 0 0] 43)); obtain ⟨c0, c1, c2, c3, c4, c5, c6, cf⟩ := blk7 ((PB.out.block w.heap.size hww).trans ((hb1.block w.heap.size (by simp)).trans (heap_alloc_new w (.cells #[.int .i64 f.kind, .int .i64 f.id, .int .i64 f.off, .bool f.fin, .int .i64 f.code, .slice Ar f.rs.length cr, .slice Ad f.data.length cd] 33)))); clear hb1)
    | (go_at_call 12; refine (frame_pen w1.heap.size (w1.heap.size + 1) (.slice none 0 0) [] f Ar Ad cr cd _ ⟨heap_alloc_new w1 _, World.ownsRow_nil _ _ _ _, Nat.lt_succ_self _, Byt.nil, (HT.out.below HB1.out).below PB.out, Nat.lt_of_lt_of_le HT.out.lt HB1.out.size⟩ ((((RR.out.below HB1.out).more HB1.out.size).below PB.out)) hrc hrm ((((DR.out.below HB1.out).more HB1.out.size).below PB.out)) DN.out HX.out (by simp) (by simp)).mono ?_; rintro e w2 ⟨rfl, v2, p2, m2⟩; have P2 := Lib.hid p2; have B2 := Lib.hid (HB1.out.trans ((PB.out.trans (m2.below ⟨heap_alloc_new w1 _, World.ownsRow_nil _ _ _ _, Nat.lt_succ_self _, Byt.nil, (HT.out.below HB1.out).below PB.out, Nat.lt_of_lt_of_le HT.out.lt HB1.out.size⟩ (Nat.le_refl _) (Nat.le_of_lt (lt_of_block (heap_alloc_new w1 (.cells #[.slice none 0 0] 43)))))).mono HB1.out.size)); have k0 := cell_of_one p2.blk; clear p2 m2))
  have o := P2.out.own
  have hby := P2.out.byt
  rw [List.nil_append] at o hby
  have hsz := HB1.out.size
  obtain ⟨A2, c2, hv, _, _⟩ := own_slice o
  subst hv
  go_ret2
  exact ⟨A2, c2, rfl, own_base o (by omega), hby, B2.out⟩
end Go.Proofs.YtjeocggocloigabDoor
