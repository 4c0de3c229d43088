/- Texts of the proofs, joined. -/
import Derived.Test.YtjeocggocloigabDoorQI
import Derived.Test.YtjeocggocloigabDoorQD
/- The pen's frame, where a kind has the parts 'non'. -/
namespace Go.Proofs.YtjeocggocloigabDoor
set_option linter.unusedVariables false
open Go.RowKit P

set_option maxRecDepth 100000 in
set_option maxHeartbeats 2000000 in
theorem penf_non (q base : Nat) (v : Value) (xs : List Int) (f : Fr) (Ar Ad : Option Addr) (cr cd : Nat) (w : World) (h : PenAt w q base v xs) (hrr : RRow w q Ar f.rs) (hrc : f.rs.length ≤ cr) (hrm : cr ≤ maxLen) (hdr : BRow w q Ad f.data) (hdn : Ad = none → cd = 0) (ok : OkF f []) (hx : xs.length + 400 ≤ 140737488355328) (hbase : base ≤ w.heap.size) :
    Calls Tryd.prog 12 #[.pointer (some ⟨q, 0, none⟩), .agg #[.int .i64 f.kind, .int .i64 f.id, .int .i64 f.off, .bool f.fin, .int .i64 f.code, .slice Ar f.rs.length cr, .slice Ad f.data.length cd]] w (PenPost q base v (xs ++ frT f) w) := by
  have hp := ok.parts
  obtain ⟨m1, m2, m4, m8, m16, m32, m64, _⟩ := mask_of hp
  have g1 : hasM (maskOf f.kind) 1 = false := m1.trans (by decide)
  have g2 : hasM (maskOf f.kind) 2 = false := m2.trans (by decide)
  have g8 : hasM (maskOf f.kind) 8 = false := m8.trans (by decide)
  have g16 : hasM (maskOf f.kind) 16 = false := m16.trans (by decide)
  have g32 : hasM (maskOf f.kind) 32 = false := m32.trans (by decide)
  have g64 : hasM (maskOf f.kind) 64 = false := m64.trans (by decide)
  clear m1 m2 m4 m8 m16 m32 m64
  have hs : (partsOf f.kind).isSome = true := by rw [hp]; rfl
  have HT := Lib.hid (show frT f = markF f ++ encPs f [] by unfold frT; rw [hp]; rfl)
  have hk0 : 0 ≤ f.kind ∧ f.kind ≤ 30 := by
    rcases parts_cases hp with ⟨_, c⟩ | ⟨_, c⟩ | ⟨_, c⟩ | ⟨_, c⟩ | ⟨_, c⟩ | ⟨_, c⟩ | ⟨_, c⟩ | ⟨_, c⟩ | ⟨_, c⟩ | ⟨_, c⟩ | ⟨_, c⟩ <;> omega
  have id0 := ok.id0
  have id1 := ok.id1
  have of0 := ok.off0
  have of1 := ok.off1
  have co0 := ok.code0
  have co1 := ok.code1
  have dl := ok.data
  have l1 : ∀ n : Int, (enc n).length ≤ 8 := fun n => by have := enc_len n; have := sz_bd n; omega
  obtain ⟨Y1, y1⟩ : ∃ Y, xs ++ markF f = Y := ⟨_, rfl⟩
  have L1 : Y1.length ≤ xs.length + 8 := by rw [← y1, mark_enc, List.length_append]; have := l1 (mkF f); omega
  have HY1 := Lib.hid y1
  have HE := Lib.hid (show xs ++ frT f = Y1 by
    rw [HT.out]
    simp only [encPs, List.append_nil, ← List.append_assoc]
    simp only [y1])
  clear hp ok l1 y1
  have B0 := Lib.hid ((Below.refl w.heap.size w).alloc (Nat.le_refl _) (.cells #[.int .i64 f.kind, .int .i64 f.id, .int .i64 f.off, .bool f.fin, .int .i64 f.code, .slice Ar f.rs.length cr, .slice Ad f.data.length cd] 33))
  have P0 := Lib.hid (h.on B0.out)
  have RR := Lib.hid (hrr.below ((B0.out).mono (Nat.le_of_lt h.lt_size)))
  have DR := Lib.hid (hdr.below ((B0.out).mono (Nat.le_of_lt h.lt_size)))
  have M0 := Lib.hid (mod_below q v B0.out)
  have F0 := Lib.hid (heap_alloc_new w (.cells #[.int .i64 f.kind, .int .i64 f.id, .int .i64 f.off, .bool f.fin, .int .i64 f.code, .slice Ar f.rs.length cr, .slice Ad f.data.length cd] 33))
  have NV0 := Lib.hid (show some w.heap.size ≠ v.ownBlock from fun e => by have := (World.ownsRow.lt h.own _ e.symm).2; omega)
  have BS0 := Lib.hid (Nat.le_trans hbase B0.out.size)
  have hq := h.lt_size
  clear h hrr hdr
  go_enter Tryd.func12, Tryd.ntmps12
  go_wp2_with (first
    | (go_at_call 21; refine (kind_pen q base v xs f _ _ _ P0.out hk0.1 (by omega) (by omega) BS0.out ⟨_, rfl⟩).mono ?_; rintro e w1 ⟨rfl, v1, p, m⟩; rw [HY1.out] at p; have P1 := Lib.hid p; have M1 := Lib.hid (M0.out.trans m); have BX1 := Lib.hid (m.below P0.out (Nat.le_refl _) (Nat.le_of_lt P0.out.lt_size)); have F1 := Lib.hid (m.keep F0.out (by omega) NV0.out); have NV1 := Lib.hid (m.ne (lt_of_block F0.out) NV0.out); have BS1 := Lib.hid (Nat.le_trans BS0.out m.size); obtain ⟨c0, c1, c2, c3, c4, c5, c6, cf⟩ := blk7 F1.out; clear p m)
    | (go_at_call 22; refine (hasP_any _ _ _).mono ?_; rintro e w' ⟨rfl, rfl⟩)
    | (go_at_call 18; refine (partsOf_any _ _).mono ?_; rintro e w' ⟨rfl, rfl⟩))
  go_returns
  rw [HE.out]
  exact ⟨rfl, _, P1.out, M1.out⟩
end Go.Proofs.YtjeocggocloigabDoor
/- The pen's frame, where a kind has the parts 'r'. -/
namespace Go.Proofs.YtjeocggocloigabDoor
set_option linter.unusedVariables false
open Go.RowKit P

set_option maxRecDepth 100000 in
set_option maxHeartbeats 2000000 in
theorem penf_r (q base : Nat) (v : Value) (xs : List Int) (f : Fr) (Ar Ad : Option Addr) (cr cd : Nat) (w : World) (h : PenAt w q base v xs) (hrr : RRow w q Ar f.rs) (hrc : f.rs.length ≤ cr) (hrm : cr ≤ maxLen) (hdr : BRow w q Ad f.data) (hdn : Ad = none → cd = 0) (ok : OkF f [114]) (hx : xs.length + 400 ≤ 140737488355328) (hbase : base ≤ w.heap.size) :
    Calls Tryd.prog 12 #[.pointer (some ⟨q, 0, none⟩), .agg #[.int .i64 f.kind, .int .i64 f.id, .int .i64 f.off, .bool f.fin, .int .i64 f.code, .slice Ar f.rs.length cr, .slice Ad f.data.length cd]] w (PenPost q base v (xs ++ frT f) w) := by
  have hp := ok.parts
  obtain ⟨m1, m2, m4, m8, m16, m32, m64, _⟩ := mask_of hp
  have g1 : hasM (maskOf f.kind) 1 = false := m1.trans (by decide)
  have g2 : hasM (maskOf f.kind) 2 = false := m2.trans (by decide)
  have g8 : hasM (maskOf f.kind) 8 = false := m8.trans (by decide)
  have g16 : hasM (maskOf f.kind) 16 = false := m16.trans (by decide)
  have g32 : hasM (maskOf f.kind) 32 = false := m32.trans (by decide)
  have g64 : hasM (maskOf f.kind) 64 = true := m64.trans (by decide)
  clear m1 m2 m4 m8 m16 m32 m64
  have hs : (partsOf f.kind).isSome = true := by rw [hp]; rfl
  have HT := Lib.hid (show frT f = markF f ++ encPs f [114] by unfold frT; rw [hp]; rfl)
  have hk0 : 0 ≤ f.kind ∧ f.kind ≤ 30 := by
    rcases parts_cases hp with ⟨_, c⟩ | ⟨_, c⟩ | ⟨_, c⟩ | ⟨_, c⟩ | ⟨_, c⟩ | ⟨_, c⟩ | ⟨_, c⟩ | ⟨_, c⟩ | ⟨_, c⟩ | ⟨_, c⟩ | ⟨_, c⟩ <;> omega
  have id0 := ok.id0
  have id1 := ok.id1
  have of0 := ok.off0
  have of1 := ok.off1
  have co0 := ok.code0
  have co1 := ok.code1
  have dl := ok.data
  have rl6 := ok.rs
  have rl0 := ok.rsy (by decide)
  have HDN := Lib.hid ok.down
  have l1 : ∀ n : Int, (enc n).length ≤ 8 := fun n => by have := enc_len n; have := sz_bd n; omega
  obtain ⟨Y1, y1⟩ : ∃ Y, xs ++ markF f = Y := ⟨_, rfl⟩
  have L1 : Y1.length ≤ xs.length + 8 := by rw [← y1, mark_enc, List.length_append]; have := l1 (mkF f); omega
  obtain ⟨Y2, y2⟩ : ∃ Y, Y1 ++ encR f.rs = Y := ⟨_, rfl⟩
  have HY1 := Lib.hid y1
  have HY2 := Lib.hid y2
  have HE := Lib.hid (show xs ++ frT f = Y2 by
    rw [HT.out]
    simp only [encPs, show encP f 114 = encR f.rs from rfl, List.append_nil, ← List.append_assoc]
    simp only [y1, y2])
  clear hp ok l1 y1 y2
  have B0 := Lib.hid ((Below.refl w.heap.size w).alloc (Nat.le_refl _) (.cells #[.int .i64 f.kind, .int .i64 f.id, .int .i64 f.off, .bool f.fin, .int .i64 f.code, .slice Ar f.rs.length cr, .slice Ad f.data.length cd] 33))
  have P0 := Lib.hid (h.on B0.out)
  have RR := Lib.hid (hrr.below ((B0.out).mono (Nat.le_of_lt h.lt_size)))
  have DR := Lib.hid (hdr.below ((B0.out).mono (Nat.le_of_lt h.lt_size)))
  have M0 := Lib.hid (mod_below q v B0.out)
  have F0 := Lib.hid (heap_alloc_new w (.cells #[.int .i64 f.kind, .int .i64 f.id, .int .i64 f.off, .bool f.fin, .int .i64 f.code, .slice Ar f.rs.length cr, .slice Ad f.data.length cd] 33))
  have NV0 := Lib.hid (show some w.heap.size ≠ v.ownBlock from fun e => by have := (World.ownsRow.lt h.own _ e.symm).2; omega)
  have BS0 := Lib.hid (Nat.le_trans hbase B0.out.size)
  have hq := h.lt_size
  clear h hrr hdr
  go_enter Tryd.func12, Tryd.ntmps12
  go_wp2_with (first
    | (go_at_call 23; refine (ranges_pen q base _ Y1 Ar cr f.rs _ P1.out (RR.out.below BX1.out) HDN.out rl0 rl6 hrc hrm (by omega) BS1.out).mono ?_; clear c0 c1 c2 c3 c4 c5 c6 cf; rintro e w2 ⟨rfl, v2, p, m⟩; rw [HY2.out] at p; have P2 := Lib.hid p; have M2 := Lib.hid (M1.out.trans m); have BX2 := Lib.hid (m.below P1.out (Nat.le_refl _) (Nat.le_of_lt P1.out.lt_size)); have F2 := Lib.hid (m.keep F1.out (by omega) NV1.out); have NV2 := Lib.hid (m.ne (lt_of_block F1.out) NV1.out); have BS2 := Lib.hid (Nat.le_trans BS1.out m.size); obtain ⟨c0, c1, c2, c3, c4, c5, c6, cf⟩ := blk7 F2.out; clear p m)
    | (go_at_call 21; refine (kind_pen q base v xs f _ _ _ P0.out hk0.1 (by omega) (by omega) BS0.out ⟨_, rfl⟩).mono ?_; rintro e w1 ⟨rfl, v1, p, m⟩; rw [HY1.out] at p; have P1 := Lib.hid p; have M1 := Lib.hid (M0.out.trans m); have BX1 := Lib.hid (m.below P0.out (Nat.le_refl _) (Nat.le_of_lt P0.out.lt_size)); have F1 := Lib.hid (m.keep F0.out (by omega) NV0.out); have NV1 := Lib.hid (m.ne (lt_of_block F0.out) NV0.out); have BS1 := Lib.hid (Nat.le_trans BS0.out m.size); obtain ⟨c0, c1, c2, c3, c4, c5, c6, cf⟩ := blk7 F1.out; clear p m)
    | (go_at_call 22; refine (hasP_any _ _ _).mono ?_; rintro e w' ⟨rfl, rfl⟩)
    | (go_at_call 18; refine (partsOf_any _ _).mono ?_; rintro e w' ⟨rfl, rfl⟩))
  go_returns
  rw [HE.out]
  exact ⟨rfl, _, P2.out, M2.out⟩
end Go.Proofs.YtjeocggocloigabDoor
/- The pen's frame, where a kind has the parts 'ioc'. -/
namespace Go.Proofs.YtjeocggocloigabDoor
set_option linter.unusedVariables false
open Go.RowKit P

set_option maxRecDepth 100000 in
set_option maxHeartbeats 2000000 in
theorem penf_ioc (q base : Nat) (v : Value) (xs : List Int) (f : Fr) (Ar Ad : Option Addr) (cr cd : Nat) (w : World) (h : PenAt w q base v xs) (hrr : RRow w q Ar f.rs) (hrc : f.rs.length ≤ cr) (hrm : cr ≤ maxLen) (hdr : BRow w q Ad f.data) (hdn : Ad = none → cd = 0) (ok : OkF f [105, 111, 99]) (hx : xs.length + 400 ≤ 140737488355328) (hbase : base ≤ w.heap.size) :
    Calls Tryd.prog 12 #[.pointer (some ⟨q, 0, none⟩), .agg #[.int .i64 f.kind, .int .i64 f.id, .int .i64 f.off, .bool f.fin, .int .i64 f.code, .slice Ar f.rs.length cr, .slice Ad f.data.length cd]] w (PenPost q base v (xs ++ frT f) w) := by
  have hp := ok.parts
  obtain ⟨m1, m2, m4, m8, m16, m32, m64, _⟩ := mask_of hp
  have g1 : hasM (maskOf f.kind) 1 = true := m1.trans (by decide)
  have g2 : hasM (maskOf f.kind) 2 = true := m2.trans (by decide)
  have g8 : hasM (maskOf f.kind) 8 = true := m8.trans (by decide)
  have g16 : hasM (maskOf f.kind) 16 = false := m16.trans (by decide)
  have g32 : hasM (maskOf f.kind) 32 = false := m32.trans (by decide)
  have g64 : hasM (maskOf f.kind) 64 = false := m64.trans (by decide)
  clear m1 m2 m4 m8 m16 m32 m64
  have hs : (partsOf f.kind).isSome = true := by rw [hp]; rfl
  have HT := Lib.hid (show frT f = markF f ++ encPs f [105, 111, 99] by unfold frT; rw [hp]; rfl)
  have hk0 : 0 ≤ f.kind ∧ f.kind ≤ 30 := by
    rcases parts_cases hp with ⟨_, c⟩ | ⟨_, c⟩ | ⟨_, c⟩ | ⟨_, c⟩ | ⟨_, c⟩ | ⟨_, c⟩ | ⟨_, c⟩ | ⟨_, c⟩ | ⟨_, c⟩ | ⟨_, c⟩ | ⟨_, c⟩ <;> omega
  have id0 := ok.id0
  have id1 := ok.id1
  have of0 := ok.off0
  have of1 := ok.off1
  have co0 := ok.code0
  have co1 := ok.code1
  have dl := ok.data
  have l1 : ∀ n : Int, (enc n).length ≤ 8 := fun n => by have := enc_len n; have := sz_bd n; omega
  obtain ⟨Y1, y1⟩ : ∃ Y, xs ++ markF f = Y := ⟨_, rfl⟩
  have L1 : Y1.length ≤ xs.length + 8 := by rw [← y1, mark_enc, List.length_append]; have := l1 (mkF f); omega
  obtain ⟨Y2, y2⟩ : ∃ Y, Y1 ++ enc f.id = Y := ⟨_, rfl⟩
  have L2 : Y2.length ≤ xs.length + 16 := by rw [← y2, List.length_append]; have := l1 f.id; omega
  obtain ⟨Y3, y3⟩ : ∃ Y, Y2 ++ enc f.off = Y := ⟨_, rfl⟩
  have L3 : Y3.length ≤ xs.length + 24 := by rw [← y3, List.length_append]; have := l1 f.off; omega
  obtain ⟨Y4, y4⟩ : ∃ Y, Y3 ++ enc f.code = Y := ⟨_, rfl⟩
  have L4 : Y4.length ≤ xs.length + 32 := by rw [← y4, List.length_append]; have := l1 f.code; omega
  have HY1 := Lib.hid y1
  have HY2 := Lib.hid y2
  have HY3 := Lib.hid y3
  have HY4 := Lib.hid y4
  have HE := Lib.hid (show xs ++ frT f = Y4 by
    rw [HT.out]
    simp only [encPs, show encP f 105 = enc f.id from rfl, show encP f 111 = enc f.off from rfl, show encP f 99 = enc f.code from rfl, List.append_nil, ← List.append_assoc]
    simp only [y1, y2, y3, y4])
  clear hp ok l1 y1 y2 y3 y4
  have B0 := Lib.hid ((Below.refl w.heap.size w).alloc (Nat.le_refl _) (.cells #[.int .i64 f.kind, .int .i64 f.id, .int .i64 f.off, .bool f.fin, .int .i64 f.code, .slice Ar f.rs.length cr, .slice Ad f.data.length cd] 33))
  have P0 := Lib.hid (h.on B0.out)
  have RR := Lib.hid (hrr.below ((B0.out).mono (Nat.le_of_lt h.lt_size)))
  have DR := Lib.hid (hdr.below ((B0.out).mono (Nat.le_of_lt h.lt_size)))
  have M0 := Lib.hid (mod_below q v B0.out)
  have F0 := Lib.hid (heap_alloc_new w (.cells #[.int .i64 f.kind, .int .i64 f.id, .int .i64 f.off, .bool f.fin, .int .i64 f.code, .slice Ar f.rs.length cr, .slice Ad f.data.length cd] 33))
  have NV0 := Lib.hid (show some w.heap.size ≠ v.ownBlock from fun e => by have := (World.ownsRow.lt h.own _ e.symm).2; omega)
  have BS0 := Lib.hid (Nat.le_trans hbase B0.out.size)
  have hq := h.lt_size
  clear h hrr hdr
  go_enter Tryd.func12, Tryd.ntmps12
  go_wp2_with (first
    | (go_at_call 24; refine (number_pen q base _ Y3 f.code _ P3.out (by omega) (by omega) (by omega) BS3.out).mono ?_; clear c0 c1 c2 c3 c4 c5 c6 cf; rintro e w4 ⟨rfl, v4, p, m⟩; rw [HY4.out] at p; have P4 := Lib.hid p; have M4 := Lib.hid (M3.out.trans m); have BX4 := Lib.hid (m.below P3.out (Nat.le_refl _) (Nat.le_of_lt P3.out.lt_size)); have F4 := Lib.hid (m.keep F3.out (by omega) NV3.out); have NV4 := Lib.hid (m.ne (lt_of_block F3.out) NV3.out); have BS4 := Lib.hid (Nat.le_trans BS3.out m.size); obtain ⟨c0, c1, c2, c3, c4, c5, c6, cf⟩ := blk7 F4.out; clear p m)
    | (go_at_call 24; refine (number_pen q base _ Y2 f.off _ P2.out (by omega) (by omega) (by omega) BS2.out).mono ?_; clear c0 c1 c2 c3 c4 c5 c6 cf; rintro e w3 ⟨rfl, v3, p, m⟩; rw [HY3.out] at p; have P3 := Lib.hid p; have M3 := Lib.hid (M2.out.trans m); have BX3 := Lib.hid (m.below P2.out (Nat.le_refl _) (Nat.le_of_lt P2.out.lt_size)); have F3 := Lib.hid (m.keep F2.out (by omega) NV2.out); have NV3 := Lib.hid (m.ne (lt_of_block F2.out) NV2.out); have BS3 := Lib.hid (Nat.le_trans BS2.out m.size); obtain ⟨c0, c1, c2, c3, c4, c5, c6, cf⟩ := blk7 F3.out; clear p m)
    | (go_at_call 24; refine (number_pen q base _ Y1 f.id _ P1.out (by omega) (by omega) (by omega) BS1.out).mono ?_; clear c0 c1 c2 c3 c4 c5 c6 cf; rintro e w2 ⟨rfl, v2, p, m⟩; rw [HY2.out] at p; have P2 := Lib.hid p; have M2 := Lib.hid (M1.out.trans m); have BX2 := Lib.hid (m.below P1.out (Nat.le_refl _) (Nat.le_of_lt P1.out.lt_size)); have F2 := Lib.hid (m.keep F1.out (by omega) NV1.out); have NV2 := Lib.hid (m.ne (lt_of_block F1.out) NV1.out); have BS2 := Lib.hid (Nat.le_trans BS1.out m.size); obtain ⟨c0, c1, c2, c3, c4, c5, c6, cf⟩ := blk7 F2.out; clear p m)
    | (go_at_call 21; refine (kind_pen q base v xs f _ _ _ P0.out hk0.1 (by omega) (by omega) BS0.out ⟨_, rfl⟩).mono ?_; rintro e w1 ⟨rfl, v1, p, m⟩; rw [HY1.out] at p; have P1 := Lib.hid p; have M1 := Lib.hid (M0.out.trans m); have BX1 := Lib.hid (m.below P0.out (Nat.le_refl _) (Nat.le_of_lt P0.out.lt_size)); have F1 := Lib.hid (m.keep F0.out (by omega) NV0.out); have NV1 := Lib.hid (m.ne (lt_of_block F0.out) NV0.out); have BS1 := Lib.hid (Nat.le_trans BS0.out m.size); obtain ⟨c0, c1, c2, c3, c4, c5, c6, cf⟩ := blk7 F1.out; clear p m)
    | (go_at_call 22; refine (hasP_any _ _ _).mono ?_; rintro e w' ⟨rfl, rfl⟩)
    | (go_at_call 18; refine (partsOf_any _ _).mono ?_; rintro e w' ⟨rfl, rfl⟩))
  go_returns
  rw [HE.out]
  exact ⟨rfl, _, P4.out, M4.out⟩
end Go.Proofs.YtjeocggocloigabDoor
/- The pen's frame, where a kind has the parts 'ic'. -/
namespace Go.Proofs.YtjeocggocloigabDoor
set_option linter.unusedVariables false
open Go.RowKit P

set_option maxRecDepth 100000 in
set_option maxHeartbeats 2000000 in
theorem penf_ic (q base : Nat) (v : Value) (xs : List Int) (f : Fr) (Ar Ad : Option Addr) (cr cd : Nat) (w : World) (h : PenAt w q base v xs) (hrr : RRow w q Ar f.rs) (hrc : f.rs.length ≤ cr) (hrm : cr ≤ maxLen) (hdr : BRow w q Ad f.data) (hdn : Ad = none → cd = 0) (ok : OkF f [105, 99]) (hx : xs.length + 400 ≤ 140737488355328) (hbase : base ≤ w.heap.size) :
    Calls Tryd.prog 12 #[.pointer (some ⟨q, 0, none⟩), .agg #[.int .i64 f.kind, .int .i64 f.id, .int .i64 f.off, .bool f.fin, .int .i64 f.code, .slice Ar f.rs.length cr, .slice Ad f.data.length cd]] w (PenPost q base v (xs ++ frT f) w) := by
  have hp := ok.parts
  obtain ⟨m1, m2, m4, m8, m16, m32, m64, _⟩ := mask_of hp
  have g1 : hasM (maskOf f.kind) 1 = true := m1.trans (by decide)
  have g2 : hasM (maskOf f.kind) 2 = false := m2.trans (by decide)
  have g8 : hasM (maskOf f.kind) 8 = true := m8.trans (by decide)
  have g16 : hasM (maskOf f.kind) 16 = false := m16.trans (by decide)
  have g32 : hasM (maskOf f.kind) 32 = false := m32.trans (by decide)
  have g64 : hasM (maskOf f.kind) 64 = false := m64.trans (by decide)
  clear m1 m2 m4 m8 m16 m32 m64
  have hs : (partsOf f.kind).isSome = true := by rw [hp]; rfl
  have HT := Lib.hid (show frT f = markF f ++ encPs f [105, 99] by unfold frT; rw [hp]; rfl)
  have hk0 : 0 ≤ f.kind ∧ f.kind ≤ 30 := by
    rcases parts_cases hp with ⟨_, c⟩ | ⟨_, c⟩ | ⟨_, c⟩ | ⟨_, c⟩ | ⟨_, c⟩ | ⟨_, c⟩ | ⟨_, c⟩ | ⟨_, c⟩ | ⟨_, c⟩ | ⟨_, c⟩ | ⟨_, c⟩ <;> omega
  have id0 := ok.id0
  have id1 := ok.id1
  have of0 := ok.off0
  have of1 := ok.off1
  have co0 := ok.code0
  have co1 := ok.code1
  have dl := ok.data
  have l1 : ∀ n : Int, (enc n).length ≤ 8 := fun n => by have := enc_len n; have := sz_bd n; omega
  obtain ⟨Y1, y1⟩ : ∃ Y, xs ++ markF f = Y := ⟨_, rfl⟩
  have L1 : Y1.length ≤ xs.length + 8 := by rw [← y1, mark_enc, List.length_append]; have := l1 (mkF f); omega
  obtain ⟨Y2, y2⟩ : ∃ Y, Y1 ++ enc f.id = Y := ⟨_, rfl⟩
  have L2 : Y2.length ≤ xs.length + 16 := by rw [← y2, List.length_append]; have := l1 f.id; omega
  obtain ⟨Y3, y3⟩ : ∃ Y, Y2 ++ enc f.code = Y := ⟨_, rfl⟩
  have L3 : Y3.length ≤ xs.length + 24 := by rw [← y3, List.length_append]; have := l1 f.code; omega
  have HY1 := Lib.hid y1
  have HY2 := Lib.hid y2
  have HY3 := Lib.hid y3
  have HE := Lib.hid (show xs ++ frT f = Y3 by
    rw [HT.out]
    simp only [encPs, show encP f 105 = enc f.id from rfl, show encP f 99 = enc f.code from rfl, List.append_nil, ← List.append_assoc]
    simp only [y1, y2, y3])
  clear hp ok l1 y1 y2 y3
  have B0 := Lib.hid ((Below.refl w.heap.size w).alloc (Nat.le_refl _) (.cells #[.int .i64 f.kind, .int .i64 f.id, .int .i64 f.off, .bool f.fin, .int .i64 f.code, .slice Ar f.rs.length cr, .slice Ad f.data.length cd] 33))
  have P0 := Lib.hid (h.on B0.out)
  have RR := Lib.hid (hrr.below ((B0.out).mono (Nat.le_of_lt h.lt_size)))
  have DR := Lib.hid (hdr.below ((B0.out).mono (Nat.le_of_lt h.lt_size)))
  have M0 := Lib.hid (mod_below q v B0.out)
  have F0 := Lib.hid (heap_alloc_new w (.cells #[.int .i64 f.kind, .int .i64 f.id, .int .i64 f.off, .bool f.fin, .int .i64 f.code, .slice Ar f.rs.length cr, .slice Ad f.data.length cd] 33))
  have NV0 := Lib.hid (show some w.heap.size ≠ v.ownBlock from fun e => by have := (World.ownsRow.lt h.own _ e.symm).2; omega)
  have BS0 := Lib.hid (Nat.le_trans hbase B0.out.size)
  have hq := h.lt_size
  clear h hrr hdr
  go_enter Tryd.func12, Tryd.ntmps12
  go_wp2_with (first
    | (go_at_call 24; refine (number_pen q base _ Y2 f.code _ P2.out (by omega) (by omega) (by omega) BS2.out).mono ?_; clear c0 c1 c2 c3 c4 c5 c6 cf; rintro e w3 ⟨rfl, v3, p, m⟩; rw [HY3.out] at p; have P3 := Lib.hid p; have M3 := Lib.hid (M2.out.trans m); have BX3 := Lib.hid (m.below P2.out (Nat.le_refl _) (Nat.le_of_lt P2.out.lt_size)); have F3 := Lib.hid (m.keep F2.out (by omega) NV2.out); have NV3 := Lib.hid (m.ne (lt_of_block F2.out) NV2.out); have BS3 := Lib.hid (Nat.le_trans BS2.out m.size); obtain ⟨c0, c1, c2, c3, c4, c5, c6, cf⟩ := blk7 F3.out; clear p m)
    | (go_at_call 24; refine (number_pen q base _ Y1 f.id _ P1.out (by omega) (by omega) (by omega) BS1.out).mono ?_; clear c0 c1 c2 c3 c4 c5 c6 cf; rintro e w2 ⟨rfl, v2, p, m⟩; rw [HY2.out] at p; have P2 := Lib.hid p; have M2 := Lib.hid (M1.out.trans m); have BX2 := Lib.hid (m.below P1.out (Nat.le_refl _) (Nat.le_of_lt P1.out.lt_size)); have F2 := Lib.hid (m.keep F1.out (by omega) NV1.out); have NV2 := Lib.hid (m.ne (lt_of_block F1.out) NV1.out); have BS2 := Lib.hid (Nat.le_trans BS1.out m.size); obtain ⟨c0, c1, c2, c3, c4, c5, c6, cf⟩ := blk7 F2.out; clear p m)
    | (go_at_call 21; refine (kind_pen q base v xs f _ _ _ P0.out hk0.1 (by omega) (by omega) BS0.out ⟨_, rfl⟩).mono ?_; rintro e w1 ⟨rfl, v1, p, m⟩; rw [HY1.out] at p; have P1 := Lib.hid p; have M1 := Lib.hid (M0.out.trans m); have BX1 := Lib.hid (m.below P0.out (Nat.le_refl _) (Nat.le_of_lt P0.out.lt_size)); have F1 := Lib.hid (m.keep F0.out (by omega) NV0.out); have NV1 := Lib.hid (m.ne (lt_of_block F0.out) NV0.out); have BS1 := Lib.hid (Nat.le_trans BS0.out m.size); obtain ⟨c0, c1, c2, c3, c4, c5, c6, cf⟩ := blk7 F1.out; clear p m)
    | (go_at_call 22; refine (hasP_any _ _ _).mono ?_; rintro e w' ⟨rfl, rfl⟩)
    | (go_at_call 18; refine (partsOf_any _ _).mono ?_; rintro e w' ⟨rfl, rfl⟩))
  go_returns
  rw [HE.out]
  exact ⟨rfl, _, P3.out, M3.out⟩
end Go.Proofs.YtjeocggocloigabDoor
