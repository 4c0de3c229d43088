/- Texts of the proofs, joined. -/
import Derived.Test.YtjeocggocloigaaQE
import Derived.Test.YtjeocggocloigaaQF
import Derived.Test.YtjeocggocloigaaQG
import Derived.Test.YtjeocggocloigaaQD
import Derived.Deep.RegionHeldLaw
/- The eye's frame, whatever the bytes. -/
namespace Go.Proofs.Ytjeocggocloigaa
set_option linter.unusedVariables false
open Go.RowKit P

theorem decG_kind (s : List Int) (k : Int) (fin : Bool) (σ1 : St) (hk : kindS (0, s) = ((k, fin), σ1)) :
    (∀ ps, partsOf k = some ps → decG s = decPsS ps ⟨k, 0, 0, fin, 0, [], []⟩ σ1) ∧ (partsOf k = none → ∀ f : Fr, decG s = toE (refS true 2 σ1) f) ∧ (k = 2 → σ1.1 = 0) := by
  unfold kindS at hk
  by_cases hd : decOk s
  · obtain ⟨⟨n, σ⟩, hN⟩ : ∃ x, numS (0, s) = x := ⟨_, rfl⟩
    have hσ : σ = (0, σ.2) := by
      have : (numS (0, s)).2.1 = 0 := by unfold numS; simp [hd]
      rw [hN] at this
      exact zero_pair this
    obtain ⟨e1, t⟩ := σ
    simp only [Prod.mk.injEq, and_true] at hσ
    subst hσ
    have hr := rd_ok' hN
    rw [hN] at hk
    simp only at hk
    by_cases c1 : n = 14 ∨ n = 15
    · rw [if_pos c1] at hk
      obtain ⟨h1, rfl⟩ := Prod.mk.inj hk
      obtain ⟨rfl, rfl⟩ := Prod.mk.inj h1
      refine ⟨fun ps hp => ?_, fun hp => by simp [partsOf] at hp, fun h => rfl⟩
      unfold decG decPsS
      rw [hr]
      simp only
      rw [if_neg (by omega), if_pos c1, hp]
      simp only [if_true]
      have : (n == 15) = decide (n = 15) := by by_cases c : n = 15 <;> simp [c]
      rw [this]
    rw [if_neg c1] at hk
    by_cases c2 : n = 8
    · rw [if_pos c2] at hk
      obtain ⟨h1, rfl⟩ := Prod.mk.inj hk
      obtain ⟨rfl, rfl⟩ := Prod.mk.inj h1
      refine ⟨fun ps hp => ?_, fun hp => by simp [partsOf] at hp, fun h => by omega⟩
      unfold decG decPsS refS
      rw [hr]
      simp [c2]
    · rw [if_neg c2] at hk
      obtain ⟨h1, rfl⟩ := Prod.mk.inj hk
      obtain ⟨rfl, rfl⟩ := Prod.mk.inj h1
      have hf : decide (n = 15) = false := decide_eq_false fun e => c1 (.inr e)
      refine ⟨fun ps hp => ?_, fun hp f => ?_, fun h => rfl⟩
      · unfold decG decPsS
        rw [hr]
        simp only
        rw [if_neg c2, if_neg c1, hp, hf]
        simp only [if_true]
      · unfold decG toE refS
        rw [hr]
        simp only
        rw [if_neg c2, if_neg c1, hp]
        simp
  · have hN : numS (0, s) = (0, (4, s)) := by unfold numS; simp [hd]
    rw [hN] at hk
    simp only at hk
    rw [if_neg (by omega), if_neg (by omega)] at hk
    obtain ⟨h1, rfl⟩ := Prod.mk.inj hk
    obtain ⟨rfl, rfl⟩ := Prod.mk.inj h1
    refine ⟨fun ps hp => ?_, fun hp => by simp [partsOf] at hp, fun h => by omega⟩
    unfold decG decPsS
    rw [rd_er' hN (by decide)]
    simp

def EyeFramePost (y : Nat) (s : List Int) (w : World) (e : Ending) (w' : World) : Prop :=
  ∃ v f σ', e = .returned v ∧ decG s = toE σ' f ∧ FrOwn w' w.heap.size v f ∧ EyeAt w' y σ' ∧ w.grownBy w' (some y)
theorem frame_eye (y : Nat) (s : List Int) (w : World) (h : EyeAt w y (0, s)) (hm : s.length ≤ 140737488355328) :
    Calls Try.prog 21 #[.pointer (some ⟨y, 0, none⟩)] w (EyeFramePost y s w) := by
  obtain ⟨⟨⟨k, fin⟩, σ1⟩, hk⟩ : ∃ x, kindS (0, s) = x := ⟨_, rfl⟩
  obtain ⟨d1, d2, d3⟩ := decG_kind s k fin σ1 hk
  cases hp : partsOf k with
  | none =>
    refine (frame_unk y (0, s) w h hm k fin σ1 hk hp).mono ?_
    rintro e w' ⟨v, f, σ', rfl, h1, h2, h3, h4⟩
    refine ⟨v, f, σ', rfl, ?_, h2, h3, h4⟩
    rw [d2 hp ⟨k, 0, 0, fin, 0, [], []⟩, ← h1]
    rfl
  | some ps =>
    have fin' : ∀ e w', FramePost y ps k fin σ1 w e w' → EyeFramePost y s w e w' := by
      rintro e w' ⟨v, f, σ', rfl, h1, h2, h3, h4⟩
      exact ⟨v, f, σ', rfl, (d1 ps hp).trans h1, h2, h3, h4⟩
    rcases parts_cases hp with ⟨rfl, _⟩ | ⟨rfl, hk2⟩ | ⟨rfl, _⟩ | ⟨rfl, _⟩ | ⟨rfl, _⟩ | ⟨rfl, _⟩ | ⟨rfl, _⟩ | ⟨rfl, _⟩ | ⟨rfl, _⟩ | ⟨rfl, _⟩ | ⟨rfl, _⟩
    · exact (frame_non y (0, s) w h hm k fin σ1 hk hp).mono fin'
    · exact (frame_r y (0, s) w h hm k fin σ1 hk hp (d3 hk2)).mono fin'
    · exact (frame_ioc y (0, s) w h hm k fin σ1 hk hp).mono fin'
    · exact (frame_ic y (0, s) w h hm k fin σ1 hk hp).mono fin'
    · exact (frame_od y (0, s) w h hm k fin σ1 hk hp).mono fin'
    · exact (frame_d y (0, s) w h hm k fin σ1 hk hp).mono fin'
    · exact (frame_iodf y (0, s) w h hm k fin σ1 hk hp).mono fin'
    · exact (frame_o y (0, s) w h hm k fin σ1 hk hp).mono fin'
    · exact (frame_io y (0, s) w h hm k fin σ1 hk hp).mono fin'
    · exact (frame_w y (0, s) w h hm k fin σ1 hk hp).mono fin'
    · exact (frame_c y (0, s) w h hm k fin σ1 hk hp).mono fin'
end Go.Proofs.Ytjeocggocloigaa
/- Contract of package frame: Decode. -/
namespace Go.Proofs.Ytjeocggocloigaa
set_option linter.unusedVariables false
open Go.RowKit P

def DecPost (zs : List Int) (w : World) (e : Ending) (w' : World) : Prop :=
  Below w.heap.size w w' ∧ match decF zs with
  | .error x => e = .returned (.tuple #[.agg #[.int .i64 0, .int .i64 0, .int .i64 0, .bool false, .int .i64 0, .slice none 0 0, .slice none 0 0], .int .i64 0, .int .i64 x])
  | .ok (f, t) => ∃ v, e = .returned (.tuple #[v, .int .i64 ((zs.length : Int) - t.length), .int .i64 0]) ∧ FrOwn w' w.heap.size v f
theorem grown_from {w a b : World} (h : Below w.heap.size w a) {y : Nat} (hy : w.heap.size ≤ y) (g : a.grownBy b (some y)) : Below w.heap.size w b :=
  ⟨g.os.trans h.os, g.tape.trans h.tape, g.output.trans h.output, Nat.le_trans h.size g.size, fun k hk => (g.block k (Nat.lt_of_lt_of_le hk h.size) (by simp; omega)).trans (h.block k hk)⟩
theorem decF_left {s : List Int} {f : Fr} {σ : St} (h : decG s = toE σ f) : (σ.1 ≠ 0 → decF s = .error σ.1) ∧ (σ.1 = 0 → faultF f ≠ 0 → decF s = .error (faultF f)) ∧ (σ.1 = 0 → faultF f = 0 → decF s = .ok (f, σ.2)) := by
  rw [decF_eq, h]
  refine ⟨fun e => ?_, fun e hf => ?_, fun e hf => ?_⟩
  · unfold toE; rw [if_neg e]
  · unfold toE; rw [if_pos e]; simp only; rw [if_neg hf]
  · unfold toE; rw [if_pos e]; simp only; rw [if_pos hf]

theorem decPost_ok {zs t : List Int} {w w' : World} {e : Ending} {f : Fr} {v : Value} (hb : Below w.heap.size w w') (hd : decF zs = .ok (f, t)) (he : e = .returned (.tuple #[v, .int .i64 ((zs.length : Int) - t.length), .int .i64 0])) (hv : FrOwn w' w.heap.size v f) : DecPost zs w e w' := by
  refine ⟨hb, ?_⟩
  rw [hd]
  exact ⟨v, he, hv⟩
theorem decPost_er {zs : List Int} {w w' : World} {e : Ending} {x : Int} (hb : Below w.heap.size w w') (hd : decF zs = .error x) (he : e = .returned (.tuple #[.agg #[.int .i64 0, .int .i64 0, .int .i64 0, .bool false, .int .i64 0, .slice none 0 0, .slice none 0 0], .int .i64 0, .int .i64 x])) : DecPost zs w e w' := by
  refine ⟨hb, ?_⟩
  rw [hd]
  exact he
set_option maxRecDepth 100000 in
set_option maxHeartbeats 600000 in
theorem decode_any (A : Option Addr) (n c : Nat) (zs : List Int) (w : World) (h : BRow w w.heap.size A zs) (hl : zs.length = n) (hc : n ≤ c) (hm : c ≤ maxLen) (hn : A = none → c = 0) (hb : n ≤ 140737488355328) :
    Calls Try.prog 8 #[.slice A n c] w (DecPost zs w) := by
  subst hl
  have BZ := Lib.hid (((Below.refl w.heap.size w).alloc (Nat.le_refl _) (.cells #[.int .i64 0, .int .i64 0, .int .i64 0, .bool false, .int .i64 0, .slice none 0 0, .slice none 0 0] 25)).alloc (by simp) (.cells #[.slice A zs.length c, .int .i64 0] 54))
  have HE := Lib.hid (show EyeAt ((w.alloc (.cells #[.int .i64 0, .int .i64 0, .int .i64 0, .bool false, .int .i64 0, .slice none 0 0, .slice none 0 0] 25)).alloc (.cells #[.slice A zs.length c, .int .i64 0] 54)) (w.heap.size + 1) (0, zs) from
    ⟨A, c, by have := heap_alloc_new (w.alloc (.cells #[.int .i64 0, .int .i64 0, .int .i64 0, .bool false, .int .i64 0, .slice none 0 0, .slice none 0 0] 25)) (.cells #[.slice A zs.length c, .int .i64 0] 54); simpa using this, hc, hm, hn, (h.below BZ.out).more (Nat.le_succ _)⟩)
  have P0 := Lib.hid (show ((w.alloc (.cells #[.int .i64 0, .int .i64 0, .int .i64 0, .bool false, .int .i64 0, .slice none 0 0, .slice none 0 0] 25)).alloc (.cells #[.slice A zs.length c, .int .i64 0] 54)).heap[w.heap.size]? = some (.cells #[.int .i64 0, .int .i64 0, .int .i64 0, .bool false, .int .i64 0, .slice none 0 0, .slice none 0 0] 25 (0, 0)) from (Below.heap_alloc _ _ _ (by simp)).trans (heap_alloc_new w _))
  have HB := Lib.hid hb
  clear h hb
  go_enter Try.func8, Try.ntmps8
  go_wp2_with (go_at_call 21; refine (frame_eye _ _ _ HE.out HB.out).mono ?_; rintro e w1 ⟨v, f, σ', rfl, hG, hV, E1, g1⟩; obtain ⟨r, d, rfl, hrv, hdv, hby⟩ := hV.ex; obtain ⟨Ar, cr, hr1, _, _, _⟩ := hrv.slice; subst hr1; obtain ⟨Ad, cd, hd1, _, _⟩ := own_slice hdv; subst hd1; have HV := Lib.hid hV; have HG := Lib.hid hG; obtain ⟨er, tt⟩ := σ'; have HE1 := Lib.hid E1; obtain ⟨A1, c1, h11, h12, h13, h14, h15⟩ := E1; have HY0 := Lib.hid h11; have ltt : tt.length ≤ 9223372036854775807 := (by have h12' : tt.length ≤ c1 := h12; unfold maxLen at h13; omega); clear h11 h12 h13 h14 h15; simp only at HY0 HG HE1; have G1 := Lib.hid g1; have BF := Lib.hid ((Below.refl w1.heap.size w1).alloc (Nat.le_refl _) (.cells #[.int .i64 f.kind, .int .i64 f.id, .int .i64 f.off, .bool f.fin, .int .i64 f.code, .slice Ar f.rs.length cr, .slice Ad f.data.length cd] 25)); have HV2 := Lib.hid (hV.on BF.out).val; have HY := Lib.hid ((BF.out.block _ (lt_of_block HY0.out)).trans HY0.out); obtain ⟨q0, q1, qf0, qf1⟩ := two_cells HY.out; have P1 := Lib.hid ((g1.block w.heap.size (lt_of_block P0.out) (by simp)).trans P0.out); clear hG hV g1 hrv hdv hby)
  · have e0 : er = 0 := by simpa using ‹(er == 0) = true›
    subst e0
    have HF0 := Lib.hid (show (w1.alloc (.cells #[.int .i64 f.kind, .int .i64 f.id, .int .i64 f.off, .bool f.fin, .int .i64 f.code, .slice Ar f.rs.length cr, .slice Ad f.data.length cd] 25)).heap[w1.heap.size]? = some (.cells #[.int .i64 f.kind, .int .i64 f.id, .int .i64 f.off, .bool f.fin, .int .i64 f.code, .slice Ar f.rs.length cr, .slice Ad f.data.length cd] 25 (0, 0)) from heap_alloc_new w1 _)
    have hyy : w.heap.size + 1 < w1.heap.size := lt_of_block HY0.out
    by_cases hf : faultF f = 0
    · have HF := Lib.hid hf
      clear hf q0 q1 qf0 qf1
      go_wp2_with (go_at_call 6; refine (frCheck_any _ f _ HV2.out).mono ?_; rintro e w2 ⟨rfl, b2⟩; rw [HF.out]; have B2 := Lib.hid b2;  have HY3 := Lib.hid ((b2.block _ (lt_of_block HY.out)).trans HY.out); have HF3 := Lib.hid ((b2.block _ (lt_of_block HF0.out)).trans HF0.out); have P3 := Lib.hid ((b2.block _ (by simp; omega)).trans ((BF.out.block _ (lt_of_block P1.out)).trans P1.out)); obtain ⟨q0, q1, qf0, qf1⟩ := two_cells HY3.out; have HY4 := Lib.hid (two_set1 (.int .i64 0) HY3.out); have t1 := (two_cells HY4.out).2.1; have gy := grown_set w2 (w.heap.size + 1) 1 (.int .i64 0); have HF4 := Lib.hid ((gy.block _ (lt_of_block HF3.out) (by simp; omega)).trans HF3.out); have P4 := Lib.hid ((gy.block _ (lt_of_block P3.out) (by simp)).trans P3.out); clear b2 gy)
      clear q0 q1 qf0 qf1 t1
      obtain ⟨q0, q1, _, _⟩ := two_cells HY4.out
      obtain ⟨s0, s1, s2, s3, s4, s5, s6, _⟩ := blk7 HF4.out
      obtain ⟨p0, p1, p2, p3, p4, p5, p6, pf⟩ := blk7 P4.out
      have hw : wrap64 ((zs.length : Int) - (tt.length : Int)) = (zs.length : Int) - tt.length := IntWalk.wrap64_in _ (by unfold maxLen at hm; omega)
      go_region
      go_wp2
      obtain ⟨u0, u1, u2, u3, u4, u5, u6, _, gput⟩ := blk7_put P4.out (.int .i64 f.kind) (.int .i64 f.id) (.int .i64 f.off) (.bool f.fin) (.int .i64 f.code) (.slice Ar f.rs.length cr) (.slice Ad f.data.length cd)
      have GP := Lib.hid gput
      clear gput p0 p1 p2 p3 p4 p5 p6 pf
      (try simp only [Exit.inBlock, Exit.then])
      refine bodyPost_ret (by simp [results, Try.results8, go_sem, u0, u1, u2, u3, u4, u5, u6]; try rfl) rfl ?_
      have BW1 := grown_from BZ.out (Nat.le_succ _) G1.out
      have BW2 := BW1.trans ((BF.out.trans (B2.out.mono BF.out.size)).mono BW1.size)
      have gy := grown_set w2 (w.heap.size + 1) 1 (.int .i64 0)
      have hsz : ((w.alloc (.cells #[.int .i64 0, .int .i64 0, .int .i64 0, .bool false, .int .i64 0, .slice none 0 0, .slice none 0 0] 25)).alloc (.cells #[.slice A zs.length c, .int .i64 0] 54)).heap.size = w.heap.size + 2 := by simp
      have V2 := (HV.out.on BF.out).on B2.out
      rw [hsz] at V2
      rw [hw]
      exact decPost_ok (grown_from (grown_from BW2 (Nat.le_succ _) gy) (Nat.le_refl _) GP.out).drew ((decF_left HG.out).2.2 rfl HF.out) rfl ((((V2.other gy (by omega)).other GP.out (by omega)).base (by omega)).on (Below.refl _ _).drew)
    · have HF := Lib.hid hf
      have g0 : (faultF f == 0) = false := by simp [hf]
      have g1 : (faultF f != 0) = true := by simp [hf]
      clear hf q0 q1 qf0 qf1
      go_wp2_with (go_at_call 6; refine (frCheck_any _ f _ HV2.out).mono ?_; rintro e w2 ⟨rfl, b2⟩; have B2 := Lib.hid b2; have HY3 := Lib.hid ((b2.block _ (lt_of_block HY.out)).trans HY.out); have P3 := Lib.hid ((b2.block _ (by simp; omega)).trans ((BF.out.block _ (lt_of_block P1.out)).trans P1.out)); obtain ⟨q0, q1, qf0, qf1⟩ := two_cells HY3.out; have HY4 := Lib.hid (two_set1 (.int .i64 (faultF f)) HY3.out); have t1 := (two_cells HY4.out).2.1; have gy := grown_set w2 (w.heap.size + 1) 1 (.int .i64 (faultF f)); have P4 := Lib.hid ((gy.block _ (lt_of_block P3.out) (by simp)).trans P3.out); clear b2 gy)
      clear q0 q1 qf0 qf1 t1
      obtain ⟨q0, q1, _, _⟩ := two_cells HY4.out
      obtain ⟨p0, p1, p2, p3, p4, p5, p6, pf⟩ := blk7 P4.out
      go_region
      go_wp2
      obtain ⟨u0, u1, u2, u3, u4, u5, u6, _, gput⟩ := blk7_put P4.out (.int .i64 0) (.int .i64 0) (.int .i64 0) (.bool false) (.int .i64 0) (.slice none 0 0) (.slice none 0 0)
      have GP := Lib.hid gput
      clear gput p0 p1 p2 p3 p4 p5 p6 pf
      (try simp only [Exit.inBlock, Exit.then])
      refine bodyPost_ret (by simp [results, Try.results8, go_sem, u0, u1, u2, u3, u4, u5, u6]; try rfl) rfl ?_
      exact decPost_er (grown_from (grown_from ((grown_from BZ.out (Nat.le_succ _) G1.out).trans ((BF.out.trans (B2.out.mono BF.out.size)).mono (grown_from BZ.out (Nat.le_succ _) G1.out).size)) (Nat.le_succ _) (grown_set w2 (w.heap.size + 1) 1 (.int .i64 (faultF f)))) (Nat.le_refl _) GP.out).drew ((decF_left HG.out).2.1 rfl HF.out) rfl
  · have e0 : er ≠ 0 := by simpa using ‹(er == 0) = false›
    have P2 := Lib.hid ((BF.out.block _ (lt_of_block P1.out)).trans P1.out)
    obtain ⟨p0, p1, p2, p3, p4, p5, p6, pf⟩ := blk7 P2.out
    go_region
    go_wp2
    obtain ⟨u0, u1, u2, u3, u4, u5, u6, _, gput⟩ := blk7_put P2.out (.int .i64 0) (.int .i64 0) (.int .i64 0) (.bool false) (.int .i64 0) (.slice none 0 0) (.slice none 0 0)
    have GP := Lib.hid gput
    clear gput p0 p1 p2 p3 p4 p5 p6 pf
    (try simp only [Exit.inBlock, Exit.then])
    refine bodyPost_ret (by simp [results, Try.results8, go_sem, u0, u1, u2, u3, u4, u5, u6]; try rfl) rfl ?_
    exact decPost_er (grown_from ((grown_from BZ.out (Nat.le_succ _) G1.out).trans (BF.out.mono (grown_from BZ.out (Nat.le_succ _) G1.out).size)) (Nat.le_refl _) GP.out).drew ((decF_left HG.out).1 e0) rfl
end Go.Proofs.Ytjeocggocloigaa
