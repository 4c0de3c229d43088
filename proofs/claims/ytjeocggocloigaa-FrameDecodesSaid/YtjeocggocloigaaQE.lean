/- Texts of the proofs, joined. -/
import Derived.Test.YtjeocggocloigaaQC
import Derived.Test.YtjeocggocloigaaQD
import Derived.Test.YtjeocggocloigaaQB
/- The eye's frame, where a kind has the parts 'non'. -/
namespace Go.Proofs.Ytjeocggocloigaa
set_option linter.unusedVariables false
open Go.RowKit P

set_option maxRecDepth 100000 in
set_option maxHeartbeats 4000000 in
theorem frame_non (y : Nat) (σ : St) (w : World) (h : EyeAt w y σ) (hm : σ.2.length ≤ 140737488355328) (k : Int) (fin : Bool) (σ1 : St) (hk : kindS σ = ((k, fin), σ1)) (hp : partsOf k = some []) :
    Calls Try.prog 21 #[.pointer (some ⟨y, 0, none⟩)] w (FramePost y [] k fin σ1 w) := by
  have hy := h.lt
  obtain ⟨m1, m2, m4, m8, m16, m32, m64, _⟩ := mask_of hp
  have g1 : hasM (maskOf k) 1 = false := m1.trans (by decide)
  have g2 : hasM (maskOf k) 2 = false := m2.trans (by decide)
  have g8 : hasM (maskOf k) 8 = false := m8.trans (by decide)
  have g16 : hasM (maskOf k) 16 = false := m16.trans (by decide)
  have g32 : hasM (maskOf k) 32 = false := m32.trans (by decide)
  have g64 : hasM (maskOf k) 64 = false := m64.trans (by decide)
  clear m1 m2 m4 m8 m16 m32 m64
  have hs : (partsOf k).isSome = true := by rw [hp]; rfl
  have b0 := numS_bd h.byt
  have hk1 : Byt σ1.2 ∧ σ1.2.length ≤ σ.2.length := by
    have hs2 : (kindS σ).2 = σ1 := by rw [hk]
    rw [← hs2]
    unfold kindS
    split
    · exact ⟨b0.2.2.1, b0.2.2.2⟩
    · split
      · simp only [refS_left]; exact ⟨b0.2.2.1, b0.2.2.2⟩
      · exact ⟨b0.2.2.1, b0.2.2.2⟩
  obtain ⟨bt1, ln1⟩ := hk1
  have HK := Lib.hid hk
  have HV := Lib.hid (show decPsS [] ⟨k, 0, 0, fin, 0, [], []⟩ σ1 = toE σ1 ⟨k, 0, 0, fin, 0, [], []⟩ by rfl)
  have BZ := Lib.hid (((Below.refl w.heap.size w).alloc (Nat.le_refl _) (.cells #[.int .i64 0, .int .i64 0, .int .i64 0, .bool false, .int .i64 0, .slice none 0 0, .slice none 0 0] 25)).alloc (by simp) (.cells #[.int .i64 0, .int .i64 0, .int .i64 0, .bool false, .int .i64 0, .slice none 0 0, .slice none 0 0] 25))
  have P0 := Lib.hid (show ((w.alloc (.cells #[.int .i64 0, .int .i64 0, .int .i64 0, .bool false, .int .i64 0, .slice none 0 0, .slice none 0 0] 25)).alloc (.cells #[.int .i64 0, .int .i64 0, .int .i64 0, .bool false, .int .i64 0, .slice none 0 0, .slice none 0 0] 25)).heap[w.heap.size]? = some (.cells #[.int .i64 0, .int .i64 0, .int .i64 0, .bool false, .int .i64 0, .slice none 0 0, .slice none 0 0] 25 (0, 0)) from (Below.heap_alloc _ _ _ (by simp)).trans (heap_alloc_new w _))
  have F0 := Lib.hid (show ((w.alloc (.cells #[.int .i64 0, .int .i64 0, .int .i64 0, .bool false, .int .i64 0, .slice none 0 0, .slice none 0 0] 25)).alloc (.cells #[.int .i64 0, .int .i64 0, .int .i64 0, .bool false, .int .i64 0, .slice none 0 0, .slice none 0 0] 25)).heap[w.heap.size + 1]? = some (.cells #[.int .i64 0, .int .i64 0, .int .i64 0, .bool false, .int .i64 0, .slice none 0 0, .slice none 0 0] 25 (0, 0)) by have := heap_alloc_new (w.alloc (.cells #[.int .i64 0, .int .i64 0, .int .i64 0, .bool false, .int .i64 0, .slice none 0 0, .slice none 0 0] 25)) (.cells #[.int .i64 0, .int .i64 0, .int .i64 0, .bool false, .int .i64 0, .slice none 0 0, .slice none 0 0] 25); simpa using this)
  have E0 := Lib.hid (h.keep BZ.out)
  clear h hk b0 hp
  go_enter Try.func21, Try.ntmps21
  go_wp2_with (first
    | (go_at_call 33; refine (refuse_no _ _ _).mono ?_; rintro e w' ⟨rfl, rfl⟩)
    | (go_at_call 28; refine (hasP_any _ _ _).mono ?_; rintro e w' ⟨rfl, rfl⟩)
    | (go_at_call 14; refine (partsOf_any _ _).mono ?_; rintro e w' ⟨rfl, rfl⟩)
    | (go_at_call 32; refine (kind_eye y σ _ E0.out).mono ?_; rintro e w1 ⟨rfl, E, g⟩; rw [HK.out] at E; rw [HK.out]; have F1a := Lib.hid ((g.block (w.heap.size + 1) (lt_of_block F0.out) (by first | (simp; done) | (simp; omega) | omega)).trans F0.out); have P1a := Lib.hid ((g.block w.heap.size (lt_of_block P0.out) (by first | (simp; done) | (simp; omega) | omega)).trans P0.out); obtain ⟨q0, q1, q2, q3, q4, q5, q6, qf⟩ := blk7 F1a.out; have ga := grown_set w1 (w.heap.size + 1) 0 (.int .i64 k); have gb := grown_set (w1.setCell ⟨w.heap.size + 1, 0, none⟩ (.int .i64 k)) (w.heap.size + 1) 3 (.bool fin); have F1b : (w1.setCell ⟨w.heap.size + 1, 0, none⟩ (.int .i64 k)).heap[w.heap.size + 1]? = some (.cells #[.int .i64 k, .int .i64 0, .int .i64 0, .bool false, .int .i64 0, .slice none 0 0, .slice none 0 0] 25 (0, 0)) := (by simpa using blk_set F1a.out 0 (.int .i64 k)); have t0 := (blk7 F1b).1; have F1 := Lib.hid (show ((w1.setCell ⟨w.heap.size + 1, 0, none⟩ (.int .i64 k)).setCell ⟨w.heap.size + 1, 3, none⟩ (.bool fin)).heap[w.heap.size + 1]? = some (.cells #[.int .i64 k, .int .i64 0, .int .i64 0, .bool fin, .int .i64 0, .slice none 0 0, .slice none 0 0] 25 (0, 0)) by simpa using blk_set F1b 3 (.bool fin)); have P1 := Lib.hid ((gb.block w.heap.size (by have := lt_of_block F1b; omega) (by first | (simp; done) | omega)).trans ((ga.block w.heap.size (lt_of_block P1a.out) (by simp)).trans P1a.out)); have HE1 := Lib.hid (EyeAt.other (EyeAt.other (show EyeAt w1 y σ1 from E) ga (by omega)) gb (by omega)); have G1 := Lib.hid (grown_other (grown_other (grown_trans (grown_below (some y) BZ.out) g) ga (by omega)) gb (by omega)); clear E g ga gb F1b; obtain ⟨p0, p1, p2, p3, p4, p5, p6, pf⟩ := blk7 P1a.out))
  obtain ⟨u0, u1, u2, u3, u4, u5, u6, _, gput⟩ := blk7_put P1.out (.int .i64 k) (.int .i64 0) (.int .i64 0) (.bool fin) (.int .i64 0) (.slice none 0 0) (.slice none 0 0)
  have GP := Lib.hid gput
  clear gput
  (try simp only [Exit.inBlock, Exit.then])
  refine bodyPost_ret (by simp [results, Try.results21, go_sem, u0, u1, u2, u3, u4, u5, u6]; try rfl) rfl ?_
  exact ⟨_, ⟨k, 0, 0, fin, 0, [], []⟩, σ1, rfl, HV.out, ⟨_, _, rfl, OwnR.nil _ _ _, World.ownsRow_nil _ _ _ _, Byt.nil⟩, HE1.out.other GP.out hy, grown_other G1.out GP.out (Nat.le_refl _)⟩

end Go.Proofs.Ytjeocggocloigaa
/- The eye's frame, where a kind has the parts 'r'. -/
namespace Go.Proofs.Ytjeocggocloigaa
set_option linter.unusedVariables false
open Go.RowKit P

set_option maxRecDepth 100000 in
set_option maxHeartbeats 4000000 in
theorem frame_r (y : Nat) (σ : St) (w : World) (h : EyeAt w y σ) (hm : σ.2.length ≤ 140737488355328) (k : Int) (fin : Bool) (σ1 : St) (hk : kindS σ = ((k, fin), σ1)) (hp : partsOf k = some [114]) (hg : σ1.1 = 0) :
    Calls Try.prog 21 #[.pointer (some ⟨y, 0, none⟩)] w (FramePost y [114] k fin σ1 w) := by
  have hy := h.lt
  obtain ⟨m1, m2, m4, m8, m16, m32, m64, _⟩ := mask_of hp
  have g1 : hasM (maskOf k) 1 = false := m1.trans (by decide)
  have g2 : hasM (maskOf k) 2 = false := m2.trans (by decide)
  have g8 : hasM (maskOf k) 8 = false := m8.trans (by decide)
  have g16 : hasM (maskOf k) 16 = false := m16.trans (by decide)
  have g32 : hasM (maskOf k) 32 = false := m32.trans (by decide)
  have g64 : hasM (maskOf k) 64 = true := m64.trans (by decide)
  clear m1 m2 m4 m8 m16 m32 m64
  have hs : (partsOf k).isSome = true := by rw [hp]; rfl
  have b0 := numS_bd h.byt
  have hk1 : Byt σ1.2 ∧ σ1.2.length ≤ σ.2.length := by
    have hs2 : (kindS σ).2 = σ1 := by rw [hk]
    rw [← hs2]
    unfold kindS
    split
    · exact ⟨b0.2.2.1, b0.2.2.2⟩
    · split
      · simp only [refS_left]; exact ⟨b0.2.2.1, b0.2.2.2⟩
      · exact ⟨b0.2.2.1, b0.2.2.2⟩
  obtain ⟨bt1, ln1⟩ := hk1
  have HK := Lib.hid hk
  have HZ1 := Lib.hid (zero_pair hg)
  clear hg
  have BZ := Lib.hid (((Below.refl w.heap.size w).alloc (Nat.le_refl _) (.cells #[.int .i64 0, .int .i64 0, .int .i64 0, .bool false, .int .i64 0, .slice none 0 0, .slice none 0 0] 25)).alloc (by simp) (.cells #[.int .i64 0, .int .i64 0, .int .i64 0, .bool false, .int .i64 0, .slice none 0 0, .slice none 0 0] 25))
  have P0 := Lib.hid (show ((w.alloc (.cells #[.int .i64 0, .int .i64 0, .int .i64 0, .bool false, .int .i64 0, .slice none 0 0, .slice none 0 0] 25)).alloc (.cells #[.int .i64 0, .int .i64 0, .int .i64 0, .bool false, .int .i64 0, .slice none 0 0, .slice none 0 0] 25)).heap[w.heap.size]? = some (.cells #[.int .i64 0, .int .i64 0, .int .i64 0, .bool false, .int .i64 0, .slice none 0 0, .slice none 0 0] 25 (0, 0)) from (Below.heap_alloc _ _ _ (by simp)).trans (heap_alloc_new w _))
  have F0 := Lib.hid (show ((w.alloc (.cells #[.int .i64 0, .int .i64 0, .int .i64 0, .bool false, .int .i64 0, .slice none 0 0, .slice none 0 0] 25)).alloc (.cells #[.int .i64 0, .int .i64 0, .int .i64 0, .bool false, .int .i64 0, .slice none 0 0, .slice none 0 0] 25)).heap[w.heap.size + 1]? = some (.cells #[.int .i64 0, .int .i64 0, .int .i64 0, .bool false, .int .i64 0, .slice none 0 0, .slice none 0 0] 25 (0, 0)) by have := heap_alloc_new (w.alloc (.cells #[.int .i64 0, .int .i64 0, .int .i64 0, .bool false, .int .i64 0, .slice none 0 0, .slice none 0 0] 25)) (.cells #[.int .i64 0, .int .i64 0, .int .i64 0, .bool false, .int .i64 0, .slice none 0 0, .slice none 0 0] 25); simpa using this)
  have E0 := Lib.hid (h.keep BZ.out)
  clear h hk b0 hp
  go_enter Try.func21, Try.ntmps21
  go_wp2_with (first
    | (go_at_call 34; refine (ranges_eye y σ1.2 _ (by rw [← HZ1.out]; exact HE1.out)).mono ?_; rintro e w2 ⟨vr, lr, σ2, rfl, hdr, orr, E, g⟩; have E' : EyeAt w2 y σ2 := E; obtain ⟨Ar, cr, hvr, _, _, _⟩ := orr.slice; subst hvr; have OR := Lib.hid orr; have HDR := Lib.hid hdr; clear orr hdr; have F2a := Lib.hid ((g.block (w.heap.size + 1) (lt_of_block F1.out) (by first | (simp; done) | (simp; omega) | omega)).trans F1.out); have P2a := Lib.hid ((g.block w.heap.size (lt_of_block P1.out) (by first | (simp; done) | (simp; omega) | omega)).trans P1.out); clear q0 q1 q2 q3 q4 q5 q6 qf t0; obtain ⟨q0, q1, q2, q3, q4, q5, q6, qf⟩ := blk7 F2a.out; have ga := grown_set w2 (w.heap.size + 1) 5 (.slice Ar lr.length cr); have Fb : (w2.setCell ⟨w.heap.size + 1, 5, none⟩ (.slice Ar lr.length cr)).heap[w.heap.size + 1]? = some (.cells #[.int .i64 k, .int .i64 0, .int .i64 0, .bool fin, .int .i64 0, .slice Ar lr.length cr, .slice none 0 0] 25 (0, 0)) := (by simpa using blk_set F2a.out 5 (.slice Ar lr.length cr)); have t0 := (blk7 Fb).2.2.2.2.2.1; have F2 := Lib.hid Fb; have P2 := Lib.hid ((ga.block w.heap.size (lt_of_block P2a.out) (by simp)).trans P2a.out); have HE2 := Lib.hid (E'.other ga (by omega)); have G2 := Lib.hid (grown_other (grown_trans G1.out g) ga (by omega)); have SZ2 := Lib.hid (lt_of_block F1.out); have OR2 := Lib.hid (show OwnR (w2.setCell ⟨w.heap.size + 1, 5, none⟩ (.slice Ar lr.length cr)) (w.heap.size + 2) 51 (.slice Ar lr.length cr) lr from own_other (own_base OR.out (show w.heap.size + 2 ≤ _ by have := lt_of_block F1.out; omega)) ga (by omega)); clear E E' g ga Fb; obtain ⟨p0, p1, p2, p3, p4, p5, p6, pf⟩ := blk7 P2a.out)
    | (go_at_call 33; refine (refuse_no _ _ _).mono ?_; rintro e w' ⟨rfl, rfl⟩)
    | (go_at_call 28; refine (hasP_any _ _ _).mono ?_; rintro e w' ⟨rfl, rfl⟩)
    | (go_at_call 14; refine (partsOf_any _ _).mono ?_; rintro e w' ⟨rfl, rfl⟩)
    | (go_at_call 32; refine (kind_eye y σ _ E0.out).mono ?_; rintro e w1 ⟨rfl, E, g⟩; rw [HK.out] at E; rw [HK.out]; have F1a := Lib.hid ((g.block (w.heap.size + 1) (lt_of_block F0.out) (by first | (simp; done) | (simp; omega) | omega)).trans F0.out); have P1a := Lib.hid ((g.block w.heap.size (lt_of_block P0.out) (by first | (simp; done) | (simp; omega) | omega)).trans P0.out); obtain ⟨q0, q1, q2, q3, q4, q5, q6, qf⟩ := blk7 F1a.out; have ga := grown_set w1 (w.heap.size + 1) 0 (.int .i64 k); have gb := grown_set (w1.setCell ⟨w.heap.size + 1, 0, none⟩ (.int .i64 k)) (w.heap.size + 1) 3 (.bool fin); have F1b : (w1.setCell ⟨w.heap.size + 1, 0, none⟩ (.int .i64 k)).heap[w.heap.size + 1]? = some (.cells #[.int .i64 k, .int .i64 0, .int .i64 0, .bool false, .int .i64 0, .slice none 0 0, .slice none 0 0] 25 (0, 0)) := (by simpa using blk_set F1a.out 0 (.int .i64 k)); have t0 := (blk7 F1b).1; have F1 := Lib.hid (show ((w1.setCell ⟨w.heap.size + 1, 0, none⟩ (.int .i64 k)).setCell ⟨w.heap.size + 1, 3, none⟩ (.bool fin)).heap[w.heap.size + 1]? = some (.cells #[.int .i64 k, .int .i64 0, .int .i64 0, .bool fin, .int .i64 0, .slice none 0 0, .slice none 0 0] 25 (0, 0)) by simpa using blk_set F1b 3 (.bool fin)); have P1 := Lib.hid ((gb.block w.heap.size (by have := lt_of_block F1b; omega) (by first | (simp; done) | omega)).trans ((ga.block w.heap.size (lt_of_block P1a.out) (by simp)).trans P1a.out)); have HE1 := Lib.hid (EyeAt.other (EyeAt.other (show EyeAt w1 y σ1 from E) ga (by omega)) gb (by omega)); have G1 := Lib.hid (grown_other (grown_other (grown_trans (grown_below (some y) BZ.out) g) ga (by omega)) gb (by omega)); clear E g ga gb F1b))
  obtain ⟨u0, u1, u2, u3, u4, u5, u6, _, gput⟩ := blk7_put P2.out (.int .i64 k) (.int .i64 0) (.int .i64 0) (.bool fin) (.int .i64 0) (.slice Ar lr.length cr) (.slice none 0 0)
  have HV := Lib.hid (show decPsS [114] ⟨k, 0, 0, fin, 0, [], []⟩ σ1 = toE σ2 ⟨k, 0, 0, fin, 0, lr, []⟩ by rw [HZ1.out, stepS_r HDR.out, decPsS_nil])
  have GP := Lib.hid gput
  clear gput
  (try simp only [Exit.inBlock, Exit.then])
  refine bodyPost_ret (by simp [results, Try.results21, go_sem, u0, u1, u2, u3, u4, u5, u6]; try rfl) rfl ?_
  exact ⟨_, ⟨k, 0, 0, fin, 0, lr, []⟩, σ2, rfl, HV.out, ⟨_, _, rfl, own_base (own_other (show World.ownsRow _ (w.heap.size + 2) 51 2 (.slice Ar lr.length cr) lr.length (cellsR lr) from OR2.out) GP.out (by omega)) (by omega), World.ownsRow_nil _ _ _ _, Byt.nil⟩, HE2.out.other GP.out hy, grown_other G2.out GP.out (Nat.le_refl _)⟩

end Go.Proofs.Ytjeocggocloigaa
/- The eye's frame, where a kind has the parts 'ioc'. -/
namespace Go.Proofs.Ytjeocggocloigaa
set_option linter.unusedVariables false
open Go.RowKit P

set_option maxRecDepth 100000 in
set_option maxHeartbeats 4000000 in
theorem frame_ioc (y : Nat) (σ : St) (w : World) (h : EyeAt w y σ) (hm : σ.2.length ≤ 140737488355328) (k : Int) (fin : Bool) (σ1 : St) (hk : kindS σ = ((k, fin), σ1)) (hp : partsOf k = some [105, 111, 99]) :
    Calls Try.prog 21 #[.pointer (some ⟨y, 0, none⟩)] w (FramePost y [105, 111, 99] k fin σ1 w) := by
  have hy := h.lt
  obtain ⟨m1, m2, m4, m8, m16, m32, m64, _⟩ := mask_of hp
  have g1 : hasM (maskOf k) 1 = true := m1.trans (by decide)
  have g2 : hasM (maskOf k) 2 = true := m2.trans (by decide)
  have g8 : hasM (maskOf k) 8 = true := m8.trans (by decide)
  have g16 : hasM (maskOf k) 16 = false := m16.trans (by decide)
  have g32 : hasM (maskOf k) 32 = false := m32.trans (by decide)
  have g64 : hasM (maskOf k) 64 = false := m64.trans (by decide)
  clear m1 m2 m4 m8 m16 m32 m64
  have hs : (partsOf k).isSome = true := by rw [hp]; rfl
  have b0 := numS_bd h.byt
  have hk1 : Byt σ1.2 ∧ σ1.2.length ≤ σ.2.length := by
    have hs2 : (kindS σ).2 = σ1 := by rw [hk]
    rw [← hs2]
    unfold kindS
    split
    · exact ⟨b0.2.2.1, b0.2.2.2⟩
    · split
      · simp only [refS_left]; exact ⟨b0.2.2.1, b0.2.2.2⟩
      · exact ⟨b0.2.2.1, b0.2.2.2⟩
  obtain ⟨bt1, ln1⟩ := hk1
  have HK := Lib.hid hk
  obtain ⟨⟨a1, σ2⟩, e1⟩ : ∃ x, numS σ1 = x := ⟨_, rfl⟩
  have b1 := numS_bd bt1
  rw [e1] at b1
  obtain ⟨_, _, bt2, ln2⟩ := b1
  have N1 := Lib.hid e1
  obtain ⟨⟨a2, σ3⟩, e2⟩ : ∃ x, numS σ2 = x := ⟨_, rfl⟩
  have b2 := numS_bd bt2
  rw [e2] at b2
  obtain ⟨_, _, bt3, ln3⟩ := b2
  have N2 := Lib.hid e2
  obtain ⟨⟨a3, σ4⟩, e3⟩ : ∃ x, numS σ3 = x := ⟨_, rfl⟩
  have b3 := numS_bd bt3
  rw [e3] at b3
  obtain ⟨_, _, bt4, ln4⟩ := b3
  have N3 := Lib.hid e3
  have HV := Lib.hid (show decPsS [105, 111, 99] ⟨k, 0, 0, fin, 0, [], []⟩ σ1 = toE σ4 ⟨k, a1, a2, fin, a3, [], []⟩ by rw [stepS_i e1, stepS_o e2, stepS_c e3, decPsS_nil])
  have BZ := Lib.hid (((Below.refl w.heap.size w).alloc (Nat.le_refl _) (.cells #[.int .i64 0, .int .i64 0, .int .i64 0, .bool false, .int .i64 0, .slice none 0 0, .slice none 0 0] 25)).alloc (by simp) (.cells #[.int .i64 0, .int .i64 0, .int .i64 0, .bool false, .int .i64 0, .slice none 0 0, .slice none 0 0] 25))
  have P0 := Lib.hid (show ((w.alloc (.cells #[.int .i64 0, .int .i64 0, .int .i64 0, .bool false, .int .i64 0, .slice none 0 0, .slice none 0 0] 25)).alloc (.cells #[.int .i64 0, .int .i64 0, .int .i64 0, .bool false, .int .i64 0, .slice none 0 0, .slice none 0 0] 25)).heap[w.heap.size]? = some (.cells #[.int .i64 0, .int .i64 0, .int .i64 0, .bool false, .int .i64 0, .slice none 0 0, .slice none 0 0] 25 (0, 0)) from (Below.heap_alloc _ _ _ (by simp)).trans (heap_alloc_new w _))
  have F0 := Lib.hid (show ((w.alloc (.cells #[.int .i64 0, .int .i64 0, .int .i64 0, .bool false, .int .i64 0, .slice none 0 0, .slice none 0 0] 25)).alloc (.cells #[.int .i64 0, .int .i64 0, .int .i64 0, .bool false, .int .i64 0, .slice none 0 0, .slice none 0 0] 25)).heap[w.heap.size + 1]? = some (.cells #[.int .i64 0, .int .i64 0, .int .i64 0, .bool false, .int .i64 0, .slice none 0 0, .slice none 0 0] 25 (0, 0)) by have := heap_alloc_new (w.alloc (.cells #[.int .i64 0, .int .i64 0, .int .i64 0, .bool false, .int .i64 0, .slice none 0 0, .slice none 0 0] 25)) (.cells #[.int .i64 0, .int .i64 0, .int .i64 0, .bool false, .int .i64 0, .slice none 0 0, .slice none 0 0] 25); simpa using this)
  have E0 := Lib.hid (h.keep BZ.out)
  clear h hk b0 hp
  go_enter Try.func21, Try.ntmps21
  go_wp2_with (first
    | (go_at_call 35; refine (number_eye y σ3 _ HE3.out).mono ?_; rintro e w4 ⟨rfl, E, g⟩; rw [N3.out] at E; rw [N3.out]; have E' : EyeAt w4 y σ4 := E; have F4a := Lib.hid ((g.block (w.heap.size + 1) (lt_of_block F3.out) (by first | (simp; done) | (simp; omega) | omega)).trans F3.out); have P4a := Lib.hid ((g.block w.heap.size (lt_of_block P3.out) (by first | (simp; done) | (simp; omega) | omega)).trans P3.out); clear q0 q1 q2 q3 q4 q5 q6 qf t0; obtain ⟨q0, q1, q2, q3, q4, q5, q6, qf⟩ := blk7 F4a.out; have ga := grown_set w4 (w.heap.size + 1) 4 (.int .i64 a3); have Fb : (w4.setCell ⟨w.heap.size + 1, 4, none⟩ (.int .i64 a3)).heap[w.heap.size + 1]? = some (.cells #[.int .i64 k, .int .i64 a1, .int .i64 a2, .bool fin, .int .i64 a3, .slice none 0 0, .slice none 0 0] 25 (0, 0)) := (by simpa using blk_set F4a.out 4 (.int .i64 a3)); have t0 := (blk7 Fb).2.2.2.2.1; have F4 := Lib.hid Fb; have P4 := Lib.hid ((ga.block w.heap.size (lt_of_block P4a.out) (by simp)).trans P4a.out); have HE4 := Lib.hid (E'.other ga (by omega)); have G4 := Lib.hid (grown_other (grown_trans G3.out g) ga (by omega)); have SZ4 := Lib.hid (lt_of_block F3.out); clear E E' g ga Fb; obtain ⟨p0, p1, p2, p3, p4, p5, p6, pf⟩ := blk7 P4a.out)
    | (go_at_call 35; refine (number_eye y σ2 _ HE2.out).mono ?_; rintro e w3 ⟨rfl, E, g⟩; rw [N2.out] at E; rw [N2.out]; have E' : EyeAt w3 y σ3 := E; have F3a := Lib.hid ((g.block (w.heap.size + 1) (lt_of_block F2.out) (by first | (simp; done) | (simp; omega) | omega)).trans F2.out); have P3a := Lib.hid ((g.block w.heap.size (lt_of_block P2.out) (by first | (simp; done) | (simp; omega) | omega)).trans P2.out); clear q0 q1 q2 q3 q4 q5 q6 qf t0; obtain ⟨q0, q1, q2, q3, q4, q5, q6, qf⟩ := blk7 F3a.out; have ga := grown_set w3 (w.heap.size + 1) 2 (.int .i64 a2); have Fb : (w3.setCell ⟨w.heap.size + 1, 2, none⟩ (.int .i64 a2)).heap[w.heap.size + 1]? = some (.cells #[.int .i64 k, .int .i64 a1, .int .i64 a2, .bool fin, .int .i64 0, .slice none 0 0, .slice none 0 0] 25 (0, 0)) := (by simpa using blk_set F3a.out 2 (.int .i64 a2)); have t0 := (blk7 Fb).2.2.1; have F3 := Lib.hid Fb; have P3 := Lib.hid ((ga.block w.heap.size (lt_of_block P3a.out) (by simp)).trans P3a.out); have HE3 := Lib.hid (E'.other ga (by omega)); have G3 := Lib.hid (grown_other (grown_trans G2.out g) ga (by omega)); have SZ3 := Lib.hid (lt_of_block F2.out); clear E E' g ga Fb)
    | (go_at_call 35; refine (number_eye y σ1 _ HE1.out).mono ?_; rintro e w2 ⟨rfl, E, g⟩; rw [N1.out] at E; rw [N1.out]; have E' : EyeAt w2 y σ2 := E; have F2a := Lib.hid ((g.block (w.heap.size + 1) (lt_of_block F1.out) (by first | (simp; done) | (simp; omega) | omega)).trans F1.out); have P2a := Lib.hid ((g.block w.heap.size (lt_of_block P1.out) (by first | (simp; done) | (simp; omega) | omega)).trans P1.out); clear q0 q1 q2 q3 q4 q5 q6 qf t0; obtain ⟨q0, q1, q2, q3, q4, q5, q6, qf⟩ := blk7 F2a.out; have ga := grown_set w2 (w.heap.size + 1) 1 (.int .i64 a1); have Fb : (w2.setCell ⟨w.heap.size + 1, 1, none⟩ (.int .i64 a1)).heap[w.heap.size + 1]? = some (.cells #[.int .i64 k, .int .i64 a1, .int .i64 0, .bool fin, .int .i64 0, .slice none 0 0, .slice none 0 0] 25 (0, 0)) := (by simpa using blk_set F2a.out 1 (.int .i64 a1)); have t0 := (blk7 Fb).2.1; have F2 := Lib.hid Fb; have P2 := Lib.hid ((ga.block w.heap.size (lt_of_block P2a.out) (by simp)).trans P2a.out); have HE2 := Lib.hid (E'.other ga (by omega)); have G2 := Lib.hid (grown_other (grown_trans G1.out g) ga (by omega)); have SZ2 := Lib.hid (lt_of_block F1.out); clear E E' g ga Fb)
    | (go_at_call 33; refine (refuse_no _ _ _).mono ?_; rintro e w' ⟨rfl, rfl⟩)
    | (go_at_call 28; refine (hasP_any _ _ _).mono ?_; rintro e w' ⟨rfl, rfl⟩)
    | (go_at_call 14; refine (partsOf_any _ _).mono ?_; rintro e w' ⟨rfl, rfl⟩)
    | (go_at_call 32; refine (kind_eye y σ _ E0.out).mono ?_; rintro e w1 ⟨rfl, E, g⟩; rw [HK.out] at E; rw [HK.out]; have F1a := Lib.hid ((g.block (w.heap.size + 1) (lt_of_block F0.out) (by first | (simp; done) | (simp; omega) | omega)).trans F0.out); have P1a := Lib.hid ((g.block w.heap.size (lt_of_block P0.out) (by first | (simp; done) | (simp; omega) | omega)).trans P0.out); obtain ⟨q0, q1, q2, q3, q4, q5, q6, qf⟩ := blk7 F1a.out; have ga := grown_set w1 (w.heap.size + 1) 0 (.int .i64 k); have gb := grown_set (w1.setCell ⟨w.heap.size + 1, 0, none⟩ (.int .i64 k)) (w.heap.size + 1) 3 (.bool fin); have F1b : (w1.setCell ⟨w.heap.size + 1, 0, none⟩ (.int .i64 k)).heap[w.heap.size + 1]? = some (.cells #[.int .i64 k, .int .i64 0, .int .i64 0, .bool false, .int .i64 0, .slice none 0 0, .slice none 0 0] 25 (0, 0)) := (by simpa using blk_set F1a.out 0 (.int .i64 k)); have t0 := (blk7 F1b).1; have F1 := Lib.hid (show ((w1.setCell ⟨w.heap.size + 1, 0, none⟩ (.int .i64 k)).setCell ⟨w.heap.size + 1, 3, none⟩ (.bool fin)).heap[w.heap.size + 1]? = some (.cells #[.int .i64 k, .int .i64 0, .int .i64 0, .bool fin, .int .i64 0, .slice none 0 0, .slice none 0 0] 25 (0, 0)) by simpa using blk_set F1b 3 (.bool fin)); have P1 := Lib.hid ((gb.block w.heap.size (by have := lt_of_block F1b; omega) (by first | (simp; done) | omega)).trans ((ga.block w.heap.size (lt_of_block P1a.out) (by simp)).trans P1a.out)); have HE1 := Lib.hid (EyeAt.other (EyeAt.other (show EyeAt w1 y σ1 from E) ga (by omega)) gb (by omega)); have G1 := Lib.hid (grown_other (grown_other (grown_trans (grown_below (some y) BZ.out) g) ga (by omega)) gb (by omega)); clear E g ga gb F1b))
  obtain ⟨u0, u1, u2, u3, u4, u5, u6, _, gput⟩ := blk7_put P4.out (.int .i64 k) (.int .i64 a1) (.int .i64 a2) (.bool fin) (.int .i64 a3) (.slice none 0 0) (.slice none 0 0)
  have GP := Lib.hid gput
  clear gput
  (try simp only [Exit.inBlock, Exit.then])
  refine bodyPost_ret (by simp [results, Try.results21, go_sem, u0, u1, u2, u3, u4, u5, u6]; try rfl) rfl ?_
  exact ⟨_, ⟨k, a1, a2, fin, a3, [], []⟩, σ4, rfl, HV.out, ⟨_, _, rfl, OwnR.nil _ _ _, World.ownsRow_nil _ _ _ _, Byt.nil⟩, HE4.out.other GP.out hy, grown_other G4.out GP.out (Nat.le_refl _)⟩

end Go.Proofs.Ytjeocggocloigaa
/- The eye's frame, where a kind has the parts 'ic'. -/
namespace Go.Proofs.Ytjeocggocloigaa
set_option linter.unusedVariables false
open Go.RowKit P

set_option maxRecDepth 100000 in
set_option maxHeartbeats 4000000 in
theorem frame_ic (y : Nat) (σ : St) (w : World) (h : EyeAt w y σ) (hm : σ.2.length ≤ 140737488355328) (k : Int) (fin : Bool) (σ1 : St) (hk : kindS σ = ((k, fin), σ1)) (hp : partsOf k = some [105, 99]) :
    Calls Try.prog 21 #[.pointer (some ⟨y, 0, none⟩)] w (FramePost y [105, 99] k fin σ1 w) := by
  have hy := h.lt
  obtain ⟨m1, m2, m4, m8, m16, m32, m64, _⟩ := mask_of hp
  have g1 : hasM (maskOf k) 1 = true := m1.trans (by decide)
  have g2 : hasM (maskOf k) 2 = false := m2.trans (by decide)
  have g8 : hasM (maskOf k) 8 = true := m8.trans (by decide)
  have g16 : hasM (maskOf k) 16 = false := m16.trans (by decide)
  have g32 : hasM (maskOf k) 32 = false := m32.trans (by decide)
  have g64 : hasM (maskOf k) 64 = false := m64.trans (by decide)
  clear m1 m2 m4 m8 m16 m32 m64
  have hs : (partsOf k).isSome = true := by rw [hp]; rfl
  have b0 := numS_bd h.byt
  have hk1 : Byt σ1.2 ∧ σ1.2.length ≤ σ.2.length := by
    have hs2 : (kindS σ).2 = σ1 := by rw [hk]
    rw [← hs2]
    unfold kindS
    split
    · exact ⟨b0.2.2.1, b0.2.2.2⟩
    · split
      · simp only [refS_left]; exact ⟨b0.2.2.1, b0.2.2.2⟩
      · exact ⟨b0.2.2.1, b0.2.2.2⟩
  obtain ⟨bt1, ln1⟩ := hk1
  have HK := Lib.hid hk
  obtain ⟨⟨a1, σ2⟩, e1⟩ : ∃ x, numS σ1 = x := ⟨_, rfl⟩
  have b1 := numS_bd bt1
  rw [e1] at b1
  obtain ⟨_, _, bt2, ln2⟩ := b1
  have N1 := Lib.hid e1
  obtain ⟨⟨a2, σ3⟩, e2⟩ : ∃ x, numS σ2 = x := ⟨_, rfl⟩
  have b2 := numS_bd bt2
  rw [e2] at b2
  obtain ⟨_, _, bt3, ln3⟩ := b2
  have N2 := Lib.hid e2
  have HV := Lib.hid (show decPsS [105, 99] ⟨k, 0, 0, fin, 0, [], []⟩ σ1 = toE σ3 ⟨k, a1, 0, fin, a2, [], []⟩ by rw [stepS_i e1, stepS_c e2, decPsS_nil])
  have BZ := Lib.hid (((Below.refl w.heap.size w).alloc (Nat.le_refl _) (.cells #[.int .i64 0, .int .i64 0, .int .i64 0, .bool false, .int .i64 0, .slice none 0 0, .slice none 0 0] 25)).alloc (by simp) (.cells #[.int .i64 0, .int .i64 0, .int .i64 0, .bool false, .int .i64 0, .slice none 0 0, .slice none 0 0] 25))
  have P0 := Lib.hid (show ((w.alloc (.cells #[.int .i64 0, .int .i64 0, .int .i64 0, .bool false, .int .i64 0, .slice none 0 0, .slice none 0 0] 25)).alloc (.cells #[.int .i64 0, .int .i64 0, .int .i64 0, .bool false, .int .i64 0, .slice none 0 0, .slice none 0 0] 25)).heap[w.heap.size]? = some (.cells #[.int .i64 0, .int .i64 0, .int .i64 0, .bool false, .int .i64 0, .slice none 0 0, .slice none 0 0] 25 (0, 0)) from (Below.heap_alloc _ _ _ (by simp)).trans (heap_alloc_new w _))
  have F0 := Lib.hid (show ((w.alloc (.cells #[.int .i64 0, .int .i64 0, .int .i64 0, .bool false, .int .i64 0, .slice none 0 0, .slice none 0 0] 25)).alloc (.cells #[.int .i64 0, .int .i64 0, .int .i64 0, .bool false, .int .i64 0, .slice none 0 0, .slice none 0 0] 25)).heap[w.heap.size + 1]? = some (.cells #[.int .i64 0, .int .i64 0, .int .i64 0, .bool false, .int .i64 0, .slice none 0 0, .slice none 0 0] 25 (0, 0)) by have := heap_alloc_new (w.alloc (.cells #[.int .i64 0, .int .i64 0, .int .i64 0, .bool false, .int .i64 0, .slice none 0 0, .slice none 0 0] 25)) (.cells #[.int .i64 0, .int .i64 0, .int .i64 0, .bool false, .int .i64 0, .slice none 0 0, .slice none 0 0] 25); simpa using this)
  have E0 := Lib.hid (h.keep BZ.out)
  clear h hk b0 hp
  go_enter Try.func21, Try.ntmps21
  go_wp2_with (first
    | (go_at_call 35; refine (number_eye y σ2 _ HE2.out).mono ?_; rintro e w3 ⟨rfl, E, g⟩; rw [N2.out] at E; rw [N2.out]; have E' : EyeAt w3 y σ3 := E; have F3a := Lib.hid ((g.block (w.heap.size + 1) (lt_of_block F2.out) (by first | (simp; done) | (simp; omega) | omega)).trans F2.out); have P3a := Lib.hid ((g.block w.heap.size (lt_of_block P2.out) (by first | (simp; done) | (simp; omega) | omega)).trans P2.out); clear q0 q1 q2 q3 q4 q5 q6 qf t0; obtain ⟨q0, q1, q2, q3, q4, q5, q6, qf⟩ := blk7 F3a.out; have ga := grown_set w3 (w.heap.size + 1) 4 (.int .i64 a2); have Fb : (w3.setCell ⟨w.heap.size + 1, 4, none⟩ (.int .i64 a2)).heap[w.heap.size + 1]? = some (.cells #[.int .i64 k, .int .i64 a1, .int .i64 0, .bool fin, .int .i64 a2, .slice none 0 0, .slice none 0 0] 25 (0, 0)) := (by simpa using blk_set F3a.out 4 (.int .i64 a2)); have t0 := (blk7 Fb).2.2.2.2.1; have F3 := Lib.hid Fb; have P3 := Lib.hid ((ga.block w.heap.size (lt_of_block P3a.out) (by simp)).trans P3a.out); have HE3 := Lib.hid (E'.other ga (by omega)); have G3 := Lib.hid (grown_other (grown_trans G2.out g) ga (by omega)); have SZ3 := Lib.hid (lt_of_block F2.out); clear E E' g ga Fb; obtain ⟨p0, p1, p2, p3, p4, p5, p6, pf⟩ := blk7 P3a.out)
    | (go_at_call 35; refine (number_eye y σ1 _ HE1.out).mono ?_; rintro e w2 ⟨rfl, E, g⟩; rw [N1.out] at E; rw [N1.out]; have E' : EyeAt w2 y σ2 := E; have F2a := Lib.hid ((g.block (w.heap.size + 1) (lt_of_block F1.out) (by first | (simp; done) | (simp; omega) | omega)).trans F1.out); have P2a := Lib.hid ((g.block w.heap.size (lt_of_block P1.out) (by first | (simp; done) | (simp; omega) | omega)).trans P1.out); clear q0 q1 q2 q3 q4 q5 q6 qf t0; obtain ⟨q0, q1, q2, q3, q4, q5, q6, qf⟩ := blk7 F2a.out; have ga := grown_set w2 (w.heap.size + 1) 1 (.int .i64 a1); have Fb : (w2.setCell ⟨w.heap.size + 1, 1, none⟩ (.int .i64 a1)).heap[w.heap.size + 1]? = some (.cells #[.int .i64 k, .int .i64 a1, .int .i64 0, .bool fin, .int .i64 0, .slice none 0 0, .slice none 0 0] 25 (0, 0)) := (by simpa using blk_set F2a.out 1 (.int .i64 a1)); have t0 := (blk7 Fb).2.1; have F2 := Lib.hid Fb; have P2 := Lib.hid ((ga.block w.heap.size (lt_of_block P2a.out) (by simp)).trans P2a.out); have HE2 := Lib.hid (E'.other ga (by omega)); have G2 := Lib.hid (grown_other (grown_trans G1.out g) ga (by omega)); have SZ2 := Lib.hid (lt_of_block F1.out); clear E E' g ga Fb)
    | (go_at_call 33; refine (refuse_no _ _ _).mono ?_; rintro e w' ⟨rfl, rfl⟩)
    | (go_at_call 28; refine (hasP_any _ _ _).mono ?_; rintro e w' ⟨rfl, rfl⟩)
    | (go_at_call 14; refine (partsOf_any _ _).mono ?_; rintro e w' ⟨rfl, rfl⟩)
    | (go_at_call 32; refine (kind_eye y σ _ E0.out).mono ?_; rintro e w1 ⟨rfl, E, g⟩; rw [HK.out] at E; rw [HK.out]; have F1a := Lib.hid ((g.block (w.heap.size + 1) (lt_of_block F0.out) (by first | (simp; done) | (simp; omega) | omega)).trans F0.out); have P1a := Lib.hid ((g.block w.heap.size (lt_of_block P0.out) (by first | (simp; done) | (simp; omega) | omega)).trans P0.out); obtain ⟨q0, q1, q2, q3, q4, q5, q6, qf⟩ := blk7 F1a.out; have ga := grown_set w1 (w.heap.size + 1) 0 (.int .i64 k); have gb := grown_set (w1.setCell ⟨w.heap.size + 1, 0, none⟩ (.int .i64 k)) (w.heap.size + 1) 3 (.bool fin); have F1b : (w1.setCell ⟨w.heap.size + 1, 0, none⟩ (.int .i64 k)).heap[w.heap.size + 1]? = some (.cells #[.int .i64 k, .int .i64 0, .int .i64 0, .bool false, .int .i64 0, .slice none 0 0, .slice none 0 0] 25 (0, 0)) := (by simpa using blk_set F1a.out 0 (.int .i64 k)); have t0 := (blk7 F1b).1; have F1 := Lib.hid (show ((w1.setCell ⟨w.heap.size + 1, 0, none⟩ (.int .i64 k)).setCell ⟨w.heap.size + 1, 3, none⟩ (.bool fin)).heap[w.heap.size + 1]? = some (.cells #[.int .i64 k, .int .i64 0, .int .i64 0, .bool fin, .int .i64 0, .slice none 0 0, .slice none 0 0] 25 (0, 0)) by simpa using blk_set F1b 3 (.bool fin)); have P1 := Lib.hid ((gb.block w.heap.size (by have := lt_of_block F1b; omega) (by first | (simp; done) | omega)).trans ((ga.block w.heap.size (lt_of_block P1a.out) (by simp)).trans P1a.out)); have HE1 := Lib.hid (EyeAt.other (EyeAt.other (show EyeAt w1 y σ1 from E) ga (by omega)) gb (by omega)); have G1 := Lib.hid (grown_other (grown_other (grown_trans (grown_below (some y) BZ.out) g) ga (by omega)) gb (by omega)); clear E g ga gb F1b))
  obtain ⟨u0, u1, u2, u3, u4, u5, u6, _, gput⟩ := blk7_put P3.out (.int .i64 k) (.int .i64 a1) (.int .i64 0) (.bool fin) (.int .i64 a2) (.slice none 0 0) (.slice none 0 0)
  have GP := Lib.hid gput
  clear gput
  (try simp only [Exit.inBlock, Exit.then])
  refine bodyPost_ret (by simp [results, Try.results21, go_sem, u0, u1, u2, u3, u4, u5, u6]; try rfl) rfl ?_
  exact ⟨_, ⟨k, a1, 0, fin, a2, [], []⟩, σ3, rfl, HV.out, ⟨_, _, rfl, OwnR.nil _ _ _, World.ownsRow_nil _ _ _ _, Byt.nil⟩, HE3.out.other GP.out hy, grown_other G3.out GP.out (Nat.le_refl _)⟩

end Go.Proofs.Ytjeocggocloigaa
