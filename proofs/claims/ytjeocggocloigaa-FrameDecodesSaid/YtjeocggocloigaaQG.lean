/- Texts of the proofs, joined. -/
import Derived.Test.YtjeocggocloigaaQC
import Derived.Test.YtjeocggocloigaaQD
import Derived.Test.YtjeocggocloigaaQB
/- The eye's frame, where a kind has the parts 'io'. -/
namespace Go.Proofs.Ytjeocggocloigaa
set_option linter.unusedVariables false
open Go.RowKit P

set_option maxRecDepth 100000 in
set_option maxHeartbeats 4000000 in
theorem frame_io (y : Nat) (σ : St) (w : World) (h : EyeAt w y σ) (hm : σ.2.length ≤ 140737488355328) (k : Int) (fin : Bool) (σ1 : St) (hk : kindS σ = ((k, fin), σ1)) (hp : partsOf k = some [105, 111]) :
    Calls Try.prog 21 #[.pointer (some ⟨y, 0, none⟩)] w (FramePost y [105, 111] k fin σ1 w) := by
  have hy := h.lt
  obtain ⟨m1, m2, m4, m8, m16, m32, m64, _⟩ := mask_of hp
  have g1 : hasM (maskOf k) 1 = true := m1.trans (by decide)
  have g2 : hasM (maskOf k) 2 = true := m2.trans (by decide)
  have g8 : hasM (maskOf k) 8 = false := m8.trans (by decide)
  have g16 : hasM (maskOf k) 16 = false := m16.trans (by decide)
  have g32 : hasM (maskOf k) 32 = false := m32.trans (by decide)
  have g64 : hasM (maskOf k) 64 = false := m64.trans (by decide)
  clear m1 m2 m4 m8 m16 m32 m64
  have hs : (partsOf k).isSome = true := by rw [hp]; rfl
  have b0 := numS_bd h.byt
  have hk1 : Byt σ1.2 ∧ σ1.2.length ≤ σ.2.length := by
    have hs2 : (kindS σ).2 = σ1 := by rw [hk]
    rw [← hs2]
    unfold kindS
    split
    · exact ⟨b0.2.2.1, b0.2.2.2⟩
    · split
      · simp only [refS_left]; exact ⟨b0.2.2.1, b0.2.2.2⟩
      · exact ⟨b0.2.2.1, b0.2.2.2⟩
  obtain ⟨bt1, ln1⟩ := hk1
  have HK := Lib.hid hk
  obtain ⟨⟨a1, σ2⟩, e1⟩ : ∃ x, numS σ1 = x := ⟨_, rfl⟩
  have b1 := numS_bd bt1
  rw [e1] at b1
  obtain ⟨_, _, bt2, ln2⟩ := b1
  have N1 := Lib.hid e1
  obtain ⟨⟨a2, σ3⟩, e2⟩ : ∃ x, numS σ2 = x := ⟨_, rfl⟩
  have b2 := numS_bd bt2
  rw [e2] at b2
  obtain ⟨_, _, bt3, ln3⟩ := b2
  have N2 := Lib.hid e2
  have HV := Lib.hid (show decPsS [105, 111] ⟨k, 0, 0, fin, 0, [], []⟩ σ1 = toE σ3 ⟨k, a1, a2, fin, 0, [], []⟩ by rw [stepS_i e1, stepS_o e2, decPsS_nil])
  have BZ := Lib.hid (((Below.refl w.heap.size w).alloc (Nat.le_refl _) (.cells #[.int .i64 0, .int .i64 0, .int .i64 0, .bool false, .int .i64 0, .slice none 0 0, .slice none 0 0] 25)).alloc (by simp) (.cells #[.int .i64 0, .int .i64 0, .int .i64 0, .bool false, .int .i64 0, .slice none 0 0, .slice none 0 0] 25))
  have P0 := Lib.hid (show ((w.alloc (.cells #[.int .i64 0, .int .i64 0, .int .i64 0, .bool false, .int .i64 0, .slice none 0 0, .slice none 0 0] 25)).alloc (.cells #[.int .i64 0, .int .i64 0, .int .i64 0, .bool false, .int .i64 0, .slice none 0 0, .slice none 0 0] 25)).heap[w.heap.size]? = some (.cells #[.int .i64 0, .int .i64 0, .int .i64 0, .bool false, .int .i64 0, .slice none 0 0, .slice none 0 0] 25 (0, 0)) from (Below.heap_alloc _ _ _ (by simp)).trans (heap_alloc_new w _))
  have F0 := Lib.hid (show ((w.alloc (.cells #[.int .i64 0, .int .i64 0, .int .i64 0, .bool false, .int .i64 0, .slice none 0 0, .slice none 0 0] 25)).alloc (.cells #[.int .i64 0, .int .i64 0, .int .i64 0, .bool false, .int .i64 0, .slice none 0 0, .slice none 0 0] 25)).heap[w.heap.size + 1]? = some (.cells #[.int .i64 0, .int .i64 0, .int .i64 0, .bool false, .int .i64 0, .slice none 0 0, .slice none 0 0] 25 (0, 0)) by have := heap_alloc_new (w.alloc (.cells #[.int .i64 0, .int .i64 0, .int .i64 0, .bool false, .int .i64 0, .slice none 0 0, .slice none 0 0] 25)) (.cells #[.int .i64 0, .int .i64 0, .int .i64 0, .bool false, .int .i64 0, .slice none 0 0, .slice none 0 0] 25); simpa using this)
  have E0 := Lib.hid (h.keep BZ.out)
  clear h hk b0 hp
  go_enter Try.func21, Try.ntmps21
  go_wp2_with (first
    | (go_at_call 35; refine (number_eye y σ2 _ HE2.out).mono ?_; rintro e w3 ⟨rfl, E, g⟩; rw [N2.out] at E; rw [N2.out]; have E' : EyeAt w3 y σ3 := E; have F3a := Lib.hid ((g.block (w.heap.size + 1) (lt_of_block F2.out) (by first | (simp; done) | (simp; omega) | omega)).trans F2.out); have P3a := Lib.hid ((g.block w.heap.size (lt_of_block P2.out) (by first | (simp; done) | (simp; omega) | omega)).trans P2.out); clear q0 q1 q2 q3 q4 q5 q6 qf t0; obtain ⟨q0, q1, q2, q3, q4, q5, q6, qf⟩ := blk7 F3a.out; have ga := grown_set w3 (w.heap.size + 1) 2 (.int .i64 a2); have Fb : (w3.setCell ⟨w.heap.size + 1, 2, none⟩ (.int .i64 a2)).heap[w.heap.size + 1]? = some (.cells #[.int .i64 k, .int .i64 a1, .int .i64 a2, .bool fin, .int .i64 0, .slice none 0 0, .slice none 0 0] 25 (0, 0)) := (by simpa using blk_set F3a.out 2 (.int .i64 a2)); have t0 := (blk7 Fb).2.2.1; have F3 := Lib.hid Fb; have P3 := Lib.hid ((ga.block w.heap.size (lt_of_block P3a.out) (by simp)).trans P3a.out); have HE3 := Lib.hid (E'.other ga (by omega)); have G3 := Lib.hid (grown_other (grown_trans G2.out g) ga (by omega)); have SZ3 := Lib.hid (lt_of_block F2.out); clear E E' g ga Fb; obtain ⟨p0, p1, p2, p3, p4, p5, p6, pf⟩ := blk7 P3a.out)
    | (go_at_call 35; refine (number_eye y σ1 _ HE1.out).mono ?_; rintro e w2 ⟨rfl, E, g⟩; rw [N1.out] at E; rw [N1.out]; have E' : EyeAt w2 y σ2 := E; have F2a := Lib.hid ((g.block (w.heap.size + 1) (lt_of_block F1.out) (by first | (simp; done) | (simp; omega) | omega)).trans F1.out); have P2a := Lib.hid ((g.block w.heap.size (lt_of_block P1.out) (by first | (simp; done) | (simp; omega) | omega)).trans P1.out); clear q0 q1 q2 q3 q4 q5 q6 qf t0; obtain ⟨q0, q1, q2, q3, q4, q5, q6, qf⟩ := blk7 F2a.out; have ga := grown_set w2 (w.heap.size + 1) 1 (.int .i64 a1); have Fb : (w2.setCell ⟨w.heap.size + 1, 1, none⟩ (.int .i64 a1)).heap[w.heap.size + 1]? = some (.cells #[.int .i64 k, .int .i64 a1, .int .i64 0, .bool fin, .int .i64 0, .slice none 0 0, .slice none 0 0] 25 (0, 0)) := (by simpa using blk_set F2a.out 1 (.int .i64 a1)); have t0 := (blk7 Fb).2.1; have F2 := Lib.hid Fb; have P2 := Lib.hid ((ga.block w.heap.size (lt_of_block P2a.out) (by simp)).trans P2a.out); have HE2 := Lib.hid (E'.other ga (by omega)); have G2 := Lib.hid (grown_other (grown_trans G1.out g) ga (by omega)); have SZ2 := Lib.hid (lt_of_block F1.out); clear E E' g ga Fb)
    | (go_at_call 33; refine (refuse_no _ _ _).mono ?_; rintro e w' ⟨rfl, rfl⟩)
    | (go_at_call 28; refine (hasP_any _ _ _).mono ?_; rintro e w' ⟨rfl, rfl⟩)
    | (go_at_call 14; refine (partsOf_any _ _).mono ?_; rintro e w' ⟨rfl, rfl⟩)
    | (go_at_call 32; refine (kind_eye y σ _ E0.out).mono ?_; rintro e w1 ⟨rfl, E, g⟩; rw [HK.out] at E; rw [HK.out]; have F1a := Lib.hid ((g.block (w.heap.size + 1) (lt_of_block F0.out) (by first | (simp; done) | (simp; omega) | omega)).trans F0.out); have P1a := Lib.hid ((g.block w.heap.size (lt_of_block P0.out) (by first | (simp; done) | (simp; omega) | omega)).trans P0.out); obtain ⟨q0, q1, q2, q3, q4, q5, q6, qf⟩ := blk7 F1a.out; have ga := grown_set w1 (w.heap.size + 1) 0 (.int .i64 k); have gb := grown_set (w1.setCell ⟨w.heap.size + 1, 0, none⟩ (.int .i64 k)) (w.heap.size + 1) 3 (.bool fin); have F1b : (w1.setCell ⟨w.heap.size + 1, 0, none⟩ (.int .i64 k)).heap[w.heap.size + 1]? = some (.cells #[.int .i64 k, .int .i64 0, .int .i64 0, .bool false, .int .i64 0, .slice none 0 0, .slice none 0 0] 25 (0, 0)) := (by simpa using blk_set F1a.out 0 (.int .i64 k)); have t0 := (blk7 F1b).1; have F1 := Lib.hid (show ((w1.setCell ⟨w.heap.size + 1, 0, none⟩ (.int .i64 k)).setCell ⟨w.heap.size + 1, 3, none⟩ (.bool fin)).heap[w.heap.size + 1]? = some (.cells #[.int .i64 k, .int .i64 0, .int .i64 0, .bool fin, .int .i64 0, .slice none 0 0, .slice none 0 0] 25 (0, 0)) by simpa using blk_set F1b 3 (.bool fin)); have P1 := Lib.hid ((gb.block w.heap.size (by have := lt_of_block F1b; omega) (by first | (simp; done) | omega)).trans ((ga.block w.heap.size (lt_of_block P1a.out) (by simp)).trans P1a.out)); have HE1 := Lib.hid (EyeAt.other (EyeAt.other (show EyeAt w1 y σ1 from E) ga (by omega)) gb (by omega)); have G1 := Lib.hid (grown_other (grown_other (grown_trans (grown_below (some y) BZ.out) g) ga (by omega)) gb (by omega)); clear E g ga gb F1b))
  obtain ⟨u0, u1, u2, u3, u4, u5, u6, _, gput⟩ := blk7_put P3.out (.int .i64 k) (.int .i64 a1) (.int .i64 a2) (.bool fin) (.int .i64 0) (.slice none 0 0) (.slice none 0 0)
  have GP := Lib.hid gput
  clear gput
  (try simp only [Exit.inBlock, Exit.then])
  refine bodyPost_ret (by simp [results, Try.results21, go_sem, u0, u1, u2, u3, u4, u5, u6]; try rfl) rfl ?_
  exact ⟨_, ⟨k, a1, a2, fin, 0, [], []⟩, σ3, rfl, HV.out, ⟨_, _, rfl, OwnR.nil _ _ _, World.ownsRow_nil _ _ _ _, Byt.nil⟩, HE3.out.other GP.out hy, grown_other G3.out GP.out (Nat.le_refl _)⟩

end Go.Proofs.Ytjeocggocloigaa
/- The eye's frame, where a kind has the parts 'w'. -/
namespace Go.Proofs.Ytjeocggocloigaa
set_option linter.unusedVariables false
open Go.RowKit P

set_option maxRecDepth 100000 in
set_option maxHeartbeats 4000000 in
theorem frame_w (y : Nat) (σ : St) (w : World) (h : EyeAt w y σ) (hm : σ.2.length ≤ 140737488355328) (k : Int) (fin : Bool) (σ1 : St) (hk : kindS σ = ((k, fin), σ1)) (hp : partsOf k = some [119]) :
    Calls Try.prog 21 #[.pointer (some ⟨y, 0, none⟩)] w (FramePost y [119] k fin σ1 w) := by
  have hy := h.lt
  obtain ⟨m1, m2, m4, m8, m16, m32, m64, _⟩ := mask_of hp
  have g1 : hasM (maskOf k) 1 = false := m1.trans (by decide)
  have g2 : hasM (maskOf k) 2 = false := m2.trans (by decide)
  have g8 : hasM (maskOf k) 8 = true := m8.trans (by decide)
  have g16 : hasM (maskOf k) 16 = true := m16.trans (by decide)
  have g32 : hasM (maskOf k) 32 = false := m32.trans (by decide)
  have g64 : hasM (maskOf k) 64 = false := m64.trans (by decide)
  clear m1 m2 m4 m8 m16 m32 m64
  have hs : (partsOf k).isSome = true := by rw [hp]; rfl
  have b0 := numS_bd h.byt
  have hk1 : Byt σ1.2 ∧ σ1.2.length ≤ σ.2.length := by
    have hs2 : (kindS σ).2 = σ1 := by rw [hk]
    rw [← hs2]
    unfold kindS
    split
    · exact ⟨b0.2.2.1, b0.2.2.2⟩
    · split
      · simp only [refS_left]; exact ⟨b0.2.2.1, b0.2.2.2⟩
      · exact ⟨b0.2.2.1, b0.2.2.2⟩
  obtain ⟨bt1, ln1⟩ := hk1
  have HK := Lib.hid hk
  obtain ⟨⟨a1, σ2⟩, e1⟩ : ∃ x, wordS σ1 = x := ⟨_, rfl⟩
  have hw0 := congrArg Prod.fst e1
  simp only [wordS] at hw0
  have hwl : (takeS 8 σ1).1.length ≤ 8 := by
    unfold takeS
    split
    · simp; omega
    · simp
  have hwb := beFrom_all 0 _ (takeS_bd (σ := σ1) bt1 8).1 (by omega)
  rw [hw0] at hwb
  have hwp : (256 : Int) ^ (takeS 8 σ1).1.length ≤ 18446744073709551616 := by
    generalize (takeS 8 σ1).1.length = u at hwl ⊢
    have cc : u = 0 ∨ u = 1 ∨ u = 2 ∨ u = 3 ∨ u = 4 ∨ u = 5 ∨ u = 6 ∨ u = 7 ∨ u = 8 := by omega
    rcases cc with rfl | rfl | rfl | rfl | rfl | rfl | rfl | rfl | rfl <;> decide
  have hww : IntKind.i64.wrap a1 = i64Of a1 := i64Of_wrap _ hwb.1 (by generalize (256 : Int) ^ (takeS 8 σ1).1.length = u at hwb hwp; omega)
  clear hw0 hwl hwb hwp
  have N1 := Lib.hid e1
  have HV := Lib.hid (show decPsS [119] ⟨k, 0, 0, fin, 0, [], []⟩ σ1 = toE σ2 ⟨k, 0, 0, fin, (i64Of a1), [], []⟩ by rw [stepS_w e1, decPsS_nil])
  have BZ := Lib.hid (((Below.refl w.heap.size w).alloc (Nat.le_refl _) (.cells #[.int .i64 0, .int .i64 0, .int .i64 0, .bool false, .int .i64 0, .slice none 0 0, .slice none 0 0] 25)).alloc (by simp) (.cells #[.int .i64 0, .int .i64 0, .int .i64 0, .bool false, .int .i64 0, .slice none 0 0, .slice none 0 0] 25))
  have P0 := Lib.hid (show ((w.alloc (.cells #[.int .i64 0, .int .i64 0, .int .i64 0, .bool false, .int .i64 0, .slice none 0 0, .slice none 0 0] 25)).alloc (.cells #[.int .i64 0, .int .i64 0, .int .i64 0, .bool false, .int .i64 0, .slice none 0 0, .slice none 0 0] 25)).heap[w.heap.size]? = some (.cells #[.int .i64 0, .int .i64 0, .int .i64 0, .bool false, .int .i64 0, .slice none 0 0, .slice none 0 0] 25 (0, 0)) from (Below.heap_alloc _ _ _ (by simp)).trans (heap_alloc_new w _))
  have F0 := Lib.hid (show ((w.alloc (.cells #[.int .i64 0, .int .i64 0, .int .i64 0, .bool false, .int .i64 0, .slice none 0 0, .slice none 0 0] 25)).alloc (.cells #[.int .i64 0, .int .i64 0, .int .i64 0, .bool false, .int .i64 0, .slice none 0 0, .slice none 0 0] 25)).heap[w.heap.size + 1]? = some (.cells #[.int .i64 0, .int .i64 0, .int .i64 0, .bool false, .int .i64 0, .slice none 0 0, .slice none 0 0] 25 (0, 0)) by have := heap_alloc_new (w.alloc (.cells #[.int .i64 0, .int .i64 0, .int .i64 0, .bool false, .int .i64 0, .slice none 0 0, .slice none 0 0] 25)) (.cells #[.int .i64 0, .int .i64 0, .int .i64 0, .bool false, .int .i64 0, .slice none 0 0, .slice none 0 0] 25); simpa using this)
  have E0 := Lib.hid (h.keep BZ.out)
  clear h hk b0 hp
  go_enter Try.func21, Try.ntmps21
  go_wp2_with (first
    | (go_at_call 36; refine (word_eye y σ1 _ HE1.out).mono ?_; rintro e w2 ⟨rfl, E, g⟩; rw [N1.out] at E; rw [N1.out]; have E' : EyeAt w2 y σ2 := E; have F2a := Lib.hid ((g.block (w.heap.size + 1) (lt_of_block F1.out) (by first | (simp; done) | (simp; omega) | omega)).trans F1.out); have P2a := Lib.hid ((g.block w.heap.size (lt_of_block P1.out) (by first | (simp; done) | (simp; omega) | omega)).trans P1.out); clear q0 q1 q2 q3 q4 q5 q6 qf t0; obtain ⟨q0, q1, q2, q3, q4, q5, q6, qf⟩ := blk7 F2a.out; have ga := grown_set w2 (w.heap.size + 1) 4 (.int .i64 (i64Of a1)); have Fb : (w2.setCell ⟨w.heap.size + 1, 4, none⟩ (.int .i64 (i64Of a1))).heap[w.heap.size + 1]? = some (.cells #[.int .i64 k, .int .i64 0, .int .i64 0, .bool fin, .int .i64 (i64Of a1), .slice none 0 0, .slice none 0 0] 25 (0, 0)) := (by simpa using blk_set F2a.out 4 (.int .i64 (i64Of a1))); have t0 := (blk7 Fb).2.2.2.2.1; have F2 := Lib.hid Fb; have P2 := Lib.hid ((ga.block w.heap.size (lt_of_block P2a.out) (by simp)).trans P2a.out); have HE2 := Lib.hid (E'.other ga (by omega)); have G2 := Lib.hid (grown_other (grown_trans G1.out g) ga (by omega)); have SZ2 := Lib.hid (lt_of_block F1.out); clear E E' g ga Fb; obtain ⟨p0, p1, p2, p3, p4, p5, p6, pf⟩ := blk7 P2a.out)
    | (go_at_call 33; refine (refuse_no _ _ _).mono ?_; rintro e w' ⟨rfl, rfl⟩)
    | (go_at_call 28; refine (hasP_any _ _ _).mono ?_; rintro e w' ⟨rfl, rfl⟩)
    | (go_at_call 14; refine (partsOf_any _ _).mono ?_; rintro e w' ⟨rfl, rfl⟩)
    | (go_at_call 32; refine (kind_eye y σ _ E0.out).mono ?_; rintro e w1 ⟨rfl, E, g⟩; rw [HK.out] at E; rw [HK.out]; have F1a := Lib.hid ((g.block (w.heap.size + 1) (lt_of_block F0.out) (by first | (simp; done) | (simp; omega) | omega)).trans F0.out); have P1a := Lib.hid ((g.block w.heap.size (lt_of_block P0.out) (by first | (simp; done) | (simp; omega) | omega)).trans P0.out); obtain ⟨q0, q1, q2, q3, q4, q5, q6, qf⟩ := blk7 F1a.out; have ga := grown_set w1 (w.heap.size + 1) 0 (.int .i64 k); have gb := grown_set (w1.setCell ⟨w.heap.size + 1, 0, none⟩ (.int .i64 k)) (w.heap.size + 1) 3 (.bool fin); have F1b : (w1.setCell ⟨w.heap.size + 1, 0, none⟩ (.int .i64 k)).heap[w.heap.size + 1]? = some (.cells #[.int .i64 k, .int .i64 0, .int .i64 0, .bool false, .int .i64 0, .slice none 0 0, .slice none 0 0] 25 (0, 0)) := (by simpa using blk_set F1a.out 0 (.int .i64 k)); have t0 := (blk7 F1b).1; have F1 := Lib.hid (show ((w1.setCell ⟨w.heap.size + 1, 0, none⟩ (.int .i64 k)).setCell ⟨w.heap.size + 1, 3, none⟩ (.bool fin)).heap[w.heap.size + 1]? = some (.cells #[.int .i64 k, .int .i64 0, .int .i64 0, .bool fin, .int .i64 0, .slice none 0 0, .slice none 0 0] 25 (0, 0)) by simpa using blk_set F1b 3 (.bool fin)); have P1 := Lib.hid ((gb.block w.heap.size (by have := lt_of_block F1b; omega) (by first | (simp; done) | omega)).trans ((ga.block w.heap.size (lt_of_block P1a.out) (by simp)).trans P1a.out)); have HE1 := Lib.hid (EyeAt.other (EyeAt.other (show EyeAt w1 y σ1 from E) ga (by omega)) gb (by omega)); have G1 := Lib.hid (grown_other (grown_other (grown_trans (grown_below (some y) BZ.out) g) ga (by omega)) gb (by omega)); clear E g ga gb F1b))
  obtain ⟨u0, u1, u2, u3, u4, u5, u6, _, gput⟩ := blk7_put P2.out (.int .i64 k) (.int .i64 0) (.int .i64 0) (.bool fin) (.int .i64 (i64Of a1)) (.slice none 0 0) (.slice none 0 0)
  have GP := Lib.hid gput
  clear gput
  (try simp only [Exit.inBlock, Exit.then])
  refine bodyPost_ret (by simp [results, Try.results21, go_sem, u0, u1, u2, u3, u4, u5, u6]; try rfl) rfl ?_
  exact ⟨_, ⟨k, 0, 0, fin, (i64Of a1), [], []⟩, σ2, rfl, HV.out, ⟨_, _, rfl, OwnR.nil _ _ _, World.ownsRow_nil _ _ _ _, Byt.nil⟩, HE2.out.other GP.out hy, grown_other G2.out GP.out (Nat.le_refl _)⟩

end Go.Proofs.Ytjeocggocloigaa
/- The eye's frame, where a kind has the parts 'c'. -/
namespace Go.Proofs.Ytjeocggocloigaa
set_option linter.unusedVariables false
open Go.RowKit P

set_option maxRecDepth 100000 in
set_option maxHeartbeats 4000000 in
theorem frame_c (y : Nat) (σ : St) (w : World) (h : EyeAt w y σ) (hm : σ.2.length ≤ 140737488355328) (k : Int) (fin : Bool) (σ1 : St) (hk : kindS σ = ((k, fin), σ1)) (hp : partsOf k = some [99]) :
    Calls Try.prog 21 #[.pointer (some ⟨y, 0, none⟩)] w (FramePost y [99] k fin σ1 w) := by
  have hy := h.lt
  obtain ⟨m1, m2, m4, m8, m16, m32, m64, _⟩ := mask_of hp
  have g1 : hasM (maskOf k) 1 = false := m1.trans (by decide)
  have g2 : hasM (maskOf k) 2 = false := m2.trans (by decide)
  have g8 : hasM (maskOf k) 8 = true := m8.trans (by decide)
  have g16 : hasM (maskOf k) 16 = false := m16.trans (by decide)
  have g32 : hasM (maskOf k) 32 = false := m32.trans (by decide)
  have g64 : hasM (maskOf k) 64 = false := m64.trans (by decide)
  clear m1 m2 m4 m8 m16 m32 m64
  have hs : (partsOf k).isSome = true := by rw [hp]; rfl
  have b0 := numS_bd h.byt
  have hk1 : Byt σ1.2 ∧ σ1.2.length ≤ σ.2.length := by
    have hs2 : (kindS σ).2 = σ1 := by rw [hk]
    rw [← hs2]
    unfold kindS
    split
    · exact ⟨b0.2.2.1, b0.2.2.2⟩
    · split
      · simp only [refS_left]; exact ⟨b0.2.2.1, b0.2.2.2⟩
      · exact ⟨b0.2.2.1, b0.2.2.2⟩
  obtain ⟨bt1, ln1⟩ := hk1
  have HK := Lib.hid hk
  obtain ⟨⟨a1, σ2⟩, e1⟩ : ∃ x, numS σ1 = x := ⟨_, rfl⟩
  have b1 := numS_bd bt1
  rw [e1] at b1
  obtain ⟨_, _, bt2, ln2⟩ := b1
  have N1 := Lib.hid e1
  have HV := Lib.hid (show decPsS [99] ⟨k, 0, 0, fin, 0, [], []⟩ σ1 = toE σ2 ⟨k, 0, 0, fin, a1, [], []⟩ by rw [stepS_c e1, decPsS_nil])
  have BZ := Lib.hid (((Below.refl w.heap.size w).alloc (Nat.le_refl _) (.cells #[.int .i64 0, .int .i64 0, .int .i64 0, .bool false, .int .i64 0, .slice none 0 0, .slice none 0 0] 25)).alloc (by simp) (.cells #[.int .i64 0, .int .i64 0, .int .i64 0, .bool false, .int .i64 0, .slice none 0 0, .slice none 0 0] 25))
  have P0 := Lib.hid (show ((w.alloc (.cells #[.int .i64 0, .int .i64 0, .int .i64 0, .bool false, .int .i64 0, .slice none 0 0, .slice none 0 0] 25)).alloc (.cells #[.int .i64 0, .int .i64 0, .int .i64 0, .bool false, .int .i64 0, .slice none 0 0, .slice none 0 0] 25)).heap[w.heap.size]? = some (.cells #[.int .i64 0, .int .i64 0, .int .i64 0, .bool false, .int .i64 0, .slice none 0 0, .slice none 0 0] 25 (0, 0)) from (Below.heap_alloc _ _ _ (by simp)).trans (heap_alloc_new w _))
  have F0 := Lib.hid (show ((w.alloc (.cells #[.int .i64 0, .int .i64 0, .int .i64 0, .bool false, .int .i64 0, .slice none 0 0, .slice none 0 0] 25)).alloc (.cells #[.int .i64 0, .int .i64 0, .int .i64 0, .bool false, .int .i64 0, .slice none 0 0, .slice none 0 0] 25)).heap[w.heap.size + 1]? = some (.cells #[.int .i64 0, .int .i64 0, .int .i64 0, .bool false, .int .i64 0, .slice none 0 0, .slice none 0 0] 25 (0, 0)) by have := heap_alloc_new (w.alloc (.cells #[.int .i64 0, .int .i64 0, .int .i64 0, .bool false, .int .i64 0, .slice none 0 0, .slice none 0 0] 25)) (.cells #[.int .i64 0, .int .i64 0, .int .i64 0, .bool false, .int .i64 0, .slice none 0 0, .slice none 0 0] 25); simpa using this)
  have E0 := Lib.hid (h.keep BZ.out)
  clear h hk b0 hp
  go_enter Try.func21, Try.ntmps21
  go_wp2_with (first
    | (go_at_call 35; refine (number_eye y σ1 _ HE1.out).mono ?_; rintro e w2 ⟨rfl, E, g⟩; rw [N1.out] at E; rw [N1.out]; have E' : EyeAt w2 y σ2 := E; have F2a := Lib.hid ((g.block (w.heap.size + 1) (lt_of_block F1.out) (by first | (simp; done) | (simp; omega) | omega)).trans F1.out); have P2a := Lib.hid ((g.block w.heap.size (lt_of_block P1.out) (by first | (simp; done) | (simp; omega) | omega)).trans P1.out); clear q0 q1 q2 q3 q4 q5 q6 qf t0; obtain ⟨q0, q1, q2, q3, q4, q5, q6, qf⟩ := blk7 F2a.out; have ga := grown_set w2 (w.heap.size + 1) 4 (.int .i64 a1); have Fb : (w2.setCell ⟨w.heap.size + 1, 4, none⟩ (.int .i64 a1)).heap[w.heap.size + 1]? = some (.cells #[.int .i64 k, .int .i64 0, .int .i64 0, .bool fin, .int .i64 a1, .slice none 0 0, .slice none 0 0] 25 (0, 0)) := (by simpa using blk_set F2a.out 4 (.int .i64 a1)); have t0 := (blk7 Fb).2.2.2.2.1; have F2 := Lib.hid Fb; have P2 := Lib.hid ((ga.block w.heap.size (lt_of_block P2a.out) (by simp)).trans P2a.out); have HE2 := Lib.hid (E'.other ga (by omega)); have G2 := Lib.hid (grown_other (grown_trans G1.out g) ga (by omega)); have SZ2 := Lib.hid (lt_of_block F1.out); clear E E' g ga Fb; obtain ⟨p0, p1, p2, p3, p4, p5, p6, pf⟩ := blk7 P2a.out)
    | (go_at_call 33; refine (refuse_no _ _ _).mono ?_; rintro e w' ⟨rfl, rfl⟩)
    | (go_at_call 28; refine (hasP_any _ _ _).mono ?_; rintro e w' ⟨rfl, rfl⟩)
    | (go_at_call 14; refine (partsOf_any _ _).mono ?_; rintro e w' ⟨rfl, rfl⟩)
    | (go_at_call 32; refine (kind_eye y σ _ E0.out).mono ?_; rintro e w1 ⟨rfl, E, g⟩; rw [HK.out] at E; rw [HK.out]; have F1a := Lib.hid ((g.block (w.heap.size + 1) (lt_of_block F0.out) (by first | (simp; done) | (simp; omega) | omega)).trans F0.out); have P1a := Lib.hid ((g.block w.heap.size (lt_of_block P0.out) (by first | (simp; done) | (simp; omega) | omega)).trans P0.out); obtain ⟨q0, q1, q2, q3, q4, q5, q6, qf⟩ := blk7 F1a.out; have ga := grown_set w1 (w.heap.size + 1) 0 (.int .i64 k); have gb := grown_set (w1.setCell ⟨w.heap.size + 1, 0, none⟩ (.int .i64 k)) (w.heap.size + 1) 3 (.bool fin); have F1b : (w1.setCell ⟨w.heap.size + 1, 0, none⟩ (.int .i64 k)).heap[w.heap.size + 1]? = some (.cells #[.int .i64 k, .int .i64 0, .int .i64 0, .bool false, .int .i64 0, .slice none 0 0, .slice none 0 0] 25 (0, 0)) := (by simpa using blk_set F1a.out 0 (.int .i64 k)); have t0 := (blk7 F1b).1; have F1 := Lib.hid (show ((w1.setCell ⟨w.heap.size + 1, 0, none⟩ (.int .i64 k)).setCell ⟨w.heap.size + 1, 3, none⟩ (.bool fin)).heap[w.heap.size + 1]? = some (.cells #[.int .i64 k, .int .i64 0, .int .i64 0, .bool fin, .int .i64 0, .slice none 0 0, .slice none 0 0] 25 (0, 0)) by simpa using blk_set F1b 3 (.bool fin)); have P1 := Lib.hid ((gb.block w.heap.size (by have := lt_of_block F1b; omega) (by first | (simp; done) | omega)).trans ((ga.block w.heap.size (lt_of_block P1a.out) (by simp)).trans P1a.out)); have HE1 := Lib.hid (EyeAt.other (EyeAt.other (show EyeAt w1 y σ1 from E) ga (by omega)) gb (by omega)); have G1 := Lib.hid (grown_other (grown_other (grown_trans (grown_below (some y) BZ.out) g) ga (by omega)) gb (by omega)); clear E g ga gb F1b))
  obtain ⟨u0, u1, u2, u3, u4, u5, u6, _, gput⟩ := blk7_put P2.out (.int .i64 k) (.int .i64 0) (.int .i64 0) (.bool fin) (.int .i64 a1) (.slice none 0 0) (.slice none 0 0)
  have GP := Lib.hid gput
  clear gput
  (try simp only [Exit.inBlock, Exit.then])
  refine bodyPost_ret (by simp [results, Try.results21, go_sem, u0, u1, u2, u3, u4, u5, u6]; try rfl) rfl ?_
  exact ⟨_, ⟨k, 0, 0, fin, a1, [], []⟩, σ2, rfl, HV.out, ⟨_, _, rfl, OwnR.nil _ _ _, World.ownsRow_nil _ _ _ _, Byt.nil⟩, HE2.out.other GP.out hy, grown_other G2.out GP.out (Nat.le_refl _)⟩

end Go.Proofs.Ytjeocggocloigaa
/- The eye's frame, where a kind has the parts 'unk'. -/
namespace Go.Proofs.Ytjeocggocloigaa
set_option linter.unusedVariables false
open Go.RowKit P

set_option maxRecDepth 100000 in
set_option maxHeartbeats 4000000 in
theorem frame_unk (y : Nat) (σ : St) (w : World) (h : EyeAt w y σ) (hm : σ.2.length ≤ 140737488355328) (k : Int) (fin : Bool) (σ1 : St) (hk : kindS σ = ((k, fin), σ1)) (hp : partsOf k = none) :
    Calls Try.prog 21 #[.pointer (some ⟨y, 0, none⟩)] w (FramePost y [] k fin (refS true 2 σ1) w) := by
  have hy := h.lt
  have mk : maskOf k = 0 := by
    unfold maskOf
    unfold partsOf at hp
    by_cases e : k = 2 ∨ k = 4 ∨ k = 5 ∨ k = 6 ∨ k = 7 ∨ k = 8 ∨ k = 16 ∨ k = 17 ∨ k = 18 ∨ k = 26 ∨ k = 27 ∨ k = 28
    · rcases e with rfl | rfl | rfl | rfl | rfl | rfl | rfl | rfl | rfl | rfl | rfl | rfl <;> simp at hp
    · simp only [not_or] at e
      simp [e]
  have g1 : hasM (maskOf k) 1 = false := by rw [mk]; decide +kernel
  have g2 : hasM (maskOf k) 2 = false := by rw [mk]; decide +kernel
  have g8 : hasM (maskOf k) 8 = false := by rw [mk]; decide +kernel
  have g16 : hasM (maskOf k) 16 = false := by rw [mk]; decide +kernel
  have g32 : hasM (maskOf k) 32 = false := by rw [mk]; decide +kernel
  have g64 : hasM (maskOf k) 64 = false := by rw [mk]; decide +kernel
  clear mk
  have hs : (partsOf k).isSome = false := by rw [hp]; rfl
  have b0 := numS_bd h.byt
  have hk1 : Byt σ1.2 ∧ σ1.2.length ≤ σ.2.length := by
    have hs2 : (kindS σ).2 = σ1 := by rw [hk]
    rw [← hs2]
    unfold kindS
    split
    · exact ⟨b0.2.2.1, b0.2.2.2⟩
    · split
      · simp only [refS_left]; exact ⟨b0.2.2.1, b0.2.2.2⟩
      · exact ⟨b0.2.2.1, b0.2.2.2⟩
  obtain ⟨bt1, ln1⟩ := hk1
  have HK := Lib.hid hk
  clear bt1 ln1
  have HV := Lib.hid (show decPsS [] ⟨k, 0, 0, fin, 0, [], []⟩ (refS true 2 σ1) = toE (refS true 2 σ1) ⟨k, 0, 0, fin, 0, [], []⟩ from rfl)
  have BZ := Lib.hid (((Below.refl w.heap.size w).alloc (Nat.le_refl _) (.cells #[.int .i64 0, .int .i64 0, .int .i64 0, .bool false, .int .i64 0, .slice none 0 0, .slice none 0 0] 25)).alloc (by simp) (.cells #[.int .i64 0, .int .i64 0, .int .i64 0, .bool false, .int .i64 0, .slice none 0 0, .slice none 0 0] 25))
  have P0 := Lib.hid (show ((w.alloc (.cells #[.int .i64 0, .int .i64 0, .int .i64 0, .bool false, .int .i64 0, .slice none 0 0, .slice none 0 0] 25)).alloc (.cells #[.int .i64 0, .int .i64 0, .int .i64 0, .bool false, .int .i64 0, .slice none 0 0, .slice none 0 0] 25)).heap[w.heap.size]? = some (.cells #[.int .i64 0, .int .i64 0, .int .i64 0, .bool false, .int .i64 0, .slice none 0 0, .slice none 0 0] 25 (0, 0)) from (Below.heap_alloc _ _ _ (by simp)).trans (heap_alloc_new w _))
  have F0 := Lib.hid (show ((w.alloc (.cells #[.int .i64 0, .int .i64 0, .int .i64 0, .bool false, .int .i64 0, .slice none 0 0, .slice none 0 0] 25)).alloc (.cells #[.int .i64 0, .int .i64 0, .int .i64 0, .bool false, .int .i64 0, .slice none 0 0, .slice none 0 0] 25)).heap[w.heap.size + 1]? = some (.cells #[.int .i64 0, .int .i64 0, .int .i64 0, .bool false, .int .i64 0, .slice none 0 0, .slice none 0 0] 25 (0, 0)) by have := heap_alloc_new (w.alloc (.cells #[.int .i64 0, .int .i64 0, .int .i64 0, .bool false, .int .i64 0, .slice none 0 0, .slice none 0 0] 25)) (.cells #[.int .i64 0, .int .i64 0, .int .i64 0, .bool false, .int .i64 0, .slice none 0 0, .slice none 0 0] 25); simpa using this)
  have E0 := Lib.hid (h.keep BZ.out)
  clear h hk b0 hp
  go_enter Try.func21, Try.ntmps21
  go_wp2_with (first
    | (go_at_call 33; refine (refuse_eye y σ1 _ _ _ HE1.out).mono ?_; rintro e w2 ⟨rfl, E, g⟩; have F2 := Lib.hid ((g.block (w.heap.size + 1) (lt_of_block F1.out) (by first | (simp; done) | (simp; omega) | omega)).trans F1.out); have P2 := Lib.hid ((g.block w.heap.size (lt_of_block P1.out) (by first | (simp; done) | (simp; omega) | omega)).trans P1.out); clear q0 q1 q2 q3 q4 q5 q6 qf t0; obtain ⟨q0, q1, q2, q3, q4, q5, q6, qf⟩ := blk7 F2.out; have HE2 := Lib.hid E; have G2 := Lib.hid (grown_trans G1.out g); clear E g; obtain ⟨p0, p1, p2, p3, p4, p5, p6, pf⟩ := blk7 P2.out)
    | (go_at_call 28; refine (hasP_any _ _ _).mono ?_; rintro e w' ⟨rfl, rfl⟩)
    | (go_at_call 14; refine (partsOf_any _ _).mono ?_; rintro e w' ⟨rfl, rfl⟩)
    | (go_at_call 32; refine (kind_eye y σ _ E0.out).mono ?_; rintro e w1 ⟨rfl, E, g⟩; rw [HK.out] at E; rw [HK.out]; have F1a := Lib.hid ((g.block (w.heap.size + 1) (lt_of_block F0.out) (by first | (simp; done) | (simp; omega) | omega)).trans F0.out); have P1a := Lib.hid ((g.block w.heap.size (lt_of_block P0.out) (by first | (simp; done) | (simp; omega) | omega)).trans P0.out); obtain ⟨q0, q1, q2, q3, q4, q5, q6, qf⟩ := blk7 F1a.out; have ga := grown_set w1 (w.heap.size + 1) 0 (.int .i64 k); have gb := grown_set (w1.setCell ⟨w.heap.size + 1, 0, none⟩ (.int .i64 k)) (w.heap.size + 1) 3 (.bool fin); have F1b : (w1.setCell ⟨w.heap.size + 1, 0, none⟩ (.int .i64 k)).heap[w.heap.size + 1]? = some (.cells #[.int .i64 k, .int .i64 0, .int .i64 0, .bool false, .int .i64 0, .slice none 0 0, .slice none 0 0] 25 (0, 0)) := (by simpa using blk_set F1a.out 0 (.int .i64 k)); have t0 := (blk7 F1b).1; have F1 := Lib.hid (show ((w1.setCell ⟨w.heap.size + 1, 0, none⟩ (.int .i64 k)).setCell ⟨w.heap.size + 1, 3, none⟩ (.bool fin)).heap[w.heap.size + 1]? = some (.cells #[.int .i64 k, .int .i64 0, .int .i64 0, .bool fin, .int .i64 0, .slice none 0 0, .slice none 0 0] 25 (0, 0)) by simpa using blk_set F1b 3 (.bool fin)); have P1 := Lib.hid ((gb.block w.heap.size (by have := lt_of_block F1b; omega) (by first | (simp; done) | omega)).trans ((ga.block w.heap.size (lt_of_block P1a.out) (by simp)).trans P1a.out)); have HE1 := Lib.hid (EyeAt.other (EyeAt.other (show EyeAt w1 y σ1 from E) ga (by omega)) gb (by omega)); have G1 := Lib.hid (grown_other (grown_other (grown_trans (grown_below (some y) BZ.out) g) ga (by omega)) gb (by omega)); clear E g ga gb F1b))
  obtain ⟨u0, u1, u2, u3, u4, u5, u6, _, gput⟩ := blk7_put P2.out (.int .i64 k) (.int .i64 0) (.int .i64 0) (.bool fin) (.int .i64 0) (.slice none 0 0) (.slice none 0 0)
  have GP := Lib.hid gput
  clear gput
  (try simp only [Exit.inBlock, Exit.then])
  refine bodyPost_ret (by simp [results, Try.results21, go_sem, u0, u1, u2, u3, u4, u5, u6]; try rfl) rfl ?_
  exact ⟨_, ⟨k, 0, 0, fin, 0, [], []⟩, (refS true 2 σ1), rfl, HV.out, ⟨_, _, rfl, OwnR.nil _ _ _, World.ownsRow_nil _ _ _ _, Byt.nil⟩, HE2.out.other GP.out hy, grown_other G2.out GP.out (Nat.le_refl _)⟩

end Go.Proofs.Ytjeocggocloigaa
