/- Texts of the proofs, joined. -/
import Derived.Test.YtjeocggocloigaaQAC
import Derived.Test.YtjeocggocloigaaQW
import Derived.Test.YtjeocggocloigaaQA
import Derived.Test.YtjeocggocloigaaQB
import Derived.Deep.LoopGhost
import Derived.DataShut
/- The document's answer on bytes that a frame begins with: FrameOf. -/
namespace Go.Proofs.Ytjeocggocloigaa
set_option linter.unusedVariables false
open Go.RowKit P

theorem decF_rd1 {zs : List Int} {e : Int} (h : rd zs = .error e) : decF zs = .error e := by
  unfold decF
  rw [h]
theorem decPsS_bad {cs : List Int} {f : Fr} {σ : St} (h : σ.1 ≠ 0) : decPsS cs f σ = .error σ.1 := if_neg h
theorem three_blocks (w : World) (a b c : Array Value) (T1 T2 T3 : TypeId) : (((w.alloc (.cells a T1)).alloc (.cells b T2)).alloc (.cells c T3)).heap[w.heap.size]? = some (.cells a T1 (0, 0)) ∧ (((w.alloc (.cells a T1)).alloc (.cells b T2)).alloc (.cells c T3)).heap[w.heap.size + 1]? = some (.cells b T2 (0, 0)) ∧ (((w.alloc (.cells a T1)).alloc (.cells b T2)).alloc (.cells c T3)).heap[w.heap.size + 1 + 1]? = some (.cells c T3 (0, 0)) := by
  have s1 : (w.alloc (.cells a T1)).heap.size = w.heap.size + 1 := by simp
  have s2 : ((w.alloc (.cells a T1)).alloc (.cells b T2)).heap.size = w.heap.size + 1 + 1 := by simp
  have h2 := heap_alloc_new (w.alloc (.cells a T1)) (.cells b T2)
  have h3 := heap_alloc_new ((w.alloc (.cells a T1)).alloc (.cells b T2)) (.cells c T3)
  rw [s1] at h2
  rw [s2] at h3
  exact ⟨(Below.heap_alloc _ _ _ (by rw [s2]; omega)).trans ((Below.heap_alloc _ _ _ (by rw [s1]; omega)).trans (heap_alloc_new w _)), (Below.heap_alloc _ _ _ (by rw [s2]; omega)).trans h2, h3⟩
theorem parts_in {k : Int} {s : List Int} (h : partsOf k = some s) : ∀ j, j < s.length → s.getD j 0 = 105 ∨ s.getD j 0 = 111 ∨ s.getD j 0 = 99 ∨ s.getD j 0 = 119 ∨ s.getD j 0 = 100 ∨ s.getD j 0 = 114 ∨ s.getD j 0 = 102 := by
  rcases parts_cases h with ⟨rfl, _⟩ | ⟨rfl, _⟩ | ⟨rfl, _⟩ | ⟨rfl, _⟩ | ⟨rfl, _⟩ | ⟨rfl, _⟩ | ⟨rfl, _⟩ | ⟨rfl, _⟩ | ⟨rfl, _⟩ | ⟨rfl, _⟩ | ⟨rfl, _⟩ <;> intro j hj <;> simp only [List.length_cons, List.length_nil] at hj <;> (rcases j with _ | _ | _ | _ | j <;> first | (exfalso; omega) | simp)
theorem parts_one {k : Int} {s : List Int} (h : partsOf k = some s) : ∀ j, j < s.length → s.getD j 0 = 114 → j = 0 := by
  rcases parts_cases h with ⟨rfl, _⟩ | ⟨rfl, _⟩ | ⟨rfl, _⟩ | ⟨rfl, _⟩ | ⟨rfl, _⟩ | ⟨rfl, _⟩ | ⟨rfl, _⟩ | ⟨rfl, _⟩ | ⟨rfl, _⟩ | ⟨rfl, _⟩ | ⟨rfl, _⟩ <;> intro j hj hz <;> simp only [List.length_cons, List.length_nil] at hj <;> (rcases j with _ | _ | _ | _ | j <;> first | rfl | (exfalso; omega) | (exfalso; revert hz; simp))
theorem parts8 {s : List Int} (h : partsOf 8 = some s) : ∀ j, j < s.length → s.getD j 0 = 105 ∨ s.getD j 0 = 111 ∨ s.getD j 0 = 100 ∨ s.getD j 0 = 102 := by
  have e : partsOf 8 = some [105, 111, 100, 102] := rfl
  rw [e] at h
  cases h
  intro j hj
  simp only [List.length_cons, List.length_nil] at hj
  rcases j with _ | _ | _ | _ | j <;> first | (exfalso; omega) | simp
theorem drop_i (l : List Int) (k : Nat) (h : k < l.length) : l.drop k = l.getD k 0 :: l.drop (k + 1) := by
  rw [List.drop_eq_getElem_cons h, List.getD_eq_getElem?_getD, List.getElem?_eq_getElem h]; rfl
theorem wf_kind {n : Int} (h0 : 0 ≤ n) (h1 : n ≤ 4611686018427387903) : (Lit.int .i64 n).wf = true := by
  have a1 : IntKind.i64.min = -9223372036854775808 := by kernel_rfl
  have a2 : IntKind.i64.max = 9223372036854775807 := by kernel_rfl
  exact (Lit.wf_int_iff .i64 n).2 ⟨by omega, by omega⟩

set_option maxRecDepth 100000 in
set_option maxHeartbeats 8000000 in
theorem refFrO_bad (zs : List Int) (hy : Byt zs) (hl : zs.length ≤ 140737488351232) (w : World) (n e1 : Int) (t1 : List Int) (hN : numS (0, zs) = (n, (e1, t1))) (he1 : e1 ≠ 0) :
    Calls Try.prog 9 #[.string (strOfNums zs)] w (RefDec zs w) := by
  have hmf : ∀ (fn : Fn) (first cap : Array Value) (w : World), (Instr.makeFunc fn first cap).run Try.prog w = .ok (.func fn first cap) w := fun fn first cap w => rfl
  obtain ⟨S, hS⟩ : ∃ S, strOfNums zs = S := ⟨_, rfl⟩
  have hsz : S.size = zs.length := by rw [← hS]; exact strOfNums_size zs
  have HSZ := Lib.hid hsz
  rw [hS]
  obtain ⟨f0, f1, f2⟩ := three_blocks w #[.string S] #[.int .i64 0, .int .i64 0, .int .i64 0, .bool false, .int .i64 0, .slice none 0 0, .slice none 0 0] #[.int .i64 0] 9 25 26
  have FZ := Lib.hid f1
  have HA := Lib.hid (show RefAt (((w.alloc (.cells #[.string S] 9)).alloc (.cells #[.int .i64 0, .int .i64 0, .int .i64 0, .bool false, .int .i64 0, .slice none 0 0, .slice none 0 0] 25)).alloc (.cells #[.int .i64 0] 26)) w.heap.size (w.heap.size + 1 + 1) (0, zs) from ⟨by rw [hS]; exact f0, f2, by omega⟩)
  have HW := Lib.hid ((((Below.refl w.heap.size w).alloc (Nat.le_refl _) (.cells #[.string S] 9)).alloc (by simp) (.cells #[.int .i64 0, .int .i64 0, .int .i64 0, .bool false, .int .i64 0, .slice none 0 0, .slice none 0 0] 25)).alloc (by simp; omega) (.cells #[.int .i64 0] 26))
  have hs0 : (S.size : Int) ≤ 140737488351232 := by omega
  clear hS hsz f0 f1 f2
  have bN := numS_bd (σ := (0, zs)) hy
  rw [hN] at bN
  obtain ⟨n0, n1, hy1, hl1⟩ := bN
  simp only at n0 n1 hy1 hl1
  have HN := Lib.hid hN
  clear hN
  go_enter Try.func9, Try.ntmps9
  go_wp2_with fail
  refine (numC_any _ _ (0, zs) _ HA.out hy (by simp only; omega)).mono ?_
  rintro e w1 ⟨rfl, ha1, m1⟩
  rw [HN.out] at ha1 ⊢
  simp only at ha1 ⊢
  have hw3 : (((w.alloc (.cells #[.string S] 9)).alloc (.cells #[.int .i64 0, .int .i64 0, .int .i64 0, .bool false, .int .i64 0, .slice none 0 0, .slice none 0 0] 25)).alloc (.cells #[.int .i64 0] 26)).heap.size = w.heap.size + 1 + 1 + 1 := by simp
  have HA1 := Lib.hid ha1
  have BW1 := Lib.hid (m1.below HW.out (by omega) (by omega) (by rw [hw3]; omega))
  have FZ1 := Lib.hid ((m1.block (w.heap.size + 1) (by rw [hw3]; omega) (by omega) (by omega)).trans FZ.out)
  have SZ1 := Lib.hid (show w.heap.size + 1 + 1 + 1 ≤ w1.heap.size from hw3 ▸ m1.size)
  clear ha1 m1 hw3
  have HX := Lib.hid ((Below.refl w1.heap.size w1).alloc (Nat.le_refl _) (.cells #[.int .i64 n, .int .i64 0, .int .i64 0, .bool false, .int .i64 0, .slice none 0 0, .slice none 0 0] 25))
  have FF := Lib.hid (heap_alloc_new w1 (.cells #[.int .i64 n, .int .i64 0, .int .i64 0, .bool false, .int .i64 0, .slice none 0 0, .slice none 0 0] 25))
  have FZ2 := Lib.hid ((HX.out.block _ (lt_of_block FZ1.out)).trans FZ1.out)
  have FB2 := Lib.hid ((HX.out.block _ (lt_of_block HA1.out.b)).trans HA1.out.b)
  have b0 : (w1.alloc (.cells #[.int .i64 n, .int .i64 0, .int .i64 0, .bool false, .int .i64 0, .slice none 0 0, .slice none 0 0] 25)).cell? ⟨w.heap.size + 1 + 1, 0, none⟩ = some (.int .i64 e1) := blk_cell FB2.out 0
  have g1 : (e1 != 0) = true := by simp [he1]
  obtain ⟨z0, z1, z2, z3, z4, z5, z6, zf⟩ := blk7 FZ2.out
  go_wp2_with fail
  go_region
  go_wp2
  obtain ⟨u0, u1, u2, u3, u4, u5, u6, _, gput⟩ := blk7_put FZ2.out (.int .i64 0) (.int .i64 0) (.int .i64 0) (.bool false) (.int .i64 0) (.slice none 0 0) (.slice none 0 0)
  have GP := Lib.hid gput
  clear gput z0 z1 z2 z3 z4 z5 z6 zf
  (try simp only [Exit.inBlock, Exit.then])
  refine bodyPost_ret (by simp [results, Try.results9, go_sem, u0, u1, u2, u3, u4, u5, u6]; try rfl) rfl ?_
  exact refDec_er (grown_from (BW1.out.trans (HX.out.mono BW1.out.size)) (Nat.le_succ _) GP.out).drew (decF_rd1 (rd_er' HN.out he1)) rfl

set_option maxRecDepth 100000 in
set_option maxHeartbeats 8000000 in
theorem refFrO_eight (zs : List Int) (hy : Byt zs) (hl : zs.length ≤ 140737488351232) (w : World) (n e1 : Int) (t1 : List Int) (hN : numS (0, zs) = (n, (e1, t1))) (he1 : e1 = 0) (n8 : n = 8) :
    Calls Try.prog 9 #[.string (strOfNums zs)] w (RefDec zs w) := by
  have hmf : ∀ (fn : Fn) (first cap : Array Value) (w : World), (Instr.makeFunc fn first cap).run Try.prog w = .ok (.func fn first cap) w := fun fn first cap w => rfl
  obtain ⟨S, hS⟩ : ∃ S, strOfNums zs = S := ⟨_, rfl⟩
  have hsz : S.size = zs.length := by rw [← hS]; exact strOfNums_size zs
  have HSZ := Lib.hid hsz
  rw [hS]
  obtain ⟨f0, f1, f2⟩ := three_blocks w #[.string S] #[.int .i64 0, .int .i64 0, .int .i64 0, .bool false, .int .i64 0, .slice none 0 0, .slice none 0 0] #[.int .i64 0] 9 25 26
  have FZ := Lib.hid f1
  have HA := Lib.hid (show RefAt (((w.alloc (.cells #[.string S] 9)).alloc (.cells #[.int .i64 0, .int .i64 0, .int .i64 0, .bool false, .int .i64 0, .slice none 0 0, .slice none 0 0] 25)).alloc (.cells #[.int .i64 0] 26)) w.heap.size (w.heap.size + 1 + 1) (0, zs) from ⟨by rw [hS]; exact f0, f2, by omega⟩)
  have HW := Lib.hid ((((Below.refl w.heap.size w).alloc (Nat.le_refl _) (.cells #[.string S] 9)).alloc (by simp) (.cells #[.int .i64 0, .int .i64 0, .int .i64 0, .bool false, .int .i64 0, .slice none 0 0, .slice none 0 0] 25)).alloc (by simp; omega) (.cells #[.int .i64 0] 26))
  have hs0 : (S.size : Int) ≤ 140737488351232 := by omega
  clear hS hsz f0 f1 f2
  have bN := numS_bd (σ := (0, zs)) hy
  rw [hN] at bN
  obtain ⟨n0, n1, hy1, hl1⟩ := bN
  simp only at n0 n1 hy1 hl1
  have HN := Lib.hid hN
  clear hN
  go_enter Try.func9, Try.ntmps9
  go_wp2_with fail
  refine (numC_any _ _ (0, zs) _ HA.out hy (by simp only; omega)).mono ?_
  rintro e w1 ⟨rfl, ha1, m1⟩
  rw [HN.out] at ha1 ⊢
  simp only at ha1 ⊢
  have hw3 : (((w.alloc (.cells #[.string S] 9)).alloc (.cells #[.int .i64 0, .int .i64 0, .int .i64 0, .bool false, .int .i64 0, .slice none 0 0, .slice none 0 0] 25)).alloc (.cells #[.int .i64 0] 26)).heap.size = w.heap.size + 1 + 1 + 1 := by simp
  have HA1 := Lib.hid ha1
  have BW1 := Lib.hid (m1.below HW.out (by omega) (by omega) (by rw [hw3]; omega))
  have FZ1 := Lib.hid ((m1.block (w.heap.size + 1) (by rw [hw3]; omega) (by omega) (by omega)).trans FZ.out)
  have SZ1 := Lib.hid (show w.heap.size + 1 + 1 + 1 ≤ w1.heap.size from hw3 ▸ m1.size)
  clear ha1 m1 hw3
  have HX := Lib.hid ((Below.refl w1.heap.size w1).alloc (Nat.le_refl _) (.cells #[.int .i64 n, .int .i64 0, .int .i64 0, .bool false, .int .i64 0, .slice none 0 0, .slice none 0 0] 25))
  have FF := Lib.hid (heap_alloc_new w1 (.cells #[.int .i64 n, .int .i64 0, .int .i64 0, .bool false, .int .i64 0, .slice none 0 0, .slice none 0 0] 25))
  have FZ2 := Lib.hid ((HX.out.block _ (lt_of_block FZ1.out)).trans FZ1.out)
  have FB2 := Lib.hid ((HX.out.block _ (lt_of_block HA1.out.b)).trans HA1.out.b)
  have b0 : (w1.alloc (.cells #[.int .i64 n, .int .i64 0, .int .i64 0, .bool false, .int .i64 0, .slice none 0 0, .slice none 0 0] 25)).cell? ⟨w.heap.size + 1 + 1, 0, none⟩ = some (.int .i64 e1) := blk_cell FB2.out 0
  subst he1
  have HDE := Lib.hid (decF_no (rd_ok' HN.out) (.inl n8))
  subst n8
  obtain ⟨q0, q1, q2, q3, q4, q5, q6, qf⟩ := blk7 FF.out
  obtain ⟨z0, z1, z2, z3, z4, z5, z6, zf⟩ := blk7 FZ2.out
  go_wp2_with fail
  obtain ⟨u0, u1, u2, u3, u4, u5, u6, _, gput⟩ := blk7_put FZ2.out (.int .i64 0) (.int .i64 0) (.int .i64 0) (.bool false) (.int .i64 0) (.slice none 0 0) (.slice none 0 0)
  have GP := Lib.hid gput
  clear gput z0 z1 z2 z3 z4 z5 z6 zf
  (try simp only [Exit.inBlock, Exit.then])
  refine bodyPost_ret (by simp [results, Try.results9, go_sem, u0, u1, u2, u3, u4, u5, u6]; try rfl) rfl ?_
  exact refDec_er (grown_from (BW1.out.trans (HX.out.mono BW1.out.size)) (Nat.le_succ _) GP.out) (HDE.out) rfl

set_option maxRecDepth 100000 in
set_option maxHeartbeats 8000000 in
theorem refFrO_none (zs : List Int) (hy : Byt zs) (hl : zs.length ≤ 140737488351232) (w : World) (n e1 : Int) (t1 : List Int) (hN : numS (0, zs) = (n, (e1, t1))) (he1 : e1 = 0) (n8 : n ≠ 8) (n14 : n ≠ 14) (n15 : n ≠ 15) (hp : partsOf n = none) :
    Calls Try.prog 9 #[.string (strOfNums zs)] w (RefDec zs w) := by
  have hmf : ∀ (fn : Fn) (first cap : Array Value) (w : World), (Instr.makeFunc fn first cap).run Try.prog w = .ok (.func fn first cap) w := fun fn first cap w => rfl
  obtain ⟨S, hS⟩ : ∃ S, strOfNums zs = S := ⟨_, rfl⟩
  have hsz : S.size = zs.length := by rw [← hS]; exact strOfNums_size zs
  have HSZ := Lib.hid hsz
  rw [hS]
  obtain ⟨f0, f1, f2⟩ := three_blocks w #[.string S] #[.int .i64 0, .int .i64 0, .int .i64 0, .bool false, .int .i64 0, .slice none 0 0, .slice none 0 0] #[.int .i64 0] 9 25 26
  have FZ := Lib.hid f1
  have HA := Lib.hid (show RefAt (((w.alloc (.cells #[.string S] 9)).alloc (.cells #[.int .i64 0, .int .i64 0, .int .i64 0, .bool false, .int .i64 0, .slice none 0 0, .slice none 0 0] 25)).alloc (.cells #[.int .i64 0] 26)) w.heap.size (w.heap.size + 1 + 1) (0, zs) from ⟨by rw [hS]; exact f0, f2, by omega⟩)
  have HW := Lib.hid ((((Below.refl w.heap.size w).alloc (Nat.le_refl _) (.cells #[.string S] 9)).alloc (by simp) (.cells #[.int .i64 0, .int .i64 0, .int .i64 0, .bool false, .int .i64 0, .slice none 0 0, .slice none 0 0] 25)).alloc (by simp; omega) (.cells #[.int .i64 0] 26))
  have hs0 : (S.size : Int) ≤ 140737488351232 := by omega
  clear hS hsz f0 f1 f2
  have bN := numS_bd (σ := (0, zs)) hy
  rw [hN] at bN
  obtain ⟨n0, n1, hy1, hl1⟩ := bN
  simp only at n0 n1 hy1 hl1
  have HN := Lib.hid hN
  clear hN
  go_enter Try.func9, Try.ntmps9
  go_wp2_with fail
  refine (numC_any _ _ (0, zs) _ HA.out hy (by simp only; omega)).mono ?_
  rintro e w1 ⟨rfl, ha1, m1⟩
  rw [HN.out] at ha1 ⊢
  simp only at ha1 ⊢
  have hw3 : (((w.alloc (.cells #[.string S] 9)).alloc (.cells #[.int .i64 0, .int .i64 0, .int .i64 0, .bool false, .int .i64 0, .slice none 0 0, .slice none 0 0] 25)).alloc (.cells #[.int .i64 0] 26)).heap.size = w.heap.size + 1 + 1 + 1 := by simp
  have HA1 := Lib.hid ha1
  have BW1 := Lib.hid (m1.below HW.out (by omega) (by omega) (by rw [hw3]; omega))
  have FZ1 := Lib.hid ((m1.block (w.heap.size + 1) (by rw [hw3]; omega) (by omega) (by omega)).trans FZ.out)
  have SZ1 := Lib.hid (show w.heap.size + 1 + 1 + 1 ≤ w1.heap.size from hw3 ▸ m1.size)
  clear ha1 m1 hw3
  have HX := Lib.hid ((Below.refl w1.heap.size w1).alloc (Nat.le_refl _) (.cells #[.int .i64 n, .int .i64 0, .int .i64 0, .bool false, .int .i64 0, .slice none 0 0, .slice none 0 0] 25))
  have FF := Lib.hid (heap_alloc_new w1 (.cells #[.int .i64 n, .int .i64 0, .int .i64 0, .bool false, .int .i64 0, .slice none 0 0, .slice none 0 0] 25))
  have FZ2 := Lib.hid ((HX.out.block _ (lt_of_block FZ1.out)).trans FZ1.out)
  have FB2 := Lib.hid ((HX.out.block _ (lt_of_block HA1.out.b)).trans HA1.out.b)
  have b0 : (w1.alloc (.cells #[.int .i64 n, .int .i64 0, .int .i64 0, .bool false, .int .i64 0, .slice none 0 0, .slice none 0 0] 25)).cell? ⟨w.heap.size + 1 + 1, 0, none⟩ = some (.int .i64 e1) := blk_cell FB2.out 0
  subst he1
  have HDE := Lib.hid (decF_no (rd_ok' HN.out) (.inr (by rw [if_neg (by omega)]; exact hp)))
  obtain ⟨q0, q1, q2, q3, q4, q5, q6, qf⟩ := blk7 FF.out
  have HHAS := Lib.hid (refHas_none hp (wf_kind n0 n1))
  have g8 : (n == 8) = false := by simp [n8]
  have g14 : (n == 14) = false := by simp [n14]
  have g15 : (n == 15) = false := by simp [n15]
  clear n8 n14 n15 hp
  go_wp2_with (go_at_call 17; refine (HHAS.out _).mono ?_; rintro e w2 ⟨rfl, b2⟩; have B2 := Lib.hid (HX.out.trans (b2.mono HX.out.size)); have FZ3 := Lib.hid ((b2.block _ (lt_of_block FZ2.out)).trans FZ2.out); obtain ⟨z0, z1, z2, z3, z4, z5, z6, zf⟩ := blk7 FZ3.out; clear b2 q0 q1 q2 q3 q4 q5 q6 qf b0)
  obtain ⟨u0, u1, u2, u3, u4, u5, u6, _, gput⟩ := blk7_put FZ3.out (.int .i64 0) (.int .i64 0) (.int .i64 0) (.bool false) (.int .i64 0) (.slice none 0 0) (.slice none 0 0)
  have GP := Lib.hid gput
  clear gput z0 z1 z2 z3 z4 z5 z6 zf
  (try simp only [Exit.inBlock, Exit.then])
  refine bodyPost_ret (by simp [results, Try.results9, go_sem, u0, u1, u2, u3, u4, u5, u6]; try rfl) rfl ?_
  exact refDec_er (grown_from (BW1.out.trans (B2.out.mono BW1.out.size)) (Nat.le_succ _) GP.out) (HDE.out) rfl
end Go.Proofs.Ytjeocggocloigaa
