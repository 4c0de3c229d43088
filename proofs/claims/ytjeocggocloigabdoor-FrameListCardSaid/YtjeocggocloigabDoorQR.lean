/- Texts of the proofs, joined. -/
import Derived.Test.YtjeocggocloigabDoorQN
import Derived.Test.YtjeocggocloigabDoorQM
import Derived.Test.YtjeocggocloigabDoorQI
import Derived.Test.YtjeocggocloigabDoorQC
import Derived.StillTailTactics
import Derived.Test.YtjeocggocloigabDoorQH
/- The verifier's texts' frameOf: a frame of a raw thing. -/
namespace Go.Proofs.YtjeocggocloigabDoor
set_option linter.unusedVariables false
open Go.RowKit P

/-- a frame handed back: it reads as f -/
def FrOut (f : Fr) (w : World) (e : Ending) (w' : World) : Prop := ∃ v, e = .returned v ∧ FrVal w' w'.heap.size v f ∧ Below w.heap.size w w'
/-- a slice whose row, if it has one, lies from block B on -/
def SlNew (B : Nat) (v : Value) : Prop := ∀ b o n c, v = .slice (some ⟨b, o, none⟩) n c → B ≤ b
theorem SlNew.nil {B : Nat} : SlNew B (.slice none 0 0) := fun b o n c e => by cases e
theorem SlNew.at {B b n c : Nat} (h : B ≤ b) : SlNew B (.slice (some ⟨b, 0, none⟩) n c) := fun b' o n' c' e => by cases e; exact h
/-- a frame handed back, its rows new -/
def FrOutN (f : Fr) (w : World) (e : Ending) (w' : World) : Prop := ∃ r d, e = .returned (.agg #[.int .i64 f.kind, .int .i64 f.id, .int .i64 f.off, .bool f.fin, .int .i64 f.code, r, d]) ∧ Below w.heap.size w w' ∧ RSl w' w'.heap.size r f.rs ∧ BSl w' w'.heap.size d f.data ∧ SlNew w.heap.size r ∧ SlNew w.heap.size d
theorem FrOutN.out {f : Fr} {w w' : World} {e : Ending} (h : FrOutN f w e w') : FrOut f w e w' := by
  obtain ⟨r, d, rfl, hb, hr, hd, _, _⟩ := h
  exact ⟨_, rfl, ⟨r, d, rfl, hr, hd⟩, hb⟩
theorem FrOutN.of {f : Fr} {w w' : World} {r d : Value} (hb : Below w.heap.size w w') (hr : RSl w' w'.heap.size r f.rs) (hd : BSl w' w'.heap.size d f.data) (nr : SlNew w.heap.size r) (nd : SlNew w.heap.size d) : FrOutN f w (.returned (.agg #[.int .i64 f.kind, .int .i64 f.id, .int .i64 f.off, .bool f.fin, .int .i64 f.code, r, d])) w' :=
  ⟨r, d, rfl, hb, hr, hd, nr, nd⟩
theorem blk4 {w : World} {b : Nat} {a0 a1 a2 a3 : Value} {T : TypeId} (h : w.heap[b]? = some (.cells #[a0, a1, a2, a3] T (0, 0))) :
    w.cell? ⟨b, 0, none⟩ = some a0 ∧ w.cell? ⟨b, 1, none⟩ = some a1 ∧ w.cell? ⟨b, 2, none⟩ = some a2 ∧ w.cell? ⟨b, 3, none⟩ = some a3 :=
  ⟨blk_cell h 0, blk_cell h 1, blk_cell h 2, blk_cell h 3⟩
/-- the first statement: bytes made of the text -/
theorem frameOf_pre (k x y : Int) (s : ByteArray) (zs : List Int) (hb : Byt zs) (hl : zs.length ≤ 40) (w : World) : ∃ C W1,
    (convert 9 25 (.string (strOfNums zs))).run Tryd.prog ((w.alloc (.cells #[.int .i64 k, .int .i64 x, .int .i64 y, .string s] 27)).alloc (.cells #[.int .i64 0, .int .i64 0, .int .i64 0, .bool false, .int .i64 0, .slice none 0 0, .slice none 0 0] 33)) = .ok (.slice (some ⟨w.heap.size + 1 + 1, 0, none⟩) zs.length C) W1 ∧
    Below w.heap.size w W1 ∧ W1.heap[w.heap.size]? = some (.cells #[.int .i64 k, .int .i64 x, .int .i64 y, .string s] 27 (0, 0)) ∧ W1.heap[w.heap.size + 1]? = some (.cells #[.int .i64 0, .int .i64 0, .int .i64 0, .bool false, .int .i64 0, .slice none 0 0, .slice none 0 0] 33 (0, 0)) ∧ w.heap.size + 1 + 1 < W1.heap.size ∧ zs.length ≤ C ∧ C ≤ maxLen ∧ BRow W1 W1.heap.size (some ⟨w.heap.size + 1 + 1, 0, none⟩) zs := by
  obtain ⟨W0, hW0⟩ : ∃ W0, W0 = (w.alloc (.cells #[.int .i64 k, .int .i64 x, .int .i64 y, .string s] 27)).alloc (.cells #[.int .i64 0, .int .i64 0, .int .i64 0, .bool false, .int .i64 0, .slice none 0 0, .slice none 0 0] 33) := ⟨_, rfl⟩
  have b0 : Below w.heap.size w W0 := hW0 ▸ ((Below.refl w.heap.size w).alloc (Nat.le_refl _) _).alloc (by simp) _
  have hsz : W0.heap.size = w.heap.size + 1 + 1 := by rw [hW0]; simp
  have h0 : W0.heap[w.heap.size]? = some (.cells #[.int .i64 k, .int .i64 x, .int .i64 y, .string s] 27 (0, 0)) := hW0 ▸ (Below.heap_alloc _ _ _ (by simp)).trans (heap_alloc_new w _)
  have h1 : W0.heap[w.heap.size + 1]? = some (.cells #[.int .i64 0, .int .i64 0, .int .i64 0, .bool false, .int .i64 0, .slice none 0 0, .slice none 0 0] 33 (0, 0)) := by
    rw [hW0]
    have := heap_alloc_new (w.alloc (.cells #[.int .i64 k, .int .i64 x, .int .i64 y, .string s] 27)) (.cells #[.int .i64 0, .int .i64 0, .int .i64 0, .bool false, .int .i64 0, .slice none 0 0, .slice none 0 0] 33)
    simpa using this
  rw [← hW0]
  have hls : (strOfNums zs).size = zs.length := strOfNums_size zs
  have hrun := run_bytes_of_string (P := Tryd.prog) W0 9 25 5 (strOfNums zs) Tryd.underlying9 Tryd.underlying25 Tryd.underlying5
  have hC := grownCap_ge W0 (strOfNums zs).size 0 5
  have hM := grownCap_le_maxLen W0 (strOfNums zs).size 0 5 (by rw [hls]; unfold maxLen; omega)
  rw [hls] at hC hM
  refine ⟨_, _, by rw [hrun, hls, hsz], (b0.drew).alloc (by simpa using b0.size) _, ?_, ?_, by simp [hsz], hC, hM, ?_⟩
  · exact (Below.heap_alloc _ _ _ (by show w.heap.size < W0.heap.size; omega)).trans h0
  · exact (Below.heap_alloc _ _ _ (by show w.heap.size + 1 < W0.heap.size; omega)).trans h1
  · have := bytesRow_brow W0 zs hb (grownCap W0 (strOfNums zs).size 0 5) 5 ((bytesRow (strOfNums zs) (grownCap W0 (strOfNums zs).size 0 5)).size, (bytesRow (strOfNums zs) (grownCap W0 (strOfNums zs).size 0 5)).size + 1)
    rw [hsz] at this
    rw [hls] at this
    exact this.more (by simp [hsz])
theorem cell_of_heap {w w' : World} {b : Nat} (h : w'.heap[b]? = w.heap[b]?) (i : Nat) : w'.cell? ⟨b, i, none⟩ = w.cell? ⟨b, i, none⟩ := by simp [World.cell?, h]
theorem bsl_put {w V W' : World} {b c n C : Nat} {zs : List Int} (h : BSl w w.heap.size (.slice (some ⟨b, 0, none⟩) n C) zs) (hb : b < w.heap.size) (hv : Below w.heap.size w V) (g : V.grownBy W' (some c)) (hc : b ≠ c) : BSl W' W'.heap.size (.slice (some ⟨b, 0, none⟩) n C) zs := by
  obtain ⟨A, c1, e, h1, h2, h3, h4⟩ := h.ex
  cases e
  have hsz := Nat.le_trans hv.size g.size
  refine ⟨_, _, rfl, h1, h2, h3, h4.1, fun hn => ?_⟩
  obtain ⟨b1, o1, e1, h5, h6⟩ := h4.2 hn
  cases e1
  refine ⟨b, 0, rfl, by omega, fun j hj => ?_⟩
  rw [cell_of_heap ((g.block b (Nat.lt_of_lt_of_le hb hv.size) (by simp; omega)).trans (hv.block b hb))]
  exact h6 j hj
theorem rrow6 {w : World} {b B : Nat} {p q r : Int × Int} {T : TypeId} (h : w.heap[b]? = some (.cells #[.int .i64 p.1, .int .i64 p.2, .int .i64 q.1, .int .i64 q.2, .int .i64 r.1, .int .i64 r.2] T (0, 0))) (hb : b < B) : RRow w B (some ⟨b, 0, none⟩) [p, q, r] := fun _ =>
  ⟨b, 0, rfl, hb, fun j hj => by
    have c : j = 0 ∨ j = 1 ∨ j = 2 := by simp at hj; omega
    rcases c with rfl | rfl | rfl
    · exact ⟨blk_cell h 0, blk_cell h 1⟩
    · exact ⟨blk_cell h 2, blk_cell h 3⟩
    · exact ⟨blk_cell h 4, blk_cell h 5⟩⟩
theorem rrow_put {V W' : World} {B B' b c : Nat} {ps : List (Int × Int)} (h : RRow V B (some ⟨b, 0, none⟩) ps) (hb : b < V.heap.size) (g : V.grownBy W' (some c)) (hc : b ≠ c) (hB : b < B') : RRow W' B' (some ⟨b, 0, none⟩) ps := fun hn => by
  obtain ⟨b1, o1, e1, h5, h6⟩ := h hn
  cases e1
  refine ⟨b, 0, rfl, hB, fun j hj => ?_⟩
  have k := g.block b hb (by simp; omega)
  rw [cell_of_heap k, cell_of_heap k]
  exact h6 j hj
theorem data_bsl {w : World} {b C : Nat} {zs : List Int} (h1 : zs.length ≤ C) (h2 : C ≤ maxLen) (h : BRow w w.heap.size (some ⟨b, 0, none⟩) zs) : BSl w w.heap.size (.slice (some ⟨b, 0, none⟩) zs.length C) zs :=
  ⟨some ⟨b, 0, none⟩, C, rfl, h1, h2, (fun h => by cases h), h⟩
theorem FrOutN.drew {f : Fr} {w w' : World} {e : Ending} (h : FrOutN f w e w') : FrOutN f w e w'.drew := by
  obtain ⟨r, d, rfl, hb, hr, hd, nr, nd⟩ := h
  exact ⟨r, d, rfl, hb.drew, (hr.below (Below.refl _ _).drew).more (Nat.le_refl _), (hd.below (Below.refl _ _).drew).more (Nat.le_refl _), nr, nd⟩


set_option maxHeartbeats 600000 in
theorem frameOf_0 (k x y : Int) (s : ByteArray) (hs : s.size ≤ maxLen) (hq : k % 14 = 0) (w : World) :
    Calls Tryd.prog 7 #[.agg #[.int .i64 k, .int .i64 x, .int .i64 y, .string s]] w (FrOutN (fOf 0 x y ((numsOf s).take 40)) w) := by
  obtain ⟨zs, hz⟩ : ∃ zs, (numsOf s).take 40 = zs := ⟨_, rfl⟩
  have hb : Byt zs := hz ▸ (numsOf_byt s).take 40
  have hl : zs.length ≤ 40 := by rw [← hz, List.length_take]; omega
  have HC := Lib.hid (fun w => hz ▸ cut_any s 40 (by omega) hs w)
  obtain ⟨C, W1, hrun, b1, hR, hZ, hsz, hC, hM, hr⟩ := frameOf_pre k x y s zs hb hl w
  have HQ := Lib.hid hq
  have HD := Lib.hid (data_bsl hC hM hr)
  have HB := Lib.hid b1
  have HZ := Lib.hid hZ
  have HR := Lib.hid hR
  have SZ := Lib.hid hsz
  obtain ⟨r0, r1, r2, r3⟩ := blk4 hR
  obtain ⟨z0, z1, z2, z3, z4, z5, z6, zf⟩ := blk7 hZ
  rw [hz]
  have n1 := num_bd x
  have n2 := num_bd y
  clear hz hq hb b1 hZ hR hr hsz
  go_enter Tryd.func7, Tryd.ntmps7
  go_wp2_with (go_at_call 13; refine (HC.out _).mono ?_; rintro e w' ⟨rfl, rfl⟩)
  go_quiet ((go_at_call 14; exact Calls.quiet_of_same ((number_any _ _).mono fun _ _ ⟨a, b⟩ => ⟨a, b.symm⟩)))
  go_wp2_with (go_at_call 15; refine (picked_any _ _ (by omega) (by omega) _).mono ?_; rintro e w' ⟨rfl, rfl⟩; try rw [HQ.out])
  obtain ⟨u0, u1, u2, u3, u4, u5, u6, _, gput⟩ := blk7_put (w := W1.drewN nq) (b := w.heap.size + 1) HZ.out (.int .i64 1) (.int .i64 0) (.int .i64 0) (.bool false) (.int .i64 0) (.slice none 0 0) (.slice none 0 0)
  have GP := Lib.hid gput
  clear gput z0 z1 z2 z3 z4 z5 z6 zf r0 r1 r2 r3
  (try simp only [Exit.inBlock, Exit.then])
  refine bodyPost_ret (by simp [results, Tryd.results7, go_sem, u0, u1, u2, u3, u4, u5, u6]; try rfl) rfl ?_
  have hf : fOf 0 x y zs = ⟨1, 0, 0, false, 0, [], []⟩ := rfl
  rw [hf]
  have hsz := SZ.out
  exact (FrOutN.of (f := ⟨1, 0, 0, false, 0, [], []⟩) (grown_from (Go.below_drewN HB.out _) (Nat.le_succ _) GP.out) (RSl.nil _ _) (BSl.nil _ _) SlNew.nil SlNew.nil)

set_option maxRecDepth 100000 in
set_option maxHeartbeats 600000 in
theorem frameOf_1 (k x y : Int) (s : ByteArray) (hs : s.size ≤ maxLen) (hq : k % 14 = 1) (w : World) :
    Calls Tryd.prog 7 #[.agg #[.int .i64 k, .int .i64 x, .int .i64 y, .string s]] w (FrOutN (fOf 1 x y ((numsOf s).take 40)) w) := by
  obtain ⟨zs, hz⟩ : ∃ zs, (numsOf s).take 40 = zs := ⟨_, rfl⟩
  have hb : Byt zs := hz ▸ (numsOf_byt s).take 40
  have hl : zs.length ≤ 40 := by rw [← hz, List.length_take]; omega
  have HC := Lib.hid (fun w => hz ▸ cut_any s 40 (by omega) hs w)
  obtain ⟨C, W1, hrun, b1, hR, hZ, hsz, hC, hM, hr⟩ := frameOf_pre k x y s zs hb hl w
  have HQ := Lib.hid hq
  have HD := Lib.hid (data_bsl hC hM hr)
  have HB := Lib.hid b1
  have HZ := Lib.hid hZ
  have HR := Lib.hid hR
  have SZ := Lib.hid hsz
  obtain ⟨r0, r1, r2, r3⟩ := blk4 hR
  obtain ⟨z0, z1, z2, z3, z4, z5, z6, zf⟩ := blk7 hZ
  rw [hz]
  have n1 := num_bd x
  have n2 := num_bd y
  clear hz hq hb b1 hZ hR hr hsz
  go_enter Tryd.func7, Tryd.ntmps7
  go_wp2_with (go_at_call 13; refine (HC.out _).mono ?_; rintro e w' ⟨rfl, rfl⟩)
  go_quiet ((go_at_call 14; exact Calls.quiet_of_same ((number_any _ _).mono fun _ _ ⟨a, b⟩ => ⟨a, b.symm⟩)))
  go_wp2_with (go_at_call 15; refine (picked_any _ _ (by omega) (by omega) _).mono ?_; rintro e w' ⟨rfl, rfl⟩; try rw [HQ.out])
  have s1 : IntKind.i64.wrap (y % 50 + 40) = y % 50 + 40 := by rw [IntKind.wrap_i64]; omega
  have s2 : IntKind.i64.wrap (y % 50 + 50) = y % 50 + 50 := by rw [IntKind.wrap_i64]; omega
  have s3 : IntKind.i64.wrap (y % 50 + 20) = y % 50 + 20 := by rw [IntKind.wrap_i64]; omega
  have s4 : IntKind.i64.wrap (y % 50 + 20 + x % 18) = y % 50 + 20 + x % 18 := by rw [IntKind.wrap_i64]; omega
  have s5 : IntKind.i64.wrap (y % 50 + x % 5) = y % 50 + x % 5 := by rw [IntKind.wrap_i64]; omega
  have HA := Lib.hid (Go.below_drewN HB.out nq)
  have HZ2 := Lib.hid (show (W1.drewN nq).heap[w.heap.size + 1]? = _ from HZ.out)
  have HR2 := Lib.hid (show (W1.drewN nq).heap[w.heap.size]? = _ from HR.out)
  have SZ2 := Lib.hid (show w.heap.size + 1 + 1 < (W1.drewN nq).heap.size by have := SZ.out; simpa using this)
  clear r0 r1 r2 r3 z0 z1 z2 z3 z4 z5 z6 zf HZ HR HD SZ HB hrun
  generalize W1.drewN nq = W2 at *
  obtain ⟨r0, r1, r2, r3⟩ := blk4 HR2.out
  have lt0 : w.heap.size < W2.drew.heap.size := by have := SZ2.out; show _ < W2.heap.size; omega
  have lt1 : w.heap.size + 1 < W2.drew.heap.size := by have := SZ2.out; show _ < W2.heap.size; omega
  have HZ3 := Lib.hid (show (W2.alloc (.cells #[.int .i64 (y % 50 + 40), .int .i64 (y % 50 + 50), .int .i64 (y % 50 + 20), .int .i64 (y % 50 + 20 + x % 18), .int .i64 (y % 50), .int .i64 (y % 50 + x % 5)] 49)).heap[w.heap.size + 1]? = _ from (Below.heap_alloc W2 (.cells #[.int .i64 (y % 50 + 40), .int .i64 (y % 50 + 50), .int .i64 (y % 50 + 20), .int .i64 (y % 50 + 20 + x % 18), .int .i64 (y % 50), .int .i64 (y % 50 + x % 5)] 49) _ lt1).trans HZ2.out)
  have HR3 := Lib.hid (show (W2.alloc (.cells #[.int .i64 (y % 50 + 40), .int .i64 (y % 50 + 50), .int .i64 (y % 50 + 20), .int .i64 (y % 50 + 20 + x % 18), .int .i64 (y % 50), .int .i64 (y % 50 + x % 5)] 49)).heap[w.heap.size]? = _ from (Below.heap_alloc W2 (.cells #[.int .i64 (y % 50 + 40), .int .i64 (y % 50 + 50), .int .i64 (y % 50 + 20), .int .i64 (y % 50 + 20 + x % 18), .int .i64 (y % 50), .int .i64 (y % 50 + x % 5)] 49) _ lt0).trans HR2.out)
  have HL3 := Lib.hid (show (W2.alloc (.cells #[.int .i64 (y % 50 + 40), .int .i64 (y % 50 + 50), .int .i64 (y % 50 + 20), .int .i64 (y % 50 + 20 + x % 18), .int .i64 (y % 50), .int .i64 (y % 50 + x % 5)] 49)).heap[W2.heap.size]? = _ from heap_alloc_new W2 (.cells #[.int .i64 (y % 50 + 40), .int .i64 (y % 50 + 50), .int .i64 (y % 50 + 20), .int .i64 (y % 50 + 20 + x % 18), .int .i64 (y % 50), .int .i64 (y % 50 + x % 5)] 49))
  have HA3 := Lib.hid (HA.out.alloc HA.out.size (.cells #[.int .i64 (y % 50 + 40), .int .i64 (y % 50 + 50), .int .i64 (y % 50 + 20), .int .i64 (y % 50 + 20 + x % 18), .int .i64 (y % 50), .int .i64 (y % 50 + x % 5)] 49))
  go_still_tail 21, (by kernel_rfl)
  still_call ((picked_any _ _ (by omega) (by omega) _).mono fun e w' h => ⟨h.1, h.2.symm⟩)
  repeat still_step
  still_call ((picked_any _ _ (by omega) (by omega) _).mono fun e w' h => ⟨h.1, h.2.symm⟩)
  repeat still_step
  refine wpStill_nil ?_
  change wpList _ _ _ _ _ W2.drew
  clear r0 r1 r2 r3 s1 s2 s3 s4 s5 lt0 lt1
  obtain ⟨r0, r1, r2, r3⟩ := blk4 HR3.out
  obtain ⟨z0, z1, z2, z3, z4, z5, z6, zf⟩ := blk7 HZ3.out
  have c3 : x % 3 = 0 ∨ x % 3 = 1 ∨ x % 3 = 2 := by omega
  rcases c3 with c3 | c3 | c3
  · have E3 := Lib.hid c3
    clear c3
    go_wp2_with (go_at_call 15; refine (picked_any _ _ (by omega) (by omega) _).mono ?_; rintro e w' ⟨rfl, rfl⟩; rw [E3.out])
    obtain ⟨u0, u1, u2, u3, u4, u5, u6, _, gput⟩ := blk7_put (w := W2.alloc (.cells #[.int .i64 (y % 50 + 40), .int .i64 (y % 50 + 50), .int .i64 (y % 50 + 20), .int .i64 (y % 50 + 20 + x % 18), .int .i64 (y % 50), .int .i64 (y % 50 + x % 5)] 49)) (b := w.heap.size + 1) HZ3.out (.int .i64 2) (.int .i64 0) (.int .i64 0) (.bool false) (.int .i64 0) (.slice (some ⟨W2.heap.size, 0, none⟩) 1 3) (.slice none 0 0)
    have GP := Lib.hid gput
    clear gput z0 z1 z2 z3 z4 z5 z6 zf r0 r1 r2 r3
    (try simp only [Exit.inBlock, Exit.then])
    refine bodyPost_ret (by simp [results, Tryd.results7, go_sem, u0, u1, u2, u3, u4, u5, u6]; try rfl) rfl ?_
    have hf : fOf 1 x y zs = ⟨2, 0, 0, false, 0, [(y % 50 + 40, y % 50 + 50), (y % 50 + 20, y % 50 + 20 + x % 18), (y % 50, y % 50 + x % 5)].take 1, []⟩ := (show fOf 1 x y zs = ⟨2, 0, 0, false, 0, [(y % 50 + 40, y % 50 + 50), (y % 50 + 20, y % 50 + 20 + x % 18), (y % 50, y % 50 + x % 5)].take (1 + x % 3).toNat, []⟩ from rfl).trans (by rw [E3.out]; rfl)
    rw [hf]
    have lt : W2.heap.size < (W2.alloc (.cells #[.int .i64 (y % 50 + 40), .int .i64 (y % 50 + 50), .int .i64 (y % 50 + 20), .int .i64 (y % 50 + 20 + x % 18), .int .i64 (y % 50), .int .i64 (y % 50 + x % 5)] 49)).heap.size := by show _ < (W2.heap.push _).size; simp
    have R := rrow_put (rrow6 (p := (y % 50 + 40, y % 50 + 50)) (q := (y % 50 + 20, y % 50 + 20 + x % 18)) (r := (y % 50, y % 50 + x % 5)) HL3.out lt) lt GP.out (by have := SZ2.out; omega) (Nat.lt_of_lt_of_le lt GP.out.size)
    exact (FrOutN.of (f := ⟨2, 0, 0, false, 0, [(y % 50 + 40, y % 50 + 50), (y % 50 + 20, y % 50 + 20 + x % 18), (y % 50, y % 50 + x % 5)].take 1, []⟩) (grown_from HA3.out (Nat.le_succ _) GP.out) ⟨_, 3, rfl, (by simp), (by unfold maxLen; omega), R.take 1⟩ (BSl.nil _ _) (SlNew.at (by have := SZ2.out; omega)) SlNew.nil).drew
  · have E3 := Lib.hid c3
    clear c3
    go_wp2_with (go_at_call 15; refine (picked_any _ _ (by omega) (by omega) _).mono ?_; rintro e w' ⟨rfl, rfl⟩; rw [E3.out])
    obtain ⟨u0, u1, u2, u3, u4, u5, u6, _, gput⟩ := blk7_put (w := W2.alloc (.cells #[.int .i64 (y % 50 + 40), .int .i64 (y % 50 + 50), .int .i64 (y % 50 + 20), .int .i64 (y % 50 + 20 + x % 18), .int .i64 (y % 50), .int .i64 (y % 50 + x % 5)] 49)) (b := w.heap.size + 1) HZ3.out (.int .i64 2) (.int .i64 0) (.int .i64 0) (.bool false) (.int .i64 0) (.slice (some ⟨W2.heap.size, 0, none⟩) 2 3) (.slice none 0 0)
    have GP := Lib.hid gput
    clear gput z0 z1 z2 z3 z4 z5 z6 zf r0 r1 r2 r3
    (try simp only [Exit.inBlock, Exit.then])
    refine bodyPost_ret (by simp [results, Tryd.results7, go_sem, u0, u1, u2, u3, u4, u5, u6]; try rfl) rfl ?_
    have hf : fOf 1 x y zs = ⟨2, 0, 0, false, 0, [(y % 50 + 40, y % 50 + 50), (y % 50 + 20, y % 50 + 20 + x % 18), (y % 50, y % 50 + x % 5)].take 2, []⟩ := (show fOf 1 x y zs = ⟨2, 0, 0, false, 0, [(y % 50 + 40, y % 50 + 50), (y % 50 + 20, y % 50 + 20 + x % 18), (y % 50, y % 50 + x % 5)].take (1 + x % 3).toNat, []⟩ from rfl).trans (by rw [E3.out]; rfl)
    rw [hf]
    have lt : W2.heap.size < (W2.alloc (.cells #[.int .i64 (y % 50 + 40), .int .i64 (y % 50 + 50), .int .i64 (y % 50 + 20), .int .i64 (y % 50 + 20 + x % 18), .int .i64 (y % 50), .int .i64 (y % 50 + x % 5)] 49)).heap.size := by show _ < (W2.heap.push _).size; simp
    have R := rrow_put (rrow6 (p := (y % 50 + 40, y % 50 + 50)) (q := (y % 50 + 20, y % 50 + 20 + x % 18)) (r := (y % 50, y % 50 + x % 5)) HL3.out lt) lt GP.out (by have := SZ2.out; omega) (Nat.lt_of_lt_of_le lt GP.out.size)
    exact (FrOutN.of (f := ⟨2, 0, 0, false, 0, [(y % 50 + 40, y % 50 + 50), (y % 50 + 20, y % 50 + 20 + x % 18), (y % 50, y % 50 + x % 5)].take 2, []⟩) (grown_from HA3.out (Nat.le_succ _) GP.out) ⟨_, 3, rfl, (by simp), (by unfold maxLen; omega), R.take 2⟩ (BSl.nil _ _) (SlNew.at (by have := SZ2.out; omega)) SlNew.nil).drew
  · have E3 := Lib.hid c3
    clear c3
    go_wp2_with (go_at_call 15; refine (picked_any _ _ (by omega) (by omega) _).mono ?_; rintro e w' ⟨rfl, rfl⟩; rw [E3.out])
    obtain ⟨u0, u1, u2, u3, u4, u5, u6, _, gput⟩ := blk7_put (w := W2.alloc (.cells #[.int .i64 (y % 50 + 40), .int .i64 (y % 50 + 50), .int .i64 (y % 50 + 20), .int .i64 (y % 50 + 20 + x % 18), .int .i64 (y % 50), .int .i64 (y % 50 + x % 5)] 49)) (b := w.heap.size + 1) HZ3.out (.int .i64 2) (.int .i64 0) (.int .i64 0) (.bool false) (.int .i64 0) (.slice (some ⟨W2.heap.size, 0, none⟩) 3 3) (.slice none 0 0)
    have GP := Lib.hid gput
    clear gput z0 z1 z2 z3 z4 z5 z6 zf r0 r1 r2 r3
    (try simp only [Exit.inBlock, Exit.then])
    refine bodyPost_ret (by simp [results, Tryd.results7, go_sem, u0, u1, u2, u3, u4, u5, u6]; try rfl) rfl ?_
    have hf : fOf 1 x y zs = ⟨2, 0, 0, false, 0, [(y % 50 + 40, y % 50 + 50), (y % 50 + 20, y % 50 + 20 + x % 18), (y % 50, y % 50 + x % 5)].take 3, []⟩ := (show fOf 1 x y zs = ⟨2, 0, 0, false, 0, [(y % 50 + 40, y % 50 + 50), (y % 50 + 20, y % 50 + 20 + x % 18), (y % 50, y % 50 + x % 5)].take (1 + x % 3).toNat, []⟩ from rfl).trans (by rw [E3.out]; rfl)
    rw [hf]
    have lt : W2.heap.size < (W2.alloc (.cells #[.int .i64 (y % 50 + 40), .int .i64 (y % 50 + 50), .int .i64 (y % 50 + 20), .int .i64 (y % 50 + 20 + x % 18), .int .i64 (y % 50), .int .i64 (y % 50 + x % 5)] 49)).heap.size := by show _ < (W2.heap.push _).size; simp
    have R := rrow_put (rrow6 (p := (y % 50 + 40, y % 50 + 50)) (q := (y % 50 + 20, y % 50 + 20 + x % 18)) (r := (y % 50, y % 50 + x % 5)) HL3.out lt) lt GP.out (by have := SZ2.out; omega) (Nat.lt_of_lt_of_le lt GP.out.size)
    exact (FrOutN.of (f := ⟨2, 0, 0, false, 0, [(y % 50 + 40, y % 50 + 50), (y % 50 + 20, y % 50 + 20 + x % 18), (y % 50, y % 50 + x % 5)].take 3, []⟩) (grown_from HA3.out (Nat.le_succ _) GP.out) ⟨_, 3, rfl, (by simp), (by unfold maxLen; omega), R.take 3⟩ (BSl.nil _ _) (SlNew.at (by have := SZ2.out; omega)) SlNew.nil).drew


set_option maxHeartbeats 600000 in
theorem frameOf_2 (k x y : Int) (s : ByteArray) (hs : s.size ≤ maxLen) (hq : k % 14 = 2) (w : World) :
    Calls Tryd.prog 7 #[.agg #[.int .i64 k, .int .i64 x, .int .i64 y, .string s]] w (FrOutN (fOf 2 x y ((numsOf s).take 40)) w) := by
  obtain ⟨zs, hz⟩ : ∃ zs, (numsOf s).take 40 = zs := ⟨_, rfl⟩
  have hb : Byt zs := hz ▸ (numsOf_byt s).take 40
  have hl : zs.length ≤ 40 := by rw [← hz, List.length_take]; omega
  have HC := Lib.hid (fun w => hz ▸ cut_any s 40 (by omega) hs w)
  obtain ⟨C, W1, hrun, b1, hR, hZ, hsz, hC, hM, hr⟩ := frameOf_pre k x y s zs hb hl w
  have HQ := Lib.hid hq
  have HD := Lib.hid (data_bsl hC hM hr)
  have HB := Lib.hid b1
  have HZ := Lib.hid hZ
  have HR := Lib.hid hR
  have SZ := Lib.hid hsz
  obtain ⟨r0, r1, r2, r3⟩ := blk4 hR
  obtain ⟨z0, z1, z2, z3, z4, z5, z6, zf⟩ := blk7 hZ
  rw [hz]
  have n1 := num_bd x
  have n2 := num_bd y
  clear hz hq hb b1 hZ hR hr hsz
  go_enter Tryd.func7, Tryd.ntmps7
  go_wp2_with (go_at_call 13; refine (HC.out _).mono ?_; rintro e w' ⟨rfl, rfl⟩)
  go_quiet ((go_at_call 14; exact Calls.quiet_of_same ((number_any _ _).mono fun _ _ ⟨a, b⟩ => ⟨a, b.symm⟩)))
  go_wp2_with (go_at_call 15; refine (picked_any _ _ (by omega) (by omega) _).mono ?_; rintro e w' ⟨rfl, rfl⟩; try rw [HQ.out])
  obtain ⟨u0, u1, u2, u3, u4, u5, u6, _, gput⟩ := blk7_put (w := W1.drewN nq) (b := w.heap.size + 1) HZ.out (.int .i64 4) (.int .i64 (num x)) (.int .i64 (num y)) (.bool false) (.int .i64 (x % 99)) (.slice none 0 0) (.slice none 0 0)
  have GP := Lib.hid gput
  clear gput z0 z1 z2 z3 z4 z5 z6 zf r0 r1 r2 r3
  (try simp only [Exit.inBlock, Exit.then])
  refine bodyPost_ret (by simp [results, Tryd.results7, go_sem, u0, u1, u2, u3, u4, u5, u6]; try rfl) rfl ?_
  have hf : fOf 2 x y zs = ⟨4, (num x), (num y), false, (x % 99), [], []⟩ := rfl
  rw [hf]
  have hsz := SZ.out
  exact (FrOutN.of (f := ⟨4, (num x), (num y), false, (x % 99), [], []⟩) (grown_from (Go.below_drewN HB.out _) (Nat.le_succ _) GP.out) (RSl.nil _ _) (BSl.nil _ _) SlNew.nil SlNew.nil)


set_option maxHeartbeats 600000 in
theorem frameOf_3 (k x y : Int) (s : ByteArray) (hs : s.size ≤ maxLen) (hq : k % 14 = 3) (w : World) :
    Calls Tryd.prog 7 #[.agg #[.int .i64 k, .int .i64 x, .int .i64 y, .string s]] w (FrOutN (fOf 3 x y ((numsOf s).take 40)) w) := by
  obtain ⟨zs, hz⟩ : ∃ zs, (numsOf s).take 40 = zs := ⟨_, rfl⟩
  have hb : Byt zs := hz ▸ (numsOf_byt s).take 40
  have hl : zs.length ≤ 40 := by rw [← hz, List.length_take]; omega
  have HC := Lib.hid (fun w => hz ▸ cut_any s 40 (by omega) hs w)
  obtain ⟨C, W1, hrun, b1, hR, hZ, hsz, hC, hM, hr⟩ := frameOf_pre k x y s zs hb hl w
  have HQ := Lib.hid hq
  have HD := Lib.hid (data_bsl hC hM hr)
  have HB := Lib.hid b1
  have HZ := Lib.hid hZ
  have HR := Lib.hid hR
  have SZ := Lib.hid hsz
  obtain ⟨r0, r1, r2, r3⟩ := blk4 hR
  obtain ⟨z0, z1, z2, z3, z4, z5, z6, zf⟩ := blk7 hZ
  rw [hz]
  have n1 := num_bd x
  have n2 := num_bd y
  clear hz hq hb b1 hZ hR hr hsz
  go_enter Tryd.func7, Tryd.ntmps7
  go_wp2_with (go_at_call 13; refine (HC.out _).mono ?_; rintro e w' ⟨rfl, rfl⟩)
  go_quiet ((go_at_call 14; exact Calls.quiet_of_same ((number_any _ _).mono fun _ _ ⟨a, b⟩ => ⟨a, b.symm⟩)))
  go_wp2_with (go_at_call 15; refine (picked_any _ _ (by omega) (by omega) _).mono ?_; rintro e w' ⟨rfl, rfl⟩; try rw [HQ.out])
  obtain ⟨u0, u1, u2, u3, u4, u5, u6, _, gput⟩ := blk7_put (w := W1.drewN nq) (b := w.heap.size + 1) HZ.out (.int .i64 5) (.int .i64 (num x)) (.int .i64 0) (.bool false) (.int .i64 (num y)) (.slice none 0 0) (.slice none 0 0)
  have GP := Lib.hid gput
  clear gput z0 z1 z2 z3 z4 z5 z6 zf r0 r1 r2 r3
  (try simp only [Exit.inBlock, Exit.then])
  refine bodyPost_ret (by simp [results, Tryd.results7, go_sem, u0, u1, u2, u3, u4, u5, u6]; try rfl) rfl ?_
  have hf : fOf 3 x y zs = ⟨5, (num x), 0, false, (num y), [], []⟩ := rfl
  rw [hf]
  have hsz := SZ.out
  exact (FrOutN.of (f := ⟨5, (num x), 0, false, (num y), [], []⟩) (grown_from (Go.below_drewN HB.out _) (Nat.le_succ _) GP.out) (RSl.nil _ _) (BSl.nil _ _) SlNew.nil SlNew.nil)


set_option maxHeartbeats 600000 in
theorem frameOf_4 (k x y : Int) (s : ByteArray) (hs : s.size ≤ maxLen) (hq : k % 14 = 4) (w : World) :
    Calls Tryd.prog 7 #[.agg #[.int .i64 k, .int .i64 x, .int .i64 y, .string s]] w (FrOutN (fOf 4 x y ((numsOf s).take 40)) w) := by
  obtain ⟨zs, hz⟩ : ∃ zs, (numsOf s).take 40 = zs := ⟨_, rfl⟩
  have hb : Byt zs := hz ▸ (numsOf_byt s).take 40
  have hl : zs.length ≤ 40 := by rw [← hz, List.length_take]; omega
  have HC := Lib.hid (fun w => hz ▸ cut_any s 40 (by omega) hs w)
  obtain ⟨C, W1, hrun, b1, hR, hZ, hsz, hC, hM, hr⟩ := frameOf_pre k x y s zs hb hl w
  have HQ := Lib.hid hq
  have HD := Lib.hid (data_bsl hC hM hr)
  have HB := Lib.hid b1
  have HZ := Lib.hid hZ
  have HR := Lib.hid hR
  have SZ := Lib.hid hsz
  obtain ⟨r0, r1, r2, r3⟩ := blk4 hR
  obtain ⟨z0, z1, z2, z3, z4, z5, z6, zf⟩ := blk7 hZ
  rw [hz]
  have n1 := num_bd x
  have n2 := num_bd y
  clear hz hq hb b1 hZ hR hr hsz
  go_enter Tryd.func7, Tryd.ntmps7
  go_wp2_with (go_at_call 13; refine (HC.out _).mono ?_; rintro e w' ⟨rfl, rfl⟩)
  go_quiet ((go_at_call 14; exact Calls.quiet_of_same ((number_any _ _).mono fun _ _ ⟨a, b⟩ => ⟨a, b.symm⟩)))
  go_wp2_with (go_at_call 15; refine (picked_any _ _ (by omega) (by omega) _).mono ?_; rintro e w' ⟨rfl, rfl⟩; try rw [HQ.out])
  obtain ⟨u0, u1, u2, u3, u4, u5, u6, _, gput⟩ := blk7_put (w := W1.drewN nq) (b := w.heap.size + 1) HZ.out (.int .i64 6) (.int .i64 0) (.int .i64 (num y / 2)) (.bool false) (.int .i64 0) (.slice none 0 0) (.slice (some ⟨w.heap.size + 1 + 1, 0, none⟩) zs.length C)
  have GP := Lib.hid gput
  clear gput z0 z1 z2 z3 z4 z5 z6 zf r0 r1 r2 r3
  (try simp only [Exit.inBlock, Exit.then])
  refine bodyPost_ret (by simp [results, Tryd.results7, go_sem, u0, u1, u2, u3, u4, u5, u6]; try rfl) rfl ?_
  have hf : fOf 4 x y zs = ⟨6, 0, (num y / 2), false, 0, [], zs⟩ := rfl
  rw [hf]
  have hsz := SZ.out
  exact (FrOutN.of (f := ⟨6, 0, (num y / 2), false, 0, [], zs⟩) (grown_from (Go.below_drewN HB.out _) (Nat.le_succ _) GP.out) (RSl.nil _ _) (bsl_put HD.out (by omega) (Go.below_drewN (Below.refl _ _) _) GP.out (by omega)) SlNew.nil (SlNew.at (by omega)))


set_option maxHeartbeats 600000 in
theorem frameOf_5 (k x y : Int) (s : ByteArray) (hs : s.size ≤ maxLen) (hq : k % 14 = 5) (w : World) :
    Calls Tryd.prog 7 #[.agg #[.int .i64 k, .int .i64 x, .int .i64 y, .string s]] w (FrOutN (fOf 5 x y ((numsOf s).take 40)) w) := by
  obtain ⟨zs, hz⟩ : ∃ zs, (numsOf s).take 40 = zs := ⟨_, rfl⟩
  have hb : Byt zs := hz ▸ (numsOf_byt s).take 40
  have hl : zs.length ≤ 40 := by rw [← hz, List.length_take]; omega
  have HC := Lib.hid (fun w => hz ▸ cut_any s 40 (by omega) hs w)
  obtain ⟨C, W1, hrun, b1, hR, hZ, hsz, hC, hM, hr⟩ := frameOf_pre k x y s zs hb hl w
  have HQ := Lib.hid hq
  have HD := Lib.hid (data_bsl hC hM hr)
  have HB := Lib.hid b1
  have HZ := Lib.hid hZ
  have HR := Lib.hid hR
  have SZ := Lib.hid hsz
  obtain ⟨r0, r1, r2, r3⟩ := blk4 hR
  obtain ⟨z0, z1, z2, z3, z4, z5, z6, zf⟩ := blk7 hZ
  rw [hz]
  have n1 := num_bd x
  have n2 := num_bd y
  clear hz hq hb b1 hZ hR hr hsz
  go_enter Tryd.func7, Tryd.ntmps7
  go_wp2_with (go_at_call 13; refine (HC.out _).mono ?_; rintro e w' ⟨rfl, rfl⟩)
  go_quiet ((go_at_call 14; exact Calls.quiet_of_same ((number_any _ _).mono fun _ _ ⟨a, b⟩ => ⟨a, b.symm⟩)))
  go_wp2_with (go_at_call 15; refine (picked_any _ _ (by omega) (by omega) _).mono ?_; rintro e w' ⟨rfl, rfl⟩; try rw [HQ.out])
  obtain ⟨u0, u1, u2, u3, u4, u5, u6, _, gput⟩ := blk7_put (w := W1.drewN nq) (b := w.heap.size + 1) HZ.out (.int .i64 7) (.int .i64 0) (.int .i64 0) (.bool false) (.int .i64 0) (.slice none 0 0) (.slice (some ⟨w.heap.size + 1 + 1, 0, none⟩) zs.length C)
  have GP := Lib.hid gput
  clear gput z0 z1 z2 z3 z4 z5 z6 zf r0 r1 r2 r3
  (try simp only [Exit.inBlock, Exit.then])
  refine bodyPost_ret (by simp [results, Tryd.results7, go_sem, u0, u1, u2, u3, u4, u5, u6]; try rfl) rfl ?_
  have hf : fOf 5 x y zs = ⟨7, 0, 0, false, 0, [], zs⟩ := rfl
  rw [hf]
  have hsz := SZ.out
  exact (FrOutN.of (f := ⟨7, 0, 0, false, 0, [], zs⟩) (grown_from (Go.below_drewN HB.out _) (Nat.le_succ _) GP.out) (RSl.nil _ _) (bsl_put HD.out (by omega) (Go.below_drewN (Below.refl _ _) _) GP.out (by omega)) SlNew.nil (SlNew.at (by omega)))


set_option maxHeartbeats 600000 in
theorem frameOf_6 (k x y : Int) (s : ByteArray) (hs : s.size ≤ maxLen) (hq : k % 14 = 6) (w : World) :
    Calls Tryd.prog 7 #[.agg #[.int .i64 k, .int .i64 x, .int .i64 y, .string s]] w (FrOutN (fOf 6 x y ((numsOf s).take 40)) w) := by
  obtain ⟨zs, hz⟩ : ∃ zs, (numsOf s).take 40 = zs := ⟨_, rfl⟩
  have hb : Byt zs := hz ▸ (numsOf_byt s).take 40
  have hl : zs.length ≤ 40 := by rw [← hz, List.length_take]; omega
  have HC := Lib.hid (fun w => hz ▸ cut_any s 40 (by omega) hs w)
  obtain ⟨C, W1, hrun, b1, hR, hZ, hsz, hC, hM, hr⟩ := frameOf_pre k x y s zs hb hl w
  have HQ := Lib.hid hq
  have HD := Lib.hid (data_bsl hC hM hr)
  have HB := Lib.hid b1
  have HZ := Lib.hid hZ
  have HR := Lib.hid hR
  have SZ := Lib.hid hsz
  obtain ⟨r0, r1, r2, r3⟩ := blk4 hR
  obtain ⟨z0, z1, z2, z3, z4, z5, z6, zf⟩ := blk7 hZ
  rw [hz]
  have n1 := num_bd x
  have n2 := num_bd y
  clear hz hq hb b1 hZ hR hr hsz
  go_enter Tryd.func7, Tryd.ntmps7
  go_wp2_with (go_at_call 13; refine (HC.out _).mono ?_; rintro e w' ⟨rfl, rfl⟩)
  go_quiet ((go_at_call 14; exact Calls.quiet_of_same ((number_any _ _).mono fun _ _ ⟨a, b⟩ => ⟨a, b.symm⟩)))
  go_wp2_with (go_at_call 15; refine (picked_any _ _ (by omega) (by omega) _).mono ?_; rintro e w' ⟨rfl, rfl⟩; try rw [HQ.out])
  obtain ⟨u0, u1, u2, u3, u4, u5, u6, _, gput⟩ := blk7_put (w := W1.drewN nq) (b := w.heap.size + 1) HZ.out (.int .i64 8) (.int .i64 (num x)) (.int .i64 (num y / 2)) (.bool (x % 2 == 0)) (.int .i64 0) (.slice none 0 0) (.slice (some ⟨w.heap.size + 1 + 1, 0, none⟩) zs.length C)
  have GP := Lib.hid gput
  clear gput z0 z1 z2 z3 z4 z5 z6 zf r0 r1 r2 r3
  (try simp only [Exit.inBlock, Exit.then])
  refine bodyPost_ret (by simp [results, Tryd.results7, go_sem, u0, u1, u2, u3, u4, u5, u6]; try rfl) rfl ?_
  have hf : fOf 6 x y zs = ⟨8, (num x), (num y / 2), (x % 2 == 0), 0, [], zs⟩ := rfl
  rw [hf]
  have hsz := SZ.out
  exact (FrOutN.of (f := ⟨8, (num x), (num y / 2), (x % 2 == 0), 0, [], zs⟩) (grown_from (Go.below_drewN HB.out _) (Nat.le_succ _) GP.out) (RSl.nil _ _) (bsl_put HD.out (by omega) (Go.below_drewN (Below.refl _ _) _) GP.out (by omega)) SlNew.nil (SlNew.at (by omega)))


set_option maxHeartbeats 600000 in
theorem frameOf_7 (k x y : Int) (s : ByteArray) (hs : s.size ≤ maxLen) (hq : k % 14 = 7) (w : World) :
    Calls Tryd.prog 7 #[.agg #[.int .i64 k, .int .i64 x, .int .i64 y, .string s]] w (FrOutN (fOf 7 x y ((numsOf s).take 40)) w) := by
  obtain ⟨zs, hz⟩ : ∃ zs, (numsOf s).take 40 = zs := ⟨_, rfl⟩
  have hb : Byt zs := hz ▸ (numsOf_byt s).take 40
  have hl : zs.length ≤ 40 := by rw [← hz, List.length_take]; omega
  have HC := Lib.hid (fun w => hz ▸ cut_any s 40 (by omega) hs w)
  obtain ⟨C, W1, hrun, b1, hR, hZ, hsz, hC, hM, hr⟩ := frameOf_pre k x y s zs hb hl w
  have HQ := Lib.hid hq
  have HD := Lib.hid (data_bsl hC hM hr)
  have HB := Lib.hid b1
  have HZ := Lib.hid hZ
  have HR := Lib.hid hR
  have SZ := Lib.hid hsz
  obtain ⟨r0, r1, r2, r3⟩ := blk4 hR
  obtain ⟨z0, z1, z2, z3, z4, z5, z6, zf⟩ := blk7 hZ
  rw [hz]
  have n1 := num_bd x
  have n2 := num_bd y
  clear hz hq hb b1 hZ hR hr hsz
  go_enter Tryd.func7, Tryd.ntmps7
  go_wp2_with (go_at_call 13; refine (HC.out _).mono ?_; rintro e w' ⟨rfl, rfl⟩)
  go_quiet ((go_at_call 14; exact Calls.quiet_of_same ((number_any _ _).mono fun _ _ ⟨a, b⟩ => ⟨a, b.symm⟩)))
  go_wp2_with (go_at_call 15; refine (picked_any _ _ (by omega) (by omega) _).mono ?_; rintro e w' ⟨rfl, rfl⟩; try rw [HQ.out])
  obtain ⟨u0, u1, u2, u3, u4, u5, u6, _, gput⟩ := blk7_put (w := W1.drewN nq) (b := w.heap.size + 1) HZ.out (.int .i64 8) (.int .i64 (num x)) (.int .i64 (num y / 2)) (.bool (x % 2 == 0)) (.int .i64 0) (.slice none 0 0) (.slice (some ⟨w.heap.size + 1 + 1, 0, none⟩) zs.length C)
  have GP := Lib.hid gput
  clear gput z0 z1 z2 z3 z4 z5 z6 zf r0 r1 r2 r3
  (try simp only [Exit.inBlock, Exit.then])
  refine bodyPost_ret (by simp [results, Tryd.results7, go_sem, u0, u1, u2, u3, u4, u5, u6]; try rfl) rfl ?_
  have hf : fOf 7 x y zs = ⟨8, (num x), (num y / 2), (x % 2 == 0), 0, [], zs⟩ := rfl
  rw [hf]
  have hsz := SZ.out
  exact (FrOutN.of (f := ⟨8, (num x), (num y / 2), (x % 2 == 0), 0, [], zs⟩) (grown_from (Go.below_drewN HB.out _) (Nat.le_succ _) GP.out) (RSl.nil _ _) (bsl_put HD.out (by omega) (Go.below_drewN (Below.refl _ _) _) GP.out (by omega)) SlNew.nil (SlNew.at (by omega)))


set_option maxHeartbeats 600000 in
theorem frameOf_8 (k x y : Int) (s : ByteArray) (hs : s.size ≤ maxLen) (hq : k % 14 = 8) (w : World) :
    Calls Tryd.prog 7 #[.agg #[.int .i64 k, .int .i64 x, .int .i64 y, .string s]] w (FrOutN (fOf 8 x y ((numsOf s).take 40)) w) := by
  obtain ⟨zs, hz⟩ : ∃ zs, (numsOf s).take 40 = zs := ⟨_, rfl⟩
  have hb : Byt zs := hz ▸ (numsOf_byt s).take 40
  have hl : zs.length ≤ 40 := by rw [← hz, List.length_take]; omega
  have HC := Lib.hid (fun w => hz ▸ cut_any s 40 (by omega) hs w)
  obtain ⟨C, W1, hrun, b1, hR, hZ, hsz, hC, hM, hr⟩ := frameOf_pre k x y s zs hb hl w
  have HQ := Lib.hid hq
  have HD := Lib.hid (data_bsl hC hM hr)
  have HB := Lib.hid b1
  have HZ := Lib.hid hZ
  have HR := Lib.hid hR
  have SZ := Lib.hid hsz
  obtain ⟨r0, r1, r2, r3⟩ := blk4 hR
  obtain ⟨z0, z1, z2, z3, z4, z5, z6, zf⟩ := blk7 hZ
  rw [hz]
  have n1 := num_bd x
  have n2 := num_bd y
  clear hz hq hb b1 hZ hR hr hsz
  go_enter Tryd.func7, Tryd.ntmps7
  go_wp2_with (go_at_call 13; refine (HC.out _).mono ?_; rintro e w' ⟨rfl, rfl⟩)
  go_quiet ((go_at_call 14; exact Calls.quiet_of_same ((number_any _ _).mono fun _ _ ⟨a, b⟩ => ⟨a, b.symm⟩)))
  go_wp2_with (go_at_call 15; refine (picked_any _ _ (by omega) (by omega) _).mono ?_; rintro e w' ⟨rfl, rfl⟩; try rw [HQ.out])
  obtain ⟨u0, u1, u2, u3, u4, u5, u6, _, gput⟩ := blk7_put (w := W1.drewN nq) (b := w.heap.size + 1) HZ.out (.int .i64 16) (.int .i64 0) (.int .i64 (num x)) (.bool false) (.int .i64 0) (.slice none 0 0) (.slice none 0 0)
  have GP := Lib.hid gput
  clear gput z0 z1 z2 z3 z4 z5 z6 zf r0 r1 r2 r3
  (try simp only [Exit.inBlock, Exit.then])
  refine bodyPost_ret (by simp [results, Tryd.results7, go_sem, u0, u1, u2, u3, u4, u5, u6]; try rfl) rfl ?_
  have hf : fOf 8 x y zs = ⟨16, 0, (num x), false, 0, [], []⟩ := rfl
  rw [hf]
  have hsz := SZ.out
  exact (FrOutN.of (f := ⟨16, 0, (num x), false, 0, [], []⟩) (grown_from (Go.below_drewN HB.out _) (Nat.le_succ _) GP.out) (RSl.nil _ _) (BSl.nil _ _) SlNew.nil SlNew.nil)


set_option maxHeartbeats 600000 in
theorem frameOf_9 (k x y : Int) (s : ByteArray) (hs : s.size ≤ maxLen) (hq : k % 14 = 9) (w : World) :
    Calls Tryd.prog 7 #[.agg #[.int .i64 k, .int .i64 x, .int .i64 y, .string s]] w (FrOutN (fOf 9 x y ((numsOf s).take 40)) w) := by
  obtain ⟨zs, hz⟩ : ∃ zs, (numsOf s).take 40 = zs := ⟨_, rfl⟩
  have hb : Byt zs := hz ▸ (numsOf_byt s).take 40
  have hl : zs.length ≤ 40 := by rw [← hz, List.length_take]; omega
  have HC := Lib.hid (fun w => hz ▸ cut_any s 40 (by omega) hs w)
  obtain ⟨C, W1, hrun, b1, hR, hZ, hsz, hC, hM, hr⟩ := frameOf_pre k x y s zs hb hl w
  have HQ := Lib.hid hq
  have HD := Lib.hid (data_bsl hC hM hr)
  have HB := Lib.hid b1
  have HZ := Lib.hid hZ
  have HR := Lib.hid hR
  have SZ := Lib.hid hsz
  obtain ⟨r0, r1, r2, r3⟩ := blk4 hR
  obtain ⟨z0, z1, z2, z3, z4, z5, z6, zf⟩ := blk7 hZ
  rw [hz]
  have n1 := num_bd x
  have n2 := num_bd y
  clear hz hq hb b1 hZ hR hr hsz
  go_enter Tryd.func7, Tryd.ntmps7
  go_wp2_with (go_at_call 13; refine (HC.out _).mono ?_; rintro e w' ⟨rfl, rfl⟩)
  go_quiet ((go_at_call 14; exact Calls.quiet_of_same ((number_any _ _).mono fun _ _ ⟨a, b⟩ => ⟨a, b.symm⟩)))
  go_wp2_with (go_at_call 15; refine (picked_any _ _ (by omega) (by omega) _).mono ?_; rintro e w' ⟨rfl, rfl⟩; try rw [HQ.out])
  obtain ⟨u0, u1, u2, u3, u4, u5, u6, _, gput⟩ := blk7_put (w := W1.drewN nq) (b := w.heap.size + 1) HZ.out (.int .i64 17) (.int .i64 (num x)) (.int .i64 (num y)) (.bool false) (.int .i64 0) (.slice none 0 0) (.slice none 0 0)
  have GP := Lib.hid gput
  clear gput z0 z1 z2 z3 z4 z5 z6 zf r0 r1 r2 r3
  (try simp only [Exit.inBlock, Exit.then])
  refine bodyPost_ret (by simp [results, Tryd.results7, go_sem, u0, u1, u2, u3, u4, u5, u6]; try rfl) rfl ?_
  have hf : fOf 9 x y zs = ⟨17, (num x), (num y), false, 0, [], []⟩ := rfl
  rw [hf]
  have hsz := SZ.out
  exact (FrOutN.of (f := ⟨17, (num x), (num y), false, 0, [], []⟩) (grown_from (Go.below_drewN HB.out _) (Nat.le_succ _) GP.out) (RSl.nil _ _) (BSl.nil _ _) SlNew.nil SlNew.nil)


set_option maxHeartbeats 600000 in
theorem frameOf_10 (k x y : Int) (s : ByteArray) (hs : s.size ≤ maxLen) (hq : k % 14 = 10) (w : World) :
    Calls Tryd.prog 7 #[.agg #[.int .i64 k, .int .i64 x, .int .i64 y, .string s]] w (FrOutN (fOf 10 x y ((numsOf s).take 40)) w) := by
  obtain ⟨zs, hz⟩ : ∃ zs, (numsOf s).take 40 = zs := ⟨_, rfl⟩
  have hb : Byt zs := hz ▸ (numsOf_byt s).take 40
  have hl : zs.length ≤ 40 := by rw [← hz, List.length_take]; omega
  have HC := Lib.hid (fun w => hz ▸ cut_any s 40 (by omega) hs w)
  obtain ⟨C, W1, hrun, b1, hR, hZ, hsz, hC, hM, hr⟩ := frameOf_pre k x y s zs hb hl w
  have HQ := Lib.hid hq
  have HD := Lib.hid (data_bsl hC hM hr)
  have HB := Lib.hid b1
  have HZ := Lib.hid hZ
  have HR := Lib.hid hR
  have SZ := Lib.hid hsz
  obtain ⟨r0, r1, r2, r3⟩ := blk4 hR
  obtain ⟨z0, z1, z2, z3, z4, z5, z6, zf⟩ := blk7 hZ
  rw [hz]
  have n1 := num_bd x
  have n2 := num_bd y
  clear hz hq hb b1 hZ hR hr hsz
  go_enter Tryd.func7, Tryd.ntmps7
  go_wp2_with (go_at_call 13; refine (HC.out _).mono ?_; rintro e w' ⟨rfl, rfl⟩)
  go_quiet ((go_at_call 14; exact Calls.quiet_of_same ((number_any _ _).mono fun _ _ ⟨a, b⟩ => ⟨a, b.symm⟩)))
  go_wp2_with (go_at_call 15; refine (picked_any _ _ (by omega) (by omega) _).mono ?_; rintro e w' ⟨rfl, rfl⟩; try rw [HQ.out])
  obtain ⟨u0, u1, u2, u3, u4, u5, u6, _, gput⟩ := blk7_put (w := W1.drewN nq) (b := w.heap.size + 1) HZ.out (.int .i64 18) (.int .i64 0) (.int .i64 (num x)) (.bool false) (.int .i64 0) (.slice none 0 0) (.slice none 0 0)
  have GP := Lib.hid gput
  clear gput z0 z1 z2 z3 z4 z5 z6 zf r0 r1 r2 r3
  (try simp only [Exit.inBlock, Exit.then])
  refine bodyPost_ret (by simp [results, Tryd.results7, go_sem, u0, u1, u2, u3, u4, u5, u6]; try rfl) rfl ?_
  have hf : fOf 10 x y zs = ⟨18, 0, (num x), false, 0, [], []⟩ := rfl
  rw [hf]
  have hsz := SZ.out
  exact (FrOutN.of (f := ⟨18, 0, (num x), false, 0, [], []⟩) (grown_from (Go.below_drewN HB.out _) (Nat.le_succ _) GP.out) (RSl.nil _ _) (BSl.nil _ _) SlNew.nil SlNew.nil)


set_option maxHeartbeats 600000 in
theorem frameOf_11 (k x y : Int) (s : ByteArray) (hs : s.size ≤ maxLen) (hq : k % 14 = 11) (w : World) :
    Calls Tryd.prog 7 #[.agg #[.int .i64 k, .int .i64 x, .int .i64 y, .string s]] w (FrOutN (fOf 11 x y ((numsOf s).take 40)) w) := by
  obtain ⟨zs, hz⟩ : ∃ zs, (numsOf s).take 40 = zs := ⟨_, rfl⟩
  have hb : Byt zs := hz ▸ (numsOf_byt s).take 40
  have hl : zs.length ≤ 40 := by rw [← hz, List.length_take]; omega
  have HC := Lib.hid (fun w => hz ▸ cut_any s 40 (by omega) hs w)
  obtain ⟨C, W1, hrun, b1, hR, hZ, hsz, hC, hM, hr⟩ := frameOf_pre k x y s zs hb hl w
  have HQ := Lib.hid hq
  have HD := Lib.hid (data_bsl hC hM hr)
  have HB := Lib.hid b1
  have HZ := Lib.hid hZ
  have HR := Lib.hid hR
  have SZ := Lib.hid hsz
  obtain ⟨r0, r1, r2, r3⟩ := blk4 hR
  obtain ⟨z0, z1, z2, z3, z4, z5, z6, zf⟩ := blk7 hZ
  rw [hz]
  have n1 := num_bd x
  have n2 := num_bd y
  clear hz hq hb b1 hZ hR hr hsz
  go_enter Tryd.func7, Tryd.ntmps7
  go_wp2_with (go_at_call 13; refine (HC.out _).mono ?_; rintro e w' ⟨rfl, rfl⟩)
  go_quiet ((go_at_call 14; exact Calls.quiet_of_same ((number_any _ _).mono fun _ _ ⟨a, b⟩ => ⟨a, b.symm⟩)))
  go_wp2_with (go_at_call 15; refine (picked_any _ _ (by omega) (by omega) _).mono ?_; rintro e w' ⟨rfl, rfl⟩; try rw [HQ.out])
  obtain ⟨u0, u1, u2, u3, u4, u5, u6, _, gput⟩ := blk7_put (w := W1.drewN nq) (b := w.heap.size + 1) HZ.out (.int .i64 26) (.int .i64 0) (.int .i64 0) (.bool false) (.int .i64 (num x)) (.slice none 0 0) (.slice none 0 0)
  have GP := Lib.hid gput
  clear gput z0 z1 z2 z3 z4 z5 z6 zf r0 r1 r2 r3
  (try simp only [Exit.inBlock, Exit.then])
  refine bodyPost_ret (by simp [results, Tryd.results7, go_sem, u0, u1, u2, u3, u4, u5, u6]; try rfl) rfl ?_
  have hf : fOf 11 x y zs = ⟨26, 0, 0, false, (num x), [], []⟩ := rfl
  rw [hf]
  have hsz := SZ.out
  exact (FrOutN.of (f := ⟨26, 0, 0, false, (num x), [], []⟩) (grown_from (Go.below_drewN HB.out _) (Nat.le_succ _) GP.out) (RSl.nil _ _) (BSl.nil _ _) SlNew.nil SlNew.nil)


set_option maxHeartbeats 600000 in
theorem frameOf_12 (k x y : Int) (s : ByteArray) (hs : s.size ≤ maxLen) (hq : k % 14 = 12) (w : World) :
    Calls Tryd.prog 7 #[.agg #[.int .i64 k, .int .i64 x, .int .i64 y, .string s]] w (FrOutN (fOf 12 x y ((numsOf s).take 40)) w) := by
  obtain ⟨zs, hz⟩ : ∃ zs, (numsOf s).take 40 = zs := ⟨_, rfl⟩
  have hb : Byt zs := hz ▸ (numsOf_byt s).take 40
  have hl : zs.length ≤ 40 := by rw [← hz, List.length_take]; omega
  have HC := Lib.hid (fun w => hz ▸ cut_any s 40 (by omega) hs w)
  obtain ⟨C, W1, hrun, b1, hR, hZ, hsz, hC, hM, hr⟩ := frameOf_pre k x y s zs hb hl w
  have HQ := Lib.hid hq
  have HD := Lib.hid (data_bsl hC hM hr)
  have HB := Lib.hid b1
  have HZ := Lib.hid hZ
  have HR := Lib.hid hR
  have SZ := Lib.hid hsz
  obtain ⟨r0, r1, r2, r3⟩ := blk4 hR
  obtain ⟨z0, z1, z2, z3, z4, z5, z6, zf⟩ := blk7 hZ
  rw [hz]
  have n1 := num_bd x
  have n2 := num_bd y
  clear hz hq hb b1 hZ hR hr hsz
  go_enter Tryd.func7, Tryd.ntmps7
  go_wp2_with (go_at_call 13; refine (HC.out _).mono ?_; rintro e w' ⟨rfl, rfl⟩)
  go_quiet ((go_at_call 14; exact Calls.quiet_of_same ((number_any _ _).mono fun _ _ ⟨a, b⟩ => ⟨a, b.symm⟩)))
  go_wp2_with (go_at_call 15; refine (picked_any _ _ (by omega) (by omega) _).mono ?_; rintro e w' ⟨rfl, rfl⟩; try rw [HQ.out])
  obtain ⟨u0, u1, u2, u3, u4, u5, u6, _, gput⟩ := blk7_put (w := W1.drewN nq) (b := w.heap.size + 1) HZ.out (.int .i64 28) (.int .i64 0) (.int .i64 0) (.bool false) (.int .i64 (num x)) (.slice none 0 0) (.slice none 0 0)
  have GP := Lib.hid gput
  clear gput z0 z1 z2 z3 z4 z5 z6 zf r0 r1 r2 r3
  (try simp only [Exit.inBlock, Exit.then])
  refine bodyPost_ret (by simp [results, Tryd.results7, go_sem, u0, u1, u2, u3, u4, u5, u6]; try rfl) rfl ?_
  have hf : fOf 12 x y zs = ⟨28, 0, 0, false, (num x), [], []⟩ := rfl
  rw [hf]
  have hsz := SZ.out
  exact (FrOutN.of (f := ⟨28, 0, 0, false, (num x), [], []⟩) (grown_from (Go.below_drewN HB.out _) (Nat.le_succ _) GP.out) (RSl.nil _ _) (BSl.nil _ _) SlNew.nil SlNew.nil)

set_option maxRecDepth 100000 in
set_option maxHeartbeats 600000 in
theorem frameOf_13 (k x y : Int) (s : ByteArray) (hs : s.size ≤ maxLen) (hq : k % 14 = 13) (w : World) :
    Calls Tryd.prog 7 #[.agg #[.int .i64 k, .int .i64 x, .int .i64 y, .string s]] w (FrOutN (fOf 13 x y ((numsOf s).take 40)) w) := by
  obtain ⟨zs, hz⟩ : ∃ zs, (numsOf s).take 40 = zs := ⟨_, rfl⟩
  have hb : Byt zs := hz ▸ (numsOf_byt s).take 40
  have hl : zs.length ≤ 40 := by rw [← hz, List.length_take]; omega
  have HC := Lib.hid (fun w => hz ▸ cut_any s 40 (by omega) hs w)
  obtain ⟨C, W1, hrun, b1, hR, hZ, hsz, hC, hM, hr⟩ := frameOf_pre k x y s zs hb hl w
  have HQ := Lib.hid hq
  have HD := Lib.hid (data_bsl hC hM hr)
  have HB := Lib.hid b1
  have HZ := Lib.hid hZ
  have HR := Lib.hid hR
  have SZ := Lib.hid hsz
  obtain ⟨r0, r1, r2, r3⟩ := blk4 hR
  obtain ⟨z0, z1, z2, z3, z4, z5, z6, zf⟩ := blk7 hZ
  rw [hz]
  have n1 := num_bd x
  have n2 := num_bd y
  clear hz hq hb b1 hZ hR hr hsz
  go_enter Tryd.func7, Tryd.ntmps7
  go_wp2_with (go_at_call 13; refine (HC.out _).mono ?_; rintro e w' ⟨rfl, rfl⟩)
  go_quiet ((go_at_call 14; exact Calls.quiet_of_same ((number_any _ _).mono fun _ _ ⟨a, b⟩ => ⟨a, b.symm⟩)))
  have hlt : w.heap.size + 1 < (W1.drewN nq).heap.size := by have := SZ.out; simp; omega
  have hlt0 : w.heap.size < (W1.drewN nq).heap.size := by omega
  have HZ2 := Lib.hid ((Below.heap_alloc (W1.drewN nq) (.cells #[.int .i64 0, .int .i64 30] 3) _ hlt).trans HZ.out)
  have HR2 := Lib.hid ((Below.heap_alloc (W1.drewN nq) (.cells #[.int .i64 0, .int .i64 30] 3) _ hlt0).trans HR.out)
  have HA := Lib.hid (Go.below_drewN HB.out nq)
  obtain ⟨s0, s1, s2, s3⟩ := blk4 HR2.out
  obtain ⟨y0, y1, y2, y3, y4, y5, y6, yf⟩ := blk7 HZ2.out
  have t0 : ((W1.drewN nq).alloc (.cells #[.int .i64 0, .int .i64 30] 3)).cell? ⟨W1.heap.size, 0, none⟩ = some (.int .i64 0) := blk_cell (heap_alloc_new (W1.drewN nq) (.cells #[.int .i64 0, .int .i64 30] 3)) 0
  have t1 : ((W1.drewN nq).alloc (.cells #[.int .i64 0, .int .i64 30] 3)).cell? ⟨W1.heap.size, 1, none⟩ = some (.int .i64 30) := blk_cell (heap_alloc_new (W1.drewN nq) (.cells #[.int .i64 0, .int .i64 30] 3)) 1
  clear hlt hlt0
  by_cases e2 : x % 2 = 0
  · have E3 := Lib.hid e2
    clear e2
    go_wp2_with (go_at_call 15; refine (picked_any _ _ (by omega) (by omega) _).mono ?_; rintro e w' ⟨rfl, rfl⟩; first | rw [HQ.out] | rw [E3.out])
    obtain ⟨u0, u1, u2, u3, u4, u5, u6, _, gput⟩ := blk7_put (w := (W1.drewN nq).alloc (.cells #[.int .i64 0, .int .i64 30] 3)) (b := w.heap.size + 1) HZ2.out (.int .i64 0) (.int .i64 0) (.int .i64 0) (.bool false) (.int .i64 0) (.slice none 0 0) (.slice none 0 0)
    have GP := Lib.hid gput
    clear gput y0 y1 y2 y3 y4 y5 y6 yf t0 t1 s0 s1 s2 s3 z0 z1 z2 z3 z4 z5 z6 zf r0 r1 r2 r3
    (try simp only [Exit.inBlock, Exit.then])
    refine bodyPost_ret (by simp [results, Tryd.results7, go_sem, u0, u1, u2, u3, u4, u5, u6]; try rfl) rfl ?_
    have hf : fOf 13 x y zs = ⟨0, 0, 0, false, 0, [], []⟩ := (show fOf 13 x y zs = ⟨if x % 2 = 0 then 0 else 30, 0, 0, false, 0, [], []⟩ from rfl).trans (by rw [E3.out]; rfl)
    rw [hf]
    exact (FrOutN.of (f := ⟨0, 0, 0, false, 0, [], []⟩) (grown_from (HA.out.alloc HA.out.size (.cells #[.int .i64 0, .int .i64 30] 3)) (Nat.le_succ _) GP.out) (RSl.nil _ _) (BSl.nil _ _) SlNew.nil SlNew.nil)
  · have E3 := Lib.hid (show x % 2 = 1 by omega)
    clear e2
    go_wp2_with (go_at_call 15; refine (picked_any _ _ (by omega) (by omega) _).mono ?_; rintro e w' ⟨rfl, rfl⟩; first | rw [HQ.out] | rw [E3.out])
    obtain ⟨u0, u1, u2, u3, u4, u5, u6, _, gput⟩ := blk7_put (w := (W1.drewN nq).alloc (.cells #[.int .i64 0, .int .i64 30] 3)) (b := w.heap.size + 1) HZ2.out (.int .i64 30) (.int .i64 0) (.int .i64 0) (.bool false) (.int .i64 0) (.slice none 0 0) (.slice none 0 0)
    have GP := Lib.hid gput
    clear gput y0 y1 y2 y3 y4 y5 y6 yf t0 t1 s0 s1 s2 s3 z0 z1 z2 z3 z4 z5 z6 zf r0 r1 r2 r3
    (try simp only [Exit.inBlock, Exit.then])
    refine bodyPost_ret (by simp [results, Tryd.results7, go_sem, u0, u1, u2, u3, u4, u5, u6]; try rfl) rfl ?_
    have hf : fOf 13 x y zs = ⟨30, 0, 0, false, 0, [], []⟩ := (show fOf 13 x y zs = ⟨if x % 2 = 0 then 0 else 30, 0, 0, false, 0, [], []⟩ from rfl).trans (by rw [E3.out]; rfl)
    rw [hf]
    exact (FrOutN.of (f := ⟨30, 0, 0, false, 0, [], []⟩) (grown_from (HA.out.alloc HA.out.size (.cells #[.int .i64 0, .int .i64 30] 3)) (Nat.le_succ _) GP.out) (RSl.nil _ _) (BSl.nil _ _) SlNew.nil SlNew.nil)

/-- a frame of a raw thing, whatever it is -/
theorem frameOf_new (k x y : Int) (s : ByteArray) (hs : s.size ≤ maxLen) (w : World) :
    Calls Tryd.prog 7 #[.agg #[.int .i64 k, .int .i64 x, .int .i64 y, .string s]] w (FrOutN (fOf (k % 14) x y ((numsOf s).take 40)) w) := by
  have c : k % 14 = 0 ∨ k % 14 = 1 ∨ k % 14 = 2 ∨ k % 14 = 3 ∨ k % 14 = 4 ∨ k % 14 = 5 ∨ k % 14 = 6 ∨ k % 14 = 7 ∨ k % 14 = 8 ∨ k % 14 = 9 ∨ k % 14 = 10 ∨ k % 14 = 11 ∨ k % 14 = 12 ∨ k % 14 = 13 := by omega
  rcases c with c | c | c | c | c | c | c | c | c | c | c | c | c | c <;> rw [c]
  · exact frameOf_0 k x y s hs c w
  · exact frameOf_1 k x y s hs c w
  · exact frameOf_2 k x y s hs c w
  · exact frameOf_3 k x y s hs c w
  · exact frameOf_4 k x y s hs c w
  · exact frameOf_5 k x y s hs c w
  · exact frameOf_6 k x y s hs c w
  · exact frameOf_7 k x y s hs c w
  · exact frameOf_8 k x y s hs c w
  · exact frameOf_9 k x y s hs c w
  · exact frameOf_10 k x y s hs c w
  · exact frameOf_11 k x y s hs c w
  · exact frameOf_12 k x y s hs c w
  · exact frameOf_13 k x y s hs c w
theorem frameOf_any (k x y : Int) (s : ByteArray) (hs : s.size ≤ maxLen) (w : World) :
    Calls Tryd.prog 7 #[.agg #[.int .i64 k, .int .i64 x, .int .i64 y, .string s]] w (FrOut (fOf (k % 14) x y ((numsOf s).take 40)) w) := (frameOf_new k x y s hs w).mono fun _ _ h => h.out
end Go.Proofs.YtjeocggocloigabDoor
