/- The texts' own 'headOf': a head of kind 0, out of a raw thing. -/
import Derived.Test.YtaccedlpnngdhaaDoorHdOfM
namespace Go.Proofs.YtaccedlpnngdhaaDoor
set_option linter.unusedVariables false
open Go.RowKit P

set_option maxHeartbeats 1000000 in
theorem headOf_0_0 (k x y q : Int) (s : ByteArray) (hq : k % 3 = 0) (hj : y % 4 = 0) (hx : bits .xor .i64 x y = q) (hss : s.size ≤ maxLen) (w : World) :
    Calls Tryd.prog 11 #[.agg #[.int .i64 k, .int .i64 x, .int .i64 y, .string s]] w (HdOut w) := by
  have HQ := Lib.hid hq
  have HJ := Lib.hid hj
  clear hq hj
  obtain ⟨hR, hZ, hs, hB⟩ := two_bk w #[.int .i64 k, .int .i64 x, .int .i64 y, .string s] #[.int .i64 0, .int .i64 0, .int .i64 0, .slice none 0 0, .int .i64 0, .int .i64 0] 32 24
  obtain ⟨W0, hW0⟩ : ∃ W0, (w.alloc (.cells #[.int .i64 k, .int .i64 x, .int .i64 y, .string s] 32)).alloc (.cells #[.int .i64 0, .int .i64 0, .int .i64 0, .slice none 0 0, .int .i64 0, .int .i64 0] 24) = W0 := ⟨_, rfl⟩
  rw [hW0] at hR hZ hs hB
  have FR := Lib.hid hR
  have FZ := Lib.hid hZ
  have BW := Lib.hid hB
  have HS := Lib.hid hs
  have HW := Lib.hid hW0
  clear hR hZ hs hB hW0
  obtain ⟨r0, r1, r2, r3⟩ := bk4 FR.out
  go_enter Tryd.func11, Tryd.ntmps11
  go_wp2
  rw [HW.out]
  have hw1 : IntKind.i64.wrap (1 + y % 4) = 1 + y % 4 := by rw [IntKind.wrap_i64]; omega
  apply wp_one
  case h =>
   go_region_held3 (fun w' => w'.cell? ⟨w.heap.size, 0, none⟩ = some (.int .i64 k) ∧ w'.cell? ⟨w.heap.size, 1, none⟩ = some (.int .i64 x) ∧ w'.cell? ⟨w.heap.size, 2, none⟩ = some (.int .i64 y)) (go_keep) (first | ((go_at_call 13; refine (picked_any _ _ (by omega) (by omega) _).mono ?_; rintro e w' ⟨rfl, rfl⟩)))
   all_goals exact ⟨rfl, rfl, rfl⟩
  case k =>
   have e1 : 1 + y % 4 = 1 := by have := HJ.out; omega
   rw [HQ.out, e1]
   obtain ⟨W1, hW1⟩ : ∃ W1, (W0.alloc (.cells #[.int .i64 0, .int .i64 (x % 256), .int .i64 0, .slice none 0 0, .int .i64 0, .int .i64 1] 24)).drew = W1 := ⟨_, rfl⟩
   rw [hW1]
   have b1 : Below W0.heap.size W0 W1 := hW1 ▸ ((Below.refl _ _).alloc (Nat.le_refl _) _).drew
   have FH1 := Lib.hid (show W1.heap[W0.heap.size]? = some (.cells #[.int .i64 0, .int .i64 (x % 256), .int .i64 0, .slice none 0 0, .int .i64 0, .int .i64 1] 24 (0, 0)) from hW1 ▸ heap_alloc_new W0 _)
   have FR1 := Lib.hid ((b1.block _ (lt_of_block FR.out)).trans FR.out)
   have FZ1 := Lib.hid ((b1.block _ (lt_of_block FZ.out)).trans FZ.out)
   have B1 := Lib.hid (BW.out.trans (b1.mono BW.out.size))
   have ne1 : W0.heap.size ≠ w.heap.size := by have := HS.out; omega
   clear hW1 b1 r0 r1 r2 r3 hw1 e1
   obtain ⟨r0, r1, r2, r3⟩ := bk4 FR1.out
   obtain ⟨h0, h1, h2, h3, h4, h5, hf⟩ := bk6 FH1.out
   have st5 : (W1.setCell ⟨W0.heap.size, 4, none⟩ (.int .i64 (q % 256))).cell? ⟨W0.heap.size, 5, none⟩ = some (.int .i64 1) := bk_cell (bk_set FH1.out 4 (.int .i64 (q % 256))) 5
   have c1 : IntKind.i64.wrap 8 = 8 := by kernel_rfl
   have c2 : IntKind.i64.wrap 256 = 256 := by kernel_rfl
   go_wp2
   apply wp_one
   case h =>
    go_region_held3 (fun w' => w'.cell? ⟨w.heap.size, 1, none⟩ = some (.int .i64 x) ∧ w'.cell? ⟨w.heap.size, 2, none⟩ = some (.int .i64 y) ∧ w'.cell? ⟨W0.heap.size, 5, none⟩ = some (.int .i64 1)) (go_keep) (first | ((go_at_call 13; refine (picked_any _ _ (by omega) (by omega) _).mono ?_; rintro e w' ⟨rfl, rfl⟩)))
    all_goals exact ⟨rfl, rfl, rfl⟩
   case k =>
    obtain ⟨W2, hW2⟩ : ∃ W2, (W1.setCell ⟨W0.heap.size, 4, none⟩ (.int .i64 (q % 256))).drew = W2 := ⟨_, rfl⟩
    rw [hW2]
    have hs := HS.out
    have g2 : W1.grownBy W2 (some W0.heap.size) := hW2 ▸ gr_drew (gr_set W1 W0.heap.size 4 (.int .i64 (q % 256)))
    have FH2 := Lib.hid (show W2.heap[W0.heap.size]? = some (.cells #[.int .i64 0, .int .i64 (x % 256), .int .i64 0, .slice none 0 0, .int .i64 (q % 256), .int .i64 1] 24 (0, 0)) from hW2 ▸ bk_set FH1.out 4 (.int .i64 (q % 256)))
    have FR2 := Lib.hid ((g2.block _ (lt_of_block FR1.out) (by simp; omega)).trans FR1.out)
    have FZ2 := Lib.hid ((g2.block _ (lt_of_block FZ1.out) (by simp; omega)).trans FZ1.out)
    have B2 := Lib.hid (gr_from B1.out B1.out.size (by omega) g2)
    clear hW2 g2 hs r0 r1 r2 r3 h0 h1 h2 h3 h4 h5 hf st5 c1 c2 hx
    obtain ⟨h0, h1, h2, h3, h4, h5, hf⟩ := bk6 FH2.out
    obtain ⟨d, hd⟩ : ∃ d, (numsOf s).take 30 = d := ⟨_, rfl⟩
    have HC := Lib.hid (fun w => hd ▸ cut_any s 30 (by omega) hss w)
    have hdb := Lib.hid (hd ▸ (numsOf_byt s).take 30 : Byt d)
    have hdl : d.length ≤ 30 := by rw [← hd, List.length_take]; omega
    have hcv := fun w => run_bytes_of_string (P := Tryd.prog) w 9 22 5 (strOfNums d) Tryd.underlying9 Tryd.underlying22 Tryd.underlying5
    have hls : (strOfNums d).size = d.length := strOfNums_size d
    obtain ⟨r0, r1, r2, r3⟩ := bk4 FR2.out
    have nw2 := World.new_ne W2 _ r2
    have nw3 := World.new_ne W2 _ r3
    have nw4 := World.new_ne W2 _ h2
    have hlt2 := lt_of_block FH2.out
    have ka : ∀ o i, (W2.drew.drew.alloc o).cell? ⟨W0.heap.size, i, none⟩ = W2.cell? ⟨W0.heap.size, i, none⟩ := fun o i => (((Below.refl W2.heap.size W2).drew.drew).alloc (Nat.le_refl _) o).cell hlt2
    have kf : ∀ o i, (W2.drew.drew.alloc o).frozen? ⟨W0.heap.size, i, none⟩ = false := fun o i => bk_frz (((((Below.refl W2.heap.size W2).drew.drew).alloc (Nat.le_refl _) o).block _ hlt2).trans FH2.out) i
    clear hd hss
    go_wp2
    obtain ⟨Q0, hQ0⟩ : ∃ Q0 : Exit → Act → World → Prop, Q0 = fun e a' w' => e = .normal ∧ ∃ (C : Nat) (x0 x1 x4 x5 x6 x7 x8 x9 x10 x11 x12 x13 x14 x15 x16 x17 x18 x19 x20 x21 x22 x23 x24 x25 x26 x27 x28 x29 x30 x31 x32 x33 x34 x35 x36 x37 x38 x39 x40 x41 x42 x43 : Value), a' = { tmps := #[x0, x1, .pointer (some ⟨w.heap.size + 1, 0, none⟩), .pointer (some ⟨W0.heap.size, 0, none⟩), x4, x5, x6, x7, x8, x9, x10, x11, x12, x13, x14, x15, x16, x17, x18, x19, x20, x21, x22, x23, x24, x25, x26, x27, x28, x29, x30, x31, x32, x33, x34, x35, x36, x37, x38, x39, x40, x41, x42, x43], defers := [] } ∧ TokAt w W0.heap.size W2.heap.size 24 0 (x % 256) (y % 256) (q % 256) 1 d C w' := ⟨_, rfl⟩
    have HQ0 := Lib.hid hQ0
    clear hQ0
    refine Code.wp_mono (Q := NoPanic Q0) ?k ?h
    case h =>
      go_region_with (first
        | ((go_at_call 13; refine (picked_any _ _ (by omega) (by omega) _).mono ?_; rintro e w' ⟨rfl, rfl⟩))
        | ((go_at_call 21; refine (HC.out _).mono ?_; rintro e w' ⟨rfl, rfl⟩)))
      all_goals
        have hs := HS.out
        refine NoPanic.normal ?_
        rw [HQ0.out]
        exact ⟨rfl, _, _, _, _, _, _, _, _, _, _, _, _, _, _, _, _, _, _, _, _, _, _, _, _, _, _, _, _, _, _, _, _, _, _, _, _, _, _, _, _, _, _, _, rfl, tok_at B2.out FH2.out FZ2.out (by omega) hdb.out _ _ (grownCap_ge _ _ _ _) (grownCap_le_maxLen _ _ _ _ (by unfold maxLen; omega))⟩
    rintro e' a' w' hq0'
    have hq0 := NoPanic.imp _ _ _ hq0'
    clear hq0'
    rw [HQ0.out] at hq0
    obtain ⟨rfl, C, x0, x1, x4, x5, x6, x7, x8, x9, x10, x11, x12, x13, x14, x15, x16, x17, x18, x19, x20, x21, x22, x23, x24, x25, x26, x27, x28, x29, x30, x31, x32, x33, x34, x35, x36, x37, x38, x39, x40, x41, x42, x43, rfl, H3⟩ := hq0
    clear HQ0
    have H3 := Lib.hid H3
    clear r0 r1 r2 r3 h0 h1 h2 h3 h4 h5 hf nw2 nw3 nw4 ka kf hcv hls
    obtain ⟨h0, h1, h2, h3, h4, h5, hf⟩ := bk6 H3.out.f
    obtain ⟨z0, z1, z2, z3, z4, z5, zf⟩ := bk6 H3.out.z
    go_wp2
    obtain ⟨u0, u1, u2, u3, u4, u5, _, gput⟩ := bk6_put H3.out.z (.int .i64 0) (.int .i64 (x % 256)) (.int .i64 (y % 256)) (.slice (some ⟨W2.heap.size, 0, none⟩) d.length C) (.int .i64 (q % 256)) (.int .i64 1)
    have GP := Lib.hid gput
    clear gput z0 z1 z2 z3 z4 z5 zf h0 h1 h2 h3 h4 h5 hf
    refine bodyPost_ret (by simp [results, Tryd.results11, go_sem, u0, u1, u2, u3, u4, u5]; try rfl) rfl ?_
    have hs := HS.out
    have hlt := H3.out.lt
    exact ⟨⟨0, x % 256, y % 256, d, q % 256, 1⟩, _, fault_ok (by simp only; omega) (by simp only; omega) (by simp only; omega) (by simp only; omega) (by simp only; omega) (by simp only; omega) (by simp only; omega) (fun e => by simp at e) (fun _ => ⟨by simp only; omega, by simp only; omega, by simp only; omega, by show q % 256 < 256; omega⟩) (fun e => by simp at e), rfl, ⟨_, rfl, bsl_gr H3.out.d (by simp [Value.ownBlock]; omega) GP.out⟩, gr_from H3.out.be H3.out.be.size (by omega) GP.out⟩
set_option maxHeartbeats 1000000 in
theorem headOf_0_1 (k x y q : Int) (s : ByteArray) (hq : k % 3 = 0) (hj : y % 4 = 1) (hx : bits .xor .i64 x y = q) (hss : s.size ≤ maxLen) (w : World) :
    Calls Tryd.prog 11 #[.agg #[.int .i64 k, .int .i64 x, .int .i64 y, .string s]] w (HdOut w) := by
  have HQ := Lib.hid hq
  have HJ := Lib.hid hj
  clear hq hj
  obtain ⟨hR, hZ, hs, hB⟩ := two_bk w #[.int .i64 k, .int .i64 x, .int .i64 y, .string s] #[.int .i64 0, .int .i64 0, .int .i64 0, .slice none 0 0, .int .i64 0, .int .i64 0] 32 24
  obtain ⟨W0, hW0⟩ : ∃ W0, (w.alloc (.cells #[.int .i64 k, .int .i64 x, .int .i64 y, .string s] 32)).alloc (.cells #[.int .i64 0, .int .i64 0, .int .i64 0, .slice none 0 0, .int .i64 0, .int .i64 0] 24) = W0 := ⟨_, rfl⟩
  rw [hW0] at hR hZ hs hB
  have FR := Lib.hid hR
  have FZ := Lib.hid hZ
  have BW := Lib.hid hB
  have HS := Lib.hid hs
  have HW := Lib.hid hW0
  clear hR hZ hs hB hW0
  obtain ⟨r0, r1, r2, r3⟩ := bk4 FR.out
  go_enter Tryd.func11, Tryd.ntmps11
  go_wp2
  rw [HW.out]
  have hw1 : IntKind.i64.wrap (1 + y % 4) = 1 + y % 4 := by rw [IntKind.wrap_i64]; omega
  apply wp_one
  case h =>
   go_region_held3 (fun w' => w'.cell? ⟨w.heap.size, 0, none⟩ = some (.int .i64 k) ∧ w'.cell? ⟨w.heap.size, 1, none⟩ = some (.int .i64 x) ∧ w'.cell? ⟨w.heap.size, 2, none⟩ = some (.int .i64 y)) (go_keep) (first | ((go_at_call 13; refine (picked_any _ _ (by omega) (by omega) _).mono ?_; rintro e w' ⟨rfl, rfl⟩)))
   all_goals exact ⟨rfl, rfl, rfl⟩
  case k =>
   have e1 : 1 + y % 4 = 2 := by have := HJ.out; omega
   rw [HQ.out, e1]
   obtain ⟨W1, hW1⟩ : ∃ W1, (W0.alloc (.cells #[.int .i64 0, .int .i64 (x % 256), .int .i64 0, .slice none 0 0, .int .i64 0, .int .i64 2] 24)).drew = W1 := ⟨_, rfl⟩
   rw [hW1]
   have b1 : Below W0.heap.size W0 W1 := hW1 ▸ ((Below.refl _ _).alloc (Nat.le_refl _) _).drew
   have FH1 := Lib.hid (show W1.heap[W0.heap.size]? = some (.cells #[.int .i64 0, .int .i64 (x % 256), .int .i64 0, .slice none 0 0, .int .i64 0, .int .i64 2] 24 (0, 0)) from hW1 ▸ heap_alloc_new W0 _)
   have FR1 := Lib.hid ((b1.block _ (lt_of_block FR.out)).trans FR.out)
   have FZ1 := Lib.hid ((b1.block _ (lt_of_block FZ.out)).trans FZ.out)
   have B1 := Lib.hid (BW.out.trans (b1.mono BW.out.size))
   have ne1 : W0.heap.size ≠ w.heap.size := by have := HS.out; omega
   clear hW1 b1 r0 r1 r2 r3 hw1 e1
   obtain ⟨r0, r1, r2, r3⟩ := bk4 FR1.out
   obtain ⟨h0, h1, h2, h3, h4, h5, hf⟩ := bk6 FH1.out
   have st5 : (W1.setCell ⟨W0.heap.size, 4, none⟩ (.int .i64 (q % 65536))).cell? ⟨W0.heap.size, 5, none⟩ = some (.int .i64 2) := bk_cell (bk_set FH1.out 4 (.int .i64 (q % 65536))) 5
   have c1 : IntKind.i64.wrap 16 = 16 := by kernel_rfl
   have c2 : IntKind.i64.wrap 65536 = 65536 := by kernel_rfl
   go_wp2
   apply wp_one
   case h =>
    go_region_held3 (fun w' => w'.cell? ⟨w.heap.size, 1, none⟩ = some (.int .i64 x) ∧ w'.cell? ⟨w.heap.size, 2, none⟩ = some (.int .i64 y) ∧ w'.cell? ⟨W0.heap.size, 5, none⟩ = some (.int .i64 2)) (go_keep) (first | ((go_at_call 13; refine (picked_any _ _ (by omega) (by omega) _).mono ?_; rintro e w' ⟨rfl, rfl⟩)))
    all_goals exact ⟨rfl, rfl, rfl⟩
   case k =>
    obtain ⟨W2, hW2⟩ : ∃ W2, (W1.setCell ⟨W0.heap.size, 4, none⟩ (.int .i64 (q % 65536))).drew = W2 := ⟨_, rfl⟩
    rw [hW2]
    have hs := HS.out
    have g2 : W1.grownBy W2 (some W0.heap.size) := hW2 ▸ gr_drew (gr_set W1 W0.heap.size 4 (.int .i64 (q % 65536)))
    have FH2 := Lib.hid (show W2.heap[W0.heap.size]? = some (.cells #[.int .i64 0, .int .i64 (x % 256), .int .i64 0, .slice none 0 0, .int .i64 (q % 65536), .int .i64 2] 24 (0, 0)) from hW2 ▸ bk_set FH1.out 4 (.int .i64 (q % 65536)))
    have FR2 := Lib.hid ((g2.block _ (lt_of_block FR1.out) (by simp; omega)).trans FR1.out)
    have FZ2 := Lib.hid ((g2.block _ (lt_of_block FZ1.out) (by simp; omega)).trans FZ1.out)
    have B2 := Lib.hid (gr_from B1.out B1.out.size (by omega) g2)
    clear hW2 g2 hs r0 r1 r2 r3 h0 h1 h2 h3 h4 h5 hf st5 c1 c2 hx
    obtain ⟨h0, h1, h2, h3, h4, h5, hf⟩ := bk6 FH2.out
    obtain ⟨d, hd⟩ : ∃ d, (numsOf s).take 30 = d := ⟨_, rfl⟩
    have HC := Lib.hid (fun w => hd ▸ cut_any s 30 (by omega) hss w)
    have hdb := Lib.hid (hd ▸ (numsOf_byt s).take 30 : Byt d)
    have hdl : d.length ≤ 30 := by rw [← hd, List.length_take]; omega
    have hcv := fun w => run_bytes_of_string (P := Tryd.prog) w 9 22 5 (strOfNums d) Tryd.underlying9 Tryd.underlying22 Tryd.underlying5
    have hls : (strOfNums d).size = d.length := strOfNums_size d
    obtain ⟨r0, r1, r2, r3⟩ := bk4 FR2.out
    have nw2 := World.new_ne W2 _ r2
    have nw3 := World.new_ne W2 _ r3
    have nw4 := World.new_ne W2 _ h2
    have hlt2 := lt_of_block FH2.out
    have ka : ∀ o i, (W2.drew.drew.alloc o).cell? ⟨W0.heap.size, i, none⟩ = W2.cell? ⟨W0.heap.size, i, none⟩ := fun o i => (((Below.refl W2.heap.size W2).drew.drew).alloc (Nat.le_refl _) o).cell hlt2
    have kf : ∀ o i, (W2.drew.drew.alloc o).frozen? ⟨W0.heap.size, i, none⟩ = false := fun o i => bk_frz (((((Below.refl W2.heap.size W2).drew.drew).alloc (Nat.le_refl _) o).block _ hlt2).trans FH2.out) i
    clear hd hss
    go_wp2
    obtain ⟨Q0, hQ0⟩ : ∃ Q0 : Exit → Act → World → Prop, Q0 = fun e a' w' => e = .normal ∧ ∃ (C : Nat) (x0 x1 x4 x5 x6 x7 x8 x9 x10 x11 x12 x13 x14 x15 x16 x17 x18 x19 x20 x21 x22 x23 x24 x25 x26 x27 x28 x29 x30 x31 x32 x33 x34 x35 x36 x37 x38 x39 x40 x41 x42 x43 : Value), a' = { tmps := #[x0, x1, .pointer (some ⟨w.heap.size + 1, 0, none⟩), .pointer (some ⟨W0.heap.size, 0, none⟩), x4, x5, x6, x7, x8, x9, x10, x11, x12, x13, x14, x15, x16, x17, x18, x19, x20, x21, x22, x23, x24, x25, x26, x27, x28, x29, x30, x31, x32, x33, x34, x35, x36, x37, x38, x39, x40, x41, x42, x43], defers := [] } ∧ TokAt w W0.heap.size W2.heap.size 24 0 (x % 256) (y % 256) (q % 65536) 2 d C w' := ⟨_, rfl⟩
    have HQ0 := Lib.hid hQ0
    clear hQ0
    refine Code.wp_mono (Q := NoPanic Q0) ?k ?h
    case h =>
      go_region_with (first
        | ((go_at_call 13; refine (picked_any _ _ (by omega) (by omega) _).mono ?_; rintro e w' ⟨rfl, rfl⟩))
        | ((go_at_call 21; refine (HC.out _).mono ?_; rintro e w' ⟨rfl, rfl⟩)))
      all_goals
        have hs := HS.out
        refine NoPanic.normal ?_
        rw [HQ0.out]
        exact ⟨rfl, _, _, _, _, _, _, _, _, _, _, _, _, _, _, _, _, _, _, _, _, _, _, _, _, _, _, _, _, _, _, _, _, _, _, _, _, _, _, _, _, _, _, _, rfl, tok_at B2.out FH2.out FZ2.out (by omega) hdb.out _ _ (grownCap_ge _ _ _ _) (grownCap_le_maxLen _ _ _ _ (by unfold maxLen; omega))⟩
    rintro e' a' w' hq0'
    have hq0 := NoPanic.imp _ _ _ hq0'
    clear hq0'
    rw [HQ0.out] at hq0
    obtain ⟨rfl, C, x0, x1, x4, x5, x6, x7, x8, x9, x10, x11, x12, x13, x14, x15, x16, x17, x18, x19, x20, x21, x22, x23, x24, x25, x26, x27, x28, x29, x30, x31, x32, x33, x34, x35, x36, x37, x38, x39, x40, x41, x42, x43, rfl, H3⟩ := hq0
    clear HQ0
    have H3 := Lib.hid H3
    clear r0 r1 r2 r3 h0 h1 h2 h3 h4 h5 hf nw2 nw3 nw4 ka kf hcv hls
    obtain ⟨h0, h1, h2, h3, h4, h5, hf⟩ := bk6 H3.out.f
    obtain ⟨z0, z1, z2, z3, z4, z5, zf⟩ := bk6 H3.out.z
    go_wp2
    obtain ⟨u0, u1, u2, u3, u4, u5, _, gput⟩ := bk6_put H3.out.z (.int .i64 0) (.int .i64 (x % 256)) (.int .i64 (y % 256)) (.slice (some ⟨W2.heap.size, 0, none⟩) d.length C) (.int .i64 (q % 65536)) (.int .i64 2)
    have GP := Lib.hid gput
    clear gput z0 z1 z2 z3 z4 z5 zf h0 h1 h2 h3 h4 h5 hf
    refine bodyPost_ret (by simp [results, Tryd.results11, go_sem, u0, u1, u2, u3, u4, u5]; try rfl) rfl ?_
    have hs := HS.out
    have hlt := H3.out.lt
    exact ⟨⟨0, x % 256, y % 256, d, q % 65536, 2⟩, _, fault_ok (by simp only; omega) (by simp only; omega) (by simp only; omega) (by simp only; omega) (by simp only; omega) (by simp only; omega) (by simp only; omega) (fun e => by simp at e) (fun _ => ⟨by simp only; omega, by simp only; omega, by simp only; omega, by show q % 65536 < 65536; omega⟩) (fun e => by simp at e), rfl, ⟨_, rfl, bsl_gr H3.out.d (by simp [Value.ownBlock]; omega) GP.out⟩, gr_from H3.out.be H3.out.be.size (by omega) GP.out⟩
set_option maxHeartbeats 1000000 in
theorem headOf_0_2 (k x y q : Int) (s : ByteArray) (hq : k % 3 = 0) (hj : y % 4 = 2) (hx : bits .xor .i64 x y = q) (hss : s.size ≤ maxLen) (w : World) :
    Calls Tryd.prog 11 #[.agg #[.int .i64 k, .int .i64 x, .int .i64 y, .string s]] w (HdOut w) := by
  have HQ := Lib.hid hq
  have HJ := Lib.hid hj
  clear hq hj
  obtain ⟨hR, hZ, hs, hB⟩ := two_bk w #[.int .i64 k, .int .i64 x, .int .i64 y, .string s] #[.int .i64 0, .int .i64 0, .int .i64 0, .slice none 0 0, .int .i64 0, .int .i64 0] 32 24
  obtain ⟨W0, hW0⟩ : ∃ W0, (w.alloc (.cells #[.int .i64 k, .int .i64 x, .int .i64 y, .string s] 32)).alloc (.cells #[.int .i64 0, .int .i64 0, .int .i64 0, .slice none 0 0, .int .i64 0, .int .i64 0] 24) = W0 := ⟨_, rfl⟩
  rw [hW0] at hR hZ hs hB
  have FR := Lib.hid hR
  have FZ := Lib.hid hZ
  have BW := Lib.hid hB
  have HS := Lib.hid hs
  have HW := Lib.hid hW0
  clear hR hZ hs hB hW0
  obtain ⟨r0, r1, r2, r3⟩ := bk4 FR.out
  go_enter Tryd.func11, Tryd.ntmps11
  go_wp2
  rw [HW.out]
  have hw1 : IntKind.i64.wrap (1 + y % 4) = 1 + y % 4 := by rw [IntKind.wrap_i64]; omega
  apply wp_one
  case h =>
   go_region_held3 (fun w' => w'.cell? ⟨w.heap.size, 0, none⟩ = some (.int .i64 k) ∧ w'.cell? ⟨w.heap.size, 1, none⟩ = some (.int .i64 x) ∧ w'.cell? ⟨w.heap.size, 2, none⟩ = some (.int .i64 y)) (go_keep) (first | ((go_at_call 13; refine (picked_any _ _ (by omega) (by omega) _).mono ?_; rintro e w' ⟨rfl, rfl⟩)))
   all_goals exact ⟨rfl, rfl, rfl⟩
  case k =>
   have e1 : 1 + y % 4 = 3 := by have := HJ.out; omega
   rw [HQ.out, e1]
   obtain ⟨W1, hW1⟩ : ∃ W1, (W0.alloc (.cells #[.int .i64 0, .int .i64 (x % 256), .int .i64 0, .slice none 0 0, .int .i64 0, .int .i64 3] 24)).drew = W1 := ⟨_, rfl⟩
   rw [hW1]
   have b1 : Below W0.heap.size W0 W1 := hW1 ▸ ((Below.refl _ _).alloc (Nat.le_refl _) _).drew
   have FH1 := Lib.hid (show W1.heap[W0.heap.size]? = some (.cells #[.int .i64 0, .int .i64 (x % 256), .int .i64 0, .slice none 0 0, .int .i64 0, .int .i64 3] 24 (0, 0)) from hW1 ▸ heap_alloc_new W0 _)
   have FR1 := Lib.hid ((b1.block _ (lt_of_block FR.out)).trans FR.out)
   have FZ1 := Lib.hid ((b1.block _ (lt_of_block FZ.out)).trans FZ.out)
   have B1 := Lib.hid (BW.out.trans (b1.mono BW.out.size))
   have ne1 : W0.heap.size ≠ w.heap.size := by have := HS.out; omega
   clear hW1 b1 r0 r1 r2 r3 hw1 e1
   obtain ⟨r0, r1, r2, r3⟩ := bk4 FR1.out
   obtain ⟨h0, h1, h2, h3, h4, h5, hf⟩ := bk6 FH1.out
   have st5 : (W1.setCell ⟨W0.heap.size, 4, none⟩ (.int .i64 (q % 16777216))).cell? ⟨W0.heap.size, 5, none⟩ = some (.int .i64 3) := bk_cell (bk_set FH1.out 4 (.int .i64 (q % 16777216))) 5
   have c1 : IntKind.i64.wrap 24 = 24 := by kernel_rfl
   have c2 : IntKind.i64.wrap 16777216 = 16777216 := by kernel_rfl
   go_wp2
   apply wp_one
   case h =>
    go_region_held3 (fun w' => w'.cell? ⟨w.heap.size, 1, none⟩ = some (.int .i64 x) ∧ w'.cell? ⟨w.heap.size, 2, none⟩ = some (.int .i64 y) ∧ w'.cell? ⟨W0.heap.size, 5, none⟩ = some (.int .i64 3)) (go_keep) (first | ((go_at_call 13; refine (picked_any _ _ (by omega) (by omega) _).mono ?_; rintro e w' ⟨rfl, rfl⟩)))
    all_goals exact ⟨rfl, rfl, rfl⟩
   case k =>
    obtain ⟨W2, hW2⟩ : ∃ W2, (W1.setCell ⟨W0.heap.size, 4, none⟩ (.int .i64 (q % 16777216))).drew = W2 := ⟨_, rfl⟩
    rw [hW2]
    have hs := HS.out
    have g2 : W1.grownBy W2 (some W0.heap.size) := hW2 ▸ gr_drew (gr_set W1 W0.heap.size 4 (.int .i64 (q % 16777216)))
    have FH2 := Lib.hid (show W2.heap[W0.heap.size]? = some (.cells #[.int .i64 0, .int .i64 (x % 256), .int .i64 0, .slice none 0 0, .int .i64 (q % 16777216), .int .i64 3] 24 (0, 0)) from hW2 ▸ bk_set FH1.out 4 (.int .i64 (q % 16777216)))
    have FR2 := Lib.hid ((g2.block _ (lt_of_block FR1.out) (by simp; omega)).trans FR1.out)
    have FZ2 := Lib.hid ((g2.block _ (lt_of_block FZ1.out) (by simp; omega)).trans FZ1.out)
    have B2 := Lib.hid (gr_from B1.out B1.out.size (by omega) g2)
    clear hW2 g2 hs r0 r1 r2 r3 h0 h1 h2 h3 h4 h5 hf st5 c1 c2 hx
    obtain ⟨h0, h1, h2, h3, h4, h5, hf⟩ := bk6 FH2.out
    obtain ⟨d, hd⟩ : ∃ d, (numsOf s).take 30 = d := ⟨_, rfl⟩
    have HC := Lib.hid (fun w => hd ▸ cut_any s 30 (by omega) hss w)
    have hdb := Lib.hid (hd ▸ (numsOf_byt s).take 30 : Byt d)
    have hdl : d.length ≤ 30 := by rw [← hd, List.length_take]; omega
    have hcv := fun w => run_bytes_of_string (P := Tryd.prog) w 9 22 5 (strOfNums d) Tryd.underlying9 Tryd.underlying22 Tryd.underlying5
    have hls : (strOfNums d).size = d.length := strOfNums_size d
    obtain ⟨r0, r1, r2, r3⟩ := bk4 FR2.out
    have nw2 := World.new_ne W2 _ r2
    have nw3 := World.new_ne W2 _ r3
    have nw4 := World.new_ne W2 _ h2
    have hlt2 := lt_of_block FH2.out
    have ka : ∀ o i, (W2.drew.drew.alloc o).cell? ⟨W0.heap.size, i, none⟩ = W2.cell? ⟨W0.heap.size, i, none⟩ := fun o i => (((Below.refl W2.heap.size W2).drew.drew).alloc (Nat.le_refl _) o).cell hlt2
    have kf : ∀ o i, (W2.drew.drew.alloc o).frozen? ⟨W0.heap.size, i, none⟩ = false := fun o i => bk_frz (((((Below.refl W2.heap.size W2).drew.drew).alloc (Nat.le_refl _) o).block _ hlt2).trans FH2.out) i
    clear hd hss
    go_wp2
    obtain ⟨Q0, hQ0⟩ : ∃ Q0 : Exit → Act → World → Prop, Q0 = fun e a' w' => e = .normal ∧ ∃ (C : Nat) (x0 x1 x4 x5 x6 x7 x8 x9 x10 x11 x12 x13 x14 x15 x16 x17 x18 x19 x20 x21 x22 x23 x24 x25 x26 x27 x28 x29 x30 x31 x32 x33 x34 x35 x36 x37 x38 x39 x40 x41 x42 x43 : Value), a' = { tmps := #[x0, x1, .pointer (some ⟨w.heap.size + 1, 0, none⟩), .pointer (some ⟨W0.heap.size, 0, none⟩), x4, x5, x6, x7, x8, x9, x10, x11, x12, x13, x14, x15, x16, x17, x18, x19, x20, x21, x22, x23, x24, x25, x26, x27, x28, x29, x30, x31, x32, x33, x34, x35, x36, x37, x38, x39, x40, x41, x42, x43], defers := [] } ∧ TokAt w W0.heap.size W2.heap.size 24 0 (x % 256) (y % 256) (q % 16777216) 3 d C w' := ⟨_, rfl⟩
    have HQ0 := Lib.hid hQ0
    clear hQ0
    refine Code.wp_mono (Q := NoPanic Q0) ?k ?h
    case h =>
      go_region_with (first
        | ((go_at_call 13; refine (picked_any _ _ (by omega) (by omega) _).mono ?_; rintro e w' ⟨rfl, rfl⟩))
        | ((go_at_call 21; refine (HC.out _).mono ?_; rintro e w' ⟨rfl, rfl⟩)))
      all_goals
        have hs := HS.out
        refine NoPanic.normal ?_
        rw [HQ0.out]
        exact ⟨rfl, _, _, _, _, _, _, _, _, _, _, _, _, _, _, _, _, _, _, _, _, _, _, _, _, _, _, _, _, _, _, _, _, _, _, _, _, _, _, _, _, _, _, _, rfl, tok_at B2.out FH2.out FZ2.out (by omega) hdb.out _ _ (grownCap_ge _ _ _ _) (grownCap_le_maxLen _ _ _ _ (by unfold maxLen; omega))⟩
    rintro e' a' w' hq0'
    have hq0 := NoPanic.imp _ _ _ hq0'
    clear hq0'
    rw [HQ0.out] at hq0
    obtain ⟨rfl, C, x0, x1, x4, x5, x6, x7, x8, x9, x10, x11, x12, x13, x14, x15, x16, x17, x18, x19, x20, x21, x22, x23, x24, x25, x26, x27, x28, x29, x30, x31, x32, x33, x34, x35, x36, x37, x38, x39, x40, x41, x42, x43, rfl, H3⟩ := hq0
    clear HQ0
    have H3 := Lib.hid H3
    clear r0 r1 r2 r3 h0 h1 h2 h3 h4 h5 hf nw2 nw3 nw4 ka kf hcv hls
    obtain ⟨h0, h1, h2, h3, h4, h5, hf⟩ := bk6 H3.out.f
    obtain ⟨z0, z1, z2, z3, z4, z5, zf⟩ := bk6 H3.out.z
    go_wp2
    obtain ⟨u0, u1, u2, u3, u4, u5, _, gput⟩ := bk6_put H3.out.z (.int .i64 0) (.int .i64 (x % 256)) (.int .i64 (y % 256)) (.slice (some ⟨W2.heap.size, 0, none⟩) d.length C) (.int .i64 (q % 16777216)) (.int .i64 3)
    have GP := Lib.hid gput
    clear gput z0 z1 z2 z3 z4 z5 zf h0 h1 h2 h3 h4 h5 hf
    refine bodyPost_ret (by simp [results, Tryd.results11, go_sem, u0, u1, u2, u3, u4, u5]; try rfl) rfl ?_
    have hs := HS.out
    have hlt := H3.out.lt
    exact ⟨⟨0, x % 256, y % 256, d, q % 16777216, 3⟩, _, fault_ok (by simp only; omega) (by simp only; omega) (by simp only; omega) (by simp only; omega) (by simp only; omega) (by simp only; omega) (by simp only; omega) (fun e => by simp at e) (fun _ => ⟨by simp only; omega, by simp only; omega, by simp only; omega, by show q % 16777216 < 16777216; omega⟩) (fun e => by simp at e), rfl, ⟨_, rfl, bsl_gr H3.out.d (by simp [Value.ownBlock]; omega) GP.out⟩, gr_from H3.out.be H3.out.be.size (by omega) GP.out⟩
set_option maxHeartbeats 1000000 in
theorem headOf_0_3 (k x y q : Int) (s : ByteArray) (hq : k % 3 = 0) (hj : y % 4 = 3) (hx : bits .xor .i64 x y = q) (hss : s.size ≤ maxLen) (w : World) :
    Calls Tryd.prog 11 #[.agg #[.int .i64 k, .int .i64 x, .int .i64 y, .string s]] w (HdOut w) := by
  have HQ := Lib.hid hq
  have HJ := Lib.hid hj
  clear hq hj
  obtain ⟨hR, hZ, hs, hB⟩ := two_bk w #[.int .i64 k, .int .i64 x, .int .i64 y, .string s] #[.int .i64 0, .int .i64 0, .int .i64 0, .slice none 0 0, .int .i64 0, .int .i64 0] 32 24
  obtain ⟨W0, hW0⟩ : ∃ W0, (w.alloc (.cells #[.int .i64 k, .int .i64 x, .int .i64 y, .string s] 32)).alloc (.cells #[.int .i64 0, .int .i64 0, .int .i64 0, .slice none 0 0, .int .i64 0, .int .i64 0] 24) = W0 := ⟨_, rfl⟩
  rw [hW0] at hR hZ hs hB
  have FR := Lib.hid hR
  have FZ := Lib.hid hZ
  have BW := Lib.hid hB
  have HS := Lib.hid hs
  have HW := Lib.hid hW0
  clear hR hZ hs hB hW0
  obtain ⟨r0, r1, r2, r3⟩ := bk4 FR.out
  go_enter Tryd.func11, Tryd.ntmps11
  go_wp2
  rw [HW.out]
  have hw1 : IntKind.i64.wrap (1 + y % 4) = 1 + y % 4 := by rw [IntKind.wrap_i64]; omega
  apply wp_one
  case h =>
   go_region_held3 (fun w' => w'.cell? ⟨w.heap.size, 0, none⟩ = some (.int .i64 k) ∧ w'.cell? ⟨w.heap.size, 1, none⟩ = some (.int .i64 x) ∧ w'.cell? ⟨w.heap.size, 2, none⟩ = some (.int .i64 y)) (go_keep) (first | ((go_at_call 13; refine (picked_any _ _ (by omega) (by omega) _).mono ?_; rintro e w' ⟨rfl, rfl⟩)))
   all_goals exact ⟨rfl, rfl, rfl⟩
  case k =>
   have e1 : 1 + y % 4 = 4 := by have := HJ.out; omega
   rw [HQ.out, e1]
   obtain ⟨W1, hW1⟩ : ∃ W1, (W0.alloc (.cells #[.int .i64 0, .int .i64 (x % 256), .int .i64 0, .slice none 0 0, .int .i64 0, .int .i64 4] 24)).drew = W1 := ⟨_, rfl⟩
   rw [hW1]
   have b1 : Below W0.heap.size W0 W1 := hW1 ▸ ((Below.refl _ _).alloc (Nat.le_refl _) _).drew
   have FH1 := Lib.hid (show W1.heap[W0.heap.size]? = some (.cells #[.int .i64 0, .int .i64 (x % 256), .int .i64 0, .slice none 0 0, .int .i64 0, .int .i64 4] 24 (0, 0)) from hW1 ▸ heap_alloc_new W0 _)
   have FR1 := Lib.hid ((b1.block _ (lt_of_block FR.out)).trans FR.out)
   have FZ1 := Lib.hid ((b1.block _ (lt_of_block FZ.out)).trans FZ.out)
   have B1 := Lib.hid (BW.out.trans (b1.mono BW.out.size))
   have ne1 : W0.heap.size ≠ w.heap.size := by have := HS.out; omega
   clear hW1 b1 r0 r1 r2 r3 hw1 e1
   obtain ⟨r0, r1, r2, r3⟩ := bk4 FR1.out
   obtain ⟨h0, h1, h2, h3, h4, h5, hf⟩ := bk6 FH1.out
   have st5 : (W1.setCell ⟨W0.heap.size, 4, none⟩ (.int .i64 (q % 4294967296))).cell? ⟨W0.heap.size, 5, none⟩ = some (.int .i64 4) := bk_cell (bk_set FH1.out 4 (.int .i64 (q % 4294967296))) 5
   have c1 : IntKind.i64.wrap 32 = 32 := by kernel_rfl
   have c2 : IntKind.i64.wrap 4294967296 = 4294967296 := by kernel_rfl
   go_wp2
   apply wp_one
   case h =>
    go_region_held3 (fun w' => w'.cell? ⟨w.heap.size, 1, none⟩ = some (.int .i64 x) ∧ w'.cell? ⟨w.heap.size, 2, none⟩ = some (.int .i64 y) ∧ w'.cell? ⟨W0.heap.size, 5, none⟩ = some (.int .i64 4)) (go_keep) (first | ((go_at_call 13; refine (picked_any _ _ (by omega) (by omega) _).mono ?_; rintro e w' ⟨rfl, rfl⟩)))
    all_goals exact ⟨rfl, rfl, rfl⟩
   case k =>
    obtain ⟨W2, hW2⟩ : ∃ W2, (W1.setCell ⟨W0.heap.size, 4, none⟩ (.int .i64 (q % 4294967296))).drew = W2 := ⟨_, rfl⟩
    rw [hW2]
    have hs := HS.out
    have g2 : W1.grownBy W2 (some W0.heap.size) := hW2 ▸ gr_drew (gr_set W1 W0.heap.size 4 (.int .i64 (q % 4294967296)))
    have FH2 := Lib.hid (show W2.heap[W0.heap.size]? = some (.cells #[.int .i64 0, .int .i64 (x % 256), .int .i64 0, .slice none 0 0, .int .i64 (q % 4294967296), .int .i64 4] 24 (0, 0)) from hW2 ▸ bk_set FH1.out 4 (.int .i64 (q % 4294967296)))
    have FR2 := Lib.hid ((g2.block _ (lt_of_block FR1.out) (by simp; omega)).trans FR1.out)
    have FZ2 := Lib.hid ((g2.block _ (lt_of_block FZ1.out) (by simp; omega)).trans FZ1.out)
    have B2 := Lib.hid (gr_from B1.out B1.out.size (by omega) g2)
    clear hW2 g2 hs r0 r1 r2 r3 h0 h1 h2 h3 h4 h5 hf st5 c1 c2 hx
    obtain ⟨h0, h1, h2, h3, h4, h5, hf⟩ := bk6 FH2.out
    obtain ⟨d, hd⟩ : ∃ d, (numsOf s).take 30 = d := ⟨_, rfl⟩
    have HC := Lib.hid (fun w => hd ▸ cut_any s 30 (by omega) hss w)
    have hdb := Lib.hid (hd ▸ (numsOf_byt s).take 30 : Byt d)
    have hdl : d.length ≤ 30 := by rw [← hd, List.length_take]; omega
    have hcv := fun w => run_bytes_of_string (P := Tryd.prog) w 9 22 5 (strOfNums d) Tryd.underlying9 Tryd.underlying22 Tryd.underlying5
    have hls : (strOfNums d).size = d.length := strOfNums_size d
    obtain ⟨r0, r1, r2, r3⟩ := bk4 FR2.out
    have nw2 := World.new_ne W2 _ r2
    have nw3 := World.new_ne W2 _ r3
    have nw4 := World.new_ne W2 _ h2
    have hlt2 := lt_of_block FH2.out
    have ka : ∀ o i, (W2.drew.drew.alloc o).cell? ⟨W0.heap.size, i, none⟩ = W2.cell? ⟨W0.heap.size, i, none⟩ := fun o i => (((Below.refl W2.heap.size W2).drew.drew).alloc (Nat.le_refl _) o).cell hlt2
    have kf : ∀ o i, (W2.drew.drew.alloc o).frozen? ⟨W0.heap.size, i, none⟩ = false := fun o i => bk_frz (((((Below.refl W2.heap.size W2).drew.drew).alloc (Nat.le_refl _) o).block _ hlt2).trans FH2.out) i
    clear hd hss
    go_wp2
    obtain ⟨Q0, hQ0⟩ : ∃ Q0 : Exit → Act → World → Prop, Q0 = fun e a' w' => e = .normal ∧ ∃ (C : Nat) (x0 x1 x4 x5 x6 x7 x8 x9 x10 x11 x12 x13 x14 x15 x16 x17 x18 x19 x20 x21 x22 x23 x24 x25 x26 x27 x28 x29 x30 x31 x32 x33 x34 x35 x36 x37 x38 x39 x40 x41 x42 x43 : Value), a' = { tmps := #[x0, x1, .pointer (some ⟨w.heap.size + 1, 0, none⟩), .pointer (some ⟨W0.heap.size, 0, none⟩), x4, x5, x6, x7, x8, x9, x10, x11, x12, x13, x14, x15, x16, x17, x18, x19, x20, x21, x22, x23, x24, x25, x26, x27, x28, x29, x30, x31, x32, x33, x34, x35, x36, x37, x38, x39, x40, x41, x42, x43], defers := [] } ∧ TokAt w W0.heap.size W2.heap.size 24 0 (x % 256) (y % 256) (q % 4294967296) 4 d C w' := ⟨_, rfl⟩
    have HQ0 := Lib.hid hQ0
    clear hQ0
    refine Code.wp_mono (Q := NoPanic Q0) ?k ?h
    case h =>
      go_region_with (first
        | ((go_at_call 13; refine (picked_any _ _ (by omega) (by omega) _).mono ?_; rintro e w' ⟨rfl, rfl⟩))
        | ((go_at_call 21; refine (HC.out _).mono ?_; rintro e w' ⟨rfl, rfl⟩)))
      all_goals
        have hs := HS.out
        refine NoPanic.normal ?_
        rw [HQ0.out]
        exact ⟨rfl, _, _, _, _, _, _, _, _, _, _, _, _, _, _, _, _, _, _, _, _, _, _, _, _, _, _, _, _, _, _, _, _, _, _, _, _, _, _, _, _, _, _, _, rfl, tok_at B2.out FH2.out FZ2.out (by omega) hdb.out _ _ (grownCap_ge _ _ _ _) (grownCap_le_maxLen _ _ _ _ (by unfold maxLen; omega))⟩
    rintro e' a' w' hq0'
    have hq0 := NoPanic.imp _ _ _ hq0'
    clear hq0'
    rw [HQ0.out] at hq0
    obtain ⟨rfl, C, x0, x1, x4, x5, x6, x7, x8, x9, x10, x11, x12, x13, x14, x15, x16, x17, x18, x19, x20, x21, x22, x23, x24, x25, x26, x27, x28, x29, x30, x31, x32, x33, x34, x35, x36, x37, x38, x39, x40, x41, x42, x43, rfl, H3⟩ := hq0
    clear HQ0
    have H3 := Lib.hid H3
    clear r0 r1 r2 r3 h0 h1 h2 h3 h4 h5 hf nw2 nw3 nw4 ka kf hcv hls
    obtain ⟨h0, h1, h2, h3, h4, h5, hf⟩ := bk6 H3.out.f
    obtain ⟨z0, z1, z2, z3, z4, z5, zf⟩ := bk6 H3.out.z
    go_wp2
    obtain ⟨u0, u1, u2, u3, u4, u5, _, gput⟩ := bk6_put H3.out.z (.int .i64 0) (.int .i64 (x % 256)) (.int .i64 (y % 256)) (.slice (some ⟨W2.heap.size, 0, none⟩) d.length C) (.int .i64 (q % 4294967296)) (.int .i64 4)
    have GP := Lib.hid gput
    clear gput z0 z1 z2 z3 z4 z5 zf h0 h1 h2 h3 h4 h5 hf
    refine bodyPost_ret (by simp [results, Tryd.results11, go_sem, u0, u1, u2, u3, u4, u5]; try rfl) rfl ?_
    have hs := HS.out
    have hlt := H3.out.lt
    exact ⟨⟨0, x % 256, y % 256, d, q % 4294967296, 4⟩, _, fault_ok (by simp only; omega) (by simp only; omega) (by simp only; omega) (by simp only; omega) (by simp only; omega) (by simp only; omega) (by simp only; omega) (fun e => by simp at e) (fun _ => ⟨by simp only; omega, by simp only; omega, by simp only; omega, by show q % 4294967296 < 4294967296; omega⟩) (fun e => by simp at e), rfl, ⟨_, rfl, bsl_gr H3.out.d (by simp [Value.ownBlock]; omega) GP.out⟩, gr_from H3.out.be H3.out.be.size (by omega) GP.out⟩
end Go.Proofs.YtaccedlpnngdhaaDoor
