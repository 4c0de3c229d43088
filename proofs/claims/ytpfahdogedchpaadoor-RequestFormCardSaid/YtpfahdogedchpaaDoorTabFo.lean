/- The statements' own fieldOf. -/
import Derived.Test.YtpfahdogedchpaaDoorGrpZc
import Derived.Test.YtpfahdogedchpaaDoorGrpC
import Derived.Test.YtpfahdogedchpaaDoorGrpZd
namespace Go.Proofs.YtpfahdogedchpaaDoor.P
set_option linter.unusedVariables false
/-- the five names -/
def nmL : Nat → List Int
  | 0 => [97, 103, 101]
  | 1 => [101, 116, 97, 103]
  | 2 => [104, 111, 115, 116]
  | 3 => [120, 45, 97]
  | _ => [115, 101, 114, 118, 101, 114]
theorem nm_at (j : Nat) (h : j < 5) : (#[.string ⟨#[97, 103, 101]⟩, .string ⟨#[101, 116, 97, 103]⟩, .string ⟨#[104, 111, 115, 116]⟩, .string ⟨#[120, 45, 97]⟩, .string ⟨#[115, 101, 114, 118, 101, 114]⟩] : Array Value)[j]? = some (.string (strOfNums (nmL j))) := by
  match j, h with
  | 0, _ => rfl
  | 1, _ => rfl
  | 2, _ => rfl
  | 3, _ => rfl
  | 4, _ => rfl
theorem nm_byt (j : Nat) : Byt (nmL j) := by
  have : ∀ z ∈ nmL j, 0 ≤ z ∧ z < 256 := by
    unfold nmL
    split <;> decide
  exact byt_all fun z hz => by have := this z hz; omega
theorem nm_len (j : Nat) : 3 ≤ (nmL j).length ∧ (nmL j).length ≤ 6 := by
  unfold nmL
  split <;> decide
/-- the field of a raw thing -/
def fldOf (r : RawT) : Fld := ⟨nmL (r.a % 5).toNat, (numsOf r.text).take (r.b % 12).toNat⟩
theorem fldOf_ok (r : RawT) : okFd (fldOf r) ∧ FdWf (fldOf r) := by
  have h := nm_len (r.a % 5).toNat
  have h2 : ((numsOf r.text).take (r.b % 12).toNat).length ≤ 11 := by rw [List.length_take]; omega
  unfold fldOf
  exact ⟨⟨by simp only; omega, by simp only; omega, by simp only; omega⟩, nm_byt _, (numsOf_byt _).take _, by simp only; omega, by simp only; omega⟩
end Go.Proofs.YtpfahdogedchpaaDoor.P
namespace Go.Proofs.YtpfahdogedchpaaDoor
set_option linter.unusedVariables false
open Go.RowKit P

theorem bk4R {w : World} {b : Nat} {a0 a1 a2 a3 : Value} {T : TypeId} (h : w.heap[b]? = some (.cells #[a0, a1, a2, a3] T (0, 0))) : w.cell? ⟨b, 0, none⟩ = some a0 ∧ w.cell? ⟨b, 1, none⟩ = some a1 ∧ w.cell? ⟨b, 2, none⟩ = some a2 ∧ w.cell? ⟨b, 3, none⟩ = some a3 := ⟨bk_cell h 0, bk_cell h 1, bk_cell h 2, bk_cell h 3⟩
theorem bk2_blk {w : World} {b : Nat} {a0 a1 : Value} {T : TypeId} (h : w.heap[b]? = some (.cells #[a0, a1] T (0, 0))) (v0 v1 : Value) :
    ((w.setCell ⟨b, 0, none⟩ v0).setCell ⟨b, 1, none⟩ v1).heap[b]? = some (.cells #[v0, v1] T (0, 0)) ∧ w.grownBy ((w.setCell ⟨b, 0, none⟩ v0).setCell ⟨b, 1, none⟩ v1) (some b) := by
  have h0 : (w.setCell ⟨b, 0, none⟩ v0).heap[b]? = some (.cells #[v0, a1] T (0, 0)) := by simpa using bk_set h 0 v0
  exact ⟨by simpa using bk_set h0 1 v1, gr_trans (gr_set _ b 0 v0) (gr_set _ b 1 v1)⟩
theorem ready_neF {l : List Nat} (h : l.isEmpty = false) : l ≠ [] := by
  intro e
  rw [e] at h
  cases h
structure FoR (w0 : World) (W : World) (a b : Int) (j m : Nat) (s S1 S2 : ByteArray) (V1 V2 V3 V5 V6 V7 V8 V9 V10 V11 V12 : Value) (b0 b1 b2 b3 b4 b5 b6 b7 b8 b9 b10 b11 b12 b13 : Bool) (x0 x1 x2 x3 x4 x5 x6 x7 x8 x9 x10 x11 x12 x13 : Value) (w : World) : Prop where
  be : b13 = false → Below w0.heap.size w0 w
  d2 : b2 = true → b1 = true
  d3 : b3 = true → b2 = true
  d4 : b4 = true → b0 = true ∧ b3 = true
  d5 : b5 = true → b4 = true
  d7 : b7 = true → b6 = true
  d9 : b9 = true → b8 = true
  d10 : b10 = true → b3 = true ∧ b9 = true
  d11 : b11 = true → b7 = true ∧ b10 = true
  d12 : b12 = true → b5 = true ∧ b11 = true
  d13 : b13 = true → b0 = true ∧ b1 = true ∧ b2 = true ∧ b3 = true ∧ b4 = true ∧ b5 = true ∧ b6 = true ∧ b7 = true ∧ b8 = true ∧ b9 = true ∧ b10 = true ∧ b11 = true ∧ b12 = true
  h0 : b0 = true → b13 = false → ∃ k, x0 = .slice (some ⟨k, 0, none⟩) 5 5 ∧ w.heap[k]? = some (.cells #[.string ⟨#[97, 103, 101]⟩, .string ⟨#[101, 116, 97, 103]⟩, .string ⟨#[104, 111, 115, 116]⟩, .string ⟨#[120, 45, 97]⟩, .string ⟨#[115, 101, 114, 118, 101, 114]⟩] 9 (0, 0))
  h1 : b1 = true → x1 = V1
  h2 : b2 = true → x2 = V2
  h3 : b3 = true → x3 = V3
  h4 : b4 = true → b13 = false → ∃ k, x4 = .pointer (some ⟨k, j, none⟩) ∧ w.heap[k]? = some (.cells #[.string ⟨#[97, 103, 101]⟩, .string ⟨#[101, 116, 97, 103]⟩, .string ⟨#[104, 111, 115, 116]⟩, .string ⟨#[120, 45, 97]⟩, .string ⟨#[115, 101, 114, 118, 101, 114]⟩] 9 (0, 0))
  h5 : b5 = true → x5 = V5
  h6 : b6 = true → x6 = V6
  h7 : b7 = true → x7 = V7
  h8 : b8 = true → x8 = V8
  h9 : b9 = true → x9 = V9
  h10 : b10 = true → x10 = V10
  h11 : b11 = true → x11 = V11
  h12 : b12 = true → x12 = V12
  h13 : b13 = true → w.heap[W.heap.size + 1]? = some (.cells #[.string S1, .string S2] 54 (0, 0)) ∧ Below W.heap.size W w
set_option maxRecDepth 100000 in
set_option maxHeartbeats 2000000 in
theorem fieldOf_any (kd a b : Int) (s : ByteArray) (hs : s.size ≤ maxLen) (W : World) : Calls Tryd.prog 32 #[.agg #[.int .i64 kd, .int .i64 a, .int .i64 b, .string s]] W fun e w' => e = .returned (fdV (fldOf ⟨kd, a, b, s⟩)) ∧ Below W.heap.size W w' := by
  obtain ⟨g0, g1, g2⟩ := two_bk W #[.int .i64 kd, .int .i64 a, .int .i64 b, .string s] #[.string ⟨#[]⟩, .string ⟨#[]⟩] 66 54
  have FX := Lib.hid g0
  have ZX := Lib.hid g1
  have BX := Lib.hid g2
  clear g0 g1 g2
  have HP1 := Lib.hid (fun w => picked_any a 5 (by decide) (by decide) w)
  have HP2 := Lib.hid (fun w => picked_any b 12 (by decide) (by decide) w)
  obtain ⟨j, hj'⟩ : ∃ j : Nat, a % 5 = j := ⟨(a % 5).toNat, by omega⟩
  obtain ⟨m, hm'⟩ : ∃ m : Nat, b % 12 = m := ⟨(b % 12).toNat, by omega⟩
  have hj : j < 5 := by omega
  have hm : m ≤ 11 := by omega
  rw [hj'] at HP1
  rw [hm'] at HP2
  have HCT := Lib.hid (fun w => cut_any s m (by omega) hs w)
  have HNM := Lib.hid (nm_at j hj)
  have HRES : Hid (fldOf ⟨kd, a, b, s⟩ = ⟨nmL j, (numsOf s).take m⟩) := Lib.hid (by unfold fldOf; simp only [hj', hm', Int.toNat_natCast])
  rw [HRES.out]
  unfold fdV
  simp only
  obtain ⟨S1, hS1⟩ : ∃ S, strOfNums (nmL j) = S := ⟨_, rfl⟩
  obtain ⟨S2, hS2⟩ : ∃ S, strOfNums ((numsOf s).take m) = S := ⟨_, rfl⟩
  rw [hS1] at HNM ⊢
  rw [hS2] at HCT ⊢
  obtain ⟨V, hV⟩ : ∃ V, (W.alloc (.cells #[.int .i64 kd, .int .i64 a, .int .i64 b, .string s] 66)).alloc (.cells #[.string ⟨#[]⟩, .string ⟨#[]⟩] 54) = V := ⟨_, rfl⟩
  rw [hV] at FX ZX BX
  clear hj' hm' hS1 hS2 hs HRES
  go_enter Tryd.func32, Tryd.ntmps32
  go_upto_region 1 with fail
  clear hV
  refine wp_region_inv (fun lis_ act_ wld_ => ∃ (b0 b1 b2 b3 b4 b5 b6 b7 b8 b9 b10 b11 b12 b13 : Bool) (x0 x1 x2 x3 x4 x5 x6 x7 x8 x9 x10 x11 x12 x13 : Value), lis_ = #[b0, b1, b2, b3, b4, b5, b6, b7, b8, b9, b10, b11, b12, b13] ∧ act_ = { tmps := #[Value.agg #[Value.int IntKind.i64 kd, Value.int IntKind.i64 a, Value.int IntKind.i64 b, Value.string s], Value.pointer (some { block := W.heap.size, off := 0 }), Value.pointer (some { block := W.heap.size + 1, off := 0 }), x0, x1, x2, x3, x4, x5, x6, x7, x8, x9, x10, x11, x12], defers := [] } ∧ FoR V W a b j m s S1 S2 (.pointer (some ⟨W.heap.size, 1, none⟩)) (.int .i64 a) (.int .i64 (j : Int)) (.string S1) (.pointer (some ⟨W.heap.size, 3, none⟩)) (.string s) (.pointer (some ⟨W.heap.size, 2, none⟩)) (.int .i64 b) (.int .i64 (m : Int)) (.string S2) (.agg #[.string S1, .string S2]) b0 b1 b2 b3 b4 b5 b6 b7 b8 b9 b10 b11 b12 b13 x0 x1 x2 x3 x4 x5 x6 x7 x8 x9 x10 x11 x12 x13 wld_) (by kernel_rfl) ?h0 ?hfin ?hI
  case h0 => exact ⟨_, _, _, _, _, _, _, _, _, _, _, _, _, _, _, _, _, _, _, _, _, _, _, _, _, _, _, undef, rfl, rfl, ⟨(fun _ => (Below.refl _ _).drew), (fun h => by cases h), (fun h => by cases h), (fun h => by cases h), (fun h => by cases h), (fun h => by cases h), (fun h => by cases h), (fun h => by cases h), (fun h => by cases h), (fun h => by cases h), (fun h => by cases h), (fun h => by cases h), (fun h => by cases h), (fun h => by cases h), (fun h => by cases h), (fun h => by cases h), (fun h => by cases h), (fun h => by cases h), (fun h => by cases h), (fun h => by cases h), (fun h => by cases h), (fun h => by cases h), (fun h => by cases h), (fun h => by cases h), (fun h => by cases h)⟩⟩
  case hI =>
    rintro listed a w ⟨b0, b1, b2, b3, b4, b5, b6, b7, b8, b9, b10, b11, b12, b13, x0, x1, x2, x3, x4, x5, x6, x7, x8, x9, x10, x11, x12, x13, rfl, rfl, H⟩ i hi
    obtain ⟨hun, oj, hoj, hall⟩ := mem_ready.1 hi
    clear hi
    rcases i with _ | _ | _ | _ | _ | _ | _ | _ | _ | _ | _ | _ | _ | _ | i
    · have ho := hoj
      simp only [List.getElem?_toArray, List.getElem?_cons_succ, List.getElem?_cons_zero, Option.some.injEq] at hoj
      subst hoj
      obtain rfl : b0 = false := hun
      clear hall
      obtain rfl : b4 = false := Bool.eq_false_iff.2 fun h => Bool.false_ne_true (H.d4 h).1
      obtain rfl : b5 = false := Bool.eq_false_iff.2 fun h => Bool.false_ne_true (H.d5 h)
      obtain rfl : b12 = false := Bool.eq_false_iff.2 fun h => Bool.false_ne_true (H.d12 h).1
      obtain rfl : b13 = false := Bool.eq_false_iff.2 fun h => Bool.false_ne_true (H.d13 h).1
      have hbe := H.be rfl
      have BA := Lib.hid ((Below.refl w.heap.size w).alloc (Nat.le_refl _) (.cells #[.string ⟨#[97, 103, 101]⟩, .string ⟨#[101, 116, 97, 103]⟩, .string ⟨#[104, 111, 115, 116]⟩, .string ⟨#[120, 45, 97]⟩, .string ⟨#[115, 101, 114, 118, 101, 114]⟩] 9))
      have NA := Lib.hid (heap_alloc_new w (.cells #[.string ⟨#[97, 103, 101]⟩, .string ⟨#[101, 116, 97, 103]⟩, .string ⟨#[104, 111, 115, 116]⟩, .string ⟨#[120, 45, 97]⟩, .string ⟨#[115, 101, 114, 118, 101, 114]⟩] 9))
      refine wpOp_step ho (fun K' hK => ?_)
      have HK := Lib.hid hK
      clear hK ho
      go_simp
      exact HK.out _ _ ⟨_, _, _, _, _, _, _, _, _, _, _, _, _, _, _, _, _, _, _, _, _, _, _, _, _, _, _, x13, rfl, rfl, ⟨(fun _ => hbe.trans (BA.out.mono hbe.size)), H.d2, H.d3, (fun h => by cases h), H.d5, H.d7, H.d9, H.d10, H.d11, H.d12, (fun h => by cases h), (fun _ _ => ⟨_, rfl, NA.out⟩), H.h1, H.h2, H.h3, (fun h => by cases h), H.h5, H.h6, H.h7, H.h8, H.h9, H.h10, H.h11, H.h12, (fun h => by cases h)⟩⟩
    · have ho := hoj
      simp only [List.getElem?_toArray, List.getElem?_cons_succ, List.getElem?_cons_zero, Option.some.injEq] at hoj
      subst hoj
      obtain rfl : b1 = false := hun
      clear hall
      obtain rfl : b2 = false := Bool.eq_false_iff.2 fun h => Bool.false_ne_true (H.d2 h)
      obtain rfl : b3 = false := Bool.eq_false_iff.2 fun h => Bool.false_ne_true (H.d3 h)
      obtain rfl : b4 = false := Bool.eq_false_iff.2 fun h => Bool.false_ne_true (H.d4 h).2
      obtain rfl : b5 = false := Bool.eq_false_iff.2 fun h => Bool.false_ne_true (H.d5 h)
      obtain rfl : b10 = false := Bool.eq_false_iff.2 fun h => Bool.false_ne_true (H.d10 h).1
      obtain rfl : b11 = false := Bool.eq_false_iff.2 fun h => Bool.false_ne_true (H.d11 h).2
      obtain rfl : b12 = false := Bool.eq_false_iff.2 fun h => Bool.false_ne_true (H.d12 h).1
      obtain rfl : b13 = false := Bool.eq_false_iff.2 fun h => Bool.false_ne_true (H.d13 h).2.1
      have hbe := H.be rfl
      refine wpOp_step ho (fun K' hK => ?_)
      have HK := Lib.hid hK
      clear hK ho
      go_simp
      exact HK.out _ _ ⟨_, _, _, _, _, _, _, _, _, _, _, _, _, _, _, _, _, _, _, _, _, _, _, _, _, _, _, x13, rfl, rfl, ⟨(fun _ => hbe), (fun h => by cases h), H.d3, H.d4, H.d5, H.d7, H.d9, H.d10, H.d11, H.d12, (fun h => by cases h), H.h0, (fun _ => rfl), H.h2, H.h3, (fun h => by cases h), H.h5, H.h6, H.h7, H.h8, H.h9, H.h10, H.h11, H.h12, (fun h => by cases h)⟩⟩
    · have ho := hoj
      simp only [List.getElem?_toArray, List.getElem?_cons_succ, List.getElem?_cons_zero, Option.some.injEq] at hoj
      subst hoj
      obtain rfl : b2 = false := hun
      obtain rfl : b1 = true := hall ⟨1, .data⟩ (by simp) (by kernel_rfl)
      clear hall
      obtain rfl : b3 = false := Bool.eq_false_iff.2 fun h => Bool.false_ne_true (H.d3 h)
      obtain rfl : b4 = false := Bool.eq_false_iff.2 fun h => Bool.false_ne_true (H.d4 h).2
      obtain rfl : b5 = false := Bool.eq_false_iff.2 fun h => Bool.false_ne_true (H.d5 h)
      obtain rfl : b10 = false := Bool.eq_false_iff.2 fun h => Bool.false_ne_true (H.d10 h).1
      obtain rfl : b11 = false := Bool.eq_false_iff.2 fun h => Bool.false_ne_true (H.d11 h).2
      obtain rfl : b12 = false := Bool.eq_false_iff.2 fun h => Bool.false_ne_true (H.d12 h).1
      obtain rfl : b13 = false := Bool.eq_false_iff.2 fun h => Bool.false_ne_true (H.d13 h).2.2.1
      have hbe := H.be rfl
      obtain rfl := H.h1 rfl
      obtain ⟨q0, q1, q2, q3⟩ := bk4R ((hbe.block _ (lt_of_block FX.out)).trans FX.out)
      refine wpOp_step ho (fun K' hK => ?_)
      have HK := Lib.hid hK
      clear hK ho
      go_simp
      exact HK.out _ _ ⟨_, _, _, _, _, _, _, _, _, _, _, _, _, _, _, _, _, _, _, _, _, _, _, _, _, _, _, x13, rfl, rfl, ⟨(fun _ => hbe), (fun _ => rfl), (fun h => by cases h), H.d4, H.d5, H.d7, H.d9, H.d10, H.d11, H.d12, (fun h => by cases h), H.h0, H.h1, (fun _ => rfl), H.h3, (fun h => by cases h), H.h5, H.h6, H.h7, H.h8, H.h9, H.h10, H.h11, H.h12, (fun h => by cases h)⟩⟩
    · have ho := hoj
      simp only [List.getElem?_toArray, List.getElem?_cons_succ, List.getElem?_cons_zero, Option.some.injEq] at hoj
      subst hoj
      obtain rfl : b3 = false := hun
      obtain rfl : b2 = true := hall ⟨2, .data⟩ (by simp) (by kernel_rfl)
      obtain rfl : b1 = true := (H.d2 rfl)
      clear hall
      obtain rfl : b4 = false := Bool.eq_false_iff.2 fun h => Bool.false_ne_true (H.d4 h).2
      obtain rfl : b5 = false := Bool.eq_false_iff.2 fun h => Bool.false_ne_true (H.d5 h)
      obtain rfl : b10 = false := Bool.eq_false_iff.2 fun h => Bool.false_ne_true (H.d10 h).1
      obtain rfl : b11 = false := Bool.eq_false_iff.2 fun h => Bool.false_ne_true (H.d11 h).2
      obtain rfl : b12 = false := Bool.eq_false_iff.2 fun h => Bool.false_ne_true (H.d12 h).1
      obtain rfl : b13 = false := Bool.eq_false_iff.2 fun h => Bool.false_ne_true (H.d13 h).2.2.2.1
      have hbe := H.be rfl
      obtain rfl := H.h1 rfl
      obtain rfl := H.h2 rfl
      refine wpOp_step ho (fun K' hK => ?_)
      have HK := Lib.hid hK
      clear hK ho
      go_wp2_with (go_at_call 13; refine (HP1.out _).mono ?_; rintro e w' ⟨rfl, rfl⟩)
      exact HK.out _ _ ⟨_, _, _, _, _, _, _, _, _, _, _, _, _, _, _, _, _, _, _, _, _, _, _, _, _, _, _, x13, rfl, rfl, ⟨(fun _ => hbe), H.d2, (fun _ => rfl), (fun h => by cases h), H.d5, H.d7, H.d9, (fun h => by cases h), H.d11, H.d12, (fun h => by cases h), H.h0, H.h1, H.h2, (fun _ => rfl), (fun h => by cases h), H.h5, H.h6, H.h7, H.h8, H.h9, H.h10, H.h11, H.h12, (fun h => by cases h)⟩⟩
    · have ho := hoj
      simp only [List.getElem?_toArray, List.getElem?_cons_succ, List.getElem?_cons_zero, Option.some.injEq] at hoj
      subst hoj
      obtain rfl : b4 = false := hun
      obtain rfl : b0 = true := hall ⟨0, .data⟩ (by simp) (by kernel_rfl)
      obtain rfl : b3 = true := hall ⟨3, .data⟩ (by simp) (by kernel_rfl)
      obtain rfl : b2 = true := (H.d3 rfl)
      obtain rfl : b1 = true := (H.d2 rfl)
      clear hall
      obtain rfl : b5 = false := Bool.eq_false_iff.2 fun h => Bool.false_ne_true (H.d5 h)
      obtain rfl : b12 = false := Bool.eq_false_iff.2 fun h => Bool.false_ne_true (H.d12 h).1
      obtain rfl : b13 = false := Bool.eq_false_iff.2 fun h => Bool.false_ne_true (H.d13 h).2.2.2.2.1
      have hbe := H.be rfl
      have P0 := H.h0 rfl rfl
      obtain rfl := H.h1 rfl
      obtain rfl := H.h2 rfl
      obtain rfl := H.h3 rfl
      obtain ⟨k0, rfl, hk0⟩ := P0
      have K0 := Lib.hid hk0
      clear hk0
      have hj5 : (j : Int) < 5 := by omega
      refine wpOp_step ho (fun K' hK => ?_)
      have HK := Lib.hid hK
      clear hK ho
      go_simp
      exact HK.out _ _ ⟨_, _, _, _, _, _, _, _, _, _, _, _, _, _, _, _, _, _, _, _, _, _, _, _, _, _, _, x13, rfl, rfl, ⟨(fun _ => hbe), H.d2, H.d3, (fun _ => ⟨rfl, rfl⟩), (fun h => by cases h), H.d7, H.d9, H.d10, H.d11, H.d12, (fun h => by cases h), H.h0, H.h1, H.h2, H.h3, (fun _ _ => ⟨_, rfl, K0.out⟩), H.h5, H.h6, H.h7, H.h8, H.h9, H.h10, H.h11, H.h12, (fun h => by cases h)⟩⟩
    · have ho := hoj
      simp only [List.getElem?_toArray, List.getElem?_cons_succ, List.getElem?_cons_zero, Option.some.injEq] at hoj
      subst hoj
      obtain rfl : b5 = false := hun
      obtain rfl : b4 = true := hall ⟨4, .data⟩ (by simp) (by kernel_rfl)
      obtain rfl : b0 = true := (H.d4 rfl).1
      obtain rfl : b3 = true := (H.d4 rfl).2
      obtain rfl : b2 = true := (H.d3 rfl)
      obtain rfl : b1 = true := (H.d2 rfl)
      clear hall
      obtain rfl : b12 = false := Bool.eq_false_iff.2 fun h => Bool.false_ne_true (H.d12 h).1
      obtain rfl : b13 = false := Bool.eq_false_iff.2 fun h => Bool.false_ne_true (H.d13 h).2.2.2.2.2.1
      have hbe := H.be rfl
      have P0 := H.h0 rfl rfl
      obtain rfl := H.h1 rfl
      obtain rfl := H.h2 rfl
      obtain rfl := H.h3 rfl
      have P4 := H.h4 rfl rfl
      obtain ⟨k0, rfl, hk0⟩ := P4
      have hc0 := (bk_cell hk0 j).trans HNM.out
      refine wpOp_step ho (fun K' hK => ?_)
      have HK := Lib.hid hK
      clear hK ho
      go_simp
      exact HK.out _ _ ⟨_, _, _, _, _, _, _, _, _, _, _, _, _, _, _, _, _, _, _, _, _, _, _, _, _, _, _, x13, rfl, rfl, ⟨(fun _ => hbe), H.d2, H.d3, H.d4, (fun _ => rfl), H.d7, H.d9, H.d10, H.d11, (fun h => by cases h), (fun h => by cases h), H.h0, H.h1, H.h2, H.h3, H.h4, (fun _ => rfl), H.h6, H.h7, H.h8, H.h9, H.h10, H.h11, H.h12, (fun h => by cases h)⟩⟩
    · have ho := hoj
      simp only [List.getElem?_toArray, List.getElem?_cons_succ, List.getElem?_cons_zero, Option.some.injEq] at hoj
      subst hoj
      obtain rfl : b6 = false := hun
      clear hall
      obtain rfl : b7 = false := Bool.eq_false_iff.2 fun h => Bool.false_ne_true (H.d7 h)
      obtain rfl : b11 = false := Bool.eq_false_iff.2 fun h => Bool.false_ne_true (H.d11 h).1
      obtain rfl : b12 = false := Bool.eq_false_iff.2 fun h => Bool.false_ne_true (H.d12 h).2
      obtain rfl : b13 = false := Bool.eq_false_iff.2 fun h => Bool.false_ne_true (H.d13 h).2.2.2.2.2.2.1
      have hbe := H.be rfl
      refine wpOp_step ho (fun K' hK => ?_)
      have HK := Lib.hid hK
      clear hK ho
      go_simp
      exact HK.out _ _ ⟨_, _, _, _, _, _, _, _, _, _, _, _, _, _, _, _, _, _, _, _, _, _, _, _, _, _, _, x13, rfl, rfl, ⟨(fun _ => hbe), H.d2, H.d3, H.d4, H.d5, (fun h => by cases h), H.d9, H.d10, H.d11, H.d12, (fun h => by cases h), H.h0, H.h1, H.h2, H.h3, H.h4, H.h5, (fun _ => rfl), H.h7, H.h8, H.h9, H.h10, H.h11, H.h12, (fun h => by cases h)⟩⟩
    · have ho := hoj
      simp only [List.getElem?_toArray, List.getElem?_cons_succ, List.getElem?_cons_zero, Option.some.injEq] at hoj
      subst hoj
      obtain rfl : b7 = false := hun
      obtain rfl : b6 = true := hall ⟨6, .data⟩ (by simp) (by kernel_rfl)
      clear hall
      obtain rfl : b11 = false := Bool.eq_false_iff.2 fun h => Bool.false_ne_true (H.d11 h).1
      obtain rfl : b12 = false := Bool.eq_false_iff.2 fun h => Bool.false_ne_true (H.d12 h).2
      obtain rfl : b13 = false := Bool.eq_false_iff.2 fun h => Bool.false_ne_true (H.d13 h).2.2.2.2.2.2.2.1
      have hbe := H.be rfl
      obtain rfl := H.h6 rfl
      obtain ⟨q0, q1, q2, q3⟩ := bk4R ((hbe.block _ (lt_of_block FX.out)).trans FX.out)
      refine wpOp_step ho (fun K' hK => ?_)
      have HK := Lib.hid hK
      clear hK ho
      go_simp
      exact HK.out _ _ ⟨_, _, _, _, _, _, _, _, _, _, _, _, _, _, _, _, _, _, _, _, _, _, _, _, _, _, _, x13, rfl, rfl, ⟨(fun _ => hbe), H.d2, H.d3, H.d4, H.d5, (fun _ => rfl), H.d9, H.d10, (fun h => by cases h), H.d12, (fun h => by cases h), H.h0, H.h1, H.h2, H.h3, H.h4, H.h5, H.h6, (fun _ => rfl), H.h8, H.h9, H.h10, H.h11, H.h12, (fun h => by cases h)⟩⟩
    · have ho := hoj
      simp only [List.getElem?_toArray, List.getElem?_cons_succ, List.getElem?_cons_zero, Option.some.injEq] at hoj
      subst hoj
      obtain rfl : b8 = false := hun
      clear hall
      obtain rfl : b9 = false := Bool.eq_false_iff.2 fun h => Bool.false_ne_true (H.d9 h)
      obtain rfl : b10 = false := Bool.eq_false_iff.2 fun h => Bool.false_ne_true (H.d10 h).2
      obtain rfl : b11 = false := Bool.eq_false_iff.2 fun h => Bool.false_ne_true (H.d11 h).2
      obtain rfl : b12 = false := Bool.eq_false_iff.2 fun h => Bool.false_ne_true (H.d12 h).2
      obtain rfl : b13 = false := Bool.eq_false_iff.2 fun h => Bool.false_ne_true (H.d13 h).2.2.2.2.2.2.2.2.1
      have hbe := H.be rfl
      refine wpOp_step ho (fun K' hK => ?_)
      have HK := Lib.hid hK
      clear hK ho
      go_simp
      exact HK.out _ _ ⟨_, _, _, _, _, _, _, _, _, _, _, _, _, _, _, _, _, _, _, _, _, _, _, _, _, _, _, x13, rfl, rfl, ⟨(fun _ => hbe), H.d2, H.d3, H.d4, H.d5, H.d7, (fun h => by cases h), H.d10, H.d11, H.d12, (fun h => by cases h), H.h0, H.h1, H.h2, H.h3, H.h4, H.h5, H.h6, H.h7, (fun _ => rfl), H.h9, H.h10, H.h11, H.h12, (fun h => by cases h)⟩⟩
    · have ho := hoj
      simp only [List.getElem?_toArray, List.getElem?_cons_succ, List.getElem?_cons_zero, Option.some.injEq] at hoj
      subst hoj
      obtain rfl : b9 = false := hun
      obtain rfl : b8 = true := hall ⟨8, .data⟩ (by simp) (by kernel_rfl)
      clear hall
      obtain rfl : b10 = false := Bool.eq_false_iff.2 fun h => Bool.false_ne_true (H.d10 h).2
      obtain rfl : b11 = false := Bool.eq_false_iff.2 fun h => Bool.false_ne_true (H.d11 h).2
      obtain rfl : b12 = false := Bool.eq_false_iff.2 fun h => Bool.false_ne_true (H.d12 h).2
      obtain rfl : b13 = false := Bool.eq_false_iff.2 fun h => Bool.false_ne_true (H.d13 h).2.2.2.2.2.2.2.2.2.1
      have hbe := H.be rfl
      obtain rfl := H.h8 rfl
      obtain ⟨q0, q1, q2, q3⟩ := bk4R ((hbe.block _ (lt_of_block FX.out)).trans FX.out)
      refine wpOp_step ho (fun K' hK => ?_)
      have HK := Lib.hid hK
      clear hK ho
      go_simp
      exact HK.out _ _ ⟨_, _, _, _, _, _, _, _, _, _, _, _, _, _, _, _, _, _, _, _, _, _, _, _, _, _, _, x13, rfl, rfl, ⟨(fun _ => hbe), H.d2, H.d3, H.d4, H.d5, H.d7, (fun _ => rfl), (fun h => by cases h), H.d11, H.d12, (fun h => by cases h), H.h0, H.h1, H.h2, H.h3, H.h4, H.h5, H.h6, H.h7, H.h8, (fun _ => rfl), H.h10, H.h11, H.h12, (fun h => by cases h)⟩⟩
    · have ho := hoj
      simp only [List.getElem?_toArray, List.getElem?_cons_succ, List.getElem?_cons_zero, Option.some.injEq] at hoj
      subst hoj
      obtain rfl : b10 = false := hun
      obtain rfl : b3 = true := hall ⟨3, .chain⟩ (by simp) (by kernel_rfl)
      obtain rfl : b9 = true := hall ⟨9, .data⟩ (by simp) (by kernel_rfl)
      obtain rfl : b2 = true := (H.d3 rfl)
      obtain rfl : b8 = true := (H.d9 rfl)
      obtain rfl : b1 = true := (H.d2 rfl)
      clear hall
      obtain rfl : b11 = false := Bool.eq_false_iff.2 fun h => Bool.false_ne_true (H.d11 h).2
      obtain rfl : b12 = false := Bool.eq_false_iff.2 fun h => Bool.false_ne_true (H.d12 h).2
      obtain rfl : b13 = false := Bool.eq_false_iff.2 fun h => Bool.false_ne_true (H.d13 h).2.2.2.2.2.2.2.2.2.2.1
      have hbe := H.be rfl
      obtain rfl := H.h1 rfl
      obtain rfl := H.h2 rfl
      obtain rfl := H.h3 rfl
      obtain rfl := H.h8 rfl
      obtain rfl := H.h9 rfl
      refine wpOp_step ho (fun K' hK => ?_)
      have HK := Lib.hid hK
      clear hK ho
      go_wp2_with (go_at_call 13; refine (HP2.out _).mono ?_; rintro e w' ⟨rfl, rfl⟩)
      exact HK.out _ _ ⟨_, _, _, _, _, _, _, _, _, _, _, _, _, _, _, _, _, _, _, _, _, _, _, _, _, _, _, x13, rfl, rfl, ⟨(fun _ => hbe), H.d2, H.d3, H.d4, H.d5, H.d7, H.d9, (fun _ => ⟨rfl, rfl⟩), (fun h => by cases h), H.d12, (fun h => by cases h), H.h0, H.h1, H.h2, H.h3, H.h4, H.h5, H.h6, H.h7, H.h8, H.h9, (fun _ => rfl), H.h11, H.h12, (fun h => by cases h)⟩⟩
    · have ho := hoj
      simp only [List.getElem?_toArray, List.getElem?_cons_succ, List.getElem?_cons_zero, Option.some.injEq] at hoj
      subst hoj
      obtain rfl : b11 = false := hun
      obtain rfl : b7 = true := hall ⟨7, .data⟩ (by simp) (by kernel_rfl)
      obtain rfl : b10 = true := hall ⟨10, .data⟩ (by simp) (by kernel_rfl)
      obtain rfl : b6 = true := (H.d7 rfl)
      obtain rfl : b3 = true := (H.d10 rfl).1
      obtain rfl : b9 = true := (H.d10 rfl).2
      obtain rfl : b2 = true := (H.d3 rfl)
      obtain rfl : b8 = true := (H.d9 rfl)
      obtain rfl : b1 = true := (H.d2 rfl)
      clear hall
      obtain rfl : b12 = false := Bool.eq_false_iff.2 fun h => Bool.false_ne_true (H.d12 h).2
      obtain rfl : b13 = false := Bool.eq_false_iff.2 fun h => Bool.false_ne_true (H.d13 h).2.2.2.2.2.2.2.2.2.2.2.1
      have hbe := H.be rfl
      obtain rfl := H.h1 rfl
      obtain rfl := H.h2 rfl
      obtain rfl := H.h3 rfl
      obtain rfl := H.h6 rfl
      obtain rfl := H.h7 rfl
      obtain rfl := H.h8 rfl
      obtain rfl := H.h9 rfl
      obtain rfl := H.h10 rfl
      refine wpOp_step ho (fun K' hK => ?_)
      have HK := Lib.hid hK
      clear hK ho
      go_wp2_with (go_at_call 29; refine (HCT.out _).mono ?_; rintro e w' ⟨rfl, rfl⟩)
      exact HK.out _ _ ⟨_, _, _, _, _, _, _, _, _, _, _, _, _, _, _, _, _, _, _, _, _, _, _, _, _, _, _, x13, rfl, rfl, ⟨(fun _ => hbe), H.d2, H.d3, H.d4, H.d5, H.d7, H.d9, H.d10, (fun _ => ⟨rfl, rfl⟩), (fun h => by cases h), (fun h => by cases h), H.h0, H.h1, H.h2, H.h3, H.h4, H.h5, H.h6, H.h7, H.h8, H.h9, H.h10, (fun _ => rfl), H.h12, (fun h => by cases h)⟩⟩
    · have ho := hoj
      simp only [List.getElem?_toArray, List.getElem?_cons_succ, List.getElem?_cons_zero, Option.some.injEq] at hoj
      subst hoj
      obtain rfl : b12 = false := hun
      obtain rfl : b5 = true := hall ⟨5, .data⟩ (by simp) (by kernel_rfl)
      obtain rfl : b11 = true := hall ⟨11, .data⟩ (by simp) (by kernel_rfl)
      obtain rfl : b4 = true := (H.d5 rfl)
      obtain rfl : b7 = true := (H.d11 rfl).1
      obtain rfl : b10 = true := (H.d11 rfl).2
      obtain rfl : b0 = true := (H.d4 rfl).1
      obtain rfl : b3 = true := (H.d4 rfl).2
      obtain rfl : b6 = true := (H.d7 rfl)
      obtain rfl : b9 = true := (H.d10 rfl).2
      obtain rfl : b2 = true := (H.d3 rfl)
      obtain rfl : b8 = true := (H.d9 rfl)
      obtain rfl : b1 = true := (H.d2 rfl)
      clear hall
      obtain rfl : b13 = false := Bool.eq_false_iff.2 fun h => Bool.false_ne_true (H.d13 h).2.2.2.2.2.2.2.2.2.2.2.2
      have hbe := H.be rfl
      have P0 := H.h0 rfl rfl
      obtain rfl := H.h1 rfl
      obtain rfl := H.h2 rfl
      obtain rfl := H.h3 rfl
      have P4 := H.h4 rfl rfl
      obtain rfl := H.h5 rfl
      obtain rfl := H.h6 rfl
      obtain rfl := H.h7 rfl
      obtain rfl := H.h8 rfl
      obtain rfl := H.h9 rfl
      obtain rfl := H.h10 rfl
      obtain rfl := H.h11 rfl
      refine wpOp_step ho (fun K' hK => ?_)
      have HK := Lib.hid hK
      clear hK ho
      go_simp
      exact HK.out _ _ ⟨_, _, _, _, _, _, _, _, _, _, _, _, _, _, _, _, _, _, _, _, _, _, _, _, _, _, _, x13, rfl, rfl, ⟨(fun _ => hbe), H.d2, H.d3, H.d4, H.d5, H.d7, H.d9, H.d10, H.d11, (fun _ => ⟨rfl, rfl⟩), (fun h => by cases h), H.h0, H.h1, H.h2, H.h3, H.h4, H.h5, H.h6, H.h7, H.h8, H.h9, H.h10, H.h11, (fun _ => rfl), (fun h => by cases h)⟩⟩
    · have ho := hoj
      simp only [List.getElem?_toArray, List.getElem?_cons_succ, List.getElem?_cons_zero, Option.some.injEq] at hoj
      subst hoj
      obtain rfl : b13 = false := hun
      obtain rfl : b0 = true := hall ⟨0, .phase⟩ (by simp) (by kernel_rfl)
      obtain rfl : b1 = true := hall ⟨1, .phase⟩ (by simp) (by kernel_rfl)
      obtain rfl : b2 = true := hall ⟨2, .phase⟩ (by simp) (by kernel_rfl)
      obtain rfl : b3 = true := hall ⟨3, .phase⟩ (by simp) (by kernel_rfl)
      obtain rfl : b4 = true := hall ⟨4, .phase⟩ (by simp) (by kernel_rfl)
      obtain rfl : b5 = true := hall ⟨5, .phase⟩ (by simp) (by kernel_rfl)
      obtain rfl : b6 = true := hall ⟨6, .phase⟩ (by simp) (by kernel_rfl)
      obtain rfl : b7 = true := hall ⟨7, .phase⟩ (by simp) (by kernel_rfl)
      obtain rfl : b8 = true := hall ⟨8, .phase⟩ (by simp) (by kernel_rfl)
      obtain rfl : b9 = true := hall ⟨9, .phase⟩ (by simp) (by kernel_rfl)
      obtain rfl : b10 = true := hall ⟨10, .phase⟩ (by simp) (by kernel_rfl)
      obtain rfl : b11 = true := hall ⟨11, .chain⟩ (by simp) (by kernel_rfl)
      obtain rfl : b12 = true := hall ⟨12, .data⟩ (by simp) (by kernel_rfl)
      clear hall
      have hbe := H.be rfl
      have P0 := H.h0 rfl rfl
      obtain rfl := H.h1 rfl
      obtain rfl := H.h2 rfl
      obtain rfl := H.h3 rfl
      have P4 := H.h4 rfl rfl
      obtain rfl := H.h5 rfl
      obtain rfl := H.h6 rfl
      obtain rfl := H.h7 rfl
      obtain rfl := H.h8 rfl
      obtain rfl := H.h9 rfl
      obtain rfl := H.h10 rfl
      obtain rfl := H.h11 rfl
      obtain rfl := H.h12 rfl
      have ZB := Lib.hid ((hbe.block _ (lt_of_block ZX.out)).trans ZX.out)
      obtain ⟨k1, gp⟩ := bk2_blk ZB.out (.string S1) (.string S2)
      have K1 := Lib.hid k1
      have BV := Lib.hid (gr_from (BX.out.trans (hbe.mono BX.out.size)) (Nat.le_trans BX.out.size hbe.size) (Nat.le_succ _) gp)
      obtain ⟨y0, y1⟩ := bk2F ZB.out
      have qf := fun i => bk_frz ZB.out i
      clear k1 gp
      refine wpOp_step ho (fun K' hK => ?_)
      have HK := Lib.hid hK
      clear hK ho
      go_simp
      exact HK.out _ _ ⟨_, _, _, _, _, _, _, _, _, _, _, _, _, _, _, _, _, _, _, _, _, _, _, _, _, _, _, x13, rfl, rfl, ⟨(fun h => by cases h), H.d2, H.d3, H.d4, H.d5, H.d7, H.d9, H.d10, H.d11, H.d12, (fun _ => ⟨rfl, rfl, rfl, rfl, rfl, rfl, rfl, rfl, rfl, rfl, rfl, rfl, rfl⟩), (fun _ h => by cases h), H.h1, H.h2, H.h3, (fun _ h => by cases h), H.h5, H.h6, H.h7, H.h8, H.h9, H.h10, H.h11, H.h12, (fun _ => ⟨K1.out, BV.out⟩)⟩⟩
    · have ho := hoj
      simp at ho
  case hfin =>
    rintro listed a w ⟨b0, b1, b2, b3, b4, b5, b6, b7, b8, b9, b10, b11, b12, b13, x0, x1, x2, x3, x4, x5, x6, x7, x8, x9, x10, x11, x12, x13, rfl, rfl, H⟩ hr
    have hb : b13 = true := by
      clear H
      obtain rfl : b0 = true := by
        cases b0
        · exact absurd hr (ready_neF (by kernel_rfl))
        · rfl
      obtain rfl : b1 = true := by
        cases b1
        · exact absurd hr (ready_neF (by kernel_rfl))
        · rfl
      obtain rfl : b2 = true := by
        cases b2
        · exact absurd hr (ready_neF (by kernel_rfl))
        · rfl
      obtain rfl : b3 = true := by
        cases b3
        · exact absurd hr (ready_neF (by kernel_rfl))
        · rfl
      obtain rfl : b4 = true := by
        cases b4
        · exact absurd hr (ready_neF (by kernel_rfl))
        · rfl
      obtain rfl : b5 = true := by
        cases b5
        · exact absurd hr (ready_neF (by kernel_rfl))
        · rfl
      obtain rfl : b6 = true := by
        cases b6
        · exact absurd hr (ready_neF (by kernel_rfl))
        · rfl
      obtain rfl : b7 = true := by
        cases b7
        · exact absurd hr (ready_neF (by kernel_rfl))
        · rfl
      obtain rfl : b8 = true := by
        cases b8
        · exact absurd hr (ready_neF (by kernel_rfl))
        · rfl
      obtain rfl : b9 = true := by
        cases b9
        · exact absurd hr (ready_neF (by kernel_rfl))
        · rfl
      obtain rfl : b10 = true := by
        cases b10
        · exact absurd hr (ready_neF (by kernel_rfl))
        · rfl
      obtain rfl : b11 = true := by
        cases b11
        · exact absurd hr (ready_neF (by kernel_rfl))
        · rfl
      obtain rfl : b12 = true := by
        cases b12
        · exact absurd hr (ready_neF (by kernel_rfl))
        · rfl
      obtain rfl : b13 = true := by
        cases b13
        · exact absurd hr (ready_neF (by kernel_rfl))
        · rfl
      rfl
    subst hb
    clear hr
    obtain rfl : b0 = true := (H.d13 rfl).1
    obtain rfl : b1 = true := (H.d13 rfl).2.1
    obtain rfl : b2 = true := (H.d13 rfl).2.2.1
    obtain rfl : b3 = true := (H.d13 rfl).2.2.2.1
    obtain rfl : b4 = true := (H.d13 rfl).2.2.2.2.1
    obtain rfl : b5 = true := (H.d13 rfl).2.2.2.2.2.1
    obtain rfl : b6 = true := (H.d13 rfl).2.2.2.2.2.2.1
    obtain rfl : b7 = true := (H.d13 rfl).2.2.2.2.2.2.2.1
    obtain rfl : b8 = true := (H.d13 rfl).2.2.2.2.2.2.2.2.1
    obtain rfl : b9 = true := (H.d13 rfl).2.2.2.2.2.2.2.2.2.1
    obtain rfl : b10 = true := (H.d13 rfl).2.2.2.2.2.2.2.2.2.2.1
    obtain rfl : b11 = true := (H.d13 rfl).2.2.2.2.2.2.2.2.2.2.2.1
    obtain rfl : b12 = true := (H.d13 rfl).2.2.2.2.2.2.2.2.2.2.2.2
    obtain ⟨hz, hb⟩ := H.h13 rfl
    have HZ := Lib.hid hz
    have HBB := Lib.hid hb
    clear hz hb H
    obtain ⟨r0, r1⟩ := bk2F HZ.out
    go_wp2_with fail
    refine bodyPost_ret (by simp [results, Tryd.results32, go_sem, r0, r1]; try rfl) rfl ?_
    exact ⟨rfl, HBB.out⟩
end Go.Proofs.YtpfahdogedchpaaDoor
