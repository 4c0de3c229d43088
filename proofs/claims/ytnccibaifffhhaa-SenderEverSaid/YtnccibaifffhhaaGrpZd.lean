/- Several texts in one. -/
import Derived.Test.YtnccibaifffhhaaGrpD
import Derived.Test.YtnccibaifffhhaaRows
import Derived.WalkKit
import Derived.Handy
import Derived.Lib.Hide
import Derived.Outline
import Derived.Laws.IdiomStrings
import Derived.Test.YtnccibaifffhhaaGrpC
import Derived.Test.YtnccibaifffhhaaGrpB
import Derived.Lib.AppendStr
import Derived.Deep.LoopGhost
/- The verifier's texts' own 'cut': the first bytes of a string. -/
namespace Go.Proofs.Ytnccibaifffhhaa
set_option linter.unusedVariables false
open Go.RowKit P

theorem cut_any (s : ByteArray) (n : Nat) (hn : n ≤ 1000) (h : s.size ≤ maxLen) (w : World) :
    Calls Try.prog 27 #[.string s, .int .i64 n] w fun e w' => e = .returned (.string (strOfNums ((numsOf s).take n))) ∧ w = w' := by
  have hs : s.extract 0 n = strOfNums ((numsOf s).take n) := by rw [← str_cut, numsOf_str]
  unfold maxLen at h
  by_cases c : n < s.size
  · go_enter Try.func27, Try.ntmps27
    go_wp2
    go_ret
    exact ⟨rfl, rfl⟩
  · have e : strOfNums ((numsOf s).take n) = s := by rw [List.take_of_length_le (by rw [numsOf_len]; omega), numsOf_str]
    rw [e]
    clear hs e
    go_enter Try.func27, Try.ntmps27
    go_wp2
    go_ret
    exact ⟨rfl, rfl⟩
end Go.Proofs.Ytnccibaifffhhaa
/- What lies in new memory: bytes that read so in every later world in which the blocks from a place on are as they were. Nothing of the program's. -/
namespace Go.Proofs.Ytnccibaifffhhaa
set_option linter.unusedVariables false
open Go.RowKit P

/-- the blocks from lo on are as they were -/
structure Keeps (lo : Nat) (w w' : World) : Prop where
  size : w.heap.size ≤ w'.heap.size
  block : ∀ k, lo ≤ k → k < w.heap.size → w'.heap[k]? = w.heap[k]?
theorem Keeps.refl (lo : Nat) (w : World) : Keeps lo w w := ⟨Nat.le_refl _, fun _ _ _ => rfl⟩
theorem Keeps.trans {lo : Nat} {a b c : World} (h : Keeps lo a b) (k : Keeps lo b c) : Keeps lo a c := ⟨Nat.le_trans h.size k.size, fun i h1 h2 => (k.block i h1 (Nat.lt_of_lt_of_le h2 h.size)).trans (h.block i h1 h2)⟩
theorem Keeps.below {lo : Nat} {w w' : World} (h : Below w.heap.size w w') : Keeps lo w w' := ⟨h.size, fun k _ hk => h.block k hk⟩
theorem Keeps.gr {lo y : Nat} {w w' : World} (g : w.grownBy w' (some y)) (hy : y < lo) : Keeps lo w w' := ⟨g.size, fun k h1 h2 => g.block k h2 (fun e => by cases e; omega)⟩
theorem Keeps.grown {lo : Nat} {w w' : World} {r : Option Nat} (g : w.grownBy w' r) (hr : ∀ y, r = some y → y < lo) : Keeps lo w w' := ⟨g.size, fun k h1 h2 => g.block k h2 (fun e => by have := hr k e.symm; omega)⟩
/-- bytes in new memory -/
def BF (w : World) (lo : Nat) (v : Value) (zs : List Int) : Prop := ∀ w'', Keeps lo w w'' → BSl w'' w''.heap.size v zs
theorem BF.nil (w : World) (lo : Nat) : BF w lo (.slice none 0 0) [] := fun w'' _ => BSl.nil _ _
theorem BF.on {w w' : World} {lo : Nat} {v : Value} {zs : List Int} (h : BF w lo v zs) (k : Keeps lo w w') : BF w' lo v zs := fun w'' k2 => h w'' (k.trans k2)
theorem BF.now {w : World} {lo : Nat} {v : Value} {zs : List Int} (h : BF w lo v zs) : BSl w w.heap.size v zs := h w (Keeps.refl _ _)
theorem BF.more {w : World} {lo lo' : Nat} {v : Value} {zs : List Int} (h : BF w lo v zs) (hl : lo' ≤ lo) : BF w lo' v zs := fun w'' k => h w'' ⟨k.size, fun i h1 h2 => k.block i (Nat.le_trans hl h1) h2⟩
theorem cell_of_blk {w w' : World} {k i : Nat} (h : w'.heap[k]? = w.heap[k]?) : w'.cell? ⟨k, i, none⟩ = w.cell? ⟨k, i, none⟩ := by simp only [World.cell?, h]
/-- an own row of bytes lies in new memory -/
theorem bf_own {w : World} {base n lo : Nat} {v : Value} {zs : List Int} (h : w.ownsRow base 5 1 v n (zs.map (.int .u8))) (hb : Byt zs) (hl : lo ≤ base) : BF w lo v zs := fun w'' k => by
  have h0 := own_bsl h hb
  rcases h.2 with ⟨rfl, e⟩ | ⟨g, cap, cur, rfl, hbg, hh, _⟩
  · have hz : zs = [] := by
      have h1 := h.1
      rw [List.length_map] at h1
      exact List.eq_nil_of_length_eq_zero (by omega)
    subst hz
    exact BSl.nil _ _
  · obtain ⟨A, c, e, h1, h2, h3, h4⟩ := h0.ex
    have kb := k.block g (by omega) (lt_of_block hh)
    refine ⟨A, c, e, h1, h2, h3, h4.1, fun hz => ?_⟩
    obtain ⟨b, off, e2, hb2, hc⟩ := h4.2 hz
    injection e with ea _ _
    rw [e2] at ea
    cases ea
    exact ⟨_, _, e2, Nat.lt_of_lt_of_le hb2 k.size, fun j hj => (cell_of_blk kb).trans (hc j hj)⟩
end Go.Proofs.Ytnccibaifffhhaa
/- The statements' own 'text'. -/
namespace Go.Proofs.Ytnccibaifffhhaa
set_option linter.unusedVariables false
open Go.RowKit P

theorem BF.take {w : World} {lo c n : Nat} {A : Option Addr} {zs : List Int} (h : BF w lo (.slice A n c) zs) (k : Nat) (hk : k ≤ zs.length) : BF w lo (.slice A k c) (zs.take k) := fun w'' q => by
  obtain ⟨A', c', e, h1, h2, h3, h4⟩ := (h w'' q).ex
  injection e with e1 e2 e3
  subst e1 e3
  have hl : (zs.take k).length = k := List.length_take_of_le hk
  exact ⟨A, c, by rw [hl], by rw [hl]; omega, h2, h3, h4.take k⟩
theorem numsOf_byt (s : ByteArray) : Byt (numsOf s) := fun j => by
  by_cases h : j < (numsOf s).length
  · have : (numsOf s).getD j 0 = (s.data.toList[j]'(by simpa [numsOf] using h)).toNat := by
      rw [List.getD_eq_getElem?_getD, List.getElem?_eq_getElem h]
      simp [numsOf]
    rw [this]
    have := (s.data.toList[j]'(by simpa [numsOf] using h)).toNat_lt
    omega
  · rw [List.getD_eq_getElem?_getD, List.getElem?_eq_none (by omega)]
    exact ⟨by decide, by decide⟩
/-- what text answers: so many bytes, in new memory -/
structure TextPost (n : Int) (most : Nat) (w : World) (e : Ending) (w' : World) : Prop where
  ex : ∃ zs A c, e = .returned (.slice A zs.length c) ∧ (zs.length : Int) = n % ((most : Int) + 1) ∧ BF w' w.heap.size (.slice A zs.length c) zs
  be : Below w.heap.size w w'
set_option maxRecDepth 100000 in
set_option maxHeartbeats 1000000 in
theorem text_any (s : ByteArray) (n : Int) (most : Nat) (hmost : most ≤ 1000) (hs : s.size ≤ maxLen) (w : World) :
    Calls Try.prog 8 #[.string s, .int .i64 n, .int .i64 (most : Int)] w (TextPost n most w) := by
  have m0 : 0 ≤ n % ((most : Int) + 1) := Int.emod_nonneg _ (by omega)
  have m1 : n % ((most : Int) + 1) < (most : Int) + 1 := Int.emod_lt_of_pos _ (by omega)
  have hpk := fun w => picked_any n ((most : Int) + 1) (by omega) (by omega) w
  obtain ⟨K, hK⟩ : ∃ K : Nat, n % ((most : Int) + 1) = (K : Int) := ⟨(n % ((most : Int) + 1)).toNat, by omega⟩
  rw [hK] at hpk m1
  have HK := Lib.hid hK
  have HPK := Lib.hid hpk
  have hcut : ∀ w, Calls Try.prog 27 #[.string s, .int .i64 9] w fun e w' => e = .returned (.string (strOfNums ((numsOf s).take 9))) ∧ w = w' := fun w => cut_any s 9 (by omega) hs w
  obtain ⟨C, hC⟩ : ∃ C, strOfNums ((numsOf s).take 9) = C := ⟨_, rfl⟩
  have hcl : C.size ≤ 9 := by
    rw [← hC]
    have : (strOfNums ((numsOf s).take 9)).size = ((numsOf s).take 9).length := by
      show (strOfNums ((numsOf s).take 9)).data.size = _
      rw [← Array.length_toList, strOfNums_data, List.length_map]
    rw [this, List.length_take]
    omega
  rw [hC] at hcut
  have HCUT := Lib.hid hcut
  have HCB := Lib.hid (numsOf_byt C)
  have hcn : Lib.strCells C = (numsOf C).map (.int .u8) := by simp [Lib.strCells, numsOf, Function.comp_def]
  have HCN := Lib.hid hcn
  have HCL := Lib.hid (numsOf_len C)
  obtain ⟨i0, hi0, hz0, hz1, hz2⟩ := info_parts infoB1
  have HI := Lib.hid hi0
  have HZ := Lib.hid hz0
  have HZ1 := Lib.hid hz1
  have HZ2 := Lib.hid hz2
  have hwm : IntKind.i64.wrap ((most : Int) + 1) = (most : Int) + 1 := by rw [IntKind.wrap_i64]; omega
  clear hpk hcut hC hcn hK m0 hi0 hz0 hz1 hz2
  go_enter Try.func8, Try.ntmps8
  go_wp2_with fail
  refine (HPK.out _).mono ?_
  rintro e w' ⟨rfl, rfl⟩
  clear hwm
  go_wp2_with fail
  go_loopg [8, 9] (2000 + K) (fun gq bv iv wr => ∃ (X : List Int) (A : Option Addr) (c : Nat) (z : Int), bv = .slice A X.length c ∧ iv = .int .i64 z ∧ 0 ≤ z ∧ z ≤ X.length ∧ X.length ≤ 1010 ∧ X.length + gq = 2000 + K ∧ Hid (wr.ownsRow w.heap.size 5 1 (.slice A X.length c) X.length (X.map (.int .u8))) ∧ Hid (Byt X) ∧ Hid (Below w.heap.size w wr))
  case atStart => exact ⟨[], none, 0, 0, rfl, rfl, by omega, by simp, by simp, by simp, Lib.hid ⟨rfl, .inl ⟨rfl, rfl⟩⟩, Lib.hid Byt.nil, Lib.hid (Below.refl _ _)⟩
  case round =>
    obtain ⟨X, A, c, z, rfl, rfl, hz0, hz1, hx, hg, OX, HX, BX⟩ := hrel
    obtain ⟨n1, hn1⟩ : ∃ m, X.length = m := ⟨_, rfl⟩
    rw [hn1] at OX hz1 hx hg ⊢
    have HN1 := Lib.hid hn1
    clear hn1
    obtain ⟨hnc, hcm⟩ : n1 ≤ c ∧ c ≤ maxLen := by obtain ⟨A', c', e, h1, h2⟩ := own_slice OX.out; cases e; exact ⟨h1, h2⟩
    unfold maxLen at hcm
    by_cases hk : n1 < K
    · have hkK : (n1 : Int) < (K : Int) := by omega
      have zb0 : 0 ≤ z % 256 := Int.emod_nonneg _ (by decide)
      have zb1 : z % 256 < 256 := Int.emod_lt_of_pos _ (by decide)
      have hwz : IntKind.u8.wrap z = z % 256 := by rw [IntKind.wrap_u8]
      have hw1 : IntKind.i64.wrap (z + 1) = z + 1 := by rw [IntKind.wrap_i64]; omega
      have OA := Lib.hid (World.ownsRow.kept OX.out (World.grownBy_alloc wr (.cells #[.int .u8 (z % 256)] 5) none) (none_or _))
      have NA := Lib.hid (heap_alloc_new wr (.cells #[.int .u8 (z % 256)] 5))
      have BA := Lib.hid (BX.out.alloc BX.out.size (.cells #[.int .u8 (z % 256)] 5))
      have hsz := BX.out.size
      have hrow : BRow (wr.alloc (.cells #[.int .u8 (z % 256)] 5)) (wr.heap.size + 1) (some ⟨wr.heap.size, 0, none⟩) [z % 256] :=
        ⟨byt1 (by omega), fun _ => ⟨wr.heap.size, 0, rfl, Nat.lt_succ_self _, fun j hj => by
          obtain rfl : j = 0 := by simp at hj; omega
          exact bk_cell NA.out 0⟩⟩
      have HROW := Lib.hid hrow
      clear hrow
      go_wp2_with (first
        | (at_builtin
           refine wpList_app _ rfl (.tmp 20) (.tmp 23) _ rfl w.heap.size 5 i0 Try.underlying23 HI.out HZ.out HZ1.out HZ2.out (.slice A n1 c) n1 (X.map (.int .u8)) rfl OA.out (wr.heap.size + 1) (some ⟨wr.heap.size, 0, none⟩) 1 1 [z % 256] rfl HROW.out rfl (fun h => by cases h) (by omega) (by simp; omega) ?_
           intro v1 w1 own1 g1 _
           obtain ⟨A1, c1, hv1, _, _⟩ := own_slice own1
           subst hv1
           have O1 := Lib.hid own1
           have B1 := Lib.hid (BA.out.grown g1 (by simp; omega) (fun k hk => (World.ownsRow.lt OA.out k hk).1))
           clear own1 g1)
        | (go_at_call 27
           refine (HCUT.out _).mono ?_
           rintro e w' ⟨rfl, rfl⟩)
        | (at_builtin
           refine Lib.wpList_append_own_string _ rfl (.tmp 24) (.tmp 26) _ _ rfl w.heap.size 5 i0 Try.underlying23 Try.underlying9 HI.out HZ.out HZ1.out HZ2.out (.slice A1 (n1 + 1) c1) (n1 + 1) (X.map (.int .u8) ++ [z % 256].map (.int .u8)) rfl O1.out C rfl (by unfold maxLen; omega) (by omega) B1.out.size ?_
           intro v2 w2 own2 g2 _
           obtain ⟨A2, c2, hv2, _, _⟩ := own_slice own2
           subst hv2
           have O2 := Lib.hid own2
           have B2 := Lib.hid (B1.out.grown g2 B1.out.size (fun k hk => (World.ownsRow.lt O1.out k hk).1))
           clear own2 g2))
      have hln : (X ++ [z % 256] ++ numsOf C).length = n1 + 1 + C.size := by have h1 := HN1.out; have h2 := HCL.out; simp; omega
      have O3 := Lib.hid (show w2.ownsRow w.heap.size 5 1 (.slice A2 (X ++ [z % 256] ++ numsOf C).length c2) (X ++ [z % 256] ++ numsOf C).length ((X ++ [z % 256] ++ numsOf C).map (.int .u8)) from by
        rw [hln, List.map_append, List.map_append, ← HCN.out]
        exact O2.out)
      have HY := Lib.hid (show Byt (X ++ [z % 256] ++ numsOf C) from (HX.out.append (byt1 (by omega))).append HCB.out)
      go_roundg (2000 + K - (n1 + 1 + C.size))
      case measure => omega
      case rel => exact ⟨X ++ [z % 256] ++ numsOf C, A2, c2, z + 1, by rw [hln], rfl, by omega, by omega, by omega, by omega, O3, HY, B2⟩
    · have hkK : ¬ (n1 : Int) < (K : Int) := by omega
      have dk : decide ((n1 : Int) < (K : Int)) = false := by simp; omega
      have hBF := Lib.hid ((bf_own OX.out HX.out (Nat.le_refl _)).take K (by rw [HN1.out]; omega))
      have hl : (X.take K).length = K := List.length_take_of_le (by rw [HN1.out]; omega)
      have HLL := Lib.hid hl
      clear hl hkK
      go_wp2_with fail
      go_ret
      exact ⟨⟨X.take K, A, c, by rw [HLL.out]; rfl, by rw [HLL.out, HK.out], by rw [HLL.out]; exact hBF.out⟩, BX.out⟩
end Go.Proofs.Ytnccibaifffhhaa
