/- Several texts in one: TextK, GatherFirstW. -/
import Derived.Test.YtfbjgbnlgaajaaaCut
import Derived.Test.YtfbjgbnlgaajaaaPick
import Derived.Test.YtfbjgbnlgaajaaaFresh
import Derived.Lib.AppendStr
import Derived.Deep.LoopGhost
import Derived.Test.YtfbjgbnlgaajaaaGatherGapsW
namespace Go.Proofs.Ytfbjgbnlgaajaaa
set_option linter.unusedVariables false
open Go.RowKit P

theorem BF.take {w : World} {lo c n : Nat} {A : Option Addr} {zs : List Int} (h : BF w lo (.slice A n c) zs) (k : Nat) (hk : k ≤ zs.length) : BF w lo (.slice A k c) (zs.take k) := fun w'' q => by
  obtain ⟨A', c', e, h1, h2, h3, h4⟩ := (h w'' q).ex
  injection e with e1 e2 e3
  subst e1 e3
  have hl : (zs.take k).length = k := List.length_take_of_le hk
  exact ⟨A, c, by rw [hl], by rw [hl]; omega, h2, h3, h4.take k⟩
theorem numsOf_byt (s : ByteArray) : Byt (numsOf s) := fun j => by
  by_cases h : j < (numsOf s).length
  · have : (numsOf s).getD j 0 = (s.data.toList[j]'(by simpa [numsOf] using h)).toNat := by
      rw [List.getD_eq_getElem?_getD, List.getElem?_eq_getElem h]
      simp [numsOf]
    rw [this]
    have := (s.data.toList[j]'(by simpa [numsOf] using h)).toNat_lt
    omega
  · rw [List.getD_eq_getElem?_getD, List.getElem?_eq_none (by omega)]
    exact ⟨by decide, by decide⟩
/-- what text answers: so many bytes, in new memory -/
structure TextPost (n : Int) (most : Nat) (w : World) (e : Ending) (w' : World) : Prop where
  ex : ∃ zs A c, e = .returned (.slice A zs.length c) ∧ (zs.length : Int) = n % ((most : Int) + 1) ∧ BF w' w.heap.size (.slice A zs.length c) zs
  be : Below w.heap.size w w'
set_option maxRecDepth 100000 in
set_option maxHeartbeats 1000000 in
theorem text_any (s : ByteArray) (n : Int) (most : Nat) (hmost : most ≤ 1000) (hs : s.size ≤ maxLen) (w : World) :
    Calls Try.prog 22 #[.string s, .int .i64 n, .int .i64 (most : Int)] w (TextPost n most w) := by
  have m0 : 0 ≤ n % ((most : Int) + 1) := Int.emod_nonneg _ (by omega)
  have m1 : n % ((most : Int) + 1) < (most : Int) + 1 := Int.emod_lt_of_pos _ (by omega)
  have hpk := fun w => picked_any n ((most : Int) + 1) (by omega) (by omega) w
  obtain ⟨K, hK⟩ : ∃ K : Nat, n % ((most : Int) + 1) = (K : Int) := ⟨(n % ((most : Int) + 1)).toNat, by omega⟩
  rw [hK] at hpk m1
  have HK := Lib.hid hK
  have HPK := Lib.hid hpk
  have hcut : ∀ w, Calls Try.prog 36 #[.string s, .int .i64 9] w fun e w' => e = .returned (.string (strOfNums ((numsOf s).take 9))) ∧ w = w' := fun w => cut_any s 9 (by omega) hs w
  obtain ⟨C, hC⟩ : ∃ C, strOfNums ((numsOf s).take 9) = C := ⟨_, rfl⟩
  have hcl : C.size ≤ 9 := by
    rw [← hC]
    have : (strOfNums ((numsOf s).take 9)).size = ((numsOf s).take 9).length := by
      show (strOfNums ((numsOf s).take 9)).data.size = _
      rw [← Array.length_toList, strOfNums_data, List.length_map]
    rw [this, List.length_take]
    omega
  rw [hC] at hcut
  have HCUT := Lib.hid hcut
  have HCB := Lib.hid (numsOf_byt C)
  have hcn : Lib.strCells C = (numsOf C).map (.int .u8) := by simp [Lib.strCells, numsOf, Function.comp_def]
  have HCN := Lib.hid hcn
  have HCL := Lib.hid (numsOf_len C)
  obtain ⟨i0, hi0, hz0, hz1, hz2⟩ := info_parts infoB1
  have HI := Lib.hid hi0
  have HZ := Lib.hid hz0
  have HZ1 := Lib.hid hz1
  have HZ2 := Lib.hid hz2
  have hwm : IntKind.i64.wrap ((most : Int) + 1) = (most : Int) + 1 := by rw [IntKind.wrap_i64]; omega
  clear hpk hcut hC hcn hK m0 hi0 hz0 hz1 hz2
  go_enter Try.func22, Try.ntmps22
  go_wp2_with fail
  refine (HPK.out _).mono ?_
  rintro e w' ⟨rfl, rfl⟩
  clear hwm
  go_wp2_with fail
  go_loopg [8, 9] (2000 + K) (fun gq bv iv wr => ∃ (X : List Int) (A : Option Addr) (c : Nat) (z : Int), bv = .slice A X.length c ∧ iv = .int .i64 z ∧ 0 ≤ z ∧ z ≤ X.length ∧ X.length ≤ 1010 ∧ X.length + gq = 2000 + K ∧ Hid (wr.ownsRow w.heap.size 5 1 (.slice A X.length c) X.length (X.map (.int .u8))) ∧ Hid (Byt X) ∧ Hid (Below w.heap.size w wr))
  case atStart => exact ⟨[], none, 0, 0, rfl, rfl, by omega, by simp, by simp, by simp, Lib.hid ⟨rfl, .inl ⟨rfl, rfl⟩⟩, Lib.hid Byt.nil, Lib.hid (Below.refl _ _)⟩
  case round =>
    obtain ⟨X, A, c, z, rfl, rfl, hz0, hz1, hx, hg, OX, HX, BX⟩ := hrel
    obtain ⟨n1, hn1⟩ : ∃ m, X.length = m := ⟨_, rfl⟩
    rw [hn1] at OX hz1 hx hg ⊢
    have HN1 := Lib.hid hn1
    clear hn1
    obtain ⟨hnc, hcm⟩ : n1 ≤ c ∧ c ≤ maxLen := by obtain ⟨A', c', e, h1, h2⟩ := own_slice OX.out; cases e; exact ⟨h1, h2⟩
    unfold maxLen at hcm
    by_cases hk : n1 < K
    · have hkK : (n1 : Int) < (K : Int) := by omega
      have zb0 : 0 ≤ z % 256 := Int.emod_nonneg _ (by decide)
      have zb1 : z % 256 < 256 := Int.emod_lt_of_pos _ (by decide)
      have hwz : IntKind.u8.wrap z = z % 256 := by rw [IntKind.wrap_u8]
      have hw1 : IntKind.i64.wrap (z + 1) = z + 1 := by rw [IntKind.wrap_i64]; omega
      have OA := Lib.hid (World.ownsRow.kept OX.out (World.grownBy_alloc wr (.cells #[.int .u8 (z % 256)] 5) none) (none_or _))
      have NA := Lib.hid (heap_alloc_new wr (.cells #[.int .u8 (z % 256)] 5))
      have BA := Lib.hid (BX.out.alloc BX.out.size (.cells #[.int .u8 (z % 256)] 5))
      have hsz := BX.out.size
      have hrow : BRow (wr.alloc (.cells #[.int .u8 (z % 256)] 5)) (wr.heap.size + 1) (some ⟨wr.heap.size, 0, none⟩) [z % 256] :=
        ⟨byt1 (by omega), fun _ => ⟨wr.heap.size, 0, rfl, Nat.lt_succ_self _, fun j hj => by
          obtain rfl : j = 0 := by simp at hj; omega
          exact bk_cell NA.out 0⟩⟩
      have HROW := Lib.hid hrow
      clear hrow
      go_wp2_with (first
        | (at_builtin
           refine wpList_app _ rfl (.tmp 20) (.tmp 23) _ rfl w.heap.size 5 i0 Try.underlying31 HI.out HZ.out HZ1.out HZ2.out (.slice A n1 c) n1 (X.map (.int .u8)) rfl OA.out (wr.heap.size + 1) (some ⟨wr.heap.size, 0, none⟩) 1 1 [z % 256] rfl HROW.out rfl (fun h => by cases h) (by omega) (by simp; omega) ?_
           intro v1 w1 own1 g1 _
           obtain ⟨A1, c1, hv1, _, _⟩ := own_slice own1
           subst hv1
           have O1 := Lib.hid own1
           have B1 := Lib.hid (BA.out.grown g1 (by simp; omega) (fun k hk => (World.ownsRow.lt OA.out k hk).1))
           clear own1 g1)
        | (go_at_call 36
           refine (HCUT.out _).mono ?_
           rintro e w' ⟨rfl, rfl⟩)
        | (at_builtin
           refine Lib.wpList_append_own_string _ rfl (.tmp 24) (.tmp 26) _ _ rfl w.heap.size 5 i0 Try.underlying31 Try.underlying9 HI.out HZ.out HZ1.out HZ2.out (.slice A1 (n1 + 1) c1) (n1 + 1) (X.map (.int .u8) ++ [z % 256].map (.int .u8)) rfl O1.out C rfl (by unfold maxLen; omega) (by omega) B1.out.size ?_
           intro v2 w2 own2 g2 _
           obtain ⟨A2, c2, hv2, _, _⟩ := own_slice own2
           subst hv2
           have O2 := Lib.hid own2
           have B2 := Lib.hid (B1.out.grown g2 B1.out.size (fun k hk => (World.ownsRow.lt O1.out k hk).1))
           clear own2 g2))
      have hln : (X ++ [z % 256] ++ numsOf C).length = n1 + 1 + C.size := by have h1 := HN1.out; have h2 := HCL.out; simp; omega
      have O3 := Lib.hid (show w2.ownsRow w.heap.size 5 1 (.slice A2 (X ++ [z % 256] ++ numsOf C).length c2) (X ++ [z % 256] ++ numsOf C).length ((X ++ [z % 256] ++ numsOf C).map (.int .u8)) from by
        rw [hln, List.map_append, List.map_append, ← HCN.out]
        exact O2.out)
      have HY := Lib.hid (show Byt (X ++ [z % 256] ++ numsOf C) from (HX.out.append (byt1 (by omega))).append HCB.out)
      go_roundg (2000 + K - (n1 + 1 + C.size))
      case measure => omega
      case rel => exact ⟨X ++ [z % 256] ++ numsOf C, A2, c2, z + 1, by rw [hln], rfl, by omega, by omega, by omega, by omega, O3, HY, B2⟩
    · have hkK : ¬ (n1 : Int) < (K : Int) := by omega
      have dk : decide ((n1 : Int) < (K : Int)) = false := by simp; omega
      have hBF := Lib.hid ((bf_own OX.out HX.out (Nat.le_refl _)).take K (by rw [HN1.out]; omega))
      have hl : (X.take K).length = K := List.length_take_of_le (by rw [HN1.out]; omega)
      have HLL := Lib.hid hl
      clear hl hkK
      go_wp2_with fail
      go_ret
      exact ⟨⟨X.take K, A, c, by rw [HLL.out]; rfl, by rw [HLL.out, HK.out], by rw [HLL.out]; exact hBF.out⟩, BX.out⟩
end Go.Proofs.Ytfbjgbnlgaajaaa
namespace Go.Proofs.Ytfbjgbnlgaajaaa
set_option linter.unusedVariables false
open Go.RowKit P

/-- a putting of few bytes among few pieces -/
theorem first_put {ps : List Pc} (h : Small ⟨0, ps, -1, 60⟩) (hn : ps.length ≤ 3) (off : Int) (d : List Int) (h0 : 0 ≤ off) (h1 : off + d.length ≤ 60) :
    putG ⟨0, ps, -1, 60⟩ off d false = (⟨0, insP off d ps, -1, 60⟩, 0) ∧ Small ⟨0, insP off d ps, -1, 60⟩ ∧ (insP off d ps).length ≤ ps.length + 1 := by
  have hl := insP_len ps off d
  have hp : putP ⟨0, ps, -1, 60⟩ off d = insP off d ps := by
    unfold putP
    simp only
    rw [show max off 0 = off by omega, show (off - off).toNat = 0 by omega, List.drop_zero]
  have e : putG ⟨0, ps, -1, 60⟩ off d false = (⟨0, insP off d ps, -1, 60⟩, 0) := by
    rw [putG_ref, hp]
    have c1 : refG ⟨0, ps, -1, 60⟩ off d.length false = 0 := by
      unfold refG
      rw [if_neg (fun k => k h.fault), if_neg (by omega), if_neg (fun k => k.1 rfl), if_neg (fun k => by cases k.1), if_neg (by simp only; omega)]
    rw [if_neg (fun k => k c1), if_neg (by omega)]
    rfl
  refine ⟨e, ?_, hl⟩
  have := (h.put (off := off) (d := d) (fin := false) (by rw [e])).1
  rw [e] at this
  exact this
/-- the byte that is there first -/
def fstZ (xs ys : List Int) (i j : Nat) : List Int := (List.range 40).map fun p => if i ≤ p ∧ p < j then xs.getD p 0 else ys.getD p 0
theorem fstZ_len (xs ys : List Int) (i j : Nat) : (fstZ xs ys i j).length = 40 := by simp [fstZ]
theorem fstZ_get (xs ys : List Int) (i j p : Nat) (h : p < 40) : (fstZ xs ys i j).getD p 0 = if i ≤ p ∧ p < j then xs.getD p 0 else ys.getD p 0 := by
  rw [List.getD_eq_getElem?_getD, fstZ, List.getElem?_map, List.getElem?_range h]; rfl
theorem first_pieces {xs ys : List Int} {i j k : Nat} (hx : xs.length = 40) (hy : ys.length = 40) (hij : i < j) (hj : j ≤ 40) (hk : k < 40) :
    insP (0 : Int) ys (insP (k : Int) (ys.drop k) (insP (i : Int) ((xs.drop i).take (j - i)) [])) = [((0 : Int), fstZ xs ys i j)] := by
  have l1 : ((xs.drop i).take (j - i)).length = j - i := by rw [List.length_take, List.length_drop]; omega
  have l2 : (ys.drop k).length = 40 - k := by rw [List.length_drop]; omega
  have o1 := insP_ok [] (-1) (i : Int) ((xs.drop i).take (j - i)) trivial (by omega)
  have o2 := insP_ok _ (-1) (k : Int) (ys.drop k) o1 (by omega)
  have o3 := insP_ok _ (-1) (0 : Int) ys o2 (by omega)
  have hz := fstZ_len xs ys i j
  refine okPs_ext (b := -1) o3 ⟨fun e => by have := congrArg List.length e; simp [fstZ_len] at this, by simp, trivial⟩ fun x => ?_
  rw [insP_at _ (-1) _ _ o2]
  unfold putA
  rw [insP_at _ (-1) _ _ o1]
  unfold putA
  rw [insP_at [] (-1) _ _ trivial]
  unfold putA
  rw [l1, l2, hy]
  have e1 : atP [((0 : Int), fstZ xs ys i j)] x = if 0 ≤ x ∧ x < 40 then some ((fstZ xs ys i j).getD x.toNat 0) else none := by
    simp only [atP, endP, hz]
    simp
  rw [e1]
  simp only [atP]
  by_cases c0 : 0 ≤ x ∧ x < 40
  · rw [if_pos c0, fstZ_get _ _ _ _ _ (by omega)]
    by_cases c1 : (i : Int) ≤ x ∧ x < i + ((j - i : Nat) : Int)
    · rw [if_pos c1, if_pos (show i ≤ x.toNat ∧ x.toNat < j by omega)]
      simp only
      rw [getD_take (by omega), getD_drop]
      congr 2
      omega
    · rw [if_neg c1, if_neg (show ¬(i ≤ x.toNat ∧ x.toNat < j) by omega)]
      simp only
      by_cases c2 : (k : Int) ≤ x ∧ x < k + ((40 - k : Nat) : Int)
      · rw [if_pos c2]
        simp only
        rw [getD_drop]
        congr 2
        omega
      · rw [if_neg c2]
        simp only
        rw [if_pos (by omega)]
        congr 2
        omega
  · rw [if_neg c0, if_neg (show ¬((i : Int) ≤ x ∧ x < i + ((j - i : Nat) : Int)) by omega)]
    simp only
    rw [if_neg (show ¬((k : Int) ≤ x ∧ x < k + ((40 - k : Nat) : Int)) by omega)]
    simp only
    rw [if_neg (by omega)]
/-- a row of bytes of a text that lies ahead of a place -/
structure TxtAt (V : Nat) (w : World) (b o c : Nat) (zs : List Int) : Prop where
  bsl : BSl w V (.slice (some ⟨b, o, none⟩) 40 c) zs
  len : zs.length = 40
  cap : 40 ≤ c
  capm : c ≤ 9223372036854775807
theorem TxtAt.of {w : World} {lo c : Nat} {A : Option Addr} {zs : List Int} (h : BF w lo (.slice A zs.length c) zs) (hl : zs.length = 40) : ∃ b o, A = some ⟨b, o, none⟩ ∧ TxtAt w.heap.size w b o c zs := by
  have h0 := h.now
  obtain ⟨A', c', e, h1, h2, h3, h4⟩ := id h0.ex
  injection e with e1 e2 e3
  subst e1 e3
  obtain ⟨b, o, e, hb, hc⟩ := h4.2 (by omega)
  subst e
  rw [hl] at h0
  unfold maxLen at h2
  exact ⟨b, o, rfl, h0, hl, by omega, by omega⟩
theorem TxtAt.below {V : Nat} {w w' : World} {b o c : Nat} {zs : List Int} (h : TxtAt V w b o c zs) (hb : Below V w w') : TxtAt V w' b o c zs := ⟨h.bsl.below hb, h.len, h.cap, h.capm⟩
theorem TxtAt.cell {V : Nat} {w : World} {b o c : Nat} {zs : List Int} (h : TxtAt V w b o c zs) (j : Nat) (hj : j < 40) : w.cell? ⟨b, o + j, none⟩ = some (.int .u8 (zs.getD j 0)) := by
  obtain ⟨A', c', e, h1, h2, h3, h4⟩ := h.bsl.ex
  obtain ⟨b', o', e', hb, hc⟩ := h4.2 (by have := h.len; omega)
  injection e with e1 e2 e3
  rw [e'] at e1
  cases e1
  exact hc j (by have := h.len; omega)
theorem TxtAt.part {V : Nat} {w : World} {b o c : Nat} {zs : List Int} (h : TxtAt V w b o c zs) (lo hi : Nat) (h1 : lo < hi) (h2 : hi ≤ 40) : BSl w V (.slice (some ⟨b, o + lo, none⟩) (hi - lo) (c - lo)) ((zs.drop lo).take (hi - lo)) := by
  obtain ⟨b', o', e, _, _, h3⟩ := bsl_part h.bsl h.len lo hi h1 h2
  cases e
  exact h3
structure Fst6 (w0 : World) (V iN jN : Nat) (ps1 : List Pc) (A : Option Addr) (n c : Nat) (xb xo xc : Nat) (V0 V1 V2 V3 V4 V5 V9 V11 : Value) (eb0 eb1 eb2 eb3 eb4 eb5 eb6 eb7 eb8 eb9 eb10 eb11 : Bool) (ex0 ex1 ex2 ex3 ex4 ex5 ex6 ex7 ex8 ex9 ex10 ex11 : Value) (w : World) : Prop where
  be : eb10 = false → Below w0.heap.size w0 w
  d5 : eb5 = true → eb2 = true ∧ eb3 = true ∧ eb4 = true
  d6 : eb6 = true → eb0 = true ∧ eb1 = true ∧ eb5 = true
  d7 : eb7 = true → eb6 = true
  d8 : eb8 = true → eb7 = true
  d9 : eb9 = true → eb7 = true
  d10 : eb10 = true → eb0 = true ∧ eb1 = true ∧ eb2 = true ∧ eb3 = true ∧ eb4 = true ∧ eb5 = true ∧ eb6 = true ∧ eb7 = true ∧ eb8 = true
  d11 : eb11 = true → eb0 = true ∧ eb1 = true ∧ eb2 = true ∧ eb3 = true ∧ eb4 = true ∧ eb5 = true ∧ eb6 = true ∧ eb7 = true ∧ eb8 = true ∧ eb9 = true ∧ eb10 = true
  t5 : eb6 = true → ∃ u, ex6 = .tuple #[u, .int .i64 0]
  t6 : eb7 = true → ∃ u, ex7 = .tuple #[u, .int .i64 0]
  h0 : eb0 = true → ex0 = V0
  h1 : eb1 = true → ex1 = V1
  h2 : eb2 = true → ex2 = V2
  h3 : eb3 = true → ex3 = V3
  h4 : eb4 = true → ex4 = V4
  h5 : eb5 = true → ex5 = V5
  h6 : eb6 = true → eb10 = false → ∃ u, ex6 = .tuple #[u, .int .i64 0] ∧ GaFS w (fun j => j < w0.heap.size) u ⟨0, ps1, -1, 60⟩
  h7 : eb7 = true → eb10 = false → ∃ u, ex7 = .tuple #[u, .int .i64 0] ∧ GaFS w (fun j => j < w0.heap.size) u ⟨0, ps1, -1, 60⟩
  h8 : eb8 = true → eb10 = false → GaFS w (fun j => j < w0.heap.size) ex8 ⟨0, ps1, -1, 60⟩
  h9 : eb9 = true → ex9 = V9
  h10 : eb10 = true → ∃ A n c, GW w V ⟨0, ps1, -1, 60⟩ A n c ∧ Below V w0 w
  h11 : eb11 = true → ex11 = V11
structure Fst7 (w0 : World) (V kN : Nat) (ps2 : List Pc) (A1 : Option Addr) (n1 c1 : Nat) (yb yo yc : Nat) (V0 V1 V2 V3 V4 V8 V10 : Value) (fb0 fb1 fb2 fb3 fb4 fb5 fb6 fb7 fb8 fb9 fb10 : Bool) (fx0 fx1 fx2 fx3 fx4 fx5 fx6 fx7 fx8 fx9 fx10 : Value) (w : World) : Prop where
  be : fb9 = false → Below w0.heap.size w0 w
  d4 : fb4 = true → fb2 = true ∧ fb3 = true
  d5 : fb5 = true → fb0 = true ∧ fb1 = true ∧ fb4 = true
  d6 : fb6 = true → fb5 = true
  d7 : fb7 = true → fb6 = true
  d8 : fb8 = true → fb6 = true
  d9 : fb9 = true → fb0 = true ∧ fb1 = true ∧ fb2 = true ∧ fb3 = true ∧ fb4 = true ∧ fb5 = true ∧ fb6 = true ∧ fb7 = true
  d10 : fb10 = true → fb0 = true ∧ fb1 = true ∧ fb2 = true ∧ fb3 = true ∧ fb4 = true ∧ fb5 = true ∧ fb6 = true ∧ fb7 = true ∧ fb8 = true ∧ fb9 = true
  t5 : fb5 = true → ∃ u, fx5 = .tuple #[u, .int .i64 0]
  t6 : fb6 = true → ∃ u, fx6 = .tuple #[u, .int .i64 0]
  h0 : fb0 = true → fx0 = V0
  h1 : fb1 = true → fx1 = V1
  h2 : fb2 = true → fx2 = V2
  h3 : fb3 = true → fx3 = V3
  h4 : fb4 = true → fx4 = V4
  h5 : fb5 = true → fb9 = false → ∃ u, fx5 = .tuple #[u, .int .i64 0] ∧ GaFS w (fun j => j < w0.heap.size) u ⟨0, ps2, -1, 60⟩
  h6 : fb6 = true → fb9 = false → ∃ u, fx6 = .tuple #[u, .int .i64 0] ∧ GaFS w (fun j => j < w0.heap.size) u ⟨0, ps2, -1, 60⟩
  h7 : fb7 = true → fb9 = false → GaFS w (fun j => j < w0.heap.size) fx7 ⟨0, ps2, -1, 60⟩
  h8 : fb8 = true → fx8 = V8
  h9 : fb9 = true → ∃ A n c, GW w V ⟨0, ps2, -1, 60⟩ A n c ∧ Below V w0 w
  h10 : fb10 = true → fx10 = V10
structure Fst8 (w0 : World) (V : Nat) (Z : List Int) (A2 : Option Addr) (n2 c2 : Nat) (yb yo yc : Nat) (V0 V1 V2 V6 V8 : Value) (hb0 hb1 hb2 hb3 hb4 hb5 hb6 hb7 hb8 : Bool) (hx0 hx1 hx2 hx3 hx4 hx5 hx6 hx7 hx8 : Value) (w : World) : Prop where
  be : hb7 = false → Below w0.heap.size w0 w
  d2 : hb2 = true → hb1 = true
  d3 : hb3 = true → hb0 = true ∧ hb2 = true
  d4 : hb4 = true → hb3 = true
  d5 : hb5 = true → hb4 = true
  d6 : hb6 = true → hb4 = true
  d7 : hb7 = true → hb0 = true ∧ hb1 = true ∧ hb2 = true ∧ hb3 = true ∧ hb4 = true ∧ hb5 = true
  d8 : hb8 = true → hb0 = true ∧ hb1 = true ∧ hb2 = true ∧ hb3 = true ∧ hb4 = true ∧ hb5 = true ∧ hb6 = true ∧ hb7 = true
  t5 : hb3 = true → ∃ u, hx3 = .tuple #[u, .int .i64 0]
  t6 : hb4 = true → ∃ u, hx4 = .tuple #[u, .int .i64 0]
  h0 : hb0 = true → hx0 = V0
  h1 : hb1 = true → hx1 = V1
  h2 : hb2 = true → hx2 = V2
  h3 : hb3 = true → hb7 = false → ∃ u, hx3 = .tuple #[u, .int .i64 0] ∧ GaFS w (fun j => j < w0.heap.size) u ⟨0, [(0, Z)], -1, 60⟩
  h4 : hb4 = true → hb7 = false → ∃ u, hx4 = .tuple #[u, .int .i64 0] ∧ GaFS w (fun j => j < w0.heap.size) u ⟨0, [(0, Z)], -1, 60⟩
  h5 : hb5 = true → hb7 = false → GaFS w (fun j => j < w0.heap.size) hx5 ⟨0, [(0, Z)], -1, 60⟩
  h6 : hb6 = true → hx6 = V6
  h7 : hb7 = true → ∃ A n c, GW w V ⟨0, [(0, Z)], -1, 60⟩ A n c ∧ Below V w0 w
  h8 : hb8 = true → hx8 = V8
set_option maxRecDepth 100000 in
set_option maxHeartbeats 4000000 in
theorem gatherFirst_walk (a0 a1 : ByteArray) (a2 a3 a4 : Int) (w0 : World) (hs0 : a0.size ≤ maxLen) (hs1 : a1.size ≤ maxLen) :
    Calls Try.prog 8 #[.string a0, .string a1, .int .i64 a2, .int .i64 a3, .int .i64 a4] w0 fun e w' => e = .returned (.bool true) ∧ Below w0.heap.size w0 w' := by
  have HT0 := Lib.hid (fun w => text_any a0 40 50 (by omega) hs0 w)
  have HT1 := Lib.hid (fun w => text_any a1 40 50 (by omega) hs1 w)
  have H60 := Lib.hid (fun w => gaBegin_F 60 w (by omega))
  rw [show begG 60 = (⟨0, [], -1, 60⟩, 0) by kernel_rfl] at H60
  have i0 : 0 ≤ a2 % 30 := Int.emod_nonneg _ (by decide)
  have i1 : a2 % 30 < 30 := Int.emod_lt_of_pos _ (by decide)
  obtain ⟨iN, hiN⟩ : ∃ n : Nat, a2 % 30 = (n : Int) := ⟨(a2 % 30).toNat, by omega⟩
  have hpi := fun w => picked_any a2 30 (by omega) (by omega) w
  rw [hiN] at hpi
  have HPI := Lib.hid hpi
  have j0 : 0 ≤ a3 % 9 := Int.emod_nonneg _ (by decide)
  have j1 : a3 % 9 < 9 := Int.emod_lt_of_pos _ (by decide)
  obtain ⟨jd, hjd⟩ : ∃ n : Nat, a3 % 9 = (n : Int) := ⟨(a3 % 9).toNat, by omega⟩
  have hpj := fun w => picked_any a3 9 (by omega) (by omega) w
  rw [hjd] at hpj
  have HPJ := Lib.hid hpj
  obtain ⟨jN, hjN⟩ : ∃ jN : Nat, jN = iN + 1 + jd := ⟨_, rfl⟩
  have k0 : 0 ≤ a4 % 40 := Int.emod_nonneg _ (by decide)
  have k1 : a4 % 40 < 40 := Int.emod_lt_of_pos _ (by decide)
  obtain ⟨kN, hkN⟩ : ∃ n : Nat, a4 % 40 = (n : Int) := ⟨(a4 % 40).toNat, by omega⟩
  have hpk := fun w => picked_any a4 40 (by omega) (by omega) w
  rw [hkN] at hpk
  have HPK := Lib.hid hpk
  have bi : iN < 30 := by omega
  have bj : iN < jN := by omega
  have bj2 : jN ≤ 40 := by omega
  have bk : kN < 40 := by omega
  have hw1 : IntKind.i64.wrap ((iN : Int) + 1) = (iN : Int) + 1 := by rw [IntKind.wrap_i64]; omega
  have hw2 : IntKind.i64.wrap ((iN : Int) + 1 + (jd : Int)) = (jN : Int) := by rw [IntKind.wrap_i64]; omega
  clear i0 i1 hiN hpi j0 j1 hjd hpj k0 k1 hkN hpk hs0 hs1
  have HJ := Lib.hid hjN
  clear hjN
  go_enter Try.func8, Try.ntmps8
  go_wp2_with fail
  refine (HT0.out _).mono ?_
  rintro e w1 ⟨⟨xs, Ax, xc, rfl, hxl, hxb⟩, b1⟩
  have hxl2 : xs.length = 40 := by have : (40 : Int) % ((50 : Nat) + 1 : Int) = 40 := by decide
                                   omega
  obtain ⟨xb, xo, rfl, hxt⟩ := TxtAt.of hxb hxl2
  have XT := Lib.hid hxt
  have B1 := Lib.hid b1
  have HXL := Lib.hid hxl2
  rw [hxl2]
  clear hxl hxb hxt b1 hxl2
  go_wp2_with fail
  refine (HT1.out _).mono ?_
  rintro e w2 ⟨⟨ys, Ay, yc, rfl, hyl, hyb⟩, b2⟩
  have hyl2 : ys.length = 40 := by have : (40 : Int) % ((50 : Nat) + 1 : Int) = 40 := by decide
                                   omega
  obtain ⟨yb, yo, rfl, hyt⟩ := TxtAt.of hyb hyl2
  have YT := Lib.hid hyt
  have HYL := Lib.hid hyl2
  rw [hyl2]
  have B2 := Lib.hid (B1.out.trans (b2.mono B1.out.size))
  have XT2 := Lib.hid (show TxtAt w2.heap.size w2 xb xo xc xs from ⟨(XT.out.bsl.below b2).more b2.size, XT.out.len, XT.out.cap, XT.out.capm⟩)
  clear hyl hyb hyt b2 hyl2 XT B1 HT0 HT1
  go_wp2_with fail
  refine (H60.out _).mono ?_
  rintro e w3 ⟨b3, u3, rfl, hu3⟩
  obtain ⟨A, n, c, rfl, p3⟩ := hu3.slice
  have XT3 := Lib.hid (show TxtAt w3.heap.size w3 xb xo xc xs from ⟨(XT2.out.bsl.below b3).more b3.size, XT2.out.len, XT2.out.cap, XT2.out.capm⟩)
  have YT3 := Lib.hid (show TxtAt w3.heap.size w3 yb yo yc ys from ⟨(YT.out.bsl.below b3).more b3.size, YT.out.len, YT.out.cap, YT.out.capm⟩)
  have BW := Lib.hid (B2.out.trans (b3.mono B2.out.size))
  have VX := Lib.hid (GW.new (g := ⟨0, [], -1, 60⟩) p3.toS)
  have BVX := Lib.hid ((Below.refl w3.heap.size w3).alloc (Nat.le_refl _) (.cells #[.int .i64 0, .slice A n c, .int .i64 (-1), .int .i64 60] 24))
  clear b3 hu3 p3 YT XT2 B2 H60
  obtain ⟨V, hV⟩ : ∃ V, w3.heap.size = V := ⟨_, rfl⟩
  obtain ⟨X, hX⟩ : ∃ W, w3.alloc (.cells #[.int .i64 0, .slice A n c, .int .i64 (-1), .int .i64 60] 24) = W := ⟨_, rfl⟩
  have HVW := Lib.hid (show w0.heap.size ≤ V from hV ▸ BW.out.size)
  rw [hV] at VX BVX XT3 YT3
  rw [hX] at VX BVX
  have hVX := lt_of_block VX.out.blk
  -- what the puttings give
  have S0 : Small ⟨0, [], -1, 60⟩ := ⟨by decide +kernel, by decide, by decide⟩
  have lx : ((xs.drop iN).take (jN - iN)).length = jN - iN := by have := HXL.out; rw [List.length_take, List.length_drop]; omega
  have ly : (ys.drop kN).length = 40 - kN := by have := HYL.out; rw [List.length_drop]; omega
  obtain ⟨e1, s1, l1⟩ := first_put S0 (by simp) (iN : Int) ((xs.drop iN).take (jN - iN)) (by omega) (by rw [lx]; omega)
  have q1 := fun v v2 w hv hd => gaPut_F v v2 ⟨0, [], -1, 60⟩ (iN : Int) ((xs.drop iN).take (jN - iN)) false w hv S0.wf S0.len hd (by rw [lx]; simp [sumP]; omega) (by omega)
  rw [e1] at q1
  have hfp := first_pieces HXL.out HYL.out bj bj2 bk
  obtain ⟨ps1, hps1⟩ : ∃ ps, insP (iN : Int) ((xs.drop iN).take (jN - iN)) [] = ps := ⟨_, rfl⟩
  rw [hps1] at q1 s1 l1 hfp
  simp only [List.length_nil] at l1
  obtain ⟨e2, s2, l2⟩ := first_put s1 (by omega) (kN : Int) (ys.drop kN) (by omega) (by rw [ly]; omega)
  have q2 := fun v v2 w hv hd => gaPut_F v v2 ⟨0, ps1, -1, 60⟩ (kN : Int) (ys.drop kN) false w hv s1.wf s1.len hd (by have := s1.sum; rw [ly]; simp only at this ⊢; omega) (by omega)
  rw [e2] at q2
  obtain ⟨ps2, hps2⟩ : ∃ ps, insP (kN : Int) (ys.drop kN) ps1 = ps := ⟨_, rfl⟩
  rw [hps2] at q2 s2 l2 hfp
  obtain ⟨e3, s3, l3⟩ := first_put s2 (by omega) 0 ys (by omega) (by have := HYL.out; omega)
  have q3 := fun v v2 w hv hd => gaPut_F v v2 ⟨0, ps2, -1, 60⟩ 0 ys false w hv s2.wf s2.len hd (by have := s2.sum; have := HYL.out; simp only at *; omega) (by omega)
  rw [e3, hfp] at q3
  rw [hfp] at s3
  have hzl := fstZ_len xs ys iN jN
  have HZG := Lib.hid (fun p hp => fstZ_get xs ys iN jN p hp)
  obtain ⟨Z, hZ⟩ : ∃ Z, fstZ xs ys iN jN = Z := ⟨_, rfl⟩
  rw [hZ] at q3 s3 hzl HZG
  have HZL := Lib.hid hzl
  have q4 := fun v w hv => gaTake_F v ⟨0, [(0, Z)], -1, 60⟩ w hv s3.wf s3.len
  rw [takG_yes (p := (0, Z)) (ps := []) s3.fault rfl rfl] at q4
  simp only [hzl] at q4
  have HTK := Lib.hid q4
  have HP1 := Lib.hid q1
  have HP2 := Lib.hid q2
  have HP3 := Lib.hid q3
  have HXP := Lib.hid (fun w' (hb : Below V w3 w') => ((XT3.out.below hb).part iN jN bj bj2).more (show V ≤ w'.heap.size from by rw [← hV]; exact hb.size))
  have HYP := Lib.hid (fun w' (hb : Below V w3 w') => (show BSl w' w'.heap.size (.slice (some ⟨yb, yo + kN, none⟩) (40 - kN) (yc - kN)) (ys.drop kN) from by
    have t := ((YT3.out.below hb).part kN 40 bk (Nat.le_refl _)).more (show V ≤ w'.heap.size from by rw [← hV]; exact hb.size)
    rwa [List.take_of_length_le (by rw [ly]; omega)] at t))
  have HYA := Lib.hid (fun w' (hb : Below V w3 w') => (YT3.out.below hb).bsl.more (show V ≤ w'.heap.size from by rw [← hV]; exact hb.size))
  have xcap := XT3.out.cap
  have xcm := XT3.out.capm
  have ycap := YT3.out.cap
  have ycm := YT3.out.capm
  have z1 : (iN : Int) ≤ (jN : Int) := by omega
  have z2 : (jN : Int) ≤ (xc : Int) := by omega
  have z3 : ¬ xc = iN := by omega
  have z4 : (kN : Int) ≤ 40 := by omega
  have z5 : ¬ yc = kN := by omega
  have z6 : (40 : Int) ≤ (yc : Int) := by omega
  clear q1 q2 q3 q4 e1 e2 e3 s1 s2 s3 l1 l2 l3 S0 hzl hfp lx ly hps1 hps2 hZ
  go_wp2_with fail
  refine (HPI.out _).mono ?_
  rintro e w' ⟨rfl, rfl⟩
  go_wp2_with fail
  refine (HPJ.out _).mono ?_
  rintro e w' ⟨rfl, rfl⟩
  go_wp2_with fail
  refine (HPK.out _).mono ?_
  rintro e w' ⟨rfl, rfl⟩
  go_wp2_with fail
  try rw [hX]
  refine wp_region_inv (fun listed a w => ∃ (eb0 eb1 eb2 eb3 eb4 eb5 eb6 eb7 eb8 eb9 eb10 eb11 : Bool) (ex0 ex1 ex2 ex3 ex4 ex5 ex6 ex7 ex8 ex9 ex10 ex11 : Value), listed = #[eb0, eb1, eb2, eb3, eb4, eb5, eb6, eb7, eb8, eb9, eb10, eb11] ∧ a = { tmps := #[Value.string a0, Value.string a1, Value.int IntKind.i64 a2, Value.int IntKind.i64 a3, Value.int IntKind.i64 a4, undef, undef, undef, undef, undef, Value.bool false, Value.slice (some { block := xb, off := xo }) 40 xc, Value.slice (some { block := yb, off := yo }) 40 yc, Value.pointer (some { block := V, off := 0 }), Value.int IntKind.i64 0, Value.int IntKind.i64 ↑iN, Value.int IntKind.i64 ↑jN, Value.int IntKind.i64 ↑kN, ex11, undef, undef, undef, undef, undef, undef, undef, undef, Value.string a0, Value.slice (some { block := xb, off := xo }) 40 xc, Value.string a1, Value.slice (some { block := yb, off := yo }) 40 yc, Value.tuple #[Value.agg #[Value.int IntKind.i64 0, Value.slice A n c, Value.int IntKind.i64 (-1), Value.int IntKind.i64 60], Value.int IntKind.i64 0], Value.tuple #[Value.agg #[Value.int IntKind.i64 0, Value.slice A n c, Value.int IntKind.i64 (-1), Value.int IntKind.i64 60], Value.int IntKind.i64 0], Value.agg #[Value.int IntKind.i64 0, Value.slice A n c, Value.int IntKind.i64 (-1), Value.int IntKind.i64 60], Value.int IntKind.i64 0, Value.int IntKind.i64 a2, Value.int IntKind.i64 ↑iN, Value.int IntKind.i64 ↑iN, Value.int IntKind.i64 (↑iN + 1), Value.int IntKind.i64 a3, Value.int IntKind.i64 ↑jd, Value.int IntKind.i64 ↑jN, Value.int IntKind.i64 a4, Value.int IntKind.i64 ↑kN, ex7, ex0, ex1, ex2, ex3, ex4, ex5, ex6, ex8, ex9, undef, undef, undef, undef, undef, undef, undef, undef, undef, undef, undef, undef, undef, undef, undef, undef, undef, undef, undef, undef, undef, undef, undef, undef, undef, undef, undef, undef, undef, undef, undef, undef, undef, undef, undef, undef, undef, undef, undef, undef, undef, undef, undef, undef, undef, undef, undef, undef, undef, undef, undef, undef, undef, undef, undef, undef, undef, undef, undef, undef, undef, undef, undef, undef, undef, undef, undef, undef, undef, undef, undef, undef, undef, undef, undef, undef, undef, undef, undef, undef, undef, undef, undef, undef, undef, undef, undef, undef, undef], defers := [] } ∧ Fst6 X V iN jN ps1 A n c xb xo xc (.agg #[.int .i64 0, .slice A n c, .int .i64 (-1), .int .i64 60]) (.int .i64 (iN : Int)) (.slice (some ⟨xb, xo, none⟩) 40 xc) (.int .i64 (iN : Int)) (.int .i64 (jN : Int)) (.slice (some ⟨xb, xo + iN, none⟩) (jN - iN) (xc - iN)) (.int .i64 0) (.int .i64 0) eb0 eb1 eb2 eb3 eb4 eb5 eb6 eb7 eb8 eb9 eb10 eb11 ex0 ex1 ex2 ex3 ex4 ex5 ex6 ex7 ex8 ex9 ex10 ex11 w) (by kernel_rfl) ?h0 ?hfin ?hI
  case h0 => exact ⟨_, _, _, _, _, _, _, _, _, _, _, _, _, _, _, _, _, _, _, _, _, _, undef, _, rfl, rfl, ⟨(fun _ => (Below.refl _ _).drew), (fun h => by cases h), (fun h => by cases h), (fun h => by cases h), (fun h => by cases h), (fun h => by cases h), (fun h => by cases h), (fun h => by cases h), (fun h => by cases h), (fun h => by cases h), (fun h => by cases h), (fun h => by cases h), (fun h => by cases h), (fun h => by cases h), (fun h => by cases h), (fun h => by cases h), (fun h => by cases h), (fun h => by cases h), (fun h => by cases h), (fun h => by cases h), (fun h => by cases h), (fun h => by cases h)⟩⟩
  case hI =>
    rintro listed a w ⟨eb0, eb1, eb2, eb3, eb4, eb5, eb6, eb7, eb8, eb9, eb10, eb11, ex0, ex1, ex2, ex3, ex4, ex5, ex6, ex7, ex8, ex9, ex10, ex11, rfl, rfl, H⟩ i hi
    obtain ⟨hun, oj, hoj, hall⟩ := mem_ready.1 hi
    clear hi
    rcases i with _ | _ | _ | _ | _ | _ | _ | _ | _ | _ | _ | _ | i
    · have ho := hoj
      simp only [List.getElem?_toArray, List.getElem?_cons_succ, List.getElem?_cons_zero, Option.some.injEq] at hoj
      subst hoj
      obtain rfl : eb0 = false := hun
      clear hall
      obtain rfl : eb6 = false := Bool.eq_false_iff.2 fun h => Bool.false_ne_true (H.d6 h).1
      obtain rfl : eb7 = false := Bool.eq_false_iff.2 fun h => Bool.false_ne_true (H.d7 h)
      obtain rfl : eb8 = false := Bool.eq_false_iff.2 fun h => Bool.false_ne_true (H.d8 h)
      obtain rfl : eb9 = false := Bool.eq_false_iff.2 fun h => Bool.false_ne_true (H.d9 h)
      obtain rfl : eb10 = false := Bool.eq_false_iff.2 fun h => Bool.false_ne_true (H.d10 h).1
      obtain rfl : eb11 = false := Bool.eq_false_iff.2 fun h => Bool.false_ne_true (H.d11 h).1
      have hbe := H.be rfl
      have hx_t5 := H.t5
      have hx_t6 := H.t6
      obtain ⟨q0, q1, q2, q3⟩ := bkG ((hbe.block _ hVX).trans VX.out.blk)
      refine wpOp_step ho (fun K' hK => ?_)
      have HK := Lib.hid hK
      clear hK ho
      go_simp
      exact HK.out _ _ ⟨_, _, _, _, _, _, _, _, _, _, _, _, _, _, _, _, _, _, _, _, _, _, ex10, _, rfl, rfl, ⟨(fun _ => hbe), H.d5, (fun h => by cases h), H.d7, H.d8, H.d9, (fun h => by cases h), (fun h => by cases h), H.t5, H.t6, (fun _ => rfl), H.h1, H.h2, H.h3, H.h4, H.h5, (fun h => by cases h), (fun h => by cases h), (fun h => by cases h), H.h9, (fun h => by cases h), H.h11⟩⟩
    · have ho := hoj
      simp only [List.getElem?_toArray, List.getElem?_cons_succ, List.getElem?_cons_zero, Option.some.injEq] at hoj
      subst hoj
      obtain rfl : eb1 = false := hun
      clear hall
      obtain rfl : eb6 = false := Bool.eq_false_iff.2 fun h => Bool.false_ne_true (H.d6 h).2.1
      obtain rfl : eb7 = false := Bool.eq_false_iff.2 fun h => Bool.false_ne_true (H.d7 h)
      obtain rfl : eb8 = false := Bool.eq_false_iff.2 fun h => Bool.false_ne_true (H.d8 h)
      obtain rfl : eb9 = false := Bool.eq_false_iff.2 fun h => Bool.false_ne_true (H.d9 h)
      obtain rfl : eb10 = false := Bool.eq_false_iff.2 fun h => Bool.false_ne_true (H.d10 h).2.1
      obtain rfl : eb11 = false := Bool.eq_false_iff.2 fun h => Bool.false_ne_true (H.d11 h).2.1
      have hbe := H.be rfl
      have hx_t5 := H.t5
      have hx_t6 := H.t6
      refine wpOp_step ho (fun K' hK => ?_)
      have HK := Lib.hid hK
      clear hK ho
      go_simp
      exact HK.out _ _ ⟨_, _, _, _, _, _, _, _, _, _, _, _, _, _, _, _, _, _, _, _, _, _, ex10, _, rfl, rfl, ⟨(fun _ => hbe), H.d5, (fun h => by cases h), H.d7, H.d8, H.d9, (fun h => by cases h), (fun h => by cases h), H.t5, H.t6, H.h0, (fun _ => rfl), H.h2, H.h3, H.h4, H.h5, (fun h => by cases h), (fun h => by cases h), (fun h => by cases h), H.h9, (fun h => by cases h), H.h11⟩⟩
    · have ho := hoj
      simp only [List.getElem?_toArray, List.getElem?_cons_succ, List.getElem?_cons_zero, Option.some.injEq] at hoj
      subst hoj
      obtain rfl : eb2 = false := hun
      clear hall
      obtain rfl : eb5 = false := Bool.eq_false_iff.2 fun h => Bool.false_ne_true (H.d5 h).1
      obtain rfl : eb6 = false := Bool.eq_false_iff.2 fun h => Bool.false_ne_true (H.d6 h).2.2
      obtain rfl : eb7 = false := Bool.eq_false_iff.2 fun h => Bool.false_ne_true (H.d7 h)
      obtain rfl : eb8 = false := Bool.eq_false_iff.2 fun h => Bool.false_ne_true (H.d8 h)
      obtain rfl : eb9 = false := Bool.eq_false_iff.2 fun h => Bool.false_ne_true (H.d9 h)
      obtain rfl : eb10 = false := Bool.eq_false_iff.2 fun h => Bool.false_ne_true (H.d10 h).2.2.1
      obtain rfl : eb11 = false := Bool.eq_false_iff.2 fun h => Bool.false_ne_true (H.d11 h).2.2.1
      have hbe := H.be rfl
      have hx_t5 := H.t5
      have hx_t6 := H.t6
      refine wpOp_step ho (fun K' hK => ?_)
      have HK := Lib.hid hK
      clear hK ho
      go_simp
      exact HK.out _ _ ⟨_, _, _, _, _, _, _, _, _, _, _, _, _, _, _, _, _, _, _, _, _, _, ex10, _, rfl, rfl, ⟨(fun _ => hbe), (fun h => by cases h), H.d6, H.d7, H.d8, H.d9, (fun h => by cases h), (fun h => by cases h), H.t5, H.t6, H.h0, H.h1, (fun _ => rfl), H.h3, H.h4, H.h5, (fun h => by cases h), (fun h => by cases h), (fun h => by cases h), H.h9, (fun h => by cases h), H.h11⟩⟩
    · have ho := hoj
      simp only [List.getElem?_toArray, List.getElem?_cons_succ, List.getElem?_cons_zero, Option.some.injEq] at hoj
      subst hoj
      obtain rfl : eb3 = false := hun
      clear hall
      obtain rfl : eb5 = false := Bool.eq_false_iff.2 fun h => Bool.false_ne_true (H.d5 h).2.1
      obtain rfl : eb6 = false := Bool.eq_false_iff.2 fun h => Bool.false_ne_true (H.d6 h).2.2
      obtain rfl : eb7 = false := Bool.eq_false_iff.2 fun h => Bool.false_ne_true (H.d7 h)
      obtain rfl : eb8 = false := Bool.eq_false_iff.2 fun h => Bool.false_ne_true (H.d8 h)
      obtain rfl : eb9 = false := Bool.eq_false_iff.2 fun h => Bool.false_ne_true (H.d9 h)
      obtain rfl : eb10 = false := Bool.eq_false_iff.2 fun h => Bool.false_ne_true (H.d10 h).2.2.2.1
      obtain rfl : eb11 = false := Bool.eq_false_iff.2 fun h => Bool.false_ne_true (H.d11 h).2.2.2.1
      have hbe := H.be rfl
      have hx_t5 := H.t5
      have hx_t6 := H.t6
      refine wpOp_step ho (fun K' hK => ?_)
      have HK := Lib.hid hK
      clear hK ho
      go_simp
      exact HK.out _ _ ⟨_, _, _, _, _, _, _, _, _, _, _, _, _, _, _, _, _, _, _, _, _, _, ex10, _, rfl, rfl, ⟨(fun _ => hbe), (fun h => by cases h), H.d6, H.d7, H.d8, H.d9, (fun h => by cases h), (fun h => by cases h), H.t5, H.t6, H.h0, H.h1, H.h2, (fun _ => rfl), H.h4, H.h5, (fun h => by cases h), (fun h => by cases h), (fun h => by cases h), H.h9, (fun h => by cases h), H.h11⟩⟩
    · have ho := hoj
      simp only [List.getElem?_toArray, List.getElem?_cons_succ, List.getElem?_cons_zero, Option.some.injEq] at hoj
      subst hoj
      obtain rfl : eb4 = false := hun
      clear hall
      obtain rfl : eb5 = false := Bool.eq_false_iff.2 fun h => Bool.false_ne_true (H.d5 h).2.2
      obtain rfl : eb6 = false := Bool.eq_false_iff.2 fun h => Bool.false_ne_true (H.d6 h).2.2
      obtain rfl : eb7 = false := Bool.eq_false_iff.2 fun h => Bool.false_ne_true (H.d7 h)
      obtain rfl : eb8 = false := Bool.eq_false_iff.2 fun h => Bool.false_ne_true (H.d8 h)
      obtain rfl : eb9 = false := Bool.eq_false_iff.2 fun h => Bool.false_ne_true (H.d9 h)
      obtain rfl : eb10 = false := Bool.eq_false_iff.2 fun h => Bool.false_ne_true (H.d10 h).2.2.2.2.1
      obtain rfl : eb11 = false := Bool.eq_false_iff.2 fun h => Bool.false_ne_true (H.d11 h).2.2.2.2.1
      have hbe := H.be rfl
      have hx_t5 := H.t5
      have hx_t6 := H.t6
      refine wpOp_step ho (fun K' hK => ?_)
      have HK := Lib.hid hK
      clear hK ho
      go_simp
      exact HK.out _ _ ⟨_, _, _, _, _, _, _, _, _, _, _, _, _, _, _, _, _, _, _, _, _, _, ex10, _, rfl, rfl, ⟨(fun _ => hbe), (fun h => by cases h), H.d6, H.d7, H.d8, H.d9, (fun h => by cases h), (fun h => by cases h), H.t5, H.t6, H.h0, H.h1, H.h2, H.h3, (fun _ => rfl), H.h5, (fun h => by cases h), (fun h => by cases h), (fun h => by cases h), H.h9, (fun h => by cases h), H.h11⟩⟩
    · have ho := hoj
      simp only [List.getElem?_toArray, List.getElem?_cons_succ, List.getElem?_cons_zero, Option.some.injEq] at hoj
      subst hoj
      obtain rfl : eb5 = false := hun
      obtain rfl : eb2 = true := hall ⟨2, .data⟩ (by simp) (by kernel_rfl)
      obtain rfl : eb3 = true := hall ⟨3, .data⟩ (by simp) (by kernel_rfl)
      obtain rfl : eb4 = true := hall ⟨4, .data⟩ (by simp) (by kernel_rfl)
      clear hall
      obtain rfl : eb6 = false := Bool.eq_false_iff.2 fun h => Bool.false_ne_true (H.d6 h).2.2
      obtain rfl : eb7 = false := Bool.eq_false_iff.2 fun h => Bool.false_ne_true (H.d7 h)
      obtain rfl : eb8 = false := Bool.eq_false_iff.2 fun h => Bool.false_ne_true (H.d8 h)
      obtain rfl : eb9 = false := Bool.eq_false_iff.2 fun h => Bool.false_ne_true (H.d9 h)
      obtain rfl : eb10 = false := Bool.eq_false_iff.2 fun h => Bool.false_ne_true (H.d10 h).2.2.2.2.2.1
      obtain rfl : eb11 = false := Bool.eq_false_iff.2 fun h => Bool.false_ne_true (H.d11 h).2.2.2.2.2.1
      have hbe := H.be rfl
      have hx_t5 := H.t5
      have hx_t6 := H.t6
      obtain rfl := H.h2 rfl
      obtain rfl := H.h3 rfl
      obtain rfl := H.h4 rfl
      refine wpOp_step ho (fun K' hK => ?_)
      have HK := Lib.hid hK
      clear hK ho
      go_simp
      exact HK.out _ _ ⟨_, _, _, _, _, _, _, _, _, _, _, _, _, _, _, _, _, _, _, _, _, _, ex10, _, rfl, rfl, ⟨(fun _ => hbe), (fun _ => ⟨rfl, rfl, rfl⟩), (fun h => by cases h), H.d7, H.d8, H.d9, (fun h => by cases h), (fun h => by cases h), H.t5, H.t6, H.h0, H.h1, H.h2, H.h3, H.h4, (fun _ => rfl), (fun h => by cases h), (fun h => by cases h), (fun h => by cases h), H.h9, (fun h => by cases h), H.h11⟩⟩
    · have ho := hoj
      simp only [List.getElem?_toArray, List.getElem?_cons_succ, List.getElem?_cons_zero, Option.some.injEq] at hoj
      subst hoj
      obtain rfl : eb6 = false := hun
      obtain rfl : eb0 = true := hall ⟨0, .data⟩ (by simp) (by kernel_rfl)
      obtain rfl : eb1 = true := hall ⟨1, .data⟩ (by simp) (by kernel_rfl)
      obtain rfl : eb5 = true := hall ⟨5, .data⟩ (by simp) (by kernel_rfl)
      obtain rfl : eb2 = true := (H.d5 rfl).1
      obtain rfl : eb3 = true := (H.d5 rfl).2.1
      obtain rfl : eb4 = true := (H.d5 rfl).2.2
      clear hall
      obtain rfl : eb7 = false := Bool.eq_false_iff.2 fun h => Bool.false_ne_true (H.d7 h)
      obtain rfl : eb8 = false := Bool.eq_false_iff.2 fun h => Bool.false_ne_true (H.d8 h)
      obtain rfl : eb9 = false := Bool.eq_false_iff.2 fun h => Bool.false_ne_true (H.d9 h)
      obtain rfl : eb10 = false := Bool.eq_false_iff.2 fun h => Bool.false_ne_true (H.d10 h).2.2.2.2.2.2.1
      obtain rfl : eb11 = false := Bool.eq_false_iff.2 fun h => Bool.false_ne_true (H.d11 h).2.2.2.2.2.2.1
      have hbe := H.be rfl
      have hx_t5 := H.t5
      have hx_t6 := H.t6
      obtain rfl := H.h0 rfl
      obtain rfl := H.h1 rfl
      obtain rfl := H.h2 rfl
      obtain rfl := H.h3 rfl
      obtain rfl := H.h4 rfl
      obtain rfl := H.h5 rfl
      refine wpOp_step ho (fun K' hK => ?_)
      have HK := Lib.hid hK
      clear hK ho
      go_wp2_with fail
      refine (HP1.out _ _ w ((VX.out.below hbe).val) (HXP.out _ (BVX.out.trans (hbe.mono (Nat.le_of_lt hVX))))).mono ?_
      rintro e w1 ⟨bb1, u1, rfl, hu1⟩
      have BC := Lib.hid bb1
      have UC := Lib.hid (hu1.toS.anti (S' := fun j => j < X.heap.size) (fun j hj => Nat.lt_of_lt_of_le hj hbe.size))
      clear bb1 hu1
      go_wp2_with fail
      exact HK.out _ _ ⟨_, _, _, _, _, _, _, _, _, _, _, _, _, _, _, _, _, _, _, _, _, _, ex10, _, rfl, rfl, ⟨(fun _ => hbe.trans (BC.out.mono hbe.size)), H.d5, (fun _ => ⟨rfl, rfl, rfl⟩), (fun h => by cases h), H.d8, H.d9, (fun h => by cases h), (fun h => by cases h), fun _ => ⟨_, rfl⟩, hx_t6, H.h0, H.h1, H.h2, H.h3, H.h4, H.h5, (fun _ _ => ⟨_, rfl, UC.out⟩), (fun h => by cases h), (fun h => by cases h), H.h9, (fun h => by cases h), H.h11⟩⟩
    · have ho := hoj
      simp only [List.getElem?_toArray, List.getElem?_cons_succ, List.getElem?_cons_zero, Option.some.injEq] at hoj
      subst hoj
      obtain rfl : eb7 = false := hun
      obtain rfl : eb6 = true := hall ⟨6, .data⟩ (by simp) (by kernel_rfl)
      obtain rfl : eb0 = true := (H.d6 rfl).1
      obtain rfl : eb1 = true := (H.d6 rfl).2.1
      obtain rfl : eb5 = true := (H.d6 rfl).2.2
      obtain rfl : eb2 = true := (H.d5 rfl).1
      obtain rfl : eb3 = true := (H.d5 rfl).2.1
      obtain rfl : eb4 = true := (H.d5 rfl).2.2
      clear hall
      obtain rfl : eb8 = false := Bool.eq_false_iff.2 fun h => Bool.false_ne_true (H.d8 h)
      obtain rfl : eb9 = false := Bool.eq_false_iff.2 fun h => Bool.false_ne_true (H.d9 h)
      obtain rfl : eb10 = false := Bool.eq_false_iff.2 fun h => Bool.false_ne_true (H.d10 h).2.2.2.2.2.2.2.1
      obtain rfl : eb11 = false := Bool.eq_false_iff.2 fun h => Bool.false_ne_true (H.d11 h).2.2.2.2.2.2.2.1
      have hbe := H.be rfl
      have hx_t5 := H.t5
      have hx_t6 := H.t6
      obtain rfl := H.h0 rfl
      obtain rfl := H.h1 rfl
      obtain rfl := H.h2 rfl
      obtain rfl := H.h3 rfl
      obtain rfl := H.h4 rfl
      obtain rfl := H.h5 rfl
      have P6 := H.h6 rfl rfl
      have PT := Lib.hid P6
      have TT := Lib.hid (H.t5 rfl)
      clear P6
      refine wpOp_step ho (fun K' hK => ?_)
      have HK := Lib.hid hK
      clear hK ho
      go_simp
      exact HK.out _ _ ⟨_, _, _, _, _, _, _, _, _, _, _, _, _, _, _, _, _, _, _, _, _, _, ex10, _, rfl, rfl, ⟨(fun _ => hbe), H.d5, H.d6, (fun _ => rfl), (fun h => by cases h), (fun h => by cases h), (fun h => by cases h), (fun h => by cases h), H.t5, fun _ => TT.out, H.h0, H.h1, H.h2, H.h3, H.h4, H.h5, H.h6, (fun _ _ => PT.out), (fun h => by cases h), H.h9, (fun h => by cases h), H.h11⟩⟩
    · have ho := hoj
      simp only [List.getElem?_toArray, List.getElem?_cons_succ, List.getElem?_cons_zero, Option.some.injEq] at hoj
      subst hoj
      obtain rfl : eb8 = false := hun
      obtain rfl : eb7 = true := hall ⟨7, .data⟩ (by simp) (by kernel_rfl)
      obtain rfl : eb6 = true := (H.d7 rfl)
      obtain rfl : eb0 = true := (H.d6 rfl).1
      obtain rfl : eb1 = true := (H.d6 rfl).2.1
      obtain rfl : eb5 = true := (H.d6 rfl).2.2
      obtain rfl : eb2 = true := (H.d5 rfl).1
      obtain rfl : eb3 = true := (H.d5 rfl).2.1
      obtain rfl : eb4 = true := (H.d5 rfl).2.2
      clear hall
      obtain rfl : eb10 = false := Bool.eq_false_iff.2 fun h => Bool.false_ne_true (H.d10 h).2.2.2.2.2.2.2.2
      obtain rfl : eb11 = false := Bool.eq_false_iff.2 fun h => Bool.false_ne_true (H.d11 h).2.2.2.2.2.2.2.2.1
      have hbe := H.be rfl
      have hx_t5 := H.t5
      have hx_t6 := H.t6
      obtain rfl := H.h0 rfl
      obtain rfl := H.h1 rfl
      obtain rfl := H.h2 rfl
      obtain rfl := H.h3 rfl
      obtain rfl := H.h4 rfl
      obtain rfl := H.h5 rfl
      have P6 := H.h6 rfl rfl
      have P7 := H.h7 rfl rfl
      obtain ⟨u, rfl, hu⟩ := P7
      have HU := Lib.hid hu
      clear hu
      refine wpOp_step ho (fun K' hK => ?_)
      have HK := Lib.hid hK
      clear hK ho
      go_simp
      exact HK.out _ _ ⟨_, _, _, _, _, _, _, _, _, _, _, _, _, _, _, _, _, _, _, _, _, _, ex10, _, rfl, rfl, ⟨(fun _ => hbe), H.d5, H.d6, H.d7, (fun _ => rfl), H.d9, (fun h => by cases h), (fun h => by cases h), H.t5, H.t6, H.h0, H.h1, H.h2, H.h3, H.h4, H.h5, H.h6, H.h7, (fun _ _ => HU.out), H.h9, (fun h => by cases h), H.h11⟩⟩
    · have ho := hoj
      simp only [List.getElem?_toArray, List.getElem?_cons_succ, List.getElem?_cons_zero, Option.some.injEq] at hoj
      subst hoj
      obtain rfl : eb9 = false := hun
      obtain rfl : eb7 = true := hall ⟨7, .data⟩ (by simp) (by kernel_rfl)
      obtain rfl : eb6 = true := (H.d7 rfl)
      obtain rfl : eb0 = true := (H.d6 rfl).1
      obtain rfl : eb1 = true := (H.d6 rfl).2.1
      obtain rfl : eb5 = true := (H.d6 rfl).2.2
      obtain rfl : eb2 = true := (H.d5 rfl).1
      obtain rfl : eb3 = true := (H.d5 rfl).2.1
      obtain rfl : eb4 = true := (H.d5 rfl).2.2
      clear hall
      obtain rfl : eb11 = false := Bool.eq_false_iff.2 fun h => Bool.false_ne_true (H.d11 h).2.2.2.2.2.2.2.2.2.1
      have hx_t5 := H.t5
      have hx_t6 := H.t6
      obtain rfl := H.h0 rfl
      obtain rfl := H.h1 rfl
      obtain rfl := H.h2 rfl
      obtain rfl := H.h3 rfl
      obtain rfl := H.h4 rfl
      obtain rfl := H.h5 rfl
      obtain ⟨u, rfl⟩ := H.t6 rfl
      refine wpOp_step ho (fun K' hK => ?_)
      have HK := Lib.hid hK
      clear hK ho
      go_simp
      exact HK.out _ _ ⟨_, _, _, _, _, _, _, _, _, _, _, _, _, _, _, _, _, _, _, _, _, _, ex10, _, rfl, rfl, ⟨H.be, H.d5, H.d6, H.d7, H.d8, (fun _ => rfl), H.d10, (fun h => by cases h), H.t5, H.t6, H.h0, H.h1, H.h2, H.h3, H.h4, H.h5, H.h6, H.h7, H.h8, (fun _ => rfl), H.h10, H.h11⟩⟩
    · have ho := hoj
      simp only [List.getElem?_toArray, List.getElem?_cons_succ, List.getElem?_cons_zero, Option.some.injEq] at hoj
      subst hoj
      obtain rfl : eb10 = false := hun
      obtain rfl : eb0 = true := hall ⟨0, .phase⟩ (by simp) (by kernel_rfl)
      obtain rfl : eb1 = true := hall ⟨1, .phase⟩ (by simp) (by kernel_rfl)
      obtain rfl : eb2 = true := hall ⟨2, .phase⟩ (by simp) (by kernel_rfl)
      obtain rfl : eb3 = true := hall ⟨3, .phase⟩ (by simp) (by kernel_rfl)
      obtain rfl : eb4 = true := hall ⟨4, .phase⟩ (by simp) (by kernel_rfl)
      obtain rfl : eb5 = true := hall ⟨5, .phase⟩ (by simp) (by kernel_rfl)
      obtain rfl : eb6 = true := hall ⟨6, .chain⟩ (by simp) (by kernel_rfl)
      obtain rfl : eb7 = true := hall ⟨7, .phase⟩ (by simp) (by kernel_rfl)
      obtain rfl : eb8 = true := hall ⟨8, .data⟩ (by simp) (by kernel_rfl)
      clear hall
      obtain rfl : eb11 = false := Bool.eq_false_iff.2 fun h => Bool.false_ne_true (H.d11 h).2.2.2.2.2.2.2.2.2.2
      have hbe := H.be rfl
      have hx_t5 := H.t5
      have hx_t6 := H.t6
      obtain rfl := H.h0 rfl
      obtain rfl := H.h1 rfl
      obtain rfl := H.h2 rfl
      obtain rfl := H.h3 rfl
      obtain rfl := H.h4 rfl
      obtain rfl := H.h5 rfl
      have P6 := H.h6 rfl rfl
      have P7 := H.h7 rfl rfl
      have P8 := H.h8 rfl rfl
      obtain ⟨A1, n1, c1, rfl, hpf⟩ := P8.ex
      have VB := Lib.hid ((hbe.block _ hVX).trans VX.out.blk)
      obtain ⟨gp1, gp2⟩ := GW.put (b := V) VB.out hpf hVX
      have GP := Lib.hid gp1
      have BV := Lib.hid (gr_from (B := V) (hbe.mono (Nat.le_of_lt hVX)) (by have := hbe.size; omega) (Nat.le_refl _) gp2)
      obtain ⟨q0, q1, q2, q3⟩ := bkG VB.out
      have qf := fun i => bk_frz VB.out i
      clear hpf gp1 gp2
      refine wpOp_step ho (fun K' hK => ?_)
      have HK := Lib.hid hK
      clear hK ho
      go_simp
      exact HK.out _ _ ⟨_, _, _, _, _, _, _, _, _, _, _, _, _, _, _, _, _, _, _, _, _, _, ex10, _, rfl, rfl, ⟨(fun h => by cases h), H.d5, H.d6, H.d7, H.d8, H.d9, (fun _ => ⟨rfl, rfl, rfl, rfl, rfl, rfl, rfl, rfl, rfl⟩), (fun h => by cases h), H.t5, H.t6, H.h0, H.h1, H.h2, H.h3, H.h4, H.h5, (fun _ h => by cases h), (fun _ h => by cases h), (fun _ h => by cases h), H.h9, (fun _ => ⟨_, _, _, GP.out, BV.out⟩), H.h11⟩⟩
    · have ho := hoj
      simp only [List.getElem?_toArray, List.getElem?_cons_succ, List.getElem?_cons_zero, Option.some.injEq] at hoj
      subst hoj
      obtain rfl : eb11 = false := hun
      obtain rfl : eb0 = true := hall ⟨0, .phase⟩ (by simp) (by kernel_rfl)
      obtain rfl : eb1 = true := hall ⟨1, .phase⟩ (by simp) (by kernel_rfl)
      obtain rfl : eb2 = true := hall ⟨2, .phase⟩ (by simp) (by kernel_rfl)
      obtain rfl : eb3 = true := hall ⟨3, .phase⟩ (by simp) (by kernel_rfl)
      obtain rfl : eb4 = true := hall ⟨4, .phase⟩ (by simp) (by kernel_rfl)
      obtain rfl : eb5 = true := hall ⟨5, .phase⟩ (by simp) (by kernel_rfl)
      obtain rfl : eb6 = true := hall ⟨6, .phase⟩ (by simp) (by kernel_rfl)
      obtain rfl : eb7 = true := hall ⟨7, .phase⟩ (by simp) (by kernel_rfl)
      obtain rfl : eb8 = true := hall ⟨8, .phase⟩ (by simp) (by kernel_rfl)
      obtain rfl : eb9 = true := hall ⟨9, .data⟩ (by simp) (by kernel_rfl)
      obtain rfl : eb10 = true := hall ⟨10, .chain⟩ (by simp) (by kernel_rfl)
      clear hall
      have hx_t5 := H.t5
      have hx_t6 := H.t6
      obtain rfl := H.h0 rfl
      obtain rfl := H.h1 rfl
      obtain rfl := H.h2 rfl
      obtain rfl := H.h3 rfl
      obtain rfl := H.h4 rfl
      obtain rfl := H.h5 rfl
      obtain rfl := H.h9 rfl
      have P10 := H.h10 rfl
      refine wpOp_step ho (fun K' hK => ?_)
      have HK := Lib.hid hK
      clear hK ho
      go_simp
      exact HK.out _ _ ⟨_, _, _, _, _, _, _, _, _, _, _, _, _, _, _, _, _, _, _, _, _, _, ex10, _, rfl, rfl, ⟨(fun h => by cases h), H.d5, H.d6, H.d7, H.d8, H.d9, H.d10, (fun _ => ⟨rfl, rfl, rfl, rfl, rfl, rfl, rfl, rfl, rfl, rfl, rfl⟩), H.t5, H.t6, H.h0, H.h1, H.h2, H.h3, H.h4, H.h5, (fun _ h => by cases h), (fun _ h => by cases h), (fun _ h => by cases h), H.h9, H.h10, (fun _ => rfl)⟩⟩
    · have ho := hoj
      simp at ho
  case hfin =>
    rintro listed a w ⟨eb0, eb1, eb2, eb3, eb4, eb5, eb6, eb7, eb8, eb9, eb10, eb11, ex0, ex1, ex2, ex3, ex4, ex5, ex6, ex7, ex8, ex9, ex10, ex11, rfl, rfl, H⟩ hr
    have hb : eb11 = true := by
      clear H
      revert eb0 eb1 eb2 eb3 eb4 eb5 eb6 eb7 eb8 eb9 eb10 eb11
      decide +kernel
    subst hb
    clear hr
    obtain rfl : eb0 = true := (H.d11 rfl).1
    obtain rfl : eb1 = true := (H.d11 rfl).2.1
    obtain rfl : eb2 = true := (H.d11 rfl).2.2.1
    obtain rfl : eb3 = true := (H.d11 rfl).2.2.2.1
    obtain rfl : eb4 = true := (H.d11 rfl).2.2.2.2.1
    obtain rfl : eb5 = true := (H.d11 rfl).2.2.2.2.2.1
    obtain rfl : eb6 = true := (H.d11 rfl).2.2.2.2.2.2.1
    obtain rfl : eb7 = true := (H.d11 rfl).2.2.2.2.2.2.2.1
    obtain rfl : eb8 = true := (H.d11 rfl).2.2.2.2.2.2.2.2.1
    obtain rfl : eb9 = true := (H.d11 rfl).2.2.2.2.2.2.2.2.2.1
    obtain rfl : eb10 = true := (H.d11 rfl).2.2.2.2.2.2.2.2.2.2
    have he := H.h11 rfl
    obtain ⟨A1, n1, c1, hgw, hbv⟩ := H.h10 rfl
    subst he
    have GW1 := Lib.hid hgw
    have BV1 := Lib.hid hbv
    clear hgw hbv H
    have BVX1 := Lib.hid (BVX.out.trans BV1.out)
    obtain ⟨X1, hX1⟩ : ∃ Y, Y = w := ⟨_, rfl⟩
    subst hX1
    have hVX1 := lt_of_block GW1.out.blk
    clear VX BVX BV1 hVX
    go_wp2_with fail
    refine wp_region_inv (fun listed a w => ∃ (fb0 fb1 fb2 fb3 fb4 fb5 fb6 fb7 fb8 fb9 fb10 : Bool) (fx0 fx1 fx2 fx3 fx4 fx5 fx6 fx7 fx8 fx9 fx10 : Value), listed = #[fb0, fb1, fb2, fb3, fb4, fb5, fb6, fb7, fb8, fb9, fb10] ∧ a = { tmps := #[Value.string a0, Value.string a1, Value.int IntKind.i64 a2, Value.int IntKind.i64 a3, Value.int IntKind.i64 a4, undef, undef, undef, undef, undef, Value.bool false, Value.slice (some { block := xb, off := xo }) 40 xc, Value.slice (some { block := yb, off := yo }) 40 yc, Value.pointer (some { block := V, off := 0 }), Value.int IntKind.i64 0, Value.int IntKind.i64 ↑iN, Value.int IntKind.i64 ↑jN, Value.int IntKind.i64 ↑kN, Value.int IntKind.i64 0, fx10, undef, undef, undef, undef, undef, undef, undef, Value.string a0, Value.slice (some { block := xb, off := xo }) 40 xc, Value.string a1, Value.slice (some { block := yb, off := yo }) 40 yc, Value.tuple #[Value.agg #[Value.int IntKind.i64 0, Value.slice A n c, Value.int IntKind.i64 (-1), Value.int IntKind.i64 60], Value.int IntKind.i64 0], Value.tuple #[Value.agg #[Value.int IntKind.i64 0, Value.slice A n c, Value.int IntKind.i64 (-1), Value.int IntKind.i64 60], Value.int IntKind.i64 0], Value.agg #[Value.int IntKind.i64 0, Value.slice A n c, Value.int IntKind.i64 (-1), Value.int IntKind.i64 60], Value.int IntKind.i64 0, Value.int IntKind.i64 a2, Value.int IntKind.i64 ↑iN, Value.int IntKind.i64 ↑iN, Value.int IntKind.i64 (↑iN + 1), Value.int IntKind.i64 a3, Value.int IntKind.i64 ↑jd, Value.int IntKind.i64 ↑jN, Value.int IntKind.i64 a4, Value.int IntKind.i64 ↑kN, ex7, ex0, ex1, ex2, ex3, ex4, ex5, ex6, ex8, ex9, fx6, fx0, fx1, fx2, fx3, fx4, fx5, fx7, fx8, undef, undef, undef, undef, undef, undef, undef, undef, undef, undef, undef, undef, undef, undef, undef, undef, undef, undef, undef, undef, undef, undef, undef, undef, undef, undef, undef, undef, undef, undef, undef, undef, undef, undef, undef, undef, undef, undef, undef, undef, undef, undef, undef, undef, undef, undef, undef, undef, undef, undef, undef, undef, undef, undef, undef, undef, undef, undef, undef, undef, undef, undef, undef, undef, undef, undef, undef, undef, undef, undef, undef, undef, undef, undef, undef, undef, undef, undef, undef, undef], defers := [] } ∧ Fst7 X1 V kN ps2 A1 n1 c1 yb yo yc (.agg #[.int .i64 0, .slice A1 n1 c1, .int .i64 (-1), .int .i64 60]) (.int .i64 (kN : Int)) (.slice (some ⟨yb, yo, none⟩) 40 yc) (.int .i64 (kN : Int)) (.slice (some ⟨yb, yo + kN, none⟩) (40 - kN) (yc - kN)) (.int .i64 0) (.int .i64 0) fb0 fb1 fb2 fb3 fb4 fb5 fb6 fb7 fb8 fb9 fb10 fx0 fx1 fx2 fx3 fx4 fx5 fx6 fx7 fx8 fx9 fx10 w) (by kernel_rfl) ?h0 ?hfin ?hI
    case h0 => exact ⟨_, _, _, _, _, _, _, _, _, _, _, _, _, _, _, _, _, _, _, _, undef, _, rfl, rfl, ⟨(fun _ => (Below.refl _ _).drew), (fun h => by cases h), (fun h => by cases h), (fun h => by cases h), (fun h => by cases h), (fun h => by cases h), (fun h => by cases h), (fun h => by cases h), (fun h => by cases h), (fun h => by cases h), (fun h => by cases h), (fun h => by cases h), (fun h => by cases h), (fun h => by cases h), (fun h => by cases h), (fun h => by cases h), (fun h => by cases h), (fun h => by cases h), (fun h => by cases h), (fun h => by cases h), (fun h => by cases h)⟩⟩
    case hI =>
      rintro listed a w ⟨fb0, fb1, fb2, fb3, fb4, fb5, fb6, fb7, fb8, fb9, fb10, fx0, fx1, fx2, fx3, fx4, fx5, fx6, fx7, fx8, fx9, fx10, rfl, rfl, H⟩ i hi
      obtain ⟨hun, oj, hoj, hall⟩ := mem_ready.1 hi
      clear hi
      rcases i with _ | _ | _ | _ | _ | _ | _ | _ | _ | _ | _ | i
      · have ho := hoj
        simp only [List.getElem?_toArray, List.getElem?_cons_succ, List.getElem?_cons_zero, Option.some.injEq] at hoj
        subst hoj
        obtain rfl : fb0 = false := hun
        clear hall
        obtain rfl : fb5 = false := Bool.eq_false_iff.2 fun h => Bool.false_ne_true (H.d5 h).1
        obtain rfl : fb6 = false := Bool.eq_false_iff.2 fun h => Bool.false_ne_true (H.d6 h)
        obtain rfl : fb7 = false := Bool.eq_false_iff.2 fun h => Bool.false_ne_true (H.d7 h)
        obtain rfl : fb8 = false := Bool.eq_false_iff.2 fun h => Bool.false_ne_true (H.d8 h)
        obtain rfl : fb9 = false := Bool.eq_false_iff.2 fun h => Bool.false_ne_true (H.d9 h).1
        obtain rfl : fb10 = false := Bool.eq_false_iff.2 fun h => Bool.false_ne_true (H.d10 h).1
        have hbe := H.be rfl
        have hx_t5 := H.t5
        have hx_t6 := H.t6
        obtain ⟨q0, q1, q2, q3⟩ := bkG ((hbe.block _ hVX1).trans GW1.out.blk)
        refine wpOp_step ho (fun K' hK => ?_)
        have HK := Lib.hid hK
        clear hK ho
        go_simp
        exact HK.out _ _ ⟨_, _, _, _, _, _, _, _, _, _, _, _, _, _, _, _, _, _, _, _, fx9, _, rfl, rfl, ⟨(fun _ => hbe), H.d4, (fun h => by cases h), H.d6, H.d7, H.d8, (fun h => by cases h), (fun h => by cases h), H.t5, H.t6, (fun _ => rfl), H.h1, H.h2, H.h3, H.h4, (fun h => by cases h), (fun h => by cases h), (fun h => by cases h), H.h8, (fun h => by cases h), H.h10⟩⟩
      · have ho := hoj
        simp only [List.getElem?_toArray, List.getElem?_cons_succ, List.getElem?_cons_zero, Option.some.injEq] at hoj
        subst hoj
        obtain rfl : fb1 = false := hun
        clear hall
        obtain rfl : fb5 = false := Bool.eq_false_iff.2 fun h => Bool.false_ne_true (H.d5 h).2.1
        obtain rfl : fb6 = false := Bool.eq_false_iff.2 fun h => Bool.false_ne_true (H.d6 h)
        obtain rfl : fb7 = false := Bool.eq_false_iff.2 fun h => Bool.false_ne_true (H.d7 h)
        obtain rfl : fb8 = false := Bool.eq_false_iff.2 fun h => Bool.false_ne_true (H.d8 h)
        obtain rfl : fb9 = false := Bool.eq_false_iff.2 fun h => Bool.false_ne_true (H.d9 h).2.1
        obtain rfl : fb10 = false := Bool.eq_false_iff.2 fun h => Bool.false_ne_true (H.d10 h).2.1
        have hbe := H.be rfl
        have hx_t5 := H.t5
        have hx_t6 := H.t6
        refine wpOp_step ho (fun K' hK => ?_)
        have HK := Lib.hid hK
        clear hK ho
        go_simp
        exact HK.out _ _ ⟨_, _, _, _, _, _, _, _, _, _, _, _, _, _, _, _, _, _, _, _, fx9, _, rfl, rfl, ⟨(fun _ => hbe), H.d4, (fun h => by cases h), H.d6, H.d7, H.d8, (fun h => by cases h), (fun h => by cases h), H.t5, H.t6, H.h0, (fun _ => rfl), H.h2, H.h3, H.h4, (fun h => by cases h), (fun h => by cases h), (fun h => by cases h), H.h8, (fun h => by cases h), H.h10⟩⟩
      · have ho := hoj
        simp only [List.getElem?_toArray, List.getElem?_cons_succ, List.getElem?_cons_zero, Option.some.injEq] at hoj
        subst hoj
        obtain rfl : fb2 = false := hun
        clear hall
        obtain rfl : fb4 = false := Bool.eq_false_iff.2 fun h => Bool.false_ne_true (H.d4 h).1
        obtain rfl : fb5 = false := Bool.eq_false_iff.2 fun h => Bool.false_ne_true (H.d5 h).2.2
        obtain rfl : fb6 = false := Bool.eq_false_iff.2 fun h => Bool.false_ne_true (H.d6 h)
        obtain rfl : fb7 = false := Bool.eq_false_iff.2 fun h => Bool.false_ne_true (H.d7 h)
        obtain rfl : fb8 = false := Bool.eq_false_iff.2 fun h => Bool.false_ne_true (H.d8 h)
        obtain rfl : fb9 = false := Bool.eq_false_iff.2 fun h => Bool.false_ne_true (H.d9 h).2.2.1
        obtain rfl : fb10 = false := Bool.eq_false_iff.2 fun h => Bool.false_ne_true (H.d10 h).2.2.1
        have hbe := H.be rfl
        have hx_t5 := H.t5
        have hx_t6 := H.t6
        refine wpOp_step ho (fun K' hK => ?_)
        have HK := Lib.hid hK
        clear hK ho
        go_simp
        exact HK.out _ _ ⟨_, _, _, _, _, _, _, _, _, _, _, _, _, _, _, _, _, _, _, _, fx9, _, rfl, rfl, ⟨(fun _ => hbe), (fun h => by cases h), H.d5, H.d6, H.d7, H.d8, (fun h => by cases h), (fun h => by cases h), H.t5, H.t6, H.h0, H.h1, (fun _ => rfl), H.h3, H.h4, (fun h => by cases h), (fun h => by cases h), (fun h => by cases h), H.h8, (fun h => by cases h), H.h10⟩⟩
      · have ho := hoj
        simp only [List.getElem?_toArray, List.getElem?_cons_succ, List.getElem?_cons_zero, Option.some.injEq] at hoj
        subst hoj
        obtain rfl : fb3 = false := hun
        clear hall
        obtain rfl : fb4 = false := Bool.eq_false_iff.2 fun h => Bool.false_ne_true (H.d4 h).2
        obtain rfl : fb5 = false := Bool.eq_false_iff.2 fun h => Bool.false_ne_true (H.d5 h).2.2
        obtain rfl : fb6 = false := Bool.eq_false_iff.2 fun h => Bool.false_ne_true (H.d6 h)
        obtain rfl : fb7 = false := Bool.eq_false_iff.2 fun h => Bool.false_ne_true (H.d7 h)
        obtain rfl : fb8 = false := Bool.eq_false_iff.2 fun h => Bool.false_ne_true (H.d8 h)
        obtain rfl : fb9 = false := Bool.eq_false_iff.2 fun h => Bool.false_ne_true (H.d9 h).2.2.2.1
        obtain rfl : fb10 = false := Bool.eq_false_iff.2 fun h => Bool.false_ne_true (H.d10 h).2.2.2.1
        have hbe := H.be rfl
        have hx_t5 := H.t5
        have hx_t6 := H.t6
        refine wpOp_step ho (fun K' hK => ?_)
        have HK := Lib.hid hK
        clear hK ho
        go_simp
        exact HK.out _ _ ⟨_, _, _, _, _, _, _, _, _, _, _, _, _, _, _, _, _, _, _, _, fx9, _, rfl, rfl, ⟨(fun _ => hbe), (fun h => by cases h), H.d5, H.d6, H.d7, H.d8, (fun h => by cases h), (fun h => by cases h), H.t5, H.t6, H.h0, H.h1, H.h2, (fun _ => rfl), H.h4, (fun h => by cases h), (fun h => by cases h), (fun h => by cases h), H.h8, (fun h => by cases h), H.h10⟩⟩
      · have ho := hoj
        simp only [List.getElem?_toArray, List.getElem?_cons_succ, List.getElem?_cons_zero, Option.some.injEq] at hoj
        subst hoj
        obtain rfl : fb4 = false := hun
        obtain rfl : fb2 = true := hall ⟨2, .data⟩ (by simp) (by kernel_rfl)
        obtain rfl : fb3 = true := hall ⟨3, .data⟩ (by simp) (by kernel_rfl)
        clear hall
        obtain rfl : fb5 = false := Bool.eq_false_iff.2 fun h => Bool.false_ne_true (H.d5 h).2.2
        obtain rfl : fb6 = false := Bool.eq_false_iff.2 fun h => Bool.false_ne_true (H.d6 h)
        obtain rfl : fb7 = false := Bool.eq_false_iff.2 fun h => Bool.false_ne_true (H.d7 h)
        obtain rfl : fb8 = false := Bool.eq_false_iff.2 fun h => Bool.false_ne_true (H.d8 h)
        obtain rfl : fb9 = false := Bool.eq_false_iff.2 fun h => Bool.false_ne_true (H.d9 h).2.2.2.2.1
        obtain rfl : fb10 = false := Bool.eq_false_iff.2 fun h => Bool.false_ne_true (H.d10 h).2.2.2.2.1
        have hbe := H.be rfl
        have hx_t5 := H.t5
        have hx_t6 := H.t6
        obtain rfl := H.h2 rfl
        obtain rfl := H.h3 rfl
        refine wpOp_step ho (fun K' hK => ?_)
        have HK := Lib.hid hK
        clear hK ho
        go_simp
        exact HK.out _ _ ⟨_, _, _, _, _, _, _, _, _, _, _, _, _, _, _, _, _, _, _, _, fx9, _, rfl, rfl, ⟨(fun _ => hbe), (fun _ => ⟨rfl, rfl⟩), (fun h => by cases h), H.d6, H.d7, H.d8, (fun h => by cases h), (fun h => by cases h), H.t5, H.t6, H.h0, H.h1, H.h2, H.h3, (fun _ => rfl), (fun h => by cases h), (fun h => by cases h), (fun h => by cases h), H.h8, (fun h => by cases h), H.h10⟩⟩
      · have ho := hoj
        simp only [List.getElem?_toArray, List.getElem?_cons_succ, List.getElem?_cons_zero, Option.some.injEq] at hoj
        subst hoj
        obtain rfl : fb5 = false := hun
        obtain rfl : fb0 = true := hall ⟨0, .data⟩ (by simp) (by kernel_rfl)
        obtain rfl : fb1 = true := hall ⟨1, .data⟩ (by simp) (by kernel_rfl)
        obtain rfl : fb4 = true := hall ⟨4, .data⟩ (by simp) (by kernel_rfl)
        obtain rfl : fb2 = true := (H.d4 rfl).1
        obtain rfl : fb3 = true := (H.d4 rfl).2
        clear hall
        obtain rfl : fb6 = false := Bool.eq_false_iff.2 fun h => Bool.false_ne_true (H.d6 h)
        obtain rfl : fb7 = false := Bool.eq_false_iff.2 fun h => Bool.false_ne_true (H.d7 h)
        obtain rfl : fb8 = false := Bool.eq_false_iff.2 fun h => Bool.false_ne_true (H.d8 h)
        obtain rfl : fb9 = false := Bool.eq_false_iff.2 fun h => Bool.false_ne_true (H.d9 h).2.2.2.2.2.1
        obtain rfl : fb10 = false := Bool.eq_false_iff.2 fun h => Bool.false_ne_true (H.d10 h).2.2.2.2.2.1
        have hbe := H.be rfl
        have hx_t5 := H.t5
        have hx_t6 := H.t6
        obtain rfl := H.h0 rfl
        obtain rfl := H.h1 rfl
        obtain rfl := H.h2 rfl
        obtain rfl := H.h3 rfl
        obtain rfl := H.h4 rfl
        refine wpOp_step ho (fun K' hK => ?_)
        have HK := Lib.hid hK
        clear hK ho
        go_wp2_with fail
        refine (HP2.out _ _ w ((GW1.out.below hbe).val) (HYP.out _ (BVX1.out.trans (hbe.mono (Nat.le_of_lt hVX1))))).mono ?_
        rintro e w1 ⟨bb1, u1, rfl, hu1⟩
        have BC := Lib.hid bb1
        have UC := Lib.hid (hu1.toS.anti (S' := fun j => j < X1.heap.size) (fun j hj => Nat.lt_of_lt_of_le hj hbe.size))
        clear bb1 hu1
        go_wp2_with fail
        exact HK.out _ _ ⟨_, _, _, _, _, _, _, _, _, _, _, _, _, _, _, _, _, _, _, _, fx9, _, rfl, rfl, ⟨(fun _ => hbe.trans (BC.out.mono hbe.size)), H.d4, (fun _ => ⟨rfl, rfl, rfl⟩), (fun h => by cases h), H.d7, H.d8, (fun h => by cases h), (fun h => by cases h), fun _ => ⟨_, rfl⟩, hx_t6, H.h0, H.h1, H.h2, H.h3, H.h4, (fun _ _ => ⟨_, rfl, UC.out⟩), (fun h => by cases h), (fun h => by cases h), H.h8, (fun h => by cases h), H.h10⟩⟩
      · have ho := hoj
        simp only [List.getElem?_toArray, List.getElem?_cons_succ, List.getElem?_cons_zero, Option.some.injEq] at hoj
        subst hoj
        obtain rfl : fb6 = false := hun
        obtain rfl : fb5 = true := hall ⟨5, .data⟩ (by simp) (by kernel_rfl)
        obtain rfl : fb0 = true := (H.d5 rfl).1
        obtain rfl : fb1 = true := (H.d5 rfl).2.1
        obtain rfl : fb4 = true := (H.d5 rfl).2.2
        obtain rfl : fb2 = true := (H.d4 rfl).1
        obtain rfl : fb3 = true := (H.d4 rfl).2
        clear hall
        obtain rfl : fb7 = false := Bool.eq_false_iff.2 fun h => Bool.false_ne_true (H.d7 h)
        obtain rfl : fb8 = false := Bool.eq_false_iff.2 fun h => Bool.false_ne_true (H.d8 h)
        obtain rfl : fb9 = false := Bool.eq_false_iff.2 fun h => Bool.false_ne_true (H.d9 h).2.2.2.2.2.2.1
        obtain rfl : fb10 = false := Bool.eq_false_iff.2 fun h => Bool.false_ne_true (H.d10 h).2.2.2.2.2.2.1
        have hbe := H.be rfl
        have hx_t5 := H.t5
        have hx_t6 := H.t6
        obtain rfl := H.h0 rfl
        obtain rfl := H.h1 rfl
        obtain rfl := H.h2 rfl
        obtain rfl := H.h3 rfl
        obtain rfl := H.h4 rfl
        have P5 := H.h5 rfl rfl
        have PT := Lib.hid P5
        have TT := Lib.hid (H.t5 rfl)
        clear P5
        refine wpOp_step ho (fun K' hK => ?_)
        have HK := Lib.hid hK
        clear hK ho
        go_simp
        exact HK.out _ _ ⟨_, _, _, _, _, _, _, _, _, _, _, _, _, _, _, _, _, _, _, _, fx9, _, rfl, rfl, ⟨(fun _ => hbe), H.d4, H.d5, (fun _ => rfl), (fun h => by cases h), (fun h => by cases h), (fun h => by cases h), (fun h => by cases h), H.t5, fun _ => TT.out, H.h0, H.h1, H.h2, H.h3, H.h4, H.h5, (fun _ _ => PT.out), (fun h => by cases h), H.h8, (fun h => by cases h), H.h10⟩⟩
      · have ho := hoj
        simp only [List.getElem?_toArray, List.getElem?_cons_succ, List.getElem?_cons_zero, Option.some.injEq] at hoj
        subst hoj
        obtain rfl : fb7 = false := hun
        obtain rfl : fb6 = true := hall ⟨6, .data⟩ (by simp) (by kernel_rfl)
        obtain rfl : fb5 = true := (H.d6 rfl)
        obtain rfl : fb0 = true := (H.d5 rfl).1
        obtain rfl : fb1 = true := (H.d5 rfl).2.1
        obtain rfl : fb4 = true := (H.d5 rfl).2.2
        obtain rfl : fb2 = true := (H.d4 rfl).1
        obtain rfl : fb3 = true := (H.d4 rfl).2
        clear hall
        obtain rfl : fb9 = false := Bool.eq_false_iff.2 fun h => Bool.false_ne_true (H.d9 h).2.2.2.2.2.2.2
        obtain rfl : fb10 = false := Bool.eq_false_iff.2 fun h => Bool.false_ne_true (H.d10 h).2.2.2.2.2.2.2.1
        have hbe := H.be rfl
        have hx_t5 := H.t5
        have hx_t6 := H.t6
        obtain rfl := H.h0 rfl
        obtain rfl := H.h1 rfl
        obtain rfl := H.h2 rfl
        obtain rfl := H.h3 rfl
        obtain rfl := H.h4 rfl
        have P5 := H.h5 rfl rfl
        have P6 := H.h6 rfl rfl
        obtain ⟨u, rfl, hu⟩ := P6
        have HU := Lib.hid hu
        clear hu
        refine wpOp_step ho (fun K' hK => ?_)
        have HK := Lib.hid hK
        clear hK ho
        go_simp
        exact HK.out _ _ ⟨_, _, _, _, _, _, _, _, _, _, _, _, _, _, _, _, _, _, _, _, fx9, _, rfl, rfl, ⟨(fun _ => hbe), H.d4, H.d5, H.d6, (fun _ => rfl), H.d8, (fun h => by cases h), (fun h => by cases h), H.t5, H.t6, H.h0, H.h1, H.h2, H.h3, H.h4, H.h5, H.h6, (fun _ _ => HU.out), H.h8, (fun h => by cases h), H.h10⟩⟩
      · have ho := hoj
        simp only [List.getElem?_toArray, List.getElem?_cons_succ, List.getElem?_cons_zero, Option.some.injEq] at hoj
        subst hoj
        obtain rfl : fb8 = false := hun
        obtain rfl : fb6 = true := hall ⟨6, .data⟩ (by simp) (by kernel_rfl)
        obtain rfl : fb5 = true := (H.d6 rfl)
        obtain rfl : fb0 = true := (H.d5 rfl).1
        obtain rfl : fb1 = true := (H.d5 rfl).2.1
        obtain rfl : fb4 = true := (H.d5 rfl).2.2
        obtain rfl : fb2 = true := (H.d4 rfl).1
        obtain rfl : fb3 = true := (H.d4 rfl).2
        clear hall
        obtain rfl : fb10 = false := Bool.eq_false_iff.2 fun h => Bool.false_ne_true (H.d10 h).2.2.2.2.2.2.2.2.1
        have hx_t5 := H.t5
        have hx_t6 := H.t6
        obtain rfl := H.h0 rfl
        obtain rfl := H.h1 rfl
        obtain rfl := H.h2 rfl
        obtain rfl := H.h3 rfl
        obtain rfl := H.h4 rfl
        obtain ⟨u, rfl⟩ := H.t6 rfl
        refine wpOp_step ho (fun K' hK => ?_)
        have HK := Lib.hid hK
        clear hK ho
        go_simp
        exact HK.out _ _ ⟨_, _, _, _, _, _, _, _, _, _, _, _, _, _, _, _, _, _, _, _, fx9, _, rfl, rfl, ⟨H.be, H.d4, H.d5, H.d6, H.d7, (fun _ => rfl), H.d9, (fun h => by cases h), H.t5, H.t6, H.h0, H.h1, H.h2, H.h3, H.h4, H.h5, H.h6, H.h7, (fun _ => rfl), H.h9, H.h10⟩⟩
      · have ho := hoj
        simp only [List.getElem?_toArray, List.getElem?_cons_succ, List.getElem?_cons_zero, Option.some.injEq] at hoj
        subst hoj
        obtain rfl : fb9 = false := hun
        obtain rfl : fb0 = true := hall ⟨0, .phase⟩ (by simp) (by kernel_rfl)
        obtain rfl : fb1 = true := hall ⟨1, .phase⟩ (by simp) (by kernel_rfl)
        obtain rfl : fb2 = true := hall ⟨2, .phase⟩ (by simp) (by kernel_rfl)
        obtain rfl : fb3 = true := hall ⟨3, .phase⟩ (by simp) (by kernel_rfl)
        obtain rfl : fb4 = true := hall ⟨4, .phase⟩ (by simp) (by kernel_rfl)
        obtain rfl : fb5 = true := hall ⟨5, .chain⟩ (by simp) (by kernel_rfl)
        obtain rfl : fb6 = true := hall ⟨6, .phase⟩ (by simp) (by kernel_rfl)
        obtain rfl : fb7 = true := hall ⟨7, .data⟩ (by simp) (by kernel_rfl)
        clear hall
        obtain rfl : fb10 = false := Bool.eq_false_iff.2 fun h => Bool.false_ne_true (H.d10 h).2.2.2.2.2.2.2.2.2
        have hbe := H.be rfl
        have hx_t5 := H.t5
        have hx_t6 := H.t6
        obtain rfl := H.h0 rfl
        obtain rfl := H.h1 rfl
        obtain rfl := H.h2 rfl
        obtain rfl := H.h3 rfl
        obtain rfl := H.h4 rfl
        have P5 := H.h5 rfl rfl
        have P6 := H.h6 rfl rfl
        have P7 := H.h7 rfl rfl
        obtain ⟨A1, n1, c1, rfl, hpf⟩ := P7.ex
        have VB := Lib.hid ((hbe.block _ hVX1).trans GW1.out.blk)
        obtain ⟨gp1, gp2⟩ := GW.put (b := V) VB.out hpf hVX1
        have GP := Lib.hid gp1
        have BV := Lib.hid (gr_from (B := V) (hbe.mono (Nat.le_of_lt hVX1)) (by have := hbe.size; omega) (Nat.le_refl _) gp2)
        obtain ⟨q0, q1, q2, q3⟩ := bkG VB.out
        have qf := fun i => bk_frz VB.out i
        clear hpf gp1 gp2
        refine wpOp_step ho (fun K' hK => ?_)
        have HK := Lib.hid hK
        clear hK ho
        go_simp
        exact HK.out _ _ ⟨_, _, _, _, _, _, _, _, _, _, _, _, _, _, _, _, _, _, _, _, fx9, _, rfl, rfl, ⟨(fun h => by cases h), H.d4, H.d5, H.d6, H.d7, H.d8, (fun _ => ⟨rfl, rfl, rfl, rfl, rfl, rfl, rfl, rfl⟩), (fun h => by cases h), H.t5, H.t6, H.h0, H.h1, H.h2, H.h3, H.h4, (fun _ h => by cases h), (fun _ h => by cases h), (fun _ h => by cases h), H.h8, (fun _ => ⟨_, _, _, GP.out, BV.out⟩), H.h10⟩⟩
      · have ho := hoj
        simp only [List.getElem?_toArray, List.getElem?_cons_succ, List.getElem?_cons_zero, Option.some.injEq] at hoj
        subst hoj
        obtain rfl : fb10 = false := hun
        obtain rfl : fb0 = true := hall ⟨0, .phase⟩ (by simp) (by kernel_rfl)
        obtain rfl : fb1 = true := hall ⟨1, .phase⟩ (by simp) (by kernel_rfl)
        obtain rfl : fb2 = true := hall ⟨2, .phase⟩ (by simp) (by kernel_rfl)
        obtain rfl : fb3 = true := hall ⟨3, .phase⟩ (by simp) (by kernel_rfl)
        obtain rfl : fb4 = true := hall ⟨4, .phase⟩ (by simp) (by kernel_rfl)
        obtain rfl : fb5 = true := hall ⟨5, .phase⟩ (by simp) (by kernel_rfl)
        obtain rfl : fb6 = true := hall ⟨6, .phase⟩ (by simp) (by kernel_rfl)
        obtain rfl : fb7 = true := hall ⟨7, .phase⟩ (by simp) (by kernel_rfl)
        obtain rfl : fb8 = true := hall ⟨8, .data⟩ (by simp) (by kernel_rfl)
        obtain rfl : fb9 = true := hall ⟨9, .chain⟩ (by simp) (by kernel_rfl)
        clear hall
        have hx_t5 := H.t5
        have hx_t6 := H.t6
        obtain rfl := H.h0 rfl
        obtain rfl := H.h1 rfl
        obtain rfl := H.h2 rfl
        obtain rfl := H.h3 rfl
        obtain rfl := H.h4 rfl
        obtain rfl := H.h8 rfl
        have P9 := H.h9 rfl
        refine wpOp_step ho (fun K' hK => ?_)
        have HK := Lib.hid hK
        clear hK ho
        go_simp
        exact HK.out _ _ ⟨_, _, _, _, _, _, _, _, _, _, _, _, _, _, _, _, _, _, _, _, fx9, _, rfl, rfl, ⟨(fun h => by cases h), H.d4, H.d5, H.d6, H.d7, H.d8, H.d9, (fun _ => ⟨rfl, rfl, rfl, rfl, rfl, rfl, rfl, rfl, rfl, rfl⟩), H.t5, H.t6, H.h0, H.h1, H.h2, H.h3, H.h4, (fun _ h => by cases h), (fun _ h => by cases h), (fun _ h => by cases h), H.h8, H.h9, (fun _ => rfl)⟩⟩
      · have ho := hoj
        simp at ho
    case hfin =>
      rintro listed a w ⟨fb0, fb1, fb2, fb3, fb4, fb5, fb6, fb7, fb8, fb9, fb10, fx0, fx1, fx2, fx3, fx4, fx5, fx6, fx7, fx8, fx9, fx10, rfl, rfl, H⟩ hr
      have hb : fb10 = true := by
        clear H
        revert fb0 fb1 fb2 fb3 fb4 fb5 fb6 fb7 fb8 fb9 fb10
        decide +kernel
      subst hb
      clear hr
      obtain rfl : fb0 = true := (H.d10 rfl).1
      obtain rfl : fb1 = true := (H.d10 rfl).2.1
      obtain rfl : fb2 = true := (H.d10 rfl).2.2.1
      obtain rfl : fb3 = true := (H.d10 rfl).2.2.2.1
      obtain rfl : fb4 = true := (H.d10 rfl).2.2.2.2.1
      obtain rfl : fb5 = true := (H.d10 rfl).2.2.2.2.2.1
      obtain rfl : fb6 = true := (H.d10 rfl).2.2.2.2.2.2.1
      obtain rfl : fb7 = true := (H.d10 rfl).2.2.2.2.2.2.2.1
      obtain rfl : fb8 = true := (H.d10 rfl).2.2.2.2.2.2.2.2.1
      obtain rfl : fb9 = true := (H.d10 rfl).2.2.2.2.2.2.2.2.2
      have he := H.h10 rfl
      obtain ⟨A2, n2, c2, hgw, hbv⟩ := H.h9 rfl
      subst he
      have GW2 := Lib.hid hgw
      have BV2 := Lib.hid hbv
      clear hgw hbv H
      have BVX2 := Lib.hid (BVX1.out.trans BV2.out)
      obtain ⟨X2, hX2⟩ : ∃ Y, Y = w := ⟨_, rfl⟩
      subst hX2
      have hVX2 := lt_of_block GW2.out.blk
      clear GW1 BVX1 BV2 hVX1
      go_wp2_with fail
      refine wp_region_inv (fun listed a w => ∃ (hb0 hb1 hb2 hb3 hb4 hb5 hb6 hb7 hb8 : Bool) (hx0 hx1 hx2 hx3 hx4 hx5 hx6 hx7 hx8 : Value), listed = #[hb0, hb1, hb2, hb3, hb4, hb5, hb6, hb7, hb8] ∧ a = { tmps := #[Value.string a0, Value.string a1, Value.int IntKind.i64 a2, Value.int IntKind.i64 a3, Value.int IntKind.i64 a4, undef, undef, undef, undef, undef, Value.bool false, Value.slice (some { block := xb, off := xo }) 40 xc, Value.slice (some { block := yb, off := yo }) 40 yc, Value.pointer (some { block := V, off := 0 }), Value.int IntKind.i64 0, Value.int IntKind.i64 ↑iN, Value.int IntKind.i64 ↑jN, Value.int IntKind.i64 ↑kN, Value.int IntKind.i64 0, Value.int IntKind.i64 0, hx8, undef, undef, undef, undef, undef, undef, Value.string a0, Value.slice (some { block := xb, off := xo }) 40 xc, Value.string a1, Value.slice (some { block := yb, off := yo }) 40 yc, Value.tuple #[Value.agg #[Value.int IntKind.i64 0, Value.slice A n c, Value.int IntKind.i64 (-1), Value.int IntKind.i64 60], Value.int IntKind.i64 0], Value.tuple #[Value.agg #[Value.int IntKind.i64 0, Value.slice A n c, Value.int IntKind.i64 (-1), Value.int IntKind.i64 60], Value.int IntKind.i64 0], Value.agg #[Value.int IntKind.i64 0, Value.slice A n c, Value.int IntKind.i64 (-1), Value.int IntKind.i64 60], Value.int IntKind.i64 0, Value.int IntKind.i64 a2, Value.int IntKind.i64 ↑iN, Value.int IntKind.i64 ↑iN, Value.int IntKind.i64 (↑iN + 1), Value.int IntKind.i64 a3, Value.int IntKind.i64 ↑jd, Value.int IntKind.i64 ↑jN, Value.int IntKind.i64 a4, Value.int IntKind.i64 ↑kN, ex7, ex0, ex1, ex2, ex3, ex4, ex5, ex6, ex8, ex9, fx6, fx0, fx1, fx2, fx3, fx4, fx5, fx7, fx8, hx4, hx0, hx1, hx2, hx3, hx5, hx6, undef, undef, undef, undef, undef, undef, undef, undef, undef, undef, undef, undef, undef, undef, undef, undef, undef, undef, undef, undef, undef, undef, undef, undef, undef, undef, undef, undef, undef, undef, undef, undef, undef, undef, undef, undef, undef, undef, undef, undef, undef, undef, undef, undef, undef, undef, undef, undef, undef, undef, undef, undef, undef, undef, undef, undef, undef, undef, undef, undef, undef, undef, undef, undef, undef, undef, undef, undef, undef, undef, undef, undef, undef], defers := [] } ∧ Fst8 X2 V Z A2 n2 c2 yb yo yc (.agg #[.int .i64 0, .slice A2 n2 c2, .int .i64 (-1), .int .i64 60]) (.slice (some ⟨yb, yo, none⟩) 40 yc) (.slice (some ⟨yb, yo, none⟩) 40 yc) (.int .i64 0) (.int .i64 0) hb0 hb1 hb2 hb3 hb4 hb5 hb6 hb7 hb8 hx0 hx1 hx2 hx3 hx4 hx5 hx6 hx7 hx8 w) (by kernel_rfl) ?h0 ?hfin ?hI
      case h0 => exact ⟨_, _, _, _, _, _, _, _, _, _, _, _, _, _, _, _, undef, _, rfl, rfl, ⟨(fun _ => (Below.refl _ _).drew), (fun h => by cases h), (fun h => by cases h), (fun h => by cases h), (fun h => by cases h), (fun h => by cases h), (fun h => by cases h), (fun h => by cases h), (fun h => by cases h), (fun h => by cases h), (fun h => by cases h), (fun h => by cases h), (fun h => by cases h), (fun h => by cases h), (fun h => by cases h), (fun h => by cases h), (fun h => by cases h), (fun h => by cases h), (fun h => by cases h)⟩⟩
      case hI =>
        rintro listed a w ⟨hb0, hb1, hb2, hb3, hb4, hb5, hb6, hb7, hb8, hx0, hx1, hx2, hx3, hx4, hx5, hx6, hx7, hx8, rfl, rfl, H⟩ i hi
        obtain ⟨hun, oj, hoj, hall⟩ := mem_ready.1 hi
        clear hi
        rcases i with _ | _ | _ | _ | _ | _ | _ | _ | _ | i
        · have ho := hoj
          simp only [List.getElem?_toArray, List.getElem?_cons_succ, List.getElem?_cons_zero, Option.some.injEq] at hoj
          subst hoj
          obtain rfl : hb0 = false := hun
          clear hall
          obtain rfl : hb3 = false := Bool.eq_false_iff.2 fun h => Bool.false_ne_true (H.d3 h).1
          obtain rfl : hb4 = false := Bool.eq_false_iff.2 fun h => Bool.false_ne_true (H.d4 h)
          obtain rfl : hb5 = false := Bool.eq_false_iff.2 fun h => Bool.false_ne_true (H.d5 h)
          obtain rfl : hb6 = false := Bool.eq_false_iff.2 fun h => Bool.false_ne_true (H.d6 h)
          obtain rfl : hb7 = false := Bool.eq_false_iff.2 fun h => Bool.false_ne_true (H.d7 h).1
          obtain rfl : hb8 = false := Bool.eq_false_iff.2 fun h => Bool.false_ne_true (H.d8 h).1
          have hbe := H.be rfl
          have hx_t5 := H.t5
          have hx_t6 := H.t6
          obtain ⟨q0, q1, q2, q3⟩ := bkG ((hbe.block _ hVX2).trans GW2.out.blk)
          refine wpOp_step ho (fun K' hK => ?_)
          have HK := Lib.hid hK
          clear hK ho
          go_simp
          exact HK.out _ _ ⟨_, _, _, _, _, _, _, _, _, _, _, _, _, _, _, _, hx7, _, rfl, rfl, ⟨(fun _ => hbe), H.d2, (fun h => by cases h), H.d4, H.d5, H.d6, (fun h => by cases h), (fun h => by cases h), H.t5, H.t6, (fun _ => rfl), H.h1, H.h2, (fun h => by cases h), (fun h => by cases h), (fun h => by cases h), H.h6, (fun h => by cases h), H.h8⟩⟩
        · have ho := hoj
          simp only [List.getElem?_toArray, List.getElem?_cons_succ, List.getElem?_cons_zero, Option.some.injEq] at hoj
          subst hoj
          obtain rfl : hb1 = false := hun
          clear hall
          obtain rfl : hb2 = false := Bool.eq_false_iff.2 fun h => Bool.false_ne_true (H.d2 h)
          obtain rfl : hb3 = false := Bool.eq_false_iff.2 fun h => Bool.false_ne_true (H.d3 h).2
          obtain rfl : hb4 = false := Bool.eq_false_iff.2 fun h => Bool.false_ne_true (H.d4 h)
          obtain rfl : hb5 = false := Bool.eq_false_iff.2 fun h => Bool.false_ne_true (H.d5 h)
          obtain rfl : hb6 = false := Bool.eq_false_iff.2 fun h => Bool.false_ne_true (H.d6 h)
          obtain rfl : hb7 = false := Bool.eq_false_iff.2 fun h => Bool.false_ne_true (H.d7 h).2.1
          obtain rfl : hb8 = false := Bool.eq_false_iff.2 fun h => Bool.false_ne_true (H.d8 h).2.1
          have hbe := H.be rfl
          have hx_t5 := H.t5
          have hx_t6 := H.t6
          refine wpOp_step ho (fun K' hK => ?_)
          have HK := Lib.hid hK
          clear hK ho
          go_simp
          exact HK.out _ _ ⟨_, _, _, _, _, _, _, _, _, _, _, _, _, _, _, _, hx7, _, rfl, rfl, ⟨(fun _ => hbe), (fun h => by cases h), H.d3, H.d4, H.d5, H.d6, (fun h => by cases h), (fun h => by cases h), H.t5, H.t6, H.h0, (fun _ => rfl), H.h2, (fun h => by cases h), (fun h => by cases h), (fun h => by cases h), H.h6, (fun h => by cases h), H.h8⟩⟩
        · have ho := hoj
          simp only [List.getElem?_toArray, List.getElem?_cons_succ, List.getElem?_cons_zero, Option.some.injEq] at hoj
          subst hoj
          obtain rfl : hb2 = false := hun
          obtain rfl : hb1 = true := hall ⟨1, .data⟩ (by simp) (by kernel_rfl)
          clear hall
          obtain rfl : hb3 = false := Bool.eq_false_iff.2 fun h => Bool.false_ne_true (H.d3 h).2
          obtain rfl : hb4 = false := Bool.eq_false_iff.2 fun h => Bool.false_ne_true (H.d4 h)
          obtain rfl : hb5 = false := Bool.eq_false_iff.2 fun h => Bool.false_ne_true (H.d5 h)
          obtain rfl : hb6 = false := Bool.eq_false_iff.2 fun h => Bool.false_ne_true (H.d6 h)
          obtain rfl : hb7 = false := Bool.eq_false_iff.2 fun h => Bool.false_ne_true (H.d7 h).2.2.1
          obtain rfl : hb8 = false := Bool.eq_false_iff.2 fun h => Bool.false_ne_true (H.d8 h).2.2.1
          have hbe := H.be rfl
          have hx_t5 := H.t5
          have hx_t6 := H.t6
          obtain rfl := H.h1 rfl
          refine wpOp_step ho (fun K' hK => ?_)
          have HK := Lib.hid hK
          clear hK ho
          go_simp
          exact HK.out _ _ ⟨_, _, _, _, _, _, _, _, _, _, _, _, _, _, _, _, hx7, _, rfl, rfl, ⟨(fun _ => hbe), (fun _ => rfl), (fun h => by cases h), H.d4, H.d5, H.d6, (fun h => by cases h), (fun h => by cases h), H.t5, H.t6, H.h0, H.h1, (fun _ => rfl), (fun h => by cases h), (fun h => by cases h), (fun h => by cases h), H.h6, (fun h => by cases h), H.h8⟩⟩
        · have ho := hoj
          simp only [List.getElem?_toArray, List.getElem?_cons_succ, List.getElem?_cons_zero, Option.some.injEq] at hoj
          subst hoj
          obtain rfl : hb3 = false := hun
          obtain rfl : hb0 = true := hall ⟨0, .data⟩ (by simp) (by kernel_rfl)
          obtain rfl : hb2 = true := hall ⟨2, .data⟩ (by simp) (by kernel_rfl)
          obtain rfl : hb1 = true := (H.d2 rfl)
          clear hall
          obtain rfl : hb4 = false := Bool.eq_false_iff.2 fun h => Bool.false_ne_true (H.d4 h)
          obtain rfl : hb5 = false := Bool.eq_false_iff.2 fun h => Bool.false_ne_true (H.d5 h)
          obtain rfl : hb6 = false := Bool.eq_false_iff.2 fun h => Bool.false_ne_true (H.d6 h)
          obtain rfl : hb7 = false := Bool.eq_false_iff.2 fun h => Bool.false_ne_true (H.d7 h).2.2.2.1
          obtain rfl : hb8 = false := Bool.eq_false_iff.2 fun h => Bool.false_ne_true (H.d8 h).2.2.2.1
          have hbe := H.be rfl
          have hx_t5 := H.t5
          have hx_t6 := H.t6
          obtain rfl := H.h0 rfl
          obtain rfl := H.h1 rfl
          obtain rfl := H.h2 rfl
          refine wpOp_step ho (fun K' hK => ?_)
          have HK := Lib.hid hK
          clear hK ho
          go_wp2_with fail
          refine (HP3.out _ _ w ((GW2.out.below hbe).val) (HYA.out _ (BVX2.out.trans (hbe.mono (Nat.le_of_lt hVX2))))).mono ?_
          rintro e w1 ⟨bb1, u1, rfl, hu1⟩
          have BC := Lib.hid bb1
          have UC := Lib.hid (hu1.toS.anti (S' := fun j => j < X2.heap.size) (fun j hj => Nat.lt_of_lt_of_le hj hbe.size))
          clear bb1 hu1
          go_wp2_with fail
          exact HK.out _ _ ⟨_, _, _, _, _, _, _, _, _, _, _, _, _, _, _, _, hx7, _, rfl, rfl, ⟨(fun _ => hbe.trans (BC.out.mono hbe.size)), H.d2, (fun _ => ⟨rfl, rfl⟩), (fun h => by cases h), H.d5, H.d6, (fun h => by cases h), (fun h => by cases h), fun _ => ⟨_, rfl⟩, hx_t6, H.h0, H.h1, H.h2, (fun _ _ => ⟨_, rfl, UC.out⟩), (fun h => by cases h), (fun h => by cases h), H.h6, (fun h => by cases h), H.h8⟩⟩
        · have ho := hoj
          simp only [List.getElem?_toArray, List.getElem?_cons_succ, List.getElem?_cons_zero, Option.some.injEq] at hoj
          subst hoj
          obtain rfl : hb4 = false := hun
          obtain rfl : hb3 = true := hall ⟨3, .data⟩ (by simp) (by kernel_rfl)
          obtain rfl : hb0 = true := (H.d3 rfl).1
          obtain rfl : hb2 = true := (H.d3 rfl).2
          obtain rfl : hb1 = true := (H.d2 rfl)
          clear hall
          obtain rfl : hb5 = false := Bool.eq_false_iff.2 fun h => Bool.false_ne_true (H.d5 h)
          obtain rfl : hb6 = false := Bool.eq_false_iff.2 fun h => Bool.false_ne_true (H.d6 h)
          obtain rfl : hb7 = false := Bool.eq_false_iff.2 fun h => Bool.false_ne_true (H.d7 h).2.2.2.2.1
          obtain rfl : hb8 = false := Bool.eq_false_iff.2 fun h => Bool.false_ne_true (H.d8 h).2.2.2.2.1
          have hbe := H.be rfl
          have hx_t5 := H.t5
          have hx_t6 := H.t6
          obtain rfl := H.h0 rfl
          obtain rfl := H.h1 rfl
          obtain rfl := H.h2 rfl
          have P3 := H.h3 rfl rfl
          have PT := Lib.hid P3
          have TT := Lib.hid (H.t5 rfl)
          clear P3
          refine wpOp_step ho (fun K' hK => ?_)
          have HK := Lib.hid hK
          clear hK ho
          go_simp
          exact HK.out _ _ ⟨_, _, _, _, _, _, _, _, _, _, _, _, _, _, _, _, hx7, _, rfl, rfl, ⟨(fun _ => hbe), H.d2, H.d3, (fun _ => rfl), (fun h => by cases h), (fun h => by cases h), (fun h => by cases h), (fun h => by cases h), H.t5, fun _ => TT.out, H.h0, H.h1, H.h2, H.h3, (fun _ _ => PT.out), (fun h => by cases h), H.h6, (fun h => by cases h), H.h8⟩⟩
        · have ho := hoj
          simp only [List.getElem?_toArray, List.getElem?_cons_succ, List.getElem?_cons_zero, Option.some.injEq] at hoj
          subst hoj
          obtain rfl : hb5 = false := hun
          obtain rfl : hb4 = true := hall ⟨4, .data⟩ (by simp) (by kernel_rfl)
          obtain rfl : hb3 = true := (H.d4 rfl)
          obtain rfl : hb0 = true := (H.d3 rfl).1
          obtain rfl : hb2 = true := (H.d3 rfl).2
          obtain rfl : hb1 = true := (H.d2 rfl)
          clear hall
          obtain rfl : hb7 = false := Bool.eq_false_iff.2 fun h => Bool.false_ne_true (H.d7 h).2.2.2.2.2
          obtain rfl : hb8 = false := Bool.eq_false_iff.2 fun h => Bool.false_ne_true (H.d8 h).2.2.2.2.2.1
          have hbe := H.be rfl
          have hx_t5 := H.t5
          have hx_t6 := H.t6
          obtain rfl := H.h0 rfl
          obtain rfl := H.h1 rfl
          obtain rfl := H.h2 rfl
          have P3 := H.h3 rfl rfl
          have P4 := H.h4 rfl rfl
          obtain ⟨u, rfl, hu⟩ := P4
          have HU := Lib.hid hu
          clear hu
          refine wpOp_step ho (fun K' hK => ?_)
          have HK := Lib.hid hK
          clear hK ho
          go_simp
          exact HK.out _ _ ⟨_, _, _, _, _, _, _, _, _, _, _, _, _, _, _, _, hx7, _, rfl, rfl, ⟨(fun _ => hbe), H.d2, H.d3, H.d4, (fun _ => rfl), H.d6, (fun h => by cases h), (fun h => by cases h), H.t5, H.t6, H.h0, H.h1, H.h2, H.h3, H.h4, (fun _ _ => HU.out), H.h6, (fun h => by cases h), H.h8⟩⟩
        · have ho := hoj
          simp only [List.getElem?_toArray, List.getElem?_cons_succ, List.getElem?_cons_zero, Option.some.injEq] at hoj
          subst hoj
          obtain rfl : hb6 = false := hun
          obtain rfl : hb4 = true := hall ⟨4, .data⟩ (by simp) (by kernel_rfl)
          obtain rfl : hb3 = true := (H.d4 rfl)
          obtain rfl : hb0 = true := (H.d3 rfl).1
          obtain rfl : hb2 = true := (H.d3 rfl).2
          obtain rfl : hb1 = true := (H.d2 rfl)
          clear hall
          obtain rfl : hb8 = false := Bool.eq_false_iff.2 fun h => Bool.false_ne_true (H.d8 h).2.2.2.2.2.2.1
          have hx_t5 := H.t5
          have hx_t6 := H.t6
          obtain rfl := H.h0 rfl
          obtain rfl := H.h1 rfl
          obtain rfl := H.h2 rfl
          obtain ⟨u, rfl⟩ := H.t6 rfl
          refine wpOp_step ho (fun K' hK => ?_)
          have HK := Lib.hid hK
          clear hK ho
          go_simp
          exact HK.out _ _ ⟨_, _, _, _, _, _, _, _, _, _, _, _, _, _, _, _, hx7, _, rfl, rfl, ⟨H.be, H.d2, H.d3, H.d4, H.d5, (fun _ => rfl), H.d7, (fun h => by cases h), H.t5, H.t6, H.h0, H.h1, H.h2, H.h3, H.h4, H.h5, (fun _ => rfl), H.h7, H.h8⟩⟩
        · have ho := hoj
          simp only [List.getElem?_toArray, List.getElem?_cons_succ, List.getElem?_cons_zero, Option.some.injEq] at hoj
          subst hoj
          obtain rfl : hb7 = false := hun
          obtain rfl : hb0 = true := hall ⟨0, .phase⟩ (by simp) (by kernel_rfl)
          obtain rfl : hb1 = true := hall ⟨1, .phase⟩ (by simp) (by kernel_rfl)
          obtain rfl : hb2 = true := hall ⟨2, .phase⟩ (by simp) (by kernel_rfl)
          obtain rfl : hb3 = true := hall ⟨3, .chain⟩ (by simp) (by kernel_rfl)
          obtain rfl : hb4 = true := hall ⟨4, .phase⟩ (by simp) (by kernel_rfl)
          obtain rfl : hb5 = true := hall ⟨5, .data⟩ (by simp) (by kernel_rfl)
          clear hall
          obtain rfl : hb8 = false := Bool.eq_false_iff.2 fun h => Bool.false_ne_true (H.d8 h).2.2.2.2.2.2.2
          have hbe := H.be rfl
          have hx_t5 := H.t5
          have hx_t6 := H.t6
          obtain rfl := H.h0 rfl
          obtain rfl := H.h1 rfl
          obtain rfl := H.h2 rfl
          have P3 := H.h3 rfl rfl
          have P4 := H.h4 rfl rfl
          have P5 := H.h5 rfl rfl
          obtain ⟨A1, n1, c1, rfl, hpf⟩ := P5.ex
          have VB := Lib.hid ((hbe.block _ hVX2).trans GW2.out.blk)
          obtain ⟨gp1, gp2⟩ := GW.put (b := V) VB.out hpf hVX2
          have GP := Lib.hid gp1
          have BV := Lib.hid (gr_from (B := V) (hbe.mono (Nat.le_of_lt hVX2)) (by have := hbe.size; omega) (Nat.le_refl _) gp2)
          obtain ⟨q0, q1, q2, q3⟩ := bkG VB.out
          have qf := fun i => bk_frz VB.out i
          clear hpf gp1 gp2
          refine wpOp_step ho (fun K' hK => ?_)
          have HK := Lib.hid hK
          clear hK ho
          go_simp
          exact HK.out _ _ ⟨_, _, _, _, _, _, _, _, _, _, _, _, _, _, _, _, hx7, _, rfl, rfl, ⟨(fun h => by cases h), H.d2, H.d3, H.d4, H.d5, H.d6, (fun _ => ⟨rfl, rfl, rfl, rfl, rfl, rfl⟩), (fun h => by cases h), H.t5, H.t6, H.h0, H.h1, H.h2, (fun _ h => by cases h), (fun _ h => by cases h), (fun _ h => by cases h), H.h6, (fun _ => ⟨_, _, _, GP.out, BV.out⟩), H.h8⟩⟩
        · have ho := hoj
          simp only [List.getElem?_toArray, List.getElem?_cons_succ, List.getElem?_cons_zero, Option.some.injEq] at hoj
          subst hoj
          obtain rfl : hb8 = false := hun
          obtain rfl : hb0 = true := hall ⟨0, .phase⟩ (by simp) (by kernel_rfl)
          obtain rfl : hb1 = true := hall ⟨1, .phase⟩ (by simp) (by kernel_rfl)
          obtain rfl : hb2 = true := hall ⟨2, .phase⟩ (by simp) (by kernel_rfl)
          obtain rfl : hb3 = true := hall ⟨3, .phase⟩ (by simp) (by kernel_rfl)
          obtain rfl : hb4 = true := hall ⟨4, .phase⟩ (by simp) (by kernel_rfl)
          obtain rfl : hb5 = true := hall ⟨5, .phase⟩ (by simp) (by kernel_rfl)
          obtain rfl : hb6 = true := hall ⟨6, .data⟩ (by simp) (by kernel_rfl)
          obtain rfl : hb7 = true := hall ⟨7, .chain⟩ (by simp) (by kernel_rfl)
          clear hall
          have hx_t5 := H.t5
          have hx_t6 := H.t6
          obtain rfl := H.h0 rfl
          obtain rfl := H.h1 rfl
          obtain rfl := H.h2 rfl
          obtain rfl := H.h6 rfl
          have P7 := H.h7 rfl
          refine wpOp_step ho (fun K' hK => ?_)
          have HK := Lib.hid hK
          clear hK ho
          go_simp
          exact HK.out _ _ ⟨_, _, _, _, _, _, _, _, _, _, _, _, _, _, _, _, hx7, _, rfl, rfl, ⟨(fun h => by cases h), H.d2, H.d3, H.d4, H.d5, H.d6, H.d7, (fun _ => ⟨rfl, rfl, rfl, rfl, rfl, rfl, rfl, rfl⟩), H.t5, H.t6, H.h0, H.h1, H.h2, (fun _ h => by cases h), (fun _ h => by cases h), (fun _ h => by cases h), H.h6, H.h7, (fun _ => rfl)⟩⟩
        · have ho := hoj
          simp at ho
      case hfin =>
        rintro listed a w ⟨hb0, hb1, hb2, hb3, hb4, hb5, hb6, hb7, hb8, hx0, hx1, hx2, hx3, hx4, hx5, hx6, hx7, hx8, rfl, rfl, H⟩ hr
        have hb : hb8 = true := by
          clear H
          revert hb0 hb1 hb2 hb3 hb4 hb5 hb6 hb7 hb8
          decide +kernel
        subst hb
        clear hr
        obtain rfl : hb0 = true := (H.d8 rfl).1
        obtain rfl : hb1 = true := (H.d8 rfl).2.1
        obtain rfl : hb2 = true := (H.d8 rfl).2.2.1
        obtain rfl : hb3 = true := (H.d8 rfl).2.2.2.1
        obtain rfl : hb4 = true := (H.d8 rfl).2.2.2.2.1
        obtain rfl : hb5 = true := (H.d8 rfl).2.2.2.2.2.1
        obtain rfl : hb6 = true := (H.d8 rfl).2.2.2.2.2.2.1
        obtain rfl : hb7 = true := (H.d8 rfl).2.2.2.2.2.2.2
        have he := H.h8 rfl
        obtain ⟨A3, n3, c3, hgw, hbv⟩ := H.h7 rfl
        subst he
        have GW3 := Lib.hid hgw
        have BV3 := Lib.hid hbv
        clear hgw hbv H
        have BVX3 := Lib.hid (BVX2.out.trans BV3.out)
        obtain ⟨X3, hX3⟩ : ∃ Y, Y = w := ⟨_, rfl⟩
        subst hX3
        have hVX3 := lt_of_block GW3.out.blk
        obtain ⟨v0, v1, v2, v3⟩ := bkG GW3.out.blk
        clear GW2 BVX2 BV3 hVX2
        go_wp2_with fail
        refine (HTK.out _ _ GW3.out.val).mono ?_
        rintro e w4 ⟨bb4, u4, d4, rfl, hu4, hd4⟩
        obtain ⟨A4, n4, c4, rfl, p4⟩ := hu4.slice
        have D4 := Lib.hid (hd4.on (Keeps.below ((Below.refl w4.heap.size w4).alloc (Nat.le_refl _) (.cells #[.int .i64 40, .slice A4 n4 c4, .int .i64 (-1), .int .i64 60] 24))))
        obtain ⟨Ad, cd, rfl, _, _, _, hdr⟩ := D4.out.now.ex
        have HDR := Lib.hid hdr
        have B4 := Lib.hid ((BVX3.out.trans (bb4.mono (Nat.le_of_lt hVX3))).alloc (by have := bb4.size; omega) (.cells #[.int .i64 40, .slice A4 n4 c4, .int .i64 (-1), .int .i64 60] 24))
        clear bb4 hu4 p4 hd4 hdr v0 v1 v2 v3 D4
        have hZl := HZL.out
        simp only [HZL.out]
        go_wp2_with fail
        obtain ⟨X9, hX9⟩ : ∃ Y, w4.alloc (.cells #[.int .i64 40, .slice A4 n4 c4, .int .i64 (-1), .int .i64 60] 24) = Y := ⟨_, rfl⟩
        rw [hX9] at B4 HDR
        try rw [hX9]
        have BV9 := Lib.hid (show Below w0.heap.size w0 X9 from BW.out.trans (B4.out.mono HVW.out))
        have XT9 := Lib.hid (XT3.out.below B4.out)
        have YT9 := Lib.hid (YT3.out.below B4.out)
        obtain ⟨gb, go, hAd, hgb, hgc⟩ := HDR.out.2 (by rw [HZL.out]; omega)
        subst hAd
        have HGC := Lib.hid (fun j (hj : j < 40) => hgc j (by rw [HZL.out]; exact hj))
        clear hgc hX9 hZl z1 z2 z3 z4 z5 z6
        go_loopg [102] 40 (fun gq iv wr => ∃ (p : Nat), iv = .int .i64 p ∧ p + gq = 40 ∧ Hid (wr = X9))
        case atStart => exact ⟨0, rfl, by omega, Lib.hid rfl⟩
        case round =>
          obtain ⟨p, rfl, hpg, hwr⟩ := hrel
          obtain rfl := hwr.out
          by_cases hp : p < 40
          · have xg := HGC.out p hp
            have xx := XT9.out.cell p hp
            have xy := YT9.out.cell p hp
            have hzg := HZG.out p hp
            obtain ⟨xp, hxp⟩ : ∃ v, xs.getD p 0 = v := ⟨_, rfl⟩
            obtain ⟨yp, hyp⟩ : ∃ v, ys.getD p 0 = v := ⟨_, rfl⟩
            rw [hxp] at xx hzg
            rw [hyp] at xy hzg
            rw [hzg] at xg
            have hp40 : (p : Int) < 40 := by omega
            clear hzg hxp hyp
            by_cases c1 : iN ≤ p
            · have d1 : decide ((iN : Int) ≤ (p : Int)) = true := by simp; omega
              have d1n : decide (p < iN) = false := by simp; omega
              have d1i : decide ((p : Int) < (iN : Int)) = false := by simp; omega
              by_cases c2 : p < jN
              · rw [if_pos ⟨c1, c2⟩] at xg
                have d2 : decide ((p : Int) < (jN : Int)) = true := by simp; omega
                have d2n : decide (jN ≤ p) = false := by simp; omega
                have d2i : decide ((jN : Int) ≤ (p : Int)) = false := by simp; omega
                go_wp2_with fail
                go_roundg (gk - 1)
                case measure => omega
                case rel => exact ⟨p + 1, by first | rfl | go_num, by omega, Lib.hid rfl⟩
              · rw [if_neg (fun k => c2 k.2)] at xg
                have d2 : decide ((p : Int) < (jN : Int)) = false := by simp; omega
                have d2n : decide (jN ≤ p) = true := by simp; omega
                have d2i : decide ((jN : Int) ≤ (p : Int)) = true := by simp; omega
                go_wp2_with fail
                go_roundg (gk - 1)
                case measure => omega
                case rel => exact ⟨p + 1, by first | rfl | go_num, by omega, Lib.hid rfl⟩
            · rw [if_neg (fun k => c1 k.1)] at xg
              have d1 : decide ((iN : Int) ≤ (p : Int)) = false := by simp; omega
              have d1n : decide (p < iN) = true := by simp; omega
              have d1i : decide ((p : Int) < (iN : Int)) = true := by simp; omega
              go_wp2_with fail
              go_roundg (gk - 1)
              case measure => omega
              case rel => exact ⟨p + 1, by first | rfl | go_num, by omega, Lib.hid rfl⟩
          · obtain rfl : p = 40 := by omega
            obtain rfl : gk = 0 := by omega
            go_wp2_with (go_at_call 25; refine (gatherTells_any _).mono ?_; rintro e w6 ⟨rfl, hb6⟩; have B6 := Lib.hid (BV9.out.trans (hb6.mono BV9.out.size)); clear hb6)
            go_ret
            exact ⟨rfl, B6.out⟩
end Go.Proofs.Ytfbjgbnlgaajaaa
