/- Several texts in one: TextK, GaFits, Raw, Open, GaAllM, GatherAllW. -/
import Derived.Test.YtfbjgbnlgaajaaaCut
import Derived.Test.YtfbjgbnlgaajaaaPick
import Derived.Test.YtfbjgbnlgaajaaaFresh
import Derived.Lib.AppendStr
import Derived.Deep.LoopGhost
import Derived.Test.YtfbjgbnlgaajaaaGaPut
import Derived.Test.YtfbjgbnlgaajaaaRngRow
import Derived.Deep.Slices
import Derived.Deep.Fields
import Derived.ChangeSame
import Derived.Test.YtfbjgbnlgaajaaaGatherGapsW
import Derived.Test.YtfbjgbnlgaajaaaGaPart
import Derived.Test.YtfbjgbnlgaajaaaStr
import Derived.Deep.CutRange
namespace Go.Proofs.Ytfbjgbnlgaajaaa
set_option linter.unusedVariables false
open Go.RowKit P

theorem BF.take {w : World} {lo c n : Nat} {A : Option Addr} {zs : List Int} (h : BF w lo (.slice A n c) zs) (k : Nat) (hk : k ≤ zs.length) : BF w lo (.slice A k c) (zs.take k) := fun w'' q => by
  obtain ⟨A', c', e, h1, h2, h3, h4⟩ := (h w'' q).ex
  injection e with e1 e2 e3
  subst e1 e3
  have hl : (zs.take k).length = k := List.length_take_of_le hk
  exact ⟨A, c, by rw [hl], by rw [hl]; omega, h2, h3, h4.take k⟩
theorem numsOf_byt (s : ByteArray) : Byt (numsOf s) := fun j => by
  by_cases h : j < (numsOf s).length
  · have : (numsOf s).getD j 0 = (s.data.toList[j]'(by simpa [numsOf] using h)).toNat := by
      rw [List.getD_eq_getElem?_getD, List.getElem?_eq_getElem h]
      simp [numsOf]
    rw [this]
    have := (s.data.toList[j]'(by simpa [numsOf] using h)).toNat_lt
    omega
  · rw [List.getD_eq_getElem?_getD, List.getElem?_eq_none (by omega)]
    exact ⟨by decide, by decide⟩
/-- what text answers: so many bytes, in new memory -/
structure TextPost (n : Int) (most : Nat) (w : World) (e : Ending) (w' : World) : Prop where
  ex : ∃ zs A c, e = .returned (.slice A zs.length c) ∧ (zs.length : Int) = n % ((most : Int) + 1) ∧ BF w' w.heap.size (.slice A zs.length c) zs
  be : Below w.heap.size w w'
set_option maxRecDepth 100000 in
set_option maxHeartbeats 1000000 in
theorem text_any (s : ByteArray) (n : Int) (most : Nat) (hmost : most ≤ 1000) (hs : s.size ≤ maxLen) (w : World) :
    Calls Try.prog 22 #[.string s, .int .i64 n, .int .i64 (most : Int)] w (TextPost n most w) := by
  have m0 : 0 ≤ n % ((most : Int) + 1) := Int.emod_nonneg _ (by omega)
  have m1 : n % ((most : Int) + 1) < (most : Int) + 1 := Int.emod_lt_of_pos _ (by omega)
  have hpk := fun w => picked_any n ((most : Int) + 1) (by omega) (by omega) w
  obtain ⟨K, hK⟩ : ∃ K : Nat, n % ((most : Int) + 1) = (K : Int) := ⟨(n % ((most : Int) + 1)).toNat, by omega⟩
  rw [hK] at hpk m1
  have HK := Lib.hid hK
  have HPK := Lib.hid hpk
  have hcut : ∀ w, Calls Try.prog 36 #[.string s, .int .i64 9] w fun e w' => e = .returned (.string (strOfNums ((numsOf s).take 9))) ∧ w = w' := fun w => cut_any s 9 (by omega) hs w
  obtain ⟨C, hC⟩ : ∃ C, strOfNums ((numsOf s).take 9) = C := ⟨_, rfl⟩
  have hcl : C.size ≤ 9 := by
    rw [← hC]
    have : (strOfNums ((numsOf s).take 9)).size = ((numsOf s).take 9).length := by
      show (strOfNums ((numsOf s).take 9)).data.size = _
      rw [← Array.length_toList, strOfNums_data, List.length_map]
    rw [this, List.length_take]
    omega
  rw [hC] at hcut
  have HCUT := Lib.hid hcut
  have HCB := Lib.hid (numsOf_byt C)
  have hcn : Lib.strCells C = (numsOf C).map (.int .u8) := by simp [Lib.strCells, numsOf, Function.comp_def]
  have HCN := Lib.hid hcn
  have HCL := Lib.hid (numsOf_len C)
  obtain ⟨i0, hi0, hz0, hz1, hz2⟩ := info_parts infoB1
  have HI := Lib.hid hi0
  have HZ := Lib.hid hz0
  have HZ1 := Lib.hid hz1
  have HZ2 := Lib.hid hz2
  have hwm : IntKind.i64.wrap ((most : Int) + 1) = (most : Int) + 1 := by rw [IntKind.wrap_i64]; omega
  clear hpk hcut hC hcn hK m0 hi0 hz0 hz1 hz2
  go_enter Try.func22, Try.ntmps22
  go_wp2_with fail
  refine (HPK.out _).mono ?_
  rintro e w' ⟨rfl, rfl⟩
  clear hwm
  go_wp2_with fail
  go_loopg [8, 9] (2000 + K) (fun gq bv iv wr => ∃ (X : List Int) (A : Option Addr) (c : Nat) (z : Int), bv = .slice A X.length c ∧ iv = .int .i64 z ∧ 0 ≤ z ∧ z ≤ X.length ∧ X.length ≤ 1010 ∧ X.length + gq = 2000 + K ∧ Hid (wr.ownsRow w.heap.size 5 1 (.slice A X.length c) X.length (X.map (.int .u8))) ∧ Hid (Byt X) ∧ Hid (Below w.heap.size w wr))
  case atStart => exact ⟨[], none, 0, 0, rfl, rfl, by omega, by simp, by simp, by simp, Lib.hid ⟨rfl, .inl ⟨rfl, rfl⟩⟩, Lib.hid Byt.nil, Lib.hid (Below.refl _ _)⟩
  case round =>
    obtain ⟨X, A, c, z, rfl, rfl, hz0, hz1, hx, hg, OX, HX, BX⟩ := hrel
    obtain ⟨n1, hn1⟩ : ∃ m, X.length = m := ⟨_, rfl⟩
    rw [hn1] at OX hz1 hx hg ⊢
    have HN1 := Lib.hid hn1
    clear hn1
    obtain ⟨hnc, hcm⟩ : n1 ≤ c ∧ c ≤ maxLen := by obtain ⟨A', c', e, h1, h2⟩ := own_slice OX.out; cases e; exact ⟨h1, h2⟩
    unfold maxLen at hcm
    by_cases hk : n1 < K
    · have hkK : (n1 : Int) < (K : Int) := by omega
      have zb0 : 0 ≤ z % 256 := Int.emod_nonneg _ (by decide)
      have zb1 : z % 256 < 256 := Int.emod_lt_of_pos _ (by decide)
      have hwz : IntKind.u8.wrap z = z % 256 := by rw [IntKind.wrap_u8]
      have hw1 : IntKind.i64.wrap (z + 1) = z + 1 := by rw [IntKind.wrap_i64]; omega
      have OA := Lib.hid (World.ownsRow.kept OX.out (World.grownBy_alloc wr (.cells #[.int .u8 (z % 256)] 5) none) (none_or _))
      have NA := Lib.hid (heap_alloc_new wr (.cells #[.int .u8 (z % 256)] 5))
      have BA := Lib.hid (BX.out.alloc BX.out.size (.cells #[.int .u8 (z % 256)] 5))
      have hsz := BX.out.size
      have hrow : BRow (wr.alloc (.cells #[.int .u8 (z % 256)] 5)) (wr.heap.size + 1) (some ⟨wr.heap.size, 0, none⟩) [z % 256] :=
        ⟨byt1 (by omega), fun _ => ⟨wr.heap.size, 0, rfl, Nat.lt_succ_self _, fun j hj => by
          obtain rfl : j = 0 := by simp at hj; omega
          exact bk_cell NA.out 0⟩⟩
      have HROW := Lib.hid hrow
      clear hrow
      go_wp2_with (first
        | (at_builtin
           refine wpList_app _ rfl (.tmp 20) (.tmp 23) _ rfl w.heap.size 5 i0 Try.underlying31 HI.out HZ.out HZ1.out HZ2.out (.slice A n1 c) n1 (X.map (.int .u8)) rfl OA.out (wr.heap.size + 1) (some ⟨wr.heap.size, 0, none⟩) 1 1 [z % 256] rfl HROW.out rfl (fun h => by cases h) (by omega) (by simp; omega) ?_
           intro v1 w1 own1 g1 _
           obtain ⟨A1, c1, hv1, _, _⟩ := own_slice own1
           subst hv1
           have O1 := Lib.hid own1
           have B1 := Lib.hid (BA.out.grown g1 (by simp; omega) (fun k hk => (World.ownsRow.lt OA.out k hk).1))
           clear own1 g1)
        | (go_at_call 36
           refine (HCUT.out _).mono ?_
           rintro e w' ⟨rfl, rfl⟩)
        | (at_builtin
           refine Lib.wpList_append_own_string _ rfl (.tmp 24) (.tmp 26) _ _ rfl w.heap.size 5 i0 Try.underlying31 Try.underlying9 HI.out HZ.out HZ1.out HZ2.out (.slice A1 (n1 + 1) c1) (n1 + 1) (X.map (.int .u8) ++ [z % 256].map (.int .u8)) rfl O1.out C rfl (by unfold maxLen; omega) (by omega) B1.out.size ?_
           intro v2 w2 own2 g2 _
           obtain ⟨A2, c2, hv2, _, _⟩ := own_slice own2
           subst hv2
           have O2 := Lib.hid own2
           have B2 := Lib.hid (B1.out.grown g2 B1.out.size (fun k hk => (World.ownsRow.lt O1.out k hk).1))
           clear own2 g2))
      have hln : (X ++ [z % 256] ++ numsOf C).length = n1 + 1 + C.size := by have h1 := HN1.out; have h2 := HCL.out; simp; omega
      have O3 := Lib.hid (show w2.ownsRow w.heap.size 5 1 (.slice A2 (X ++ [z % 256] ++ numsOf C).length c2) (X ++ [z % 256] ++ numsOf C).length ((X ++ [z % 256] ++ numsOf C).map (.int .u8)) from by
        rw [hln, List.map_append, List.map_append, ← HCN.out]
        exact O2.out)
      have HY := Lib.hid (show Byt (X ++ [z % 256] ++ numsOf C) from (HX.out.append (byt1 (by omega))).append HCB.out)
      go_roundg (2000 + K - (n1 + 1 + C.size))
      case measure => omega
      case rel => exact ⟨X ++ [z % 256] ++ numsOf C, A2, c2, z + 1, by rw [hln], rfl, by omega, by omega, by omega, by omega, O3, HY, B2⟩
    · have hkK : ¬ (n1 : Int) < (K : Int) := by omega
      have dk : decide ((n1 : Int) < (K : Int)) = false := by simp; omega
      have hBF := Lib.hid ((bf_own OX.out HX.out (Nat.le_refl _)).take K (by rw [HN1.out]; omega))
      have hl : (X.take K).length = K := List.length_take_of_le (by rw [HN1.out]; omega)
      have HLL := Lib.hid hl
      clear hl hkK
      go_wp2_with fail
      go_ret
      exact ⟨⟨X.take K, A, c, by rw [HLL.out]; rfl, by rw [HLL.out, HK.out], by rw [HLL.out]; exact hBF.out⟩, BX.out⟩
end Go.Proofs.Ytfbjgbnlgaajaaa
namespace Go.Proofs.Ytfbjgbnlgaajaaa.P
set_option linter.unusedVariables false
open Go.RowKit

/-- every piece is the text's, at its place -/
def fitsT (t : List Int) (ps : List Pc) : Prop := ∀ x c, atP ps x = some c → 0 ≤ x ∧ x < t.length ∧ c = t.getD x.toNat 0
theorem fits_nil (t : List Int) : fitsT t [] := fun x c h => by cases h
theorem fits_ins {t : List Int} {ps : List Pc} {a lo : Int} {d : List Int} (h : fitsT t ps) (ho : okPs a ps) (h0 : 0 ≤ lo) (h1 : lo + d.length ≤ t.length) (h2 : ∀ i : Nat, i < d.length → d.getD i 0 = t.getD (lo.toNat + i) 0) : fitsT t (insP lo d ps) := fun x c hx => by
  rw [insP_at ps a lo d ho] at hx
  unfold putA at hx
  cases hc : atP ps x with
  | some c' =>
    rw [hc] at hx
    simp only [Option.some.injEq] at hx
    subst hx
    exact h x c' hc
  | none =>
    rw [hc] at hx
    simp only at hx
    by_cases k : lo ≤ x ∧ x < lo + d.length
    · rw [if_pos k] at hx
      simp only [Option.some.injEq] at hx
      refine ⟨by omega, by omega, ?_⟩
      rw [← hx, h2 _ (by omega)]
      congr 1
      omega
    · rw [if_neg k] at hx
      cases hx
/-- a part of the text, put at its place -/
theorem fits_put {t : List Int} {g : Ga} {lo k : Nat} (h : fitsT t g.held) (ho : okPs (g.done - 1) g.held) (hd : 0 ≤ g.done) (hk : lo + k ≤ t.length) : fitsT t (putP g lo ((t.drop lo).take k)) := by
  have hl : ((t.drop lo).take k).length = k := by rw [List.length_take, List.length_drop]; omega
  unfold putP
  by_cases e : ((t.drop lo).take k).drop (max (lo : Int) g.done - lo).toNat = []
  · rw [e]
    have : insP (max (lo : Int) g.done) [] g.held = g.held := by
      cases g.held with
      | nil => rfl
      | cons p ps => unfold insP; rw [if_pos rfl]
    rw [this]
    exact h
  · have hl2 : (((t.drop lo).take k).drop (max (lo : Int) g.done - lo).toNat).length = k - (max (lo : Int) g.done - lo).toNat := by rw [List.length_drop, hl]
    have hl3 := List.length_pos_iff.2 e
    refine fits_ins h ho (by omega) (by omega) fun i hi => ?_
    rw [getD_drop, getD_take (by omega), getD_drop]
    congr 1
    omega
/-- the first piece is the text from its place on -/
theorem fits_head {t : List Int} {p : Pc} {ps : List Pc} {a : Int} (h : fitsT t (p :: ps)) (ho : okPs a (p :: ps)) : 0 ≤ p.1 ∧ p.1 + p.2.length ≤ t.length ∧ p.2 = (t.drop p.1.toNat).take p.2.length := by
  have gp := end_gt ho.1
  have he : endP p = p.1 + p.2.length := rfl
  have at_ : ∀ i : Nat, i < p.2.length → atP (p :: ps) (p.1 + i) = some (p.2.getD i 0) := fun i hi => by
    unfold atP
    rw [if_pos (by omega), show (p.1 + (i : Int) - p.1).toNat = i by omega]
  have hl : 0 < p.2.length := List.length_pos_iff.2 ho.1
  have f0 := h _ _ (at_ 0 hl)
  have f1 := h _ _ (at_ (p.2.length - 1) (by omega))
  refine ⟨by omega, by omega, List.ext_getElem (by rw [List.length_take, List.length_drop]; omega) fun i h1 h2 => ?_⟩
  have f := (h _ _ (at_ i h1)).2.2
  rw [List.getD_eq_getElem?_getD, List.getElem?_eq_getElem h1] at f
  simp only [Option.getD_some] at f
  rw [f, List.getElem_take, List.getElem_drop, List.getD_eq_getElem?_getD, List.getElem?_eq_getElem (by omega)]
  simp only [Option.getD_some]
  congr 1
  omega
theorem fits_tail {t : List Int} {p : Pc} {ps : List Pc} {a : Int} (h : fitsT t (p :: ps)) (ho : okPs a (p :: ps)) : fitsT t ps := fun x c hx => by
  refine h x c ?_
  unfold atP
  rw [if_neg (fun k => by rw [at_below ho.2.2 (by omega)] at hx; cases hx)]
  exact hx
/-- all the rest of the text, put in: one piece, or none -/
theorem fits_all {t : List Int} {ps : List Pc} {n : Nat} (h : fitsT t ps) (ho : okPs ((n : Int) - 1) ps) (hn : n ≤ t.length) : insP n (t.drop n) ps = if n = t.length then [] else [((n : Int), t.drop n)] := by
  have hlen : (t.drop n).length = t.length - n := List.length_drop
  have low : ∀ x, x < (n : Int) → atP ps x = none := fun x hx => at_below ho (by omega)
  by_cases e : n = t.length
  · rw [if_pos e]
    have hd : t.drop n = [] := List.drop_of_length_le (by omega)
    rw [hd]
    cases ps with
    | nil => rfl
    | cons p ps =>
      exfalso
      obtain ⟨c, hc⟩ := at_first ho
      have := h _ _ hc
      have := ho.2.1
      omega
  · rw [if_neg e]
    refine (insP_only (pl := [((n : Int), t.drop n)]) ho (by omega) (b := (n : Int) - 1) ⟨fun q => by have := congrArg List.length q; simp at this; omega, by omega, trivial⟩ fun x => ?_).symm
    unfold putA
    show (if (n : Int) ≤ x ∧ x < (n : Int) + (t.drop n).length then some ((t.drop n).getD (x - n).toNat 0) else none) = _
    cases hc : atP ps x with
    | none => rfl
    | some c =>
      have f := h _ _ hc
      have hx : (n : Int) ≤ x := by
        rcases Int.lt_or_le x n with q | q
        · rw [low x q] at hc; cases hc
        · exact q
      simp only
      rw [if_pos (by omega), getD_drop, f.2.2]
      congr 2
      omega
end Go.Proofs.Ytfbjgbnlgaajaaa.P
namespace Go.Proofs.Ytfbjgbnlgaajaaa
set_option linter.unusedVariables false
open Go.RowKit P

structure RawT where
  kind : Int
  a : Int
  b : Int
  text : ByteArray

def raw0 : RawT := ⟨0, 0, 0, ByteArray.empty⟩

/-- 'A' leads to a row below block B whose cells are the raw things rs -/
def RawRow (w : World) (B : Nat) (A : Option Addr) (rs : List RawT) : Prop :=
  0 < rs.length → ∃ b off, A = some ⟨b, off, none⟩ ∧ b < B ∧ ∀ j, j < rs.length →
    w.cell? ⟨b, off + j * 4, none⟩ = some (.int .i64 (rs.getD j raw0).kind) ∧ w.cell? ⟨b, off + j * 4 + 1, none⟩ = some (.int .i64 (rs.getD j raw0).a) ∧
    w.cell? ⟨b, off + j * 4 + 2, none⟩ = some (.int .i64 (rs.getD j raw0).b) ∧ w.cell? ⟨b, off + j * 4 + 3, none⟩ = some (.string (rs.getD j raw0).text)
theorem RawRow.keep {w w' : World} {B : Nat} {A : Option Addr} {rs : List RawT} (h : RawRow w B A rs) (hk : ∀ p : Addr, p.block < B → w'.cell? p = w.cell? p) : RawRow w' B A rs := fun hn => by
  obtain ⟨b, off, e, hb, hc⟩ := h hn
  exact ⟨b, off, e, hb, fun j hj => ⟨(hk _ hb).trans (hc j hj).1, (hk _ hb).trans (hc j hj).2.1, (hk _ hb).trans (hc j hj).2.2.1, (hk _ hb).trans (hc j hj).2.2.2⟩⟩
theorem RawRow.below {w w' : World} {B : Nat} {A : Option Addr} {rs : List RawT} (h : RawRow w B A rs) (hb : Below B w w') : RawRow w' B A rs := h.keep fun _ hp => hb.cell hp

theorem some20 (A : Option Addr) (len cap : Nat) (w : World) (hl : len ≤ cap) (hc : cap ≤ maxLen) :
    Calls Try.prog 23 #[.slice A len cap, .int .i64 20] w fun e w' => e = .returned (.slice A (min len 20) cap) ∧ w = w' := by
  unfold maxLen at hc
  by_cases h : 20 < len
  · have e := Lib.hid (show min len 20 = 20 by omega)
    go_enter Try.func23, Try.ntmps23
    go_wp2
    go_ret
    exact ⟨by rw [e.out]; rfl, rfl⟩
  · have e := Lib.hid (show min len 20 = len by omega)
    go_enter Try.func23, Try.ntmps23
    go_wp2
    go_ret
    exact ⟨by rw [e.out]; rfl, rfl⟩
end Go.Proofs.Ytfbjgbnlgaajaaa
namespace Go.Proofs.Ytfbjgbnlgaajaaa.P
set_option linter.unusedVariables false
open Go.RowKit Go.ChangeShapes Go.WideShapes Go.Deep

section
variable {H : Type} {enc : TypeId × Value → H} {P : Program} {w : World}

/-- what is known of a slice of records that came in -/
theorem open_recs {t e : TypeId} {fs : Array Field} {fuel : Nat} {ao : Option Addr} {len cap : Nat} {d : DataW H} {pl : List MemPlace} (ht : P.underlying t = some (.slice e)) (he : P.underlying e = some (.struct fs))
    (hone : oneCellFields P fs = true) (hC : P.cellsOf e = fs.size) (hp : 0 < fs.size) (h : DataW.trod enc P w 0 (fun _ => true) true fuel t (Value.slice ao len cap).cells.toList = some (d, pl)) :
    len ≤ cap ∧ cap ≤ maxLen ∧ ((d = .nil ∧ cap = 0) ∨ ∃ xs ys, d = .slice xs ys ∧ xs.length + ys.length = cap) ∧
    (0 < len → ∃ b off, ao = some ⟨b, off, none⟩ ∧ b < w.heap.size ∧ ∀ i, i < len → ∀ j f, fs[j]? = some f → ∃ v y n, w.cell? ⟨b, off + (i * fs.size + j), none⟩ = some v ∧ DataW.trod enc P w 0 (fun _ => true) true n f.type [v] = some y) := by
  have hcs : (Value.slice ao len cap).cells.toList = [.slice ao len cap] := by simp [Value.cells]
  rw [hcs] at h
  rcases open_slice ht h with ⟨h0, hx⟩ | ⟨a, len', cap', m, n, D, Pl, h0, hb, hl, hm, hmm, hx, hi⟩
  · simp only [List.cons.injEq, Value.slice.injEq, and_true] at h0
    obtain ⟨rfl, rfl, rfl⟩ := h0
    simp only [Prod.mk.injEq] at hx
    exact ⟨Nat.le_refl _, by unfold maxLen; omega, .inl ⟨hx.1, rfl⟩, fun h => absurd h (by omega)⟩
  · simp only [List.cons.injEq, Value.slice.injEq, and_true] at h0
    obtain ⟨rfl, rfl, rfl⟩ := h0
    simp only [if_true] at hmm
    subst hmm
    simp only [Prod.mk.injEq] at hx
    refine ⟨hl, hm, .inr ⟨_, _, hx.1, by simp; omega⟩, fun hpos => ?_⟩
    have cell : ∀ i, i < m → ∀ j f, fs[j]? = some f → ∃ v y n', w.cell? (a.add (i * fs.size + j)) = some v ∧ DataW.trod enc P w 0 (fun _ => true) true n' f.type [v] = some y := by
      intro i him j f hj
      obtain ⟨cs', hc, ht'⟩ := hi i him
      rw [hC] at hc
      obtain ⟨ys, n', _, _, hlen, hyl, hf⟩ := DataW.trod_struct he ht'
      obtain ⟨_, hcl, hat⟩ := World.cells?_some hc
      obtain ⟨ho, hk⟩ := hone_of hone j f hj
      have hjl : j < fs.size := (Array.getElem?_eq_some_iff.1 hj).1
      have h1 := hf j f hj
      rw [ho, hk, List.drop_eq_getElem_cons (by omega : j < cs'.length), List.getElem?_eq_getElem (by omega)] at h1
      have hcell := hat j hjl
      rw [List.getElem?_eq_getElem (by omega)] at hcell
      exact ⟨_, _, n', by rw [← add_add]; exact hcell, h1⟩
    obtain ⟨f0, hf0⟩ : ∃ f0, fs[0]? = some f0 := ⟨fs[0], Array.getElem?_eq_getElem hp⟩
    obtain ⟨v0, _, _, hc0, _⟩ := cell 0 (by omega) 0 f0 hf0
    have hsp := World.cell?_spot hc0
    obtain ⟨b, off, sp⟩ := a
    have hsp' : sp = none := by simpa [Addr.add] using hsp
    subst hsp'
    refine ⟨b, off, rfl, ?_, fun i hi' j f hj => ?_⟩
    · have := World.block_lt_of_cell? w _ hc0
      simpa [Addr.add] using this
    · obtain ⟨v, y, n', hc, ht'⟩ := cell i (by omega) j f hj
      exact ⟨v, y, n', by rw [add_plain2] at hc; exact hc, ht'⟩
end

/-- a list out of what is known of each place -/
theorem list_of {α : Type} (d : α) (n : Nat) (R : Nat → α → Prop) (h : ∀ i, i < n → ∃ x, R i x) : ∃ xs : List α, xs.length = n ∧ ∀ i, i < n → R i (xs.getD i d) := by
  induction n with
  | zero => exact ⟨[], rfl, fun i hi => absurd hi (by omega)⟩
  | succ n ih =>
    obtain ⟨xs, hl, hx⟩ := ih fun i hi => h i (by omega)
    obtain ⟨x, hxn⟩ := h n (by omega)
    refine ⟨xs ++ [x], by simp [hl], fun i hi => ?_⟩
    by_cases c : i < n
    · have := hx i c
      rw [List.getD_eq_getElem?_getD, List.getElem?_append_left (by omega), ← List.getD_eq_getElem?_getD]
      exact this
    · obtain rfl : i = n := by omega
      rw [List.getD_eq_getElem?_getD, List.getElem?_append_right (by omega), hl, Nat.sub_self]
      exact hxn

section
variable {H : Type} {enc : TypeId × Value → H} {P : Program} {w : World}
theorem open_raws {t e : TypeId} {f0 f1 f2 f3 : Field} {fuel : Nat} {ao : Option Addr} {len cap : Nat} {d : DataW H} {pl : List MemPlace} (ht : P.underlying t = some (.slice e)) (he : P.underlying e = some (.struct #[f0, f1, f2, f3]))
    (hone : oneCellFields P #[f0, f1, f2, f3] = true) (hC : P.cellsOf e = 4) (t0 : P.underlying f0.type = some (.int .i64)) (t1 : P.underlying f1.type = some (.int .i64)) (t2 : P.underlying f2.type = some (.int .i64)) (t3 : P.underlying f3.type = some .string)
    (h : DataW.trod enc P w 0 (fun _ => true) true fuel t (Value.slice ao len cap).cells.toList = some (d, pl)) :
    ∃ rs : List RawT, rs.length = len ∧ RawRow w w.heap.size ao rs ∧ len ≤ cap ∧ cap ≤ maxLen ∧ ((d = .nil ∧ cap = 0) ∨ ∃ xs ys, d = .slice xs ys ∧ xs.length + ys.length = cap) ∧ ∀ i, i < len → (Lit.int .i64 (rs.getD i raw0).kind).wf = true ∧ (Lit.int .i64 (rs.getD i raw0).a).wf = true ∧ (Lit.int .i64 (rs.getD i raw0).b).wf = true ∧ (rs.getD i raw0).text.size ≤ maxLen := by
  obtain ⟨hl, hm, hd, hrow⟩ := open_recs ht he hone hC (by simp) h
  rcases Nat.eq_zero_or_pos len with h0 | h0
  · subst h0
    exact ⟨[], rfl, fun h => absurd h (by simp), hl, hm, hd, fun i hi => absurd hi (by omega)⟩
  · obtain ⟨b, off, rfl, hb, hc⟩ := hrow h0
    obtain ⟨rs, hrl, hrs⟩ := list_of raw0 len (fun i r => w.cell? ⟨b, off + i * 4, none⟩ = some (.int .i64 r.kind) ∧ w.cell? ⟨b, off + i * 4 + 1, none⟩ = some (.int .i64 r.a) ∧
        w.cell? ⟨b, off + i * 4 + 2, none⟩ = some (.int .i64 r.b) ∧ w.cell? ⟨b, off + i * 4 + 3, none⟩ = some (.string r.text) ∧ (Lit.int .i64 r.kind).wf = true ∧ (Lit.int .i64 r.a).wf = true ∧ (Lit.int .i64 r.b).wf = true ∧ r.text.size ≤ maxLen) (fun i hi => by
      obtain ⟨v0, y0, n0, c0, k0⟩ := hc i hi 0 f0 rfl
      obtain ⟨v1, y1, n1, c1, k1⟩ := hc i hi 1 f1 rfl
      obtain ⟨v2, y2, n2, c2, k2⟩ := hc i hi 2 f2 rfl
      obtain ⟨v3, y3, n3, c3, k3⟩ := hc i hi 3 f3 rfl
      obtain ⟨x0, e0, _, w0⟩ := DataW.trod_int t0 k0
      obtain ⟨x1, e1, _, w1⟩ := DataW.trod_int t1 k1
      obtain ⟨x2, e2, _, w2⟩ := DataW.trod_int t2 k2
      obtain ⟨x3, e3, _, w3⟩ := DataW.trod_string t3 k3
      simp only [List.cons.injEq, and_true] at e0 e1 e2 e3
      subst e0 e1 e2 e3
      refine ⟨⟨x0, x1, x2, x3⟩, ?_, ?_, ?_, ?_, w0, w1, w2, w3⟩
      · simpa using c0
      · simpa [Nat.add_assoc] using c1
      · simpa [Nat.add_assoc] using c2
      · simpa [Nat.add_assoc] using c3)
    exact ⟨rs, hrl, fun _ => ⟨b, off, rfl, hb, fun j hj => ⟨(hrs j (by omega)).1, (hrs j (by omega)).2.1, (hrs j (by omega)).2.2.1, (hrs j (by omega)).2.2.2.1⟩⟩, hl, hm, hd, fun i hi => (hrs i hi).2.2.2.2⟩

theorem open_rngs {t e : TypeId} {f0 f1 : Field} {fuel : Nat} {ao : Option Addr} {len cap : Nat} {d : DataW H} {pl : List MemPlace} (ht : P.underlying t = some (.slice e)) (he : P.underlying e = some (.struct #[f0, f1]))
    (hone : oneCellFields P #[f0, f1] = true) (hC : P.cellsOf e = 2) (t0 : P.underlying f0.type = some (.int .i64)) (t1 : P.underlying f1.type = some (.int .i64))
    (h : DataW.trod enc P w 0 (fun _ => true) true fuel t (Value.slice ao len cap).cells.toList = some (d, pl)) :
    ∃ ps : List (Int × Int), ps.length = len ∧ RRow w w.heap.size ao ps ∧ len ≤ cap ∧ cap ≤ maxLen ∧ ((d = .nil ∧ cap = 0) ∨ ∃ xs ys, d = .slice xs ys ∧ xs.length + ys.length = cap) ∧ ∀ i, i < len → (Lit.int .i64 (ps.getD i (0, 0)).1).wf = true ∧ (Lit.int .i64 (ps.getD i (0, 0)).2).wf = true := by
  obtain ⟨hl, hm, hd, hrow⟩ := open_recs ht he hone hC (by simp) h
  rcases Nat.eq_zero_or_pos len with h0 | h0
  · subst h0
    exact ⟨[], rfl, RRow.nil _ _ _, hl, hm, hd, fun i hi => absurd hi (by omega)⟩
  · obtain ⟨b, off, rfl, hb, hc⟩ := hrow h0
    obtain ⟨ps, hrl, hrs⟩ := list_of ((0 : Int), (0 : Int)) len (fun i r => w.cell? ⟨b, off + i * 2, none⟩ = some (.int .i64 r.1) ∧ w.cell? ⟨b, off + i * 2 + 1, none⟩ = some (.int .i64 r.2) ∧ (Lit.int .i64 r.1).wf = true ∧ (Lit.int .i64 r.2).wf = true) (fun i hi => by
      obtain ⟨v0, y0, n0, c0, k0⟩ := hc i hi 0 f0 rfl
      obtain ⟨v1, y1, n1, c1, k1⟩ := hc i hi 1 f1 rfl
      obtain ⟨x0, e0, _, w0⟩ := DataW.trod_int t0 k0
      obtain ⟨x1, e1, _, w1⟩ := DataW.trod_int t1 k1
      simp only [List.cons.injEq, and_true] at e0 e1
      subst e0 e1
      refine ⟨⟨x0, x1⟩, ?_, ?_, w0, w1⟩
      · simpa using c0
      · simpa [Nat.add_assoc] using c1)
    exact ⟨ps, hrl, fun _ => ⟨b, off, rfl, hb, fun j hj => ⟨(hrs j (by omega)).1, (hrs j (by omega)).2.1⟩⟩, hl, hm, hd, fun i hi => (hrs i hi).2.2⟩

/-- a struct of two numbers, by value -/
theorem open_two {r : Reach} {b0 : Nat} {t : TypeId} {f0 f1 : Field} {v : Value} {d : DataW H} {pl : List MemPlace} (ht : P.underlying t = some (.struct #[f0, f1])) (hone : oneCellFields P #[f0, f1] = true) (hC : P.cellsOf t = 2)
    (t0 : P.underlying f0.type = some (.int .i64)) (t1 : P.underlying f1.type = some (.int .i64)) (hv : Value.okWide P w r b0 t v) (h : DataW.Trod enc P w 0 (fun _ => true) true t v d pl) :
    ∃ x y : Int, v = .agg #[.int .i64 x, .int .i64 y] ∧ (Lit.int .i64 x).wf = true ∧ (Lit.int .i64 y).wf = true := by
  obtain ⟨cs, rfl, hsz⟩ := okWide_struct ht hv
  obtain ⟨l⟩ := cs
  match l, hsz.trans hC with
  | [c0, c1], _ =>
    obtain ⟨fuel, hf⟩ := h
    obtain ⟨xs, n, _, hx, _, hlen, hg⟩ := DataW.trod_struct ht hf
    obtain ⟨o0, k0⟩ := hone_of hone 0 f0 rfl
    obtain ⟨o1, k1⟩ := hone_of hone 1 f1 rfl
    match xs, hlen with
    | [y0, y1], _ =>
      have g0 := hg 0 f0 rfl
      have g1 := hg 1 f1 rfl
      rw [o0, k0] at g0
      rw [o1, k1] at g1
      obtain ⟨x, e0, _, w0⟩ := DataW.trod_int t0 g0
      obtain ⟨y, e1, _, w1⟩ := DataW.trod_int t1 g1
      simp [Value.cells] at e0 e1
      subst e0 e1
      exact ⟨x, y, rfl, w0, w1⟩
end
end Go.Proofs.Ytfbjgbnlgaajaaa.P
namespace Go.Proofs.Ytfbjgbnlgaajaaa
set_option linter.unusedVariables false
open Go.RowKit P

theorem ready_ne {l : List Nat} (h : l.isEmpty = false) : l ≠ [] := by
  intro e
  rw [e] at h
  cases h
theorem fits_reach {t : List Int} : ∀ (ps : List Pc) (a d : Int), fitsT t ps → okPs a ps → d ≤ t.length → reachP d ps ≤ t.length
  | [], a, d, h, ho, hd => hd
  | p :: ps, a, d, h, ho, hd => by
    have h1 := fits_head h ho
    have e : endP p = p.1 + p.2.length := rfl
    exact fits_reach ps (endP p) (endP p) (fits_tail h ho) ho.2.2 (by omega)
/-- what is held is the text's, what was taken is its beginning -/
structure AllI (t : List Int) (g : Ga) (got : List Int) : Prop where
  sm : Small g
  win : g.window = 250
  fin : g.final = -1 ∨ g.final = t.length
  done : g.done = got.length
  pre : got = t.take got.length
  le : got.length ≤ t.length
  fits : fitsT t g.held
theorem all_start (t : List Int) : AllI t ⟨0, [], -1, 250⟩ [] :=
  ⟨⟨by decide +kernel, by decide, by decide⟩, rfl, .inl rfl, rfl, by simp, Nat.zero_le _, fits_nil t⟩
theorem all_ref {t got : List Int} {g : Ga} (h : AllI t g got) (ht : t.length ≤ 200) (lo hi : Nat) (fb : Bool) (hlo : lo ≤ hi) (hhi : hi ≤ t.length) (hf : fb = true → hi = t.length) :
    refG g lo ((t.drop lo).take (hi - lo)).length fb = 0 ∧ ((t.drop lo).take (hi - lo)).length = hi - lo := by
  have hl : ((t.drop lo).take (hi - lo)).length = hi - lo := by rw [List.length_take, List.length_drop]; omega
  obtain ⟨o1, o2, o3, o4, o5, o6, o7⟩ := h.sm.ok
  have hr := fits_reach g.held (g.done - 1) g.done h.fits o5 (by have := h.done; have := h.le; omega)
  have hfin := h.fin
  have hwin := h.win
  refine ⟨?_, hl⟩
  rw [hl]
  unfold refG
  rw [if_neg (fun k => k h.sm.fault), if_neg (by omega), if_neg (fun k => by
    obtain ⟨k1, k2⟩ := k
    rcases k2 with k2 | ⟨k2, k3⟩
    · omega
    · have := hf k2; omega), if_neg (fun k => by have := hf k.1; have := k.2; omega), if_neg (by omega)]
theorem all_put {t got : List Int} {g : Ga} (h : AllI t g got) (ht : t.length ≤ 200) (lo hi : Nat) (fb : Bool) (hlo : lo ≤ hi) (hhi : hi ≤ t.length) (hf : fb = true → hi = t.length) :
    ((putG g lo ((t.drop lo).take (hi - lo)) fb).2 = 0 ∧ AllI t (putG g lo ((t.drop lo).take (hi - lo)) fb).1 got) ∨ (putG g lo ((t.drop lo).take (hi - lo)) fb).2 = 8 := by
  obtain ⟨c1, hl⟩ := all_ref h ht lo hi fb hlo hhi hf
  obtain ⟨o1, o2, o3, o4, o5, o6, o7⟩ := h.sm.ok
  have e := putG_ref g lo ((t.drop lo).take (hi - lo)) fb
  rw [if_neg (fun k => k c1)] at e
  by_cases c2 : 4 < (putP g lo ((t.drop lo).take (hi - lo))).length
  · rw [if_pos c2] at e
    exact .inr (by rw [e])
  · rw [if_neg c2] at e
    have e0 : (putG g lo ((t.drop lo).take (hi - lo)) fb).2 = 0 := by rw [e]
    have sp := h.sm.put e0
    refine .inl ⟨e0, sp.1, sp.2.1.trans h.win, ?_, sp.2.2.trans h.done, h.pre, h.le, ?_⟩
    · rw [e]
      simp only [hl]
      cases fb with
      | false => simpa using h.fin
      | true => have := hf rfl; right; simp; omega
    · rw [e]
      exact fits_put h.fits o5 o1 (by omega)
theorem all_take {t got : List Int} {g : Ga} (h : AllI t g got) : (takG g).2.2.2 = 0 ∧ AllI t (takG g).1 (got ++ (takG g).2.1) := by
  obtain ⟨o1, o2, o3, o4, o5, o6, o7⟩ := h.sm.ok
  cases hh : g.held with
  | nil =>
    rw [takG_nil h.sm.fault hh]
    exact ⟨rfl, by simpa using h⟩
  | cons p ps =>
    by_cases hp : p.1 = g.done
    · rw [takG_yes h.sm.fault hh hp]
      rw [hh] at o4 o5 o6 o7
      have f0 : fitsT t (p :: ps) := hh ▸ h.fits
      have f1 := fits_head f0 o5
      have he : endP p = g.done + p.2.length := by unfold endP; rw [hp]
      have hr : reachP g.done (p :: ps) = reachP (endP p) ps := rfl
      rw [hr, he] at o6 o7
      have hd := h.done
      have q : p.1.toNat = got.length := by omega
      have f2 := f1.2.2
      rw [q] at f2
      refine ⟨rfl, ⟨⟨by simp only; omega, o2, o3, by simp only [List.length_cons] at o4; simp only; omega, o5.2.2.mono (by rw [he]; simp only; omega), o6, o7⟩, h.sm.win, h.sm.fin⟩, h.win, h.fin, ?_, ?_, ?_, fits_tail f0 o5⟩
      · simp only [List.length_append]; omega
      · simp only [List.length_append]
        rw [List.take_add, ← h.pre, ← f2]
      · simp only [List.length_append]; have := f1.2.1; omega
    · rw [takG_no h.sm.fault hh hp]
      exact ⟨rfl, by simpa using h⟩
/-- the rest of the text, put -/
def restP (t : List Int) (n : Nat) : List Pc := if n = t.length then [] else [((n : Int), t.drop n)]
theorem all_end {t got : List Int} {h0 : List Pc} {gf : Int} {n : Nat} (hn : got.length = n) (h : AllI t ⟨(n : Int), h0, gf, 250⟩ got) (ht : t.length ≤ 200) :
    putG ⟨(n : Int), h0, gf, 250⟩ n (t.drop n) true = (⟨(n : Int), restP t n, (t.length : Int), 250⟩, 0) ∧ Small ⟨(n : Int), restP t n, (t.length : Int), 250⟩ := by
  subst hn
  have e1 : (t.drop got.length).take (t.length - got.length) = t.drop got.length := List.take_of_length_le (by rw [List.length_drop]; omega)
  have hle := h.le
  obtain ⟨c1, hl⟩ := all_ref h ht got.length t.length true h.le (Nat.le_refl _) (fun _ => rfl)
  rw [e1] at c1 hl
  obtain ⟨o1, o2, o3, o4, o5, o6, o7⟩ := h.sm.ok
  have hp : putP ⟨(got.length : Int), h0, gf, 250⟩ got.length (t.drop got.length) = restP t got.length := by
    unfold putP restP
    simp only
    rw [show max (got.length : Int) (got.length : Int) = got.length by omega, show ((got.length : Int) - got.length).toNat = 0 by omega, List.drop_zero]
    exact fits_all h.fits o5 h.le
  have hlr : (restP t got.length).length ≤ 1 := by unfold restP; split <;> simp
  have e : putG ⟨(got.length : Int), h0, gf, 250⟩ got.length (t.drop got.length) true = (⟨(got.length : Int), restP t got.length, (t.length : Int), 250⟩, 0) := by
    rw [putG_ref, if_neg (fun k => k c1), hp, if_neg (by omega)]
    simp only [hl, if_true]
    rw [show (got.length : Int) + ((t.length - got.length : Nat) : Int) = t.length by omega]
  refine ⟨e, ?_⟩
  have sp := h.sm.put (off := got.length) (d := t.drop got.length) (fin := true) (by rw [e])
  rw [e] at sp
  exact sp.1
theorem all_last {t got : List Int} {n : Nat} (hn : got.length = n) (h1 : got = t.take n) (hle : n ≤ t.length) (sm : Small ⟨(n : Int), restP t n, (t.length : Int), 250⟩) :
    ∃ q bs, takG ⟨(n : Int), restP t n, (t.length : Int), 250⟩ = (q, bs, true, 0) ∧ got ++ bs = t := by
  by_cases c : n = t.length
  · have hr : restP t n = [] := if_pos c
    rw [hr] at sm ⊢
    refine ⟨⟨(n : Int), [], (t.length : Int), 250⟩, [], ?_, by rw [h1, List.append_nil]; exact List.take_of_length_le (by omega)⟩
    rw [takG_nil sm.fault rfl]
    simp [c]
  · have hr : restP t n = [((n : Int), t.drop n)] := if_neg c
    rw [hr] at sm ⊢
    refine ⟨⟨(n : Int) + ((t.drop n).length : Int), [], (t.length : Int), 250⟩, t.drop n, ?_, by rw [h1]; exact List.take_append_drop n t⟩
    rw [takG_yes (p := ((n : Int), t.drop n)) (ps := []) sm.fault rfl rfl]
    simp only [List.length_drop]
    rw [show (n : Int) + ((t.length - n : Nat) : Int) = t.length by omega]
    simp
/-- a row of one's own, kept -/
theorem own_below2 {w w' : World} {base e s n : Nat} {v : Value} {xs : List Value} (o : w.ownsRow base e s v n xs) (b : Below w.heap.size w w') : w'.ownsRow base e s v n xs :=
  World.ownsRow.kept o (⟨b.os, b.tape, b.output, b.size, fun k hk _ => b.block k hk⟩ : w.grownBy w' none) (none_or v)
theorem own_ne {w : World} {base e s n b : Nat} {v : Value} {xs : List Value} (o : w.ownsRow base e s v n xs) (h : b < base) : v.ownBlock = none ∨ v.ownBlock ≠ some b :=
  .inr fun q => by have := (World.ownsRow.lt o b q).1; omega
theorem own_belowV {w w' : World} {V e s n : Nat} {v : Value} {xs : List Value} (o : w.ownsRow (V + 1) e s v n xs) (b : Below V w w') (k : KeepsS (fun j => j = V) w w') : w'.ownsRow (V + 1) e s v n xs :=
  World.ownsRow.kept o (⟨b.os, b.tape, b.output, b.size, fun j hj hne => k.block j (fun q => hne (by rw [q])) hj⟩ : w.grownBy w' (some V)) (own_ne o (Nat.lt_succ_self V))
/-- the bytes taken laid behind those that were -/
theorem app_done {V lo m : Nat} {X w w' : World} {v v' s : Value} {ys : List Value} {ps : List Pc} {T : TypeId} (o2 : w'.ownsRow (V + 1) T 1 v' m ys) (g2 : w.grownBy w' v.ownBlock) (hV : ∀ j, v.ownBlock = some j → V + 1 ≤ j ∧ j < w.heap.size)
    (hlo : ∀ j, v.ownBlock = some j → j < lo) (hbe : Below X.heap.size X w) (h1 : V < lo) (h2 : V < X.heap.size) (pf : PFS X (fun j => j < lo) s ps) :
    w'.ownsRow (V + 1) T 1 v' m ys ∧ Below V X w' ∧ w'.heap[V]? = X.heap[V]? ∧ PFS w' (fun j => j = V) s ps := by
  have hsz := hbe.size
  refine ⟨o2, (hbe.mono (Nat.le_of_lt h2)).grown g2 (by omega) (fun k hk => by have := (hV k hk).1; omega), (g2.block V (by omega) (fun q => by have := (hV V q.symm).1; omega)).trans (hbe.block V h2), ?_⟩
  exact (pf.on (KeepsS.trans (KeepsS.below hbe) ⟨g2.size, fun k k1 k2 => g2.block k k2 (fun q => k1 (hlo k q.symm))⟩)).anti (fun j hj => by cases hj; exact h1)
/-- a part of a text, empty or not -/
theorem txt_part {w : World} {B lo hi n c : Nat} {A SA : Option Addr} {zs : List Int} (h : BSl w B (.slice A n c) zs) (hl : zs.length = n) (h1 : lo ≤ hi) (h2 : hi ≤ n) (e : (if c = lo then A else Option.map (fun x => x.add lo) A) = SA) :
    BSl w B (.slice SA (hi - lo) (c - lo)) ((zs.drop lo).take (hi - lo)) := by
  rcases Nat.lt_or_ge lo hi with q | q
  · obtain ⟨b, o, rfl, h3, h4, h5⟩ := bsl_part h hl lo hi q h2
    rw [if_neg (by omega)] at e
    subst e
    rw [Option.map_some, add_plain2]
    exact h5
  · obtain rfl : lo = hi := by omega
    obtain ⟨A', c', e2, h3, h4, h5, h6⟩ := h.ex
    injection e2 with e3 e4 e5
    subst e3 e5
    have hz : (zs.drop lo).take (lo - lo) = [] := by rw [Nat.sub_self, List.take_zero]
    rw [hz, Nat.sub_self]
    refine ⟨_, _, rfl, Nat.zero_le _, by omega, fun k => ?_, ⟨Byt.nil, fun k => absurd k (Nat.lt_irrefl 0)⟩⟩
    subst e
    by_cases q2 : c = lo
    · omega
    · rw [if_neg q2] at k
      have : A = none := by cases A with | none => rfl | some x => cases k
      have := h5 this
      omega
end Go.Proofs.Ytfbjgbnlgaajaaa
namespace Go.Proofs.Ytfbjgbnlgaajaaa
set_option linter.unusedVariables false
open Go.RowKit P
structure All9 (w0 : World) (g : Ga) (A : Option Addr) (n c lo hi : Nat) (tA SA : Option Addr) (tL tc : Nat) (fb : Bool) (r : Ga) (xe : Int) (V0 V1 V2 V3 V4 V5 V6 V7 V8 V9 V13 V16 : Value) (b0 b1 b2 b3 b4 b5 b6 b7 b8 b9 b10 b11 b12 b13 b14 b15 b16 : Bool) (x0 x1 x2 x3 x4 x5 x6 x7 x8 x9 x10 x11 x12 x13 x14 x15 x16 : Value) (w : World) : Prop where
  be : Below w0.heap.size w0 w
  d5 : b5 = true → b2 = true ∧ b3 = true ∧ b4 = true
  d8 : b8 = true → b7 = true
  d9 : b9 = true → b6 = true ∧ b8 = true
  d10 : b10 = true → b0 = true ∧ b1 = true ∧ b5 = true ∧ b9 = true
  d11 : b11 = true → b10 = true
  d12 : b12 = true → b11 = true
  d13 : b13 = true → b11 = true
  d15 : b15 = true → b0 = true ∧ b1 = true ∧ b2 = true ∧ b3 = true ∧ b4 = true ∧ b5 = true ∧ b6 = true ∧ b7 = true ∧ b8 = true ∧ b9 = true ∧ b10 = true ∧ b11 = true ∧ b12 = true ∧ b14 = true
  d16 : b16 = true → b0 = true ∧ b1 = true ∧ b2 = true ∧ b3 = true ∧ b4 = true ∧ b5 = true ∧ b6 = true ∧ b7 = true ∧ b8 = true ∧ b9 = true ∧ b10 = true ∧ b11 = true ∧ b12 = true ∧ b13 = true ∧ b14 = true ∧ b15 = true
  t5 : b10 = true → ∃ u, x10 = .tuple #[u, .int .i64 xe]
  t6 : b11 = true → ∃ u, x11 = .tuple #[u, .int .i64 xe]
  h0 : b0 = true → x0 = V0
  h1 : b1 = true → x1 = V1
  h2 : b2 = true → x2 = V2
  h3 : b3 = true → x3 = V3
  h4 : b4 = true → x4 = V4
  h5 : b5 = true → x5 = V5
  h6 : b6 = true → x6 = V6
  h7 : b7 = true → x7 = V7
  h8 : b8 = true → x8 = V8
  h9 : b9 = true → x9 = V9
  h10 : b10 = true → b15 = false → ∃ u, x10 = .tuple #[u, .int .i64 xe] ∧ GaFS w (SX w0 b14 x14) u r
  h11 : b11 = true → b15 = false → ∃ u, x11 = .tuple #[u, .int .i64 xe] ∧ GaFS w (SX w0 b14 x14) u r
  h12 : b12 = true → b15 = false → GaFS w (SX w0 b14 x14) x12 r
  h13 : b13 = true → x13 = V13
  h14 : b14 = true → b15 = false → ∃ k, x14 = .pointer (some ⟨k, 0, none⟩) ∧ w0.heap.size ≤ k ∧ w.heap[k]? = some (.cells #[.int .i64 0, .slice none 0 0, .int .i64 0, .int .i64 0] 24 (0, 0))
  h15 : b15 = true → ∃ k A n c, x14 = .pointer (some ⟨k, 0, none⟩) ∧ NewV w0 k r A n c w
  h16 : b16 = true → x16 = V16
structure All18a (w0 : World) (V k5 lc : Nat) (r2 : Ga) (A5 : Option Addr) (n5 c5 : Nat) (got bs : List Int) (Ag : Option Addr) (cg : Nat) (Ad5 : Option Addr) (cd5 : Nat) (V0 V1 V2 : Value) (fb0 fb1 fb2 fb3 fb4 fb5 : Bool) (fx0 fx1 fx2 fx3 fx4 fx5 : Value) (w : World) : Prop where
  be : fb3 = false → Below w0.heap.size w0 w
  d3 : fb3 = true → fb1 = true ∧ fb2 = true
  d4 : fb4 = true → fb0 = true ∧ fb3 = true
  d5 : fb5 = true → fb0 = true ∧ fb1 = true ∧ fb2 = true ∧ fb3 = true ∧ fb4 = true
  kb : fb4 = false → w.heap[k5]? = w0.heap[k5]?
  fx10 : fb5 = false → fx5 = .slice Ag got.length cg
  h0 : fb0 = true → fx0 = V0
  h1 : fb1 = true → fx1 = V1
  h2 : fb2 = true → fx2 = V2
  h3 : fb3 = true → fb4 = false → ∃ Ag' cg', fx3 = .slice Ag' (got.length + bs.length) cg' ∧ w.ownsRow (V + 1) 5 1 (.slice Ag' (got.length + bs.length) cg') (got.length + bs.length) (got.map (.int .u8) ++ bs.map (.int .u8)) ∧ Below V w0 w ∧ w.heap[V]? = w0.heap[V]? ∧ PFS w (fun j => j = V) (.slice A5 n5 c5) r2.held
  h4 : fb4 = true → GW w V r2 A5 n5 c5 ∧ Below V w0 w ∧ ∃ Ag' cg', fx3 = .slice Ag' (got.length + bs.length) cg' ∧ w.ownsRow (V + 1) 5 1 (.slice Ag' (got.length + bs.length) cg') (got.length + bs.length) (got.map (.int .u8) ++ bs.map (.int .u8))
  h5 : fb5 = true → fx5 = fx3
structure All18b (w0 : World) (V k5 lc : Nat) (r2 : Ga) (A5 : Option Addr) (n5 c5 : Nat) (got bs : List Int) (Ag : Option Addr) (cg : Nat) (Ad5 : Option Addr) (cd5 : Nat) (V0 V1 V2 : Value) (fb0 fb1 fb2 fb3 fb4 fb5 : Bool) (fx0 fx1 fx2 fx3 fx4 fx5 : Value) (w : World) : Prop where
  be : fb3 = false → Below w0.heap.size w0 w
  d3 : fb3 = true → fb1 = true ∧ fb2 = true
  d4 : fb4 = true → fb0 = true ∧ fb3 = true
  d5 : fb5 = true → fb0 = true ∧ fb1 = true ∧ fb2 = true ∧ fb3 = true ∧ fb4 = true
  kb : fb4 = false → w.heap[k5]? = w0.heap[k5]?
  fx10 : fb5 = false → fx5 = .slice Ag got.length cg
  h0 : fb0 = true → fx0 = V0
  h1 : fb1 = true → fx1 = V1
  h2 : fb2 = true → fx2 = V2
  h3 : fb3 = true → fb4 = false → ∃ Ag' cg', fx3 = .slice Ag' (got.length + bs.length) cg' ∧ w.ownsRow (V + 1) 5 1 (.slice Ag' (got.length + bs.length) cg') (got.length + bs.length) (got.map (.int .u8) ++ bs.map (.int .u8)) ∧ Below V w0 w ∧ w.heap[V]? = w0.heap[V]? ∧ PFS w (fun j => j = V) (.slice A5 n5 c5) r2.held
  h4 : fb4 = true → GW w V r2 A5 n5 c5 ∧ Below V w0 w ∧ ∃ Ag' cg', fx3 = .slice Ag' (got.length + bs.length) cg' ∧ w.ownsRow (V + 1) 5 1 (.slice Ag' (got.length + bs.length) cg') (got.length + bs.length) (got.map (.int .u8) ++ bs.map (.int .u8))
  h5 : fb5 = true → fx5 = fx3
structure All21 (w0 : World) (V dn : Nat) (gf : Int) (ps9 : List Pc) (A : Option Addr) (n c : Nat) (tA SB : Option Addr) (tL tc : Nat) (V0 V1 V2 V3 V4 V5 V6 V7 V11 V13 : Value) (eb0 eb1 eb2 eb3 eb4 eb5 eb6 eb7 eb8 eb9 eb10 eb11 eb12 eb13 : Bool) (ex0 ex1 ex2 ex3 ex4 ex5 ex6 ex7 ex8 ex9 ex10 ex11 ex12 ex13 : Value) (w : World) : Prop where
  be : eb12 = false → Below w0.heap.size w0 w
  d5 : eb5 = true → eb4 = true
  d6 : eb6 = true → eb3 = true ∧ eb5 = true
  d7 : eb7 = true → eb2 = true ∧ eb6 = true
  d8 : eb8 = true → eb0 = true ∧ eb1 = true ∧ eb7 = true
  d9 : eb9 = true → eb8 = true
  d10 : eb10 = true → eb9 = true
  d11 : eb11 = true → eb9 = true
  d12 : eb12 = true → eb0 = true ∧ eb1 = true ∧ eb2 = true ∧ eb3 = true ∧ eb4 = true ∧ eb5 = true ∧ eb6 = true ∧ eb7 = true ∧ eb8 = true ∧ eb9 = true ∧ eb10 = true
  d13 : eb13 = true → eb0 = true ∧ eb1 = true ∧ eb2 = true ∧ eb3 = true ∧ eb4 = true ∧ eb5 = true ∧ eb6 = true ∧ eb7 = true ∧ eb8 = true ∧ eb9 = true ∧ eb10 = true ∧ eb11 = true ∧ eb12 = true
  t5 : eb8 = true → ∃ u, ex8 = .tuple #[u, .int .i64 0]
  t6 : eb9 = true → ∃ u, ex9 = .tuple #[u, .int .i64 0]
  h0 : eb0 = true → ex0 = V0
  h1 : eb1 = true → ex1 = V1
  h2 : eb2 = true → ex2 = V2
  h3 : eb3 = true → ex3 = V3
  h4 : eb4 = true → ex4 = V4
  h5 : eb5 = true → ex5 = V5
  h6 : eb6 = true → ex6 = V6
  h7 : eb7 = true → ex7 = V7
  h8 : eb8 = true → eb12 = false → ∃ u, ex8 = .tuple #[u, .int .i64 0] ∧ GaFS w (fun j => j < w0.heap.size) u ⟨(dn : Int), ps9, (tL : Int), 250⟩
  h9 : eb9 = true → eb12 = false → ∃ u, ex9 = .tuple #[u, .int .i64 0] ∧ GaFS w (fun j => j < w0.heap.size) u ⟨(dn : Int), ps9, (tL : Int), 250⟩
  h10 : eb10 = true → eb12 = false → GaFS w (fun j => j < w0.heap.size) ex10 ⟨(dn : Int), ps9, (tL : Int), 250⟩
  h11 : eb11 = true → ex11 = V11
  h12 : eb12 = true → ∃ A n c, GW w V ⟨(dn : Int), ps9, (tL : Int), 250⟩ A n c ∧ Below V w0 w ∧ KeepsS (fun j => j = V) w0 w
  h13 : eb13 = true → ex13 = V13
set_option maxRecDepth 100000 in
set_option maxHeartbeats 8000000 in
theorem gatherAll_walk (a0 : ByteArray) (a1 : Int) (RA : Option Addr) (len cap : Nat) (rs : List RawT) (w0 : World) (h : RawRow w0 w0.heap.size RA rs) (hl : rs.length = len) (hlc : len ≤ cap) (hcm : cap ≤ maxLen) (hs0 : a0.size ≤ maxLen) :
    Calls Try.prog 7 #[.string a0, .int .i64 a1, .slice RA len cap] w0 fun e w' => e = .returned (.bool true) ∧ Below w0.heap.size w0 w' := by
  have HR := Lib.hid h
  have HL := Lib.hid hl
  have HT := Lib.hid (fun w => text_any a0 a1 200 (by omega) hs0 w)
  have H25 := Lib.hid (fun w => gaBegin_F 250 w (by omega))
  rw [show begG 250 = (⟨0, [], -1, 250⟩, 0) by kernel_rfl] at H25
  have HSM := Lib.hid (fun w => some20 RA len cap w hlc hcm)
  obtain ⟨i0, hi0, hz0, hz1, hz2⟩ := info_parts infoB1
  have HI := Lib.hid hi0
  have HZ := Lib.hid hz0
  have HZ1 := Lib.hid hz1
  have HZ2 := Lib.hid hz2
  obtain ⟨N, hN⟩ : ∃ N, min len 20 = N := ⟨_, rfl⟩
  have n1 : N ≤ 20 := by omega
  have n2 : N ≤ len := by omega
  rw [hN] at HSM
  clear h hl hlc hcm hs0 hi0 hz0 hz1 hz2 hN
  go_enter Try.func7, Try.ntmps7
  go_wp2_with fail
  refine (HT.out _).mono ?_
  rintro e w1 ⟨⟨t, tA, tc, rfl, htl, htb⟩, b1⟩
  have ht0 : (t.length : Int) ≤ 200 := by have : (t.length : Int) < 201 := by rw [htl]; exact Int.emod_lt_of_pos _ (by decide)
                                          omega
  have B1 := Lib.hid b1
  have HTB := Lib.hid htb
  clear b1 htb htl HT
  go_wp2_with fail
  refine (H25.out _).mono ?_
  rintro e w3 ⟨b3, u3, rfl, hu3⟩
  obtain ⟨A3, n3, c3, rfl, p3⟩ := hu3.slice
  have BFV := Lib.hid (B1.out.trans (b3.mono B1.out.size))
  have HT3 := Lib.hid ((HTB.out.on (Keeps.below b3)).now)
  have VX0 := Lib.hid (GW.new (g := ⟨0, [], -1, 250⟩) p3.toS)
  have BVX0 := Lib.hid ((Below.refl w3.heap.size w3).alloc (Nat.le_refl _) (.cells #[.int .i64 0, .slice A3 n3 c3, .int .i64 (-1), .int .i64 250] 24))
  have BX0 := Lib.hid (BFV.out.alloc BFV.out.size (.cells #[.int .i64 0, .slice A3 n3 c3, .int .i64 (-1), .int .i64 250] 24))
  clear b3 hu3 p3 HTB B1 H25
  obtain ⟨V, hV⟩ : ∃ V, w3.heap.size = V := ⟨_, rfl⟩
  obtain ⟨X3, hX3⟩ : ∃ W, w3.alloc (.cells #[.int .i64 0, .slice A3 n3 c3, .int .i64 (-1), .int .i64 250] 24) = W := ⟨_, rfl⟩
  have HVW := Lib.hid (show w0.heap.size ≤ V from hV ▸ BFV.out.size)
  rw [hV] at VX0 BVX0
  rw [hX3] at VX0 BVX0 BX0
  -- the text, in every later world
  have HTX := Lib.hid (fun w' (hb : Below V w3 w') => (show BSl w' w'.heap.size (.slice tA t.length tc) t from by
    have q := HT3.out
    rw [hV] at q
    exact (q.below hb).more (show V ≤ w'.heap.size from by rw [← hV]; exact hb.size)))
  obtain ⟨tcl, tcm, tcn, HBYT⟩ : t.length ≤ tc ∧ tc ≤ maxLen ∧ (tA = none → tc = 0) ∧ Hid (Byt t) := by
    obtain ⟨A', c', e, h1, h2, h3, h4⟩ := HT3.out.ex
    injection e with e1 e2 e3
    subst e1 e3
    exact ⟨h1, h2, h3, Lib.hid h4.1⟩
  have TSM := Lib.hid (show t.length ≤ 200 by omega)
  have IA0 := Lib.hid (all_start t)
  obtain ⟨tL, htL⟩ : ∃ m, t.length = m := ⟨_, rfl⟩
  rw [htL] at HTX tcl ht0
  have HTLEN := Lib.hid htL
  unfold maxLen at tcm
  have tl0 : tL ≤ 200 := by omega
  have TPART := Lib.hid (fun lo hi (h1 : lo ≤ hi) (h2 : hi ≤ tL) SA (e : (if tc = lo then tA else Option.map (fun x => x.add lo) tA) = SA) w' (hb : Below V w3 w') => txt_part (HTX.out w' hb) HTLEN.out h1 h2 e)
  rw [htL]
  clear htL HT3
  go_wp2_with fail
  refine (HSM.out _).mono ?_
  rintro e w' ⟨rfl, rfl⟩
  go_wp2_with fail
  try rw [hX3]
  go_loopg [10, 37] N (fun gk bv iv wr => ∃ (kk : Nat) (g : Ga) (A : Option Addr) (n c : Nat) (got : List Int) (Ag : Option Addr) (cg : Nat), bv = .slice Ag got.length cg ∧ iv = .int .i64 kk ∧ kk + gk = N ∧ Hid (Below w0.heap.size w0 wr) ∧ Hid (Below V w3 wr) ∧ Hid (GW wr V g A n c) ∧ Hid (wr.ownsRow (V + 1) 5 1 (.slice Ag got.length cg) got.length (got.map (.int .u8))) ∧ Hid (AllI t g got))
  case atStart => exact ⟨0, ⟨0, [], -1, 250⟩, A3, n3, c3, [], none, 0, rfl, rfl, by omega, BX0, BVX0, VX0, Lib.hid ⟨rfl, .inl ⟨rfl, rfl⟩⟩, IA0⟩
  case round =>
    obtain ⟨kk, g, A, n, c, got, Ag, cg, rfl, rfl, hkg, BXr, BVXr, VXr, OXr, IA⟩ := hrel
    clear hX3 BX0 BVX0 VX0 IA0 HSM
    by_cases hlt : kk < N
    · have hltI : (kk : Int) < (N : Int) := by omega
      obtain ⟨rb, roff, rfl, hrb, hc⟩ := (HR.out.below BXr.out) (by rw [HL.out]; omega)
      obtain ⟨c0, c1, c2, c3⟩ := hc kk (by rw [HL.out]; omega)
      obtain ⟨⟨kd, ra, rh, tx⟩, hq⟩ : ∃ p, rs.getD kk raw0 = p := ⟨_, rfl⟩
      rw [hq] at c0 c1 c2 c3
      simp only at c0 c1 c2 c3
      clear hc hq
      -- where the part begins and ends
      have lo0 : 0 ≤ ra % ((tL : Int) + 1) := Int.emod_nonneg _ (by omega)
      have lo1 : ra % ((tL : Int) + 1) < (tL : Int) + 1 := Int.emod_lt_of_pos _ (by omega)
      have hpa := fun w => picked_any ra ((tL : Int) + 1) (by omega) (by omega) w
      obtain ⟨lo, hlo⟩ : ∃ lo : Nat, ra % ((tL : Int) + 1) = (lo : Int) := ⟨(ra % ((tL : Int) + 1)).toNat, by omega⟩
      rw [hlo] at hpa lo1
      have HPA := Lib.hid hpa
      have hd0 : 0 ≤ rh % ((tL : Int) - (lo : Int) + 1) := Int.emod_nonneg _ (by omega)
      have hd1 : rh % ((tL : Int) - (lo : Int) + 1) < (tL : Int) - (lo : Int) + 1 := Int.emod_lt_of_pos _ (by omega)
      have hpb := fun w => picked_any rh ((tL : Int) - (lo : Int) + 1) (by omega) (by omega) w
      obtain ⟨ld, hld⟩ : ∃ ld : Nat, rh % ((tL : Int) - (lo : Int) + 1) = (ld : Int) := ⟨(rh % ((tL : Int) - (lo : Int) + 1)).toNat, by omega⟩
      rw [hld] at hpb hd1
      have HPB := Lib.hid hpb
      obtain ⟨hi, hhi⟩ : ∃ hi : Nat, hi = lo + ld := ⟨_, rfl⟩
      have HHI := Lib.hid hhi
      have hiL : hi ≤ tL := by omega
      have loh : lo ≤ hi := by omega
      have hic : hi ≤ tc := by omega
      have km0 : 0 ≤ kd % 3 := Int.emod_nonneg _ (by decide)
      have hpk := fun w => picked_any kd 3 (by omega) (by omega) w
      obtain ⟨km, hkm⟩ : ∃ x, kd % 3 = x := ⟨_, rfl⟩
      rw [hkm] at hpk
      have HPKk := Lib.hid hpk
      have hwa : IntKind.i64.wrap ((tL : Int) + 1) = (tL : Int) + 1 := by rw [IntKind.wrap_i64]; omega
      have hwb : IntKind.i64.wrap ((tL : Int) - (lo : Int)) = (tL : Int) - (lo : Int) := by rw [IntKind.wrap_i64]; omega
      have hwc : IntKind.i64.wrap ((tL : Int) - (lo : Int) + 1) = (tL : Int) - (lo : Int) + 1 := by rw [IntKind.wrap_i64]; omega
      have hwd : IntKind.i64.wrap ((lo : Int) + (ld : Int)) = (hi : Int) := by rw [IntKind.wrap_i64]; omega
      have hwk : IntKind.i64.wrap ((kk : Int) + 1) = (kk : Int) + 1 := by rw [IntKind.wrap_i64]; omega
      obtain ⟨fb, hfb⟩ : ∃ fb, ((hi : Int) == (tL : Int)) = fb := ⟨_, rfl⟩
      have hfx : fb = true → hi = t.length := fun q => by rw [HTLEN.out]; rw [q] at hfb; have := beq_iff_eq.1 hfb; omega
      have hx := all_put IA.out TSM.out lo hi fb loh (by rw [HTLEN.out]; exact hiL) hfx
      have hpl := (all_ref IA.out TSM.out lo hi fb loh (by rw [HTLEN.out]; exact hiL) hfx).2
      have hp := fun v v2 w hv hd => gaPut_F v v2 g lo ((t.drop lo).take (hi - lo)) fb w hv IA.out.sm.wf IA.out.sm.len hd (by rw [hpl]; have := IA.out.sm.sum; omega) (by omega)
      obtain ⟨⟨r, xe⟩, hr⟩ : ∃ q, putG g lo ((t.drop lo).take (hi - lo)) fb = q := ⟨_, rfl⟩
      rw [hr] at hx hp
      simp only at hx
      have HX := Lib.hid hx
      have HP := Lib.hid hp
      obtain ⟨SA, hSA⟩ : ∃ SA, (if tc = lo then tA else Option.map (fun x => x.add lo) tA) = SA := ⟨_, rfl⟩
      have HTP := Lib.hid (TPART.out lo hi loh hiL SA hSA)
      -- the raw thing in its variable
      have NB := Lib.hid (heap_alloc_new wr (.cells #[.int .i64 kd, .int .i64 ra, .int .i64 rh, .string tx] 43))
      have BB := Lib.hid ((Below.refl wr.heap.size wr).alloc (Nat.le_refl _) (.cells #[.int .i64 kd, .int .i64 ra, .int .i64 rh, .string tx] 43))
      have hVr := lt_of_block VXr.out.blk
      have BX := Lib.hid (BXr.out.trans (BB.out.mono BXr.out.size))
      have BVX := Lib.hid (BVXr.out.trans (BB.out.mono (Nat.le_of_lt hVr)))
      have VX := Lib.hid (VXr.out.below BB.out)
      have OX := Lib.hid (own_below2 OXr.out BB.out)
      obtain ⟨kb, hkb⟩ : ∃ k, wr.heap.size = k := ⟨_, rfl⟩
      obtain ⟨X, hX⟩ : ∃ Y, wr.alloc (.cells #[.int .i64 kd, .int .i64 ra, .int .i64 rh, .string tx] 43) = Y := ⟨_, rfl⟩
      rw [hkb] at NB hVr
      rw [hX] at NB BX BVX VX OX
      have HBOX := Lib.hid (fun w' (q : KeepsS (fun j => j = V) X w') => (q.block kb (fun z => Nat.ne_of_gt hVr z) (lt_of_block NB.out)).trans NB.out)
      have hVX := lt_of_block VX.out.blk
      obtain ⟨p0, p1, p2, p3⟩ := bkG NB.out
      clear hlo hld hhi hkm hpa hpb hpk hx hpl hp hr hfx km0 lo0 hd0 BB BXr BVXr VXr OXr NB
      go_wp2_with fail
      refine (HPA.out _).mono ?_
      rintro e w' ⟨rfl, rfl⟩
      go_wp2_with fail
      refine (HPB.out _).mono ?_
      rintro e w' ⟨rfl, rfl⟩
      go_wp2_with fail
      try rw [hX]
      clear c0 c1 c2 c3 p0 p1 p2 p3 hX hkb hwa hwb hwc hwd
      refine wp_region_inv (fun listed a w => ∃ (b0 b1 b2 b3 b4 b5 b6 b7 b8 b9 b10 b11 b12 b13 b14 b15 b16 : Bool) (x0 x1 x2 x3 x4 x5 x6 x7 x8 x9 x10 x11 x12 x13 x14 x15 x16 : Value), listed = #[b0, b1, b2, b3, b4, b5, b6, b7, b8, b9, b10, b11, b12, b13, b14, b15, b16] ∧ a = { tmps := #[Value.string a0, Value.int IntKind.i64 a1, Value.slice (some { block := rb, off := roff }) len cap, undef, undef, undef, u6, Value.slice tA tL tc, Value.pointer (some { block := V, off := 0 }), Value.int IntKind.i64 0, Value.slice Ag got.length cg, undef, Value.pointer (some { block := kb, off := 0 }), Value.int IntKind.i64 ↑lo, Value.int IntKind.i64 ↑hi, x14, x16, u17, u18, u19, u20, undef, undef, undef, undef, undef, undef, Value.string a0, Value.int IntKind.i64 a1, Value.slice tA tL tc, Value.tuple #[Value.agg #[Value.int IntKind.i64 0, Value.slice A3 n3 c3, Value.int IntKind.i64 (-1), Value.int IntKind.i64 250], Value.int IntKind.i64 0], Value.tuple #[Value.agg #[Value.int IntKind.i64 0, Value.slice A3 n3 c3, Value.int IntKind.i64 (-1), Value.int IntKind.i64 250], Value.int IntKind.i64 0], Value.agg #[Value.int IntKind.i64 0, Value.slice A3 n3 c3, Value.int IntKind.i64 (-1), Value.int IntKind.i64 250], Value.int IntKind.i64 0, Value.slice (some { block := rb, off := roff }) len cap, Value.slice (some { block := rb, off := roff }) N cap, Value.int IntKind.i64 ↑N, Value.int IntKind.i64 ↑kk, Value.bool true, Value.pointer (some { block := rb, off := roff + kk * 4 }), Value.agg #[Value.int IntKind.i64 kd, Value.int IntKind.i64 ra, Value.int IntKind.i64 rh, Value.string tx], Value.pointer (some { block := kb, off := 1 }), Value.int IntKind.i64 ra, Value.slice tA tL tc, Value.int IntKind.i64 ↑tL, Value.int IntKind.i64 (↑tL + 1), Value.int IntKind.i64 ↑lo, Value.int IntKind.i64 ↑lo, Value.pointer (some { block := kb, off := 2 }), Value.int IntKind.i64 rh, Value.slice tA tL tc, Value.int IntKind.i64 ↑tL, Value.int IntKind.i64 ↑lo, Value.int IntKind.i64 (↑tL - ↑lo), Value.int IntKind.i64 (↑tL - ↑lo + 1), Value.int IntKind.i64 ↑ld, Value.int IntKind.i64 ↑hi, x11, x0, x1, x2, x3, x4, x5, x6, x7, x8, x9, x10, x12, x13, u71, u72, u73, u74, u75, u76, u77, u78, u79, u80, u81, u82, u83, u84, u85, u86, u87, u88, u89, u90, u91, u92, u93, u94, u95, u96, u97, u98, u99, u100, u101, u102, undef, undef, undef, undef, undef, undef, undef, undef, undef, undef, undef, undef, undef, undef, undef, undef, undef, undef, undef, undef, undef, undef, undef, undef, undef, undef, undef, undef, undef, undef, undef, undef, undef, undef, undef, undef, undef, undef, undef, undef, undef, undef, undef, undef, undef, undef, undef], defers := [] } ∧ All9 X g A n c lo hi tA SA tL tc fb r xe (.agg #[.int .i64 g.done, .slice A n c, .int .i64 g.final, .int .i64 g.window]) (.int .i64 (lo : Int)) (.slice tA tL tc) (.int .i64 (lo : Int)) (.int .i64 (hi : Int)) (.slice SA (hi - lo) (tc - lo)) (.int .i64 (hi : Int)) (.slice tA tL tc) (.int .i64 (tL : Int)) (.bool fb) (.int .i64 xe) (.int .i64 xe) b0 b1 b2 b3 b4 b5 b6 b7 b8 b9 b10 b11 b12 b13 b14 b15 b16 x0 x1 x2 x3 x4 x5 x6 x7 x8 x9 x10 x11 x12 x13 x14 x15 x16 w) (by kernel_rfl) ?h0 ?hfin ?hI
      case h0 => exact ⟨_, _, _, _, _, _, _, _, _, _, _, _, _, _, _, _, _, _, _, _, _, _, _, _, _, _, _, _, _, _, _, _, undef, _, rfl, rfl, ⟨(Below.refl _ _).drew, (fun h => by cases h), (fun h => by cases h), (fun h => by cases h), (fun h => by cases h), (fun h => by cases h), (fun h => by cases h), (fun h => by cases h), (fun h => by cases h), (fun h => by cases h), (fun h => by cases h), (fun h => by cases h), (fun h => by cases h), (fun h => by cases h), (fun h => by cases h), (fun h => by cases h), (fun h => by cases h), (fun h => by cases h), (fun h => by cases h), (fun h => by cases h), (fun h => by cases h), (fun h => by cases h), (fun h => by cases h), (fun h => by cases h), (fun h => by cases h), (fun h => by cases h), (fun h => by cases h), (fun h => by cases h), (fun h => by cases h)⟩⟩
      case hI =>
        rintro listed a w ⟨b0, b1, b2, b3, b4, b5, b6, b7, b8, b9, b10, b11, b12, b13, b14, b15, b16, x0, x1, x2, x3, x4, x5, x6, x7, x8, x9, x10, x11, x12, x13, x14, x15, x16, rfl, rfl, H⟩ i hi
        obtain ⟨hun, oj, hoj, hall⟩ := mem_ready.1 hi
        clear hi
        rcases i with _ | _ | _ | _ | _ | _ | _ | _ | _ | _ | _ | _ | _ | _ | _ | _ | _ | i
        · have ho := hoj
          simp only [List.getElem?_toArray, List.getElem?_cons_succ, List.getElem?_cons_zero, Option.some.injEq] at hoj
          subst hoj
          obtain rfl : b0 = false := hun
          clear hall
          obtain rfl : b10 = false := Bool.eq_false_iff.2 fun h => Bool.false_ne_true (H.d10 h).1
          obtain rfl : b11 = false := Bool.eq_false_iff.2 fun h => Bool.false_ne_true (H.d11 h)
          obtain rfl : b12 = false := Bool.eq_false_iff.2 fun h => Bool.false_ne_true (H.d12 h)
          obtain rfl : b13 = false := Bool.eq_false_iff.2 fun h => Bool.false_ne_true (H.d13 h)
          obtain rfl : b15 = false := Bool.eq_false_iff.2 fun h => Bool.false_ne_true (H.d15 h).1
          obtain rfl : b16 = false := Bool.eq_false_iff.2 fun h => Bool.false_ne_true (H.d16 h).1
          have hbe := H.be
          have hx_t5 := H.t5
          have hx_t6 := H.t6
          obtain ⟨q0, q1, q2, q3⟩ := bkG ((hbe.block _ hVX).trans VX.out.blk)
          refine wpOp_step ho (fun K' hK => ?_)
          have HK := Lib.hid hK
          clear hK ho
          go_simp
          exact HK.out _ _ ⟨_, _, _, _, _, _, _, _, _, _, _, _, _, _, _, _, _, _, _, _, _, _, _, _, _, _, _, _, _, _, _, _, x15, _, rfl, rfl, ⟨hbe, H.d5, H.d8, H.d9, (fun h => by cases h), H.d11, H.d12, H.d13, (fun h => by cases h), (fun h => by cases h), H.t5, H.t6, (fun _ => rfl), H.h1, H.h2, H.h3, H.h4, H.h5, H.h6, H.h7, H.h8, H.h9, (fun h => by cases h), (fun h => by cases h), (fun h => by cases h), H.h13, H.h14, (fun h => by cases h), H.h16⟩⟩
        · have ho := hoj
          simp only [List.getElem?_toArray, List.getElem?_cons_succ, List.getElem?_cons_zero, Option.some.injEq] at hoj
          subst hoj
          obtain rfl : b1 = false := hun
          clear hall
          obtain rfl : b10 = false := Bool.eq_false_iff.2 fun h => Bool.false_ne_true (H.d10 h).2.1
          obtain rfl : b11 = false := Bool.eq_false_iff.2 fun h => Bool.false_ne_true (H.d11 h)
          obtain rfl : b12 = false := Bool.eq_false_iff.2 fun h => Bool.false_ne_true (H.d12 h)
          obtain rfl : b13 = false := Bool.eq_false_iff.2 fun h => Bool.false_ne_true (H.d13 h)
          obtain rfl : b15 = false := Bool.eq_false_iff.2 fun h => Bool.false_ne_true (H.d15 h).2.1
          obtain rfl : b16 = false := Bool.eq_false_iff.2 fun h => Bool.false_ne_true (H.d16 h).2.1
          have hbe := H.be
          have hx_t5 := H.t5
          have hx_t6 := H.t6
          refine wpOp_step ho (fun K' hK => ?_)
          have HK := Lib.hid hK
          clear hK ho
          go_simp
          exact HK.out _ _ ⟨_, _, _, _, _, _, _, _, _, _, _, _, _, _, _, _, _, _, _, _, _, _, _, _, _, _, _, _, _, _, _, _, x15, _, rfl, rfl, ⟨hbe, H.d5, H.d8, H.d9, (fun h => by cases h), H.d11, H.d12, H.d13, (fun h => by cases h), (fun h => by cases h), H.t5, H.t6, H.h0, (fun _ => rfl), H.h2, H.h3, H.h4, H.h5, H.h6, H.h7, H.h8, H.h9, (fun h => by cases h), (fun h => by cases h), (fun h => by cases h), H.h13, H.h14, (fun h => by cases h), H.h16⟩⟩
        · have ho := hoj
          simp only [List.getElem?_toArray, List.getElem?_cons_succ, List.getElem?_cons_zero, Option.some.injEq] at hoj
          subst hoj
          obtain rfl : b2 = false := hun
          clear hall
          obtain rfl : b5 = false := Bool.eq_false_iff.2 fun h => Bool.false_ne_true (H.d5 h).1
          obtain rfl : b10 = false := Bool.eq_false_iff.2 fun h => Bool.false_ne_true (H.d10 h).2.2.1
          obtain rfl : b11 = false := Bool.eq_false_iff.2 fun h => Bool.false_ne_true (H.d11 h)
          obtain rfl : b12 = false := Bool.eq_false_iff.2 fun h => Bool.false_ne_true (H.d12 h)
          obtain rfl : b13 = false := Bool.eq_false_iff.2 fun h => Bool.false_ne_true (H.d13 h)
          obtain rfl : b15 = false := Bool.eq_false_iff.2 fun h => Bool.false_ne_true (H.d15 h).2.2.1
          obtain rfl : b16 = false := Bool.eq_false_iff.2 fun h => Bool.false_ne_true (H.d16 h).2.2.1
          have hbe := H.be
          have hx_t5 := H.t5
          have hx_t6 := H.t6
          refine wpOp_step ho (fun K' hK => ?_)
          have HK := Lib.hid hK
          clear hK ho
          go_simp
          exact HK.out _ _ ⟨_, _, _, _, _, _, _, _, _, _, _, _, _, _, _, _, _, _, _, _, _, _, _, _, _, _, _, _, _, _, _, _, x15, _, rfl, rfl, ⟨hbe, (fun h => by cases h), H.d8, H.d9, H.d10, H.d11, H.d12, H.d13, (fun h => by cases h), (fun h => by cases h), H.t5, H.t6, H.h0, H.h1, (fun _ => rfl), H.h3, H.h4, H.h5, H.h6, H.h7, H.h8, H.h9, (fun h => by cases h), (fun h => by cases h), (fun h => by cases h), H.h13, H.h14, (fun h => by cases h), H.h16⟩⟩
        · have ho := hoj
          simp only [List.getElem?_toArray, List.getElem?_cons_succ, List.getElem?_cons_zero, Option.some.injEq] at hoj
          subst hoj
          obtain rfl : b3 = false := hun
          clear hall
          obtain rfl : b5 = false := Bool.eq_false_iff.2 fun h => Bool.false_ne_true (H.d5 h).2.1
          obtain rfl : b10 = false := Bool.eq_false_iff.2 fun h => Bool.false_ne_true (H.d10 h).2.2.1
          obtain rfl : b11 = false := Bool.eq_false_iff.2 fun h => Bool.false_ne_true (H.d11 h)
          obtain rfl : b12 = false := Bool.eq_false_iff.2 fun h => Bool.false_ne_true (H.d12 h)
          obtain rfl : b13 = false := Bool.eq_false_iff.2 fun h => Bool.false_ne_true (H.d13 h)
          obtain rfl : b15 = false := Bool.eq_false_iff.2 fun h => Bool.false_ne_true (H.d15 h).2.2.2.1
          obtain rfl : b16 = false := Bool.eq_false_iff.2 fun h => Bool.false_ne_true (H.d16 h).2.2.2.1
          have hbe := H.be
          have hx_t5 := H.t5
          have hx_t6 := H.t6
          refine wpOp_step ho (fun K' hK => ?_)
          have HK := Lib.hid hK
          clear hK ho
          go_simp
          exact HK.out _ _ ⟨_, _, _, _, _, _, _, _, _, _, _, _, _, _, _, _, _, _, _, _, _, _, _, _, _, _, _, _, _, _, _, _, x15, _, rfl, rfl, ⟨hbe, (fun h => by cases h), H.d8, H.d9, H.d10, H.d11, H.d12, H.d13, (fun h => by cases h), (fun h => by cases h), H.t5, H.t6, H.h0, H.h1, H.h2, (fun _ => rfl), H.h4, H.h5, H.h6, H.h7, H.h8, H.h9, (fun h => by cases h), (fun h => by cases h), (fun h => by cases h), H.h13, H.h14, (fun h => by cases h), H.h16⟩⟩
        · have ho := hoj
          simp only [List.getElem?_toArray, List.getElem?_cons_succ, List.getElem?_cons_zero, Option.some.injEq] at hoj
          subst hoj
          obtain rfl : b4 = false := hun
          clear hall
          obtain rfl : b5 = false := Bool.eq_false_iff.2 fun h => Bool.false_ne_true (H.d5 h).2.2
          obtain rfl : b10 = false := Bool.eq_false_iff.2 fun h => Bool.false_ne_true (H.d10 h).2.2.1
          obtain rfl : b11 = false := Bool.eq_false_iff.2 fun h => Bool.false_ne_true (H.d11 h)
          obtain rfl : b12 = false := Bool.eq_false_iff.2 fun h => Bool.false_ne_true (H.d12 h)
          obtain rfl : b13 = false := Bool.eq_false_iff.2 fun h => Bool.false_ne_true (H.d13 h)
          obtain rfl : b15 = false := Bool.eq_false_iff.2 fun h => Bool.false_ne_true (H.d15 h).2.2.2.2.1
          obtain rfl : b16 = false := Bool.eq_false_iff.2 fun h => Bool.false_ne_true (H.d16 h).2.2.2.2.1
          have hbe := H.be
          have hx_t5 := H.t5
          have hx_t6 := H.t6
          refine wpOp_step ho (fun K' hK => ?_)
          have HK := Lib.hid hK
          clear hK ho
          go_simp
          exact HK.out _ _ ⟨_, _, _, _, _, _, _, _, _, _, _, _, _, _, _, _, _, _, _, _, _, _, _, _, _, _, _, _, _, _, _, _, x15, _, rfl, rfl, ⟨hbe, (fun h => by cases h), H.d8, H.d9, H.d10, H.d11, H.d12, H.d13, (fun h => by cases h), (fun h => by cases h), H.t5, H.t6, H.h0, H.h1, H.h2, H.h3, (fun _ => rfl), H.h5, H.h6, H.h7, H.h8, H.h9, (fun h => by cases h), (fun h => by cases h), (fun h => by cases h), H.h13, H.h14, (fun h => by cases h), H.h16⟩⟩
        · have ho := hoj
          simp only [List.getElem?_toArray, List.getElem?_cons_succ, List.getElem?_cons_zero, Option.some.injEq] at hoj
          subst hoj
          obtain rfl : b5 = false := hun
          obtain rfl : b2 = true := hall ⟨2, .data⟩ (by simp) (by kernel_rfl)
          obtain rfl : b3 = true := hall ⟨3, .data⟩ (by simp) (by kernel_rfl)
          obtain rfl : b4 = true := hall ⟨4, .data⟩ (by simp) (by kernel_rfl)
          clear hall
          obtain rfl : b10 = false := Bool.eq_false_iff.2 fun h => Bool.false_ne_true (H.d10 h).2.2.1
          obtain rfl : b11 = false := Bool.eq_false_iff.2 fun h => Bool.false_ne_true (H.d11 h)
          obtain rfl : b12 = false := Bool.eq_false_iff.2 fun h => Bool.false_ne_true (H.d12 h)
          obtain rfl : b13 = false := Bool.eq_false_iff.2 fun h => Bool.false_ne_true (H.d13 h)
          obtain rfl : b15 = false := Bool.eq_false_iff.2 fun h => Bool.false_ne_true (H.d15 h).2.2.2.2.2.1
          obtain rfl : b16 = false := Bool.eq_false_iff.2 fun h => Bool.false_ne_true (H.d16 h).2.2.2.2.2.1
          have hbe := H.be
          have hx_t5 := H.t5
          have hx_t6 := H.t6
          obtain rfl := H.h2 rfl
          obtain rfl := H.h3 rfl
          obtain rfl := H.h4 rfl
          refine wpOp_step ho (fun K' hK => ?_)
          have HK := Lib.hid hK
          clear hK ho
          go_simp
          exact HK.out _ _ ⟨_, _, _, _, _, _, _, _, _, _, _, _, _, _, _, _, _, _, _, _, _, _, _, _, _, _, _, _, _, _, _, _, x15, _, rfl, rfl, ⟨hbe, (fun _ => ⟨rfl, rfl, rfl⟩), H.d8, H.d9, (fun h => by cases h), H.d11, H.d12, H.d13, (fun h => by cases h), (fun h => by cases h), H.t5, H.t6, H.h0, H.h1, H.h2, H.h3, H.h4, (fun _ => rfl), H.h6, H.h7, H.h8, H.h9, (fun h => by cases h), (fun h => by cases h), (fun h => by cases h), H.h13, H.h14, (fun h => by cases h), H.h16⟩⟩
        · have ho := hoj
          simp only [List.getElem?_toArray, List.getElem?_cons_succ, List.getElem?_cons_zero, Option.some.injEq] at hoj
          subst hoj
          obtain rfl : b6 = false := hun
          clear hall
          obtain rfl : b9 = false := Bool.eq_false_iff.2 fun h => Bool.false_ne_true (H.d9 h).1
          obtain rfl : b10 = false := Bool.eq_false_iff.2 fun h => Bool.false_ne_true (H.d10 h).2.2.2
          obtain rfl : b11 = false := Bool.eq_false_iff.2 fun h => Bool.false_ne_true (H.d11 h)
          obtain rfl : b12 = false := Bool.eq_false_iff.2 fun h => Bool.false_ne_true (H.d12 h)
          obtain rfl : b13 = false := Bool.eq_false_iff.2 fun h => Bool.false_ne_true (H.d13 h)
          obtain rfl : b15 = false := Bool.eq_false_iff.2 fun h => Bool.false_ne_true (H.d15 h).2.2.2.2.2.2.1
          obtain rfl : b16 = false := Bool.eq_false_iff.2 fun h => Bool.false_ne_true (H.d16 h).2.2.2.2.2.2.1
          have hbe := H.be
          have hx_t5 := H.t5
          have hx_t6 := H.t6
          refine wpOp_step ho (fun K' hK => ?_)
          have HK := Lib.hid hK
          clear hK ho
          go_simp
          exact HK.out _ _ ⟨_, _, _, _, _, _, _, _, _, _, _, _, _, _, _, _, _, _, _, _, _, _, _, _, _, _, _, _, _, _, _, _, x15, _, rfl, rfl, ⟨hbe, H.d5, H.d8, (fun h => by cases h), H.d10, H.d11, H.d12, H.d13, (fun h => by cases h), (fun h => by cases h), H.t5, H.t6, H.h0, H.h1, H.h2, H.h3, H.h4, H.h5, (fun _ => rfl), H.h7, H.h8, H.h9, (fun h => by cases h), (fun h => by cases h), (fun h => by cases h), H.h13, H.h14, (fun h => by cases h), H.h16⟩⟩
        · have ho := hoj
          simp only [List.getElem?_toArray, List.getElem?_cons_succ, List.getElem?_cons_zero, Option.some.injEq] at hoj
          subst hoj
          obtain rfl : b7 = false := hun
          clear hall
          obtain rfl : b8 = false := Bool.eq_false_iff.2 fun h => Bool.false_ne_true (H.d8 h)
          obtain rfl : b9 = false := Bool.eq_false_iff.2 fun h => Bool.false_ne_true (H.d9 h).2
          obtain rfl : b10 = false := Bool.eq_false_iff.2 fun h => Bool.false_ne_true (H.d10 h).2.2.2
          obtain rfl : b11 = false := Bool.eq_false_iff.2 fun h => Bool.false_ne_true (H.d11 h)
          obtain rfl : b12 = false := Bool.eq_false_iff.2 fun h => Bool.false_ne_true (H.d12 h)
          obtain rfl : b13 = false := Bool.eq_false_iff.2 fun h => Bool.false_ne_true (H.d13 h)
          obtain rfl : b15 = false := Bool.eq_false_iff.2 fun h => Bool.false_ne_true (H.d15 h).2.2.2.2.2.2.2.1
          obtain rfl : b16 = false := Bool.eq_false_iff.2 fun h => Bool.false_ne_true (H.d16 h).2.2.2.2.2.2.2.1
          have hbe := H.be
          have hx_t5 := H.t5
          have hx_t6 := H.t6
          refine wpOp_step ho (fun K' hK => ?_)
          have HK := Lib.hid hK
          clear hK ho
          go_simp
          exact HK.out _ _ ⟨_, _, _, _, _, _, _, _, _, _, _, _, _, _, _, _, _, _, _, _, _, _, _, _, _, _, _, _, _, _, _, _, x15, _, rfl, rfl, ⟨hbe, H.d5, (fun h => by cases h), H.d9, H.d10, H.d11, H.d12, H.d13, (fun h => by cases h), (fun h => by cases h), H.t5, H.t6, H.h0, H.h1, H.h2, H.h3, H.h4, H.h5, H.h6, (fun _ => rfl), H.h8, H.h9, (fun h => by cases h), (fun h => by cases h), (fun h => by cases h), H.h13, H.h14, (fun h => by cases h), H.h16⟩⟩
        · have ho := hoj
          simp only [List.getElem?_toArray, List.getElem?_cons_succ, List.getElem?_cons_zero, Option.some.injEq] at hoj
          subst hoj
          obtain rfl : b8 = false := hun
          obtain rfl : b7 = true := hall ⟨7, .data⟩ (by simp) (by kernel_rfl)
          clear hall
          obtain rfl : b9 = false := Bool.eq_false_iff.2 fun h => Bool.false_ne_true (H.d9 h).2
          obtain rfl : b10 = false := Bool.eq_false_iff.2 fun h => Bool.false_ne_true (H.d10 h).2.2.2
          obtain rfl : b11 = false := Bool.eq_false_iff.2 fun h => Bool.false_ne_true (H.d11 h)
          obtain rfl : b12 = false := Bool.eq_false_iff.2 fun h => Bool.false_ne_true (H.d12 h)
          obtain rfl : b13 = false := Bool.eq_false_iff.2 fun h => Bool.false_ne_true (H.d13 h)
          obtain rfl : b15 = false := Bool.eq_false_iff.2 fun h => Bool.false_ne_true (H.d15 h).2.2.2.2.2.2.2.2.1
          obtain rfl : b16 = false := Bool.eq_false_iff.2 fun h => Bool.false_ne_true (H.d16 h).2.2.2.2.2.2.2.2.1
          have hbe := H.be
          have hx_t5 := H.t5
          have hx_t6 := H.t6
          obtain rfl := H.h7 rfl
          refine wpOp_step ho (fun K' hK => ?_)
          have HK := Lib.hid hK
          clear hK ho
          go_simp
          exact HK.out _ _ ⟨_, _, _, _, _, _, _, _, _, _, _, _, _, _, _, _, _, _, _, _, _, _, _, _, _, _, _, _, _, _, _, _, x15, _, rfl, rfl, ⟨hbe, H.d5, (fun _ => rfl), (fun h => by cases h), H.d10, H.d11, H.d12, H.d13, (fun h => by cases h), (fun h => by cases h), H.t5, H.t6, H.h0, H.h1, H.h2, H.h3, H.h4, H.h5, H.h6, H.h7, (fun _ => rfl), H.h9, (fun h => by cases h), (fun h => by cases h), (fun h => by cases h), H.h13, H.h14, (fun h => by cases h), H.h16⟩⟩
        · have ho := hoj
          simp only [List.getElem?_toArray, List.getElem?_cons_succ, List.getElem?_cons_zero, Option.some.injEq] at hoj
          subst hoj
          obtain rfl : b9 = false := hun
          obtain rfl : b6 = true := hall ⟨6, .data⟩ (by simp) (by kernel_rfl)
          obtain rfl : b8 = true := hall ⟨8, .data⟩ (by simp) (by kernel_rfl)
          obtain rfl : b7 = true := (H.d8 rfl)
          clear hall
          obtain rfl : b10 = false := Bool.eq_false_iff.2 fun h => Bool.false_ne_true (H.d10 h).2.2.2
          obtain rfl : b11 = false := Bool.eq_false_iff.2 fun h => Bool.false_ne_true (H.d11 h)
          obtain rfl : b12 = false := Bool.eq_false_iff.2 fun h => Bool.false_ne_true (H.d12 h)
          obtain rfl : b13 = false := Bool.eq_false_iff.2 fun h => Bool.false_ne_true (H.d13 h)
          obtain rfl : b15 = false := Bool.eq_false_iff.2 fun h => Bool.false_ne_true (H.d15 h).2.2.2.2.2.2.2.2.2.1
          obtain rfl : b16 = false := Bool.eq_false_iff.2 fun h => Bool.false_ne_true (H.d16 h).2.2.2.2.2.2.2.2.2.1
          have hbe := H.be
          have hx_t5 := H.t5
          have hx_t6 := H.t6
          obtain rfl := H.h6 rfl
          obtain rfl := H.h7 rfl
          obtain rfl := H.h8 rfl
          refine wpOp_step ho (fun K' hK => ?_)
          have HK := Lib.hid hK
          clear hK ho
          go_simp
          exact HK.out _ _ ⟨_, _, _, _, _, _, _, _, _, _, _, _, _, _, _, _, _, _, _, _, _, _, _, _, _, _, _, _, _, _, _, _, x15, _, rfl, rfl, ⟨hbe, H.d5, H.d8, (fun _ => ⟨rfl, rfl⟩), (fun h => by cases h), H.d11, H.d12, H.d13, (fun h => by cases h), (fun h => by cases h), H.t5, H.t6, H.h0, H.h1, H.h2, H.h3, H.h4, H.h5, H.h6, H.h7, H.h8, (fun _ => rfl), (fun h => by cases h), (fun h => by cases h), (fun h => by cases h), H.h13, H.h14, (fun h => by cases h), H.h16⟩⟩
        · have ho := hoj
          simp only [List.getElem?_toArray, List.getElem?_cons_succ, List.getElem?_cons_zero, Option.some.injEq] at hoj
          subst hoj
          obtain rfl : b10 = false := hun
          obtain rfl : b0 = true := hall ⟨0, .data⟩ (by simp) (by kernel_rfl)
          obtain rfl : b1 = true := hall ⟨1, .data⟩ (by simp) (by kernel_rfl)
          obtain rfl : b5 = true := hall ⟨5, .data⟩ (by simp) (by kernel_rfl)
          obtain rfl : b9 = true := hall ⟨9, .data⟩ (by simp) (by kernel_rfl)
          obtain rfl : b2 = true := (H.d5 rfl).1
          obtain rfl : b3 = true := (H.d5 rfl).2.1
          obtain rfl : b4 = true := (H.d5 rfl).2.2
          obtain rfl : b6 = true := (H.d9 rfl).1
          obtain rfl : b8 = true := (H.d9 rfl).2
          obtain rfl : b7 = true := (H.d8 rfl)
          clear hall
          obtain rfl : b11 = false := Bool.eq_false_iff.2 fun h => Bool.false_ne_true (H.d11 h)
          obtain rfl : b12 = false := Bool.eq_false_iff.2 fun h => Bool.false_ne_true (H.d12 h)
          obtain rfl : b13 = false := Bool.eq_false_iff.2 fun h => Bool.false_ne_true (H.d13 h)
          obtain rfl : b15 = false := Bool.eq_false_iff.2 fun h => Bool.false_ne_true (H.d15 h).2.2.2.2.2.2.2.2.2.2.1
          obtain rfl : b16 = false := Bool.eq_false_iff.2 fun h => Bool.false_ne_true (H.d16 h).2.2.2.2.2.2.2.2.2.2.1
          have hbe := H.be
          have hx_t5 := H.t5
          have hx_t6 := H.t6
          obtain rfl := H.h0 rfl
          obtain rfl := H.h1 rfl
          obtain rfl := H.h2 rfl
          obtain rfl := H.h3 rfl
          obtain rfl := H.h4 rfl
          obtain rfl := H.h5 rfl
          obtain rfl := H.h6 rfl
          obtain rfl := H.h7 rfl
          obtain rfl := H.h8 rfl
          obtain rfl := H.h9 rfl
          refine wpOp_step ho (fun K' hK => ?_)
          have HK := Lib.hid hK
          clear hK ho
          go_wp2_with fail
          refine (HP.out _ _ w ((VX.out.below hbe).val) ((HTP.out w (BVX.out.trans (hbe.mono (Nat.le_of_lt hVX)))))).mono ?_
          rintro e w1 ⟨bb1, u1, rfl, hu1⟩
          have BC := Lib.hid bb1
          have UC := Lib.hid (hu1.toX (w0 := X) hbe.size (fun hb => let ⟨k, e1, _, e3⟩ := H.h14 hb rfl; ⟨k, e1, lt_of_block e3⟩))
          clear bb1 hu1
          go_wp2_with fail
          exact HK.out _ _ ⟨_, _, _, _, _, _, _, _, _, _, _, _, _, _, _, _, _, _, _, _, _, _, _, _, _, _, _, _, _, _, _, _, x15, _, rfl, rfl, ⟨hbe.trans (BC.out.mono hbe.size), H.d5, H.d8, H.d9, (fun _ => ⟨rfl, rfl, rfl, rfl⟩), (fun h => by cases h), H.d12, H.d13, (fun h => by cases h), (fun h => by cases h), fun _ => ⟨_, rfl⟩, hx_t6, H.h0, H.h1, H.h2, H.h3, H.h4, H.h5, H.h6, H.h7, H.h8, H.h9, (fun _ _ => ⟨_, rfl, UC.out⟩), (fun h => by cases h), (fun h => by cases h), H.h13, (fun e f => let ⟨k, e1, e2, e3⟩ := (H.h14 e f); ⟨k, e1, e2, (BC.out.block _ (lt_of_block e3)).trans e3⟩), (fun h => by cases h), H.h16⟩⟩
        · have ho := hoj
          simp only [List.getElem?_toArray, List.getElem?_cons_succ, List.getElem?_cons_zero, Option.some.injEq] at hoj
          subst hoj
          obtain rfl : b11 = false := hun
          obtain rfl : b10 = true := hall ⟨10, .data⟩ (by simp) (by kernel_rfl)
          obtain rfl : b0 = true := (H.d10 rfl).1
          obtain rfl : b1 = true := (H.d10 rfl).2.1
          obtain rfl : b5 = true := (H.d10 rfl).2.2.1
          obtain rfl : b9 = true := (H.d10 rfl).2.2.2
          obtain rfl : b2 = true := (H.d5 rfl).1
          obtain rfl : b3 = true := (H.d5 rfl).2.1
          obtain rfl : b4 = true := (H.d5 rfl).2.2
          obtain rfl : b6 = true := (H.d9 rfl).1
          obtain rfl : b8 = true := (H.d9 rfl).2
          obtain rfl : b7 = true := (H.d8 rfl)
          clear hall
          obtain rfl : b12 = false := Bool.eq_false_iff.2 fun h => Bool.false_ne_true (H.d12 h)
          obtain rfl : b13 = false := Bool.eq_false_iff.2 fun h => Bool.false_ne_true (H.d13 h)
          obtain rfl : b15 = false := Bool.eq_false_iff.2 fun h => Bool.false_ne_true (H.d15 h).2.2.2.2.2.2.2.2.2.2.2.1
          obtain rfl : b16 = false := Bool.eq_false_iff.2 fun h => Bool.false_ne_true (H.d16 h).2.2.2.2.2.2.2.2.2.2.2.1
          have hbe := H.be
          have hx_t5 := H.t5
          have hx_t6 := H.t6
          obtain rfl := H.h0 rfl
          obtain rfl := H.h1 rfl
          obtain rfl := H.h2 rfl
          obtain rfl := H.h3 rfl
          obtain rfl := H.h4 rfl
          obtain rfl := H.h5 rfl
          obtain rfl := H.h6 rfl
          obtain rfl := H.h7 rfl
          obtain rfl := H.h8 rfl
          obtain rfl := H.h9 rfl
          have P10 := H.h10 rfl rfl
          have PT := Lib.hid P10
          have TT := Lib.hid (H.t5 rfl)
          clear P10
          refine wpOp_step ho (fun K' hK => ?_)
          have HK := Lib.hid hK
          clear hK ho
          go_simp
          exact HK.out _ _ ⟨_, _, _, _, _, _, _, _, _, _, _, _, _, _, _, _, _, _, _, _, _, _, _, _, _, _, _, _, _, _, _, _, x15, _, rfl, rfl, ⟨hbe, H.d5, H.d8, H.d9, H.d10, (fun _ => rfl), (fun h => by cases h), (fun h => by cases h), (fun h => by cases h), (fun h => by cases h), H.t5, fun _ => TT.out, H.h0, H.h1, H.h2, H.h3, H.h4, H.h5, H.h6, H.h7, H.h8, H.h9, H.h10, (fun _ _ => PT.out), (fun h => by cases h), H.h13, H.h14, (fun h => by cases h), H.h16⟩⟩
        · have ho := hoj
          simp only [List.getElem?_toArray, List.getElem?_cons_succ, List.getElem?_cons_zero, Option.some.injEq] at hoj
          subst hoj
          obtain rfl : b12 = false := hun
          obtain rfl : b11 = true := hall ⟨11, .data⟩ (by simp) (by kernel_rfl)
          obtain rfl : b10 = true := (H.d11 rfl)
          obtain rfl : b0 = true := (H.d10 rfl).1
          obtain rfl : b1 = true := (H.d10 rfl).2.1
          obtain rfl : b5 = true := (H.d10 rfl).2.2.1
          obtain rfl : b9 = true := (H.d10 rfl).2.2.2
          obtain rfl : b2 = true := (H.d5 rfl).1
          obtain rfl : b3 = true := (H.d5 rfl).2.1
          obtain rfl : b4 = true := (H.d5 rfl).2.2
          obtain rfl : b6 = true := (H.d9 rfl).1
          obtain rfl : b8 = true := (H.d9 rfl).2
          obtain rfl : b7 = true := (H.d8 rfl)
          clear hall
          obtain rfl : b15 = false := Bool.eq_false_iff.2 fun h => Bool.false_ne_true (H.d15 h).2.2.2.2.2.2.2.2.2.2.2.2.1
          obtain rfl : b16 = false := Bool.eq_false_iff.2 fun h => Bool.false_ne_true (H.d16 h).2.2.2.2.2.2.2.2.2.2.2.2.1
          have hbe := H.be
          have hx_t5 := H.t5
          have hx_t6 := H.t6
          obtain rfl := H.h0 rfl
          obtain rfl := H.h1 rfl
          obtain rfl := H.h2 rfl
          obtain rfl := H.h3 rfl
          obtain rfl := H.h4 rfl
          obtain rfl := H.h5 rfl
          obtain rfl := H.h6 rfl
          obtain rfl := H.h7 rfl
          obtain rfl := H.h8 rfl
          obtain rfl := H.h9 rfl
          have P10 := H.h10 rfl rfl
          have P11 := H.h11 rfl rfl
          obtain ⟨u, rfl, hu⟩ := P11
          have HU := Lib.hid hu
          clear hu
          refine wpOp_step ho (fun K' hK => ?_)
          have HK := Lib.hid hK
          clear hK ho
          go_simp
          exact HK.out _ _ ⟨_, _, _, _, _, _, _, _, _, _, _, _, _, _, _, _, _, _, _, _, _, _, _, _, _, _, _, _, _, _, _, _, x15, _, rfl, rfl, ⟨hbe, H.d5, H.d8, H.d9, H.d10, H.d11, (fun _ => rfl), H.d13, (fun h => by cases h), (fun h => by cases h), H.t5, H.t6, H.h0, H.h1, H.h2, H.h3, H.h4, H.h5, H.h6, H.h7, H.h8, H.h9, H.h10, H.h11, (fun _ _ => HU.out), H.h13, H.h14, (fun h => by cases h), H.h16⟩⟩
        · have ho := hoj
          simp only [List.getElem?_toArray, List.getElem?_cons_succ, List.getElem?_cons_zero, Option.some.injEq] at hoj
          subst hoj
          obtain rfl : b13 = false := hun
          obtain rfl : b11 = true := hall ⟨11, .data⟩ (by simp) (by kernel_rfl)
          obtain rfl : b10 = true := (H.d11 rfl)
          obtain rfl : b0 = true := (H.d10 rfl).1
          obtain rfl : b1 = true := (H.d10 rfl).2.1
          obtain rfl : b5 = true := (H.d10 rfl).2.2.1
          obtain rfl : b9 = true := (H.d10 rfl).2.2.2
          obtain rfl : b2 = true := (H.d5 rfl).1
          obtain rfl : b3 = true := (H.d5 rfl).2.1
          obtain rfl : b4 = true := (H.d5 rfl).2.2
          obtain rfl : b6 = true := (H.d9 rfl).1
          obtain rfl : b8 = true := (H.d9 rfl).2
          obtain rfl : b7 = true := (H.d8 rfl)
          clear hall
          obtain rfl : b16 = false := Bool.eq_false_iff.2 fun h => Bool.false_ne_true (H.d16 h).2.2.2.2.2.2.2.2.2.2.2.2.2.1
          have hbe := H.be
          have hx_t5 := H.t5
          have hx_t6 := H.t6
          obtain rfl := H.h0 rfl
          obtain rfl := H.h1 rfl
          obtain rfl := H.h2 rfl
          obtain rfl := H.h3 rfl
          obtain rfl := H.h4 rfl
          obtain rfl := H.h5 rfl
          obtain rfl := H.h6 rfl
          obtain rfl := H.h7 rfl
          obtain rfl := H.h8 rfl
          obtain rfl := H.h9 rfl
          obtain ⟨u, rfl⟩ := H.t6 rfl
          refine wpOp_step ho (fun K' hK => ?_)
          have HK := Lib.hid hK
          clear hK ho
          go_simp
          exact HK.out _ _ ⟨_, _, _, _, _, _, _, _, _, _, _, _, _, _, _, _, _, _, _, _, _, _, _, _, _, _, _, _, _, _, _, _, x15, _, rfl, rfl, ⟨hbe, H.d5, H.d8, H.d9, H.d10, H.d11, H.d12, (fun _ => rfl), H.d15, (fun h => by cases h), H.t5, H.t6, H.h0, H.h1, H.h2, H.h3, H.h4, H.h5, H.h6, H.h7, H.h8, H.h9, H.h10, H.h11, H.h12, (fun _ => rfl), H.h14, H.h15, H.h16⟩⟩
        · have ho := hoj
          simp only [List.getElem?_toArray, List.getElem?_cons_succ, List.getElem?_cons_zero, Option.some.injEq] at hoj
          subst hoj
          obtain rfl : b14 = false := hun
          clear hall
          obtain rfl : b15 = false := Bool.eq_false_iff.2 fun h => Bool.false_ne_true (H.d15 h).2.2.2.2.2.2.2.2.2.2.2.2.2
          obtain rfl : b16 = false := Bool.eq_false_iff.2 fun h => Bool.false_ne_true (H.d16 h).2.2.2.2.2.2.2.2.2.2.2.2.2.2.1
          have hbe := H.be
          have hx_t5 := H.t5
          have hx_t6 := H.t6
          have BA := Lib.hid ((Below.refl w.heap.size w).alloc (Nat.le_refl _) (.cells #[.int .i64 0, .slice none 0 0, .int .i64 0, .int .i64 0] 24))
          have NA := Lib.hid (heap_alloc_new w (.cells #[.int .i64 0, .slice none 0 0, .int .i64 0, .int .i64 0] 24))
          have hsz := hbe.size
          refine wpOp_step ho (fun K' hK => ?_)
          have HK := Lib.hid hK
          clear hK ho
          go_simp
          exact HK.out _ _ ⟨_, _, _, _, _, _, _, _, _, _, _, _, _, _, _, _, _, _, _, _, _, _, _, _, _, _, _, _, _, _, _, _, x15, _, rfl, rfl, ⟨hbe.trans (BA.out.mono hbe.size), H.d5, H.d8, H.d9, H.d10, H.d11, H.d12, H.d13, (fun h => by cases h), (fun h => by cases h), hx_t5, hx_t6, H.h0, H.h1, H.h2, H.h3, H.h4, H.h5, H.h6, H.h7, H.h8, H.h9, (fun e f => let ⟨u, e1, e2⟩ := (H.h10 e f); ⟨u, e1, e2.made BA.out⟩), (fun e f => let ⟨u, e1, e2⟩ := (H.h11 e f); ⟨u, e1, e2.made BA.out⟩), (fun e f => (H.h12 e f).made BA.out), H.h13, (fun _ _ => ⟨_, rfl, hsz, NA.out⟩), (fun h => by cases h), H.h16⟩⟩
        · have ho := hoj
          simp only [List.getElem?_toArray, List.getElem?_cons_succ, List.getElem?_cons_zero, Option.some.injEq] at hoj
          subst hoj
          obtain rfl : b15 = false := hun
          obtain rfl : b0 = true := hall ⟨0, .phase⟩ (by simp) (by kernel_rfl)
          obtain rfl : b1 = true := hall ⟨1, .phase⟩ (by simp) (by kernel_rfl)
          obtain rfl : b2 = true := hall ⟨2, .phase⟩ (by simp) (by kernel_rfl)
          obtain rfl : b3 = true := hall ⟨3, .phase⟩ (by simp) (by kernel_rfl)
          obtain rfl : b4 = true := hall ⟨4, .phase⟩ (by simp) (by kernel_rfl)
          obtain rfl : b5 = true := hall ⟨5, .phase⟩ (by simp) (by kernel_rfl)
          obtain rfl : b6 = true := hall ⟨6, .phase⟩ (by simp) (by kernel_rfl)
          obtain rfl : b7 = true := hall ⟨7, .phase⟩ (by simp) (by kernel_rfl)
          obtain rfl : b8 = true := hall ⟨8, .phase⟩ (by simp) (by kernel_rfl)
          obtain rfl : b9 = true := hall ⟨9, .phase⟩ (by simp) (by kernel_rfl)
          obtain rfl : b10 = true := hall ⟨10, .chain⟩ (by simp) (by kernel_rfl)
          obtain rfl : b11 = true := hall ⟨11, .phase⟩ (by simp) (by kernel_rfl)
          obtain rfl : b12 = true := hall ⟨12, .data⟩ (by simp) (by kernel_rfl)
          obtain rfl : b14 = true := hall ⟨14, .data⟩ (by simp) (by kernel_rfl)
          clear hall
          obtain rfl : b16 = false := Bool.eq_false_iff.2 fun h => Bool.false_ne_true (H.d16 h).2.2.2.2.2.2.2.2.2.2.2.2.2.2.2
          have hbe := H.be
          have hx_t5 := H.t5
          have hx_t6 := H.t6
          obtain rfl := H.h0 rfl
          obtain rfl := H.h1 rfl
          obtain rfl := H.h2 rfl
          obtain rfl := H.h3 rfl
          obtain rfl := H.h4 rfl
          obtain rfl := H.h5 rfl
          obtain rfl := H.h6 rfl
          obtain rfl := H.h7 rfl
          obtain rfl := H.h8 rfl
          obtain rfl := H.h9 rfl
          have P10 := H.h10 rfl rfl
          have P11 := H.h11 rfl rfl
          have P12 := H.h12 rfl rfl
          have P14 := H.h14 rfl rfl
          obtain ⟨k, rfl, hk0, hk⟩ := P14
          obtain ⟨A1, n1, c1, rfl, hpf⟩ := P12.ex
          have NV := Lib.hid (NewV.mk' hk hk0 hpf)
          have BV := Lib.hid (newV_below hk hk0 hbe (.int .i64 r.done) (.slice A1 n1 c1) (.int .i64 r.final) (.int .i64 r.window))
          obtain ⟨q0, q1, q2, q3⟩ := bkG hk
          have qf := fun i => bk_frz hk i
          clear hk hpf
          refine wpOp_step ho (fun K' hK => ?_)
          have HK := Lib.hid hK
          clear hK ho
          go_simp
          exact HK.out _ _ ⟨_, _, _, _, _, _, _, _, _, _, _, _, _, _, _, _, _, _, _, _, _, _, _, _, _, _, _, _, _, _, _, _, x15, _, rfl, rfl, ⟨BV.out, H.d5, H.d8, H.d9, H.d10, H.d11, H.d12, H.d13, (fun _ => ⟨rfl, rfl, rfl, rfl, rfl, rfl, rfl, rfl, rfl, rfl, rfl, rfl, rfl, rfl⟩), (fun h => by cases h), H.t5, H.t6, H.h0, H.h1, H.h2, H.h3, H.h4, H.h5, H.h6, H.h7, H.h8, H.h9, (fun _ h => by cases h), (fun _ h => by cases h), (fun _ h => by cases h), H.h13, (fun _ h => by cases h), (fun _ => ⟨_, _, _, _, rfl, NV.out⟩), H.h16⟩⟩
        · have ho := hoj
          simp only [List.getElem?_toArray, List.getElem?_cons_succ, List.getElem?_cons_zero, Option.some.injEq] at hoj
          subst hoj
          obtain rfl : b16 = false := hun
          obtain rfl : b0 = true := hall ⟨0, .phase⟩ (by simp) (by kernel_rfl)
          obtain rfl : b1 = true := hall ⟨1, .phase⟩ (by simp) (by kernel_rfl)
          obtain rfl : b2 = true := hall ⟨2, .phase⟩ (by simp) (by kernel_rfl)
          obtain rfl : b3 = true := hall ⟨3, .phase⟩ (by simp) (by kernel_rfl)
          obtain rfl : b4 = true := hall ⟨4, .phase⟩ (by simp) (by kernel_rfl)
          obtain rfl : b5 = true := hall ⟨5, .phase⟩ (by simp) (by kernel_rfl)
          obtain rfl : b6 = true := hall ⟨6, .phase⟩ (by simp) (by kernel_rfl)
          obtain rfl : b7 = true := hall ⟨7, .phase⟩ (by simp) (by kernel_rfl)
          obtain rfl : b8 = true := hall ⟨8, .phase⟩ (by simp) (by kernel_rfl)
          obtain rfl : b9 = true := hall ⟨9, .phase⟩ (by simp) (by kernel_rfl)
          obtain rfl : b10 = true := hall ⟨10, .phase⟩ (by simp) (by kernel_rfl)
          obtain rfl : b11 = true := hall ⟨11, .phase⟩ (by simp) (by kernel_rfl)
          obtain rfl : b12 = true := hall ⟨12, .phase⟩ (by simp) (by kernel_rfl)
          obtain rfl : b13 = true := hall ⟨13, .data⟩ (by simp) (by kernel_rfl)
          obtain rfl : b14 = true := hall ⟨14, .phase⟩ (by simp) (by kernel_rfl)
          obtain rfl : b15 = true := hall ⟨15, .chain⟩ (by simp) (by kernel_rfl)
          clear hall
          have hbe := H.be
          have hx_t5 := H.t5
          have hx_t6 := H.t6
          obtain rfl := H.h0 rfl
          obtain rfl := H.h1 rfl
          obtain rfl := H.h2 rfl
          obtain rfl := H.h3 rfl
          obtain rfl := H.h4 rfl
          obtain rfl := H.h5 rfl
          obtain rfl := H.h6 rfl
          obtain rfl := H.h7 rfl
          obtain rfl := H.h8 rfl
          obtain rfl := H.h9 rfl
          obtain rfl := H.h13 rfl
          have P15 := H.h15 rfl
          refine wpOp_step ho (fun K' hK => ?_)
          have HK := Lib.hid hK
          clear hK ho
          go_simp
          exact HK.out _ _ ⟨_, _, _, _, _, _, _, _, _, _, _, _, _, _, _, _, _, _, _, _, _, _, _, _, _, _, _, _, _, _, _, _, x15, _, rfl, rfl, ⟨hbe, H.d5, H.d8, H.d9, H.d10, H.d11, H.d12, H.d13, H.d15, (fun _ => ⟨rfl, rfl, rfl, rfl, rfl, rfl, rfl, rfl, rfl, rfl, rfl, rfl, rfl, rfl, rfl, rfl⟩), H.t5, H.t6, H.h0, H.h1, H.h2, H.h3, H.h4, H.h5, H.h6, H.h7, H.h8, H.h9, (fun _ h => by cases h), (fun _ h => by cases h), (fun _ h => by cases h), H.h13, (fun _ h => by cases h), H.h15, (fun _ => rfl)⟩⟩
        · have ho := hoj
          simp at ho
      case hfin =>
        rintro listed a w ⟨b0, b1, b2, b3, b4, b5, b6, b7, b8, b9, b10, b11, b12, b13, b14, b15, b16, x0, x1, x2, x3, x4, x5, x6, x7, x8, x9, x10, x11, x12, x13, x14, x15, x16, rfl, rfl, H⟩ hr
        have hb : b16 = true := by
          clear H
          obtain rfl : b0 = true := by
            cases b0
            · exact absurd hr (ready_ne (by kernel_rfl))
            · rfl
          obtain rfl : b1 = true := by
            cases b1
            · exact absurd hr (ready_ne (by kernel_rfl))
            · rfl
          obtain rfl : b2 = true := by
            cases b2
            · exact absurd hr (ready_ne (by kernel_rfl))
            · rfl
          obtain rfl : b3 = true := by
            cases b3
            · exact absurd hr (ready_ne (by kernel_rfl))
            · rfl
          obtain rfl : b4 = true := by
            cases b4
            · exact absurd hr (ready_ne (by kernel_rfl))
            · rfl
          obtain rfl : b5 = true := by
            cases b5
            · exact absurd hr (ready_ne (by kernel_rfl))
            · rfl
          obtain rfl : b6 = true := by
            cases b6
            · exact absurd hr (ready_ne (by kernel_rfl))
            · rfl
          obtain rfl : b7 = true := by
            cases b7
            · exact absurd hr (ready_ne (by kernel_rfl))
            · rfl
          obtain rfl : b8 = true := by
            cases b8
            · exact absurd hr (ready_ne (by kernel_rfl))
            · rfl
          obtain rfl : b9 = true := by
            cases b9
            · exact absurd hr (ready_ne (by kernel_rfl))
            · rfl
          obtain rfl : b10 = true := by
            cases b10
            · exact absurd hr (ready_ne (by kernel_rfl))
            · rfl
          obtain rfl : b11 = true := by
            cases b11
            · exact absurd hr (ready_ne (by kernel_rfl))
            · rfl
          obtain rfl : b12 = true := by
            cases b12
            · exact absurd hr (ready_ne (by kernel_rfl))
            · rfl
          obtain rfl : b13 = true := by
            cases b13
            · exact absurd hr (ready_ne (by kernel_rfl))
            · rfl
          obtain rfl : b14 = true := by
            cases b14
            · exact absurd hr (ready_ne (by kernel_rfl))
            · rfl
          obtain rfl : b15 = true := by
            cases b15
            · exact absurd hr (ready_ne (by kernel_rfl))
            · rfl
          obtain rfl : b16 = true := by
            cases b16
            · exact absurd hr (ready_ne (by kernel_rfl))
            · rfl
          rfl
        subst hb
        clear hr
        obtain rfl : b0 = true := (H.d16 rfl).1
        obtain rfl : b1 = true := (H.d16 rfl).2.1
        obtain rfl : b2 = true := (H.d16 rfl).2.2.1
        obtain rfl : b3 = true := (H.d16 rfl).2.2.2.1
        obtain rfl : b4 = true := (H.d16 rfl).2.2.2.2.1
        obtain rfl : b5 = true := (H.d16 rfl).2.2.2.2.2.1
        obtain rfl : b6 = true := (H.d16 rfl).2.2.2.2.2.2.1
        obtain rfl : b7 = true := (H.d16 rfl).2.2.2.2.2.2.2.1
        obtain rfl : b8 = true := (H.d16 rfl).2.2.2.2.2.2.2.2.1
        obtain rfl : b9 = true := (H.d16 rfl).2.2.2.2.2.2.2.2.2.1
        obtain rfl : b10 = true := (H.d16 rfl).2.2.2.2.2.2.2.2.2.2.1
        obtain rfl : b11 = true := (H.d16 rfl).2.2.2.2.2.2.2.2.2.2.2.1
        obtain rfl : b12 = true := (H.d16 rfl).2.2.2.2.2.2.2.2.2.2.2.2.1
        obtain rfl : b13 = true := (H.d16 rfl).2.2.2.2.2.2.2.2.2.2.2.2.2.1
        obtain rfl : b14 = true := (H.d16 rfl).2.2.2.2.2.2.2.2.2.2.2.2.2.2.1
        obtain rfl : b15 = true := (H.d16 rfl).2.2.2.2.2.2.2.2.2.2.2.2.2.2.2
        have he := H.h16 rfl
        obtain ⟨k1, A1, n1, c1, rfl, hnv⟩ := H.h15 rfl
        have hb := H.be
        subst he
        have NV := Lib.hid hnv
        have BW := Lib.hid (BX.out.trans (hb.mono BX.out.size))
        have VW := Lib.hid (VX.out.below hb)
        have BVW := Lib.hid (BVX.out.trans (hb.mono (Nat.le_of_lt hVX)))
        have OW := Lib.hid (own_below2 OX.out hb)
        have BSW := Lib.hid hb
        have hVw2 := lt_of_block VW.out.blk
        clear hnv H
        rcases HX.out with ⟨hx0, hx1⟩ | hx0
        · subst hx0
          have IAr18a := Lib.hid hx1
          have hVlt := lt_of_block VX.out.blk
          obtain ⟨gp1, gp2⟩ := GW.put (b := V) VW.out.blk NV.out.pf hVlt
          have GP1 := Lib.hid gp1
          have BP := Lib.hid (gr_from BW.out BW.out.size HVW.out gp2)
          have BVP := Lib.hid (gr_from (B := V) BVW.out (Nat.le_of_lt hVw2) (Nat.le_refl _) gp2)
          have OP := Lib.hid (World.ownsRow.kept OW.out gp2 (own_ne OW.out (by omega)))
          have BSTEPr18a := Lib.hid (KeepsS.trans (KeepsS.below (S := fun j => j = V) BSW.out) (KeepsS.gr gp2 rfl))
          obtain ⟨v0, v1, v2, v3⟩ := bkG VW.out.blk
          have vf := fun i => bk_frz VW.out.blk i
          obtain ⟨q0, q1, q2, q3⟩ := bkG NV.out.blk
          obtain ⟨Y9, hY9⟩ : ∃ Y, ((((w.setCell ⟨V, 0, none⟩ (.int .i64 r.done)).setCell ⟨V, 1, none⟩ (.slice A1 n1 c1)).setCell ⟨V, 2, none⟩ (.int .i64 r.final)).setCell ⟨V, 3, none⟩ (.int .i64 r.window)) = Y := ⟨_, rfl⟩
          rw [hY9] at GP1 BP BVP OP BSTEPr18a
          clear hx1 gp1 gp2 HX
          go_upto_region 12 with fail
          try rw [hY9]
          clear hY9 v0 v1 v2 v3 vf q0 q1 q2 q3
          have ZC := Lib.hid (IAr18a.out.sm.wf)
          have HCK := Lib.hid (fun v w hv => gaChk_any v r w hv IAr18a.out.sm.wf IAr18a.out.sm.len)
          rw [IAr18a.out.sm.fault] at HCK
          obtain ⟨g0, g1, g2, g3⟩ := bkG GP1.out.blk
          have BXB := Lib.hid ((HBOX.out _ (BSTEPr18a.out)))
          have m0 := bk_cell BXB.out 0
          simp only [List.getElem?_toArray, List.getElem?_cons_zero] at m0
          go_wp2_with fail
          refine (HCK.out _ _ GP1.out.val).mono ?_
          rintro e wc ⟨rfl, bc⟩
          have GC := Lib.hid (GP1.out.below bc)
          have BFC := Lib.hid (BP.out.trans (bc.mono BP.out.size))
          have hVc := lt_of_block GP1.out.blk
          have BVC := Lib.hid (BVP.out.trans (bc.mono (Nat.le_of_lt hVc)))
          have OC := Lib.hid (own_below2 OP.out bc)
          have BXC := Lib.hid ((bc.block _ (lt_of_block BXB.out)).trans BXB.out)
          have m0c := bk_cell BXC.out 0
          simp only [List.getElem?_toArray, List.getElem?_cons_zero] at m0c
          clear bc g0 g1 g2 g3 m0
          go_wp2_with fail
          refine (HPKk.out _).mono ?_
          rintro e w' ⟨rfl, rfl⟩
          clear m0c
          by_cases kz : km = 0
          · have kz' : (km == 0) = true := by simp [kz]
            clear kz
            have htk := fun v w hv => gaTake_F v r w hv IAr18a.out.sm.wf IAr18a.out.sm.len
            obtain ⟨ht0, hta⟩ := all_take IAr18a.out
            obtain ⟨⟨r2, bs, ov, xt⟩, ht⟩ : ∃ q, takG r = q := ⟨_, rfl⟩
            rw [ht] at htk ht0 hta
            simp only at ht0 hta
            subst ht0
            have HTK := Lib.hid htk
            have IA2 := Lib.hid hta
            have hgl : got.length + bs.length ≤ 200 := by have h1 := IA2.out.le; have h2 := TSM.out; rw [List.length_append] at h1; omega
            obtain ⟨g0, g1, g2, g3⟩ := bkG GC.out.blk
            clear htk hta ht
            go_wp2_with fail
            refine (HTK.out _ _ GC.out.val).mono ?_
            rintro e w5 ⟨bb5, u5, d5, rfl, hu5, hd5⟩
            obtain ⟨A5, n5, c5, rfl, p5⟩ := hu5.slice
            have BA5 := Lib.hid ((Below.refl w5.heap.size w5).alloc (Nat.le_refl _) (.cells #[.int .i64 r2.done, .slice A5 n5 c5, .int .i64 r2.final, .int .i64 r2.window] 24))
            have D5 := Lib.hid ((hd5.on (Keeps.below BA5.out)).now)
            obtain ⟨Ad5, cd5, rfl, _, _, hdn5, hdr5⟩ := id D5.out.ex
            have HDR5 := Lib.hid hdr5
            have PF5 := Lib.hid ((p5.on (Keeps.below BA5.out)).toS)
            have N5 := Lib.hid (heap_alloc_new w5 (.cells #[.int .i64 r2.done, .slice A5 n5 c5, .int .i64 r2.final, .int .i64 r2.window] 24))
            have hs5 := bb5.size
            have GC5 := Lib.hid ((GC.out.below bb5).below BA5.out)
            have BF5 := Lib.hid ((BFC.out.trans (bb5.mono BFC.out.size)).trans (BA5.out.mono (Nat.le_trans BFC.out.size hs5)))
            have hVc2 := lt_of_block GC.out.blk
            have BV5 := Lib.hid ((BVC.out.trans (bb5.mono (Nat.le_of_lt hVc2))).trans (BA5.out.mono (by omega)))
            have O5 := Lib.hid (own_below2 (own_below2 OC.out bb5) BA5.out)
            have LO5 := Lib.hid (fun j hj => (World.ownsRow.lt OC.out j hj).2)
            obtain ⟨lc, hLC⟩ : ∃ m, wc.heap.size = m := ⟨_, rfl⟩
            rw [hLC] at PF5 LO5 hVc2
            have K5 := Lib.hid (show w5.heap.size < w5.heap.size + 1 from Nat.lt_succ_self _)
            clear bb5 hu5 p5 hd5 hdr5 g0 g1 g2 g3
            obtain ⟨k5, hk5⟩ : ∃ k, w5.heap.size = k := ⟨_, rfl⟩
            obtain ⟨X5, hX5⟩ : ∃ Y, w5.alloc (.cells #[.int .i64 r2.done, .slice A5 n5 c5, .int .i64 r2.final, .int .i64 r2.window] 24) = Y := ⟨_, rfl⟩
            rw [hk5] at N5 hs5
            rw [hLC] at hs5
            rw [hX5] at D5 HDR5 PF5 N5 GC5 BF5 BV5 O5
            have hk5X := lt_of_block N5.out
            go_wp2_with fail
            try rw [hX5]
            clear hX5 hk5 BA5
            refine wp_region_inv (fun listed a w => ∃ (fb0 fb1 fb2 fb3 fb4 fb5 : Bool) (fx0 fx1 fx2 fx3 fx4 fx5 : Value), listed = #[fb0, fb1, fb2, fb3, fb4, fb5] ∧ a = { tmps := #[Value.string a0, Value.int IntKind.i64 a1, Value.slice (some { block := rb, off := roff }) len cap, undef, undef, undef, u6, Value.slice tA tL tc, Value.pointer (some { block := V, off := 0 }), Value.int IntKind.i64 0, fx5, undef, Value.pointer (some { block := kb, off := 0 }), Value.int IntKind.i64 ↑lo, Value.int IntKind.i64 ↑hi, Value.pointer (some { block := k1, off := 0 }), Value.int IntKind.i64 0, Value.pointer (some { block := k5, off := 0 }), Value.slice Ad5 bs.length cd5, Value.bool ov, Value.int IntKind.i64 0, undef, undef, undef, undef, undef, undef, Value.string a0, Value.int IntKind.i64 a1, Value.slice tA tL tc, Value.tuple #[Value.agg #[Value.int IntKind.i64 0, Value.slice A3 n3 c3, Value.int IntKind.i64 (-1), Value.int IntKind.i64 250], Value.int IntKind.i64 0], Value.tuple #[Value.agg #[Value.int IntKind.i64 0, Value.slice A3 n3 c3, Value.int IntKind.i64 (-1), Value.int IntKind.i64 250], Value.int IntKind.i64 0], Value.agg #[Value.int IntKind.i64 0, Value.slice A3 n3 c3, Value.int IntKind.i64 (-1), Value.int IntKind.i64 250], Value.int IntKind.i64 0, Value.slice (some { block := rb, off := roff }) len cap, Value.slice (some { block := rb, off := roff }) N cap, Value.int IntKind.i64 ↑N, Value.int IntKind.i64 ↑kk, Value.bool true, Value.pointer (some { block := rb, off := roff + kk * 4 }), Value.agg #[Value.int IntKind.i64 kd, Value.int IntKind.i64 ra, Value.int IntKind.i64 rh, Value.string tx], Value.pointer (some { block := kb, off := 1 }), Value.int IntKind.i64 ra, Value.slice tA tL tc, Value.int IntKind.i64 ↑tL, Value.int IntKind.i64 (↑tL + 1), Value.int IntKind.i64 ↑lo, Value.int IntKind.i64 ↑lo, Value.pointer (some { block := kb, off := 2 }), Value.int IntKind.i64 rh, Value.slice tA tL tc, Value.int IntKind.i64 ↑tL, Value.int IntKind.i64 ↑lo, Value.int IntKind.i64 (↑tL - ↑lo), Value.int IntKind.i64 (↑tL - ↑lo + 1), Value.int IntKind.i64 ↑ld, Value.int IntKind.i64 ↑hi, x11, x0, x1, x2, x3, x4, x5, x6, x7, x8, x9, x10, x12, x13, Value.int IntKind.i64 0, Value.bool true, Value.agg #[Value.int IntKind.i64 r.done, Value.slice A1 n1 c1, Value.int IntKind.i64 r.final, Value.int IntKind.i64 r.window], Value.int IntKind.i64 0, Value.bool false, Value.bool false, undef, undef, Value.bool false, Value.bool false, Value.agg #[Value.int IntKind.i64 r.done, Value.slice A1 n1 c1, Value.int IntKind.i64 r.final, Value.int IntKind.i64 r.window], Value.int IntKind.i64 0, Value.bool false, Value.bool false, Value.pointer (some { block := kb, off := 0 }), Value.int IntKind.i64 kd, Value.int IntKind.i64 km, Value.bool true, Value.tuple #[Value.agg #[Value.int IntKind.i64 r2.done, Value.slice A5 n5 c5, Value.int IntKind.i64 r2.final, Value.int IntKind.i64 r2.window], Value.slice Ad5 bs.length cd5, Value.bool ov, Value.int IntKind.i64 0], Value.agg #[Value.int IntKind.i64 r.done, Value.slice A1 n1 c1, Value.int IntKind.i64 r.final, Value.int IntKind.i64 r.window], Value.tuple #[Value.agg #[Value.int IntKind.i64 r2.done, Value.slice A5 n5 c5, Value.int IntKind.i64 r2.final, Value.int IntKind.i64 r2.window], Value.slice Ad5 bs.length cd5, Value.bool ov, Value.int IntKind.i64 0], Value.agg #[Value.int IntKind.i64 r2.done, Value.slice A5 n5 c5, Value.int IntKind.i64 r2.final, Value.int IntKind.i64 r2.window], Value.slice Ad5 bs.length cd5, Value.bool ov, Value.int IntKind.i64 0, Value.int IntKind.i64 0, Value.bool false, fx0, fx1, fx2, fx3, u102, undef, undef, undef, undef, undef, undef, undef, undef, undef, undef, undef, undef, undef, undef, undef, undef, undef, undef, undef, undef, undef, undef, undef, undef, undef, undef, undef, undef, undef, undef, undef, undef, undef, undef, undef, undef, undef, undef, undef, undef, undef, undef, undef, undef, undef, undef, undef], defers := [] } ∧ All18a X5 V k5 lc r2 A5 n5 c5 got bs Ag cg Ad5 cd5 (.agg #[.int .i64 r2.done, .slice A5 n5 c5, .int .i64 r2.final, .int .i64 r2.window]) (.slice Ag got.length cg) (.slice Ad5 bs.length cd5) fb0 fb1 fb2 fb3 fb4 fb5 fx0 fx1 fx2 fx3 fx4 fx5 w) (by kernel_rfl) ?h0 ?hfin ?hI
            case h0 => exact ⟨_, _, _, _, _, _, _, _, _, _, undef, _, rfl, rfl, ⟨(fun _ => (Below.refl _ _).drew), (fun h => by cases h), (fun h => by cases h), (fun h => by cases h), (fun _ => rfl), (fun _ => rfl), (fun h => by cases h), (fun h => by cases h), (fun h => by cases h), (fun h => by cases h), (fun h => by cases h), (fun h => by cases h)⟩⟩
            case hI =>
              rintro listed a w ⟨fb0, fb1, fb2, fb3, fb4, fb5, fx0, fx1, fx2, fx3, fx4, fx5, rfl, rfl, H⟩ i hi
              obtain ⟨hun, oj, hoj, hall⟩ := mem_ready.1 hi
              clear hi
              rcases i with _ | _ | _ | _ | _ | _ | i
              · have ho := hoj
                simp only [List.getElem?_toArray, List.getElem?_cons_succ, List.getElem?_cons_zero, Option.some.injEq] at hoj
                subst hoj
                obtain rfl : fb0 = false := hun
                clear hall
                obtain rfl : fb4 = false := Bool.eq_false_iff.2 fun h => Bool.false_ne_true (H.d4 h).1
                obtain rfl : fb5 = false := Bool.eq_false_iff.2 fun h => Bool.false_ne_true (H.d5 h).1
                have hx_kb := H.kb rfl
                have hx_x10 := H.fx10 rfl
                obtain rfl := hx_x10
                obtain ⟨q0, q1, q2, q3⟩ := bkG (hx_kb.trans N5.out)
                refine wpOp_step ho (fun K' hK => ?_)
                have HK := Lib.hid hK
                clear hK ho
                go_simp
                exact HK.out _ _ ⟨_, _, _, _, _, _, _, _, _, _, fx4, _, rfl, rfl, ⟨H.be, H.d3, (fun h => by cases h), (fun h => by cases h), H.kb, (fun _ => rfl), (fun _ => rfl), H.h1, H.h2, H.h3, (fun h => by cases h), (fun h => by cases h)⟩⟩
              · have ho := hoj
                simp only [List.getElem?_toArray, List.getElem?_cons_succ, List.getElem?_cons_zero, Option.some.injEq] at hoj
                subst hoj
                obtain rfl : fb1 = false := hun
                clear hall
                obtain rfl : fb3 = false := Bool.eq_false_iff.2 fun h => Bool.false_ne_true (H.d3 h).1
                obtain rfl : fb4 = false := Bool.eq_false_iff.2 fun h => Bool.false_ne_true (H.d4 h).2
                obtain rfl : fb5 = false := Bool.eq_false_iff.2 fun h => Bool.false_ne_true (H.d5 h).2.1
                have hbe := H.be rfl
                have hx_kb := H.kb rfl
                have hx_x10 := H.fx10 rfl
                obtain rfl := hx_x10
                refine wpOp_step ho (fun K' hK => ?_)
                have HK := Lib.hid hK
                clear hK ho
                go_simp
                exact HK.out _ _ ⟨_, _, _, _, _, _, _, _, _, _, fx4, _, rfl, rfl, ⟨(fun _ => hbe), (fun h => by cases h), H.d4, (fun h => by cases h), H.kb, (fun _ => rfl), H.h0, (fun _ => rfl), H.h2, (fun h => by cases h), (fun h => by cases h), (fun h => by cases h)⟩⟩
              · have ho := hoj
                simp only [List.getElem?_toArray, List.getElem?_cons_succ, List.getElem?_cons_zero, Option.some.injEq] at hoj
                subst hoj
                obtain rfl : fb2 = false := hun
                clear hall
                obtain rfl : fb3 = false := Bool.eq_false_iff.2 fun h => Bool.false_ne_true (H.d3 h).2
                obtain rfl : fb4 = false := Bool.eq_false_iff.2 fun h => Bool.false_ne_true (H.d4 h).2
                obtain rfl : fb5 = false := Bool.eq_false_iff.2 fun h => Bool.false_ne_true (H.d5 h).2.2.1
                have hbe := H.be rfl
                have hx_kb := H.kb rfl
                have hx_x10 := H.fx10 rfl
                obtain rfl := hx_x10
                refine wpOp_step ho (fun K' hK => ?_)
                have HK := Lib.hid hK
                clear hK ho
                go_simp
                exact HK.out _ _ ⟨_, _, _, _, _, _, _, _, _, _, fx4, _, rfl, rfl, ⟨(fun _ => hbe), (fun h => by cases h), H.d4, (fun h => by cases h), H.kb, (fun _ => rfl), H.h0, H.h1, (fun _ => rfl), (fun h => by cases h), (fun h => by cases h), (fun h => by cases h)⟩⟩
              · have ho := hoj
                simp only [List.getElem?_toArray, List.getElem?_cons_succ, List.getElem?_cons_zero, Option.some.injEq] at hoj
                subst hoj
                obtain rfl : fb3 = false := hun
                obtain rfl : fb1 = true := hall ⟨1, .data⟩ (by simp) (by kernel_rfl)
                obtain rfl : fb2 = true := hall ⟨2, .data⟩ (by simp) (by kernel_rfl)
                clear hall
                obtain rfl : fb4 = false := Bool.eq_false_iff.2 fun h => Bool.false_ne_true (H.d4 h).2
                obtain rfl : fb5 = false := Bool.eq_false_iff.2 fun h => Bool.false_ne_true (H.d5 h).2.2.2.1
                have hbe := H.be rfl
                have hx_kb := H.kb rfl
                have hx_x10 := H.fx10 rfl
                obtain rfl := H.h1 rfl
                obtain rfl := H.h2 rfl
                obtain rfl := hx_x10
                have OB := Lib.hid (own_below2 O5.out hbe)
                have DB := Lib.hid (HDR5.out.below hbe)
                have hsz := hbe.size
                refine wpOp_step ho (fun K' hK => ?_)
                have HK := Lib.hid hK
                clear hK ho
                refine step_app w rfl (.tmp 99) (.tmp 100) _ rfl (V + 1) 5 i0 Try.underlying31 HI.out HZ.out HZ1.out HZ2.out (.slice Ag got.length cg) got.length (got.map (.int .u8)) rfl OB.out X5.heap.size Ad5 bs.length cd5 bs rfl DB.out rfl hdn5 (by omega) (by omega) ?_
                intro v' w' o2 g2 hd2
                have KN := Lib.hid ((g2.block k5 (Nat.lt_of_lt_of_le hk5X hsz) (fun q => by have := LO5.out k5 q.symm; omega)).trans hx_kb)
                obtain ⟨Ag', cg', e2, _, _⟩ := own_slice o2
                subst e2
                have PN := Lib.hid (app_done (V := V) (X := X5) (lo := lc) o2 g2 (World.ownsRow.lt OB.out) LO5.out hbe hVc2 (lt_of_block GC5.out.blk) PF5.out)
                clear o2 g2 hd2
                exact HK.out _ _ ⟨_, _, _, _, _, _, _, _, _, _, fx4, _, rfl, rfl, ⟨(fun h => by cases h), (fun _ => ⟨rfl, rfl⟩), (fun h => by cases h), (fun h => by cases h), (fun _ => KN.out), (fun _ => rfl), H.h0, H.h1, H.h2, (fun _ _ => ⟨_, _, rfl, PN.out⟩), (fun h => by cases h), (fun h => by cases h)⟩⟩
              · have ho := hoj
                simp only [List.getElem?_toArray, List.getElem?_cons_succ, List.getElem?_cons_zero, Option.some.injEq] at hoj
                subst hoj
                obtain rfl : fb4 = false := hun
                obtain rfl : fb0 = true := hall ⟨0, .data⟩ (by simp) (by kernel_rfl)
                obtain rfl : fb3 = true := hall ⟨3, .chain⟩ (by simp) (by kernel_rfl)
                obtain rfl : fb1 = true := (H.d3 rfl).1
                obtain rfl : fb2 = true := (H.d3 rfl).2
                clear hall
                obtain rfl : fb5 = false := Bool.eq_false_iff.2 fun h => Bool.false_ne_true (H.d5 h).2.2.2.2
                have hx_kb := H.kb rfl
                have hx_x10 := H.fx10 rfl
                obtain rfl := H.h0 rfl
                obtain rfl := H.h1 rfl
                obtain rfl := H.h2 rfl
                have P3 := H.h3 rfl rfl
                obtain rfl := hx_x10
                obtain ⟨Ag', cg', rfl, ho, hbv, hvb, hpf⟩ := P3
                have VB := Lib.hid (hvb.trans GC5.out.blk)
                obtain ⟨gp1, gp2⟩ := GW.put (b := V) VB.out hpf rfl
                have GP := Lib.hid gp1
                have hVw := lt_of_block VB.out
                have BV := Lib.hid (gr_from (B := V) hbv (Nat.le_of_lt hVw) (Nat.le_refl _) gp2)
                have ON := Lib.hid (World.ownsRow.kept ho gp2 (own_ne ho (by omega)))
                obtain ⟨q0, q1, q2, q3⟩ := bkG VB.out
                have qf := fun i => bk_frz VB.out i
                clear hpf gp1 gp2 ho hbv hvb
                refine wpOp_step ho (fun K' hK => ?_)
                have HK := Lib.hid hK
                clear hK ho
                go_simp
                exact HK.out _ _ ⟨_, _, _, _, _, _, _, _, _, _, fx4, _, rfl, rfl, ⟨(fun h => by cases h), H.d3, (fun _ => ⟨rfl, rfl⟩), (fun h => by cases h), (fun h => by cases h), (fun _ => rfl), H.h0, H.h1, H.h2, (fun _ h => by cases h), (fun _ => ⟨GP.out, BV.out, _, _, rfl, ON.out⟩), (fun h => by cases h)⟩⟩
              · have ho := hoj
                simp only [List.getElem?_toArray, List.getElem?_cons_succ, List.getElem?_cons_zero, Option.some.injEq] at hoj
                subst hoj
                obtain rfl : fb5 = false := hun
                obtain rfl : fb0 = true := hall ⟨0, .phase⟩ (by simp) (by kernel_rfl)
                obtain rfl : fb1 = true := hall ⟨1, .phase⟩ (by simp) (by kernel_rfl)
                obtain rfl : fb2 = true := hall ⟨2, .phase⟩ (by simp) (by kernel_rfl)
                obtain rfl : fb3 = true := hall ⟨3, .data⟩ (by simp) (by kernel_rfl)
                obtain rfl : fb4 = true := hall ⟨4, .chain⟩ (by simp) (by kernel_rfl)
                clear hall
                have hx_x10 := H.fx10 rfl
                obtain rfl := H.h0 rfl
                obtain rfl := H.h1 rfl
                obtain rfl := H.h2 rfl
                have P4 := H.h4 rfl
                refine wpOp_step ho (fun K' hK => ?_)
                have HK := Lib.hid hK
                clear hK ho
                go_simp
                exact HK.out _ _ ⟨_, _, _, _, _, _, _, _, _, _, fx4, _, rfl, rfl, ⟨(fun h => by cases h), H.d3, H.d4, (fun _ => ⟨rfl, rfl, rfl, rfl, rfl⟩), (fun h => by cases h), (fun h => by cases h), H.h0, H.h1, H.h2, (fun _ h => by cases h), H.h4, (fun _ => rfl)⟩⟩
              · have ho := hoj
                simp at ho
            case hfin =>
              rintro listed a w ⟨fb0, fb1, fb2, fb3, fb4, fb5, fx0, fx1, fx2, fx3, fx4, fx5, rfl, rfl, H⟩ hr
              have hb : fb5 = true := by
                clear H
                revert fb0 fb1 fb2 fb3 fb4 fb5
                decide +kernel
              subst hb
              clear hr
              obtain rfl : fb0 = true := (H.d5 rfl).1
              obtain rfl : fb1 = true := (H.d5 rfl).2.1
              obtain rfl : fb2 = true := (H.d5 rfl).2.2.1
              obtain rfl : fb3 = true := (H.d5 rfl).2.2.2.1
              obtain rfl : fb4 = true := (H.d5 rfl).2.2.2.2
              have he := H.h5 rfl
              subst he
              obtain ⟨hgw, hbv, Ag', cg', rfl, ho⟩ := H.h4 rfl
              clear H
              have GW9 := Lib.hid hgw
              have BV9 := Lib.hid (BV5.out.trans hbv)
              have BF9 := Lib.hid (BFV.out.trans (BV9.out.mono HVW.out))
              have O9 := Lib.hid (show w.ownsRow (V + 1) 5 1 (.slice Ag' (got ++ bs).length cg') (got ++ bs).length ((got ++ bs).map (.int .u8)) from by rw [List.length_append, List.map_append]; exact ho)
              have hln : got.length + bs.length = (got ++ bs).length := by rw [List.length_append]
              clear hgw hbv ho
              go_wp2_with fail
              go_roundg (gk - 1)
              case measure => omega
              case rel => exact ⟨kk + 1, r2, A5, n5, c5, got ++ bs, Ag', cg', by rw [hln], by first | rfl | go_num, by omega, BF9, BV9, GW9, O9, IA2⟩
          · have kz' : (km == 0) = false := by simp [kz]
            clear kz
            go_wp2_with fail
            go_roundg (gk - 1)
            case measure => omega
            case rel => exact ⟨kk + 1, r, A1, n1, c1, got, Ag, cg, rfl, by first | rfl | go_num, by omega, BFC, BVC, GC, OC, IAr18a⟩
        · subst hx0
          have IAr18b := Lib.hid IA.out
          have BSTEPr18b := Lib.hid (KeepsS.below (S := fun j => j = V) BSW.out)
          clear HX
          go_upto_region 12 with fail
          have ZC := Lib.hid (IAr18b.out.sm.wf)
          have HCK := Lib.hid (fun v w hv => gaChk_any v g w hv IAr18b.out.sm.wf IAr18b.out.sm.len)
          rw [IAr18b.out.sm.fault] at HCK
          obtain ⟨g0, g1, g2, g3⟩ := bkG VW.out.blk
          have BXB := Lib.hid ((HBOX.out _ (BSTEPr18b.out)))
          have m0 := bk_cell BXB.out 0
          simp only [List.getElem?_toArray, List.getElem?_cons_zero] at m0
          go_wp2_with fail
          refine (HCK.out _ _ VW.out.val).mono ?_
          rintro e wc ⟨rfl, bc⟩
          have GC := Lib.hid (VW.out.below bc)
          have BFC := Lib.hid (BW.out.trans (bc.mono BW.out.size))
          have hVc := lt_of_block VW.out.blk
          have BVC := Lib.hid (BVW.out.trans (bc.mono (Nat.le_of_lt hVc)))
          have OC := Lib.hid (own_below2 OW.out bc)
          have BXC := Lib.hid ((bc.block _ (lt_of_block BXB.out)).trans BXB.out)
          have m0c := bk_cell BXC.out 0
          simp only [List.getElem?_toArray, List.getElem?_cons_zero] at m0c
          clear bc g0 g1 g2 g3 m0
          go_wp2_with fail
          refine (HPKk.out _).mono ?_
          rintro e w' ⟨rfl, rfl⟩
          clear m0c
          by_cases kz : km = 0
          · have kz' : (km == 0) = true := by simp [kz]
            clear kz
            have htk := fun v w hv => gaTake_F v g w hv IAr18b.out.sm.wf IAr18b.out.sm.len
            obtain ⟨ht0, hta⟩ := all_take IAr18b.out
            obtain ⟨⟨r2, bs, ov, xt⟩, ht⟩ : ∃ q, takG g = q := ⟨_, rfl⟩
            rw [ht] at htk ht0 hta
            simp only at ht0 hta
            subst ht0
            have HTK := Lib.hid htk
            have IA2 := Lib.hid hta
            have hgl : got.length + bs.length ≤ 200 := by have h1 := IA2.out.le; have h2 := TSM.out; rw [List.length_append] at h1; omega
            obtain ⟨g0, g1, g2, g3⟩ := bkG GC.out.blk
            clear htk hta ht
            go_wp2_with fail
            refine (HTK.out _ _ GC.out.val).mono ?_
            rintro e w5 ⟨bb5, u5, d5, rfl, hu5, hd5⟩
            obtain ⟨A5, n5, c5, rfl, p5⟩ := hu5.slice
            have BA5 := Lib.hid ((Below.refl w5.heap.size w5).alloc (Nat.le_refl _) (.cells #[.int .i64 r2.done, .slice A5 n5 c5, .int .i64 r2.final, .int .i64 r2.window] 24))
            have D5 := Lib.hid ((hd5.on (Keeps.below BA5.out)).now)
            obtain ⟨Ad5, cd5, rfl, _, _, hdn5, hdr5⟩ := id D5.out.ex
            have HDR5 := Lib.hid hdr5
            have PF5 := Lib.hid ((p5.on (Keeps.below BA5.out)).toS)
            have N5 := Lib.hid (heap_alloc_new w5 (.cells #[.int .i64 r2.done, .slice A5 n5 c5, .int .i64 r2.final, .int .i64 r2.window] 24))
            have hs5 := bb5.size
            have GC5 := Lib.hid ((GC.out.below bb5).below BA5.out)
            have BF5 := Lib.hid ((BFC.out.trans (bb5.mono BFC.out.size)).trans (BA5.out.mono (Nat.le_trans BFC.out.size hs5)))
            have hVc2 := lt_of_block GC.out.blk
            have BV5 := Lib.hid ((BVC.out.trans (bb5.mono (Nat.le_of_lt hVc2))).trans (BA5.out.mono (by omega)))
            have O5 := Lib.hid (own_below2 (own_below2 OC.out bb5) BA5.out)
            have LO5 := Lib.hid (fun j hj => (World.ownsRow.lt OC.out j hj).2)
            obtain ⟨lc, hLC⟩ : ∃ m, wc.heap.size = m := ⟨_, rfl⟩
            rw [hLC] at PF5 LO5 hVc2
            have K5 := Lib.hid (show w5.heap.size < w5.heap.size + 1 from Nat.lt_succ_self _)
            clear bb5 hu5 p5 hd5 hdr5 g0 g1 g2 g3
            obtain ⟨k5, hk5⟩ : ∃ k, w5.heap.size = k := ⟨_, rfl⟩
            obtain ⟨X5, hX5⟩ : ∃ Y, w5.alloc (.cells #[.int .i64 r2.done, .slice A5 n5 c5, .int .i64 r2.final, .int .i64 r2.window] 24) = Y := ⟨_, rfl⟩
            rw [hk5] at N5 hs5
            rw [hLC] at hs5
            rw [hX5] at D5 HDR5 PF5 N5 GC5 BF5 BV5 O5
            have hk5X := lt_of_block N5.out
            go_wp2_with fail
            try rw [hX5]
            clear hX5 hk5 BA5
            refine wp_region_inv (fun listed a w => ∃ (fb0 fb1 fb2 fb3 fb4 fb5 : Bool) (fx0 fx1 fx2 fx3 fx4 fx5 : Value), listed = #[fb0, fb1, fb2, fb3, fb4, fb5] ∧ a = { tmps := #[Value.string a0, Value.int IntKind.i64 a1, Value.slice (some { block := rb, off := roff }) len cap, undef, undef, undef, u6, Value.slice tA tL tc, Value.pointer (some { block := V, off := 0 }), Value.int IntKind.i64 0, fx5, undef, Value.pointer (some { block := kb, off := 0 }), Value.int IntKind.i64 ↑lo, Value.int IntKind.i64 ↑hi, Value.pointer (some { block := k1, off := 0 }), Value.int IntKind.i64 8, Value.pointer (some { block := k5, off := 0 }), Value.slice Ad5 bs.length cd5, Value.bool ov, Value.int IntKind.i64 0, undef, undef, undef, undef, undef, undef, Value.string a0, Value.int IntKind.i64 a1, Value.slice tA tL tc, Value.tuple #[Value.agg #[Value.int IntKind.i64 0, Value.slice A3 n3 c3, Value.int IntKind.i64 (-1), Value.int IntKind.i64 250], Value.int IntKind.i64 0], Value.tuple #[Value.agg #[Value.int IntKind.i64 0, Value.slice A3 n3 c3, Value.int IntKind.i64 (-1), Value.int IntKind.i64 250], Value.int IntKind.i64 0], Value.agg #[Value.int IntKind.i64 0, Value.slice A3 n3 c3, Value.int IntKind.i64 (-1), Value.int IntKind.i64 250], Value.int IntKind.i64 0, Value.slice (some { block := rb, off := roff }) len cap, Value.slice (some { block := rb, off := roff }) N cap, Value.int IntKind.i64 ↑N, Value.int IntKind.i64 ↑kk, Value.bool true, Value.pointer (some { block := rb, off := roff + kk * 4 }), Value.agg #[Value.int IntKind.i64 kd, Value.int IntKind.i64 ra, Value.int IntKind.i64 rh, Value.string tx], Value.pointer (some { block := kb, off := 1 }), Value.int IntKind.i64 ra, Value.slice tA tL tc, Value.int IntKind.i64 ↑tL, Value.int IntKind.i64 (↑tL + 1), Value.int IntKind.i64 ↑lo, Value.int IntKind.i64 ↑lo, Value.pointer (some { block := kb, off := 2 }), Value.int IntKind.i64 rh, Value.slice tA tL tc, Value.int IntKind.i64 ↑tL, Value.int IntKind.i64 ↑lo, Value.int IntKind.i64 (↑tL - ↑lo), Value.int IntKind.i64 (↑tL - ↑lo + 1), Value.int IntKind.i64 ↑ld, Value.int IntKind.i64 ↑hi, x11, x0, x1, x2, x3, x4, x5, x6, x7, x8, x9, x10, x12, x13, Value.int IntKind.i64 8, Value.bool false, u73, Value.int IntKind.i64 8, Value.bool true, Value.bool true, Value.int IntKind.i64 8, Value.bool false, Value.bool false, Value.bool false, Value.agg #[Value.int IntKind.i64 g.done, Value.slice A n c, Value.int IntKind.i64 g.final, Value.int IntKind.i64 g.window], Value.int IntKind.i64 0, Value.bool false, Value.bool false, Value.pointer (some { block := kb, off := 0 }), Value.int IntKind.i64 kd, Value.int IntKind.i64 km, Value.bool true, Value.tuple #[Value.agg #[Value.int IntKind.i64 r2.done, Value.slice A5 n5 c5, Value.int IntKind.i64 r2.final, Value.int IntKind.i64 r2.window], Value.slice Ad5 bs.length cd5, Value.bool ov, Value.int IntKind.i64 0], Value.agg #[Value.int IntKind.i64 g.done, Value.slice A n c, Value.int IntKind.i64 g.final, Value.int IntKind.i64 g.window], Value.tuple #[Value.agg #[Value.int IntKind.i64 r2.done, Value.slice A5 n5 c5, Value.int IntKind.i64 r2.final, Value.int IntKind.i64 r2.window], Value.slice Ad5 bs.length cd5, Value.bool ov, Value.int IntKind.i64 0], Value.agg #[Value.int IntKind.i64 r2.done, Value.slice A5 n5 c5, Value.int IntKind.i64 r2.final, Value.int IntKind.i64 r2.window], Value.slice Ad5 bs.length cd5, Value.bool ov, Value.int IntKind.i64 0, Value.int IntKind.i64 0, Value.bool false, fx0, fx1, fx2, fx3, u102, undef, undef, undef, undef, undef, undef, undef, undef, undef, undef, undef, undef, undef, undef, undef, undef, undef, undef, undef, undef, undef, undef, undef, undef, undef, undef, undef, undef, undef, undef, undef, undef, undef, undef, undef, undef, undef, undef, undef, undef, undef, undef, undef, undef, undef, undef, undef], defers := [] } ∧ All18b X5 V k5 lc r2 A5 n5 c5 got bs Ag cg Ad5 cd5 (.agg #[.int .i64 r2.done, .slice A5 n5 c5, .int .i64 r2.final, .int .i64 r2.window]) (.slice Ag got.length cg) (.slice Ad5 bs.length cd5) fb0 fb1 fb2 fb3 fb4 fb5 fx0 fx1 fx2 fx3 fx4 fx5 w) (by kernel_rfl) ?h0 ?hfin ?hI
            case h0 => exact ⟨_, _, _, _, _, _, _, _, _, _, undef, _, rfl, rfl, ⟨(fun _ => (Below.refl _ _).drew), (fun h => by cases h), (fun h => by cases h), (fun h => by cases h), (fun _ => rfl), (fun _ => rfl), (fun h => by cases h), (fun h => by cases h), (fun h => by cases h), (fun h => by cases h), (fun h => by cases h), (fun h => by cases h)⟩⟩
            case hI =>
              rintro listed a w ⟨fb0, fb1, fb2, fb3, fb4, fb5, fx0, fx1, fx2, fx3, fx4, fx5, rfl, rfl, H⟩ i hi
              obtain ⟨hun, oj, hoj, hall⟩ := mem_ready.1 hi
              clear hi
              rcases i with _ | _ | _ | _ | _ | _ | i
              · have ho := hoj
                simp only [List.getElem?_toArray, List.getElem?_cons_succ, List.getElem?_cons_zero, Option.some.injEq] at hoj
                subst hoj
                obtain rfl : fb0 = false := hun
                clear hall
                obtain rfl : fb4 = false := Bool.eq_false_iff.2 fun h => Bool.false_ne_true (H.d4 h).1
                obtain rfl : fb5 = false := Bool.eq_false_iff.2 fun h => Bool.false_ne_true (H.d5 h).1
                have hx_kb := H.kb rfl
                have hx_x10 := H.fx10 rfl
                obtain rfl := hx_x10
                obtain ⟨q0, q1, q2, q3⟩ := bkG (hx_kb.trans N5.out)
                refine wpOp_step ho (fun K' hK => ?_)
                have HK := Lib.hid hK
                clear hK ho
                go_simp
                exact HK.out _ _ ⟨_, _, _, _, _, _, _, _, _, _, fx4, _, rfl, rfl, ⟨H.be, H.d3, (fun h => by cases h), (fun h => by cases h), H.kb, (fun _ => rfl), (fun _ => rfl), H.h1, H.h2, H.h3, (fun h => by cases h), (fun h => by cases h)⟩⟩
              · have ho := hoj
                simp only [List.getElem?_toArray, List.getElem?_cons_succ, List.getElem?_cons_zero, Option.some.injEq] at hoj
                subst hoj
                obtain rfl : fb1 = false := hun
                clear hall
                obtain rfl : fb3 = false := Bool.eq_false_iff.2 fun h => Bool.false_ne_true (H.d3 h).1
                obtain rfl : fb4 = false := Bool.eq_false_iff.2 fun h => Bool.false_ne_true (H.d4 h).2
                obtain rfl : fb5 = false := Bool.eq_false_iff.2 fun h => Bool.false_ne_true (H.d5 h).2.1
                have hbe := H.be rfl
                have hx_kb := H.kb rfl
                have hx_x10 := H.fx10 rfl
                obtain rfl := hx_x10
                refine wpOp_step ho (fun K' hK => ?_)
                have HK := Lib.hid hK
                clear hK ho
                go_simp
                exact HK.out _ _ ⟨_, _, _, _, _, _, _, _, _, _, fx4, _, rfl, rfl, ⟨(fun _ => hbe), (fun h => by cases h), H.d4, (fun h => by cases h), H.kb, (fun _ => rfl), H.h0, (fun _ => rfl), H.h2, (fun h => by cases h), (fun h => by cases h), (fun h => by cases h)⟩⟩
              · have ho := hoj
                simp only [List.getElem?_toArray, List.getElem?_cons_succ, List.getElem?_cons_zero, Option.some.injEq] at hoj
                subst hoj
                obtain rfl : fb2 = false := hun
                clear hall
                obtain rfl : fb3 = false := Bool.eq_false_iff.2 fun h => Bool.false_ne_true (H.d3 h).2
                obtain rfl : fb4 = false := Bool.eq_false_iff.2 fun h => Bool.false_ne_true (H.d4 h).2
                obtain rfl : fb5 = false := Bool.eq_false_iff.2 fun h => Bool.false_ne_true (H.d5 h).2.2.1
                have hbe := H.be rfl
                have hx_kb := H.kb rfl
                have hx_x10 := H.fx10 rfl
                obtain rfl := hx_x10
                refine wpOp_step ho (fun K' hK => ?_)
                have HK := Lib.hid hK
                clear hK ho
                go_simp
                exact HK.out _ _ ⟨_, _, _, _, _, _, _, _, _, _, fx4, _, rfl, rfl, ⟨(fun _ => hbe), (fun h => by cases h), H.d4, (fun h => by cases h), H.kb, (fun _ => rfl), H.h0, H.h1, (fun _ => rfl), (fun h => by cases h), (fun h => by cases h), (fun h => by cases h)⟩⟩
              · have ho := hoj
                simp only [List.getElem?_toArray, List.getElem?_cons_succ, List.getElem?_cons_zero, Option.some.injEq] at hoj
                subst hoj
                obtain rfl : fb3 = false := hun
                obtain rfl : fb1 = true := hall ⟨1, .data⟩ (by simp) (by kernel_rfl)
                obtain rfl : fb2 = true := hall ⟨2, .data⟩ (by simp) (by kernel_rfl)
                clear hall
                obtain rfl : fb4 = false := Bool.eq_false_iff.2 fun h => Bool.false_ne_true (H.d4 h).2
                obtain rfl : fb5 = false := Bool.eq_false_iff.2 fun h => Bool.false_ne_true (H.d5 h).2.2.2.1
                have hbe := H.be rfl
                have hx_kb := H.kb rfl
                have hx_x10 := H.fx10 rfl
                obtain rfl := H.h1 rfl
                obtain rfl := H.h2 rfl
                obtain rfl := hx_x10
                have OB := Lib.hid (own_below2 O5.out hbe)
                have DB := Lib.hid (HDR5.out.below hbe)
                have hsz := hbe.size
                refine wpOp_step ho (fun K' hK => ?_)
                have HK := Lib.hid hK
                clear hK ho
                refine step_app w rfl (.tmp 99) (.tmp 100) _ rfl (V + 1) 5 i0 Try.underlying31 HI.out HZ.out HZ1.out HZ2.out (.slice Ag got.length cg) got.length (got.map (.int .u8)) rfl OB.out X5.heap.size Ad5 bs.length cd5 bs rfl DB.out rfl hdn5 (by omega) (by omega) ?_
                intro v' w' o2 g2 hd2
                have KN := Lib.hid ((g2.block k5 (Nat.lt_of_lt_of_le hk5X hsz) (fun q => by have := LO5.out k5 q.symm; omega)).trans hx_kb)
                obtain ⟨Ag', cg', e2, _, _⟩ := own_slice o2
                subst e2
                have PN := Lib.hid (app_done (V := V) (X := X5) (lo := lc) o2 g2 (World.ownsRow.lt OB.out) LO5.out hbe hVc2 (lt_of_block GC5.out.blk) PF5.out)
                clear o2 g2 hd2
                exact HK.out _ _ ⟨_, _, _, _, _, _, _, _, _, _, fx4, _, rfl, rfl, ⟨(fun h => by cases h), (fun _ => ⟨rfl, rfl⟩), (fun h => by cases h), (fun h => by cases h), (fun _ => KN.out), (fun _ => rfl), H.h0, H.h1, H.h2, (fun _ _ => ⟨_, _, rfl, PN.out⟩), (fun h => by cases h), (fun h => by cases h)⟩⟩
              · have ho := hoj
                simp only [List.getElem?_toArray, List.getElem?_cons_succ, List.getElem?_cons_zero, Option.some.injEq] at hoj
                subst hoj
                obtain rfl : fb4 = false := hun
                obtain rfl : fb0 = true := hall ⟨0, .data⟩ (by simp) (by kernel_rfl)
                obtain rfl : fb3 = true := hall ⟨3, .chain⟩ (by simp) (by kernel_rfl)
                obtain rfl : fb1 = true := (H.d3 rfl).1
                obtain rfl : fb2 = true := (H.d3 rfl).2
                clear hall
                obtain rfl : fb5 = false := Bool.eq_false_iff.2 fun h => Bool.false_ne_true (H.d5 h).2.2.2.2
                have hx_kb := H.kb rfl
                have hx_x10 := H.fx10 rfl
                obtain rfl := H.h0 rfl
                obtain rfl := H.h1 rfl
                obtain rfl := H.h2 rfl
                have P3 := H.h3 rfl rfl
                obtain rfl := hx_x10
                obtain ⟨Ag', cg', rfl, ho, hbv, hvb, hpf⟩ := P3
                have VB := Lib.hid (hvb.trans GC5.out.blk)
                obtain ⟨gp1, gp2⟩ := GW.put (b := V) VB.out hpf rfl
                have GP := Lib.hid gp1
                have hVw := lt_of_block VB.out
                have BV := Lib.hid (gr_from (B := V) hbv (Nat.le_of_lt hVw) (Nat.le_refl _) gp2)
                have ON := Lib.hid (World.ownsRow.kept ho gp2 (own_ne ho (by omega)))
                obtain ⟨q0, q1, q2, q3⟩ := bkG VB.out
                have qf := fun i => bk_frz VB.out i
                clear hpf gp1 gp2 ho hbv hvb
                refine wpOp_step ho (fun K' hK => ?_)
                have HK := Lib.hid hK
                clear hK ho
                go_simp
                exact HK.out _ _ ⟨_, _, _, _, _, _, _, _, _, _, fx4, _, rfl, rfl, ⟨(fun h => by cases h), H.d3, (fun _ => ⟨rfl, rfl⟩), (fun h => by cases h), (fun h => by cases h), (fun _ => rfl), H.h0, H.h1, H.h2, (fun _ h => by cases h), (fun _ => ⟨GP.out, BV.out, _, _, rfl, ON.out⟩), (fun h => by cases h)⟩⟩
              · have ho := hoj
                simp only [List.getElem?_toArray, List.getElem?_cons_succ, List.getElem?_cons_zero, Option.some.injEq] at hoj
                subst hoj
                obtain rfl : fb5 = false := hun
                obtain rfl : fb0 = true := hall ⟨0, .phase⟩ (by simp) (by kernel_rfl)
                obtain rfl : fb1 = true := hall ⟨1, .phase⟩ (by simp) (by kernel_rfl)
                obtain rfl : fb2 = true := hall ⟨2, .phase⟩ (by simp) (by kernel_rfl)
                obtain rfl : fb3 = true := hall ⟨3, .data⟩ (by simp) (by kernel_rfl)
                obtain rfl : fb4 = true := hall ⟨4, .chain⟩ (by simp) (by kernel_rfl)
                clear hall
                have hx_x10 := H.fx10 rfl
                obtain rfl := H.h0 rfl
                obtain rfl := H.h1 rfl
                obtain rfl := H.h2 rfl
                have P4 := H.h4 rfl
                refine wpOp_step ho (fun K' hK => ?_)
                have HK := Lib.hid hK
                clear hK ho
                go_simp
                exact HK.out _ _ ⟨_, _, _, _, _, _, _, _, _, _, fx4, _, rfl, rfl, ⟨(fun h => by cases h), H.d3, H.d4, (fun _ => ⟨rfl, rfl, rfl, rfl, rfl⟩), (fun h => by cases h), (fun h => by cases h), H.h0, H.h1, H.h2, (fun _ h => by cases h), H.h4, (fun _ => rfl)⟩⟩
              · have ho := hoj
                simp at ho
            case hfin =>
              rintro listed a w ⟨fb0, fb1, fb2, fb3, fb4, fb5, fx0, fx1, fx2, fx3, fx4, fx5, rfl, rfl, H⟩ hr
              have hb : fb5 = true := by
                clear H
                revert fb0 fb1 fb2 fb3 fb4 fb5
                decide +kernel
              subst hb
              clear hr
              obtain rfl : fb0 = true := (H.d5 rfl).1
              obtain rfl : fb1 = true := (H.d5 rfl).2.1
              obtain rfl : fb2 = true := (H.d5 rfl).2.2.1
              obtain rfl : fb3 = true := (H.d5 rfl).2.2.2.1
              obtain rfl : fb4 = true := (H.d5 rfl).2.2.2.2
              have he := H.h5 rfl
              subst he
              obtain ⟨hgw, hbv, Ag', cg', rfl, ho⟩ := H.h4 rfl
              clear H
              have GW9 := Lib.hid hgw
              have BV9 := Lib.hid (BV5.out.trans hbv)
              have BF9 := Lib.hid (BFV.out.trans (BV9.out.mono HVW.out))
              have O9 := Lib.hid (show w.ownsRow (V + 1) 5 1 (.slice Ag' (got ++ bs).length cg') (got ++ bs).length ((got ++ bs).map (.int .u8)) from by rw [List.length_append, List.map_append]; exact ho)
              have hln : got.length + bs.length = (got ++ bs).length := by rw [List.length_append]
              clear hgw hbv ho
              go_wp2_with fail
              go_roundg (gk - 1)
              case measure => omega
              case rel => exact ⟨kk + 1, r2, A5, n5, c5, got ++ bs, Ag', cg', by rw [hln], by first | rfl | go_num, by omega, BF9, BV9, GW9, O9, IA2⟩
          · have kz' : (km == 0) = false := by simp [kz]
            clear kz
            go_wp2_with fail
            go_roundg (gk - 1)
            case measure => omega
            case rel => exact ⟨kk + 1, g, A, n, c, got, Ag, cg, rfl, by first | rfl | go_num, by omega, BFC, BVC, GC, OC, IAr18b⟩
    · obtain rfl : kk = N := by omega
      obtain rfl : gk = 0 := by omega
      obtain ⟨gd, gh, gf, gw⟩ := g
      have hgd := IA.out.done
      have hgw := IA.out.win
      simp only at hgd hgw
      subst hgd hgw
      obtain ⟨dn, hdn⟩ : ∃ m, got.length = m := ⟨_, rfl⟩
      have hle := IA.out.le
      have HGOT := Lib.hid IA.out.pre
      have hev := IA.out
      rw [hdn, HTLEN.out] at hle
      rw [hdn] at hev HGOT
      obtain ⟨he1, he2⟩ := all_end hdn hev TSM.out
      have hla := all_last hdn HGOT.out (by rw [HTLEN.out]; exact hle) he2
      have hp := fun v v2 w hv hd => gaPut_F v v2 ⟨(dn : Int), gh, gf, 250⟩ dn (t.drop dn) true w hv hev.sm.wf hev.sm.len hd (by have := hev.sm.sum; have := TSM.out; rw [List.length_drop]; omega) (by omega)
      rw [he1] at hp
      obtain ⟨ps9, hps9⟩ : ∃ ps, restP t dn = ps := ⟨_, rfl⟩
      rw [hps9, HTLEN.out] at hp he2 hla
      obtain ⟨q9, bs9, hq9, hgb⟩ := hla
      have ht := fun v w hv => gaTake_F v ⟨(dn : Int), ps9, (tL : Int), 250⟩ w hv he2.wf he2.len
      rw [hq9] at ht
      have HTL9 := Lib.hid ht
      have HGB := Lib.hid hgb
      have HPF := Lib.hid hp
      obtain ⟨SB, hSB⟩ : ∃ SA, (if tc = dn then tA else Option.map (fun x => x.add dn) tA) = SA := ⟨_, rfl⟩
      have HTF := Lib.hid (fun w' (hb : Below V w3 w') => (show BSl w' w'.heap.size (.slice SB (tL - dn) (tc - dn)) (t.drop dn) from by
        have q := TPART.out dn tL hle (Nat.le_refl _) SB hSB w' hb
        rwa [List.take_of_length_le (by rw [List.length_drop, HTLEN.out]; exact Nat.le_refl _)] at q))
      have VX := Lib.hid (show GW wr V ⟨(dn : Int), gh, gf, 250⟩ A n c from hdn ▸ VXr.out)
      have OX := Lib.hid (show wr.ownsRow (V + 1) 5 1 (.slice Ag dn cg) dn (got.map (.int .u8)) from hdn ▸ OXr.out)
      have BVX := BVXr
      have hdl : (dn : Int) ≤ (tL : Int) := by omega
      have hnlt : ¬ tL < dn := by omega
      have hmin : min (dn : Int) (tL : Int) = (dn : Int) := by omega
      obtain ⟨X, hX⟩ : ∃ Y, Y = wr := ⟨_, rfl⟩
      subst hX
      have hVX := lt_of_block VX.out.blk
      rw [hdn]
      obtain ⟨v0, v1, v2, v3⟩ := bkG VX.out.blk
      clear hp hev hgb hq9 ht hps9 he1 he2 OXr VXr BXr BVXr IA hdn HR HL
      go_wp2_with fail
      clear v0 v1 v2 v3
      refine wp_region_inv (fun listed a w => ∃ (eb0 eb1 eb2 eb3 eb4 eb5 eb6 eb7 eb8 eb9 eb10 eb11 eb12 eb13 : Bool) (ex0 ex1 ex2 ex3 ex4 ex5 ex6 ex7 ex8 ex9 ex10 ex11 ex12 ex13 : Value), listed = #[eb0, eb1, eb2, eb3, eb4, eb5, eb6, eb7, eb8, eb9, eb10, eb11, eb12, eb13] ∧ a = { tmps := #[Value.string a0, Value.int IntKind.i64 a1, Value.slice RA len cap, undef, undef, undef, u6, Value.slice tA tL tc, Value.pointer (some { block := V, off := 0 }), Value.int IntKind.i64 0, Value.slice Ag dn cg, undef, u12, u13, u14, u15, u16, u17, u18, u19, u20, Value.int IntKind.i64 ↑dn, ex13, undef, undef, undef, undef, Value.string a0, Value.int IntKind.i64 a1, Value.slice tA tL tc, Value.tuple #[Value.agg #[Value.int IntKind.i64 0, Value.slice A3 n3 c3, Value.int IntKind.i64 (-1), Value.int IntKind.i64 250], Value.int IntKind.i64 0], Value.tuple #[Value.agg #[Value.int IntKind.i64 0, Value.slice A3 n3 c3, Value.int IntKind.i64 (-1), Value.int IntKind.i64 250], Value.int IntKind.i64 0], Value.agg #[Value.int IntKind.i64 0, Value.slice A3 n3 c3, Value.int IntKind.i64 (-1), Value.int IntKind.i64 250], Value.int IntKind.i64 0, Value.slice RA len cap, Value.slice RA kk cap, Value.int IntKind.i64 ↑kk, Value.int IntKind.i64 ↑kk, Value.bool false, u39, u40, u41, u42, u43, u44, u45, u46, u47, u48, u49, u50, u51, u52, u53, u54, u55, u56, u57, u58, u59, u60, u61, u62, u63, u64, u65, u66, u67, u68, u69, u70, u71, u72, u73, u74, u75, u76, u77, u78, u79, u80, u81, u82, u83, u84, u85, u86, u87, u88, u89, u90, u91, u92, u93, u94, u95, u96, u97, u98, u99, u100, u101, u102, Value.pointer (some { block := V, off := 0 }), Value.int IntKind.i64 ↑dn, ex9, ex0, ex1, ex2, ex3, ex4, ex5, ex6, ex7, ex8, ex10, ex11, undef, undef, undef, undef, undef, undef, undef, undef, undef, undef, undef, undef, undef, undef, undef, undef, undef, undef, undef, undef, undef, undef, undef, undef, undef, undef, undef, undef, undef, undef, undef, undef, undef], defers := [] } ∧ All21 X V dn gf ps9 A n c tA SB tL tc (.agg #[.int .i64 (dn : Int), .slice A n c, .int .i64 gf, .int .i64 250]) (.int .i64 (dn : Int)) (.slice tA tL tc) (.int .i64 (dn : Int)) (.slice tA tL tc) (.int .i64 (tL : Int)) (.int .i64 (dn : Int)) (.slice SB (tL - dn) (tc - dn)) (.int .i64 0) (.int .i64 0) eb0 eb1 eb2 eb3 eb4 eb5 eb6 eb7 eb8 eb9 eb10 eb11 eb12 eb13 ex0 ex1 ex2 ex3 ex4 ex5 ex6 ex7 ex8 ex9 ex10 ex11 ex12 ex13 w) (by kernel_rfl) ?h0 ?hfin ?hI
      case h0 => exact ⟨_, _, _, _, _, _, _, _, _, _, _, _, _, _, _, _, _, _, _, _, _, _, _, _, _, _, undef, _, rfl, rfl, ⟨(fun _ => (Below.refl _ _).drew), (fun h => by cases h), (fun h => by cases h), (fun h => by cases h), (fun h => by cases h), (fun h => by cases h), (fun h => by cases h), (fun h => by cases h), (fun h => by cases h), (fun h => by cases h), (fun h => by cases h), (fun h => by cases h), (fun h => by cases h), (fun h => by cases h), (fun h => by cases h), (fun h => by cases h), (fun h => by cases h), (fun h => by cases h), (fun h => by cases h), (fun h => by cases h), (fun h => by cases h), (fun h => by cases h), (fun h => by cases h), (fun h => by cases h), (fun h => by cases h), (fun h => by cases h)⟩⟩
      case hI =>
        rintro listed a w ⟨eb0, eb1, eb2, eb3, eb4, eb5, eb6, eb7, eb8, eb9, eb10, eb11, eb12, eb13, ex0, ex1, ex2, ex3, ex4, ex5, ex6, ex7, ex8, ex9, ex10, ex11, ex12, ex13, rfl, rfl, H⟩ i hi
        obtain ⟨hun, oj, hoj, hall⟩ := mem_ready.1 hi
        clear hi
        rcases i with _ | _ | _ | _ | _ | _ | _ | _ | _ | _ | _ | _ | _ | _ | i
        · have ho := hoj
          simp only [List.getElem?_toArray, List.getElem?_cons_succ, List.getElem?_cons_zero, Option.some.injEq] at hoj
          subst hoj
          obtain rfl : eb0 = false := hun
          clear hall
          obtain rfl : eb8 = false := Bool.eq_false_iff.2 fun h => Bool.false_ne_true (H.d8 h).1
          obtain rfl : eb9 = false := Bool.eq_false_iff.2 fun h => Bool.false_ne_true (H.d9 h)
          obtain rfl : eb10 = false := Bool.eq_false_iff.2 fun h => Bool.false_ne_true (H.d10 h)
          obtain rfl : eb11 = false := Bool.eq_false_iff.2 fun h => Bool.false_ne_true (H.d11 h)
          obtain rfl : eb12 = false := Bool.eq_false_iff.2 fun h => Bool.false_ne_true (H.d12 h).1
          obtain rfl : eb13 = false := Bool.eq_false_iff.2 fun h => Bool.false_ne_true (H.d13 h).1
          have hbe := H.be rfl
          have hx_t5 := H.t5
          have hx_t6 := H.t6
          obtain ⟨q0, q1, q2, q3⟩ := bkG ((hbe.block _ hVX).trans VX.out.blk)
          refine wpOp_step ho (fun K' hK => ?_)
          have HK := Lib.hid hK
          clear hK ho
          go_simp
          exact HK.out _ _ ⟨_, _, _, _, _, _, _, _, _, _, _, _, _, _, _, _, _, _, _, _, _, _, _, _, _, _, ex12, _, rfl, rfl, ⟨(fun _ => hbe), H.d5, H.d6, H.d7, (fun h => by cases h), H.d9, H.d10, H.d11, (fun h => by cases h), (fun h => by cases h), H.t5, H.t6, (fun _ => rfl), H.h1, H.h2, H.h3, H.h4, H.h5, H.h6, H.h7, (fun h => by cases h), (fun h => by cases h), (fun h => by cases h), H.h11, (fun h => by cases h), H.h13⟩⟩
        · have ho := hoj
          simp only [List.getElem?_toArray, List.getElem?_cons_succ, List.getElem?_cons_zero, Option.some.injEq] at hoj
          subst hoj
          obtain rfl : eb1 = false := hun
          clear hall
          obtain rfl : eb8 = false := Bool.eq_false_iff.2 fun h => Bool.false_ne_true (H.d8 h).2.1
          obtain rfl : eb9 = false := Bool.eq_false_iff.2 fun h => Bool.false_ne_true (H.d9 h)
          obtain rfl : eb10 = false := Bool.eq_false_iff.2 fun h => Bool.false_ne_true (H.d10 h)
          obtain rfl : eb11 = false := Bool.eq_false_iff.2 fun h => Bool.false_ne_true (H.d11 h)
          obtain rfl : eb12 = false := Bool.eq_false_iff.2 fun h => Bool.false_ne_true (H.d12 h).2.1
          obtain rfl : eb13 = false := Bool.eq_false_iff.2 fun h => Bool.false_ne_true (H.d13 h).2.1
          have hbe := H.be rfl
          have hx_t5 := H.t5
          have hx_t6 := H.t6
          refine wpOp_step ho (fun K' hK => ?_)
          have HK := Lib.hid hK
          clear hK ho
          go_simp
          exact HK.out _ _ ⟨_, _, _, _, _, _, _, _, _, _, _, _, _, _, _, _, _, _, _, _, _, _, _, _, _, _, ex12, _, rfl, rfl, ⟨(fun _ => hbe), H.d5, H.d6, H.d7, (fun h => by cases h), H.d9, H.d10, H.d11, (fun h => by cases h), (fun h => by cases h), H.t5, H.t6, H.h0, (fun _ => rfl), H.h2, H.h3, H.h4, H.h5, H.h6, H.h7, (fun h => by cases h), (fun h => by cases h), (fun h => by cases h), H.h11, (fun h => by cases h), H.h13⟩⟩
        · have ho := hoj
          simp only [List.getElem?_toArray, List.getElem?_cons_succ, List.getElem?_cons_zero, Option.some.injEq] at hoj
          subst hoj
          obtain rfl : eb2 = false := hun
          clear hall
          obtain rfl : eb7 = false := Bool.eq_false_iff.2 fun h => Bool.false_ne_true (H.d7 h).1
          obtain rfl : eb8 = false := Bool.eq_false_iff.2 fun h => Bool.false_ne_true (H.d8 h).2.2
          obtain rfl : eb9 = false := Bool.eq_false_iff.2 fun h => Bool.false_ne_true (H.d9 h)
          obtain rfl : eb10 = false := Bool.eq_false_iff.2 fun h => Bool.false_ne_true (H.d10 h)
          obtain rfl : eb11 = false := Bool.eq_false_iff.2 fun h => Bool.false_ne_true (H.d11 h)
          obtain rfl : eb12 = false := Bool.eq_false_iff.2 fun h => Bool.false_ne_true (H.d12 h).2.2.1
          obtain rfl : eb13 = false := Bool.eq_false_iff.2 fun h => Bool.false_ne_true (H.d13 h).2.2.1
          have hbe := H.be rfl
          have hx_t5 := H.t5
          have hx_t6 := H.t6
          refine wpOp_step ho (fun K' hK => ?_)
          have HK := Lib.hid hK
          clear hK ho
          go_simp
          exact HK.out _ _ ⟨_, _, _, _, _, _, _, _, _, _, _, _, _, _, _, _, _, _, _, _, _, _, _, _, _, _, ex12, _, rfl, rfl, ⟨(fun _ => hbe), H.d5, H.d6, (fun h => by cases h), H.d8, H.d9, H.d10, H.d11, (fun h => by cases h), (fun h => by cases h), H.t5, H.t6, H.h0, H.h1, (fun _ => rfl), H.h3, H.h4, H.h5, H.h6, H.h7, (fun h => by cases h), (fun h => by cases h), (fun h => by cases h), H.h11, (fun h => by cases h), H.h13⟩⟩
        · have ho := hoj
          simp only [List.getElem?_toArray, List.getElem?_cons_succ, List.getElem?_cons_zero, Option.some.injEq] at hoj
          subst hoj
          obtain rfl : eb3 = false := hun
          clear hall
          obtain rfl : eb6 = false := Bool.eq_false_iff.2 fun h => Bool.false_ne_true (H.d6 h).1
          obtain rfl : eb7 = false := Bool.eq_false_iff.2 fun h => Bool.false_ne_true (H.d7 h).2
          obtain rfl : eb8 = false := Bool.eq_false_iff.2 fun h => Bool.false_ne_true (H.d8 h).2.2
          obtain rfl : eb9 = false := Bool.eq_false_iff.2 fun h => Bool.false_ne_true (H.d9 h)
          obtain rfl : eb10 = false := Bool.eq_false_iff.2 fun h => Bool.false_ne_true (H.d10 h)
          obtain rfl : eb11 = false := Bool.eq_false_iff.2 fun h => Bool.false_ne_true (H.d11 h)
          obtain rfl : eb12 = false := Bool.eq_false_iff.2 fun h => Bool.false_ne_true (H.d12 h).2.2.2.1
          obtain rfl : eb13 = false := Bool.eq_false_iff.2 fun h => Bool.false_ne_true (H.d13 h).2.2.2.1
          have hbe := H.be rfl
          have hx_t5 := H.t5
          have hx_t6 := H.t6
          refine wpOp_step ho (fun K' hK => ?_)
          have HK := Lib.hid hK
          clear hK ho
          go_simp
          exact HK.out _ _ ⟨_, _, _, _, _, _, _, _, _, _, _, _, _, _, _, _, _, _, _, _, _, _, _, _, _, _, ex12, _, rfl, rfl, ⟨(fun _ => hbe), H.d5, (fun h => by cases h), H.d7, H.d8, H.d9, H.d10, H.d11, (fun h => by cases h), (fun h => by cases h), H.t5, H.t6, H.h0, H.h1, H.h2, (fun _ => rfl), H.h4, H.h5, H.h6, H.h7, (fun h => by cases h), (fun h => by cases h), (fun h => by cases h), H.h11, (fun h => by cases h), H.h13⟩⟩
        · have ho := hoj
          simp only [List.getElem?_toArray, List.getElem?_cons_succ, List.getElem?_cons_zero, Option.some.injEq] at hoj
          subst hoj
          obtain rfl : eb4 = false := hun
          clear hall
          obtain rfl : eb5 = false := Bool.eq_false_iff.2 fun h => Bool.false_ne_true (H.d5 h)
          obtain rfl : eb6 = false := Bool.eq_false_iff.2 fun h => Bool.false_ne_true (H.d6 h).2
          obtain rfl : eb7 = false := Bool.eq_false_iff.2 fun h => Bool.false_ne_true (H.d7 h).2
          obtain rfl : eb8 = false := Bool.eq_false_iff.2 fun h => Bool.false_ne_true (H.d8 h).2.2
          obtain rfl : eb9 = false := Bool.eq_false_iff.2 fun h => Bool.false_ne_true (H.d9 h)
          obtain rfl : eb10 = false := Bool.eq_false_iff.2 fun h => Bool.false_ne_true (H.d10 h)
          obtain rfl : eb11 = false := Bool.eq_false_iff.2 fun h => Bool.false_ne_true (H.d11 h)
          obtain rfl : eb12 = false := Bool.eq_false_iff.2 fun h => Bool.false_ne_true (H.d12 h).2.2.2.2.1
          obtain rfl : eb13 = false := Bool.eq_false_iff.2 fun h => Bool.false_ne_true (H.d13 h).2.2.2.2.1
          have hbe := H.be rfl
          have hx_t5 := H.t5
          have hx_t6 := H.t6
          refine wpOp_step ho (fun K' hK => ?_)
          have HK := Lib.hid hK
          clear hK ho
          go_simp
          exact HK.out _ _ ⟨_, _, _, _, _, _, _, _, _, _, _, _, _, _, _, _, _, _, _, _, _, _, _, _, _, _, ex12, _, rfl, rfl, ⟨(fun _ => hbe), (fun h => by cases h), H.d6, H.d7, H.d8, H.d9, H.d10, H.d11, (fun h => by cases h), (fun h => by cases h), H.t5, H.t6, H.h0, H.h1, H.h2, H.h3, (fun _ => rfl), H.h5, H.h6, H.h7, (fun h => by cases h), (fun h => by cases h), (fun h => by cases h), H.h11, (fun h => by cases h), H.h13⟩⟩
        · have ho := hoj
          simp only [List.getElem?_toArray, List.getElem?_cons_succ, List.getElem?_cons_zero, Option.some.injEq] at hoj
          subst hoj
          obtain rfl : eb5 = false := hun
          obtain rfl : eb4 = true := hall ⟨4, .data⟩ (by simp) (by kernel_rfl)
          clear hall
          obtain rfl : eb6 = false := Bool.eq_false_iff.2 fun h => Bool.false_ne_true (H.d6 h).2
          obtain rfl : eb7 = false := Bool.eq_false_iff.2 fun h => Bool.false_ne_true (H.d7 h).2
          obtain rfl : eb8 = false := Bool.eq_false_iff.2 fun h => Bool.false_ne_true (H.d8 h).2.2
          obtain rfl : eb9 = false := Bool.eq_false_iff.2 fun h => Bool.false_ne_true (H.d9 h)
          obtain rfl : eb10 = false := Bool.eq_false_iff.2 fun h => Bool.false_ne_true (H.d10 h)
          obtain rfl : eb11 = false := Bool.eq_false_iff.2 fun h => Bool.false_ne_true (H.d11 h)
          obtain rfl : eb12 = false := Bool.eq_false_iff.2 fun h => Bool.false_ne_true (H.d12 h).2.2.2.2.2.1
          obtain rfl : eb13 = false := Bool.eq_false_iff.2 fun h => Bool.false_ne_true (H.d13 h).2.2.2.2.2.1
          have hbe := H.be rfl
          have hx_t5 := H.t5
          have hx_t6 := H.t6
          obtain rfl := H.h4 rfl
          refine wpOp_step ho (fun K' hK => ?_)
          have HK := Lib.hid hK
          clear hK ho
          go_simp
          exact HK.out _ _ ⟨_, _, _, _, _, _, _, _, _, _, _, _, _, _, _, _, _, _, _, _, _, _, _, _, _, _, ex12, _, rfl, rfl, ⟨(fun _ => hbe), (fun _ => rfl), (fun h => by cases h), H.d7, H.d8, H.d9, H.d10, H.d11, (fun h => by cases h), (fun h => by cases h), H.t5, H.t6, H.h0, H.h1, H.h2, H.h3, H.h4, (fun _ => rfl), H.h6, H.h7, (fun h => by cases h), (fun h => by cases h), (fun h => by cases h), H.h11, (fun h => by cases h), H.h13⟩⟩
        · have ho := hoj
          simp only [List.getElem?_toArray, List.getElem?_cons_succ, List.getElem?_cons_zero, Option.some.injEq] at hoj
          subst hoj
          obtain rfl : eb6 = false := hun
          obtain rfl : eb3 = true := hall ⟨3, .data⟩ (by simp) (by kernel_rfl)
          obtain rfl : eb5 = true := hall ⟨5, .data⟩ (by simp) (by kernel_rfl)
          obtain rfl : eb4 = true := (H.d5 rfl)
          clear hall
          obtain rfl : eb7 = false := Bool.eq_false_iff.2 fun h => Bool.false_ne_true (H.d7 h).2
          obtain rfl : eb8 = false := Bool.eq_false_iff.2 fun h => Bool.false_ne_true (H.d8 h).2.2
          obtain rfl : eb9 = false := Bool.eq_false_iff.2 fun h => Bool.false_ne_true (H.d9 h)
          obtain rfl : eb10 = false := Bool.eq_false_iff.2 fun h => Bool.false_ne_true (H.d10 h)
          obtain rfl : eb11 = false := Bool.eq_false_iff.2 fun h => Bool.false_ne_true (H.d11 h)
          obtain rfl : eb12 = false := Bool.eq_false_iff.2 fun h => Bool.false_ne_true (H.d12 h).2.2.2.2.2.2.1
          obtain rfl : eb13 = false := Bool.eq_false_iff.2 fun h => Bool.false_ne_true (H.d13 h).2.2.2.2.2.2.1
          have hbe := H.be rfl
          have hx_t5 := H.t5
          have hx_t6 := H.t6
          obtain rfl := H.h3 rfl
          obtain rfl := H.h4 rfl
          obtain rfl := H.h5 rfl
          refine wpOp_step ho (fun K' hK => ?_)
          have HK := Lib.hid hK
          clear hK ho
          go_simp
          exact HK.out _ _ ⟨_, _, _, _, _, _, _, _, _, _, _, _, _, _, _, _, _, _, _, _, _, _, _, _, _, _, ex12, _, rfl, rfl, ⟨(fun _ => hbe), H.d5, (fun _ => ⟨rfl, rfl⟩), (fun h => by cases h), H.d8, H.d9, H.d10, H.d11, (fun h => by cases h), (fun h => by cases h), H.t5, H.t6, H.h0, H.h1, H.h2, H.h3, H.h4, H.h5, (fun _ => rfl), H.h7, (fun h => by cases h), (fun h => by cases h), (fun h => by cases h), H.h11, (fun h => by cases h), H.h13⟩⟩
        · have ho := hoj
          simp only [List.getElem?_toArray, List.getElem?_cons_succ, List.getElem?_cons_zero, Option.some.injEq] at hoj
          subst hoj
          obtain rfl : eb7 = false := hun
          obtain rfl : eb2 = true := hall ⟨2, .data⟩ (by simp) (by kernel_rfl)
          obtain rfl : eb6 = true := hall ⟨6, .data⟩ (by simp) (by kernel_rfl)
          obtain rfl : eb3 = true := (H.d6 rfl).1
          obtain rfl : eb5 = true := (H.d6 rfl).2
          obtain rfl : eb4 = true := (H.d5 rfl)
          clear hall
          obtain rfl : eb8 = false := Bool.eq_false_iff.2 fun h => Bool.false_ne_true (H.d8 h).2.2
          obtain rfl : eb9 = false := Bool.eq_false_iff.2 fun h => Bool.false_ne_true (H.d9 h)
          obtain rfl : eb10 = false := Bool.eq_false_iff.2 fun h => Bool.false_ne_true (H.d10 h)
          obtain rfl : eb11 = false := Bool.eq_false_iff.2 fun h => Bool.false_ne_true (H.d11 h)
          obtain rfl : eb12 = false := Bool.eq_false_iff.2 fun h => Bool.false_ne_true (H.d12 h).2.2.2.2.2.2.2.1
          obtain rfl : eb13 = false := Bool.eq_false_iff.2 fun h => Bool.false_ne_true (H.d13 h).2.2.2.2.2.2.2.1
          have hbe := H.be rfl
          have hx_t5 := H.t5
          have hx_t6 := H.t6
          obtain rfl := H.h2 rfl
          obtain rfl := H.h3 rfl
          obtain rfl := H.h4 rfl
          obtain rfl := H.h5 rfl
          obtain rfl := H.h6 rfl
          refine wpOp_step ho (fun K' hK => ?_)
          have HK := Lib.hid hK
          clear hK ho
          go_simp
          exact HK.out _ _ ⟨_, _, _, _, _, _, _, _, _, _, _, _, _, _, _, _, _, _, _, _, _, _, _, _, _, _, ex12, _, rfl, rfl, ⟨(fun _ => hbe), H.d5, H.d6, (fun _ => ⟨rfl, rfl⟩), (fun h => by cases h), H.d9, H.d10, H.d11, (fun h => by cases h), (fun h => by cases h), H.t5, H.t6, H.h0, H.h1, H.h2, H.h3, H.h4, H.h5, H.h6, (fun _ => rfl), (fun h => by cases h), (fun h => by cases h), (fun h => by cases h), H.h11, (fun h => by cases h), H.h13⟩⟩
        · have ho := hoj
          simp only [List.getElem?_toArray, List.getElem?_cons_succ, List.getElem?_cons_zero, Option.some.injEq] at hoj
          subst hoj
          obtain rfl : eb8 = false := hun
          obtain rfl : eb0 = true := hall ⟨0, .data⟩ (by simp) (by kernel_rfl)
          obtain rfl : eb1 = true := hall ⟨1, .data⟩ (by simp) (by kernel_rfl)
          obtain rfl : eb7 = true := hall ⟨7, .data⟩ (by simp) (by kernel_rfl)
          obtain rfl : eb2 = true := (H.d7 rfl).1
          obtain rfl : eb6 = true := (H.d7 rfl).2
          obtain rfl : eb3 = true := (H.d6 rfl).1
          obtain rfl : eb5 = true := (H.d6 rfl).2
          obtain rfl : eb4 = true := (H.d5 rfl)
          clear hall
          obtain rfl : eb9 = false := Bool.eq_false_iff.2 fun h => Bool.false_ne_true (H.d9 h)
          obtain rfl : eb10 = false := Bool.eq_false_iff.2 fun h => Bool.false_ne_true (H.d10 h)
          obtain rfl : eb11 = false := Bool.eq_false_iff.2 fun h => Bool.false_ne_true (H.d11 h)
          obtain rfl : eb12 = false := Bool.eq_false_iff.2 fun h => Bool.false_ne_true (H.d12 h).2.2.2.2.2.2.2.2.1
          obtain rfl : eb13 = false := Bool.eq_false_iff.2 fun h => Bool.false_ne_true (H.d13 h).2.2.2.2.2.2.2.2.1
          have hbe := H.be rfl
          have hx_t5 := H.t5
          have hx_t6 := H.t6
          obtain rfl := H.h0 rfl
          obtain rfl := H.h1 rfl
          obtain rfl := H.h2 rfl
          obtain rfl := H.h3 rfl
          obtain rfl := H.h4 rfl
          obtain rfl := H.h5 rfl
          obtain rfl := H.h6 rfl
          obtain rfl := H.h7 rfl
          refine wpOp_step ho (fun K' hK => ?_)
          have HK := Lib.hid hK
          clear hK ho
          go_wp2_with fail
          refine (HPF.out _ _ w ((VX.out.below hbe).val) (HTF.out w (BVX.out.trans (hbe.mono (Nat.le_of_lt hVX))))).mono ?_
          rintro e w1 ⟨bb1, u1, rfl, hu1⟩
          have BC := Lib.hid bb1
          have UC := Lib.hid (hu1.toS.anti (S' := fun j => j < X.heap.size) (fun j hj => Nat.lt_of_lt_of_le hj hbe.size))
          clear bb1 hu1
          go_wp2_with fail
          exact HK.out _ _ ⟨_, _, _, _, _, _, _, _, _, _, _, _, _, _, _, _, _, _, _, _, _, _, _, _, _, _, ex12, _, rfl, rfl, ⟨(fun _ => hbe.trans (BC.out.mono hbe.size)), H.d5, H.d6, H.d7, (fun _ => ⟨rfl, rfl, rfl⟩), (fun h => by cases h), H.d10, H.d11, (fun h => by cases h), (fun h => by cases h), fun _ => ⟨_, rfl⟩, hx_t6, H.h0, H.h1, H.h2, H.h3, H.h4, H.h5, H.h6, H.h7, (fun _ _ => ⟨_, rfl, UC.out⟩), (fun h => by cases h), (fun h => by cases h), H.h11, (fun h => by cases h), H.h13⟩⟩
        · have ho := hoj
          simp only [List.getElem?_toArray, List.getElem?_cons_succ, List.getElem?_cons_zero, Option.some.injEq] at hoj
          subst hoj
          obtain rfl : eb9 = false := hun
          obtain rfl : eb8 = true := hall ⟨8, .data⟩ (by simp) (by kernel_rfl)
          obtain rfl : eb0 = true := (H.d8 rfl).1
          obtain rfl : eb1 = true := (H.d8 rfl).2.1
          obtain rfl : eb7 = true := (H.d8 rfl).2.2
          obtain rfl : eb2 = true := (H.d7 rfl).1
          obtain rfl : eb6 = true := (H.d7 rfl).2
          obtain rfl : eb3 = true := (H.d6 rfl).1
          obtain rfl : eb5 = true := (H.d6 rfl).2
          obtain rfl : eb4 = true := (H.d5 rfl)
          clear hall
          obtain rfl : eb10 = false := Bool.eq_false_iff.2 fun h => Bool.false_ne_true (H.d10 h)
          obtain rfl : eb11 = false := Bool.eq_false_iff.2 fun h => Bool.false_ne_true (H.d11 h)
          obtain rfl : eb12 = false := Bool.eq_false_iff.2 fun h => Bool.false_ne_true (H.d12 h).2.2.2.2.2.2.2.2.2.1
          obtain rfl : eb13 = false := Bool.eq_false_iff.2 fun h => Bool.false_ne_true (H.d13 h).2.2.2.2.2.2.2.2.2.1
          have hbe := H.be rfl
          have hx_t5 := H.t5
          have hx_t6 := H.t6
          obtain rfl := H.h0 rfl
          obtain rfl := H.h1 rfl
          obtain rfl := H.h2 rfl
          obtain rfl := H.h3 rfl
          obtain rfl := H.h4 rfl
          obtain rfl := H.h5 rfl
          obtain rfl := H.h6 rfl
          obtain rfl := H.h7 rfl
          have P8 := H.h8 rfl rfl
          have PT := Lib.hid P8
          have TT := Lib.hid (H.t5 rfl)
          clear P8
          refine wpOp_step ho (fun K' hK => ?_)
          have HK := Lib.hid hK
          clear hK ho
          go_simp
          exact HK.out _ _ ⟨_, _, _, _, _, _, _, _, _, _, _, _, _, _, _, _, _, _, _, _, _, _, _, _, _, _, ex12, _, rfl, rfl, ⟨(fun _ => hbe), H.d5, H.d6, H.d7, H.d8, (fun _ => rfl), (fun h => by cases h), (fun h => by cases h), (fun h => by cases h), (fun h => by cases h), H.t5, fun _ => TT.out, H.h0, H.h1, H.h2, H.h3, H.h4, H.h5, H.h6, H.h7, H.h8, (fun _ _ => PT.out), (fun h => by cases h), H.h11, (fun h => by cases h), H.h13⟩⟩
        · have ho := hoj
          simp only [List.getElem?_toArray, List.getElem?_cons_succ, List.getElem?_cons_zero, Option.some.injEq] at hoj
          subst hoj
          obtain rfl : eb10 = false := hun
          obtain rfl : eb9 = true := hall ⟨9, .data⟩ (by simp) (by kernel_rfl)
          obtain rfl : eb8 = true := (H.d9 rfl)
          obtain rfl : eb0 = true := (H.d8 rfl).1
          obtain rfl : eb1 = true := (H.d8 rfl).2.1
          obtain rfl : eb7 = true := (H.d8 rfl).2.2
          obtain rfl : eb2 = true := (H.d7 rfl).1
          obtain rfl : eb6 = true := (H.d7 rfl).2
          obtain rfl : eb3 = true := (H.d6 rfl).1
          obtain rfl : eb5 = true := (H.d6 rfl).2
          obtain rfl : eb4 = true := (H.d5 rfl)
          clear hall
          obtain rfl : eb12 = false := Bool.eq_false_iff.2 fun h => Bool.false_ne_true (H.d12 h).2.2.2.2.2.2.2.2.2.2
          obtain rfl : eb13 = false := Bool.eq_false_iff.2 fun h => Bool.false_ne_true (H.d13 h).2.2.2.2.2.2.2.2.2.2.1
          have hbe := H.be rfl
          have hx_t5 := H.t5
          have hx_t6 := H.t6
          obtain rfl := H.h0 rfl
          obtain rfl := H.h1 rfl
          obtain rfl := H.h2 rfl
          obtain rfl := H.h3 rfl
          obtain rfl := H.h4 rfl
          obtain rfl := H.h5 rfl
          obtain rfl := H.h6 rfl
          obtain rfl := H.h7 rfl
          have P8 := H.h8 rfl rfl
          have P9 := H.h9 rfl rfl
          obtain ⟨u, rfl, hu⟩ := P9
          have HU := Lib.hid hu
          clear hu
          refine wpOp_step ho (fun K' hK => ?_)
          have HK := Lib.hid hK
          clear hK ho
          go_simp
          exact HK.out _ _ ⟨_, _, _, _, _, _, _, _, _, _, _, _, _, _, _, _, _, _, _, _, _, _, _, _, _, _, ex12, _, rfl, rfl, ⟨(fun _ => hbe), H.d5, H.d6, H.d7, H.d8, H.d9, (fun _ => rfl), H.d11, (fun h => by cases h), (fun h => by cases h), H.t5, H.t6, H.h0, H.h1, H.h2, H.h3, H.h4, H.h5, H.h6, H.h7, H.h8, H.h9, (fun _ _ => HU.out), H.h11, (fun h => by cases h), H.h13⟩⟩
        · have ho := hoj
          simp only [List.getElem?_toArray, List.getElem?_cons_succ, List.getElem?_cons_zero, Option.some.injEq] at hoj
          subst hoj
          obtain rfl : eb11 = false := hun
          obtain rfl : eb9 = true := hall ⟨9, .data⟩ (by simp) (by kernel_rfl)
          obtain rfl : eb8 = true := (H.d9 rfl)
          obtain rfl : eb0 = true := (H.d8 rfl).1
          obtain rfl : eb1 = true := (H.d8 rfl).2.1
          obtain rfl : eb7 = true := (H.d8 rfl).2.2
          obtain rfl : eb2 = true := (H.d7 rfl).1
          obtain rfl : eb6 = true := (H.d7 rfl).2
          obtain rfl : eb3 = true := (H.d6 rfl).1
          obtain rfl : eb5 = true := (H.d6 rfl).2
          obtain rfl : eb4 = true := (H.d5 rfl)
          clear hall
          obtain rfl : eb13 = false := Bool.eq_false_iff.2 fun h => Bool.false_ne_true (H.d13 h).2.2.2.2.2.2.2.2.2.2.2.1
          have hx_t5 := H.t5
          have hx_t6 := H.t6
          obtain rfl := H.h0 rfl
          obtain rfl := H.h1 rfl
          obtain rfl := H.h2 rfl
          obtain rfl := H.h3 rfl
          obtain rfl := H.h4 rfl
          obtain rfl := H.h5 rfl
          obtain rfl := H.h6 rfl
          obtain rfl := H.h7 rfl
          obtain ⟨u, rfl⟩ := H.t6 rfl
          refine wpOp_step ho (fun K' hK => ?_)
          have HK := Lib.hid hK
          clear hK ho
          go_simp
          exact HK.out _ _ ⟨_, _, _, _, _, _, _, _, _, _, _, _, _, _, _, _, _, _, _, _, _, _, _, _, _, _, ex12, _, rfl, rfl, ⟨H.be, H.d5, H.d6, H.d7, H.d8, H.d9, H.d10, (fun _ => rfl), H.d12, (fun h => by cases h), H.t5, H.t6, H.h0, H.h1, H.h2, H.h3, H.h4, H.h5, H.h6, H.h7, H.h8, H.h9, H.h10, (fun _ => rfl), H.h12, H.h13⟩⟩
        · have ho := hoj
          simp only [List.getElem?_toArray, List.getElem?_cons_succ, List.getElem?_cons_zero, Option.some.injEq] at hoj
          subst hoj
          obtain rfl : eb12 = false := hun
          obtain rfl : eb0 = true := hall ⟨0, .phase⟩ (by simp) (by kernel_rfl)
          obtain rfl : eb1 = true := hall ⟨1, .phase⟩ (by simp) (by kernel_rfl)
          obtain rfl : eb2 = true := hall ⟨2, .phase⟩ (by simp) (by kernel_rfl)
          obtain rfl : eb3 = true := hall ⟨3, .phase⟩ (by simp) (by kernel_rfl)
          obtain rfl : eb4 = true := hall ⟨4, .phase⟩ (by simp) (by kernel_rfl)
          obtain rfl : eb5 = true := hall ⟨5, .phase⟩ (by simp) (by kernel_rfl)
          obtain rfl : eb6 = true := hall ⟨6, .phase⟩ (by simp) (by kernel_rfl)
          obtain rfl : eb7 = true := hall ⟨7, .phase⟩ (by simp) (by kernel_rfl)
          obtain rfl : eb8 = true := hall ⟨8, .chain⟩ (by simp) (by kernel_rfl)
          obtain rfl : eb9 = true := hall ⟨9, .phase⟩ (by simp) (by kernel_rfl)
          obtain rfl : eb10 = true := hall ⟨10, .data⟩ (by simp) (by kernel_rfl)
          clear hall
          obtain rfl : eb13 = false := Bool.eq_false_iff.2 fun h => Bool.false_ne_true (H.d13 h).2.2.2.2.2.2.2.2.2.2.2.2
          have hbe := H.be rfl
          have hx_t5 := H.t5
          have hx_t6 := H.t6
          obtain rfl := H.h0 rfl
          obtain rfl := H.h1 rfl
          obtain rfl := H.h2 rfl
          obtain rfl := H.h3 rfl
          obtain rfl := H.h4 rfl
          obtain rfl := H.h5 rfl
          obtain rfl := H.h6 rfl
          obtain rfl := H.h7 rfl
          have P8 := H.h8 rfl rfl
          have P9 := H.h9 rfl rfl
          have P10 := H.h10 rfl rfl
          obtain ⟨A1, n1, c1, rfl, hpf⟩ := P10.ex
          have VB := Lib.hid ((hbe.block _ hVX).trans VX.out.blk)
          obtain ⟨gp1, gp2⟩ := GW.put (b := V) VB.out hpf hVX
          have GP := Lib.hid gp1
          have BV := Lib.hid (gr_from (B := V) (hbe.mono (Nat.le_of_lt hVX)) (by have := hbe.size; omega) (Nat.le_refl _) gp2)
          obtain ⟨q0, q1, q2, q3⟩ := bkG VB.out
          have qf := fun i => bk_frz VB.out i
          have KV := Lib.hid (KeepsS.trans (KeepsS.below (S := fun j => j = V) hbe) (KeepsS.gr gp2 rfl))
          clear hpf gp1 gp2
          refine wpOp_step ho (fun K' hK => ?_)
          have HK := Lib.hid hK
          clear hK ho
          go_simp
          exact HK.out _ _ ⟨_, _, _, _, _, _, _, _, _, _, _, _, _, _, _, _, _, _, _, _, _, _, _, _, _, _, ex12, _, rfl, rfl, ⟨(fun h => by cases h), H.d5, H.d6, H.d7, H.d8, H.d9, H.d10, H.d11, (fun _ => ⟨rfl, rfl, rfl, rfl, rfl, rfl, rfl, rfl, rfl, rfl, rfl⟩), (fun h => by cases h), H.t5, H.t6, H.h0, H.h1, H.h2, H.h3, H.h4, H.h5, H.h6, H.h7, (fun _ h => by cases h), (fun _ h => by cases h), (fun _ h => by cases h), H.h11, (fun _ => ⟨_, _, _, GP.out, BV.out, KV.out⟩), H.h13⟩⟩
        · have ho := hoj
          simp only [List.getElem?_toArray, List.getElem?_cons_succ, List.getElem?_cons_zero, Option.some.injEq] at hoj
          subst hoj
          obtain rfl : eb13 = false := hun
          obtain rfl : eb0 = true := hall ⟨0, .phase⟩ (by simp) (by kernel_rfl)
          obtain rfl : eb1 = true := hall ⟨1, .phase⟩ (by simp) (by kernel_rfl)
          obtain rfl : eb2 = true := hall ⟨2, .phase⟩ (by simp) (by kernel_rfl)
          obtain rfl : eb3 = true := hall ⟨3, .phase⟩ (by simp) (by kernel_rfl)
          obtain rfl : eb4 = true := hall ⟨4, .phase⟩ (by simp) (by kernel_rfl)
          obtain rfl : eb5 = true := hall ⟨5, .phase⟩ (by simp) (by kernel_rfl)
          obtain rfl : eb6 = true := hall ⟨6, .phase⟩ (by simp) (by kernel_rfl)
          obtain rfl : eb7 = true := hall ⟨7, .phase⟩ (by simp) (by kernel_rfl)
          obtain rfl : eb8 = true := hall ⟨8, .phase⟩ (by simp) (by kernel_rfl)
          obtain rfl : eb9 = true := hall ⟨9, .phase⟩ (by simp) (by kernel_rfl)
          obtain rfl : eb10 = true := hall ⟨10, .phase⟩ (by simp) (by kernel_rfl)
          obtain rfl : eb11 = true := hall ⟨11, .data⟩ (by simp) (by kernel_rfl)
          obtain rfl : eb12 = true := hall ⟨12, .chain⟩ (by simp) (by kernel_rfl)
          clear hall
          have hx_t5 := H.t5
          have hx_t6 := H.t6
          obtain rfl := H.h0 rfl
          obtain rfl := H.h1 rfl
          obtain rfl := H.h2 rfl
          obtain rfl := H.h3 rfl
          obtain rfl := H.h4 rfl
          obtain rfl := H.h5 rfl
          obtain rfl := H.h6 rfl
          obtain rfl := H.h7 rfl
          obtain rfl := H.h11 rfl
          have P12 := H.h12 rfl
          refine wpOp_step ho (fun K' hK => ?_)
          have HK := Lib.hid hK
          clear hK ho
          go_simp
          exact HK.out _ _ ⟨_, _, _, _, _, _, _, _, _, _, _, _, _, _, _, _, _, _, _, _, _, _, _, _, _, _, ex12, _, rfl, rfl, ⟨(fun h => by cases h), H.d5, H.d6, H.d7, H.d8, H.d9, H.d10, H.d11, H.d12, (fun _ => ⟨rfl, rfl, rfl, rfl, rfl, rfl, rfl, rfl, rfl, rfl, rfl, rfl, rfl⟩), H.t5, H.t6, H.h0, H.h1, H.h2, H.h3, H.h4, H.h5, H.h6, H.h7, (fun _ h => by cases h), (fun _ h => by cases h), (fun _ h => by cases h), H.h11, H.h12, (fun _ => rfl)⟩⟩
        · have ho := hoj
          simp at ho
      case hfin =>
        rintro listed a w ⟨eb0, eb1, eb2, eb3, eb4, eb5, eb6, eb7, eb8, eb9, eb10, eb11, eb12, eb13, ex0, ex1, ex2, ex3, ex4, ex5, ex6, ex7, ex8, ex9, ex10, ex11, ex12, ex13, rfl, rfl, H⟩ hr
        have hb : eb13 = true := by
          clear H
          obtain rfl : eb0 = true := by
            cases eb0
            · exact absurd hr (ready_ne (by kernel_rfl))
            · rfl
          obtain rfl : eb1 = true := by
            cases eb1
            · exact absurd hr (ready_ne (by kernel_rfl))
            · rfl
          obtain rfl : eb2 = true := by
            cases eb2
            · exact absurd hr (ready_ne (by kernel_rfl))
            · rfl
          obtain rfl : eb3 = true := by
            cases eb3
            · exact absurd hr (ready_ne (by kernel_rfl))
            · rfl
          obtain rfl : eb4 = true := by
            cases eb4
            · exact absurd hr (ready_ne (by kernel_rfl))
            · rfl
          obtain rfl : eb5 = true := by
            cases eb5
            · exact absurd hr (ready_ne (by kernel_rfl))
            · rfl
          obtain rfl : eb6 = true := by
            cases eb6
            · exact absurd hr (ready_ne (by kernel_rfl))
            · rfl
          obtain rfl : eb7 = true := by
            cases eb7
            · exact absurd hr (ready_ne (by kernel_rfl))
            · rfl
          obtain rfl : eb8 = true := by
            cases eb8
            · exact absurd hr (ready_ne (by kernel_rfl))
            · rfl
          obtain rfl : eb9 = true := by
            cases eb9
            · exact absurd hr (ready_ne (by kernel_rfl))
            · rfl
          obtain rfl : eb10 = true := by
            cases eb10
            · exact absurd hr (ready_ne (by kernel_rfl))
            · rfl
          obtain rfl : eb11 = true := by
            cases eb11
            · exact absurd hr (ready_ne (by kernel_rfl))
            · rfl
          obtain rfl : eb12 = true := by
            cases eb12
            · exact absurd hr (ready_ne (by kernel_rfl))
            · rfl
          obtain rfl : eb13 = true := by
            cases eb13
            · exact absurd hr (ready_ne (by kernel_rfl))
            · rfl
          rfl
        subst hb
        clear hr
        obtain rfl : eb0 = true := (H.d13 rfl).1
        obtain rfl : eb1 = true := (H.d13 rfl).2.1
        obtain rfl : eb2 = true := (H.d13 rfl).2.2.1
        obtain rfl : eb3 = true := (H.d13 rfl).2.2.2.1
        obtain rfl : eb4 = true := (H.d13 rfl).2.2.2.2.1
        obtain rfl : eb5 = true := (H.d13 rfl).2.2.2.2.2.1
        obtain rfl : eb6 = true := (H.d13 rfl).2.2.2.2.2.2.1
        obtain rfl : eb7 = true := (H.d13 rfl).2.2.2.2.2.2.2.1
        obtain rfl : eb8 = true := (H.d13 rfl).2.2.2.2.2.2.2.2.1
        obtain rfl : eb9 = true := (H.d13 rfl).2.2.2.2.2.2.2.2.2.1
        obtain rfl : eb10 = true := (H.d13 rfl).2.2.2.2.2.2.2.2.2.2.1
        obtain rfl : eb11 = true := (H.d13 rfl).2.2.2.2.2.2.2.2.2.2.2.1
        obtain rfl : eb12 = true := (H.d13 rfl).2.2.2.2.2.2.2.2.2.2.2.2
        have he := H.h13 rfl
        obtain ⟨A1, n1, c1, hgw, hbv, hks⟩ := H.h12 rfl
        subst he
        have GW1 := Lib.hid hgw
        have BV1 := Lib.hid hbv
        have KS1 := Lib.hid hks
        clear hgw hbv hks H
        have OW := Lib.hid (own_belowV OX.out BV1.out KS1.out)
        have BVX1 := Lib.hid (BVX.out.trans BV1.out)
        obtain ⟨X1, hX1⟩ : ∃ Y, Y = w := ⟨_, rfl⟩
        subst hX1
        have hVX1 := lt_of_block GW1.out.blk
        obtain ⟨v0, v1, v2, v3⟩ := bkG GW1.out.blk
        go_wp2_with fail
        refine (HTL9.out _ _ GW1.out.val).mono ?_
        rintro e w5 ⟨bb5, u5, d5, rfl, hu5, hd5⟩
        obtain ⟨A5, n5, c5, rfl, p5⟩ := hu5.slice
        have BA5 := Lib.hid ((Below.refl w5.heap.size w5).alloc (Nat.le_refl _) (.cells #[.int .i64 q9.done, .slice A5 n5 c5, .int .i64 q9.final, .int .i64 q9.window] 24))
        have D5 := Lib.hid ((hd5.on (Keeps.below BA5.out)).now)
        obtain ⟨Ad5, cd5, rfl, _, _, hdn5, hdr5⟩ := id D5.out.ex
        have HDR5 := Lib.hid hdr5
        have hs5 := bb5.size
        have O5 := Lib.hid (own_below2 (own_below2 OW.out bb5) BA5.out)
        have BF1 := Lib.hid (BFV.out.trans (BVX1.out.mono HVW.out))
        have B5 := Lib.hid ((BF1.out.trans (bb5.mono BF1.out.size)).trans (BA5.out.mono (Nat.le_trans BF1.out.size hs5)))
        have BV5 := Lib.hid ((BVX1.out.trans (bb5.mono (Nat.le_of_lt hVX1))).trans (BA5.out.mono (by omega)))
        have hbl : bs9.length ≤ 200 := by have h2 := TSM.out; have := congrArg List.length HGB.out; rw [List.length_append] at this; omega
        clear bb5 hu5 p5 hd5 hdr5 v0 v1 v2 v3
        go_wp2_with (first
          | (at_builtin
             refine wpList_app _ rfl (.tmp 124) (.tmp 125) _ rfl (V + 1) 5 i0 Try.underlying31 HI.out HZ.out HZ1.out HZ2.out (.slice Ag dn cg) dn (got.map (.int .u8)) rfl O5.out _ Ad5 bs9.length cd5 bs9 rfl HDR5.out rfl hdn5 (by omega) (by simp; omega) ?_
             intro v1 w6 own6 g6 _
             obtain ⟨A6, c6, hv6, _, _⟩ := own_slice own6
             subst hv6
             have O6 := Lib.hid own6
             have B6 := Lib.hid (B5.out.grown g6 B5.out.size (fun k hk => by have := (World.ownsRow.lt O5.out k hk).1; have := HVW.out; omega))
             have BV6 := Lib.hid (BV5.out.grown g6 (by simp; omega) (fun k hk => by have := (World.ownsRow.lt O5.out k hk).1; omega))
             clear own6 g6)
          | (go_at_call 25
             refine (gatherTells_any _).mono ?_
             rintro e w7 ⟨rfl, eb7⟩
             have B7 := Lib.hid (B6.out.trans (eb7.mono B6.out.size))
             have hbt := own_bsl (zs := t) (show w6.ownsRow (V + 1) 5 1 (.slice A6 (dn + bs9.length) c6) (dn + bs9.length) (t.map (.int .u8)) from by rw [← HGB.out, List.map_append]; exact O6.out) HBYT.out
             have hbt7 := hbt.below eb7
             obtain ⟨A8, c8, e8, _, _, _, hr8⟩ := hbt7.ex
             injection e8 with ea eb ec
             subst ea ec
             have htx := (HTX.out w6 BV6.out).below (eb7.mono (Nat.le_refl _))
             obtain ⟨A9, c9, e9, _, _, _, hr9⟩ := htx.ex
             injection e9 with ea eb2 ec
             subst ea ec
             have s0 := run_str (P := Try.prog) hr8 eb.symm 31 9 5 c6 Try.underlying31 Try.underlying5 Try.underlying9
             have s1 := run_str (P := Try.prog) hr9 HTLEN.out 31 9 5 tc Try.underlying31 Try.underlying5 Try.underlying9
             clear eb7 hbt hbt7 htx hr8 hr9 eb eb2))
        go_ret
        exact ⟨rfl, B7.out⟩
end Go.Proofs.Ytfbjgbnlgaajaaa
