/- The document's answers on requests: RequestFed. -/
import Derived.Test.YtpfahdogedchpaaRqRef1
import Derived.Test.YtpfahdogedchpaaRdOn
import Derived.Test.YtpfahdogedchpaaStoreR
import Derived.Test.YtpfahdogedchpaaGrpG
import Derived.Test.YtpfahdogedchpaaVarOf
import Derived.Test.YtpfahdogedchpaaGrpZi
import Derived.Test.YtpfahdogedchpaaGrpW
import Derived.Test.YtpfahdogedchpaaGrpC
import Derived.Deep.Cut
import Derived.Deep.LoopGhost
namespace Go.Proofs.Ytpfahdogedchpaa.P
set_option linter.unusedVariables false
open Go.RowKit
/-- the three boxes of RequestFed: the reader's, the table's, the answer's; the reader's fields and body, and the table -/
structure FB (W : World) (tv : Value) (t : Tb) (oX oY oZ : Obj) (fs bs : Value) (fl : List Fld) (bd : List Int) (w : World) : Prop where
  x : w.heap[W.heap.size]? = some oX
  y : w.heap[W.heap.size + 1]? = some oY
  z : w.heap[W.heap.size + 1 + 1]? = some oZ
  b : Below W.heap.size W w
  v : TbVal w w.heap.size tv t
  f : FSl w w.heap.size fs fl
  d : BSl w w.heap.size bs bd
theorem FB.on {W : World} {tv : Value} {t : Tb} {oX oY oZ : Obj} {fs bs : Value} {fl : List Fld} {bd : List Int} {w w' : World} (h : FB W tv t oX oY oZ fs bs fl bd w) (b : Below w.heap.size w w') : FB W tv t oX oY oZ fs bs fl bd w' :=
  ⟨(b.block _ (lt_of_block h.x)).trans h.x, (b.block _ (lt_of_block h.y)).trans h.y, (b.block _ (lt_of_block h.z)).trans h.z, h.b.trans (b.mono h.b.size), h.v.on b, h.f.on b, bsl_onF h.d b⟩
theorem FB.put {W : World} {tv : Value} {t : Tb} {oX' oY oZ : Obj} {cs : Array Value} {Ty : TypeId} {fs bs fs' bs' : Value} {fl fl' : List Fld} {bd bd' : List Int} {w w' : World} (h : FB W tv t (.cells cs Ty (0, 0)) oY oZ fs bs fl bd w) (hi : ∀ (j : Nat) (u : Value), cs[j]? = some u → Plain u) (hx : w'.heap[W.heap.size]? = some oX') (g : w.grownBy w' (some W.heap.size)) (hf : FSl w w.heap.size fs' fl') (hd : BSl w w.heap.size bs' bd') : FB W tv t oX' oY oZ fs' bs' fl' bd' w' :=
  ⟨hx, (g.block _ (lt_of_block h.y) (by simp)).trans h.y, (g.block _ (lt_of_block h.z) (by simp; omega)).trans h.z, gr_from h.b h.b.size (Nat.le_refl _) g, (h.v.grX h.x hi g).more g.size, (hf.grX h.x hi g).more g.size, (hd.grX h.x hi g).more g.size⟩
theorem str_midR (zs : List Int) (a b : Nat) : (strOfNums zs).extract a b = strOfNums ((zs.drop a).take (b - a)) := by
  apply ByteArray.ext
  apply Array.toList_inj.1
  rw [Lib.extract_data, strOfNums_data, strOfNums_data]
  simp [List.map_take, List.map_drop]
theorem str_endR (zs : List Int) (k : Nat) : (strOfNums zs).extract k (strOfNums zs).size = strOfNums (zs.drop k) := by
  rw [str_midR, strOfNums_size, List.take_of_length_le (by rw [List.length_drop]; omega)]
theorem RdVal.of {w : World} {Ah Af Ab : Option Addr} {nh ch nf cf nb cb : Nat} {b1 b2 : Bool} {held bd : List Int} {fl : List Fld} (h1 : BSl w w.heap.size (.slice Ah nh ch) held) (h2 : FSl w w.heap.size (.slice Af nf cf) fl) (h3 : BSl w w.heap.size (.slice Ab nb cb) bd) : RdVal w (.agg #[.slice Ah nh ch, .slice Af nf cf, .bool b1, .slice Ab nb cb, .bool b2]) ⟨held, fl, b1, bd, b2⟩ := by
  have e1 : held.length = nh := by obtain ⟨_, _, e, _⟩ := h1.ex; cases e; rfl
  have e2 : fl.length = nf := by obtain ⟨_, _, e, _⟩ := h2.ex; cases e; rfl
  have e3 : bd.length = nb := by obtain ⟨_, _, e, _⟩ := h3.ex; cases e; rfl
  subst e1 e2 e3
  exact ⟨Ah, ch, Af, cf, Ab, cb, rfl, h1, h2, h3⟩
theorem rd_shape {s : List Int} (hb : Byt s) : (¬ decOk s ∧ rd s = .error 4) ∨ ∃ (n k : Nat), decOk s ∧ rd s = .ok ((n : Int), s.drop k) ∧ decV s = (n : Int) ∧ kOf (s.getD 0 0) = (k : Int) ∧ 1 ≤ k ∧ k ≤ s.length ∧ (n : Int) ≤ 4611686018427387903 := by
  unfold rd
  by_cases h : decOk s
  · have h1 := decV_bd s hb h
    have h2 := kOf_bd (s.getD 0 0)
    have h3 := h.1
    have h4 := h.2
    exact .inr ⟨(decV s).toNat, (kOf (s.getD 0 0)).toNat, h, by rw [if_pos h]; congr 1; congr 1; omega, by omega, by omega, by omega, by omega, by omega⟩
  · exact .inl ⟨h, if_neg h⟩
end Go.Proofs.Ytpfahdogedchpaa.P
namespace Go.Proofs.Ytpfahdogedchpaa
set_option linter.unusedVariables false
open Go.RowKit P
/-- VarOf where there is no whole number -/
theorem varOf_no (s : List Int) (hb : Byt s) (h : ¬ decOk s) (w : World) : Calls Try.prog 23 #[.string (strOfNums s)] w fun e w' => e = .returned (.tuple #[.int .i64 0, .int .i64 0, .int .i64 4]) ∧ Below w.heap.size w w' := by
  rcases Nat.eq_zero_or_pos s.length with q | q
  · rw [List.eq_nil_of_length_eq_zero q]; exact varOf_empty w
  · exact varOf_short _ s rfl hb q (Decidable.byContradiction fun k => h ⟨q, by omega⟩) w
set_option maxRecDepth 100000 in
set_option maxHeartbeats 20000000 in
theorem refFed_any (Aho Afo Abo Ad : Option Addr) (nho cho nfo cfo nbo cbo nd cd : Nat) (fin : Bool) (r : Rd) (b : List Int) (tv : Value) (t : Tb) (W : World) (hh : BSl W W.heap.size (.slice Aho nho cho) r.held) (hf : FSl W W.heap.size (.slice Afo nfo cfo) r.flds) (hb : BSl W W.heap.size (.slice Abo nbo cbo) r.body) (hd : BSl W W.heap.size (.slice Ad nd cd) b) (hv : TbVal W W.heap.size tv t) (hw : TbWf t) :
    Calls Try.prog 7 #[.agg #[.slice Aho nho cho, .slice Afo nfo cfo, .bool r.begun, .slice Abo nbo cbo, .bool r.ended], tv, .slice Ad nd cd, .bool fin] W fun e w' => Below W.heap.size W w' ∧ ∃ v, e = .returned (.tuple #[v, .int .i64 (feedR r t b fin).2]) ∧ RdVal w' v (feedR r t b fin).1 := by
  obtain ⟨heldo, flo, bgo, bdo, en⟩ := r
  dsimp only at *
  have l1 : heldo.length = nho := by obtain ⟨_, _, e, _⟩ := hh.ex; cases e; rfl
  have l2 : bdo.length = nbo := by obtain ⟨_, _, e, _⟩ := hb.ex; cases e; rfl
  have l3 : b.length = nd := by obtain ⟨_, _, e, _⟩ := hd.ex; cases e; rfl
  have l4 : flo.length = nfo := by obtain ⟨_, _, e, _⟩ := hf.ex; cases e; rfl
  have y1 : Byt heldo := by obtain ⟨_, _, _, _, _, _, h⟩ := hh.ex; exact h.1
  have y2 : Byt b := by obtain ⟨_, _, _, _, _, _, h⟩ := hd.ex; exact h.1
  have hR : feedR ⟨heldo, flo, bgo, bdo, en⟩ t b fin = if 800 < nho ∨ 800 < nd ∨ 200 < nbo then (rd0, 1) else if en = true then (rd0, 17) else feedN t fin (nho + nd + 1) ⟨heldo ++ b, flo, bgo, bdo, en⟩ := by rw [← l1, ← l2, ← l3]; rfl
  obtain ⟨⟨R1, R2⟩, hr⟩ : ∃ x, feedR ⟨heldo, flo, bgo, bdo, en⟩ t b fin = x := ⟨_, rfl⟩
  rw [hr] at hR ⊢
  dsimp only
  obtain ⟨At, nt, ct, room, put, rfl, hv'⟩ := tb_partsR hv
  obtain ⟨V0, hV0⟩ : ∃ V, ((W.alloc (.cells #[.slice Aho nho cho, .slice Afo nfo cfo, .bool bgo, .slice Abo nbo cbo, .bool en] 25)).alloc (.cells #[.int .i64 room, .int .i64 put, .slice At nt ct] 27)).alloc (.cells #[.slice none 0 0, .slice none 0 0, .bool false, .slice none 0 0, .bool false] 25) = V := ⟨_, rfl⟩
  have hb3 : Below W.heap.size W V0 := by rw [← hV0]; exact (((Below.refl _ W).alloc (Nat.le_refl _) _).alloc (by simp) _).alloc (by simp; omega) _
  have F0 : FB W (.agg #[.int .i64 room, .int .i64 put, .slice At nt ct]) t (.cells #[.slice Aho nho cho, .slice Afo nfo cfo, .bool bgo, .slice Abo nbo cbo, .bool en] 25 (0, 0)) (.cells #[.int .i64 room, .int .i64 put, .slice At nt ct] 27 (0, 0)) (.cells #[.slice none 0 0, .slice none 0 0, .bool false, .slice none 0 0, .bool false] 25 (0, 0)) (.slice Afo nfo cfo) (.slice Abo nbo cbo) flo bdo V0 := by
    have k := two_bk3 W #[.slice Aho nho cho, .slice Afo nfo cfo, .bool bgo, .slice Abo nbo cbo, .bool en] #[.int .i64 room, .int .i64 put, .slice At nt ct] #[.slice none 0 0, .slice none 0 0, .bool false, .slice none 0 0, .bool false] 25 27 25
    rw [hV0] at k
    exact ⟨k.1, k.2.1, k.2.2.1, hb3, hv'.on hb3, hf.on hb3, bsl_onF hb hb3⟩
  have HH0 := Lib.hid (bsl_onF hh hb3)
  have HD0 := Lib.hid (bsl_onF hd hb3)
  have FF0 := Lib.hid F0
  have HL1 := Lib.hid l1
  have HL3 := Lib.hid l3
  have HY1 := Lib.hid y1
  have HY2 := Lib.hid y2
  have HTW := Lib.hid hw
  clear hr hv hv' hf hb hh hd F0 hb3 l1 l3 l4 y1 y2 hw
  by_cases c1 : 800 < nho
  · obtain ⟨rfl, rfl⟩ := Prod.mk.inj (hR.trans (if_pos (.inl c1)))
    have a1 : decide ((800 : Int) < (nho : Int)) = true := by simp; omega
    clear hR l2
    go_enter Try.func7, Try.ntmps7
    go_upto_region 1 with fail
    try rw [hV0]
    clear hV0
    obtain ⟨x0, x1, x2, x3, x4⟩ := bk5T FF0.out.x
    have xf := fun j => bk_frz FF0.out.x j
    go_wp2_with (first | (refine wpList_store_blk rfl 25 (.tmp 8) _ rfl (W.heap.size + 1 + 1) FF0.out.z rfl rfl rfl (by kernel_rfl) (by simp [Value.oneCell']) ?_; intro W9 k9 gp) | (with_reducible show bodyPost _ _ _ _ _ _; obtain ⟨r0, r1', r2, r3, r4⟩ := bk5T k9; refine bodyPost_ret (by simp [results, Try.results7, go_sem, r0, r1', r2, r3, r4]; try rfl) rfl ?_; exact ⟨gr_from FF0.out.b FF0.out.b.size (Nat.le_succ_of_le (Nat.le_succ _)) gp, _, rfl, RdVal.zero _⟩))
  by_cases c2 : 800 < nd
  · obtain ⟨rfl, rfl⟩ := Prod.mk.inj (hR.trans (if_pos (.inr (.inl c2))))
    have a1 : decide ((800 : Int) < (nho : Int)) = false := by simp; omega
    have a2 : decide ((800 : Int) < (nd : Int)) = true := by simp; omega
    clear hR l2
    go_enter Try.func7, Try.ntmps7
    go_upto_region 1 with fail
    try rw [hV0]
    clear hV0
    obtain ⟨x0, x1, x2, x3, x4⟩ := bk5T FF0.out.x
    have xf := fun j => bk_frz FF0.out.x j
    go_wp2_with (first | (refine wpList_store_blk rfl 25 (.tmp 8) _ rfl (W.heap.size + 1 + 1) FF0.out.z rfl rfl rfl (by kernel_rfl) (by simp [Value.oneCell']) ?_; intro W9 k9 gp) | (with_reducible show bodyPost _ _ _ _ _ _; obtain ⟨r0, r1', r2, r3, r4⟩ := bk5T k9; refine bodyPost_ret (by simp [results, Try.results7, go_sem, r0, r1', r2, r3, r4]; try rfl) rfl ?_; exact ⟨gr_from FF0.out.b FF0.out.b.size (Nat.le_succ_of_le (Nat.le_succ _)) gp, _, rfl, RdVal.zero _⟩))
  by_cases c3 : 200 < nbo
  · obtain ⟨rfl, rfl⟩ := Prod.mk.inj (hR.trans (if_pos (.inr (.inr c3))))
    have a1 : decide ((800 : Int) < (nho : Int)) = false := by simp; omega
    have a2 : decide ((800 : Int) < (nd : Int)) = false := by simp; omega
    have a3 : decide ((200 : Int) < (nbo : Int)) = true := by simp; omega
    clear hR l2
    go_enter Try.func7, Try.ntmps7
    go_upto_region 1 with fail
    try rw [hV0]
    clear hV0
    obtain ⟨x0, x1, x2, x3, x4⟩ := bk5T FF0.out.x
    have xf := fun j => bk_frz FF0.out.x j
    go_wp2_with (first | (refine wpList_store_blk rfl 25 (.tmp 8) _ rfl (W.heap.size + 1 + 1) FF0.out.z rfl rfl rfl (by kernel_rfl) (by simp [Value.oneCell']) ?_; intro W9 k9 gp) | (with_reducible show bodyPost _ _ _ _ _ _; obtain ⟨r0, r1', r2, r3, r4⟩ := bk5T k9; refine bodyPost_ret (by simp [results, Try.results7, go_sem, r0, r1', r2, r3, r4]; try rfl) rfl ?_; exact ⟨gr_from FF0.out.b FF0.out.b.size (Nat.le_succ_of_le (Nat.le_succ _)) gp, _, rfl, RdVal.zero _⟩))
  have a1 : decide ((800 : Int) < (nho : Int)) = false := by simp; omega
  have a2 : decide ((800 : Int) < (nd : Int)) = false := by simp; omega
  have a3 : decide ((200 : Int) < (nbo : Int)) = false := by simp; omega
  rw [if_neg (by omega)] at hR
  cases en
  · rw [if_neg (by decide)] at hR
    have HRR := Lib.hid hR.symm
    have HL2 := Lib.hid (show bdo.length ≤ 200 by omega)
    clear hR l2
    obtain ⟨_, _, eh, _, _, _, rh⟩ := HH0.out.ex
    injection eh with eh1 eh2 eh3
    subst eh1 eh3
    obtain ⟨_, _, ed, _, _, _, rdd⟩ := HD0.out.ex
    injection ed with ed1 ed2 ed3
    subst ed1 ed3
    have hc1 := run_str (P := Try.prog) (w := V0) rh HL1.out 22 9 5 cho Try.underlying22 Try.underlying5 Try.underlying9
    have hc2 := run_str (P := Try.prog) (w := V0) rdd HL3.out 22 9 5 cd Try.underlying22 Try.underlying5 Try.underlying9
    have z1 : (strOfNums heldo).size ≤ 800 := by rw [strOfNums_size, HL1.out]; omega
    have z2 : (strOfNums b).size ≤ 800 := by rw [strOfNums_size, HL3.out]; omega
    have hcat := str_cat heldo b
    obtain ⟨S1, hS1⟩ : ∃ S, strOfNums heldo = S := ⟨_, rfl⟩
    obtain ⟨S2, hS2⟩ : ∃ S, strOfNums b = S := ⟨_, rfl⟩
    rw [hS1] at hc1 z1 hcat
    rw [hS2] at hc2 z2 hcat
    have HCAT := Lib.hid hcat
    have z12 : S1.size + S2.size ≤ 9223372036854775807 := by omega
    clear eh2 ed2 rh rdd hS1 hS2 hcat HH0 HD0
    obtain ⟨hl0, hl1⟩ : ∃ m : List Int, heldo ++ b = m := ⟨_, rfl⟩
    rw [hl1] at HRR HCAT
    have hlen : hl0.length = nho + nd := by rw [← hl1, List.length_append, HL1.out, HL3.out]
    have HBY := Lib.hid (show Byt hl0 by rw [← hl1]; exact Byt.append HY1.out HY2.out)
    rw [← hlen] at HRR
    have HLN := Lib.hid (show hl0.length ≤ 1600 by omega)
    clear hl1 hlen HY1 HY2 HL1 HL3
    obtain ⟨x0, x1, x2, x3, x4⟩ := bk5T FF0.out.x
    have xf := fun j => bk_frz FF0.out.x j
    go_enter Try.func7, Try.ntmps7
    go_upto_region 1 with fail
    try rw [hV0]
    clear hV0
    go_upto_region 6 with fail
    clear x0 x1 x2 x3 x4 xf
    clear hc1 hc2 a1 a2 a3 c1 c2 c3
    obtain ⟨SX, hSX⟩ : ∃ S, S1 ++ S2 = S := ⟨_, rfl⟩
    try rw [hSX]
    rw [hSX] at HCAT
    clear hSX z1 z2 z12
    go_loopg [10] hl0.length (fun gq sv wr => ∃ (S : ByteArray) (held : List Int) (fl : List Fld) (bg : Bool) (bd : List Int) (Af Ab : Option Addr) (nf cf nb cb : Nat), sv = .string S ∧ held.length = gq ∧ held.length ≤ 1600 ∧ bd.length ≤ 200 ∧ Hid (S = strOfNums held) ∧ Hid (Byt held) ∧ Hid (feedN t fin (held.length + 1) ⟨held, fl, bg, bd, false⟩ = (R1, R2)) ∧ Hid (FB W (.agg #[.int .i64 room, .int .i64 put, .slice At nt ct]) t (.cells #[.slice Aho nho cho, .slice Af nf cf, .bool bg, .slice Ab nb cb, .bool false] 25 (0, 0)) (.cells #[.int .i64 room, .int .i64 put, .slice At nt ct] 27 (0, 0)) (.cells #[.slice none 0 0, .slice none 0 0, .bool false, .slice none 0 0, .bool false] 25 (0, 0)) (.slice Af nf cf) (.slice Ab nb cb) fl bd wr))
    case atStart => exact ⟨_, _, _, _, _, _, _, _, _, _, _, rfl, rfl, HLN.out, HL2.out, HCAT, HBY, HRR, FF0⟩
    case round =>
      obtain ⟨S, held, fl, bg, bd, Af, Ab, nf, cf, nb, cb, rfl, hgk, hl16, hb2, HS, HY, HQ, FI⟩ := hrel
      clear HLN HL2 HCAT HBY HRR FF0
      have hem := str_empty held
      rw [← HS.out] at hem
      have hnb : bd.length = nb := by obtain ⟨_, _, e, _⟩ := FI.out.d.ex; cases e; rfl
      have hnf : fl.length = nf := by obtain ⟨_, _, e, _⟩ := FI.out.f.ex; cases e; rfl
      have HNB := Lib.hid hnb
      have HNF := Lib.hid hnf
      have hnb2 : nb ≤ 200 := by omega
      have hz : S.size = held.length := by rw [HS.out, strOfNums_size]
      obtain ⟨L, hL⟩ : ∃ L, held.length = L := ⟨_, rfl⟩
      have HL := Lib.hid hL
      rw [hL] at hgk hl16 hem hz
      subst hgk
      have HQ := Lib.hid (show feedN t fin (L + 1) ⟨held, fl, bg, bd, false⟩ = (R1, R2) by rw [← hL]; exact HQ.out)
      clear hnb hnf hL hb2
      by_cases h0 : L = 0
      · have hh : held = [] := List.eq_nil_of_length_eq_zero (by rw [HL.out]; exact h0)
        have hem1 : S.toList.isEmpty = true := by rw [hem]; simp [h0]
        clear hem h0
        have hq := HQ.out
        rw [feedN_nil hh] at hq
        cases fin
        · rw [if_neg (by simp), ← hh] at hq
          obtain ⟨rfl, rfl⟩ := Prod.mk.inj hq.symm
          clear hq hh
          obtain ⟨C, W1, hrun, b1, hsz, hbs⟩ := conv_str held HY.out (by rw [HL.out]; omega) wr
          rw [← HS.out, HL.out] at hrun
          rw [HL.out] at hbs
          have FJ := Lib.hid (FI.out.on b1)
          have HB1 := Lib.hid hbs
          clear b1 hbs hsz
          obtain ⟨x0, x1, x2, x3, x4⟩ := bk5T FJ.out.x
          have xf := fun j => bk_frz FJ.out.x j
          go_upto_region 37 with fail
          clear x0 x1 x2 x3 x4 xf
          have k1 := bk_set FJ.out.x 0 (.slice (some ⟨wr.heap.size, 0, none⟩) L C)
          have g1 := gr_set W1 W.heap.size 0 (.slice (some ⟨wr.heap.size, 0, none⟩) L C)
          have FK := Lib.hid (FJ.out.put plain5 (by simpa using k1) g1 FJ.out.f FJ.out.d)
          have HB2 := Lib.hid ((HB1.out.grX FJ.out.x plain5 g1).more g1.size)
          obtain ⟨W2, hW2⟩ : ∃ q, W1.setCell ⟨W.heap.size, 0, none⟩ (.slice (some ⟨wr.heap.size, 0, none⟩) L C) = q := ⟨_, rfl⟩
          rw [hW2] at FK HB2 ⊢
          clear k1 g1 hW2 hrun FJ HB1
          have k1 := bk_set FK.out.x 4 (.bool false)
          have g1 := gr_set W2 W.heap.size 4 (.bool false)
          have FM := Lib.hid (FK.out.put plain5 (by simpa using k1) g1 FK.out.f FK.out.d)
          have HB3 := Lib.hid ((HB2.out.grX FK.out.x plain5 g1).more g1.size)
          obtain ⟨x0, x1, x2, x3, x4⟩ := bk5T FK.out.x
          have xf := fun j => bk_frz FK.out.x j
          go_upto_region 40 with fail
          clear x0 x1 x2 x3 x4 xf
          obtain ⟨W3, hW3⟩ : ∃ q, W2.setCell ⟨W.heap.size, 4, none⟩ (.bool false) = q := ⟨_, rfl⟩
          rw [hW3] at FM HB3 ⊢
          clear k1 g1 hW3 FK HB2
          obtain ⟨x0, x1, x2, x3, x4⟩ := bk5T FM.out.x
          have xf := fun j => bk_frz FM.out.x j
          go_wp2_with (first | (refine wpList_store_blk rfl 25 (.tmp 8) _ rfl (W.heap.size + 1 + 1) FM.out.z rfl rfl rfl (by kernel_rfl) (by simp [Value.oneCell']) ?_; intro W9 k9 gp) | (with_reducible show bodyPost _ _ _ _ _ _; obtain ⟨r0, r1', r2, r3, r4⟩ := bk5T k9; refine bodyPost_ret (by simp [results, Try.results7, go_sem, r0, r1', r2, r3, r4]; try rfl) rfl ?_; exact ⟨gr_from FM.out.b FM.out.b.size (Nat.le_succ_of_le (Nat.le_succ _)) gp, _, rfl, RdVal.of ((HB3.out.grX FM.out.z plain5 gp).more gp.size) ((FM.out.f.grX FM.out.z plain5 gp).more gp.size) ((FM.out.d.grX FM.out.z plain5 gp).more gp.size)⟩))
        · cases bg
          · rw [if_pos ⟨rfl, rfl⟩] at hq
            obtain ⟨rfl, rfl⟩ := Prod.mk.inj hq.symm
            clear hq hh
            obtain ⟨C, W1, hrun, b1, hsz, hbs⟩ := conv_str held HY.out (by rw [HL.out]; omega) wr
            rw [← HS.out, HL.out] at hrun
            rw [HL.out] at hbs
            have FJ := Lib.hid (FI.out.on b1)
            have HB1 := Lib.hid hbs
            clear b1 hbs hsz
            obtain ⟨x0, x1, x2, x3, x4⟩ := bk5T FJ.out.x
            have xf := fun j => bk_frz FJ.out.x j
            go_upto_region 37 with fail
            clear x0 x1 x2 x3 x4 xf
            have k1 := bk_set FJ.out.x 0 (.slice (some ⟨wr.heap.size, 0, none⟩) L C)
            have g1 := gr_set W1 W.heap.size 0 (.slice (some ⟨wr.heap.size, 0, none⟩) L C)
            have FK := Lib.hid (FJ.out.put plain5 (by simpa using k1) g1 FJ.out.f FJ.out.d)
            have HB2 := Lib.hid ((HB1.out.grX FJ.out.x plain5 g1).more g1.size)
            obtain ⟨W2, hW2⟩ : ∃ q, W1.setCell ⟨W.heap.size, 0, none⟩ (.slice (some ⟨wr.heap.size, 0, none⟩) L C) = q := ⟨_, rfl⟩
            rw [hW2] at FK HB2 ⊢
            clear k1 g1 hW2 hrun FJ HB1
            obtain ⟨x0, x1, x2, x3, x4⟩ := bk5T FK.out.x
            have xf := fun j => bk_frz FK.out.x j
            go_wp2_with (first | (refine wpList_store_blk rfl 25 (.tmp 8) _ rfl (W.heap.size + 1 + 1) FK.out.z rfl rfl rfl (by kernel_rfl) (by simp [Value.oneCell']) ?_; intro W9 k9 gp) | (with_reducible show bodyPost _ _ _ _ _ _; obtain ⟨r0, r1', r2, r3, r4⟩ := bk5T k9; refine bodyPost_ret (by simp [results, Try.results7, go_sem, r0, r1', r2, r3, r4]; try rfl) rfl ?_; exact ⟨gr_from FK.out.b FK.out.b.size (Nat.le_succ_of_le (Nat.le_succ _)) gp, _, rfl, RdVal.zero _⟩))
          · rw [if_neg (by simp), ← hh] at hq
            obtain ⟨rfl, rfl⟩ := Prod.mk.inj hq.symm
            clear hq hh
            obtain ⟨C, W1, hrun, b1, hsz, hbs⟩ := conv_str held HY.out (by rw [HL.out]; omega) wr
            rw [← HS.out, HL.out] at hrun
            rw [HL.out] at hbs
            have FJ := Lib.hid (FI.out.on b1)
            have HB1 := Lib.hid hbs
            clear b1 hbs hsz
            obtain ⟨x0, x1, x2, x3, x4⟩ := bk5T FJ.out.x
            have xf := fun j => bk_frz FJ.out.x j
            go_upto_region 37 with fail
            clear x0 x1 x2 x3 x4 xf
            have k1 := bk_set FJ.out.x 0 (.slice (some ⟨wr.heap.size, 0, none⟩) L C)
            have g1 := gr_set W1 W.heap.size 0 (.slice (some ⟨wr.heap.size, 0, none⟩) L C)
            have FK := Lib.hid (FJ.out.put plain5 (by simpa using k1) g1 FJ.out.f FJ.out.d)
            have HB2 := Lib.hid ((HB1.out.grX FJ.out.x plain5 g1).more g1.size)
            obtain ⟨W2, hW2⟩ : ∃ q, W1.setCell ⟨W.heap.size, 0, none⟩ (.slice (some ⟨wr.heap.size, 0, none⟩) L C) = q := ⟨_, rfl⟩
            rw [hW2] at FK HB2 ⊢
            clear k1 g1 hW2 hrun FJ HB1
            have k1 := bk_set FK.out.x 4 (.bool true)
            have g1 := gr_set W2 W.heap.size 4 (.bool true)
            have FM := Lib.hid (FK.out.put plain5 (by simpa using k1) g1 FK.out.f FK.out.d)
            have HB3 := Lib.hid ((HB2.out.grX FK.out.x plain5 g1).more g1.size)
            obtain ⟨x0, x1, x2, x3, x4⟩ := bk5T FK.out.x
            have xf := fun j => bk_frz FK.out.x j
            go_upto_region 40 with fail
            clear x0 x1 x2 x3 x4 xf
            obtain ⟨W3, hW3⟩ : ∃ q, W2.setCell ⟨W.heap.size, 4, none⟩ (.bool true) = q := ⟨_, rfl⟩
            rw [hW3] at FM HB3 ⊢
            clear k1 g1 hW3 FK HB2
            obtain ⟨x0, x1, x2, x3, x4⟩ := bk5T FM.out.x
            have xf := fun j => bk_frz FM.out.x j
            go_wp2_with (first | (refine wpList_store_blk rfl 25 (.tmp 8) _ rfl (W.heap.size + 1 + 1) FM.out.z rfl rfl rfl (by kernel_rfl) (by simp [Value.oneCell']) ?_; intro W9 k9 gp) | (with_reducible show bodyPost _ _ _ _ _ _; obtain ⟨r0, r1', r2, r3, r4⟩ := bk5T k9; refine bodyPost_ret (by simp [results, Try.results7, go_sem, r0, r1', r2, r3, r4]; try rfl) rfl ?_; exact ⟨gr_from FM.out.b FM.out.b.size (Nat.le_succ_of_le (Nat.le_succ _)) gp, _, rfl, RdVal.of ((HB3.out.grX FM.out.z plain5 gp).more gp.size) ((FM.out.f.grX FM.out.z plain5 gp).more gp.size) ((FM.out.d.grX FM.out.z plain5 gp).more gp.size)⟩))
      · have hne : held ≠ [] := fun e => h0 (by rw [← HL.out, e]; rfl)
        have hem0 : S.toList.isEmpty = false := by rw [hem]; simp [h0]
        clear hem
        rcases rd_shape HY.out with ⟨hno, hrd⟩ | ⟨kd, k1, hok1, hrd1, hdv1, hko1, k11, k12, k13⟩
        · have hq := HQ.out
          have hfr : (firstR held).2 = 4 := by rw [firstR_e1 hrd]
          have HV : Hid (∀ w, Calls Try.prog 23 #[.string S] w fun e w' => e = .returned (.tuple #[.int .i64 0, .int .i64 0, .int .i64 4]) ∧ Below w.heap.size w w') := Lib.hid (fun w => by have := varOf_no held HY.out hno w; rw [← HS.out] at this; exact this)
          clear hrd hno
          cases fin
          · rw [feedN_short hne hfr] at hq
            obtain ⟨rfl, rfl⟩ := Prod.mk.inj hq.symm
            clear hq hfr
            go_wp2_with fail
            refine (HV.out _).mono ?_
            rintro e wb ⟨rfl, b1⟩
            have FP := Lib.hid (FI.out.on b1)
            clear b1
            obtain ⟨C, W1, hrun, b1, hsz, hbs⟩ := conv_str held HY.out (by rw [HL.out]; omega) wb
            rw [← HS.out, HL.out] at hrun
            rw [HL.out] at hbs
            have FJ := Lib.hid (FP.out.on b1)
            have HB1 := Lib.hid hbs
            clear b1 hbs hsz
            obtain ⟨x0, x1, x2, x3, x4⟩ := bk5T FJ.out.x
            have xf := fun j => bk_frz FJ.out.x j
            go_upto_region 37 with fail
            clear x0 x1 x2 x3 x4 xf
            have k1 := bk_set FJ.out.x 0 (.slice (some ⟨wb.heap.size, 0, none⟩) L C)
            have g1 := gr_set W1 W.heap.size 0 (.slice (some ⟨wb.heap.size, 0, none⟩) L C)
            have FK := Lib.hid (FJ.out.put plain5 (by simpa using k1) g1 FJ.out.f FJ.out.d)
            have HB2 := Lib.hid ((HB1.out.grX FJ.out.x plain5 g1).more g1.size)
            obtain ⟨W2, hW2⟩ : ∃ q, W1.setCell ⟨W.heap.size, 0, none⟩ (.slice (some ⟨wb.heap.size, 0, none⟩) L C) = q := ⟨_, rfl⟩
            rw [hW2] at FK HB2 ⊢
            clear k1 g1 hW2 hrun FJ HB1
            have k1 := bk_set FK.out.x 4 (.bool false)
            have g1 := gr_set W2 W.heap.size 4 (.bool false)
            have FM := Lib.hid (FK.out.put plain5 (by simpa using k1) g1 FK.out.f FK.out.d)
            have HB3 := Lib.hid ((HB2.out.grX FK.out.x plain5 g1).more g1.size)
            obtain ⟨x0, x1, x2, x3, x4⟩ := bk5T FK.out.x
            have xf := fun j => bk_frz FK.out.x j
            go_upto_region 40 with fail
            clear x0 x1 x2 x3 x4 xf
            obtain ⟨W3, hW3⟩ : ∃ q, W2.setCell ⟨W.heap.size, 4, none⟩ (.bool false) = q := ⟨_, rfl⟩
            rw [hW3] at FM HB3 ⊢
            clear k1 g1 hW3 FK HB2
            obtain ⟨x0, x1, x2, x3, x4⟩ := bk5T FM.out.x
            have xf := fun j => bk_frz FM.out.x j
            go_wp2_with (first | (refine wpList_store_blk rfl 25 (.tmp 8) _ rfl (W.heap.size + 1 + 1) FM.out.z rfl rfl rfl (by kernel_rfl) (by simp [Value.oneCell']) ?_; intro W9 k9 gp) | (with_reducible show bodyPost _ _ _ _ _ _; obtain ⟨r0, r1', r2, r3, r4⟩ := bk5T k9; refine bodyPost_ret (by simp [results, Try.results7, go_sem, r0, r1', r2, r3, r4]; try rfl) rfl ?_; exact ⟨gr_from FM.out.b FM.out.b.size (Nat.le_succ_of_le (Nat.le_succ _)) gp, _, rfl, RdVal.of ((HB3.out.grX FM.out.z plain5 gp).more gp.size) ((FM.out.f.grX FM.out.z plain5 gp).more gp.size) ((FM.out.d.grX FM.out.z plain5 gp).more gp.size)⟩))
          · rw [feedN_err hne (by rw [hfr]; decide) (.inr rfl), hfr] at hq
            obtain ⟨rfl, rfl⟩ := Prod.mk.inj hq.symm
            clear hq hfr
            go_wp2_with fail
            refine (HV.out _).mono ?_
            rintro e wb ⟨rfl, b1⟩
            have FP := Lib.hid (FI.out.on b1)
            clear b1
            go_wp2_with (first | (refine wpList_store_blk rfl 25 (.tmp 8) _ rfl (W.heap.size + 1 + 1) FP.out.z rfl rfl rfl (by kernel_rfl) (by simp [Value.oneCell']) ?_; intro W9 k9 gp) | (with_reducible show bodyPost _ _ _ _ _ _; obtain ⟨r0, r1', r2, r3, r4⟩ := bk5T k9; refine bodyPost_ret (by simp [results, Try.results7, go_sem, r0, r1', r2, r3, r4]; try rfl) rfl ?_; exact ⟨gr_from FP.out.b FP.out.b.size (Nat.le_succ_of_le (Nat.le_succ _)) gp, _, rfl, RdVal.zero _⟩))
        · obtain ⟨s1, hs1⟩ : ∃ s, held.drop k1 = s := ⟨_, rfl⟩
          rw [hs1] at hrd1
          have hs1l : s1.length = L - k1 := by rw [← hs1, List.length_drop, HL.out]
          rw [HL.out] at k12
          have HY1 := Lib.hid (show Byt s1 by rw [← hs1]; exact HY.out.drop k1)
          have hex1 : S.extract k1 S.size = strOfNums s1 := by rw [HS.out, ← hs1]; exact str_endR held k1
          rw [hz] at hex1
          obtain ⟨X1, hX1⟩ : ∃ X, strOfNums s1 = X := ⟨_, rfl⟩
          rw [hX1] at hex1
          have HX1 := Lib.hid hX1
          have HS1 := Lib.hid hs1
          have HV : Hid (∀ w, Calls Try.prog 23 #[.string S] w fun e w' => e = .returned (.tuple #[.int .i64 (kd : Int), .int .i64 (k1 : Int), .int .i64 0]) ∧ Below w.heap.size w w') := Lib.hid (fun w => by have := varOf_long _ held rfl HY.out hok1 w; rw [hdv1, hko1, ← HS.out] at this; exact this)
          have k1i : (0 : Int) ≤ (k1 : Int) ∧ (k1 : Int) ≤ (L : Int) := by omega
          have hk1n : (k1 : Int).toNat = k1 := by omega
          have hk1s : k1 ≤ L := by omega
          clear hs1 hX1 hdv1 hko1 hok1
          rcases rd_shape HY1.out with ⟨hno, hrd2⟩ | ⟨n, m, hok2, hrd2, hdv2, hko2, m1, m2, m3⟩
          · have hq := HQ.out
            have hfr : (firstR held).2 = 4 := by rw [firstR_e2 hrd1 hrd2]
            have HV2 : Hid (∀ w, Calls Try.prog 23 #[.string X1] w fun e w' => e = .returned (.tuple #[.int .i64 0, .int .i64 0, .int .i64 4]) ∧ Below w.heap.size w w') := Lib.hid (fun w => by have := varOf_no s1 HY1.out hno w; rw [HX1.out] at this; exact this)
            clear hrd1 hrd2 hno
            cases fin
            · rw [feedN_short hne hfr] at hq
              obtain ⟨rfl, rfl⟩ := Prod.mk.inj hq.symm
              clear hq hfr
              go_wp2_with fail
              refine (HV.out _).mono ?_
              rintro e w5 ⟨rfl, b1⟩
              have FP5 := Lib.hid (FI.out.on b1)
              clear b1
              go_wp2_with fail
              refine (HV2.out _).mono ?_
              rintro e wb ⟨rfl, b1⟩
              have FP := Lib.hid (FP5.out.on b1)
              clear b1 FP5
              obtain ⟨C, W1, hrun, b1, hsz, hbs⟩ := conv_str held HY.out (by rw [HL.out]; omega) wb
              rw [← HS.out, HL.out] at hrun
              rw [HL.out] at hbs
              have FJ := Lib.hid (FP.out.on b1)
              have HB1 := Lib.hid hbs
              clear b1 hbs hsz
              obtain ⟨x0, x1, x2, x3, x4⟩ := bk5T FJ.out.x
              have xf := fun j => bk_frz FJ.out.x j
              go_upto_region 37 with fail
              clear x0 x1 x2 x3 x4 xf
              have k1 := bk_set FJ.out.x 0 (.slice (some ⟨wb.heap.size, 0, none⟩) L C)
              have g1 := gr_set W1 W.heap.size 0 (.slice (some ⟨wb.heap.size, 0, none⟩) L C)
              have FK := Lib.hid (FJ.out.put plain5 (by simpa using k1) g1 FJ.out.f FJ.out.d)
              have HB2 := Lib.hid ((HB1.out.grX FJ.out.x plain5 g1).more g1.size)
              obtain ⟨W2, hW2⟩ : ∃ q, W1.setCell ⟨W.heap.size, 0, none⟩ (.slice (some ⟨wb.heap.size, 0, none⟩) L C) = q := ⟨_, rfl⟩
              rw [hW2] at FK HB2 ⊢
              clear k1 g1 hW2 hrun FJ HB1
              have k1 := bk_set FK.out.x 4 (.bool false)
              have g1 := gr_set W2 W.heap.size 4 (.bool false)
              have FM := Lib.hid (FK.out.put plain5 (by simpa using k1) g1 FK.out.f FK.out.d)
              have HB3 := Lib.hid ((HB2.out.grX FK.out.x plain5 g1).more g1.size)
              obtain ⟨x0, x1, x2, x3, x4⟩ := bk5T FK.out.x
              have xf := fun j => bk_frz FK.out.x j
              go_upto_region 40 with fail
              clear x0 x1 x2 x3 x4 xf
              obtain ⟨W3, hW3⟩ : ∃ q, W2.setCell ⟨W.heap.size, 4, none⟩ (.bool false) = q := ⟨_, rfl⟩
              rw [hW3] at FM HB3 ⊢
              clear k1 g1 hW3 FK HB2
              obtain ⟨x0, x1, x2, x3, x4⟩ := bk5T FM.out.x
              have xf := fun j => bk_frz FM.out.x j
              go_wp2_with (first | (refine wpList_store_blk rfl 25 (.tmp 8) _ rfl (W.heap.size + 1 + 1) FM.out.z rfl rfl rfl (by kernel_rfl) (by simp [Value.oneCell']) ?_; intro W9 k9 gp) | (with_reducible show bodyPost _ _ _ _ _ _; obtain ⟨r0, r1', r2, r3, r4⟩ := bk5T k9; refine bodyPost_ret (by simp [results, Try.results7, go_sem, r0, r1', r2, r3, r4]; try rfl) rfl ?_; exact ⟨gr_from FM.out.b FM.out.b.size (Nat.le_succ_of_le (Nat.le_succ _)) gp, _, rfl, RdVal.of ((HB3.out.grX FM.out.z plain5 gp).more gp.size) ((FM.out.f.grX FM.out.z plain5 gp).more gp.size) ((FM.out.d.grX FM.out.z plain5 gp).more gp.size)⟩))
            · rw [feedN_err hne (by rw [hfr]; decide) (.inr rfl), hfr] at hq
              obtain ⟨rfl, rfl⟩ := Prod.mk.inj hq.symm
              clear hq hfr
              go_wp2_with fail
              refine (HV.out _).mono ?_
              rintro e w5 ⟨rfl, b1⟩
              have FP5 := Lib.hid (FI.out.on b1)
              clear b1
              go_wp2_with fail
              refine (HV2.out _).mono ?_
              rintro e wb ⟨rfl, b1⟩
              have FP := Lib.hid (FP5.out.on b1)
              clear b1 FP5
              go_wp2_with (first | (refine wpList_store_blk rfl 25 (.tmp 8) _ rfl (W.heap.size + 1 + 1) FP.out.z rfl rfl rfl (by kernel_rfl) (by simp [Value.oneCell']) ?_; intro W9 k9 gp) | (with_reducible show bodyPost _ _ _ _ _ _; obtain ⟨r0, r1', r2, r3, r4⟩ := bk5T k9; refine bodyPost_ret (by simp [results, Try.results7, go_sem, r0, r1', r2, r3, r4]; try rfl) rfl ?_; exact ⟨gr_from FP.out.b FP.out.b.size (Nat.le_succ_of_le (Nat.le_succ _)) gp, _, rfl, RdVal.zero _⟩))
          · obtain ⟨u, hu⟩ : ∃ s, s1.drop m = s := ⟨_, rfl⟩
            rw [hu] at hrd2
            have hul : u.length = L - k1 - m := by rw [← hu, List.length_drop, hs1l]
            rw [hs1l] at m2
            have huh : u = held.drop (k1 + m) := by rw [← hu, ← HS1.out, List.drop_drop]
            have HU := Lib.hid huh
            have HV2 : Hid (∀ w, Calls Try.prog 23 #[.string X1] w fun e w' => e = .returned (.tuple #[.int .i64 (n : Int), .int .i64 (m : Int), .int .i64 0]) ∧ Below w.heap.size w w') := Lib.hid (fun w => by have := varOf_long _ s1 rfl HY1.out hok2 w; rw [hdv2, hko2, HX1.out] at this; exact this)
            have hFo := firstR_ok hrd1 hrd2
            clear hu huh hdv2 hko2 hok2 hrd1 hrd2
            by_cases c4 : (400 : Int) < (n : Int)
            · rw [if_pos c4] at hFo
              have hq := HQ.out
              rw [feedN_err hne (by rw [hFo]; decide) (.inl (by rw [hFo]; decide)), hFo] at hq
              obtain ⟨rfl, rfl⟩ := Prod.mk.inj hq.symm
              have a4 : decide ((400 : Int) < (n : Int)) = true := by simp; omega
              clear hq hFo
              go_wp2_with fail
              refine (HV.out _).mono ?_
              rintro e w5 ⟨rfl, b1⟩
              have FP5 := Lib.hid (FI.out.on b1)
              clear b1
              go_wp2_with fail
              refine (HV2.out _).mono ?_
              rintro e wb ⟨rfl, b1⟩
              have FP := Lib.hid (FP5.out.on b1)
              clear b1 FP5
              go_wp2_with (first | (refine wpList_store_blk rfl 25 (.tmp 8) _ rfl (W.heap.size + 1 + 1) FP.out.z rfl rfl rfl (by kernel_rfl) (by simp [Value.oneCell']) ?_; intro W9 k9 gp) | (with_reducible show bodyPost _ _ _ _ _ _; obtain ⟨r0, r1', r2, r3, r4⟩ := bk5T k9; refine bodyPost_ret (by simp [results, Try.results7, go_sem, r0, r1', r2, r3, r4]; try rfl) rfl ?_; exact ⟨gr_from FP.out.b FP.out.b.size (Nat.le_succ_of_le (Nat.le_succ _)) gp, _, rfl, RdVal.zero _⟩))
            · rw [if_neg c4] at hFo
              have a4 : decide ((400 : Int) < (n : Int)) = false := by simp; omega
              have hw1 : IntKind.i64.wrap ((k1 : Int) + (m : Int)) = ((k1 + m : Nat) : Int) := by rw [IntKind.wrap_i64]; omega
              obtain ⟨km, hkm⟩ : ∃ x, k1 + m = x := ⟨_, rfl⟩
              rw [hkm] at hw1
              have hw2 : IntKind.i64.wrap ((km : Int) + (n : Int)) = ((km + n : Nat) : Int) := by rw [IntKind.wrap_i64]; omega
              obtain ⟨kn, hkn⟩ : ∃ x, km + n = x := ⟨_, rfl⟩
              rw [hkn] at hw2
              have HKM := Lib.hid hkm
              have HKN := Lib.hid hkn
              by_cases c5 : (u.length : Int) < (n : Int)
              · rw [if_pos c5] at hFo
                have hq := HQ.out
                have hfr : (firstR held).2 = 4 := by rw [hFo]
                have a5p : L < kn := by omega
                have a5 : decide ((L : Int) < (kn : Int)) = true := by simp; omega
                clear hFo hkm hkn c5
                cases fin
                · rw [feedN_short hne hfr] at hq
                  obtain ⟨rfl, rfl⟩ := Prod.mk.inj hq.symm
                  clear hq hfr
                  go_wp2_with fail
                  refine (HV.out _).mono ?_
                  rintro e w5 ⟨rfl, b1⟩
                  have FP5 := Lib.hid (FI.out.on b1)
                  clear b1
                  go_wp2_with fail
                  refine (HV2.out _).mono ?_
                  rintro e wb ⟨rfl, b1⟩
                  have FP := Lib.hid (FP5.out.on b1)
                  clear b1 FP5
                  obtain ⟨C, W1, hrun, b1, hsz, hbs⟩ := conv_str held HY.out (by rw [HL.out]; omega) wb
                  rw [← HS.out, HL.out] at hrun
                  rw [HL.out] at hbs
                  have FJ := Lib.hid (FP.out.on b1)
                  have HB1 := Lib.hid hbs
                  clear b1 hbs hsz
                  obtain ⟨x0, x1, x2, x3, x4⟩ := bk5T FJ.out.x
                  have xf := fun j => bk_frz FJ.out.x j
                  go_upto_region 37 with fail
                  clear x0 x1 x2 x3 x4 xf
                  have k1 := bk_set FJ.out.x 0 (.slice (some ⟨wb.heap.size, 0, none⟩) L C)
                  have g1 := gr_set W1 W.heap.size 0 (.slice (some ⟨wb.heap.size, 0, none⟩) L C)
                  have FK := Lib.hid (FJ.out.put plain5 (by simpa using k1) g1 FJ.out.f FJ.out.d)
                  have HB2 := Lib.hid ((HB1.out.grX FJ.out.x plain5 g1).more g1.size)
                  obtain ⟨W2, hW2⟩ : ∃ q, W1.setCell ⟨W.heap.size, 0, none⟩ (.slice (some ⟨wb.heap.size, 0, none⟩) L C) = q := ⟨_, rfl⟩
                  rw [hW2] at FK HB2 ⊢
                  clear k1 g1 hW2 hrun FJ HB1
                  have k1 := bk_set FK.out.x 4 (.bool false)
                  have g1 := gr_set W2 W.heap.size 4 (.bool false)
                  have FM := Lib.hid (FK.out.put plain5 (by simpa using k1) g1 FK.out.f FK.out.d)
                  have HB3 := Lib.hid ((HB2.out.grX FK.out.x plain5 g1).more g1.size)
                  obtain ⟨x0, x1, x2, x3, x4⟩ := bk5T FK.out.x
                  have xf := fun j => bk_frz FK.out.x j
                  go_upto_region 40 with fail
                  clear x0 x1 x2 x3 x4 xf
                  obtain ⟨W3, hW3⟩ : ∃ q, W2.setCell ⟨W.heap.size, 4, none⟩ (.bool false) = q := ⟨_, rfl⟩
                  rw [hW3] at FM HB3 ⊢
                  clear k1 g1 hW3 FK HB2
                  obtain ⟨x0, x1, x2, x3, x4⟩ := bk5T FM.out.x
                  have xf := fun j => bk_frz FM.out.x j
                  go_wp2_with (first | (refine wpList_store_blk rfl 25 (.tmp 8) _ rfl (W.heap.size + 1 + 1) FM.out.z rfl rfl rfl (by kernel_rfl) (by simp [Value.oneCell']) ?_; intro W9 k9 gp) | (with_reducible show bodyPost _ _ _ _ _ _; obtain ⟨r0, r1', r2, r3, r4⟩ := bk5T k9; refine bodyPost_ret (by simp [results, Try.results7, go_sem, r0, r1', r2, r3, r4]; try rfl) rfl ?_; exact ⟨gr_from FM.out.b FM.out.b.size (Nat.le_succ_of_le (Nat.le_succ _)) gp, _, rfl, RdVal.of ((HB3.out.grX FM.out.z plain5 gp).more gp.size) ((FM.out.f.grX FM.out.z plain5 gp).more gp.size) ((FM.out.d.grX FM.out.z plain5 gp).more gp.size)⟩))
                · rw [feedN_err hne (by rw [hfr]; decide) (.inr rfl), hfr] at hq
                  obtain ⟨rfl, rfl⟩ := Prod.mk.inj hq.symm
                  clear hq hfr
                  go_wp2_with fail
                  refine (HV.out _).mono ?_
                  rintro e w5 ⟨rfl, b1⟩
                  have FP5 := Lib.hid (FI.out.on b1)
                  clear b1
                  go_wp2_with fail
                  refine (HV2.out _).mono ?_
                  rintro e wb ⟨rfl, b1⟩
                  have FP := Lib.hid (FP5.out.on b1)
                  clear b1 FP5
                  go_wp2_with (first | (refine wpList_store_blk rfl 25 (.tmp 8) _ rfl (W.heap.size + 1 + 1) FP.out.z rfl rfl rfl (by kernel_rfl) (by simp [Value.oneCell']) ?_; intro W9 k9 gp) | (with_reducible show bodyPost _ _ _ _ _ _; obtain ⟨r0, r1', r2, r3, r4⟩ := bk5T k9; refine bodyPost_ret (by simp [results, Try.results7, go_sem, r0, r1', r2, r3, r4]; try rfl) rfl ?_; exact ⟨gr_from FP.out.b FP.out.b.size (Nat.le_succ_of_le (Nat.le_succ _)) gp, _, rfl, RdVal.zero _⟩))
              · rw [if_neg c5] at hFo
                have a5 : decide ((L : Int) < (kn : Int)) = false := by simp; omega
                have hkl : kn ≤ L := by omega
                have hn2 : (n : Int).toNat = n := by omega
                rw [hn2] at hFo
                obtain ⟨dt, hdt⟩ : ∃ x, u.take n = x := ⟨_, rfl⟩
                obtain ⟨re, hre⟩ : ∃ x, u.drop n = x := ⟨_, rfl⟩
                rw [hdt, hre] at hFo
                have hdl : dt.length = n := by rw [← hdt, List.length_take]; omega
                have hrl : re.length = L - kn := by rw [← hre, List.length_drop]; omega
                have HYU := HU.out ▸ HY.out.drop (k1 + m)
                have HYD := Lib.hid (show Byt dt by rw [← hdt]; exact HYU.take n)
                have HYR := Lib.hid (show Byt re by rw [← hre]; exact HYU.drop n)
                have hexd : S.extract km kn = strOfNums dt := by rw [HS.out, str_midR, ← hdt, HU.out, hkm, show kn - km = n by omega]
                have hexr : S.extract kn S.size = strOfNums re := by rw [HS.out, str_endR, ← hre, HU.out, List.drop_drop, hkm, hkn]
                rw [hz] at hexr
                have hdz : (strOfNums dt).size = n := by rw [strOfNums_size, hdl]
                obtain ⟨D, hD⟩ : ∃ x, strOfNums dt = x := ⟨_, rfl⟩
                obtain ⟨E, hE⟩ : ∃ x, strOfNums re = x := ⟨_, rfl⟩
                rw [hD] at hexd hdz
                rw [hE] at hexr
                have HD := Lib.hid hD
                have HE := Lib.hid hE
                have HDL := Lib.hid hdl
                have HRL := Lib.hid hrl
                have i1 : (0 : Int) ≤ (km : Int) ∧ (km : Int) ≤ (kn : Int) ∧ (kn : Int) ≤ (L : Int) := by omega
                have i2 : (0 : Int) ≤ (kn : Int) := by omega
                have n1' : (km : Int).toNat = km := by omega
                have n2' : (kn : Int).toNat = kn := by omega
                have s1' : km ≤ kn ∧ kn ≤ L := by omega
                have hf2 : (firstR held).2 = 0 := by rw [hFo]
                have hf1 : (firstR held).1 = ⟨(kd : Int), dt, re⟩ := by rw [hFo]
                clear hkm hkn hdt hre hdl hD hE HYU hFo c5
                have hq := HQ.out
                by_cases c6 : (kd : Int) = 1
                · have a6 : ((kd : Int) == 1) = true := by simp [c6]
                  have a7 : ((kd : Int) == 0) = false := by simp [c6]
                  cases bg
                  · obtain ⟨⟨l, e⟩, hle⟩ : ∃ q, decFl t dt = q := ⟨_, rfl⟩
                    have hfx := decFl_facts2 (t := t) (b := dt) HTW.out HYD.out (by rw [HDL.out]; omega)
                    rw [hle] at hfx
                    dsimp only at hfx
                    obtain ⟨wf1, wf2, wf3⟩ := hfx
                    have HWF := Lib.hid wf1
                    by_cases e14 : e = 14
                    · subst e14
                      have ht : takeR t fl false bd ⟨(kd : Int), dt, re⟩ = ((fl, false, bd), 14) := by unfold takeR; rw [if_pos c6, if_neg (by decide), hle]; rfl
                      rw [feedN_wait hne hf2 (by dsimp only; rw [hf1, ht])] at hq
                      obtain ⟨rfl, rfl⟩ := Prod.mk.inj hq.symm
                      clear hq hf2 hf1 ht c6 wf1 wf2 wf3
                      go_wp2_with fail
                      refine (HV.out _).mono ?_
                      rintro e w5 ⟨rfl, b1⟩
                      have FP5 := Lib.hid (FI.out.on b1)
                      clear b1
                      go_wp2_with fail
                      refine (HV2.out _).mono ?_
                      rintro e wb ⟨rfl, b1⟩
                      have FP := Lib.hid (FP5.out.on b1)
                      clear b1 FP5
                      obtain ⟨y0, y1, y2⟩ := bk3T FP.out.y
                      have HFO := Lib.hid (refFlO_any _ t dt wb FP.out.v HTW.out HYD.out (by rw [HDL.out]; omega))
                      rw [HD.out] at HFO
                      unfold FlRes at HFO
                      rw [hle] at HFO
                      dsimp only at HFO
                      obtain ⟨x0, x1, x2, x3, x4⟩ := bk5T FP.out.x
                      have xf := fun j => bk_frz FP.out.x j
                      go_wp2_with fail
                      refine (HFO.out).mono ?_
                      clear x0 x1 x2 x3 x4 xf
                      clear y0 y1 y2
                      rintro e9 w6 ⟨b6, v6, rfl, h6⟩
                      obtain ⟨A8, c8, rfl, q1, q2, r8⟩ := h6.ex
                      have FQ := Lib.hid (FP.out.on b6)
                      have HL6 := Lib.hid h6
                      clear b6 FP HFO
                      obtain ⟨C, W1, hrun, b1, hsz, hbs⟩ := conv_str held HY.out (by rw [HL.out]; omega) w6
                      rw [← HS.out, HL.out] at hrun
                      rw [HL.out] at hbs
                      have FJ := Lib.hid (FQ.out.on b1)
                      have HB1 := Lib.hid hbs
                      clear b1 hbs hsz
                      obtain ⟨ln, hln⟩ : ∃ q, l.length = q := ⟨_, rfl⟩
                      try rw [hln]
                      clear hln
                      obtain ⟨x0, x1, x2, x3, x4⟩ := bk5T FJ.out.x
                      have xf := fun j => bk_frz FJ.out.x j
                      go_upto_region 31 with fail
                      clear x0 x1 x2 x3 x4 xf
                      have k1' := bk_set FJ.out.x 0 (.slice (some ⟨w6.heap.size, 0, none⟩) L C)
                      have g1 := gr_set W1 W.heap.size 0 (.slice (some ⟨w6.heap.size, 0, none⟩) L C)
                      have FK := Lib.hid (FJ.out.put plain5 (by simpa using k1') g1 FJ.out.f FJ.out.d)
                      have HB2 := Lib.hid ((HB1.out.grX FJ.out.x plain5 g1).more g1.size)
                      obtain ⟨W2, hW2⟩ : ∃ q, W1.setCell ⟨W.heap.size, 0, none⟩ (.slice (some ⟨w6.heap.size, 0, none⟩) L C) = q := ⟨_, rfl⟩
                      rw [hW2] at FK HB2 ⊢
                      clear k1' g1 hW2 hrun FJ HB1
                      obtain ⟨x0, x1, x2, x3, x4⟩ := bk5T FK.out.x
                      have xf := fun j => bk_frz FK.out.x j
                      go_wp2_with (first | (refine wpList_store_blk rfl 25 (.tmp 8) _ rfl (W.heap.size + 1 + 1) FK.out.z rfl rfl rfl (by kernel_rfl) (by simp [Value.oneCell']) ?_; intro W9 k9 gp) | (with_reducible show bodyPost _ _ _ _ _ _; obtain ⟨r0, r1', r2, r3, r4⟩ := bk5T k9; refine bodyPost_ret (by simp [results, Try.results7, go_sem, r0, r1', r2, r3, r4]; try rfl) rfl ?_; exact ⟨gr_from FK.out.b FK.out.b.size (Nat.le_succ_of_le (Nat.le_succ _)) gp, _, rfl, RdVal.of ((HB2.out.grX FK.out.z plain5 gp).more gp.size) ((FK.out.f.grX FK.out.z plain5 gp).more gp.size) ((FK.out.d.grX FK.out.z plain5 gp).more gp.size)⟩))
                    by_cases e0 : e = 0
                    · subst e0
                      have ff := wf2 rfl
                      have hl8 : l.length ≤ 8 := Nat.le_of_not_lt (fun h => by unfold faultFl at ff; rw [if_pos h] at ff; cases ff)
                      obtain ⟨x, hx⟩ : ∃ x, faultRq l = x := ⟨_, rfl⟩
                      have hxc := faultRq_cases l
                      rw [hx] at hxc
                      have x14 : (x == 14) = false := by rcases hxc with h | h | h <;> subst h <;> rfl
                      obtain ⟨nl, hnl⟩ : ∃ q, l.length = q := ⟨_, rfl⟩
                      rw [hnl] at hl8
                      have HNL := Lib.hid hnl
                      have HCK : Hid (∀ (A8 : Option Addr) (c8 : Nat) (w6 : World), RowE FdE w6 w6.heap.size A8 l → nl ≤ c8 → c8 ≤ maxLen → Calls Try.prog 25 #[.slice A8 nl c8] w6 fun e w' => e = .returned (.int .i64 x) ∧ Below w6.heap.size w6 w') := Lib.hid (fun A8 c8 w6 r8 q1 q2 => by have := refRqF_any A8 nl c8 l w6 r8 HNL.out q1 q2 HWF.out (by omega); rw [hx] at this; exact this)
                      clear ff hnl wf1 wf2 wf3
                      by_cases x0' : x = 0
                      · subst x0'
                        have ht : takeR t fl false bd ⟨(kd : Int), dt, re⟩ = ((l, true, bd), 0) := by unfold takeR; rw [if_pos c6, if_neg (by decide), hle]; dsimp only; rw [if_neg (by decide), if_neg (by decide), if_neg (by rw [hx]; decide)]
                        rw [feedN_step hne hf2 (by dsimp only; rw [hf1, ht])] at hq
                        dsimp only at hq
                        rw [hf1, ht] at hq
                        have HQ2 := Lib.hid hq
                        clear hq hf2 hf1 ht
                        clear c6 hx hxc
                        go_wp2_with fail
                        refine (HV.out _).mono ?_
                        rintro e w5 ⟨rfl, b1⟩
                        have FP5 := Lib.hid (FI.out.on b1)
                        clear b1
                        go_wp2_with fail
                        refine (HV2.out _).mono ?_
                        rintro e wb ⟨rfl, b1⟩
                        have FP := Lib.hid (FP5.out.on b1)
                        clear b1 FP5
                        obtain ⟨y0, y1, y2⟩ := bk3T FP.out.y
                        have HFO := Lib.hid (refFlO_any _ t dt wb FP.out.v HTW.out HYD.out (by rw [HDL.out]; omega))
                        rw [HD.out] at HFO
                        unfold FlRes at HFO
                        rw [hle] at HFO
                        dsimp only at HFO
                        obtain ⟨x0, x1, x2, x3, x4⟩ := bk5T FP.out.x
                        have xf := fun j => bk_frz FP.out.x j
                        go_wp2_with fail
                        refine (HFO.out).mono ?_
                        clear x0 x1 x2 x3 x4 xf
                        clear y0 y1 y2
                        rintro e9 w6 ⟨b6, v6, rfl, h6⟩
                        obtain ⟨A8, c8, rfl, q1, q2, r8⟩ := h6.ex
                        have FQ := Lib.hid (FP.out.on b6)
                        have HL6 := Lib.hid h6
                        clear b6 FP HFO
                        rw [HNL.out] at q1 ⊢
                        go_wp2_with fail
                        refine (HCK.out A8 c8 w6 r8 q1 q2).mono ?_
                        rintro e9 w7 ⟨rfl, b7⟩
                        have FR := Lib.hid (FQ.out.on b7)
                        have HL7 := Lib.hid (HL6.out.on b7)
                        clear b7 FQ HL6 r8 q1 q2
                        obtain ⟨x0, x1, x2, x3, x4⟩ := bk5T FR.out.x
                        have xf := fun j => bk_frz FR.out.x j
                        go_upto_region 35 with fail
                        clear x0 x1 x2 x3 x4 xf
                        have h7 := HL7.out
                        obtain ⟨A9, c9, e9, _⟩ := h7.ex
                        injection e9 with e91 e92 e93
                        subst e91 e93
                        rw [HNL.out] at h7
                        have k1' := bk_set FR.out.x 1 (.slice A8 nl c8)
                        have k2' := bk_set k1' 2 (.bool true)
                        have g1 := gr_trans (gr_set w7 W.heap.size 1 (.slice A8 nl c8)) (gr_set _ W.heap.size 2 (.bool true))
                        have FK := Lib.hid (FR.out.put plain5 (by simpa using k2') g1 h7 FR.out.d)
                        obtain ⟨W2, hW2⟩ : ∃ q, (w7.setCell ⟨W.heap.size, 1, none⟩ (.slice A8 nl c8)).setCell ⟨W.heap.size, 2, none⟩ (.bool true) = q := ⟨_, rfl⟩
                        rw [hW2] at FK ⊢
                        clear k1' k2' g1 hW2 h7 HL7 FR e92
                        go_wp2_with fail
                        go_roundg re.length
                        case measure => have := HKM.out; have := HKN.out; rw [HRL.out]; omega
                        case rel => exact ⟨E, re, l, true, bd, A8, Ab, nl, c8, nb, cb, by first | rfl | simp, rfl, (by rw [HRL.out]; omega), (by rw [HNB.out]; exact hnb2), Lib.hid HE.out.symm, HYR, Lib.hid (by rw [feedN_more (re.length + 1) L _ (Nat.lt_succ_self _) (by have := HKM.out; have := HKN.out; dsimp only; rw [HRL.out]; omega)]; exact HQ2.out), FK⟩
                      · have ht : takeR t fl false bd ⟨(kd : Int), dt, re⟩ = (([], false, []), x) := by unfold takeR; rw [if_pos c6, if_neg (by decide), hle]; dsimp only; rw [if_neg (by decide), if_neg (by decide), if_pos (by rw [hx]; exact x0'), hx]
                        have xn : (x != 0) = true := by simp [x0']
                        rw [feedN_bad hne hf2 (by dsimp only; rw [hf1, ht]; exact fun k => by subst k; cases x14) (by dsimp only; rw [hf1, ht]; exact x0')] at hq
                        dsimp only at hq
                        rw [hf1, ht] at hq
                        obtain ⟨rfl, rfl⟩ := Prod.mk.inj hq.symm
                        clear hq hf2 hf1 ht
                        clear c6 hx hxc x0'
                        go_wp2_with fail
                        refine (HV.out _).mono ?_
                        rintro e w5 ⟨rfl, b1⟩
                        have FP5 := Lib.hid (FI.out.on b1)
                        clear b1
                        go_wp2_with fail
                        refine (HV2.out _).mono ?_
                        rintro e wb ⟨rfl, b1⟩
                        have FP := Lib.hid (FP5.out.on b1)
                        clear b1 FP5
                        obtain ⟨y0, y1, y2⟩ := bk3T FP.out.y
                        have HFO := Lib.hid (refFlO_any _ t dt wb FP.out.v HTW.out HYD.out (by rw [HDL.out]; omega))
                        rw [HD.out] at HFO
                        unfold FlRes at HFO
                        rw [hle] at HFO
                        dsimp only at HFO
                        obtain ⟨x0, x1, x2, x3, x4⟩ := bk5T FP.out.x
                        have xf := fun j => bk_frz FP.out.x j
                        go_wp2_with fail
                        refine (HFO.out).mono ?_
                        clear x0 x1 x2 x3 x4 xf
                        clear y0 y1 y2
                        rintro e9 w6 ⟨b6, v6, rfl, h6⟩
                        obtain ⟨A8, c8, rfl, q1, q2, r8⟩ := h6.ex
                        have FQ := Lib.hid (FP.out.on b6)
                        have HL6 := Lib.hid h6
                        clear b6 FP HFO
                        rw [HNL.out] at q1 ⊢
                        go_wp2_with fail
                        refine (HCK.out A8 c8 w6 r8 q1 q2).mono ?_
                        rintro e9 w7 ⟨rfl, b7⟩
                        have FR := Lib.hid (FQ.out.on b7)
                        clear b7 FQ HL6 r8 q1 q2
                        go_wp2_with (first | (refine wpList_store_blk rfl 25 (.tmp 8) _ rfl (W.heap.size + 1 + 1) FR.out.z rfl rfl rfl (by kernel_rfl) (by simp [Value.oneCell']) ?_; intro W9 k9 gp) | (with_reducible show bodyPost _ _ _ _ _ _; obtain ⟨r0, r1', r2, r3, r4⟩ := bk5T k9; refine bodyPost_ret (by simp [results, Try.results7, go_sem, r0, r1', r2, r3, r4]; try rfl) rfl ?_; exact ⟨gr_from FR.out.b FR.out.b.size (Nat.le_succ_of_le (Nat.le_succ _)) gp, _, rfl, RdVal.zero _⟩))
                    · have ht : takeR t fl false bd ⟨(kd : Int), dt, re⟩ = (([], false, []), e) := by unfold takeR; rw [if_pos c6, if_neg (by decide), hle]; dsimp only; rw [if_neg e14, if_pos e0]
                      have en : (e != 0) = true := by simp [e0]
                      have ee : (e == 0) = false := by simp [e0]
                      have ef : (e == 14) = false := by simp [e14]
                      rw [feedN_bad hne hf2 (by dsimp only; rw [hf1, ht]; exact e14) (by dsimp only; rw [hf1, ht]; exact e0)] at hq
                      dsimp only at hq
                      rw [hf1, ht] at hq
                      obtain ⟨rfl, rfl⟩ := Prod.mk.inj hq.symm
                      clear hq hf2 hf1 ht
                      clear c6 e0 e14 wf1 wf2 wf3
                      go_wp2_with fail
                      refine (HV.out _).mono ?_
                      rintro e w5 ⟨rfl, b1⟩
                      have FP5 := Lib.hid (FI.out.on b1)
                      clear b1
                      go_wp2_with fail
                      refine (HV2.out _).mono ?_
                      rintro e wb ⟨rfl, b1⟩
                      have FP := Lib.hid (FP5.out.on b1)
                      clear b1 FP5
                      obtain ⟨y0, y1, y2⟩ := bk3T FP.out.y
                      have HFO := Lib.hid (refFlO_any _ t dt wb FP.out.v HTW.out HYD.out (by rw [HDL.out]; omega))
                      rw [HD.out] at HFO
                      unfold FlRes at HFO
                      rw [hle] at HFO
                      dsimp only at HFO
                      obtain ⟨x0, x1, x2, x3, x4⟩ := bk5T FP.out.x
                      have xf := fun j => bk_frz FP.out.x j
                      go_wp2_with fail
                      refine (HFO.out).mono ?_
                      clear x0 x1 x2 x3 x4 xf
                      clear y0 y1 y2
                      rintro e9 w6 ⟨b6, v6, rfl, h6⟩
                      obtain ⟨A8, c8, rfl, q1, q2, r8⟩ := h6.ex
                      have FQ := Lib.hid (FP.out.on b6)
                      have HL6 := Lib.hid h6
                      clear b6 FP HFO
                      obtain ⟨ln, hln⟩ : ∃ q, l.length = q := ⟨_, rfl⟩
                      try rw [hln]
                      clear hln
                      go_wp2_with (first | (refine wpList_store_blk rfl 25 (.tmp 8) _ rfl (W.heap.size + 1 + 1) FQ.out.z rfl rfl rfl (by kernel_rfl) (by simp [Value.oneCell']) ?_; intro W9 k9 gp) | (with_reducible show bodyPost _ _ _ _ _ _; obtain ⟨r0, r1', r2, r3, r4⟩ := bk5T k9; refine bodyPost_ret (by simp [results, Try.results7, go_sem, r0, r1', r2, r3, r4]; try rfl) rfl ?_; exact ⟨gr_from FQ.out.b FQ.out.b.size (Nat.le_succ_of_le (Nat.le_succ _)) gp, _, rfl, RdVal.zero _⟩))
                  · have ht : takeR t fl true bd ⟨(kd : Int), dt, re⟩ = (([], false, []), 3) := by unfold takeR; rw [if_pos c6, if_pos rfl]
                    rw [feedN_bad hne hf2 (by dsimp only; rw [hf1, ht]; decide) (by dsimp only; rw [hf1, ht]; decide)] at hq
                    dsimp only at hq
                    rw [hf1, ht] at hq
                    obtain ⟨rfl, rfl⟩ := Prod.mk.inj hq.symm
                    clear hq hf2 hf1 ht
                    clear c6
                    go_wp2_with fail
                    refine (HV.out _).mono ?_
                    rintro e w5 ⟨rfl, b1⟩
                    have FP5 := Lib.hid (FI.out.on b1)
                    clear b1
                    go_wp2_with fail
                    refine (HV2.out _).mono ?_
                    rintro e wb ⟨rfl, b1⟩
                    have FP := Lib.hid (FP5.out.on b1)
                    clear b1 FP5
                    obtain ⟨x0, x1, x2, x3, x4⟩ := bk5T FP.out.x
                    have xf := fun j => bk_frz FP.out.x j
                    go_wp2_with (first | (refine wpList_store_blk rfl 25 (.tmp 8) _ rfl (W.heap.size + 1 + 1) FP.out.z rfl rfl rfl (by kernel_rfl) (by simp [Value.oneCell']) ?_; intro W9 k9 gp) | (with_reducible show bodyPost _ _ _ _ _ _; obtain ⟨r0, r1', r2, r3, r4⟩ := bk5T k9; refine bodyPost_ret (by simp [results, Try.results7, go_sem, r0, r1', r2, r3, r4]; try rfl) rfl ?_; exact ⟨gr_from FP.out.b FP.out.b.size (Nat.le_succ_of_le (Nat.le_succ _)) gp, _, rfl, RdVal.zero _⟩))
                · have a6 : ((kd : Int) == 1) = false := beq_false_of_ne c6
                  by_cases c7 : (kd : Int) = 0
                  · have a7 : ((kd : Int) == 0) = true := by simp [c7]
                    cases bg
                    · have ht : takeR t fl false bd ⟨(kd : Int), dt, re⟩ = (([], false, []), 3) := by unfold takeR; rw [if_neg c6, if_pos c7, if_pos rfl]
                      rw [feedN_bad hne hf2 (by dsimp only; rw [hf1, ht]; decide) (by dsimp only; rw [hf1, ht]; decide)] at hq
                      dsimp only at hq
                      rw [hf1, ht] at hq
                      obtain ⟨rfl, rfl⟩ := Prod.mk.inj hq.symm
                      clear hq hf2 hf1 ht
                      clear c6 c7
                      go_wp2_with fail
                      refine (HV.out _).mono ?_
                      rintro e w5 ⟨rfl, b1⟩
                      have FP5 := Lib.hid (FI.out.on b1)
                      clear b1
                      go_wp2_with fail
                      refine (HV2.out _).mono ?_
                      rintro e wb ⟨rfl, b1⟩
                      have FP := Lib.hid (FP5.out.on b1)
                      clear b1 FP5
                      obtain ⟨x0, x1, x2, x3, x4⟩ := bk5T FP.out.x
                      have xf := fun j => bk_frz FP.out.x j
                      go_wp2_with (first | (refine wpList_store_blk rfl 25 (.tmp 8) _ rfl (W.heap.size + 1 + 1) FP.out.z rfl rfl rfl (by kernel_rfl) (by simp [Value.oneCell']) ?_; intro W9 k9 gp) | (with_reducible show bodyPost _ _ _ _ _ _; obtain ⟨r0, r1', r2, r3, r4⟩ := bk5T k9; refine bodyPost_ret (by simp [results, Try.results7, go_sem, r0, r1', r2, r3, r4]; try rfl) rfl ?_; exact ⟨gr_from FP.out.b FP.out.b.size (Nat.le_succ_of_le (Nat.le_succ _)) gp, _, rfl, RdVal.zero _⟩))
                    · have hwb : IntKind.i64.wrap ((nb : Int) + (n : Int)) = ((nb + n : Nat) : Int) := by rw [IntKind.wrap_i64]; omega
                      by_cases c8 : 200 < nb + n
                      · have a8 : decide ((200 : Int) < ((nb + n : Nat) : Int)) = true := by simp; omega
                        have ht : takeR t fl true bd ⟨(kd : Int), dt, re⟩ = (([], false, []), 1) := by unfold takeR; rw [if_neg c6, if_pos c7, if_neg (by decide), if_pos (by dsimp only; rw [HNB.out, HDL.out]; exact c8)]
                        rw [feedN_bad hne hf2 (by dsimp only; rw [hf1, ht]; decide) (by dsimp only; rw [hf1, ht]; decide)] at hq
                        dsimp only at hq
                        rw [hf1, ht] at hq
                        obtain ⟨rfl, rfl⟩ := Prod.mk.inj hq.symm
                        clear hq hf2 hf1 ht
                        clear c6 c7
                        go_wp2_with fail
                        refine (HV.out _).mono ?_
                        rintro e w5 ⟨rfl, b1⟩
                        have FP5 := Lib.hid (FI.out.on b1)
                        clear b1
                        go_wp2_with fail
                        refine (HV2.out _).mono ?_
                        rintro e wb ⟨rfl, b1⟩
                        have FP := Lib.hid (FP5.out.on b1)
                        clear b1 FP5
                        obtain ⟨x0, x1, x2, x3, x4⟩ := bk5T FP.out.x
                        have xf := fun j => bk_frz FP.out.x j
                        go_wp2_with (first | (refine wpList_store_blk rfl 25 (.tmp 8) _ rfl (W.heap.size + 1 + 1) FP.out.z rfl rfl rfl (by kernel_rfl) (by simp [Value.oneCell']) ?_; intro W9 k9 gp) | (with_reducible show bodyPost _ _ _ _ _ _; obtain ⟨r0, r1', r2, r3, r4⟩ := bk5T k9; refine bodyPost_ret (by simp [results, Try.results7, go_sem, r0, r1', r2, r3, r4]; try rfl) rfl ?_; exact ⟨gr_from FP.out.b FP.out.b.size (Nat.le_succ_of_le (Nat.le_succ _)) gp, _, rfl, RdVal.zero _⟩))
                      · have a8 : decide ((200 : Int) < ((nb + n : Nat) : Int)) = false := by simp; omega
                        have ht : takeR t fl true bd ⟨(kd : Int), dt, re⟩ = ((fl, true, bd ++ dt), 0) := by unfold takeR; rw [if_neg c6, if_pos c7, if_neg (by decide), if_neg (by dsimp only; rw [HNB.out, HDL.out]; exact c8)]
                        rw [feedN_step hne hf2 (by dsimp only; rw [hf1, ht])] at hq
                        dsimp only at hq
                        rw [hf1, ht] at hq
                        have HQ2 := Lib.hid hq
                        clear hq hf2 hf1 ht
                        clear c6 c7
                        go_wp2_with fail
                        refine (HV.out _).mono ?_
                        rintro e w5 ⟨rfl, b1⟩
                        have FP5 := Lib.hid (FI.out.on b1)
                        clear b1
                        go_wp2_with fail
                        refine (HV2.out _).mono ?_
                        rintro e wb ⟨rfl, b1⟩
                        have FP := Lib.hid (FP5.out.on b1)
                        clear b1 FP5
                        have hby : Byt bd := by obtain ⟨_, _, _, _, _, _, h⟩ := FP.out.d.ex; exact h.1
                        have hbl : (bd ++ dt).length = nb + n := by rw [List.length_append, HNB.out, HDL.out]
                        obtain ⟨_, _, eb, _, _, _, rb⟩ := FP.out.d.ex
                        injection eb with eb1 eb2 eb3
                        subst eb1 eb3
                        have hc1 := run_str (P := Try.prog) (w := wb) rb HNB.out 22 9 5 cb Try.underlying22 Try.underlying5 Try.underlying9
                        have zb1 : (strOfNums bd).size ≤ 200 := by rw [strOfNums_size, HNB.out]; exact hnb2
                        have hcat := str_cat bd dt
                        rw [HD.out] at hcat
                        obtain ⟨SB, hSB⟩ : ∃ q, strOfNums bd = q := ⟨_, rfl⟩
                        rw [hSB] at hc1 zb1 hcat
                        obtain ⟨C, W1, hrun, b1, hsz, hbs⟩ := conv_str (bd ++ dt) (Byt.append hby HYD.out) (by rw [hbl]; omega) wb
                        rw [← hcat, hbl] at hrun
                        rw [hbl] at hbs
                        have FJ := Lib.hid (FP.out.on b1)
                        have HB1 := Lib.hid hbs
                        have hadd : SB.size + D.size ≤ 9223372036854775807 := by omega
                        obtain ⟨nb2, hnb2'⟩ : ∃ q, nb + n = q := ⟨_, rfl⟩
                        rw [hnb2'] at hrun HB1 hwb a8
                        have HBL := Lib.hid (show (bd ++ dt).length ≤ 200 by rw [hbl]; omega)
                        clear b1 hbs hsz hby hbl hcat hSB eb2 hnb2' c8
                        obtain ⟨x0, x1, x2, x3, x4⟩ := bk5T FP.out.x
                        have xf := fun j => bk_frz FP.out.x j
                        obtain ⟨w0', w1', w2', w3', w4'⟩ := bk5T FJ.out.x
                        have wf' := fun j => bk_frz FJ.out.x j
                        go_upto_region 25 with fail
                        clear w0' w1' w2' w3' w4' wf' hc1 hadd
                        clear x0 x1 x2 x3 x4 xf
                        have k1' := bk_set FJ.out.x 3 (.slice (some ⟨wb.heap.size, 0, none⟩) nb2 C)
                        have g1 := gr_set W1 W.heap.size 3 (.slice (some ⟨wb.heap.size, 0, none⟩) nb2 C)
                        have FK := Lib.hid (FJ.out.put plain5 (by simpa using k1') g1 FJ.out.f HB1.out)
                        obtain ⟨W2, hW2⟩ : ∃ q, W1.setCell ⟨W.heap.size, 3, none⟩ (.slice (some ⟨wb.heap.size, 0, none⟩) nb2 C) = q := ⟨_, rfl⟩
                        rw [hW2] at FK ⊢
                        clear k1' g1 hW2 hrun FJ HB1 FP rb
                        go_wp2_with fail
                        go_roundg re.length
                        case measure => have := HKM.out; have := HKN.out; rw [HRL.out]; omega
                        case rel => exact ⟨E, re, fl, true, bd ++ dt, Af, (some ⟨wb.heap.size, 0, none⟩), nf, cf, nb2, C, by first | rfl | simp, rfl, (by rw [HRL.out]; omega), (HBL.out), Lib.hid HE.out.symm, HYR, Lib.hid (by rw [feedN_more (re.length + 1) L _ (Nat.lt_succ_self _) (by have := HKM.out; have := HKN.out; dsimp only; rw [HRL.out]; omega)]; exact HQ2.out), FK⟩
                  · have a7 : ((kd : Int) == 0) = false := beq_false_of_ne c7
                    have ht : takeR t fl bg bd ⟨(kd : Int), dt, re⟩ = ((fl, bg, bd), 0) := by unfold takeR; rw [if_neg c6, if_neg c7]
                    rw [feedN_step hne hf2 (by dsimp only; rw [hf1, ht])] at hq
                    dsimp only at hq
                    rw [hf1, ht] at hq
                    have HQ2 := Lib.hid hq
                    clear hq hf2 hf1 ht
                    clear c6 c7
                    go_wp2_with fail
                    refine (HV.out _).mono ?_
                    rintro e w5 ⟨rfl, b1⟩
                    have FP5 := Lib.hid (FI.out.on b1)
                    clear b1
                    go_wp2_with fail
                    refine (HV2.out _).mono ?_
                    rintro e wb ⟨rfl, b1⟩
                    have FP := Lib.hid (FP5.out.on b1)
                    clear b1 FP5
                    obtain ⟨x0, x1, x2, x3, x4⟩ := bk5T FP.out.x
                    have xf := fun j => bk_frz FP.out.x j
                    go_wp2_with fail
                    go_roundg re.length
                    case measure => have := HKM.out; have := HKN.out; rw [HRL.out]; omega
                    case rel => exact ⟨E, re, fl, bg, bd, Af, Ab, nf, cf, nb, cb, by first | rfl | simp, rfl, (by rw [HRL.out]; omega), (by rw [HNB.out]; exact hnb2), Lib.hid HE.out.symm, HYR, Lib.hid (by rw [feedN_more (re.length + 1) L _ (Nat.lt_succ_self _) (by have := HKM.out; have := HKN.out; dsimp only; rw [HRL.out]; omega)]; exact HQ2.out), FP⟩
  · obtain ⟨rfl, rfl⟩ := Prod.mk.inj (hR.trans (if_pos rfl))
    clear hR l2
    go_enter Try.func7, Try.ntmps7
    go_upto_region 1 with fail
    try rw [hV0]
    clear hV0
    obtain ⟨x0, x1, x2, x3, x4⟩ := bk5T FF0.out.x
    have xf := fun j => bk_frz FF0.out.x j
    go_wp2_with (first | (refine wpList_store_blk rfl 25 (.tmp 8) _ rfl (W.heap.size + 1 + 1) FF0.out.z rfl rfl rfl (by kernel_rfl) (by simp [Value.oneCell']) ?_; intro W9 k9 gp) | (with_reducible show bodyPost _ _ _ _ _ _; obtain ⟨r0, r1', r2, r3, r4⟩ := bk5T k9; refine bodyPost_ret (by simp [results, Try.results7, go_sem, r0, r1', r2, r3, r4]; try rfl) rfl ?_; exact ⟨gr_from FF0.out.b FF0.out.b.size (Nat.le_succ_of_le (Nat.le_succ _)) gp, _, rfl, RdVal.zero _⟩))
end Go.Proofs.Ytpfahdogedchpaa
