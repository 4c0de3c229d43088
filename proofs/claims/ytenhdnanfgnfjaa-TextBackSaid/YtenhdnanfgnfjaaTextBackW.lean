/- The walk of TextBack. -/
import Derived.Test.YtenhdnanfgnfjaaPrefixBackW
import Derived.Test.YtenhdnanfgnfjaaPxTxt
import Derived.Test.YtenhdnanfgnfjaaPxRead
import Derived.Test.YtenhdnanfgnfjaaCut
import Derived.Test.YtenhdnanfgnfjaaMkRoom
namespace Go.Proofs.Ytenhdnanfgnfjaa
set_option linter.unusedVariables false
open Go.RowKit P

/-- what was written is read -/
theorem txt_back {w : Int} (hw : 1 ≤ w ∧ w ≤ 8) (t zs : List Int) (ht : t.length ≤ 120) (hb : Byt t) : pxTF 0 w t = 0 ∧ pxTR (pxTL 0 w t ++ zs) w = (t, ((pxTL 0 w t).length : Int), 0) ∧ (pxTL 0 w t).length ≤ 130 ∧ 0 < (pxTL 0 w t).length ∧ Byt (pxTL 0 w t) := by
  have hF : pxF 0 w t.length = 0 := by unfold pxF; rw [if_neg (by omega), if_neg (by simp)]
  have hl := pxL_len hF
  have hB := px_back hF (t ++ zs)
  have hby := pxL_byt' (by decide) (by decide) hF
  refine ⟨?_, ?_, ?_, ?_, ?_⟩
  · unfold pxTF; rw [if_neg (by omega), hF]
  · unfold pxTL
    rw [List.append_assoc]
    unfold pxTR
    rw [hB]
    simp only
    rw [if_neg (by simp), if_neg (by omega), if_neg (by simp only [List.length_append]; omega)]
    simp only [Int.toNat_natCast, List.length_append, Prod.mk.injEq, and_true]
    refine ⟨?_, by omega⟩
    rw [List.drop_left, List.take_left]
  · unfold pxTL; rw [List.length_append]; omega
  · unfold pxTL; rw [List.length_append]; omega
  · unfold pxTL; exact hby.append hb

set_option maxHeartbeats 1000000 in
theorem textBack_walk (wd : Int) (s : ByteArray) (A : Option Addr) (len cap : Nat) (z : List Int) (W : World) (hs : s.size ≤ 140737488351232) (h : InRow W A len cap z) (hreach : cap ≤ 140737488351232) :
    Calls Try.prog 6 #[.int .i64 wd, .string s, .slice A len cap] W fun e w' => e = .returned (.bool true) ∧ Below W.heap.size W w' := by
  obtain ⟨hb, hl, hc, hm⟩ := h.brow
  have hn : A = none → cap = 0 := fun e => by subst e; rcases h with ⟨_, _, e, _⟩ | ⟨x, e, _⟩ <;> first | exact e | cases e
  obtain ⟨zs, hz⟩ : ∃ zs, z.take len = zs := ⟨_, rfl⟩
  rw [hz] at hb hl
  obtain ⟨wi, hwi⟩ : ∃ wi, 1 + wd % 8 = wi := ⟨_, rfl⟩
  have hw : 1 ≤ wi ∧ wi ≤ 8 := by omega
  have PK := Lib.hid (fun w => picked_any wd 8 (by decide) (by decide) w)
  have PC := Lib.hid (fun w => cut_any s 120 (by decide) (by unfold maxLen; omega) w)
  have htl : ((numsOf s).take 120).length ≤ 120 := by rw [List.length_take]; omega
  have htb : Byt ((numsOf s).take 120) := (numsOf_byt s).take 120
  obtain ⟨t, ht⟩ : ∃ t, (numsOf s).take 120 = t := ⟨_, rfl⟩
  rw [ht] at PC htl htb
  obtain ⟨hF, hR, hX10, hX0, hXb⟩ := txt_back hw t zs htl htb
  have E1 := Lib.hid (fun w => pxText_any 0 wi t w htb (by omega) (by decide) (by decide) (by omega) (by omega))
  have E2 := Lib.hid (fun w => pxText_any 0 wi (List.replicate 121 0) w (fun j => by rw [List.getD_eq_getElem?_getD, List.getElem?_replicate]; split <;> simp) (by rw [List.length_replicate]; decide) (by decide) (by decide) (by omega) (by omega))
  unfold PxPost at E1 E2
  rw [hF] at E1
  rw [show pxTF 0 wi (List.replicate 121 0) = 1 from by unfold pxTF; rw [List.length_replicate]; rfl] at E2
  simp only [if_pos] at E1
  obtain ⟨X, hX⟩ : ∃ X, pxTL 0 wi t = X := ⟨_, rfl⟩
  rw [hX] at hR hX10 hX0 hXb E1
  have HDEC := Lib.hid hR
  obtain ⟨U, hU⟩ : ∃ U, strOfNums t = U := ⟨_, rfl⟩
  have HU := Lib.hid hU
  rw [hU] at PC E1
  obtain ⟨Z, hZ⟩ : ∃ Z, strOfNums (List.replicate 121 (0 : Int)) = Z := ⟨_, rfl⟩
  have HZS := Lib.hid hZ
  rw [hZ] at E2
  have HDc := Lib.hid (fun v b w hv hl => pxRead_any v b wi w hv hl (by omega) (by omega))
  obtain ⟨i0, hi0, hz0, hz1, hz2⟩ := info_parts infoB1
  have HI := Lib.hid hi0
  have HZ := Lib.hid hz0
  have HZ1 := Lib.hid hz1
  have HZ2 := Lib.hid hz2
  have HR := Lib.hid hb
  have HL := Lib.hid hl
  have HN := Lib.hid hn
  have HXB := Lib.hid hXb
  have HXL := Lib.hid (show (X ++ zs).length = X.length + len by rw [List.length_append, hl])
  clear h hz hX hF hXb hi0 hz0 hz1 hz2 hb hl hn hR hU hZ ht htl htb
  go_enter Try.func6, Try.ntmps6
  go_wp2_with fail
  refine (PK.out _).mono ?_
  rintro e w' ⟨rfl, rfl⟩
  go_wp2_with fail
  refine (PC.out _).mono ?_
  rintro e w' ⟨rfl, rfl⟩
  go_wp2_with fail
  refine (E1.out _).mono ?_
  rintro e w3 ⟨b3, d3, rfl, h3⟩
  have B3 := Lib.hid b3
  obtain ⟨A3, c3, rfl, hc3, hm3, hn3, hr3⟩ := h3.ex
  have HR3 := Lib.hid hr3
  have HN3 := Lib.hid hn3
  have O0 := Lib.hid (own0P w3)
  have R1 := Lib.hid (row0P hr3)
  clear b3 h3 hr3 hn3 E1
  go_wp2_with (first
    | (at_builtin
       refine wpList_app _ rfl (.tmp 28) (.tmp 29) _ rfl w3.heap.size 5 i0 Try.underlying22 HI.out HZ.out HZ1.out HZ2.out _ 0 [] rfl O0.out w3.heap.size A3 X.length c3 X rfl R1.out rfl HN3.out (by omega) (by simp) ?_
       intro v4 w4 own4 g4 at4
       simp only [Nat.zero_add, List.nil_append] at own4
       have B4 : Hid (Below w3.heap.size w3 w4) := Lib.hid (((Below.refl _ _).alloc (Nat.le_refl _) _).grown g4 (by simp) (fun k h => by cases h; exact Nat.le_refl _))
       have O4 := Lib.hid own4
       have sz4 : w3.heap.size + 1 ≤ w4.heap.size := by have := g4.size; simpa using this
       clear own4 g4 at4
       have R4 : Hid (BRow w4 W.heap.size A zs) := Lib.hid ((HR.out.below B3.out).below (B4.out.mono B3.out.size)))
    | (at_builtin
       refine wpList_app _ rfl (.tmp 30) (.tmp 31) _ rfl w3.heap.size 5 i0 Try.underlying22 HI.out HZ.out HZ1.out HZ2.out v4 X.length _ rfl O4.out W.heap.size A len cap zs rfl R4.out HL.out HN.out (by omega) (by omega) ?_
       intro v5 w5 own5 g5 at5
       have O5 := Lib.hid own5
       have G5 := Lib.hid g5
       clear own5 g5 at5))
  have B5 : Hid (Below w3.heap.size w4 w5) := Lib.hid ((Below.refl _ _).grown G5.out (by have := B4.out.size; omega) (fun k hk => (O4.out.lt k hk).1))
  have O6 := O5.out
  rw [← List.map_append] at O6
  have V5 := own_bsl O6 (Byt.append HXB.out HR.out.1)
  have b45 := B4.out.trans B5.out
  have B6 := Lib.hid (B3.out.trans (b45.mono B3.out.size))
  clear O6 O5 G5 b45 O4 R4 R1 O0
  refine (HDc.out v5 (X ++ zs) _ V5 (by have := HXL.out; omega)).mono ?_
  rintro e w7 ⟨rfl, rfl⟩
  rw [HDEC.out]
  unfold pxTV
  rw [HU.out]
  clear V5
  go_wp2_with (first
    | (at_make
       refine wpList_make_room _ rfl _ _ _ rfl W.heap.size 5 i0 _ Try.underlying22 HI.out HZ.out HZ1.out rfl _ _ _ _ 121 121 rfl rfl (by omega) (by omega) (by omega) (by rw [HZ2.out]; omega) (by unfold maxLen; omega) B6.out.size ?_
       intro w8 own8 g8
       have B8 := Lib.hid (B6.out.grown g8 B6.out.size (fun _ h => by cases h))
       have O8 : w8.ownsRow W.heap.size 5 1 (.slice (some ⟨w5.heap.size, 0, none⟩) 121 121) 121 ((List.replicate 121 (0 : Int)).map (.int .u8)) := by rw [List.map_replicate]; exact own8
       have R8 := own_brow O8 (fun j => by rw [List.getD_eq_getElem?_getD, List.getElem?_replicate]; split <;> simp)
       have hcv := run_str (P := Try.prog) R8 (List.length_replicate) 22 9 5 121 Try.underlying22 Try.underlying5 Try.underlying9
       rw [HZS.out] at hcv
       clear own8 g8 O8 R8))
  refine (E2.out _).mono ?_
  rintro e w9 ⟨b9, d9, rfl, _⟩
  have B9 := Lib.hid (B8.out.trans (b9.mono B8.out.size))
  clear b9
  go_wp2_with fail
  go_ret
  exact ⟨by first | rfl | simp, B9.out⟩
end Go.Proofs.Ytenhdnanfgnfjaa
