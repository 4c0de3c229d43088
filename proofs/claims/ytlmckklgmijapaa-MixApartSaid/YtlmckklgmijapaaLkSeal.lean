/- Contract of the project's lock.Seal. -/
import Derived.Test.YtlmckklgmijapaaLkTag
import Derived.Test.YtlmckklgmijapaaLockBackC
namespace Go.Proofs.Ytlmckklgmijapaa
set_option linter.unusedVariables false
open Go.RowKit P

theorem tagN_two (key : Nat) (n : Int) (hd tx : List Int) : [hd, tx].foldl tagP (wd n ^^^ mx key) = tagN key n hd tx := by
  rw [List.foldl_cons, List.foldl_cons, List.foldl_nil, tagN]
/-- two parts in a row of their own -/
theorem two_parts {w : World} {A1 A2 : Option Addr} {c1 c2 : Nat} {hd tx : List Int} (t : TypeId) (h1 : BRow w w.heap.size A1 hd) (h2 : BRow w w.heap.size A2 tx) (l1 : hd.length ≤ 140737488351240) (l2 : tx.length ≤ 140737488351240) :
    ∀ k, k < [hd, tx].length → ∃ A c, (w.alloc (.cells #[.slice A1 hd.length c1, .slice A2 tx.length c2] t)).cell? ⟨w.heap.size, k, none⟩ = some (.slice A (([hd, tx].getD k []).length) c) ∧ BRow (w.alloc (.cells #[.slice A1 hd.length c1, .slice A2 tx.length c2] t)) (w.alloc (.cells #[.slice A1 hd.length c1, .slice A2 tx.length c2] t)).heap.size A ([hd, tx].getD k []) ∧ ([hd, tx].getD k []).length ≤ 140737488351240 := by
  intro k hk
  have hb : Below w.heap.size w (w.alloc (.cells #[.slice A1 hd.length c1, .slice A2 tx.length c2] t)) := (Below.refl _ _).alloc (Nat.le_refl _) _
  have hs : w.heap.size ≤ (w.alloc (.cells #[.slice A1 hd.length c1, .slice A2 tx.length c2] t)).heap.size := hb.size
  rcases k with _ | _ | k
  · exact ⟨A1, c1, by simp, (h1.below hb).more hs, l1⟩
  · exact ⟨A2, c2, by simp, (h2.below hb).more hs, l2⟩
  · simp at hk; omega

set_option maxHeartbeats 400000 in
theorem seal_any : SealDoes Try.prog 13 5 := by
  intro key n v1 v2 hd tx w hk hv1 l1 hv2 l2
  obtain ⟨A1, c1, rfl, hc1, hm1, hn1, hr1⟩ := hv1.ex
  have HT := Lib.hid (turn_any key hk n v2 tx w hv2 l2)
  obtain ⟨A2, c2, rfl, hc2, hm2, hn2, hr2⟩ := hv2.ex
  have htl := turnL_len (startN key n) tx 0
  have HTG := Lib.hid (fun g cap w hL hg => tag_any key hk n [hd, tx] g cap w hL hg)
  rw [tagN_two] at HTG
  have HSE := Lib.hid (show sealL key n hd tx = turnL (startN key n) 0 tx ++ lowB 8 (tagN key n hd tx : Nat) by rw [sealL])
  obtain ⟨T, hT⟩ : ∃ T, turnL (startN key n) 0 tx = T := ⟨_, rfl⟩
  rw [hT] at HT HSE htl
  have HZL := Lib.hid (lowB_byt 8 (tagN key n hd tx : Nat))
  have HZN := Lib.hid (lowB_len 8 (tagN key n hd tx : Nat))
  obtain ⟨G, hG⟩ : ∃ G, lowB 8 (tagN key n hd tx : Nat) = G := ⟨_, rfl⟩
  rw [hG] at HTG HSE HZL HZN
  have HSL := Lib.hid (show (sealL key n hd tx).length = tx.length + 8 by rw [HSE.out, List.length_append, HZN.out, htl])
  obtain ⟨X, hX⟩ : ∃ X, sealL key n hd tx = X := ⟨_, rfl⟩
  rw [hX] at HSE HSL ⊢
  have HR1 := Lib.hid hr1
  have HR2 := Lib.hid hr2
  have HC1 := Lib.hid hc1
  have HC2 := Lib.hid hc2
  have HM1 := Lib.hid hm1
  have HM2 := Lib.hid hm2
  obtain ⟨i0, hi0, hz0, hz1, hz2⟩ := info_parts infoB1
  have HI := Lib.hid hi0
  have HZ := Lib.hid hz0
  have HZ1 := Lib.hid hz1
  have HZ2 := Lib.hid hz2
  clear hX hG hT htl hr1 hr2 hc1 hc2 hm1 hm2 hn1 hn2 hk hi0 hz0 hz1 hz2 hv1 hv2
  go_enter Try.func13, Try.ntmps13
  go_wp2_with fail
  refine HT.out.mono ?_
  rintro e w1 ⟨b1, d, rfl, o1⟩
  have B1 := Lib.hid b1
  have O1 := Lib.hid o1
  have HP := Lib.hid (two_parts (c1 := c1) (c2 := c2) 26 ((HR1.out.below b1).more b1.size) ((HR2.out.below b1).more b1.size) l1 l2)
  clear b1 o1
  go_wp2_with fail
  refine (HTG.out w1.heap.size 2 _ HP.out (by simp) (by simp) (by unfold maxLen; simp) (by simp)).mono ?_
  rintro e w2 ⟨b2, d2, rfl, o2⟩
  have ba : Below w1.heap.size w1 (w1.alloc (.cells #[.slice A1 hd.length c1, .slice A2 tx.length c2] 26)) := (Below.refl _ _).alloc (Nat.le_refl _) _
  have B2a := Lib.hid (B1.out.trans (ba.mono B1.out.size))
  have B2 := Lib.hid (B2a.out.trans (b2.mono B2a.out.size))
  have OT := Lib.hid (own_below O1.out (ba.trans (b2.mono ba.size)))
  obtain ⟨A3, c3, rfl, hc3, hm3⟩ := own_slice o2
  have HB3 := Lib.hid (show BRow w2 w2.heap.size A3 G from own_brow o2 HZL.out)
  have HN3 : Hid (A3 = none → c3 = 0) := Lib.hid (fun e => by
    subst e
    rcases o2.2 with ⟨e, _⟩ | ⟨g, cap, cur, e, _⟩
    · injection e
    · injection e with e1; cases e1)
  clear ba b2 o2
  go_wp2_with (at_builtin
               refine wpList_app _ rfl (.tmp 12) (.tmp 18) _ rfl w.heap.size 5 i0 Try.underlying26 HI.out HZ.out HZ1.out HZ2.out d tx.length _ rfl OT.out w2.heap.size A3 8 c3 G rfl HB3.out HZN.out HN3.out (by omega) B2.out.size ?_
               intro v2 w3 own2 g2 hr2
               have O5 := Lib.hid own2
               have B5 := Lib.hid (B2.out.grown g2 B2.out.size (fun j hj => (World.ownsRow.lt OT.out j hj).1))
               clear own2 g2 hr2)
  go_ret
  exact ⟨B5.out, _, rfl, by have := O5.out; rw [HSL.out, HSE.out, List.map_append]; exact this⟩
end Go.Proofs.Ytlmckklgmijapaa
