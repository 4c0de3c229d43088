/- Contract of the project's lock.Open. -/
import Derived.Test.YtlmckklgmijapaaLkSeal
import Derived.Test.YtlmckklgmijapaaBEqual
import Derived.Test.YtlmckklgmijapaaRegInv
namespace Go.Proofs.Ytlmckklgmijapaa
set_option linter.unusedVariables false
open Go.RowKit P

theorem openL_tag (key : Nat) (n : Int) (hd zs : List Int) (hb : Byt zs) (hl : 8 ≤ zs.length) (T : List Int) (hT : turnL (startN key n) 0 (zs.take (zs.length - 8)) = T) :
    openL key n hd zs = if decide (lowB 8 (tagN key n hd T : Nat) = zs.drop (zs.length - 8)) then .ok T else .error 10 := by
  unfold openL
  rw [if_neg (by omega), hT, sealL, ← hT, turn_twice _ _ _ (hb.take _), hT]
  have e : (List.take (zs.length - 8) zs ++ lowB 8 (tagN key n hd T : Nat) = zs) ↔ lowB 8 (tagN key n hd T : Nat) = zs.drop (zs.length - 8) := by
    constructor
    · intro h
      have := congrArg (List.drop (zs.length - 8)) h
      rw [List.drop_append, List.drop_eq_nil_of_le (by rw [List.length_take]; omega)] at this
      rw [List.length_take, Nat.min_eq_left (by omega), Nat.sub_self, List.drop_zero, List.nil_append] at this
      exact this
    · intro h
      rw [h, List.take_append_drop]
  by_cases h : lowB 8 (tagN key n hd T : Nat) = zs.drop (zs.length - 8)
  · rw [if_pos (e.2 h), decide_eq_true h, if_pos rfl]
  · rw [if_neg (fun h' => h (e.1 h')), decide_eq_false h, if_neg (by simp)]

/-- two parts stand in a row -/
def TwoAt (w : World) (hd tx : List Int) (x : Value) : Prop := ∃ g, x = .slice (some ⟨g, 0, none⟩) [hd, tx].length 2 ∧ (∀ k, k < [hd, tx].length → ∃ A c, w.cell? ⟨g, k, none⟩ = some (.slice A (([hd, tx].getD k []).length) c) ∧ BRow w w.heap.size A ([hd, tx].getD k []) ∧ ([hd, tx].getD k []).length ≤ 140737488351240) ∧ g < w.heap.size
theorem TwoAt.on {w w' : World} {hd tx : List Int} {x : Value} (h : TwoAt w hd tx x) (hb : Below w.heap.size w w') : TwoAt w' hd tx x := by
  obtain ⟨g, e, hL, hg⟩ := h
  refine ⟨g, e, fun k hk => ?_, Nat.lt_of_lt_of_le hg hb.size⟩
  obtain ⟨A, c, h1, h2, h3⟩ := hL k hk
  exact ⟨A, c, (hb.cell (p := ⟨g, k, none⟩) hg).trans h1, (h2.below hb).more hb.size, h3⟩
theorem two_at {w : World} {A1 A2 : Option Addr} {c1 c2 : Nat} {hd tx : List Int} (t : TypeId) (h1 : BRow w w.heap.size A1 hd) (h2 : BRow w w.heap.size A2 tx) (l1 : hd.length ≤ 140737488351240) (l2 : tx.length ≤ 140737488351240) :
    TwoAt (w.alloc (.cells #[.slice A1 hd.length c1, .slice A2 tx.length c2] t)) hd tx (.slice (some ⟨w.heap.size, 0, none⟩) 2 2) :=
  ⟨_, rfl, two_parts t h1 h2 l1 l2, by simp⟩
structure OpnInv (w0 : World) (hd T G : List Int) (V0 V1 V2 V3 V6 V7 V8 V9 V10 : Value) (b0 b1 b2 b3 b4 b5 b6 b7 b8 b9 b10 : Bool) (x0 x1 x2 x3 x4 x5 x6 x7 x8 x9 x10 : Value) (w : World) : Prop where
  be : Below w0.heap.size w0 w
  h0 : b0 = true → x0 = V0
  h1 : b1 = true → x1 = V1
  h2 : b2 = true → x2 = V2
  h3 : b3 = true → x3 = V3
  h4 : b4 = true → TwoAt w hd T x4
  h5 : b5 = true → BSl w w.heap.size x5 G
  h6 : b6 = true → x6 = V6
  h7 : b7 = true → x7 = V7
  h8 : b8 = true → x8 = V8
  h9 : b9 = true → x9 = V9
  h10 : b10 = true → x10 = V10
set_option maxHeartbeats 400000 in
theorem open_any : OpenDoes Try.prog 15 := by
  intro key n v1 v2 hd zs w hk hv1 l1 hv2 l2
  obtain ⟨A1, c1, rfl, hc1, hm1, hn1, hr1⟩ := hv1.ex
  obtain ⟨A2, c2, rfl, hc2, hm2, hn2, hr2⟩ := hv2.ex
  by_cases hs : zs.length < 8
  · have hop := Lib.hid (show openL key n hd zs = .error 4 by unfold openL; rw [if_pos hs])
    clear hr1 hr2 hv1 hv2
    go_enter Try.func15, Try.ntmps15
    go_wp2
    go_ret2
    unfold LkOpen
    rw [hop.out]
    exact ⟨Below.refl _ _, _, rfl, BSl.nil _ _⟩
  · obtain ⟨m, hm⟩ : ∃ m, zs.length = m + 8 := ⟨zs.length - 8, by omega⟩
    obtain ⟨b, off, rfl, hb, hcell⟩ := hr2.2 (by omega)
    have hbt := hr2.1
    have hbody : BSl w w.heap.size (.slice (some ⟨b, off, none⟩) m c2) (zs.take m) := ⟨_, _, by rw [List.length_take, hm, Nat.min_eq_left (by omega)], by rw [List.length_take]; omega, hm2, (fun e => by cases e), hr2.take m⟩
    have HT := Lib.hid (turn_any key hk n _ (zs.take m) w hbody (by rw [List.length_take]; omega))
    rw [List.length_take, hm, Nat.min_eq_left (by omega)] at HT
    obtain ⟨T, hT⟩ : ∃ T, turnL (startN key n) 0 (zs.take m) = T := ⟨_, rfl⟩
    have hop := openL_tag key n hd zs hbt (by omega) T (by rw [hm, Nat.add_sub_cancel]; exact hT)
    rw [hm, Nat.add_sub_cancel] at hop
    have hTl : T.length = m := by rw [← hT, turnL_len, List.length_take]; omega
    have hTb : Byt T := by rw [← hT]; exact turn_byt _ _ _ (hbt.take m)
    rw [hT] at HT
    have HTG := Lib.hid (fun g cap w hL hg => tag_any key hk n [hd, T] g cap w hL hg)
    rw [tagN_two] at HTG
    have HGB := Lib.hid (lowB_byt 8 (tagN key n hd T : Nat))
    have HGN := Lib.hid (lowB_len 8 (tagN key n hd T : Nat))
    obtain ⟨G, hG⟩ : ∃ G, lowB 8 (tagN key n hd T : Nat) = G := ⟨_, rfl⟩
    rw [hG] at HTG hop HGB HGN
    have hend : BSl w w.heap.size (.slice (some ⟨b, off + m, none⟩) 8 (c2 - m)) (zs.drop m) := ⟨_, _, by rw [List.length_drop, hm]; congr 1; omega, by rw [List.length_drop]; omega, by unfold maxLen at *; omega, (fun e => by cases e), hbt.drop m, fun _ => ⟨b, off + m, rfl, hb, fun j hj => by
      rw [List.length_drop] at hj
      rw [getD_drop, Nat.add_assoc]
      exact hcell (m + j) (by omega)⟩⟩
    have HEND := Lib.hid hend
    have HTB := Lib.hid hTb
    have HRR1 := Lib.hid hr1
    have lT : T.length ≤ 140737488351240 := by omega
    clear hTl
    have HV1 := Lib.hid hv1
    have HC1 := Lib.hid hc1
    have h1 : IntKind.i64.wrap (((m + 8 : Nat) : Int) - 8) = (m : Int) := by rw [IntKind.wrap_i64]; omega
    have h2 : ¬ (((m + 8 : Nat) : Int) < 8) := by omega
    rw [hm] at hc2
    obtain ⟨Z, hZ⟩ : ∃ Z, zs.drop m = Z := ⟨_, rfl⟩
    rw [hZ] at HEND
    rw [hZ] at hop
    have HOP := Lib.hid hop
    clear hop hG hT hZ hend hbody hr1 hr2 hv1 hv2 hcell hbt hb hTb hk
    have HMM1 := Lib.hid hm1
    rw [hm]
    go_enter Try.func15, Try.ntmps15
    go_wp2_with fail
    refine HT.out.mono ?_
    rintro e w1 ⟨b1, d, rfl, o1⟩
    have B1 := Lib.hid b1
    have D1 := Lib.hid (show BSl w1 w1.heap.size d T from own_bsl o1 HTB.out)
    clear b1 o1
    go_wp2_with fail
    obtain ⟨A3, c3, rfl, hc3, hm3, hn3, hr3⟩ := D1.out.ex
    have RA1 := Lib.hid ((HRR1.out.below B1.out).more B1.out.size)
    have RA3 := Lib.hid hr3
    clear hr3
    -- the drawn region
    refine wp_region_inv (fun listed a w => ∃ (b0 b1 b2 b3 b4 b5 b6 b7 b8 b9 b10 : Bool) (x0 x1 x2 x3 x4 x5 x6 x7 x8 x9 x10 : Value), listed = #[b0, b1, b2, b3, b4, b5, b6, b7, b8, b9, b10] ∧ a = { tmps := #[.int .u64 key, .int .i64 n, .slice A1 hd.length c1, .slice (some ⟨b, off, none⟩) (m + 8) c2, undef, undef, undef, undef, .slice none 0 0, .int .i64 0, .int .i64 m, .slice A3 T.length c3, .slice (some ⟨b, off, none⟩) (m + 8) c2, .int .i64 ((m : Int) + 8), .bool (decide ((m : Int) + 8 < 8)), .slice (some ⟨b, off, none⟩) (m + 8) c2, .int .i64 ((m : Int) + 8), .int .i64 m, .int .u64 key, .int .i64 n, .slice (some ⟨b, off, none⟩) (m + 8) c2, .int .i64 m, .slice (some ⟨b, off, none⟩) m c2, .slice A3 T.length c3, x0, x1, x2, x3, x4, x5, x6, x7, x8, x9, x10, undef], defers := [] } ∧ OpnInv w1 hd T G (.int .u64 key) (.int .i64 n) (.slice A1 hd.length c1) (.slice A3 T.length c3) (.slice (some ⟨b, off, none⟩) (m + 8) c2) (.int .i64 m) (.slice (some ⟨b, off + m, none⟩) 8 (c2 - m)) (.bool (decide (G = Z))) (.bool (!decide (G = Z))) b0 b1 b2 b3 b4 b5 b6 b7 b8 b9 b10 x0 x1 x2 x3 x4 x5 x6 x7 x8 x9 x10 w) (by kernel_rfl) ?h0 ?hfin ?hI
    case h0 => exact ⟨_, _, _, _, _, _, _, _, _, _, _, _, _, _, _, _, _, _, _, _, _, _, rfl, rfl, ⟨(Below.refl _ _).drew, (fun h => by cases h), (fun h => by cases h), (fun h => by cases h), (fun h => by cases h), (fun h => by cases h), (fun h => by cases h), (fun h => by cases h), (fun h => by cases h), (fun h => by cases h), (fun h => by cases h), (fun h => by cases h)⟩⟩
    case hI =>
      rintro listed a w ⟨b0, b1, b2, b3, b4, b5, b6, b7, b8, b9, b10, x0, x1, x2, x3, x4, x5, x6, x7, x8, x9, x10, rfl, rfl, H⟩ i hi
      obtain ⟨hun, oj, hoj, hall⟩ := mem_ready.1 hi
      clear hi
      rcases i with _ | _ | _ | _ | _ | _ | _ | _ | _ | _ | _ | i
      · have ho := hoj
        simp only [List.getElem?_toArray, List.getElem?_cons_succ, List.getElem?_cons_zero, Option.some.injEq] at hoj
        subst hoj
        obtain rfl : b0 = false := hun
        clear hall
        refine wpOp_step ho (fun K' hK => ?_)
        have HK := Lib.hid hK
        clear hK ho
        go_simp
        exact HK.out _ _ ⟨_, _, _, _, _, _, _, _, _, _, _, _, _, _, _, _, _, _, _, _, _, _, rfl, rfl, ⟨H.be, (fun _ => rfl), H.h1, H.h2, H.h3, H.h4, H.h5, H.h6, H.h7, H.h8, H.h9, H.h10⟩⟩
      · have ho := hoj
        simp only [List.getElem?_toArray, List.getElem?_cons_succ, List.getElem?_cons_zero, Option.some.injEq] at hoj
        subst hoj
        obtain rfl : b1 = false := hun
        clear hall
        refine wpOp_step ho (fun K' hK => ?_)
        have HK := Lib.hid hK
        clear hK ho
        go_simp
        exact HK.out _ _ ⟨_, _, _, _, _, _, _, _, _, _, _, _, _, _, _, _, _, _, _, _, _, _, rfl, rfl, ⟨H.be, H.h0, (fun _ => rfl), H.h2, H.h3, H.h4, H.h5, H.h6, H.h7, H.h8, H.h9, H.h10⟩⟩
      · have ho := hoj
        simp only [List.getElem?_toArray, List.getElem?_cons_succ, List.getElem?_cons_zero, Option.some.injEq] at hoj
        subst hoj
        obtain rfl : b2 = false := hun
        clear hall
        refine wpOp_step ho (fun K' hK => ?_)
        have HK := Lib.hid hK
        clear hK ho
        go_simp
        exact HK.out _ _ ⟨_, _, _, _, _, _, _, _, _, _, _, _, _, _, _, _, _, _, _, _, _, _, rfl, rfl, ⟨H.be, H.h0, H.h1, (fun _ => rfl), H.h3, H.h4, H.h5, H.h6, H.h7, H.h8, H.h9, H.h10⟩⟩
      · have ho := hoj
        simp only [List.getElem?_toArray, List.getElem?_cons_succ, List.getElem?_cons_zero, Option.some.injEq] at hoj
        subst hoj
        obtain rfl : b3 = false := hun
        clear hall
        refine wpOp_step ho (fun K' hK => ?_)
        have HK := Lib.hid hK
        clear hK ho
        go_simp
        exact HK.out _ _ ⟨_, _, _, _, _, _, _, _, _, _, _, _, _, _, _, _, _, _, _, _, _, _, rfl, rfl, ⟨H.be, H.h0, H.h1, H.h2, (fun _ => rfl), H.h4, H.h5, H.h6, H.h7, H.h8, H.h9, H.h10⟩⟩
      · have ho := hoj
        simp only [List.getElem?_toArray, List.getElem?_cons_succ, List.getElem?_cons_zero, Option.some.injEq] at hoj
        subst hoj
        obtain rfl : b4 = false := hun
        obtain rfl : b2 = true := hall ⟨2, .data⟩ (by simp) (by kernel_rfl)
        obtain rfl := H.h2 rfl
        obtain rfl : b3 = true := hall ⟨3, .data⟩ (by simp) (by kernel_rfl)
        obtain rfl := H.h3 rfl
        clear hall
        have BA := Lib.hid ((Below.refl w.heap.size w).alloc (Nat.le_refl _) (.cells #[.slice A1 hd.length c1, .slice A3 T.length c3] 26))
        have TT := Lib.hid (two_at (c1 := c1) (c2 := c3) 26 ((RA1.out.below H.be).more H.be.size) ((RA3.out.below H.be).more H.be.size) l1 lT)
        refine wpOp_step ho (fun K' hK => ?_)
        have HK := Lib.hid hK
        clear hK ho
        go_simp
        exact HK.out _ _ ⟨_, _, _, _, _, _, _, _, _, _, _, _, _, _, _, _, _, _, _, _, _, _, rfl, rfl, ⟨H.be.trans (BA.out.mono H.be.size), H.h0, H.h1, H.h2, H.h3, (fun _ => TT.out), (fun e => (H.h5 e).on BA.out), H.h6, H.h7, H.h8, H.h9, H.h10⟩⟩
      · have ho := hoj
        simp only [List.getElem?_toArray, List.getElem?_cons_succ, List.getElem?_cons_zero, Option.some.injEq] at hoj
        subst hoj
        obtain rfl : b5 = false := hun
        obtain rfl : b0 = true := hall ⟨0, .data⟩ (by simp) (by kernel_rfl)
        obtain rfl := H.h0 rfl
        obtain rfl : b1 = true := hall ⟨1, .data⟩ (by simp) (by kernel_rfl)
        obtain rfl := H.h1 rfl
        obtain rfl : b4 = true := hall ⟨4, .data⟩ (by simp) (by kernel_rfl)
        have P4 := H.h4 rfl
        clear hall
        obtain ⟨g, e4, hL, hg⟩ := P4
        subst e4
        have HL := Lib.hid hL
        clear hL
        refine wpOp_step ho (fun K' hK => ?_)
        have HK := Lib.hid hK
        clear hK ho
        go_wp2_with (go_at_call 20; refine (HTG.out g 2 _ HL.out hg (by simp) (by unfold maxLen; simp) (by simp)).mono ?_; rintro e w4 ⟨b4, d4, rfl, o4⟩; have BB4 := Lib.hid b4; have DD4 := Lib.hid (own_bsl o4 HGB.out); clear b4 o4)
        exact HK.out _ _ ⟨_, _, _, _, _, _, _, _, _, _, _, _, _, _, _, _, _, _, _, _, _, _, rfl, rfl, ⟨H.be.trans (BB4.out.mono H.be.size), H.h0, H.h1, H.h2, H.h3, (fun e => (H.h4 e).on BB4.out), (fun _ => DD4.out), H.h6, H.h7, H.h8, H.h9, H.h10⟩⟩
      · have ho := hoj
        simp only [List.getElem?_toArray, List.getElem?_cons_succ, List.getElem?_cons_zero, Option.some.injEq] at hoj
        subst hoj
        obtain rfl : b6 = false := hun
        clear hall
        refine wpOp_step ho (fun K' hK => ?_)
        have HK := Lib.hid hK
        clear hK ho
        go_simp
        exact HK.out _ _ ⟨_, _, _, _, _, _, _, _, _, _, _, _, _, _, _, _, _, _, _, _, _, _, rfl, rfl, ⟨H.be, H.h0, H.h1, H.h2, H.h3, H.h4, H.h5, (fun _ => rfl), H.h7, H.h8, H.h9, H.h10⟩⟩
      · have ho := hoj
        simp only [List.getElem?_toArray, List.getElem?_cons_succ, List.getElem?_cons_zero, Option.some.injEq] at hoj
        subst hoj
        obtain rfl : b7 = false := hun
        clear hall
        refine wpOp_step ho (fun K' hK => ?_)
        have HK := Lib.hid hK
        clear hK ho
        go_simp
        exact HK.out _ _ ⟨_, _, _, _, _, _, _, _, _, _, _, _, _, _, _, _, _, _, _, _, _, _, rfl, rfl, ⟨H.be, H.h0, H.h1, H.h2, H.h3, H.h4, H.h5, H.h6, (fun _ => rfl), H.h8, H.h9, H.h10⟩⟩
      · have ho := hoj
        simp only [List.getElem?_toArray, List.getElem?_cons_succ, List.getElem?_cons_zero, Option.some.injEq] at hoj
        subst hoj
        obtain rfl : b8 = false := hun
        obtain rfl : b6 = true := hall ⟨6, .data⟩ (by simp) (by kernel_rfl)
        obtain rfl := H.h6 rfl
        obtain rfl : b7 = true := hall ⟨7, .data⟩ (by simp) (by kernel_rfl)
        obtain rfl := H.h7 rfl
        clear hall
        refine wpOp_step ho (fun K' hK => ?_)
        have HK := Lib.hid hK
        clear hK ho
        go_wp2
        exact HK.out _ _ ⟨_, _, _, _, _, _, _, _, _, _, _, _, _, _, _, _, _, _, _, _, _, _, rfl, rfl, ⟨H.be, H.h0, H.h1, H.h2, H.h3, H.h4, H.h5, H.h6, H.h7, (fun _ => rfl), H.h9, H.h10⟩⟩
      · have ho := hoj
        simp only [List.getElem?_toArray, List.getElem?_cons_succ, List.getElem?_cons_zero, Option.some.injEq] at hoj
        subst hoj
        obtain rfl : b9 = false := hun
        obtain rfl : b5 = true := hall ⟨5, .data⟩ (by simp) (by kernel_rfl)
        have P5 := H.h5 rfl
        obtain rfl : b8 = true := hall ⟨8, .data⟩ (by simp) (by kernel_rfl)
        obtain rfl := H.h8 rfl
        clear hall
        have E2 := Lib.hid (HEND.out.on (B1.out.trans (H.be.mono B1.out.size)))
        have E1 := Lib.hid P5
        refine wpOp_step ho (fun K' hK => ?_)
        have HK := Lib.hid hK
        clear hK ho
        go_wp2_with (go_at_call 23; refine (bequal_any _ _ _ _ _ E1.out E2.out).mono ?_; rintro e w5 ⟨rfl, rfl⟩)
        exact HK.out _ _ ⟨_, _, _, _, _, _, _, _, _, _, _, _, _, _, _, _, _, _, _, _, _, _, rfl, rfl, ⟨H.be, H.h0, H.h1, H.h2, H.h3, H.h4, H.h5, H.h6, H.h7, H.h8, (fun _ => rfl), H.h10⟩⟩
      · have ho := hoj
        simp only [List.getElem?_toArray, List.getElem?_cons_succ, List.getElem?_cons_zero, Option.some.injEq] at hoj
        subst hoj
        obtain rfl : b10 = false := hun
        obtain rfl : b9 = true := hall ⟨9, .data⟩ (by simp) (by kernel_rfl)
        obtain rfl := H.h9 rfl
        clear hall
        refine wpOp_step ho (fun K' hK => ?_)
        have HK := Lib.hid hK
        clear hK ho
        go_simp
        exact HK.out _ _ ⟨_, _, _, _, _, _, _, _, _, _, _, _, _, _, _, _, _, _, _, _, _, _, rfl, rfl, ⟨H.be, H.h0, H.h1, H.h2, H.h3, H.h4, H.h5, H.h6, H.h7, H.h8, H.h9, (fun _ => rfl)⟩⟩
      · have ho := hoj
        simp at ho
    case hfin =>
      rintro listed a w ⟨b0, b1, b2, b3, b4, b5, b6, b7, b8, b9, b10, x0, x1, x2, x3, x4, x5, x6, x7, x8, x9, x10, rfl, rfl, H⟩ hr
      have hb : b10 = true := by
        clear H
        revert b0 b1 b2 b3 b4 b5 b6 b7 b8 b9 b10
        decide +kernel
      subst hb
      clear hr
      obtain rfl := H.h10 rfl
      have BW := Lib.hid (B1.out.trans (H.be.mono B1.out.size))
      have BD := Lib.hid (D1.out.on H.be)
      by_cases hGZ : G = Z
      · rw [decide_eq_true hGZ]
        go_wp2
        go_ret2
        unfold LkOpen
        rw [HOP.out, decide_eq_true hGZ, if_pos rfl]
        exact ⟨BW.out, _, rfl, BD.out⟩
      · rw [decide_eq_false hGZ]
        go_wp2
        go_ret2
        unfold LkOpen
        rw [HOP.out, decide_eq_false hGZ, if_neg (by simp)]
        exact ⟨BW.out, _, rfl, BSl.nil _ _⟩
end Go.Proofs.Ytlmckklgmijapaa
