/- RangesHoles' walk. -/
import Derived.Test.YtockfejaijdmjaaRngSet
import Derived.Test.YtockfejaijdmjaaRngHol
import Derived.Test.YtockfejaijdmjaaRngTell
import Derived.Test.YtockfejaijdmjaaOpen
import Derived.StillTailTactics
namespace Go.Proofs.Ytockfejaijdmjaa
set_option linter.unusedVariables false
open Go.RowKit P

theorem one_set' {w : World} {g : Nat} {u0 u1 v1 : Value} {t : TypeId} (h : w.heap[g]? = some (.cells #[u0, u1] t (0, 0))) :
    ((w.setCell ⟨g, 1, none⟩ v1).drew).heap[g]? = some (.cells #[u0, v1] t (0, 0)) := by
  show (w.setCell ⟨g, 1, none⟩ v1).heap[g]? = _
  simp [World.setCell, Array.getElem?_modify, h]

/-- a set, and the first k of other ranges -/
def HolesInv (C H S : List (Int × Int)) (k : Nat) : Prop := okL S ∧ ∀ m, mem S m ↔ mem C m ∨ mem (H.take k) m
theorem hi_step {C H S : List (Int × Int)} {k : Nat} {x : Int × Int} (h : HolesInv C H S k) (hk : k < H.length) (hx : H.getD k (0, 0) = x) (hr : okR x) : HolesInv C H (insR x S) (k + 1) := by
  have i := insL_ok h.1 hr
  refine ⟨i.1, fun m => ?_⟩
  rw [i.2 m, h.2 m, takeR_snoc H k hk, mem_app, hx]
  simp only [mem, or_false]
  constructor
  · rintro (c | c | c)
    · exact .inr (.inr c)
    · exact .inl c
    · exact .inr (.inl c)
  · rintro (c | c | c)
    · exact .inr (.inl c)
    · exact .inr (.inr c)
    · exact .inl c
/-- the ends of the next range are not there yet -/
theorem hi_not {C H S : List (Int × Int)} {k : Nat} {x : Int × Int} (h : HolesInv C H S k) (hk : k < H.length) (hx : H.getD k (0, 0) = x) (hH : okL H) (hd : ∀ m, mem H m → ¬ mem C m) {m : Int} (hm : inR x m) : ¬ mem S m := by
  intro c
  have hmH : mem H m := mem_of (by rw [← hx]; exact getR_mem H k hk) hm
  rcases (h.2 m).1 c with c | c
  · exact hd m hmH c
  · have ho := okFrom_take hH (k + 1)
    rw [takeR_snoc H k hk, okFrom_snoc, hx] at ho
    have hlast : ∀ {a : Int} {l : List (Int × Int)}, okFrom a l → mem l m → m ≤ lastHi a l := by
      intro a l
      induction l generalizing a with
      | nil => intro _ h; exact h.elim
      | cons y l ih =>
        intro h hm
        have e : lastHi a (y :: l) = lastHi y.2 l := rfl
        rw [e]
        rcases hm with hm | hm
        · have mono : ∀ {b : Int} {l : List (Int × Int)}, okFrom b l → b ≤ lastHi b l := by
            intro b l
            induction l generalizing b with
            | nil => intro _; exact Int.le_refl _
            | cons z l ih =>
              intro h
              have e : lastHi b (z :: l) = lastHi z.2 l := rfl
              rw [e]
              have := ih h.2.2
              have h1 := h.2.1
              have h2 := h.1.2.1
              omega
          have := mono h.2.2
          have := hm.2
          omega
        · exact ih h.2.2 hm
    have := hlast ho.1 c
    have h1 := ho.2.2
    have := hm.1
    omega
theorem holes_none {C H S : List (Int × Int)} {lo hi : Int} (hr : okR (lo, hi)) (hS : HolesInv C H S H.length) (hH : ∀ m, mem H m ↔ inR (lo, hi) m ∧ ¬ mem C m) : holesF hi lo S = [] := by
  have L := holesL_ok hS.1 hr
  refine ok_ext L.1 (m := []) (b := 0) trivial fun m => ?_
  rw [L.2 m, hS.2 m, List.take_length, hH m]
  simp only [mem, iff_false]
  rintro ⟨h1, h2⟩
  exact h2 (by by_cases c : mem C m <;> simp [c, h1])

set_option maxHeartbeats 3200000 in
theorem rangesHoles_walk (A : Option Addr) (len cap : Nat) (rs : List RawT) (a b n : Int) (w : World) (h : RawRow w w.heap.size A rs) (hl : rs.length = len) (hlc : len ≤ cap) (hcm : cap ≤ maxLen) :
    Calls Try.prog 8 #[.slice A len cap, .int .i64 a, .int .i64 b, .int .i64 n] w fun e w' => e = .returned (.bool true) ∧ Below w.heap.size w w' := by
  have HR := Lib.hid h
  have HL := Lib.hid hl
  obtain ⟨pa, hpa⟩ : ∃ x, a % 60 = x := ⟨_, rfl⟩
  obtain ⟨pb, hpb⟩ : ∃ x, b % 30 = x := ⟨_, rfl⟩
  obtain ⟨pk, hpk⟩ : ∃ x, n % 100 = x := ⟨_, rfl⟩
  have a0 : 0 ≤ pa := by omega
  have a1 : pa < 60 := by omega
  have b0 : 0 ≤ pb := by omega
  have b1 : pb < 30 := by omega
  have k0 : 0 ≤ pk := by omega
  have k1 : pk < 100 := by omega
  have HA := Lib.hid hpa
  have HB := Lib.hid hpb
  have HKK := Lib.hid hpk
  have HX := Lib.hid (show okR (pa, pa + pb) from ⟨a0, by simp only; omega, by simp only; omega⟩)
  clear h hl hpa hpb hpk
  go_enter Try.func8, Try.ntmps8
  go_wp2_with (first
    | (go_at_call 22; refine (set_any _ _ _ _ _ HR.out HL.out hlc hcm).mono ?_; rintro e w1 ⟨C, A0, c0, rfl, ok0, l20, l0, m0, r0, hb0⟩; have O0 := Lib.hid ok0; have R0 := Lib.hid r0; have M0 := Lib.hid m0; have H0 := Lib.hid hb0; clear ok0 r0 m0 hb0)
    | (go_at_call 23; refine (picked_any _ _ (by omega) (by omega) _).mono ?_; rintro e w' ⟨rfl, rfl⟩; simp only [HA.out, HB.out, HKK.out]))
  have hx : (w1.alloc (.cells #[.int .i64 pa, .int .i64 0] 29)).heap[w1.heap.size]? = some (.cells #[.int .i64 pa, .int .i64 0] 29 (0, 0)) := by show (w1.heap.push _)[w1.heap.size]? = _; simp
  have hb1 := (Below.refl w1.heap.size w1).alloc (Nat.le_refl _) (.cells #[.int .i64 pa, .int .i64 0] 29)
  generalize w1.alloc (.cells #[.int .i64 pa, .int .i64 0] 29) = W1 at hx hb1 ⊢
  have e0 := cell_of_row W1 w1.heap.size 0 _ _ _ hx
  have e1 := cell_of_row W1 w1.heap.size 1 _ _ _ hx
  simp at e0 e1
  have f1 := frozen_of_row hx 1
  have HX1 := Lib.hid hx
  have HB1 := Lib.hid hb1
  clear hx hb1
  go_still_tail 6, (by kernel_rfl)
  still_call ((picked_any _ _ (by omega) (by omega) _).mono fun e w' h => ⟨h.1, h.2.symm⟩)
  simp only [HB.out]
  repeat still_step
  refine wpStill_nil ?_
  change wpList _ _ _ _ _ W1.drew
  go_wp2_with fail
  have hx3 : (W1.setCell ⟨w1.heap.size, 1, none⟩ (.int .i64 (pa + pb))).drew.heap[w1.heap.size]? = some (.cells #[.int .i64 pa, .int .i64 (pa + pb)] 29 (0, 0)) := one_set' HX1.out
  have hb3 := (HB1.out.setCell (p := ⟨w1.heap.size, 1, none⟩) (Nat.le_refl _) (.int .i64 (pa + pb))).drew
  clear e0 e1 f1
  generalize (W1.setCell ⟨w1.heap.size, 1, none⟩ (.int .i64 (pa + pb))).drew = W3 at hx3 hb3 ⊢
  have e0 := cell_of_row W3 w1.heap.size 0 _ _ _ hx3
  have e1 := cell_of_row W3 w1.heap.size 1 _ _ _ hx3
  simp at e0 e1
  have z0 := World.block_lt_of_cell? W3 _ e0
  have HB3 := Lib.hid hb3
  have HW3 := Lib.hid (H0.out.trans (hb3.mono H0.out.size))
  clear hx3 hb3 HX1 HB1
  have hlh := holes_len (pa + pb) C pa
  have N0 := Lib.hid (holesL_ok O0.out HX.out)
  obtain ⟨H, hH⟩ : ∃ H, holesF (pa + pb) pa C = H := ⟨_, rfl⟩
  simp only at N0
  rw [hH] at hlh N0
  have HH := Lib.hid hH
  have ckh := Lib.hid (show ckV H = 0 from if_pos N0.out.1)
  clear hH
  go_wp2_with (first
    | (go_at_call 23; refine (picked_any _ _ (by omega) (by omega) _).mono ?_; rintro e w' ⟨rfl, rfl⟩; simp only [HKK.out])
    | (go_at_call 17
       refine (holes_any _ _ _ C _ _ _ (R0.out.on HB3.out) rfl O0.out HX.out (by omega)).mono ?_
       rintro e w4 ⟨A4, c4, rfl, l4, m4, r4, hb4⟩
       rw [HH.out] at l4 r4 ⊢
       have R4 := Lib.hid r4
       have HB4 := Lib.hid hb4
       have H4 := Lib.hid hb4.size
       have o0 := (hb4.cell z0).trans e0
       have o1 := (hb4.cell z0).trans e1
       clear hb4 r4 m4))
  have z4 := Nat.lt_of_lt_of_le z0 H4.out
  have q0 := Lib.hid o0
  have q1 := Lib.hid o1
  clear o0 o1 e0 e1
  go_loopg [9, 45] H.length (fun g v i wr => ∃ (k : Nat) (S : List (Int × Int)) (A' : Option Addr) (c : Nat), k + g = H.length ∧ i = .int .i64 k ∧ v = .slice A' S.length c ∧ S.length ≤ 20 + k ∧ S.length ≤ c ∧ Hid (c ≤ maxLen) ∧ Hid (HolesInv C H S k) ∧ Hid (RRow wr wr.heap.size A' S) ∧ Below w4.heap.size w4 wr)
  case atStart => exact ⟨0, C, A0, c0, by omega, rfl, rfl, by omega, l0, M0, ⟨O0.out, fun m => by simp [mem]⟩, R0.out.on (HB3.out.trans (HB4.out.mono HB3.out.size)), Below.refl _ _⟩
  case round =>
    obtain ⟨k, S, A', c, hk, rfl, rfl, hS, hSc, hcm0, HI, HC, hb⟩ := hrel
    have HB5 := Lib.hid hb
    have hbs := hb.size
    have OS := Lib.hid (show okL S from HI.out.1)
    clear hb
    by_cases hlt : k < H.length
    · obtain ⟨b', off, rfl, hbb, hc⟩ := (R4.out.below HB5.out) (by omega)
      obtain ⟨d0, d1⟩ := hc k hlt
      have xk := ok_get N0.out.1 k hlt
      obtain ⟨⟨xl, xh⟩, hq⟩ : ∃ p, H.getD k (0, 0) = p := ⟨_, rfl⟩
      rw [hq] at d0 d1 xk
      simp only at d0 d1
      have Hx := Lib.hid xk
      have nl := Lib.hid (show hasB S xl = false from decide_eq_false (hi_not HI.out hlt hq N0.out.1 (fun m hm => ((N0.out.2 m).1 hm).2) ⟨Int.le_refl _, xk.2.1⟩))
      have nh := Lib.hid (show hasB S xh = false from decide_eq_false (hi_not HI.out hlt hq N0.out.1 (fun m hm => ((N0.out.2 m).1 hm).2) ⟨xk.2.1, Int.le_refl _⟩))
      have st := Lib.hid (hi_step HI.out hlt hq xk)
      have il := Lib.hid (ins_len (xl, xh) S)
      have i1 : (k : Int) < (H.length : Int) := by omega
      have BX := Lib.hid ((Below.refl wr.heap.size wr).alloc (Nat.le_refl _) (.cells #[.int .i64 xl, .int .i64 xh] 29))
      clear hc hq xk
      go_wp2_with (first
        | (go_at_call 13
           refine (add_any _ _ _ S _ _ _ (HC.out.on BX.out) rfl OS.out Hx.out (by omega) hSc hcm0.out).mono ?_
           rintro e w5 ⟨A5, c5, rfl, l5, m5, r5, hb5⟩
           have x0 := (hb5.cell (p := ⟨wr.heap.size, 0, none⟩) (by simp)).trans (by simp : _ = some (.int .i64 xl))
           have x1 := (hb5.cell (p := ⟨wr.heap.size, 1, none⟩) (by simp)).trans (by simp : _ = some (.int .i64 xh))
           have zx := World.block_lt_of_cell? w5 _ x0
           have R5 := Lib.hid r5
           have M5 := Lib.hid m5
           have HB6 := Lib.hid (BX.out.trans (hb5.mono BX.out.size))
           clear hb5 r5 m5)
        | (go_at_call 25
           (with_reducible refine (khas_any _ _ _ S xh _ (HC.out.on (HB6.out.trans (HB7.out.mono HB6.out.size))) rfl OS.out (by omega)).mono ?_)
           rintro e w7 ⟨rfl, hb7⟩
           have HB8 := Lib.hid hb7
           clear hb7
           rw [nh.out])
        | (go_at_call 25
           (with_reducible refine (khas_any _ _ _ S xl _ (HC.out.on HB6.out) rfl OS.out (by omega)).mono ?_)
           rintro e w6 ⟨rfl, hb6⟩
           have x3 := (hb6.cell zx).trans x1
           have HB7 := Lib.hid hb6
           clear hb6
           rw [nl.out]))
      go_roundg (gk - 1)
      case measure => omega
      case rel => exact ⟨k + 1, _, A5, c5, by omega, by go_num, rfl, Nat.le_trans il.out (by omega), l5, M5, st.out, R5.out.on (bt HB7.out HB8.out), HB5.out.trans ((HB6.out.trans ((bt HB7.out HB8.out).mono HB6.out.size)).mono hbs)⟩
    · obtain rfl : k = H.length := by omega
      have hn := Lib.hid (holes_none HX.out HI.out (fun m => by rw [N0.out.2 m]))
      have p0 := (HB5.out.cell z4).trans q0.out
      have p1 := (HB5.out.cell z4).trans q1.out
      have zp := World.block_lt_of_cell? wr _ p0
      cases hbk : hasB H pk
      all_goals
        have Hbk := Lib.hid hbk
        have hin : hasB H pk = true → decide (pa ≤ pk) = true ∧ decide (pk ≤ pa + pb) = true := fun e => by
          have := ((N0.out.2 pk).1 (of_decide_eq_true e)).1
          exact ⟨decide_eq_true this.1, decide_eq_true this.2⟩
        rw [hbk] at hin
        simp only [forall_const, Bool.false_eq_true, false_imp_iff, true_imp_iff, decide_eq_true_eq] at hin
        clear hbk
        go_wp2_with (first
          | (go_at_call 17
             refine (holes_any _ _ _ S _ _ _ HC.out rfl OS.out HX.out (by omega)).mono ?_
             rintro e w6 ⟨A6, c6, rfl, l6, m6, r6, hb6⟩
             rw [hn.out]
             have HB6 := Lib.hid hb6
             have H6 := Lib.hid hb6.size
             have s0 := (hb6.cell zp).trans p0
             have s1 := (hb6.cell zp).trans p1
             clear hb6 r6 m6 l6)
          | (go_at_call 24
             refine (tell_any _).mono ?_
             rintro e w7 ⟨rfl, hb7⟩
             have HB7 := Lib.hid hb7
             have H7 := Lib.hid (Nat.le_trans H6.out hb7.size)
             have t0 := (hb7.cell (Nat.lt_of_lt_of_le zp H6.out)).trans s0
             have t1 := (hb7.cell (Nat.lt_of_lt_of_le zp H6.out)).trans s1
             clear hb7)
          | (go_at_call 9
             refine (check_any _ _ _ H _ (R4.out.on (HB5.out.trans ((bt HB6.out HB7.out).mono HB5.out.size))) rfl (by omega)).mono ?_
             rintro e w8 ⟨rfl, hb8⟩
             have HB8 := Lib.hid hb8
             have H8 := Lib.hid (Nat.le_trans H7.out hb8.size)
             have u0 := (hb8.cell (Nat.lt_of_lt_of_le zp H7.out)).trans t0
             have u1 := (hb8.cell (Nat.lt_of_lt_of_le zp H7.out)).trans t1
             clear hb8
             rw [ckh.out])
          | (go_at_call 25
             refine (khas_any _ _ _ H _ _ (R4.out.on (HB5.out.trans ((bt HB6.out (bt HB7.out HB8.out)).mono HB5.out.size))) rfl N0.out.1 (by omega)).mono ?_
             rintro e w9 ⟨rfl, hb9⟩
             have HB9 := Lib.hid hb9
             have v0 := (hb9.cell (Nat.lt_of_lt_of_le zp H8.out)).trans u0
             have v1 := (hb9.cell (Nat.lt_of_lt_of_le zp H8.out)).trans u1
             clear hb9
             rw [Hbk.out]))
        go_ret
        exact ⟨rfl, bt HW3.out (bt HB4.out (HB5.out.trans ((bt HB6.out (bt HB7.out (bt HB8.out HB9.out))).mono HB5.out.size)))⟩
end Go.Proofs.Ytockfejaijdmjaa
