/- The document's answers on ranges: upTo, isRange, RangesFault, rangeFault, inside, RangeHas. -/
import Derived.Test.YtkpkgegonfcgnaaRngSome
import Derived.Test.YtkpkgegonfcgnaaRefUp
import Derived.Deep.LoopGhost
namespace Go.Proofs.Ytkpkgegonfcgnaa
set_option linter.unusedVariables false
open Go.RowKit P

theorem lastHi_bd {l : List (Int × Int)} (h : okL l) : -2 ≤ lastHi (-2) l ∧ lastHi (-2) l ≤ 4611686018427387903 := by
  have : ∀ {a : Int} {l : List (Int × Int)}, okFrom a l → -2 ≤ a → a ≤ 4611686018427387903 → -2 ≤ lastHi a l ∧ lastHi a l ≤ 4611686018427387903 := by
    intro a l
    induction l generalizing a with
    | nil => intro _ h1 h2; exact ⟨h1, h2⟩
    | cons x l ih =>
      intro h h1 h2
      have e : lastHi a (x :: l) = lastHi x.2 l := rfl
      rw [e]
      exact ih h.2.2 (by have := h.1.1; have := h.1.2.1; omega) h.1.2.2
  exact this h (Int.le_refl _) (by omega)
theorem ok_snoc (l : List (Int × Int)) (k : Nat) (h : k < l.length) : okL (l.take (k + 1)) ↔ okL (l.take k) ∧ okR (l.getD k (0, 0)) ∧ lastHi (-2) (l.take k) + 2 ≤ (l.getD k (0, 0)).1 := by
  unfold okL
  rw [takeR_snoc l k h, okFrom_snoc]

theorem fault_any (A : Option Addr) (len cap : Nat) (ps : List (Int × Int)) (w : World) (h : RRow w w.heap.size A ps) (hl : ps.length = len) (hm : len ≤ 9223372036854775807) :
    Calls Try.prog 38 #[.slice A len cap] w (CheckPost ps w) := by
  have HR := Lib.hid h
  have HL := Lib.hid hl
  clear h hl
  go_enter Try.func38, Try.ntmps38
  go_wp2
  go_loopg [3, 8] len (fun g v i wr => ∃ (k : Nat) (q : Int), k + g = len ∧ i = .int .i64 k ∧ v = .int .i64 q ∧ -2 ≤ q ∧ q ≤ 4611686018427387903 ∧ Hid (lastHi (-2) (ps.take k) = q) ∧ Hid (okL (ps.take k)) ∧ Below w.heap.size w wr)
  case atStart => exact ⟨0, -2, by omega, rfl, rfl, by omega, by omega, rfl, trivial, Below.refl _ _⟩
  case round =>
    obtain ⟨k, q, hk, rfl, rfl, q0, q1, HQ, HO, hb⟩ := hrel
    have HB := Lib.hid hb
    have hbw := hb.size
    clear hb
    by_cases hlt : k < len
    · obtain ⟨b, off, rfl, hbb, hc⟩ := (HR.out.below HB.out) (by rw [HL.out]; omega)
      obtain ⟨c0, c1⟩ := hc k (by rw [HL.out]; omega)
      have HS := Lib.hid (ok_snoc ps k (by rw [HL.out]; omega))
      have HT := Lib.hid (lastHi_take (-2) ps k (by rw [HL.out]; omega))
      obtain ⟨⟨lo, hi⟩, hp⟩ : ∃ p, ps.getD k (0, 0) = p := ⟨_, rfl⟩
      rw [hp] at c0 c1 HS HT
      rw [HQ.out] at HS
      simp only at c0 c1 HS HT
      clear hc hp
      have BX := Lib.hid (HB.out.alloc hbw (.cells #[.int .i64 lo, .int .i64 hi] 61))
      by_cases hr : okR (lo, hi)
      · have HK := Lib.hid hr
        obtain ⟨r0, r1, r2⟩ := hr
        simp only at r0 r1 r2
        by_cases hg : q + 2 ≤ lo
        · have H1 : Hid (okL (ps.take (k + 1))) := HS.out.2 ⟨HO.out, HK.out, hg⟩
          go_wp2_with (go_at_call 55; refine (isrange_yes _ _ HK.out _).mono ?_; rintro e w1 ⟨rfl, hb1⟩; have d0 := (hb1.cell (p := ⟨wr.heap.size, 0, none⟩) (by simp)).trans (by simp : _ = some (.int .i64 lo)); have d1 := (hb1.cell (p := ⟨wr.heap.size, 1, none⟩) (by simp)).trans (by simp : _ = some (.int .i64 hi)); have HB1 := Lib.hid (BX.out.trans (hb1.mono BX.out.size)); clear hb1)
          go_roundg (gk - 1)
          case measure => omega
          case rel => exact ⟨k + 1, hi, by omega, by go_num, rfl, by omega, r2, HT, H1, HB1.out⟩
        · have H1 : Hid (ckV ps = 3) := if_neg (ok_not fun h => hg (HS.out.1 h).2.2)
          go_wp2_with (go_at_call 55; refine (isrange_yes _ _ HK.out _).mono ?_; rintro e w1 ⟨rfl, hb1⟩; have d0 := (hb1.cell (p := ⟨wr.heap.size, 0, none⟩) (by simp)).trans (by simp : _ = some (.int .i64 lo)); have d1 := (hb1.cell (p := ⟨wr.heap.size, 1, none⟩) (by simp)).trans (by simp : _ = some (.int .i64 hi)); have HB1 := Lib.hid (BX.out.trans (hb1.mono BX.out.size)); clear hb1)
          go_ret
          exact ⟨ret_int H1.out.symm, HB1.out⟩
      · have HK := Lib.hid hr
        have H1 : Hid (ckV ps = 3) := if_neg (ok_not fun h => HK.out (HS.out.1 h).2.1)
        clear hr
        go_wp2_with (go_at_call 55; refine (isrange_no _ _ HK.out _).mono ?_; rintro e w1 ⟨rfl, hb1⟩; have HB1 := Lib.hid (BX.out.trans (hb1.mono BX.out.size)); clear hb1)
        go_ret
        exact ⟨ret_int H1.out.symm, HB1.out⟩
    · have H1 : Hid (ckV ps = 0) := if_pos (by have := HO.out; rwa [List.take_of_length_le (by rw [HL.out]; omega)] at this)
      go_wp2
      go_ret
      exact ⟨ret_int H1.out.symm, HB.out⟩

end Go.Proofs.Ytkpkgegonfcgnaa
