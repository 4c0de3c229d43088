/- Several texts in one. -/
import Derived.Test.YtgfbonfoimiknaaGrpB
import Derived.Test.YtgfbonfoimiknaaRows
import Derived.WalkLawsBesides
import Derived.WalkSpells
import Derived.Outline
import Derived.Handy
import Derived.Deep.LoopGhost
import Derived.Test.YtgfbonfoimiknaaRngSome
/- The document's answers on numbers and ranges: upTo, isRange. -/
namespace Go.Proofs.Ytgfbonfoimiknaa
set_option linter.unusedVariables false
open Go.RowKit P

theorem upto_yes (n m : Int) (h0 : 0 ≤ n) (h1 : n ≤ m) (w : World) :
    Calls Try.prog 79 #[.int .i64 n, .int .i64 m] w fun e w' => e = .returned (.bool true) ∧ w = w' := by
  go_enter Try.func79, Try.ntmps79
  go_wp2
  go_ret
  exact ⟨rfl, rfl⟩
theorem upto_no (n m : Int) (h : n < 0 ∨ m < n) (w : World) :
    Calls Try.prog 79 #[.int .i64 n, .int .i64 m] w fun e w' => e = .returned (.bool false) ∧ w = w' := by
  by_cases a : n < 0
  · have g : decide (0 ≤ n) = false := by simp; omega
    go_enter Try.func79, Try.ntmps79
    go_wp2
    go_ret
    exact ⟨rfl, rfl⟩
  · have g : decide (0 ≤ n) = true := by simp; omega
    have g2 : decide (n ≤ m) = false := by simp; omega
    clear h
    go_enter Try.func79, Try.ntmps79
    go_wp2
    go_ret
    exact ⟨rfl, rfl⟩

theorem isrange_yes (lo hi : Int) (h : okR (lo, hi)) (w : World) :
    Calls Try.prog 120 #[.agg #[.int .i64 lo, .int .i64 hi]] w fun e w' => e = .returned (.bool true) ∧ Below w.heap.size w w' := by
  obtain ⟨h0, h1, h2⟩ := h
  simp only at h0 h1 h2
  go_enter Try.func120, Try.ntmps120
  go_wp2_with (go_at_call 79; refine (upto_yes _ _ h0 h1 _).mono ?_; rintro e w' ⟨rfl, rfl⟩)
  go_ret
  exact ⟨rfl, (Below.refl _ _).alloc (Nat.le_refl _) _⟩
theorem isrange_no (lo hi : Int) (h : ¬ okR (lo, hi)) (w : World) :
    Calls Try.prog 120 #[.agg #[.int .i64 lo, .int .i64 hi]] w fun e w' => e = .returned (.bool false) ∧ Below w.heap.size w w' := by
  by_cases a : lo < 0 ∨ hi < lo
  · go_enter Try.func120, Try.ntmps120
    go_wp2_with (go_at_call 79; refine (upto_no _ _ a _).mono ?_; rintro e w' ⟨rfl, rfl⟩)
    go_ret
    exact ⟨rfl, (Below.refl _ _).alloc (Nat.le_refl _) _⟩
  · have h0 : 0 ≤ lo := by omega
    have h1 : lo ≤ hi := by omega
    have g : decide (hi ≤ 4611686018427387903) = false := decide_eq_false fun h2 => h ⟨h0, h1, h2⟩
    clear a h
    go_enter Try.func120, Try.ntmps120
    go_wp2_with (go_at_call 79; refine (upto_yes _ _ h0 h1 _).mono ?_; rintro e w' ⟨rfl, rfl⟩)
    go_ret
    exact ⟨rfl, (Below.refl _ _).alloc (Nat.le_refl _) _⟩

end Go.Proofs.Ytgfbonfoimiknaa
/- The document's answers on ranges: upTo, isRange, RangesFault, rangeFault, inside, RangeHas. -/
namespace Go.Proofs.Ytgfbonfoimiknaa
set_option linter.unusedVariables false
open Go.RowKit P

theorem lastHi_bd {l : List (Int × Int)} (h : okL l) : -2 ≤ lastHi (-2) l ∧ lastHi (-2) l ≤ 4611686018427387903 := by
  have : ∀ {a : Int} {l : List (Int × Int)}, okFrom a l → -2 ≤ a → a ≤ 4611686018427387903 → -2 ≤ lastHi a l ∧ lastHi a l ≤ 4611686018427387903 := by
    intro a l
    induction l generalizing a with
    | nil => intro _ h1 h2; exact ⟨h1, h2⟩
    | cons x l ih =>
      intro h h1 h2
      have e : lastHi a (x :: l) = lastHi x.2 l := rfl
      rw [e]
      exact ih h.2.2 (by have := h.1.1; have := h.1.2.1; omega) h.1.2.2
  exact this h (Int.le_refl _) (by omega)
theorem ok_snoc (l : List (Int × Int)) (k : Nat) (h : k < l.length) : okL (l.take (k + 1)) ↔ okL (l.take k) ∧ okR (l.getD k (0, 0)) ∧ lastHi (-2) (l.take k) + 2 ≤ (l.getD k (0, 0)).1 := by
  unfold okL
  rw [takeR_snoc l k h, okFrom_snoc]

theorem fault_any (A : Option Addr) (len cap : Nat) (ps : List (Int × Int)) (w : World) (h : RRow w w.heap.size A ps) (hl : ps.length = len) (hm : len ≤ 9223372036854775807) :
    Calls Try.prog 80 #[.slice A len cap] w (CheckPost ps w) := by
  have HR := Lib.hid h
  have HL := Lib.hid hl
  clear h hl
  go_enter Try.func80, Try.ntmps80
  go_wp2
  go_loopg [3, 8] len (fun g v i wr => ∃ (k : Nat) (q : Int), k + g = len ∧ i = .int .i64 k ∧ v = .int .i64 q ∧ -2 ≤ q ∧ q ≤ 4611686018427387903 ∧ Hid (lastHi (-2) (ps.take k) = q) ∧ Hid (okL (ps.take k)) ∧ Below w.heap.size w wr)
  case atStart => exact ⟨0, -2, by omega, rfl, rfl, by omega, by omega, rfl, trivial, Below.refl _ _⟩
  case round =>
    obtain ⟨k, q, hk, rfl, rfl, q0, q1, HQ, HO, hb⟩ := hrel
    have HB := Lib.hid hb
    have hbw := hb.size
    clear hb
    by_cases hlt : k < len
    · obtain ⟨b, off, rfl, hbb, hc⟩ := (HR.out.below HB.out) (by rw [HL.out]; omega)
      obtain ⟨c0, c1⟩ := hc k (by rw [HL.out]; omega)
      have HS := Lib.hid (ok_snoc ps k (by rw [HL.out]; omega))
      have HT := Lib.hid (lastHi_take (-2) ps k (by rw [HL.out]; omega))
      obtain ⟨⟨lo, hi⟩, hp⟩ : ∃ p, ps.getD k (0, 0) = p := ⟨_, rfl⟩
      rw [hp] at c0 c1 HS HT
      rw [HQ.out] at HS
      simp only at c0 c1 HS HT
      clear hc hp
      have BX := Lib.hid (HB.out.alloc hbw (.cells #[.int .i64 lo, .int .i64 hi] 80))
      by_cases hr : okR (lo, hi)
      · have HK := Lib.hid hr
        obtain ⟨r0, r1, r2⟩ := hr
        simp only at r0 r1 r2
        by_cases hg : q + 2 ≤ lo
        · have H1 : Hid (okL (ps.take (k + 1))) := HS.out.2 ⟨HO.out, HK.out, hg⟩
          go_wp2_with (go_at_call 120; refine (isrange_yes _ _ HK.out _).mono ?_; rintro e w1 ⟨rfl, hb1⟩; have d0 := (hb1.cell (p := ⟨wr.heap.size, 0, none⟩) (by simp)).trans (by simp : _ = some (.int .i64 lo)); have d1 := (hb1.cell (p := ⟨wr.heap.size, 1, none⟩) (by simp)).trans (by simp : _ = some (.int .i64 hi)); have HB1 := Lib.hid (BX.out.trans (hb1.mono BX.out.size)); clear hb1)
          go_roundg (gk - 1)
          case measure => omega
          case rel => exact ⟨k + 1, hi, by omega, by go_num, rfl, by omega, r2, HT, H1, HB1.out⟩
        · have H1 : Hid (ckV ps = 3) := if_neg (ok_not fun h => hg (HS.out.1 h).2.2)
          go_wp2_with (go_at_call 120; refine (isrange_yes _ _ HK.out _).mono ?_; rintro e w1 ⟨rfl, hb1⟩; have d0 := (hb1.cell (p := ⟨wr.heap.size, 0, none⟩) (by simp)).trans (by simp : _ = some (.int .i64 lo)); have d1 := (hb1.cell (p := ⟨wr.heap.size, 1, none⟩) (by simp)).trans (by simp : _ = some (.int .i64 hi)); have HB1 := Lib.hid (BX.out.trans (hb1.mono BX.out.size)); clear hb1)
          go_ret
          exact ⟨ret_int H1.out.symm, HB1.out⟩
      · have HK := Lib.hid hr
        have H1 : Hid (ckV ps = 3) := if_neg (ok_not fun h => HK.out (HS.out.1 h).2.1)
        clear hr
        go_wp2_with (go_at_call 120; refine (isrange_no _ _ HK.out _).mono ?_; rintro e w1 ⟨rfl, hb1⟩; have HB1 := Lib.hid (BX.out.trans (hb1.mono BX.out.size)); clear hb1)
        go_ret
        exact ⟨ret_int H1.out.symm, HB1.out⟩
    · have H1 : Hid (ckV ps = 0) := if_pos (by have := HO.out; rwa [List.take_of_length_le (by rw [HL.out]; omega)] at this)
      go_wp2
      go_ret
      exact ⟨ret_int H1.out.symm, HB.out⟩

theorem inside_any (A : Option Addr) (len cap : Nat) (ps : List (Int × Int)) (n : Int) (w : World) (h : RRow w w.heap.size A ps) (hl : ps.length = len) (hok : okL ps) (hm : len ≤ 9223372036854775807) (n0 : 0 ≤ n) (n1 : n ≤ 9223372036854775807) :
    Calls Try.prog 94 #[.slice A len cap, .int .i64 n] w (HasPost (hasB ps n) w) := by
  have HR := Lib.hid h
  have HL := Lib.hid hl
  have HO := Lib.hid hok
  clear h hl hok
  go_enter Try.func94, Try.ntmps94
  go_wp2
  go_loopg [9] len (fun g i wr => ∃ k : Nat, k + g = len ∧ i = .int .i64 k ∧ Below w.heap.size w wr ∧ Hid (mem ps n ↔ mem (ps.drop k) n))
  case atStart => exact ⟨0, by omega, rfl, Below.refl _ _, Iff.rfl⟩
  case round =>
    obtain ⟨k, hk, rfl, hb, HM⟩ := hrel
    have HB := Lib.hid hb
    have hbw := hb.size
    clear hb
    by_cases hlt : k < len
    · obtain ⟨b, off, rfl, hbb, hc⟩ := (HR.out.below HB.out) (by rw [HL.out]; omega)
      obtain ⟨c0, c1⟩ := hc k (by rw [HL.out]; omega)
      have pk := ok_get HO.out k (by rw [HL.out]; omega)
      have HD := Lib.hid (dropR_cons ps k (by rw [HL.out]; omega))
      obtain ⟨⟨lo, hi⟩, hp⟩ : ∃ p, ps.getD k (0, 0) = p := ⟨_, rfl⟩
      rw [hp] at c0 c1 HD pk
      simp only at c0 c1
      obtain ⟨r0, r1, r2⟩ := pk
      simp only at r0 r1 r2
      clear hc hp
      have HB1 := Lib.hid (HB.out.alloc hbw (.cells #[.int .i64 lo, .int .i64 hi] 80))
      by_cases hin : lo ≤ n ∧ n ≤ hi
      · have HE := Lib.hid (show hasB ps n = true from decide_eq_true (HM.out.2 (by rw [HD.out]; exact .inl hin)))
        obtain ⟨g0, g1⟩ := hin
        go_wp2_with (go_at_call 79; refine (upto_yes _ _ (by omega) (by omega) _).mono ?_; rintro e w' ⟨rfl, rfl⟩)
        go_ret
        exact ⟨by rw [HE.out]; rfl, HB1.out⟩
      · have HE := Lib.hid (HM.out.trans (by rw [HD.out]; exact ⟨fun h => h.elim (fun c => absurd c hin) id, .inr⟩ : mem (ps.drop k) n ↔ mem (ps.drop (k + 1)) n))
        have hc : n - lo < 0 ∨ hi - lo < n - lo := by omega
        clear hin
        go_wp2_with (go_at_call 79; refine (upto_no _ _ hc _).mono ?_; rintro e w' ⟨rfl, rfl⟩)
        go_roundg (gk - 1)
        case measure => omega
        case rel => exact ⟨k + 1, by omega, by go_num, HB1.out, HE⟩
    · have HE2 := Lib.hid (show hasB ps n = false from decide_eq_false (fun h => by have := HM.out.1 h; rw [List.drop_eq_nil_of_le (by rw [HL.out]; omega)] at this; exact this))
      go_wp2
      go_ret
      exact ⟨by rw [HE2.out]; rfl, HB.out⟩

end Go.Proofs.Ytgfbonfoimiknaa
