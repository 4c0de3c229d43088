/- Contracts of package ranges: Add, Cut, Holes. -/
import Derived.Test.YtnccibaifffhhaaRngJoin
namespace Go.Proofs.Ytnccibaifffhhaa
set_option linter.unusedVariables false
open Go.RowKit P

/-- a set is handed on, and no fault -/
def GivePost (J : List (Int × Int)) (w : World) (e : Ending) (w' : World) : Prop :=
  ∃ A c, e = .returned (.tuple #[.slice A J.length c, .int .i64 0]) ∧ J.length ≤ c ∧ c ≤ maxLen ∧ RRow w' w'.heap.size A J ∧ Below w.heap.size w w'
/-- the same, of a row of its own -/
def GiveOwn (J : List (Int × Int)) (w : World) (e : Ending) (w' : World) : Prop :=
  ∃ v', e = .returned (.tuple #[v', .int .i64 0]) ∧ OwnR w' w.heap.size 63 v' J ∧ Below w.heap.size w w'
theorem GiveOwn.give {J : List (Int × Int)} {w : World} {e : Ending} {w' : World} (h : GiveOwn J w e w') : GivePost J w e w' := by
  obtain ⟨v', e1, o, b⟩ := h
  obtain ⟨A2, c2, rfl, l2, m2, r2⟩ := o.slice
  exact ⟨A2, c2, e1, l2, m2, r2, b⟩
theorem own_lowR {w : World} {base base' : Nat} {e : TypeId} {v : Value} {qs : List (Int × Int)} (h : OwnR w base e v qs) (hb : base' ≤ base) : OwnR w base' e v qs := by
  refine ⟨h.1, ?_⟩
  rcases h.2 with h0 | ⟨g, cap, cur, hv, h2, h3⟩
  · exact .inl h0
  · exact .inr ⟨g, cap, cur, hv, Nat.le_trans hb h2, h3⟩
/-- a fault, and nothing else -/
def FaultPost (v : Int) (w : World) (e : Ending) (w' : World) : Prop := e = .returned (.tuple #[.slice none 0 0, .int .i64 v]) ∧ Below w.heap.size w w'

theorem rf_ok {ps : List (Int × Int)} {r : Int × Int} (h : okL ps) (hr : okR r) : rfV ps r = 0 := (if_pos h).trans (if_pos hr)
theorem rf_cases (ps : List (Int × Int)) (r : Int × Int) : (okL ps ∧ okR r ∧ rfV ps r = 0) ∨ (rfV ps r = 3 ∧ ¬ okL ps) ∨ (rfV ps r = 6 ∧ okL ps ∧ ¬ okR r) := by
  unfold rfV
  by_cases h : okL ps
  · by_cases hr : okR r
    · exact .inl ⟨h, hr, by simp [h, hr]⟩
    · exact .inr (.inr ⟨by simp [h, hr], h, hr⟩)
  · exact .inr (.inl ⟨by simp [h], h⟩)

theorem add_own (A : Option Addr) (len cap : Nat) (ps : List (Int × Int)) (lo hi : Int) (w : World) (h : RRow w w.heap.size A ps) (hl : ps.length = len) (hok : okL ps) (hr : okR (lo, hi)) (hm : (len + 1) * 16 ≤ 140737488355328) (hcap : len ≤ cap) (hcm : cap ≤ maxLen) :
    Calls Try.prog 34 #[.slice A len cap, .agg #[.int .i64 lo, .int .i64 hi]] w (GiveOwn (insR (lo, hi) ps) w) := by
  have HW := Lib.hid ((Below.refl w.heap.size w).alloc (Nat.le_refl _) (.cells #[.int .i64 lo, .int .i64 hi] 63))
  have HR := Lib.hid (h.on HW.out)
  have HL := Lib.hid hl
  have HO := Lib.hid hok
  have HK := Lib.hid hr
  have c0 := Lib.hid (rf_ok hok hr)
  clear h hl hok hr
  go_enter Try.func34, Try.ntmps34
  go_wp2_with (first
    | (go_at_call 58; refine (refuse_any _ _ _ _ _ _ _ HR.out HL.out (by omega)).mono ?_; rintro e w1 ⟨rfl, hb1⟩; have d0 := (hb1.cell (p := ⟨w.heap.size, 0, none⟩) (by simp)).trans (by simp : _ = some (.int .i64 lo)); have d1 := (hb1.cell (p := ⟨w.heap.size, 1, none⟩) (by simp)).trans (by simp : _ = some (.int .i64 hi)); have HB1 := Lib.hid hb1; clear hb1; rw [c0.out])
    | (go_at_call 60; refine (join_any _ _ _ _ _ _ _ (HR.out.on HB1.out) HL.out HO.out HK.out hm hcap hcm).mono ?_; rintro e w2 ⟨v2, rfl, o2, hb2⟩; have O2 := Lib.hid o2; have HB2 := Lib.hid ((HW.out.trans (HB1.out.mono HW.out.size)).trans (hb2.mono (HW.out.trans (HB1.out.mono HW.out.size)).size)); clear hb2 o2))
  go_ret2
  exact ⟨_, rfl, own_lowR O2.out (by have := HB1.out.size; have := HW.out.size; omega), HB2.out⟩
theorem add_any (A : Option Addr) (len cap : Nat) (ps : List (Int × Int)) (lo hi : Int) (w : World) (h : RRow w w.heap.size A ps) (hl : ps.length = len) (hok : okL ps) (hr : okR (lo, hi)) (hm : (len + 1) * 16 ≤ 140737488355328) (hcap : len ≤ cap) (hcm : cap ≤ maxLen) :
    Calls Try.prog 34 #[.slice A len cap, .agg #[.int .i64 lo, .int .i64 hi]] w (GivePost (insR (lo, hi) ps) w) := (add_own A len cap ps lo hi w h hl hok hr hm hcap hcm).mono fun _ _ h => h.give
theorem add_bad (A : Option Addr) (len cap : Nat) (ps : List (Int × Int)) (lo hi : Int) (w : World) (h : RRow w w.heap.size A ps) (hl : ps.length = len) (hc : rfV ps (lo, hi) = 3 ∨ rfV ps (lo, hi) = 6) (hm : len ≤ 9223372036854775807) :
    Calls Try.prog 34 #[.slice A len cap, .agg #[.int .i64 lo, .int .i64 hi]] w (FaultPost (rfV ps (lo, hi)) w) := by
  have HW := Lib.hid ((Below.refl w.heap.size w).alloc (Nat.le_refl _) (.cells #[.int .i64 lo, .int .i64 hi] 63))
  have HR := Lib.hid (h.on HW.out)
  have HL := Lib.hid hl
  clear h hl
  rcases hc with hc | hc
  all_goals
    have c0 := Lib.hid hc
    clear hc
    go_enter Try.func34, Try.ntmps34
    go_wp2_with (first
      | (go_at_call 58; refine (refuse_any _ _ _ _ _ _ _ HR.out HL.out (by omega)).mono ?_; rintro e w1 ⟨rfl, hb1⟩; have HB1 := Lib.hid hb1; clear hb1; rw [c0.out]))
    go_ret2
    exact ⟨by rw [c0.out]; rfl, HW.out.trans (HB1.out.mono HW.out.size)⟩

theorem cut_bad (A : Option Addr) (len cap : Nat) (ps : List (Int × Int)) (lo hi : Int) (w : World) (h : RRow w w.heap.size A ps) (hl : ps.length = len) (hc : rfV ps (lo, hi) = 3 ∨ rfV ps (lo, hi) = 6) (hm : len ≤ 9223372036854775807) :
    Calls Try.prog 35 #[.slice A len cap, .agg #[.int .i64 lo, .int .i64 hi]] w (FaultPost (rfV ps (lo, hi)) w) := by
  have HW := Lib.hid ((Below.refl w.heap.size w).alloc (Nat.le_refl _) (.cells #[.int .i64 lo, .int .i64 hi] 63))
  have HR := Lib.hid (h.on HW.out)
  have HL := Lib.hid hl
  clear h hl
  rcases hc with hc | hc
  all_goals
    have c0 := Lib.hid hc
    clear hc
    go_enter Try.func35, Try.ntmps35
    go_wp2_with (first
      | (go_at_call 58; refine (refuse_any _ _ _ _ _ _ _ HR.out HL.out (by omega)).mono ?_; rintro e w1 ⟨rfl, hb1⟩; have HB1 := Lib.hid hb1; clear hb1; rw [c0.out]))
    go_ret2
    exact ⟨by rw [c0.out]; rfl, HW.out.trans (HB1.out.mono HW.out.size)⟩

theorem sm_more (C : List (Int × Int)) (lo hi : Int) : (C ++ sm lo hi).length ≤ C.length + 1 := by
  rw [List.length_append]
  exact Nat.add_le_add_left (sm_len lo hi) _
theorem fit16 (a b : Nat) (h : b ≤ a + 1) (h2 : a + 2 ≤ 8796093022208) : (b + 1) * 16 ≤ 140737488355328 := by omega
theorem own_fit {w : World} {base : Nat} {e : TypeId} {v : Value} {C : List (Int × Int)} {lo hi : Int} (h : OwnR w base e v (C ++ sm lo hi)) (hc : C.length + 2 ≤ 8796093022208) : ((C ++ sm lo hi).length + 1) * 16 ≤ 140737488355328 :=
  fit16 C.length _ (sm_more C lo hi) hc
theorem min_if (x y : Int) : (if y < x then y else x) = min x y := by split <;> omega
theorem max_if (x y : Int) : (if x < y then y else x) = max x y := by split <;> omega

set_option maxRecDepth 100000 in
set_option maxHeartbeats 400000 in
theorem cut_own (A : Option Addr) (len cap : Nat) (ps : List (Int × Int)) (lo hi : Int) (w : World) (h : RRow w w.heap.size A ps) (hl : ps.length = len) (hok : okL ps) (hr : okR (lo, hi)) (hm : (len + 2) * 16 ≤ 140737488355328) :
    Calls Try.prog 35 #[.slice A len cap, .agg #[.int .i64 lo, .int .i64 hi]] w (GiveOwn (cutL (lo, hi) ps) w) := by
  have HW := Lib.hid ((Below.refl w.heap.size w).alloc (Nat.le_refl _) (.cells #[.int .i64 lo, .int .i64 hi] 63))
  have HR := Lib.hid (h.on HW.out)
  have HR0 := Lib.hid h
  have HL := Lib.hid hl
  have HO := Lib.hid hok
  have HK := Lib.hid hr
  have c0 := Lib.hid (rf_ok hok hr)
  obtain ⟨r0, r1, r2⟩ := hr
  simp only at r0 r1 r2
  clear h hl hok
  go_enter Try.func35, Try.ntmps35
  go_wp2_with (first
    | (go_at_call 58; refine (refuse_any _ _ _ _ _ _ _ HR.out HL.out (by omega)).mono ?_; rintro e w1 ⟨rfl, hb1⟩; have HB1 := Lib.hid (hb1.mono (by simp) : Below (w.heap.size + 1) _ _); clear hb1; rw [c0.out]))
  go_loopg [7, 18] len (fun g v i wr => ∃ k : Nat, k + g = len ∧ i = .int .i64 k ∧ Below (w.heap.size + 1) (w.alloc (.cells #[.int .i64 lo, .int .i64 hi] 63)) wr ∧ Hid (OwnR wr (w.heap.size + 1) 63 v (cutL (lo, hi) (ps.take k))))
  case atStart => exact ⟨0, by omega, rfl, HB1.out, OwnR.nil _ _ _⟩
  case round =>
    obtain ⟨k, hk, rfl, hb, O0⟩ := hrel
    have HB := Lib.hid hb
    have HBW := Lib.hid (HW.out.trans (hb.mono (by omega)))
    have hbs : w.heap.size + 1 ≤ wr.heap.size := by have := hb.size; simpa using this
    have e0 := (hb.cell (p := ⟨w.heap.size, 0, none⟩) (by simp)).trans (by simp : _ = some (.int .i64 lo))
    have e1 := (hb.cell (p := ⟨w.heap.size, 1, none⟩) (by simp)).trans (by simp : _ = some (.int .i64 hi))
    clear hb
    by_cases hlt : k < len
    · obtain ⟨b, off, rfl, hbb, hc⟩ := (HR0.out.below HBW.out) (by rw [HL.out]; omega)
      obtain ⟨d0, d1⟩ := hc k (by rw [HL.out]; omega)
      have pk := ok_get HO.out k (by rw [HL.out]; omega)
      have HS := Lib.hid (cutL_snoc (lo, hi) ps k (by rw [HL.out]; omega))
      have l1 := cut_len (r := (lo, hi)) HK.out (okFrom_take HO.out k)
      rw [List.length_take, HL.out] at l1
      obtain ⟨⟨plo, phi⟩, hq⟩ : ∃ p, ps.getD k (0, 0) = p := ⟨_, rfl⟩
      rw [hq] at d0 d1 HS pk
      simp only at d0 d1 HS
      obtain ⟨p0, p1, p2⟩ := pk
      simp only at p0 p1 p2
      have i1 : (k : Int) < (len : Int) := by omega
      clear hc hq
      obtain ⟨C, hC⟩ : ∃ C, cutL (lo, hi) (ps.take k) = C := ⟨_, rfl⟩
      rw [hC] at O0 HS l1
      clear hC
      have e2 := (World.cell?_alloc_lt wr (.cells #[.int .i64 plo, .int .i64 phi] 63) ⟨w.heap.size, 0, none⟩ hbs).trans e0
      have e3 := (World.cell?_alloc_lt wr (.cells #[.int .i64 plo, .int .i64 phi] 63) ⟨w.heap.size, 1, none⟩ hbs).trans e1
      have hl0 := Lib.hid (fun h => Nat.lt_irrefl _ ((O0.out.lt _ h).2) : u7.ownBlock ≠ some wr.heap.size)
      clear e0 e1
      go_wp2_with (first
        | (go_at_call 59
           (with_reducible refine (some_any (w.heap.size + 1) _ _ _ _ _ O1.out (by omega) (own_fit O1.out (by omega))).mono ?_)
           rintro e w2 ⟨v2, rfl, o2, g2⟩
           have O2 := Lib.hid o2
           have HB2 := Lib.hid (HB1.out.trans g2.below)
           clear o2 g2)
        | (go_at_call 59
           (with_reducible refine (some_any (w.heap.size + 1) _ _ _ _ _ (O0.out.alloc _) (by simp; omega) (by omega)).mono ?_)
           rintro e w1 ⟨v1, rfl, o1, g1⟩
           have O1 := Lib.hid o1
           have s1 := g1.size
           simp at s1
           have d2 := g1.keeps ⟨wr.heap.size, 0, none⟩ _ (by simp; rfl) (fun h => hl0.out h.symm)
           have d3 := g1.keeps ⟨wr.heap.size, 1, none⟩ _ (by simp; rfl) (fun h => hl0.out h.symm)
           have f2 := (g1.below.cell (p := ⟨w.heap.size, 0, none⟩) (by simp)).trans e2
           have f3 := (g1.below.cell (p := ⟨w.heap.size, 1, none⟩) (by simp)).trans e3
           have HB1 := Lib.hid ((HB.out.alloc hbs _).trans g1.below)
           clear o1 g1))
      all_goals
        go_roundg (gk - 1)
        case measure => omega
        case rel =>
          have e := O2.out
          rw [min_if, max_if, ← HS.out] at e
          exact ⟨k + 1, by omega, by go_num, HB2.out, e⟩
    · have e := Lib.hid (show ps.take k = ps from List.take_of_length_le (by rw [HL.out]; omega))
      rw [e.out] at O0
      go_wp2
      go_ret2
      exact ⟨_, rfl, own_lowR O0.out (by omega), HBW.out⟩
theorem rcut_any (A : Option Addr) (len cap : Nat) (ps : List (Int × Int)) (lo hi : Int) (w : World) (h : RRow w w.heap.size A ps) (hl : ps.length = len) (hok : okL ps) (hr : okR (lo, hi)) (hm : (len + 2) * 16 ≤ 140737488355328) :
    Calls Try.prog 35 #[.slice A len cap, .agg #[.int .i64 lo, .int .i64 hi]] w (GivePost (cutL (lo, hi) ps) w) := (cut_own A len cap ps lo hi w h hl hok hr hm).mono fun _ _ h => h.give
end Go.Proofs.Ytnccibaifffhhaa
