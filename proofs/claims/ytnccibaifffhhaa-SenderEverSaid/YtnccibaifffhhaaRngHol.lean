/- Contract of package ranges: Holes. -/
import Derived.Test.YtnccibaifffhhaaRngCut
namespace Go.Proofs.Ytnccibaifffhhaa
set_option linter.unusedVariables false
open Go.RowKit P

theorem holes_bad (A : Option Addr) (len cap : Nat) (ps : List (Int × Int)) (lo hi : Int) (w : World) (h : RRow w w.heap.size A ps) (hl : ps.length = len) (hc : rfV ps (lo, hi) = 3 ∨ rfV ps (lo, hi) = 6) (hm : len ≤ 9223372036854775807) :
    Calls Try.prog 32 #[.slice A len cap, .agg #[.int .i64 lo, .int .i64 hi]] w (FaultPost (rfV ps (lo, hi)) w) := by
  have HW := Lib.hid ((Below.refl w.heap.size w).alloc (Nat.le_refl _) (.cells #[.int .i64 lo, .int .i64 hi] 63))
  have HR := Lib.hid (h.on HW.out)
  have HL := Lib.hid hl
  clear h hl
  rcases hc with hc | hc
  all_goals
    have c0 := Lib.hid hc
    clear hc
    go_enter Try.func32, Try.ntmps32
    go_wp2_with (first
      | (go_at_call 58; refine (refuse_any _ _ _ _ _ _ _ HR.out HL.out (by omega)).mono ?_; rintro e w1 ⟨rfl, hb1⟩; have HB1 := Lib.hid hb1; clear hb1; rw [c0.out]))
    go_ret2
    exact ⟨by rw [c0.out]; rfl, HW.out.trans (HB1.out.mono HW.out.size)⟩

theorem hole_len (hi next : Int) (ps : List (Int × Int)) (C : List (Int × Int)) (k : Nat) (h : C.length ≤ k) (q : Int) : (C ++ sm next q).length ≤ k + 1 := Nat.le_trans (sm_more C next q) (Nat.succ_le_succ h)

set_option maxRecDepth 100000 in
set_option maxHeartbeats 400000 in
theorem holes_own (A : Option Addr) (len cap : Nat) (ps : List (Int × Int)) (lo hi : Int) (w : World) (h : RRow w w.heap.size A ps) (hl : ps.length = len) (hok : okL ps) (hr : okR (lo, hi)) (hm : (len + 2) * 16 ≤ 140737488355328) :
    Calls Try.prog 32 #[.slice A len cap, .agg #[.int .i64 lo, .int .i64 hi]] w (GiveOwn (holesF hi lo ps) w) := by
  have HW := Lib.hid ((Below.refl w.heap.size w).alloc (Nat.le_refl _) (.cells #[.int .i64 lo, .int .i64 hi] 63))
  have HR := Lib.hid (h.on HW.out)
  have HR0 := Lib.hid h
  have HL := Lib.hid hl
  have HO := Lib.hid hok
  have c0 := Lib.hid (rf_ok hok hr)
  obtain ⟨r0, r1, r2⟩ := hr
  simp only at r0 r1 r2
  clear h hl hok
  go_enter Try.func32, Try.ntmps32
  go_wp2_with (first
    | (go_at_call 58; refine (refuse_any _ _ _ _ _ _ _ HR.out HL.out (by omega)).mono ?_; rintro e w1 ⟨rfl, hb1⟩; have e0 := (hb1.cell (p := ⟨w.heap.size, 0, none⟩) (by simp)).trans (by simp : _ = some (.int .i64 lo)); have HB1 := Lib.hid (hb1.mono (by simp) : Below (w.heap.size + 1) _ _); clear hb1; rw [c0.out]))
  go_loopg [7, 8, 21] len (fun g v nv i wr => ∃ (k : Nat) (C : List (Int × Int)) (nx : Int), k + g = len ∧ i = .int .i64 k ∧ nv = .int .i64 nx ∧ 0 ≤ nx ∧ nx ≤ 4611686018427387904 ∧ C.length ≤ k ∧ Below (w.heap.size + 1) (w.alloc (.cells #[.int .i64 lo, .int .i64 hi] 63)) wr ∧ Hid (OwnR wr (w.heap.size + 1) 63 v C) ∧ Hid (holesF hi lo ps = C ++ holesF hi nx (ps.drop k)))
  case atStart => exact ⟨0, [], lo, by omega, rfl, rfl, r0, by omega, Nat.le_refl _, HB1.out, OwnR.nil _ _ _, rfl⟩
  case round =>
    obtain ⟨k, C, nx, hk, rfl, rfl, n0, n1, hC, hb, O0, HF⟩ := hrel
    have HB := Lib.hid hb
    have HBW := Lib.hid (HW.out.trans (hb.mono (by omega)))
    have hbs : w.heap.size + 1 ≤ wr.heap.size := by have := hb.size; simpa using this
    have e1 := (hb.cell (p := ⟨w.heap.size, 1, none⟩) (by simp)).trans (by simp : _ = some (.int .i64 hi))
    clear hb e0
    by_cases hlt : k < len
    · obtain ⟨b, off, rfl, hbb, hc⟩ := (HR0.out.below HBW.out) (by rw [HL.out]; omega)
      obtain ⟨d0, d1⟩ := hc k (by rw [HL.out]; omega)
      have pk := ok_get HO.out k (by rw [HL.out]; omega)
      have HS := Lib.hid (holes_step hi nx ps k (by rw [HL.out]; omega))
      obtain ⟨⟨plo, phi⟩, hq⟩ : ∃ p, ps.getD k (0, 0) = p := ⟨_, rfl⟩
      rw [hq] at d0 d1 HS pk
      simp only at d0 d1 HS
      obtain ⟨p0, p1, p2⟩ := pk
      simp only at p0 p1 p2
      have i1 : (k : Int) < (len : Int) := by omega
      clear hc hq
      have e3 := (World.cell?_alloc_lt wr (.cells #[.int .i64 plo, .int .i64 phi] 63) ⟨w.heap.size, 1, none⟩ hbs).trans e1
      have hl0 := Lib.hid (fun h => Nat.lt_irrefl _ ((O0.out.lt _ h).2) : u7.ownBlock ≠ some wr.heap.size)
      clear e1
      go_wp2_with (first
        | (go_at_call 59
           (with_reducible refine (some_any (w.heap.size + 1) _ _ _ _ _ (O0.out.alloc _) (by simp; omega) (by omega)).mono ?_)
           rintro e w1 ⟨v1, rfl, o1, g1⟩
           have O1 := Lib.hid o1
           have d3 := g1.keeps ⟨wr.heap.size, 1, none⟩ _ (by simp; rfl) (fun h => hl0.out h.symm)
           have HB1 := Lib.hid ((HB.out.alloc hbs _).trans g1.below)
           clear o1 g1))
      all_goals
        go_roundg (gk - 1)
        case measure => omega
        case rel =>
          have e := O1.out
          rw [min_if] at e
          first
            | exact ⟨k + 1, _, phi + 1, by omega, by go_num, rfl, by omega, by omega, Nat.le_trans (sm_more C nx _) (Nat.succ_le_succ hC), HB1.out, e, Lib.hid (by rw [HF.out, HS.out, show max nx (phi + 1) = phi + 1 by omega, List.append_assoc])⟩
            | exact ⟨k + 1, _, nx, by omega, by go_num, rfl, by omega, by omega, Nat.le_trans (sm_more C nx _) (Nat.succ_le_succ hC), HB1.out, e, Lib.hid (by rw [HF.out, HS.out, show max nx (phi + 1) = nx by omega, List.append_assoc])⟩
    · have e := Lib.hid (show holesF hi lo ps = C ++ sm nx hi by rw [HF.out, List.drop_eq_nil_of_le (by rw [HL.out]; omega)]; rfl)
      go_wp2_with (first
        | (go_at_call 59
           (with_reducible refine (some_any (w.heap.size + 1) _ _ _ _ _ O0.out hbs (by omega)).mono ?_)
           rintro e w1 ⟨v1, rfl, o1, g1⟩
           have O1 := Lib.hid o1
           have HB1 := Lib.hid (HBW.out.trans (g1.below.mono (by omega)))
           clear o1 g1))
      go_ret2
      have o := O1.out
      rw [← e.out] at o
      exact ⟨_, rfl, own_lowR o (by omega), HB1.out⟩
theorem holes_any (A : Option Addr) (len cap : Nat) (ps : List (Int × Int)) (lo hi : Int) (w : World) (h : RRow w w.heap.size A ps) (hl : ps.length = len) (hok : okL ps) (hr : okR (lo, hi)) (hm : (len + 2) * 16 ≤ 140737488355328) :
    Calls Try.prog 32 #[.slice A len cap, .agg #[.int .i64 lo, .int .i64 hi]] w (GivePost (holesF hi lo ps) w) := (holes_own A len cap ps lo hi w h hl hok hr hm).mono fun _ _ h => h.give
end Go.Proofs.Ytnccibaifffhhaa
