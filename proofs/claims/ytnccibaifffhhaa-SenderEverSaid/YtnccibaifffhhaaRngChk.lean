/- Contracts of package ranges: mayBe, Check. -/
import Derived.Test.YtnccibaifffhhaaGrpB
import Derived.Test.YtnccibaifffhhaaRows
import Derived.WalkLawsBesides
import Derived.WalkSpells
import Derived.Outline
import Derived.Handy
import Derived.Test.YtnccibaifffhhaaGrpC
namespace Go.Proofs.Ytnccibaifffhhaa
set_option linter.unusedVariables false
open Go.RowKit P

theorem maybe_yes (lo hi : Int) (h : okR (lo, hi)) (w : World) :
    Calls Try.prog 64 #[.agg #[.int .i64 lo, .int .i64 hi]] w fun e w' => e = .returned (.bool true) ∧ Below w.heap.size w w' := by
  obtain ⟨h0, h1, h2⟩ := h
  simp only at h0 h1 h2
  go_enter Try.func64, Try.ntmps64
  go_wp2
  go_ret
  exact ⟨rfl, (Below.refl _ _).alloc (Nat.le_refl _) _⟩
theorem maybe_no (lo hi : Int) (h : ¬ okR (lo, hi)) (w : World) :
    Calls Try.prog 64 #[.agg #[.int .i64 lo, .int .i64 hi]] w fun e w' => e = .returned (.bool false) ∧ Below w.heap.size w w' := by
  have hc : lo < 0 ∨ hi < lo ∨ 4611686018427387903 < hi := by
    by_cases a : lo < 0
    · exact .inl a
    by_cases b : hi < lo
    · exact .inr (.inl b)
    by_cases c : 4611686018427387903 < hi
    · exact .inr (.inr c)
    exact (h ⟨by simp only; omega, by simp only; omega, by simp only; omega⟩).elim
  clear h
  by_cases a : lo < 0
  · go_enter Try.func64, Try.ntmps64
    go_wp2
    go_ret
    exact ⟨rfl, (Below.refl _ _).alloc (Nat.le_refl _) _⟩
  by_cases b : hi < lo
  · go_enter Try.func64, Try.ntmps64
    go_wp2
    go_ret
    exact ⟨rfl, (Below.refl _ _).alloc (Nat.le_refl _) _⟩
  have c : decide (hi ≤ 4611686018427387903) = false := by simp; omega
  go_enter Try.func64, Try.ntmps64
  go_wp2
  go_ret
  exact ⟨rfl, (Below.refl _ _).alloc (Nat.le_refl _) _⟩

/-- what Check says of a set -/
def ckV (ps : List (Int × Int)) : Int := if okL ps then 0 else 3
def CheckPost (ps : List (Int × Int)) (w : World) (e : Ending) (w' : World) : Prop := e = .returned (.int .i64 (ckV ps)) ∧ Below w.heap.size w w'

theorem check_any (A : Option Addr) (len cap : Nat) (ps : List (Int × Int)) (w : World) (h : RRow w w.heap.size A ps) (hl : ps.length = len) (hm : len ≤ 9223372036854775807) :
    Calls Try.prog 45 #[.slice A len cap] w (CheckPost ps w) := by
  have HR := Lib.hid h
  have HL := Lib.hid hl
  clear h hl
  go_enter Try.func45, Try.ntmps45
  go_wp2
  go_loopw [7] (fun i wr => ∃ k : Nat, k ≤ len ∧ i = .int .i64 k ∧ Below w.heap.size w wr ∧ Hid (okL (ps.take k))) (fun i _ => len - (intOf i).toNat)
  case atStart => exact ⟨0, Nat.zero_le _, rfl, Below.refl _ _, trivial⟩
  case round =>
    obtain ⟨k, hk, rfl, hb, HO⟩ := hrel
    have HB := Lib.hid hb
    clear hb
    by_cases hlt : k < len
    · obtain ⟨b, off, rfl, hbb, hc⟩ := (HR.out.below HB.out) (by rw [HL.out]; omega)
      obtain ⟨c0, c1⟩ := hc k (by rw [HL.out]; omega)
      have cp := fun h0 : 0 < k => (hc (k - 1) (by rw [HL.out]; omega)).2
      have HS := Lib.hid (ok_step ps k (by rw [HL.out]; omega))
      obtain ⟨⟨lo, hi⟩, hp⟩ : ∃ p, ps.getD k (0, 0) = p := ⟨_, rfl⟩
      rw [hp] at c0 c1 HS
      simp only at c0 c1
      have hbw := HB.out.size
      clear hc hp
      by_cases hr : okR (lo, hi)
      · have HK := Lib.hid hr
        clear hr
        by_cases h0 : 0 < k
        · have cq := cp h0
          obtain ⟨⟨plo, phi⟩, hq⟩ : ∃ p, ps.getD (k - 1) (0, 0) = p := ⟨_, rfl⟩
          have pk := ok_get HO.out (k - 1) (by rw [List.length_take, HL.out]; omega)
          rw [getR_take (by omega), hq] at pk
          rw [hq] at cq HS
          simp only at cq HS
          have p1 : phi ≤ 4611686018427387903 := pk.2.2
          have p2 : 0 ≤ phi := Int.le_trans pk.1 pk.2.1
          clear cp hq pk
          have g1 : decide ((0 : Int) < (k : Int)) = true := by simp; omega
          have g2 : decide (0 < k) = true := by simp; omega
          have i0 : (0 : Int) ≤ (k : Int) - 1 := by omega
          have i1 : (k : Int) - 1 < (len : Int) := by omega
          have i2 : ((k : Int) - 1).toNat = k - 1 := by omega
          go_wp2
          have d0 := Ext.cell (W := wr.alloc (.cells #[.int .i64 lo, .int .i64 hi] 63)) (p := ⟨wr.heap.size, 0, none⟩) (v := .int .i64 lo) (by simp)
          have d1 := Ext.cell (W := wr.alloc (.cells #[.int .i64 lo, .int .i64 hi] 63)) (p := ⟨wr.heap.size, 1, none⟩) (v := .int .i64 hi) (by simp)
          have d2 := Ext.cell (W := wr.alloc (.cells #[.int .i64 lo, .int .i64 hi] 63)) (p := ⟨b, off + (k - 1) * 2 + 1, none⟩) (v := .int .i64 phi) (by rw [World.cell?_alloc_lt _ _ _ (by simp; omega)]; exact cq)
          refine wp_region_ext (by kernel_rfl) (by kernel_rfl) ?_
          repeat (go_big_quiet_step ((go_at_call 64; exact Ext.call (maybe_yes _ _ HK.out _))))
          refine wpQuiet_nil ?_
          intro w1 hb1
          clear d0 d1 d2
          have HB1 := Lib.hid ((HB.out.alloc hbw _).trans (hb1.mono (by simp; omega)))
          clear hb1
          by_cases hg : phi + 2 ≤ lo
          · have H1 : Hid (okL (ps.take (k + 1))) := HS.out.2 ⟨HO.out, HK.out, fun _ => hg⟩
            have g3 : decide (lo ≤ phi + 1) = false := by simp; omega
            clear h0 cq
            go_wp2
            go_roundw
            case rel => exact ⟨k + 1, by omega, by go_num, HB1.out, H1⟩
            case measure => simp [intOf]; omega
          · have H1 : Hid (ckV ps = 3) := if_neg (ok_not fun h => hg ((HS.out.1 h).2.2 h0))
            have g3 : decide (lo ≤ phi + 1) = true := by simp; omega
            clear h0 cq
            go_wp2
            go_ret
            exact ⟨ret_int H1.out.symm, HB1.out⟩
        · have g1 : decide ((0 : Int) < (k : Int)) = false := by simp; omega
          have g2 : decide (0 < k) = false := by simp; omega
          have H1 : Hid (okL (ps.take (k + 1))) := HS.out.2 ⟨HO.out, HK.out, fun h => absurd h h0⟩
          clear h0 cp
          go_wp2
          have d0 := Ext.cell (W := wr.alloc (.cells #[.int .i64 lo, .int .i64 hi] 63)) (p := ⟨wr.heap.size, 0, none⟩) (v := .int .i64 lo) (by simp)
          have d1 := Ext.cell (W := wr.alloc (.cells #[.int .i64 lo, .int .i64 hi] 63)) (p := ⟨wr.heap.size, 1, none⟩) (v := .int .i64 hi) (by simp)
          refine wp_region_ext (by kernel_rfl) (by kernel_rfl) ?_
          repeat (go_big_quiet_step ((go_at_call 64; exact Ext.call (maybe_yes _ _ HK.out _))))
          refine wpQuiet_nil ?_
          intro w1 hb1
          clear d0 d1
          have HB1 := Lib.hid ((HB.out.alloc hbw _).trans (hb1.mono (by simp; omega)))
          clear hb1
          go_wp2
          go_roundw
          case rel => exact ⟨k + 1, by omega, by go_num, HB1.out, H1⟩
          case measure => simp [intOf]; omega
      · have HK := Lib.hid hr
        have H1 : Hid (ckV ps = 3) := if_neg (ok_not fun h => HK.out (HS.out.1 h).2.1)
        clear hr cp
        go_wp2
        have d0 := Ext.cell (W := wr.alloc (.cells #[.int .i64 lo, .int .i64 hi] 63)) (p := ⟨wr.heap.size, 0, none⟩) (v := .int .i64 lo) (by simp)
        have d1 := Ext.cell (W := wr.alloc (.cells #[.int .i64 lo, .int .i64 hi] 63)) (p := ⟨wr.heap.size, 1, none⟩) (v := .int .i64 hi) (by simp)
        refine wp_region_ext (by kernel_rfl) (by kernel_rfl) ?_
        repeat (go_big_quiet_step ((go_at_call 64; exact Ext.call (maybe_no _ _ HK.out _))))
        refine wpQuiet_nil ?_
        intro w1 hb1
        clear d0 d1
        have HB1 := Lib.hid ((HB.out.alloc hbw _).trans (hb1.mono (by simp; omega)))
        clear hb1
        go_wp2
        go_ret
        exact ⟨ret_int H1.out.symm, HB1.out⟩
    · have H1 : Hid (ckV ps = 0) := if_pos (by have := HO.out; rwa [List.take_of_length_le (by rw [HL.out]; omega)] at this)
      go_wp2
      go_ret
      exact ⟨ret_int H1.out.symm, HB.out⟩
end Go.Proofs.Ytnccibaifffhhaa
