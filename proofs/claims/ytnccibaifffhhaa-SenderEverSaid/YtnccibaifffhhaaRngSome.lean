/- Contracts of package ranges: some, has, Has, refuse. -/
import Derived.Test.YtnccibaifffhhaaRngChk
namespace Go.Proofs.Ytnccibaifffhhaa
set_option linter.unusedVariables false
open Go.RowKit P

theorem infoR : (Try.prog.info? 63).map (fun i => (i.zero, i.size, i.bytes)) = some (some (.agg #[.int .i64 0, .int .i64 0]), 2, 16) := by kernel_rfl

/-- what 'some' hands back -/
def SomePost (base : Nat) (v : Value) (qs : List (Int × Int)) (w : World) (e : Ending) (w' : World) : Prop :=
  ∃ v', e = .returned v' ∧ OwnR w' base 63 v' qs ∧ GrowR base w w' v

theorem some_any (base : Nat) (v : Value) (qs : List (Int × Int)) (lo hi : Int) (w : World) (h : OwnR w base 63 v qs) (hb : base ≤ w.heap.size) (hl : (qs.length + 1) * 16 ≤ 140737488355328) :
    Calls Try.prog 59 #[v, .int .i64 lo, .int .i64 hi] w (SomePost base v (qs ++ sm lo hi) w) := by
  obtain ⟨i0, hi0, hz0, hz1, hz2⟩ := info_parts infoR
  have HI := Lib.hid hi0
  have HZ := Lib.hid hz0
  have HZ1 := Lib.hid hz1
  have HZ2 := Lib.hid hz2
  have HO := Lib.hid h
  clear h hi0 hz0 hz1 hz2
  by_cases hc : hi < lo
  · have e0 := Lib.hid (show qs ++ sm lo hi = qs by rw [show sm lo hi = [] from if_neg (by omega)]; simp)
    go_enter Try.func59, Try.ntmps59
    go_wp2
    go_ret
    exact ⟨v, rfl, by rw [e0.out]; exact HO.out, GrowR.refl _ _ _⟩
  · have e0 := Lib.hid (show qs ++ sm lo hi = qs ++ [(lo, hi)] by rw [show sm lo hi = [(lo, hi)] from if_pos (by omega)])
    go_enter Try.func59, Try.ntmps59
    go_wp2_with (first
      | (at_builtin
         refine wpList_append_own _ rfl (.tmp 11) (.tmp 15) _ rfl base 63 i0 _ 2 16 Try.underlying25 HI.out HZ.out HZ1.out HZ2.out rfl (by omega) v qs.length (cellsR qs) rfl (HO.out.alloc _) ⟨w.heap.size, 0, none⟩ 1 1 (cellsR [(lo, hi)]) rfl rfl (cells_new _ _ _ _) (cellsR_one _) (by unfold maxLen; omega) (by omega) (by simp; omega) ?_
         intro v2 w2 own2 g2 at2))
    go_ret
    refine ⟨v2, rfl, ?_, GrowR.of _ HO.out hb g2⟩
    rw [e0.out]
    unfold OwnR
    rw [cellsR_app, List.length_append]
    exact own2

theorem mem_drop_hit {ps : List (Int × Int)} {k : Nat} {n : Int} (hk : k < ps.length) (hok : okL ps) (h : n ≤ (ps.getD k (0, 0)).2) : mem (ps.drop k) n ↔ (ps.getD k (0, 0)).1 ≤ n := by
  have h1 := okFrom_drop hok (by omega) k
  rw [dropR_cons ps k hk] at h1 ⊢
  simp only [mem, inR]
  refine ⟨fun h' => ?_, fun h' => .inl ⟨h', h⟩⟩
  rcases h' with h' | h'
  · exact h'.1
  · have := mem_above h1.2.2 h'; omega
theorem mem_drop_miss {ps : List (Int × Int)} {k : Nat} {n : Int} (hk : k < ps.length) (h : (ps.getD k (0, 0)).2 < n) : mem (ps.drop k) n ↔ mem (ps.drop (k + 1)) n := by
  rw [dropR_cons ps k hk]
  simp only [mem, inR]
  exact ⟨fun h' => h'.elim (fun h'' => by omega) id, .inr⟩

/-- a number is in a set, as a value -/
def hasB (ps : List (Int × Int)) (n : Int) : Bool := decide (mem ps n)
def HasPost (b : Bool) (w : World) (e : Ending) (w' : World) : Prop := e = .returned (.bool b) ∧ Below w.heap.size w w'

theorem has_any (A : Option Addr) (len cap : Nat) (ps : List (Int × Int)) (n : Int) (w : World) (h : RRow w w.heap.size A ps) (hl : ps.length = len) (hok : okL ps) (hm : len ≤ 9223372036854775807) :
    Calls Try.prog 74 #[.slice A len cap, .int .i64 n] w (HasPost (hasB ps n) w) := by
  have HR := Lib.hid h
  have HL := Lib.hid hl
  have HO := Lib.hid hok
  clear h hl hok
  go_enter Try.func74, Try.ntmps74
  go_wp2
  go_loopw [9] (fun i wr => ∃ k : Nat, k ≤ len ∧ i = .int .i64 k ∧ Below w.heap.size w wr ∧ Hid (mem ps n ↔ mem (ps.drop k) n)) (fun i _ => len - (intOf i).toNat)
  case atStart => exact ⟨0, Nat.zero_le _, rfl, Below.refl _ _, Iff.rfl⟩
  case round =>
    obtain ⟨k, hk, rfl, hb, HM⟩ := hrel
    have HB := Lib.hid hb
    clear hb
    have hbw := HB.out.size
    by_cases hlt : k < len
    · obtain ⟨b, off, rfl, hbb, hc⟩ := (HR.out.below HB.out) (by rw [HL.out]; omega)
      obtain ⟨c0, c1⟩ := hc k (by rw [HL.out]; omega)
      have h1 := Lib.hid (fun h => mem_drop_hit (n := n) (by rw [HL.out]; omega : k < ps.length) HO.out h)
      have h2 := Lib.hid (fun h => mem_drop_miss (n := n) (by rw [HL.out]; omega : k < ps.length) h)
      obtain ⟨⟨lo, hi⟩, hp⟩ : ∃ p, ps.getD k (0, 0) = p := ⟨_, rfl⟩
      rw [hp] at c0 c1 h1 h2
      simp only at c0 c1 h1 h2
      clear hc hp
      have HB1 := Lib.hid (HB.out.alloc hbw (.cells #[.int .i64 lo, .int .i64 hi] 63))
      by_cases hn : n ≤ hi
      · have HE := Lib.hid (HM.out.trans (h1.out hn))
        clear h1 h2
        by_cases hlo : lo ≤ n
        · have HE2 := Lib.hid (show hasB ps n = true from decide_eq_true (HE.out.2 hlo))
          go_wp2
          go_ret
          exact ⟨by rw [HE2.out]; rfl, HB1.out⟩
        · have HE2 := Lib.hid (show hasB ps n = false from decide_eq_false (fun h => hlo (HE.out.1 h)))
          have g1 : decide (lo ≤ n) = false := decide_eq_false hlo
          go_wp2
          go_ret
          exact ⟨by rw [HE2.out]; rfl, HB1.out⟩
      · have HE := Lib.hid (HM.out.trans (h2.out (by omega)))
        clear h1 h2
        go_wp2
        go_roundw
        case rel => exact ⟨k + 1, by omega, by go_num, HB1.out, HE⟩
        case measure => simp [intOf]; omega
    · have HE2 := Lib.hid (show hasB ps n = false from decide_eq_false (fun h => by have := HM.out.1 h; rw [List.drop_eq_nil_of_le (by rw [HL.out]; omega)] at this; exact this))
      go_wp2
      go_ret
      exact ⟨by rw [HE2.out]; rfl, HB.out⟩

/-- what Has says -/
def HasE (ps : List (Int × Int)) (n : Int) : Value := if okL ps then .tuple #[.bool (hasB ps n), .int .i64 0] else .tuple #[.bool false, .int .i64 3]
def HasEPost (ps : List (Int × Int)) (n : Int) (w : World) (e : Ending) (w' : World) : Prop := e = .returned (HasE ps n) ∧ Below w.heap.size w w'

/-- what 'refuse' says of a set and a range -/
def rfV (ps : List (Int × Int)) (r : Int × Int) : Int := if okL ps then (if okR r then 0 else 6) else 3
def RefusePost (ps : List (Int × Int)) (r : Int × Int) (w : World) (e : Ending) (w' : World) : Prop := e = .returned (.int .i64 (rfV ps r)) ∧ Below w.heap.size w w'

theorem refuse_any (A : Option Addr) (len cap : Nat) (ps : List (Int × Int)) (lo hi : Int) (w : World) (h : RRow w w.heap.size A ps) (hl : ps.length = len) (hm : len ≤ 9223372036854775807) :
    Calls Try.prog 58 #[.slice A len cap, .agg #[.int .i64 lo, .int .i64 hi]] w (RefusePost ps (lo, hi) w) := by
  have HR := Lib.hid (h.on ((Below.refl _ _).alloc (Nat.le_refl _) (.cells #[.int .i64 lo, .int .i64 hi] 63)))
  have HL := Lib.hid hl
  have HW := Lib.hid ((Below.refl w.heap.size w).alloc (Nat.le_refl _) (.cells #[.int .i64 lo, .int .i64 hi] 63))
  clear h hl
  by_cases hok : okL ps
  · have c0 := Lib.hid (show ckV ps = 0 from if_pos hok)
    by_cases hr : okR (lo, hi)
    · have HE := Lib.hid (show rfV ps (lo, hi) = 0 from (if_pos hok).trans (if_pos hr))
      have HK := Lib.hid hr
      clear hok hr
      go_enter Try.func58, Try.ntmps58
      go_wp2_with (first
        | (go_at_call 45; refine (check_any _ _ _ _ _ HR.out HL.out hm).mono ?_; rintro e w1 ⟨rfl, hb1⟩; have d0 := (hb1.cell (p := ⟨w.heap.size, 0, none⟩) (by simp)).trans (by simp : _ = some (.int .i64 lo)); have d1 := (hb1.cell (p := ⟨w.heap.size, 1, none⟩) (by simp)).trans (by simp : _ = some (.int .i64 hi)); have HB1 := Lib.hid (HW.out.trans (hb1.mono (by simp))); clear hb1; rw [c0.out])
        | (go_at_call 64; refine (maybe_yes _ _ HK.out _).mono ?_; rintro e w2 ⟨rfl, hb2⟩; have HB2 := Lib.hid (HB1.out.trans (hb2.mono HB1.out.size)); clear hb2))
      go_ret
      exact ⟨ret_int HE.out.symm, HB2.out⟩
    · have HE := Lib.hid (show rfV ps (lo, hi) = 6 from (if_pos hok).trans (if_neg hr))
      have HK := Lib.hid hr
      clear hok hr
      go_enter Try.func58, Try.ntmps58
      go_wp2_with (first
        | (go_at_call 45; refine (check_any _ _ _ _ _ HR.out HL.out hm).mono ?_; rintro e w1 ⟨rfl, hb1⟩; have d0 := (hb1.cell (p := ⟨w.heap.size, 0, none⟩) (by simp)).trans (by simp : _ = some (.int .i64 lo)); have d1 := (hb1.cell (p := ⟨w.heap.size, 1, none⟩) (by simp)).trans (by simp : _ = some (.int .i64 hi)); have HB1 := Lib.hid (HW.out.trans (hb1.mono (by simp))); clear hb1; rw [c0.out])
        | (go_at_call 64; refine (maybe_no _ _ HK.out _).mono ?_; rintro e w2 ⟨rfl, hb2⟩; have HB2 := Lib.hid (HB1.out.trans (hb2.mono HB1.out.size)); clear hb2))
      go_ret
      exact ⟨ret_int HE.out.symm, HB2.out⟩
  · have c0 := Lib.hid (show ckV ps = 3 from if_neg hok)
    have HE := Lib.hid (show rfV ps (lo, hi) = 3 from if_neg hok)
    clear hok
    go_enter Try.func58, Try.ntmps58
    go_wp2_with (first
      | (go_at_call 45; refine (check_any _ _ _ _ _ HR.out HL.out hm).mono ?_; rintro e w1 ⟨rfl, hb1⟩; have HB1 := Lib.hid (HW.out.trans (hb1.mono (by simp))); clear hb1; rw [c0.out]))
    go_ret
    exact ⟨ret_int HE.out.symm, HB1.out⟩
end Go.Proofs.Ytnccibaifffhhaa
