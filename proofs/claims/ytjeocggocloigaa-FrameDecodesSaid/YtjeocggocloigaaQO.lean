/- Texts of the proofs, joined. -/
import Derived.Test.YtjeocggocloigaaQB
import Derived.Test.YtjeocggocloigaaRows
import Derived.WalkLawsBesides
import Derived.WalkSpells
import Derived.Outline
import Derived.Test.YtjeocggocloigaaQA
import Derived.Handy
import Derived.Deep.LoopGhost
import Derived.Test.YtjeocggocloigaaQD
import Derived.Deep.RegionWith
import Derived.Deep.RegionHeld3
/- The document's answers on frames: has, in. -/
namespace Go.Proofs.Ytjeocggocloigaa
set_option linter.unusedVariables false
open Go.RowKit P

theorem zeroS (w : World) : (zeroValue 9).run Try.prog w = .ok (.string ⟨#[]⟩) w := by kernel_rfl
theorem refHas_any (k : Int) (hk : (Lit.int .i64 k).wf = true) (w : World) :
    Calls Try.prog 17 #[.int .i64 k] w fun e w' => e = .returned (.tuple #[.string (strOfNums ((partsOf k).getD [])), .bool (partsOf k).isSome]) ∧ Below w.heap.size w w' := by
  have hmm := @run_makeMap Try.prog
  obtain ⟨ws, e0, hr, hl, hb⟩ := kinds_map (P := Try.prog) Try.underlying68 Try.underlying3 Try.underlying9 zeroS w k hk
  have BB := Lib.hid hb
  have u0 : (Instr.mapUpdate 68 (.map (some w.heap.size)) (.int .i64 0) (.string ⟨#[]⟩)).run Try.prog (w.alloc (.map #[] 0)) = .ok () (ws 1) := (e0 ▸ hr 0 (0, []) rfl)
  have u1 : (Instr.mapUpdate 68 (.map (some w.heap.size)) (.int .i64 1) (.string ⟨#[]⟩)).run Try.prog (ws 1) = .ok () (ws 2) := hr 1 (1, []) rfl
  have u2 : (Instr.mapUpdate 68 (.map (some w.heap.size)) (.int .i64 2) (.string ⟨#[114]⟩)).run Try.prog (ws 2) = .ok () (ws 3) := hr 2 (2, [114]) rfl
  have u3 : (Instr.mapUpdate 68 (.map (some w.heap.size)) (.int .i64 4) (.string ⟨#[105, 111, 99]⟩)).run Try.prog (ws 3) = .ok () (ws 4) := hr 3 (4, [105, 111, 99]) rfl
  have u4 : (Instr.mapUpdate 68 (.map (some w.heap.size)) (.int .i64 5) (.string ⟨#[105, 99]⟩)).run Try.prog (ws 4) = .ok () (ws 5) := hr 4 (5, [105, 99]) rfl
  have u5 : (Instr.mapUpdate 68 (.map (some w.heap.size)) (.int .i64 6) (.string ⟨#[111, 100]⟩)).run Try.prog (ws 5) = .ok () (ws 6) := hr 5 (6, [111, 100]) rfl
  have u6 : (Instr.mapUpdate 68 (.map (some w.heap.size)) (.int .i64 7) (.string ⟨#[100]⟩)).run Try.prog (ws 6) = .ok () (ws 7) := hr 6 (7, [100]) rfl
  have u7 : (Instr.mapUpdate 68 (.map (some w.heap.size)) (.int .i64 8) (.string ⟨#[105, 111, 100, 102]⟩)).run Try.prog (ws 7) = .ok () (ws 8) := hr 7 (8, [105, 111, 100, 102]) rfl
  have u8 : (Instr.mapUpdate 68 (.map (some w.heap.size)) (.int .i64 16) (.string ⟨#[111]⟩)).run Try.prog (ws 8) = .ok () (ws 9) := hr 8 (16, [111]) rfl
  have u9 : (Instr.mapUpdate 68 (.map (some w.heap.size)) (.int .i64 17) (.string ⟨#[105, 111]⟩)).run Try.prog (ws 9) = .ok () (ws 10) := hr 9 (17, [105, 111]) rfl
  have u10 : (Instr.mapUpdate 68 (.map (some w.heap.size)) (.int .i64 18) (.string ⟨#[111]⟩)).run Try.prog (ws 10) = .ok () (ws 11) := hr 10 (18, [111]) rfl
  have u11 : (Instr.mapUpdate 68 (.map (some w.heap.size)) (.int .i64 26) (.string ⟨#[119]⟩)).run Try.prog (ws 11) = .ok () (ws 12) := hr 11 (26, [119]) rfl
  have u12 : (Instr.mapUpdate 68 (.map (some w.heap.size)) (.int .i64 27) (.string ⟨#[119]⟩)).run Try.prog (ws 12) = .ok () (ws 13) := hr 12 (27, [119]) rfl
  have u13 : (Instr.mapUpdate 68 (.map (some w.heap.size)) (.int .i64 28) (.string ⟨#[99]⟩)).run Try.prog (ws 13) = .ok () (ws 14) := hr 13 (28, [99]) rfl
  have u14 : (Instr.mapUpdate 68 (.map (some w.heap.size)) (.int .i64 30) (.string ⟨#[]⟩)).run Try.prog (ws 14) = .ok () (ws 15) := hr 14 (30, []) rfl
  generalize ws 1 = w1 at *
  generalize ws 2 = w2 at *
  generalize ws 3 = w3 at *
  generalize ws 4 = w4 at *
  generalize ws 5 = w5 at *
  generalize ws 6 = w6 at *
  generalize ws 7 = w7 at *
  generalize ws 8 = w8 at *
  generalize ws 9 = w9 at *
  generalize ws 10 = w10 at *
  generalize ws 11 = w11 at *
  generalize ws 12 = w12 at *
  generalize ws 13 = w13 at *
  generalize ws 14 = w14 at *
  generalize ws 15 = w15 at *
  obtain ⟨S, hS⟩ : ∃ S, strOfNums ((partsOf k).getD []) = S := ⟨_, rfl⟩
  obtain ⟨b, hB⟩ : ∃ b, (partsOf k).isSome = b := ⟨_, rfl⟩
  rw [hS, hB] at hl ⊢
  clear hr hb e0 hS hB
  go_enter Try.func17, Try.ntmps17
  go_wp2
  go_ret2
  exact ⟨rfl, BB.out⟩

theorem mem_step (zs : List Int) (k : Nat) (h : k < zs.length) (c : Int) : c ∈ zs.take (k + 1) ↔ c ∈ zs.take k ∨ c = zs.getD k 0 := by
  rw [take_snoc zs k h, List.mem_append, List.mem_singleton]
theorem refIn_any (s : ByteArray) (zs : List Int) (hs : s = strOfNums zs) (hb : Byt zs) (h9 : zs.length ≤ 9) (c : Int) (w : World) :
    Calls Try.prog 18 #[.string s, .int .u8 c] w fun e w' => e = .returned (.bool (decide (c ∈ zs))) ∧ w = w' := by
  have hget : ∀ n (h : n < s.size), ((s[n]'h).toNat : Int) = zs.getD n 0 := by subst hs; exact str_get hb
  have hsz : s.size = zs.length := by subst hs; exact strOfNums_size zs
  have h9' : s.size ≤ 9 := by omega
  have HS := Lib.hid hsz
  have HG := Lib.hid hget
  clear hs hsz hb h9 hget
  go_enter Try.func18, Try.ntmps18
  go_wp2
  go_loop [5] (fun i => ∃ k : Nat, k ≤ s.size ∧ i = .int .i64 k ∧ Hid (c ∉ zs.take k)) (fun i => s.size - (intOf i).toNat)
  case atStart => exact ⟨0, Nat.zero_le _, rfl, by intro h; simp at h⟩
  case round =>
    obtain ⟨k, hk, rfl, HM⟩ := hrel
    by_cases hlt : k < s.size
    · have hx := HG.out k hlt
      have HT := Lib.hid (mem_step zs k (by rw [← HS.out]; exact hlt) c)
      obtain ⟨z, hz⟩ : ∃ z, zs.getD k 0 = z := ⟨_, rfl⟩
      rw [hz] at hx HT
      clear hz
      by_cases hc : z = c
      · have hv := Lib.hid (show decide (c ∈ zs) = true from decide_eq_true (List.mem_of_mem_take (HT.out.2 (.inr hc.symm))))
        go_wp2
        go_ret
        exact ⟨by rw [hv.out]; rfl, rfl⟩
      · have H1 : Hid (c ∉ zs.take (k + 1)) := Lib.hid (fun h => by
          rcases HT.out.1 h with h | h
          · exact HM.out h
          · exact hc h.symm)
        go_wp2
        go_round
        case rel => exact ⟨k + 1, by omega, by go_num, H1⟩
        case measure => simp [intOf]; omega
    · have hv := Lib.hid (show decide (c ∈ zs) = false from decide_eq_false (by
        have := HM.out
        rwa [List.take_of_length_le (by rw [← HS.out]; omega)] at this))
      go_wp2
      go_ret
      exact ⟨by rw [hv.out]; rfl, rfl⟩
end Go.Proofs.Ytjeocggocloigaa
/- The document's answers on numbers and ranges: upTo, isRange. -/
namespace Go.Proofs.Ytjeocggocloigaa
set_option linter.unusedVariables false
open Go.RowKit P

theorem upto_yes (n m : Int) (h0 : 0 ≤ n) (h1 : n ≤ m) (w : World) :
    Calls Try.prog 19 #[.int .i64 n, .int .i64 m] w fun e w' => e = .returned (.bool true) ∧ w = w' := by
  go_enter Try.func19, Try.ntmps19
  go_wp2
  go_ret
  exact ⟨rfl, rfl⟩
theorem upto_no (n m : Int) (h : n < 0 ∨ m < n) (w : World) :
    Calls Try.prog 19 #[.int .i64 n, .int .i64 m] w fun e w' => e = .returned (.bool false) ∧ w = w' := by
  by_cases a : n < 0
  · have g : decide (0 ≤ n) = false := by simp; omega
    go_enter Try.func19, Try.ntmps19
    go_wp2
    go_ret
    exact ⟨rfl, rfl⟩
  · have g : decide (0 ≤ n) = true := by simp; omega
    have g2 : decide (n ≤ m) = false := by simp; omega
    clear h
    go_enter Try.func19, Try.ntmps19
    go_wp2
    go_ret
    exact ⟨rfl, rfl⟩

theorem isrange_yes (lo hi : Int) (h : okR (lo, hi)) (w : World) :
    Calls Try.prog 20 #[.agg #[.int .i64 lo, .int .i64 hi]] w fun e w' => e = .returned (.bool true) ∧ Below w.heap.size w w' := by
  obtain ⟨h0, h1, h2⟩ := h
  simp only at h0 h1 h2
  go_enter Try.func20, Try.ntmps20
  go_wp2_with (go_at_call 19; refine (upto_yes _ _ h0 h1 _).mono ?_; rintro e w' ⟨rfl, rfl⟩)
  go_ret
  exact ⟨rfl, (Below.refl _ _).alloc (Nat.le_refl _) _⟩
theorem isrange_no (lo hi : Int) (h : ¬ okR (lo, hi)) (w : World) :
    Calls Try.prog 20 #[.agg #[.int .i64 lo, .int .i64 hi]] w fun e w' => e = .returned (.bool false) ∧ Below w.heap.size w w' := by
  by_cases a : lo < 0 ∨ hi < lo
  · go_enter Try.func20, Try.ntmps20
    go_wp2_with (go_at_call 19; refine (upto_no _ _ a _).mono ?_; rintro e w' ⟨rfl, rfl⟩)
    go_ret
    exact ⟨rfl, (Below.refl _ _).alloc (Nat.le_refl _) _⟩
  · have h0 : 0 ≤ lo := by omega
    have h1 : lo ≤ hi := by omega
    have g : decide (hi ≤ 4611686018427387903) = false := decide_eq_false fun h2 => h ⟨h0, h1, h2⟩
    clear a h
    go_enter Try.func20, Try.ntmps20
    go_wp2_with (go_at_call 19; refine (upto_yes _ _ h0 h1 _).mono ?_; rintro e w' ⟨rfl, rfl⟩)
    go_ret
    exact ⟨rfl, (Below.refl _ _).alloc (Nat.le_refl _) _⟩

end Go.Proofs.Ytjeocggocloigaa
/- What Check says, as the document's answers reckon it. Nothing of the program's. -/
namespace Go.Proofs.Ytjeocggocloigaa.P
set_option linter.unusedVariables false

def inS (s : List Int) (c : Int) : Bool := decide (c ∈ s)
def upB (n m : Int) : Bool := decide (0 ≤ n) && decide (n ≤ m)
def nbV (h : Bool) (n : Int) : Bool := !upB n 4611686018427387903 || (!h && !(n == 0))
theorem nbV_eq (h : Bool) (n : Int) : numBad h n = nbV h n := by
  unfold numBad nbV upB
  by_cases e : n = 0
  · subst e; simp
  · have : (n == 0) = false := by simp [e]
    rw [this]; simp [e]
theorem faultR {f : Fr} {s : List Int} (h : partsOf f.kind = some s) (c1 : f.data.length ≤ 120) (c2 : f.rs.length ≤ 6) :
    faultF f = if (nbV (inS s 105) f.id || nbV (inS s 111) f.off || nbV (inS s 99 || inS s 119) f.code) = true then 6 else if (inS s 100 && decide (4611686018427387903 < f.off + f.data.length)) = true then 6
      else if ((decide (0 < f.rs.length) == inS s 114) && decide (downL f.rs) && !(decide (0 < f.data.length) && !inS s 100) && !(f.fin && !inS s 102)) = true then 0 else 3 := by
  unfold faultF
  rw [h]
  simp only
  rw [if_neg (by omega)]
  simp only [nbV_eq]
  unfold inS
  by_cases k1 : nbV (decide (105 ∈ s)) f.id = true ∨ nbV (decide (111 ∈ s)) f.off = true ∨ nbV (decide (99 ∈ s) || decide (119 ∈ s)) f.code = true
  · rw [if_pos k1, if_pos (by rcases k1 with e | e | e <;> simp [e])]
  rw [if_neg k1]
  have k1' : (nbV (decide (105 ∈ s)) f.id || nbV (decide (111 ∈ s)) f.off || nbV (decide (99 ∈ s) || decide (119 ∈ s)) f.code) = false := by
    simp only [not_or, Bool.not_eq_true] at k1
    simp [k1.1, k1.2.1, k1.2.2]
  rw [k1']
  rw [if_neg (by decide : ¬ false = true)]
  have ho : 111 ∉ s → f.off = 0 := fun hs => by
    have : nbV (decide (111 ∈ s)) f.off = false := by
      simp only [not_or, Bool.not_eq_true] at k1
      exact k1.2.1
    unfold nbV at this
    simp [hs] at this
    exact this.2
  by_cases k2 : 111 ∈ s ∧ 100 ∈ s ∧ 4611686018427387903 < f.off + f.data.length
  · rw [if_pos k2, if_pos (by simp only [Bool.and_eq_true, decide_eq_true_eq]; exact k2.2)]
  rw [if_neg k2]
  have k2' : (decide (100 ∈ s) && decide (4611686018427387903 < f.off + (f.data.length : Int))) = false := by
    by_cases a : 100 ∈ s
    · have : ¬ 4611686018427387903 < f.off + (f.data.length : Int) := fun b => by
        by_cases c : 111 ∈ s
        · exact k2 ⟨c, a, b⟩
        · have := ho c; omega
      simp [a, this]
    · simp [a]
  rw [k2', if_neg (by decide : ¬ false = true)]
  by_cases k3 : decide (0 < f.rs.length) ≠ decide (114 ∈ s) ∨ ¬ downL f.rs ∨ (0 < f.data.length ∧ 100 ∉ s) ∨ (f.fin = true ∧ 102 ∉ s)
  · rw [if_pos k3]
    have : ((decide (0 < f.rs.length) == decide (114 ∈ s)) && decide (downL f.rs) && !(decide (0 < f.data.length) && !decide (100 ∈ s)) && !(f.fin && !decide (102 ∈ s))) = false := by
      rcases k3 with e | e | e | e
      · have : (decide (0 < f.rs.length) == decide (114 ∈ s)) = false := by simpa using e
        rw [this]; rfl
      · simp [e]
      · simp [e.1, e.2]
      · simp [e.1, e.2]
    rw [this]; rfl
  · rw [if_neg k3]
    have d1 : decide (0 < f.rs.length) = decide (114 ∈ s) := Decidable.byContradiction fun e => k3 (.inl e)
    have d2 : downL f.rs := Decidable.byContradiction fun e => k3 (.inr (.inl e))
    have d3 : (decide (0 < f.data.length) && !decide (100 ∈ s)) = false := by
      by_cases a : 0 < f.data.length
      · by_cases b : 100 ∈ s
        · simp [b]
        · exact absurd (.inr (.inr (.inl ⟨a, b⟩))) k3
      · simp [a]
    have d4 : (f.fin && !decide (102 ∈ s)) = false := by
      cases a : f.fin
      · rfl
      · by_cases b : 102 ∈ s
        · simp [b]
        · exact absurd (.inr (.inr (.inr ⟨a, b⟩))) k3
    rw [d1, d3, d4]
    simp [d2]
end Go.Proofs.Ytjeocggocloigaa.P
/- The document's answers on frames: FrameFault. -/
namespace Go.Proofs.Ytjeocggocloigaa
set_option linter.unusedVariables false
open Go.RowKit P

theorem refHas_some {k : Int} {s : List Int} (hp : partsOf k = some s) (hk : (Lit.int .i64 k).wf = true) (w : World) :
    Calls Try.prog 17 #[.int .i64 k] w fun e w' => e = .returned (.tuple #[.string (strOfNums s), .bool true]) ∧ Below w.heap.size w w' := by
  have := refHas_any k hk w
  rw [hp] at this
  exact this
theorem refHas_none {k : Int} (hp : partsOf k = none) (hk : (Lit.int .i64 k).wf = true) (w : World) :
    Calls Try.prog 17 #[.int .i64 k] w fun e w' => e = .returned (.tuple #[.string ⟨#[]⟩, .bool false]) ∧ Below w.heap.size w w' := by
  have := refHas_any k hk w
  rw [hp] at this
  exact this
theorem parts_byt {k : Int} {s : List Int} (hp : partsOf k = some s) : Byt s ∧ s.length ≤ 9 := by
  rcases parts_cases hp with ⟨rfl, _⟩ | ⟨rfl, _⟩ | ⟨rfl, _⟩ | ⟨rfl, _⟩ | ⟨rfl, _⟩ | ⟨rfl, _⟩ | ⟨rfl, _⟩ | ⟨rfl, _⟩ | ⟨rfl, _⟩ | ⟨rfl, _⟩ | ⟨rfl, _⟩ <;> exact ⟨byt_all (by decide), by decide⟩
theorem refInS {k : Int} {s : List Int} (hp : partsOf k = some s) (S : ByteArray) (hS : S = strOfNums s) (c : Int) (w : World) : Calls Try.prog 18 #[.string S, .int .u8 c] w fun e w' => e = .returned (.bool (inS s c)) ∧ w = w' := refIn_any S s hS (parts_byt hp).1 (parts_byt hp).2 c w
theorem upto_any (n m : Int) (w : World) :
    Calls Try.prog 19 #[.int .i64 n, .int .i64 m] w fun e w' => e = .returned (.bool (upB n m)) ∧ w = w' := by
  unfold upB
  by_cases h : 0 ≤ n ∧ n ≤ m
  · refine (upto_yes n m h.1 h.2 w).mono ?_
    rintro e w' ⟨rfl, rfl⟩
    exact ⟨by simp [h.1, h.2], rfl⟩
  · refine (upto_no n m (by omega) w).mono ?_
    rintro e w' ⟨rfl, rfl⟩
    refine ⟨?_, rfl⟩
    by_cases h0 : 0 ≤ n
    · have : ¬ n ≤ m := fun h1 => h ⟨h0, h1⟩
      simp [this]
    · simp [h0]
theorem isrange_any (lo hi : Int) (w : World) :
    Calls Try.prog 20 #[.agg #[.int .i64 lo, .int .i64 hi]] w fun e w' => e = .returned (.bool (decide (okR (lo, hi)))) ∧ Below w.heap.size w w' := by
  by_cases h : okR (lo, hi)
  · rw [decide_eq_true h]; exact isrange_yes lo hi h w
  · rw [decide_eq_false h]; exact isrange_no lo hi h w

end Go.Proofs.Ytjeocggocloigaa
