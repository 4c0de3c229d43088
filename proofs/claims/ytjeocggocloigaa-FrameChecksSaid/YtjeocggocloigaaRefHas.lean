/- The document's answers on frames: has, in. -/
import Derived.Test.YtjeocggocloigaaKinds
import Derived.Test.YtjeocggocloigaaRows
import Derived.WalkLawsBesides
import Derived.WalkSpells
import Derived.Outline
import Derived.Test.YtjeocggocloigaaLow
namespace Go.Proofs.Ytjeocggocloigaa
set_option linter.unusedVariables false
open Go.RowKit P

theorem zeroS (w : World) : (zeroValue 9).run Try.prog w = .ok (.string ⟨#[]⟩) w := by kernel_rfl
theorem refHas_any (k : Int) (hk : (Lit.int .i64 k).wf = true) (w : World) :
    Calls Try.prog 17 #[.int .i64 k] w fun e w' => e = .returned (.tuple #[.string (strOfNums ((partsOf k).getD [])), .bool (partsOf k).isSome]) ∧ Below w.heap.size w w' := by
  have hmm := @run_makeMap Try.prog
  obtain ⟨ws, e0, hr, hl, hb⟩ := kinds_map (P := Try.prog) Try.underlying68 Try.underlying3 Try.underlying9 zeroS w k hk
  have BB := Lib.hid hb
  have u0 : (Instr.mapUpdate 68 (.map (some w.heap.size)) (.int .i64 0) (.string ⟨#[]⟩)).run Try.prog (w.alloc (.map #[] 0)) = .ok () (ws 1) := (e0 ▸ hr 0 (0, []) rfl)
  have u1 : (Instr.mapUpdate 68 (.map (some w.heap.size)) (.int .i64 1) (.string ⟨#[]⟩)).run Try.prog (ws 1) = .ok () (ws 2) := hr 1 (1, []) rfl
  have u2 : (Instr.mapUpdate 68 (.map (some w.heap.size)) (.int .i64 2) (.string ⟨#[114]⟩)).run Try.prog (ws 2) = .ok () (ws 3) := hr 2 (2, [114]) rfl
  have u3 : (Instr.mapUpdate 68 (.map (some w.heap.size)) (.int .i64 4) (.string ⟨#[105, 111, 99]⟩)).run Try.prog (ws 3) = .ok () (ws 4) := hr 3 (4, [105, 111, 99]) rfl
  have u4 : (Instr.mapUpdate 68 (.map (some w.heap.size)) (.int .i64 5) (.string ⟨#[105, 99]⟩)).run Try.prog (ws 4) = .ok () (ws 5) := hr 4 (5, [105, 99]) rfl
  have u5 : (Instr.mapUpdate 68 (.map (some w.heap.size)) (.int .i64 6) (.string ⟨#[111, 100]⟩)).run Try.prog (ws 5) = .ok () (ws 6) := hr 5 (6, [111, 100]) rfl
  have u6 : (Instr.mapUpdate 68 (.map (some w.heap.size)) (.int .i64 7) (.string ⟨#[100]⟩)).run Try.prog (ws 6) = .ok () (ws 7) := hr 6 (7, [100]) rfl
  have u7 : (Instr.mapUpdate 68 (.map (some w.heap.size)) (.int .i64 8) (.string ⟨#[105, 111, 100, 102]⟩)).run Try.prog (ws 7) = .ok () (ws 8) := hr 7 (8, [105, 111, 100, 102]) rfl
  have u8 : (Instr.mapUpdate 68 (.map (some w.heap.size)) (.int .i64 16) (.string ⟨#[111]⟩)).run Try.prog (ws 8) = .ok () (ws 9) := hr 8 (16, [111]) rfl
  have u9 : (Instr.mapUpdate 68 (.map (some w.heap.size)) (.int .i64 17) (.string ⟨#[105, 111]⟩)).run Try.prog (ws 9) = .ok () (ws 10) := hr 9 (17, [105, 111]) rfl
  have u10 : (Instr.mapUpdate 68 (.map (some w.heap.size)) (.int .i64 18) (.string ⟨#[111]⟩)).run Try.prog (ws 10) = .ok () (ws 11) := hr 10 (18, [111]) rfl
  have u11 : (Instr.mapUpdate 68 (.map (some w.heap.size)) (.int .i64 26) (.string ⟨#[119]⟩)).run Try.prog (ws 11) = .ok () (ws 12) := hr 11 (26, [119]) rfl
  have u12 : (Instr.mapUpdate 68 (.map (some w.heap.size)) (.int .i64 27) (.string ⟨#[119]⟩)).run Try.prog (ws 12) = .ok () (ws 13) := hr 12 (27, [119]) rfl
  have u13 : (Instr.mapUpdate 68 (.map (some w.heap.size)) (.int .i64 28) (.string ⟨#[99]⟩)).run Try.prog (ws 13) = .ok () (ws 14) := hr 13 (28, [99]) rfl
  have u14 : (Instr.mapUpdate 68 (.map (some w.heap.size)) (.int .i64 30) (.string ⟨#[]⟩)).run Try.prog (ws 14) = .ok () (ws 15) := hr 14 (30, []) rfl
  generalize ws 1 = w1 at *
  generalize ws 2 = w2 at *
  generalize ws 3 = w3 at *
  generalize ws 4 = w4 at *
  generalize ws 5 = w5 at *
  generalize ws 6 = w6 at *
  generalize ws 7 = w7 at *
  generalize ws 8 = w8 at *
  generalize ws 9 = w9 at *
  generalize ws 10 = w10 at *
  generalize ws 11 = w11 at *
  generalize ws 12 = w12 at *
  generalize ws 13 = w13 at *
  generalize ws 14 = w14 at *
  generalize ws 15 = w15 at *
  obtain ⟨S, hS⟩ : ∃ S, strOfNums ((partsOf k).getD []) = S := ⟨_, rfl⟩
  obtain ⟨b, hB⟩ : ∃ b, (partsOf k).isSome = b := ⟨_, rfl⟩
  rw [hS, hB] at hl ⊢
  clear hr hb e0 hS hB
  go_enter Try.func17, Try.ntmps17
  go_wp2
  go_ret2
  exact ⟨rfl, BB.out⟩

theorem mem_step (zs : List Int) (k : Nat) (h : k < zs.length) (c : Int) : c ∈ zs.take (k + 1) ↔ c ∈ zs.take k ∨ c = zs.getD k 0 := by
  rw [take_snoc zs k h, List.mem_append, List.mem_singleton]
theorem refIn_any (s : ByteArray) (zs : List Int) (hs : s = strOfNums zs) (hb : Byt zs) (h9 : zs.length ≤ 9) (c : Int) (w : World) :
    Calls Try.prog 18 #[.string s, .int .u8 c] w fun e w' => e = .returned (.bool (decide (c ∈ zs))) ∧ w = w' := by
  have hget : ∀ n (h : n < s.size), ((s[n]'h).toNat : Int) = zs.getD n 0 := by subst hs; exact str_get hb
  have hsz : s.size = zs.length := by subst hs; exact strOfNums_size zs
  have h9' : s.size ≤ 9 := by omega
  have HS := Lib.hid hsz
  have HG := Lib.hid hget
  clear hs hsz hb h9 hget
  go_enter Try.func18, Try.ntmps18
  go_wp2
  go_loop [5] (fun i => ∃ k : Nat, k ≤ s.size ∧ i = .int .i64 k ∧ Hid (c ∉ zs.take k)) (fun i => s.size - (intOf i).toNat)
  case atStart => exact ⟨0, Nat.zero_le _, rfl, by intro h; simp at h⟩
  case round =>
    obtain ⟨k, hk, rfl, HM⟩ := hrel
    by_cases hlt : k < s.size
    · have hx := HG.out k hlt
      have HT := Lib.hid (mem_step zs k (by rw [← HS.out]; exact hlt) c)
      obtain ⟨z, hz⟩ : ∃ z, zs.getD k 0 = z := ⟨_, rfl⟩
      rw [hz] at hx HT
      clear hz
      by_cases hc : z = c
      · have hv := Lib.hid (show decide (c ∈ zs) = true from decide_eq_true (List.mem_of_mem_take (HT.out.2 (.inr hc.symm))))
        go_wp2
        go_ret
        exact ⟨by rw [hv.out]; rfl, rfl⟩
      · have H1 : Hid (c ∉ zs.take (k + 1)) := Lib.hid (fun h => by
          rcases HT.out.1 h with h | h
          · exact HM.out h
          · exact hc h.symm)
        go_wp2
        go_round
        case rel => exact ⟨k + 1, by omega, by go_num, H1⟩
        case measure => simp [intOf]; omega
    · have hv := Lib.hid (show decide (c ∈ zs) = false from decide_eq_false (by
        have := HM.out
        rwa [List.take_of_length_le (by rw [← HS.out]; omega)] at this))
      go_wp2
      go_ret
      exact ⟨by rw [hv.out]; rfl, rfl⟩
end Go.Proofs.Ytjeocggocloigaa
