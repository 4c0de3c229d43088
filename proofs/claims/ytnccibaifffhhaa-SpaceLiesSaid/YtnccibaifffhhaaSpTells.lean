/- keep's spaceTells: it holds. -/
import Derived.Test.YtnccibaifffhhaaSpTell
import Derived.Test.YtnccibaifffhhaaSpSend
import Derived.Test.YtnccibaifffhhaaSpCells
import Derived.ChangeKeysEq
namespace Go.Proofs.Ytnccibaifffhhaa
set_option linter.unusedVariables false
open Go.RowKit P

theorem spB_ok : okSp spB := by
  unfold okSp spB
  refine ⟨by decide, by decide, by decide, (fun p hp => by cases hp), trivial, by decide, trivial, by decide, trivial, by simp, (fun n hn => by cases hn)⟩
theorem spB_fault : faultSp spB = 0 := (faultSp_iff _).2 spB_ok
theorem spB_wf : SpWf spB := ⟨by unfold i64N spB; decide, by unfold i64N spB; decide, by decide, by decide, by decide, (fun p hp => by cases hp), (fun n hn => by cases hn)⟩
theorem spB_val (w : World) : SpVal w w.heap.size (.agg #[.int .i64 0, .slice none 0 0, .int .i64 (-1), .slice none 0 0, .slice none 0 0]) spB := ⟨_, _, _, rfl, PlSl.nil _ _, RSl.nil _ _, ISl.nil _ _⟩
theorem run_sp_top (a b c d e : Value) (w : World) : (Instr.field 48 (.agg #[a, b, c, d, e]) 2).run Try.prog w = .ok c w := by
  unfold Instr.field
  have h := run_part_plain (P := Try.prog) w (e := 3) (by kernel_rfl) (xs := #[a, b, c, d, e]) (off := 2) (v := c) rfl
  simp [Sem.run_bind, run_underlying Try.underlying48, asAgg]
  exact h
theorem frs0_wf : FrsWf [] := ⟨by decide, fun f hf => by cases hf⟩
set_option maxRecDepth 100000 in
set_option maxHeartbeats 1000000 in
theorem spaceTells_any (w : World) : Calls Try.prog 18 #[] w fun e w' => e = .returned (.bool true) ∧ Below w.heap.size w w' := by
  have HT := Lib.hid (fun w' => show Calls Try.prog 26 #[.agg #[.int .i64 0, .slice none 0 0, .int .i64 (-1), .slice none 0 0, .slice none 0 0]] w' fun e w'' => Below w'.heap.size w' w'' ∧ ∃ A c, e = .returned (.tuple #[.slice A 0 c, .int .i64 0]) from (spTell_any _ spB w' (spB_val w') spB_wf).mono (by
    rintro e w'' ⟨b, u, rfl, hu⟩
    rw [show tellSp spB = ([], 0) from by unfold tellSp; rw [spB_fault]; rfl] at hu ⊢
    obtain ⟨A, c, rfl, _⟩ := hu.ex
    exact ⟨b, A, c, rfl⟩))
  have HS := Lib.hid (fun w' => show Calls Try.prog 21 #[.agg #[.int .i64 0, .slice none 0 0, .int .i64 (-1), .slice none 0 0, .slice none 0 0], .int .i64 1, .int .i64 1, .slice none 0 0] w' fun e w'' => Below w'.heap.size w' w'' ∧ ∃ Aa Ah Ak ca ch ck, e = .returned (.tuple #[.agg #[.int .i64 1, .slice Aa 1 ca, .int .i64 (-1), .slice Ah 0 ch, .slice Ak 0 ck], .int .i64 0, .int .i64 0]) from (spSend_any _ _ spB 1 1 [] w' (spB_val w') spB_wf (FsSl.nil _ _) frs0_wf).mono (by
    rintro e w'' ⟨b, u, rfl, hu⟩
    rw [show sendSp spB 1 1 [] = (⟨1, [⟨0, 1, 1, []⟩], -1, [], []⟩, 0, 0) from by unfold sendSp; rw [spB_fault]; rfl] at hu ⊢
    obtain ⟨Aa, Ah, Ak, ca, ch, ck, rfl⟩ := hu.now.cells
    exact ⟨b, Aa, Ah, Ak, ca, ch, ck, rfl⟩))
  go_enter Try.func18, Try.ntmps18
  go_wp2_with fail
  refine (spBegin_any _).mono ?_
  rintro e w1 ⟨rfl, b1⟩
  have B1 := Lib.hid b1
  clear b1
  go_wp2_with fail
  refine (HT.out _).mono ?_
  rintro e w2 ⟨b2, A, c, rfl⟩
  have B2 := Lib.hid (B1.out.trans (b2.mono B1.out.size))
  clear b2
  go_wp2_with fail
  refine (spBegin_any _).mono ?_
  rintro e w3 ⟨rfl, b3⟩
  have B3 := Lib.hid (B2.out.trans (b3.mono B2.out.size))
  clear b3
  go_wp2_with fail
  refine (HS.out _).mono ?_
  rintro e w4 ⟨b4, Aa, Ah, Ak, ca, ch, ck, rfl⟩
  have B4 := Lib.hid ((B3.out.trans (b4.mono B3.out.size)).alloc (Nat.le_trans B3.out.size b4.size) (.cells #[.int .i64 1, .slice Aa 1 ca, .int .i64 (-1), .slice Ah 0 ch, .slice Ak 0 ck] 48))
  clear b4
  go_wp2_with fail
  refine (spBegin_any _).mono ?_
  rintro e w5 ⟨rfl, b5⟩
  have B5 := Lib.hid (B4.out.trans (b5.mono B4.out.size))
  clear b5
  have RT := run_sp_top (.int .i64 0) (.slice none 0 0) (.int .i64 (-1)) (.slice none 0 0) (.slice none 0 0) w5
  go_wp2_with fail
  go_ret
  exact ⟨by rfl, B5.out⟩
end Go.Proofs.Ytnccibaifffhhaa
