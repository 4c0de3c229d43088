/- The document's answers on gathers: GatherPut, its first ways out. -/
import Derived.Test.YtippenbfoaohoaaRefGaReach
import Derived.Test.YtippenbfoaohoaaRefGaWid
import Derived.Test.YtippenbfoaohoaaOwnB
namespace Go.Proofs.Ytippenbfoaohoaa
set_option linter.unusedVariables false
open Go.RowKit P

section
variable {done final window off : Int} {A Ad : Option Addr} {n c nd cd : Nat} {fin : Bool} {w : World}
set_option maxRecDepth 100000 in
set_option maxHeartbeats 2000000 in
theorem refPut_fault {x : Int} (hF : ∀ w', Below w.heap.size w w' → Calls Try.prog 13 #[.agg #[.int .i64 done, .slice A n c, .int .i64 final, .int .i64 window]] w' fun e w'' => e = .returned (.int .i64 x) ∧ Below w'.heap.size w' w'') (hx : x ≠ 0) :
    Calls Try.prog 16 #[.agg #[.int .i64 done, .slice A n c, .int .i64 final, .int .i64 window], .int .i64 off, .slice Ad nd cd, .bool fin] w (GaRes (ga0, x) w) := by
  obtain ⟨g0, g1, g2⟩ := twoG w #[.int .i64 done, .slice A n c, .int .i64 final, .int .i64 window] #[.int .i64 0, .slice none 0 0, .int .i64 0, .int .i64 0] 24 24
  have G0 := Lib.hid g0
  have G1 := Lib.hid g1
  have B0 := Lib.hid g2
  have HF := Lib.hid hF
  have hx' : (x != 0) = true := by simp [hx]
  clear hF g0 g1 g2 hx
  go_enter Try.func16, Try.ntmps16
  go_wp2_with (go_at_call 13; refine (HF.out _ B0.out).mono ?_; rintro e w1 ⟨rfl, b1⟩; have B1 := Lib.hid (B0.out.trans (b1.mono B0.out.size)); have F1 := Lib.hid ((b1.block _ (lt_of_block G0.out)).trans G0.out); have Z1 := Lib.hid ((b1.block _ (lt_of_block G1.out)).trans G1.out); clear b1; obtain ⟨q0, q1, q2, q3⟩ := bkG F1.out; obtain ⟨z0, z1, z2, z3⟩ := bkG Z1.out; have zf := fun i => bk_frz Z1.out i)
  obtain ⟨r0, r1, r2, r3, gp⟩ := bkG_put Z1.out (.int .i64 0) (.slice none 0 0) (.int .i64 0) (.int .i64 0)
  refine bodyPost_ret (by simp [results, Try.results16, go_sem, r0, r1, r2, r3]; try rfl) rfl ?_
  exact ⟨gr_from B1.out B1.out.size (Nat.le_succ _) gp, _, rfl, ⟨_, rfl, PSl.nil _ _⟩⟩
set_option maxRecDepth 100000 in
set_option maxHeartbeats 2000000 in
theorem refPut_range (hF : ∀ w', Below w.heap.size w w' → Calls Try.prog 13 #[.agg #[.int .i64 done, .slice A n c, .int .i64 final, .int .i64 window]] w' fun e w'' => e = .returned (.int .i64 0) ∧ Below w'.heap.size w' w'') (hnd : nd ≤ 140737488355328) (hr : ¬(0 ≤ off ∧ off + nd ≤ 4611686018427387903)) :
    Calls Try.prog 16 #[.agg #[.int .i64 done, .slice A n c, .int .i64 final, .int .i64 window], .int .i64 off, .slice Ad nd cd, .bool fin] w (GaRes (ga0, 6) w) := by
  obtain ⟨g0, g1, g2⟩ := twoG w #[.int .i64 done, .slice A n c, .int .i64 final, .int .i64 window] #[.int .i64 0, .slice none 0 0, .int .i64 0, .int .i64 0] 24 24
  have G0 := Lib.hid g0
  have G1 := Lib.hid g1
  have B0 := Lib.hid g2
  have HF := Lib.hid hF
  have hw1 : IntKind.i64.wrap (4611686018427387903 - (nd : Int)) = 4611686018427387903 - (nd : Int) := by rw [IntKind.wrap_i64]; omega
  have u1 : upB2 off (4611686018427387903 - (nd : Int)) = false := by unfold upB2; simp; omega
  clear hF g0 g1 g2 hr
  go_enter Try.func16, Try.ntmps16
  go_wp2_with (first
    | (go_at_call 28; refine (upTo_any _ _ _).mono ?_; rintro e w' ⟨rfl, rfl⟩)
    | (go_at_call 13; refine (HF.out _ B0.out).mono ?_; rintro e w1 ⟨rfl, b1⟩; have B1 := Lib.hid (B0.out.trans (b1.mono B0.out.size)); have F1 := Lib.hid ((b1.block _ (lt_of_block G0.out)).trans G0.out); have Z1 := Lib.hid ((b1.block _ (lt_of_block G1.out)).trans G1.out); clear b1; obtain ⟨q0, q1, q2, q3⟩ := bkG F1.out; obtain ⟨z0, z1, z2, z3⟩ := bkG Z1.out; have zf := fun i => bk_frz Z1.out i))
  obtain ⟨r0, r1, r2, r3, gp⟩ := bkG_put Z1.out (.int .i64 0) (.slice none 0 0) (.int .i64 0) (.int .i64 0)
  refine bodyPost_ret (by simp [results, Try.results16, go_sem, r0, r1, r2, r3]; try rfl) rfl ?_
  exact ⟨gr_from B1.out B1.out.size (Nat.le_succ _) gp, _, rfl, ⟨_, rfl, PSl.nil _ _⟩⟩
end
end Go.Proofs.Ytippenbfoaohoaa
