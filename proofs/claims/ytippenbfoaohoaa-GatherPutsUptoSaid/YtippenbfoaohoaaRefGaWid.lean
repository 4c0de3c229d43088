/- The document's answers on gathers: GatherWidened. -/
import Derived.Test.YtippenbfoaohoaaRefGaFaultB
import Derived.Test.YtippenbfoaohoaaGaSame
namespace Go.Proofs.Ytippenbfoaohoaa
set_option linter.unusedVariables false
open Go.RowKit P

def ga0 : Ga := ⟨0, [], 0, 0⟩
/-- what Widen says, by P8.5 -/
def widG (g : Ga) (n : Int) : Ga × Int := if faultG g ≠ 0 then (ga0, faultG g) else if 4611686018427387903 < n then (ga0, 6) else (⟨g.done, g.held, g.final, max n g.window⟩, 0)
/-- an answer of a gather and an error -/
def GaRes (r : Ga × Int) (w : World) (e : Ending) (w' : World) : Prop := Below w.heap.size w w' ∧ ∃ u, e = .returned (.tuple #[u, .int .i64 r.2]) ∧ GaVal w' w'.heap.size u r.1
theorem bkG_put {w : World} {b : Nat} {a0 a1 a2 a3 : Value} {T : TypeId} (h : w.heap[b]? = some (.cells #[a0, a1, a2, a3] T (0, 0))) (v0 v1 v2 v3 : Value) :
    ((((w.setCell ⟨b, 0, none⟩ v0).setCell ⟨b, 1, none⟩ v1).setCell ⟨b, 2, none⟩ v2).setCell ⟨b, 3, none⟩ v3).cell? ⟨b, 0, none⟩ = some v0 ∧
    ((((w.setCell ⟨b, 0, none⟩ v0).setCell ⟨b, 1, none⟩ v1).setCell ⟨b, 2, none⟩ v2).setCell ⟨b, 3, none⟩ v3).cell? ⟨b, 1, none⟩ = some v1 ∧
    ((((w.setCell ⟨b, 0, none⟩ v0).setCell ⟨b, 1, none⟩ v1).setCell ⟨b, 2, none⟩ v2).setCell ⟨b, 3, none⟩ v3).cell? ⟨b, 2, none⟩ = some v2 ∧
    ((((w.setCell ⟨b, 0, none⟩ v0).setCell ⟨b, 1, none⟩ v1).setCell ⟨b, 2, none⟩ v2).setCell ⟨b, 3, none⟩ v3).cell? ⟨b, 3, none⟩ = some v3 ∧
    w.grownBy ((((w.setCell ⟨b, 0, none⟩ v0).setCell ⟨b, 1, none⟩ v1).setCell ⟨b, 2, none⟩ v2).setCell ⟨b, 3, none⟩ v3) (some b) := by
  have h0 : (w.setCell ⟨b, 0, none⟩ v0).heap[b]? = some (.cells #[v0, a1, a2, a3] T (0, 0)) := by simpa using bk_set h 0 v0
  have h1 : ((w.setCell ⟨b, 0, none⟩ v0).setCell ⟨b, 1, none⟩ v1).heap[b]? = some (.cells #[v0, v1, a2, a3] T (0, 0)) := by simpa using bk_set h0 1 v1
  have h2 : (((w.setCell ⟨b, 0, none⟩ v0).setCell ⟨b, 1, none⟩ v1).setCell ⟨b, 2, none⟩ v2).heap[b]? = some (.cells #[v0, v1, v2, a3] T (0, 0)) := by simpa using bk_set h1 2 v2
  have h3 : ((((w.setCell ⟨b, 0, none⟩ v0).setCell ⟨b, 1, none⟩ v1).setCell ⟨b, 2, none⟩ v2).setCell ⟨b, 3, none⟩ v3).heap[b]? = some (.cells #[v0, v1, v2, v3] T (0, 0)) := by simpa using bk_set h2 3 v3
  obtain ⟨q0, q1, q2, q3⟩ := bkG h3
  exact ⟨q0, q1, q2, q3, gr_trans (gr_trans (gr_trans (gr_set _ b 0 v0) (gr_set _ b 1 v1)) (gr_set _ b 2 v2)) (gr_set _ b 3 v3)⟩
/-- rows of elder blocks, when a block of the call's own turns -/
theorem psl_gr {W w' : World} {B y : Nat} {v : Value} {ps : List Pc} (h : PSl W B v ps) (hy : B ≤ y) (g : W.grownBy w' (some y)) (hB : B ≤ W.heap.size) : PSl w' B v ps :=
  h.below ⟨g.os, g.tape, g.output, g.size, fun k hk => g.block k (Nat.lt_of_lt_of_le hk hB) (by simp; omega)⟩

set_option maxHeartbeats 2000000 in
theorem refGaW_any (v : Value) (g : Ga) (n : Int) (w : World) (hv : GaVal w w.heap.size v g) (hw : GaWf g) (hlen : ∀ p ∈ g.held, p.2.length ≤ 140737488355328) :
    Calls Try.prog 21 #[v, .int .i64 n] w (GaRes (widG g n) w) := by
  obtain ⟨s, rfl, hs⟩ := hv.ex
  obtain ⟨g0, g1, g2⟩ := twoG w #[.int .i64 g.done, s, .int .i64 g.final, .int .i64 g.window] #[.int .i64 0, .slice none 0 0, .int .i64 0, .int .i64 0] 24 24
  have G0 := Lib.hid g0
  have G1 := Lib.hid g1
  have B0 := Lib.hid g2
  have PS := Lib.hid hs
  have HF := Lib.hid (fun w' (hb : Below w.heap.size w w') => refGaF_any _ g w' (hv.on hb) hw hlen)
  obtain ⟨A, c, rfl, _, _, _⟩ := id hs.ex
  clear hv hw hlen hs g0 g1 g2
  unfold GaRes widG
  by_cases hf : faultG g = 0
  · rw [if_neg (fun e => e hf)]
    rw [hf] at HF
    clear hf
    by_cases a : 4611686018427387903 < n
    · rw [if_pos a]
      go_enter Try.func21, Try.ntmps21
      go_wp2_with (go_at_call 13; refine (HF.out _ B0.out).mono ?_; rintro e w1 ⟨rfl, b1⟩; have B1 := Lib.hid (B0.out.trans (b1.mono B0.out.size)); have F1 := Lib.hid ((b1.block _ (lt_of_block G0.out)).trans G0.out); have Z1 := Lib.hid ((b1.block _ (lt_of_block G1.out)).trans G1.out); clear b1; obtain ⟨q0, q1, q2, q3⟩ := bkG F1.out; obtain ⟨z0, z1, z2, z3⟩ := bkG Z1.out; have zf := fun i => bk_frz Z1.out i)
      obtain ⟨r0, r1, r2, r3, gp⟩ := bkG_put Z1.out (.int .i64 0) (.slice none 0 0) (.int .i64 0) (.int .i64 0)
      refine bodyPost_ret (by simp [results, Try.results21, go_sem, r0, r1, r2, r3]; try rfl) rfl ?_
      exact ⟨gr_from B1.out B1.out.size (Nat.le_succ _) gp, _, rfl, ⟨_, rfl, PSl.nil _ _⟩⟩
    · rw [if_neg a]
      by_cases b : g.window < n
      · rw [show max n g.window = n by omega]
        go_enter Try.func21, Try.ntmps21
        go_wp2_with (go_at_call 13; refine (HF.out _ B0.out).mono ?_; rintro e w1 ⟨rfl, b1⟩; have B1 := Lib.hid (B0.out.trans (b1.mono B0.out.size)); have F1 := Lib.hid ((b1.block _ (lt_of_block G0.out)).trans G0.out); have Z1 := Lib.hid ((b1.block _ (lt_of_block G1.out)).trans G1.out); clear b1; obtain ⟨q0, q1, q2, q3⟩ := bkG F1.out; have qf := fun i => bk_frz F1.out i; have gs := gr_set w1 w.heap.size 3 (.int .i64 n); have FX := Lib.hid (show (w1.setCell ⟨w.heap.size, 3, none⟩ (.int .i64 n)).heap[w.heap.size]? = some (.cells #[.int .i64 g.done, .slice A g.held.length c, .int .i64 g.final, .int .i64 n] 24 (0, 0)) from by simpa using bk_set F1.out 3 (.int .i64 n)); have ZX := Lib.hid ((gs.block _ (lt_of_block Z1.out) (by simp)).trans Z1.out); have BX := Lib.hid (gr_from B1.out B1.out.size (Nat.le_refl _) gs); clear gs; obtain ⟨p0, p1, p2, p3⟩ := bkG FX.out; obtain ⟨z0, z1, z2, z3⟩ := bkG ZX.out; have zf := fun i => bk_frz ZX.out i)
        obtain ⟨r0, r1, r2, r3, gp⟩ := bkG_put ZX.out (.int .i64 g.done) (.slice A g.held.length c) (.int .i64 g.final) (.int .i64 n)
        refine bodyPost_ret (by simp [results, Try.results21, go_sem, r0, r1, r2, r3]; try rfl) rfl ?_
        have BB := gr_from BX.out BX.out.size (Nat.le_succ _) gp
        exact ⟨BB, _, rfl, ⟨_, rfl, (PS.out.below BB).more BB.size⟩⟩
      · rw [show max n g.window = g.window by omega]
        go_enter Try.func21, Try.ntmps21
        go_wp2_with (go_at_call 13; refine (HF.out _ B0.out).mono ?_; rintro e w1 ⟨rfl, b1⟩; have B1 := Lib.hid (B0.out.trans (b1.mono B0.out.size)); have F1 := Lib.hid ((b1.block _ (lt_of_block G0.out)).trans G0.out); have Z1 := Lib.hid ((b1.block _ (lt_of_block G1.out)).trans G1.out); clear b1; obtain ⟨q0, q1, q2, q3⟩ := bkG F1.out; obtain ⟨z0, z1, z2, z3⟩ := bkG Z1.out; have zf := fun i => bk_frz Z1.out i)
        obtain ⟨r0, r1, r2, r3, gp⟩ := bkG_put Z1.out (.int .i64 g.done) (.slice A g.held.length c) (.int .i64 g.final) (.int .i64 g.window)
        refine bodyPost_ret (by simp [results, Try.results21, go_sem, r0, r1, r2, r3]; try rfl) rfl ?_
        have BB := gr_from B1.out B1.out.size (Nat.le_succ _) gp
        exact ⟨BB, _, rfl, ⟨_, rfl, (PS.out.below BB).more BB.size⟩⟩
  · rw [if_pos hf]
    obtain ⟨x, hx⟩ : ∃ x, faultG g = x := ⟨_, rfl⟩
    rw [hx] at HF hf ⊢
    have gx : (x != 0) = true := by simp [hf]
    clear hx hf
    go_enter Try.func21, Try.ntmps21
    go_wp2_with (go_at_call 13; refine (HF.out _ B0.out).mono ?_; rintro e w1 ⟨rfl, b1⟩; have B1 := Lib.hid (B0.out.trans (b1.mono B0.out.size)); have F1 := Lib.hid ((b1.block _ (lt_of_block G0.out)).trans G0.out); have Z1 := Lib.hid ((b1.block _ (lt_of_block G1.out)).trans G1.out); clear b1; obtain ⟨q0, q1, q2, q3⟩ := bkG F1.out; obtain ⟨z0, z1, z2, z3⟩ := bkG Z1.out; have zf := fun i => bk_frz Z1.out i)
    obtain ⟨r0, r1, r2, r3, gp⟩ := bkG_put Z1.out (.int .i64 0) (.slice none 0 0) (.int .i64 0) (.int .i64 0)
    refine bodyPost_ret (by simp [results, Try.results21, go_sem, r0, r1, r2, r3]; try rfl) rfl ?_
    exact ⟨gr_from B1.out B1.out.size (Nat.le_succ _) gp, _, rfl, ⟨_, rfl, PSl.nil _ _⟩⟩
end Go.Proofs.Ytippenbfoaohoaa
