/- The walk of GatherPuts, over what is asked of both. -/
import Derived.Test.YtippenbfoaohoaaGatherLawC
import Derived.Test.YtippenbfoaohoaaGaPut
import Derived.Test.YtippenbfoaohoaaGaGrp
namespace Go.Proofs.Ytippenbfoaohoaa
set_option linter.unusedVariables false
open Go.RowKit P

/-- what is asked of Put -/
def GaPutD (P : Program) (f : FuncId) : Prop := ∀ (v v2 : Value) (g : Ga) (off : Int) (d : List Int) (fin : Bool) (w : World), GaVal w w.heap.size v g → GaWf g → (∀ p ∈ g.held, p.2.length ≤ 140737488355328) → BSl w w.heap.size v2 d → d.length + sumP g.held ≤ 1048576 → (-9223372036854775808 ≤ off ∧ off ≤ 9223372036854775807) → Calls P f #[v, .int .i64 off, v2, .bool fin] w (GaRes (putG g off d fin) w)
theorem putG_len (g : Ga) (off : Int) (d : List Int) (fin : Bool) : (putG g off d fin).1.held.length ≤ 1000 := by
  unfold putG
  repeat' split
  all_goals first
    | exact Nat.zero_le _
    | (simp only; omega)
theorem gatherPuts_core (hP : GaPutD Try.prog 15) (hR : GaPutD Try.prog 16) (v v2 : Value) (g : Ga) (off : Int) (d : List Int) (fin : Bool) (w : World) (hv : GaVal w w.heap.size v g) (hw : GaWf g) (hlen : ∀ p ∈ g.held, p.2.length ≤ 140737488355328) (hd : BSl w w.heap.size v2 d) (hdl : d.length + sumP g.held ≤ 1048576) (ho : -9223372036854775808 ≤ off ∧ off ≤ 9223372036854775807) :
    Calls Try.prog 4 #[v, .int .i64 off, v2, .bool fin] w fun e w' => e = .returned (.bool true) ∧ Below w.heap.size w w' := by
  obtain ⟨s, rfl, hs⟩ := id hv.ex
  obtain ⟨A, c, rfl, _, _, _⟩ := id hs.ex
  have B0 := Lib.hid ((Below.refl w.heap.size w).alloc (Nat.le_refl _) (.cells #[.int .i64 g.done, .slice A g.held.length c, .int .i64 g.final, .int .i64 g.window] 24))
  have F0 := Lib.hid (heap_alloc_new w (.cells #[.int .i64 g.done, .slice A g.held.length c, .int .i64 g.final, .int .i64 g.window] 24))
  have HW := Lib.hid (fun w' (hb : Below w.heap.size w w') => hP _ v2 g off d fin w' (hv.on hb) hw hlen ((hd.below hb).more hb.size) hdl ho)
  have HR := Lib.hid (fun w' (hb : Below w.heap.size w w') => hR _ v2 g off d fin w' (hv.on hb) hw hlen ((hd.below hb).more hb.size) hdl ho)
  have hl := putG_len g off d fin
  obtain ⟨⟨r, x⟩, hr⟩ : ∃ r, putG g off d fin = r := ⟨_, rfl⟩
  rw [hr] at HW HR hl
  unfold GaRes at HW HR
  have HL := Lib.hid hl
  obtain ⟨Ad, cd, rfl, _, _, _, _⟩ := id hd.ex
  clear hP hR hv hw hlen hs hr hl hd ho
  go_enter Try.func4, Try.ntmps4
  go_wp2_with fail
  refine (HW.out _ B0.out).mono ?_
  rintro e1 w1 ⟨b1, u1, rfl, hu1⟩
  obtain ⟨s1, rfl, hs1⟩ := id hu1.ex
  obtain ⟨A1, c1, rfl, _, _, _⟩ := id hs1.ex
  have X1 := Lib.hid ((Below.refl w1.heap.size w1).alloc (Nat.le_refl _) (.cells #[.int .i64 r.done, .slice A1 r.held.length c1, .int .i64 r.final, .int .i64 r.window] 24))
  have F1 := Lib.hid ((X1.out.block _ (Nat.lt_of_lt_of_le (lt_of_block F0.out) b1.size)).trans ((b1.block _ (lt_of_block F0.out)).trans F0.out))
  have N1 := Lib.hid (heap_alloc_new w1 (.cells #[.int .i64 r.done, .slice A1 r.held.length c1, .int .i64 r.final, .int .i64 r.window] 24))
  have B1 := Lib.hid ((B0.out.trans (b1.mono B0.out.size)).trans (X1.out.mono (B0.out.trans (b1.mono B0.out.size)).size))
  have V1 := Lib.hid (hu1.on X1.out)
  clear b1 hu1 hs1
  obtain ⟨q0, q1, q2, q3⟩ := bkG F1.out
  go_wp2_with fail
  refine (HR.out _ B1.out).mono ?_
  rintro e2 w2 ⟨b2, u2, rfl, hu2⟩
  obtain ⟨s2, rfl, hs2⟩ := id hu2.ex
  obtain ⟨A2, c2, rfl, _, _, _⟩ := id hs2.ex
  have X2 := Lib.hid ((Below.refl w2.heap.size w2).alloc (Nat.le_refl _) (.cells #[.int .i64 r.done, .slice A2 r.held.length c2, .int .i64 r.final, .int .i64 r.window] 24))
  have N2 := Lib.hid ((X2.out.block _ (Nat.lt_of_lt_of_le (lt_of_block N1.out) b2.size)).trans ((b2.block _ (lt_of_block N1.out)).trans N1.out))
  have B2 := Lib.hid ((B1.out.trans (b2.mono B1.out.size)).trans (X2.out.mono (B1.out.trans (b2.mono B1.out.size)).size))
  have V2 := Lib.hid (hu2.on X2.out)
  have V1' := Lib.hid ((V1.out.on b2).on X2.out)
  clear b2 hu2 hs2 q0 q1 q2 q3
  obtain ⟨q0, q1, q2, q3⟩ := bkG N2.out
  go_wp2_with fail
  refine (sameGa_eq _ _ r _ V1'.out V2.out HL.out).mono ?_
  rintro e3 w3 ⟨rfl, b3⟩
  have B3 := Lib.hid (B2.out.trans (b3.mono B2.out.size))
  clear b3 q0 q1 q2 q3
  go_wp2_with fail
  go_ret
  exact ⟨by first | rfl | simp, B3.out⟩
end Go.Proofs.Ytippenbfoaohoaa
