/- The walks of GatherChecks, GatherTakes and GatherWidens, over what is asked of the project. -/
import Derived.Test.YtippenbfoaohoaaRefGaTake
namespace Go.Proofs.Ytippenbfoaohoaa
set_option linter.unusedVariables false
open Go.RowKit P

def GaChk (P : Program) (f : FuncId) : Prop := ∀ (v : Value) (g : Ga) (w : World), GaVal w w.heap.size v g → GaWf g → (∀ p ∈ g.held, p.2.length ≤ 140737488355328) → Calls P f #[v] w fun e w' => e = .returned (.int .i64 (faultG g)) ∧ Below w.heap.size w w'
/-- what Begin says, by P8.2 -/
def begG (n : Int) : Ga × Int := if n < 0 ∨ 4611686018427387903 < n then (ga0, 6) else (⟨0, [], -1, n⟩, 0)
def GaBeg (P : Program) (f : FuncId) : Prop := ∀ (n : Int) (w : World), -9223372036854775808 ≤ n ∧ n ≤ 9223372036854775807 → Calls P f #[.int .i64 n] w (GaRes (begG n) w)
def GaWid (P : Program) (f : FuncId) : Prop := ∀ (v : Value) (g : Ga) (n : Int) (w : World), GaVal w w.heap.size v g → GaWf g → (∀ p ∈ g.held, p.2.length ≤ 140737488355328) → Calls P f #[v, .int .i64 n] w (GaRes (widG g n) w)
def GaTak (P : Program) (f : FuncId) : Prop := ∀ (v : Value) (g : Ga) (w : World), GaVal w w.heap.size v g → GaWf g → (∀ p ∈ g.held, p.2.length ≤ 140737488355328) → Calls P f #[v] w (TakRes (takG g) w)
theorem ok_len {g : Ga} (h : faultG g = 0) : g.held.length ≤ 4 := by
  unfold faultG at h
  split at h
  · rename_i k; exact k.2.2.2.1
  · cases h
theorem widG_len (g : Ga) (n : Int) : (widG g n).1.held.length ≤ 1000 := by
  unfold widG
  by_cases h : faultG g = 0
  · rw [if_neg (fun e => e h)]
    have := ok_len h
    split
    · exact Nat.zero_le _
    · show g.held.length ≤ 1000; omega
  · rw [if_pos h]; exact Nat.zero_le _
theorem takG_len (g : Ga) : (takG g).1.held.length ≤ 1000 := by
  by_cases h : faultG g = 0
  · have := ok_len h
    cases hh : g.held with
    | nil => rw [takG_nil h hh]; show g.held.length ≤ 1000; omega
    | cons p ps =>
      by_cases hp : p.1 = g.done
      · rw [takG_yes h hh hp]; rw [hh] at this; simp only [List.length_cons] at this; show ps.length ≤ 1000; omega
      · rw [takG_no h hh hp]; show g.held.length ≤ 1000; omega
  · rw [takG_bad h]; exact Nat.zero_le _
theorem gatherWidens_core (hW : GaWid Try.prog 20) (v : Value) (g : Ga) (n : Int) (w : World) (hv : GaVal w w.heap.size v g) (hw : GaWf g) (hlen : ∀ p ∈ g.held, p.2.length ≤ 140737488355328) :
    Calls Try.prog 6 #[v, .int .i64 n] w fun e w' => e = .returned (.bool true) ∧ Below w.heap.size w w' := by
  obtain ⟨s, rfl, hs⟩ := id hv.ex
  obtain ⟨A, c, rfl, _, _, _⟩ := id hs.ex
  have B0 := Lib.hid ((Below.refl w.heap.size w).alloc (Nat.le_refl _) (.cells #[.int .i64 g.done, .slice A g.held.length c, .int .i64 g.final, .int .i64 g.window] 24))
  have F0 := Lib.hid (heap_alloc_new w (.cells #[.int .i64 g.done, .slice A g.held.length c, .int .i64 g.final, .int .i64 g.window] 24))
  have HW := Lib.hid (fun w' (hb : Below w.heap.size w w') => hW _ g n w' (hv.on hb) hw hlen)
  have HR := Lib.hid (fun w' (hb : Below w.heap.size w w') => refGaW_any _ g n w' (hv.on hb) hw hlen)
  have hl := widG_len g n
  obtain ⟨⟨r, x⟩, hr⟩ : ∃ r, widG g n = r := ⟨_, rfl⟩
  rw [hr] at HW HR hl
  unfold GaRes at HW HR
  have HL := Lib.hid hl
  clear hW hv hw hlen hs hr hl
  go_enter Try.func6, Try.ntmps6
  go_wp2_with fail
  refine (HW.out _ B0.out).mono ?_
  rintro e1 w1 ⟨b1, u1, rfl, hu1⟩
  obtain ⟨s1, rfl, hs1⟩ := id hu1.ex
  obtain ⟨A1, c1, rfl, _, _, _⟩ := id hs1.ex
  have X1 := Lib.hid ((Below.refl w1.heap.size w1).alloc (Nat.le_refl _) (.cells #[.int .i64 r.done, .slice A1 r.held.length c1, .int .i64 r.final, .int .i64 r.window] 24))
  have F1 := Lib.hid ((X1.out.block _ (Nat.lt_of_lt_of_le (lt_of_block F0.out) b1.size)).trans ((b1.block _ (lt_of_block F0.out)).trans F0.out))
  have N1 := Lib.hid (heap_alloc_new w1 (.cells #[.int .i64 r.done, .slice A1 r.held.length c1, .int .i64 r.final, .int .i64 r.window] 24))
  have B1 := Lib.hid ((B0.out.trans (b1.mono B0.out.size)).trans (X1.out.mono (B0.out.trans (b1.mono B0.out.size)).size))
  have V1 := Lib.hid (hu1.on X1.out)
  clear b1 hu1 hs1
  obtain ⟨q0, q1, q2, q3⟩ := bkG F1.out
  go_wp2_with fail
  refine (HR.out _ B1.out).mono ?_
  rintro e2 w2 ⟨b2, u2, rfl, hu2⟩
  obtain ⟨s2, rfl, hs2⟩ := id hu2.ex
  obtain ⟨A2, c2, rfl, _, _, _⟩ := id hs2.ex
  have X2 := Lib.hid ((Below.refl w2.heap.size w2).alloc (Nat.le_refl _) (.cells #[.int .i64 r.done, .slice A2 r.held.length c2, .int .i64 r.final, .int .i64 r.window] 24))
  have N2 := Lib.hid ((X2.out.block _ (Nat.lt_of_lt_of_le (lt_of_block N1.out) b2.size)).trans ((b2.block _ (lt_of_block N1.out)).trans N1.out))
  have B2 := Lib.hid ((B1.out.trans (b2.mono B1.out.size)).trans (X2.out.mono (B1.out.trans (b2.mono B1.out.size)).size))
  have V2 := Lib.hid (hu2.on X2.out)
  have V1' := Lib.hid ((V1.out.on b2).on X2.out)
  clear b2 hu2 hs2 q0 q1 q2 q3
  obtain ⟨q0, q1, q2, q3⟩ := bkG N2.out
  go_wp2_with fail
  refine (sameGa_eq _ _ r _ V1'.out V2.out HL.out).mono ?_
  rintro e3 w3 ⟨rfl, b3⟩
  have B3 := Lib.hid (B2.out.trans (b3.mono B2.out.size))
  clear b3 q0 q1 q2 q3
  go_wp2_with fail
  go_ret
  exact ⟨by first | rfl | simp, B3.out⟩
theorem gatherTakes_core (hT : GaTak Try.prog 17) (v : Value) (g : Ga) (w : World) (hv : GaVal w w.heap.size v g) (hw : GaWf g) (hlen : ∀ p ∈ g.held, p.2.length ≤ 140737488355328) :
    Calls Try.prog 5 #[v] w fun e w' => e = .returned (.bool true) ∧ Below w.heap.size w w' := by
  obtain ⟨s, rfl, hs⟩ := id hv.ex
  obtain ⟨A, c, rfl, _, _, _⟩ := id hs.ex
  have B0 := Lib.hid ((Below.refl w.heap.size w).alloc (Nat.le_refl _) (.cells #[.int .i64 g.done, .slice A g.held.length c, .int .i64 g.final, .int .i64 g.window] 24))
  have F0 := Lib.hid (heap_alloc_new w (.cells #[.int .i64 g.done, .slice A g.held.length c, .int .i64 g.final, .int .i64 g.window] 24))
  have HW := Lib.hid (fun w' (hb : Below w.heap.size w w') => hT _ g w' (hv.on hb) hw hlen)
  have HR := Lib.hid (fun w' (hb : Below w.heap.size w w') => refGaT_any _ g w' (hv.on hb) hw hlen)
  have hl := takG_len g
  obtain ⟨⟨r, bs, ov, x⟩, hr⟩ : ∃ r, takG g = r := ⟨_, rfl⟩
  rw [hr] at HW HR hl
  unfold TakRes at HW HR
  have HL := Lib.hid hl
  clear hT hv hw hlen hs hr hl
  go_enter Try.func5, Try.ntmps5
  go_wp2_with fail
  refine (HW.out _ B0.out).mono ?_
  rintro e1 w1 ⟨b1, u1, d1, rfl, hu1, hd1⟩
  obtain ⟨s1, rfl, hs1⟩ := id hu1.ex
  obtain ⟨A1, c1, rfl, _, _, _⟩ := id hs1.ex
  obtain ⟨D1, e1, rfl, _, _, _, hr1⟩ := id hd1.ex
  have X1 := Lib.hid ((Below.refl w1.heap.size w1).alloc (Nat.le_refl _) (.cells #[.int .i64 r.done, .slice A1 r.held.length c1, .int .i64 r.final, .int .i64 r.window] 24))
  have F1 := Lib.hid ((X1.out.block _ (Nat.lt_of_lt_of_le (lt_of_block F0.out) b1.size)).trans ((b1.block _ (lt_of_block F0.out)).trans F0.out))
  have N1 := Lib.hid (heap_alloc_new w1 (.cells #[.int .i64 r.done, .slice A1 r.held.length c1, .int .i64 r.final, .int .i64 r.window] 24))
  have B1 := Lib.hid ((B0.out.trans (b1.mono B0.out.size)).trans (X1.out.mono (B0.out.trans (b1.mono B0.out.size)).size))
  have V1 := Lib.hid (hu1.on X1.out)
  have R1 := Lib.hid (hr1.on X1.out)
  clear b1 hu1 hs1 hd1 hr1
  obtain ⟨q0, q1, q2, q3⟩ := bkG F1.out
  go_wp2_with fail
  refine (HR.out _ B1.out).mono ?_
  rintro e2 w2 ⟨b2, u2, d2, rfl, hu2, hd2⟩
  obtain ⟨s2, rfl, hs2⟩ := id hu2.ex
  obtain ⟨A2, c2, rfl, _, _, _⟩ := id hs2.ex
  obtain ⟨D2, e2, rfl, _, _, _, hr2⟩ := id hd2.ex
  have X2 := Lib.hid ((Below.refl w2.heap.size w2).alloc (Nat.le_refl _) (.cells #[.int .i64 r.done, .slice A2 r.held.length c2, .int .i64 r.final, .int .i64 r.window] 24))
  have N2 := Lib.hid ((X2.out.block _ (Nat.lt_of_lt_of_le (lt_of_block N1.out) b2.size)).trans ((b2.block _ (lt_of_block N1.out)).trans N1.out))
  have B2 := Lib.hid ((B1.out.trans (b2.mono B1.out.size)).trans (X2.out.mono (B1.out.trans (b2.mono B1.out.size)).size))
  have V2 := Lib.hid (hu2.on X2.out)
  have V1' := Lib.hid ((V1.out.on b2).on X2.out)
  have R1' := Lib.hid ((R1.out.on b2).on X2.out)
  have R2' := Lib.hid (hr2.on X2.out)
  clear b2 hu2 hs2 hd2 hr2 q0 q1 q2 q3
  obtain ⟨q0, q1, q2, q3⟩ := bkG N2.out
  go_wp2_with fail
  refine (sameGa_eq _ _ r _ V1'.out V2.out HL.out).mono ?_
  rintro e3 w3 ⟨rfl, b3⟩
  have B3 := Lib.hid (B2.out.trans (b3.mono B2.out.size))
  have R1'' := Lib.hid (R1'.out.on b3)
  have R2'' := Lib.hid (R2'.out.on b3)
  clear b3 q0 q1 q2 q3
  go_wp2_with fail
  refine (sameBytes_eq _ _ _ _ _ _ _ _ _ bs R1''.out R2''.out rfl rfl).mono ?_
  rintro e w' ⟨rfl, rfl⟩
  go_wp2_with fail
  go_ret
  exact ⟨by first | rfl | simp, B3.out⟩
theorem gatherChecks_core (hC : GaChk Try.prog 11) (hB : GaBeg Try.prog 12) (v : Value) (g : Ga) (n : Int) (hn : -9223372036854775808 ≤ n ∧ n ≤ 9223372036854775807) (w : World) (hv : GaVal w w.heap.size v g) (hw : GaWf g) (hlen : ∀ p ∈ g.held, p.2.length ≤ 140737488355328) :
    Calls Try.prog 3 #[v, .int .i64 n] w fun e w' => e = .returned (.bool true) ∧ Below w.heap.size w w' := by
  obtain ⟨s, rfl, hs⟩ := id hv.ex
  obtain ⟨A, c, rfl, _, _, _⟩ := id hs.ex
  have B0 := Lib.hid ((Below.refl w.heap.size w).alloc (Nat.le_refl _) (.cells #[.int .i64 g.done, .slice A g.held.length c, .int .i64 g.final, .int .i64 g.window] 24))
  have F0 := Lib.hid (heap_alloc_new w (.cells #[.int .i64 g.done, .slice A g.held.length c, .int .i64 g.final, .int .i64 g.window] 24))
  have HC := Lib.hid (fun w' (hb : Below w.heap.size w w') => hC _ g w' (hv.on hb) hw hlen)
  have HR := Lib.hid (fun w' (hb : Below w.heap.size w w') => refGaF_any _ g w' (hv.on hb) hw hlen)
  have HB := Lib.hid (fun w => hB n w hn)
  unfold GaRes at HB
  obtain ⟨x, hx⟩ : ∃ x, faultG g = x := ⟨_, rfl⟩
  rw [hx] at HC HR
  obtain ⟨⟨r, y⟩, hr⟩ : ∃ r, begG n = r := ⟨_, rfl⟩
  rw [hr] at HB
  have HBG := Lib.hid hr
  clear hC hB hv hw hlen hs hx hr
  go_enter Try.func3, Try.ntmps3
  go_wp2_with fail
  refine (HC.out _ B0.out).mono ?_
  rintro e1 w1 ⟨rfl, b1⟩
  have B1 := Lib.hid (B0.out.trans (b1.mono B0.out.size))
  have F1 := Lib.hid ((b1.block _ (lt_of_block F0.out)).trans F0.out)
  clear b1
  go_wp2_with fail
  refine (HB.out _).mono ?_
  rintro e2 w2 ⟨b2, u2, rfl, hu2⟩
  obtain ⟨s2, rfl, hs2⟩ := id hu2.ex
  obtain ⟨A2, c2, rfl, _, _, _⟩ := id hs2.ex
  have X2 := Lib.hid ((Below.refl w2.heap.size w2).alloc (Nat.le_refl _) (.cells #[.int .i64 r.done, .slice A2 r.held.length c2, .int .i64 r.final, .int .i64 r.window] 24))
  have F2 := Lib.hid ((X2.out.block _ (Nat.lt_of_lt_of_le (lt_of_block F1.out) b2.size)).trans ((b2.block _ (lt_of_block F1.out)).trans F1.out))
  have N2 := Lib.hid (heap_alloc_new w2 (.cells #[.int .i64 r.done, .slice A2 r.held.length c2, .int .i64 r.final, .int .i64 r.window] 24))
  have B2 := Lib.hid ((B1.out.trans (b2.mono B1.out.size)).trans (X2.out.mono (B1.out.trans (b2.mono B1.out.size)).size))
  have V2 := Lib.hid (hu2.on X2.out)
  clear b2 hu2 hs2
  obtain ⟨q0, q1, q2, q3⟩ := bkG F2.out
  go_wp2_with fail
  refine (HR.out _ B2.out).mono ?_
  rintro e3 w3 ⟨rfl, b3⟩
  have B3 := Lib.hid (B2.out.trans (b3.mono B2.out.size))
  have N3 := Lib.hid ((b3.block _ (lt_of_block N2.out)).trans N2.out)
  have V3 := Lib.hid (V2.out.on b3)
  clear b3 q0 q1 q2 q3
  by_cases a : n < 0 ∨ 4611686018427387903 < n
  · have hbg : begG n = (ga0, 6) := if_pos a
    rw [hbg] at HBG
    obtain ⟨rfl, rfl⟩ := Prod.mk.inj HBG.out
    simp only [ga0] at N3 V3
    by_cases b : n < 0
    · have b' : decide (n < 0) = true := by simp [b]
      have NW := Lib.hid (heap_alloc_new w3 (.cells #[.int .i64 0, .slice none 0 0, .int .i64 0, .int .i64 0] 24))
      have XW := Lib.hid ((Below.refl w3.heap.size w3).alloc (Nat.le_refl _) (.cells #[.int .i64 0, .slice none 0 0, .int .i64 0, .int .i64 0] 24))
      have NA := Lib.hid ((XW.out.block _ (lt_of_block N3.out)).trans N3.out)
      have BW := Lib.hid (B3.out.trans (XW.out.mono B3.out.size))
      have VA := Lib.hid (V3.out.on XW.out)
      obtain ⟨q0, q1, q2, q3⟩ := bkG NA.out
      go_wp2_with fail
      refine (sameGa_eq _ _ ga0 _ VA.out ⟨_, rfl, PSl.nil _ _⟩ (Nat.zero_le _)).mono ?_
      rintro e4 w4 ⟨rfl, b4⟩
      have B4 := Lib.hid (BW.out.trans (b4.mono BW.out.size))
      clear b4 q0 q1 q2 q3
      go_wp2_with fail
      go_ret
      exact ⟨by first | rfl | simp, B4.out⟩
    · have b' : decide (n < 0) = false := by simp; omega
      have b2 : decide (4611686018427387903 < n) = true := by simp; omega
      have NW := Lib.hid (heap_alloc_new w3 (.cells #[.int .i64 0, .slice none 0 0, .int .i64 0, .int .i64 0] 24))
      have XW := Lib.hid ((Below.refl w3.heap.size w3).alloc (Nat.le_refl _) (.cells #[.int .i64 0, .slice none 0 0, .int .i64 0, .int .i64 0] 24))
      have NA := Lib.hid ((XW.out.block _ (lt_of_block N3.out)).trans N3.out)
      have BW := Lib.hid (B3.out.trans (XW.out.mono B3.out.size))
      have VA := Lib.hid (V3.out.on XW.out)
      obtain ⟨q0, q1, q2, q3⟩ := bkG NA.out
      go_wp2_with fail
      refine (sameGa_eq _ _ ga0 _ VA.out ⟨_, rfl, PSl.nil _ _⟩ (Nat.zero_le _)).mono ?_
      rintro e4 w4 ⟨rfl, b4⟩
      have B4 := Lib.hid (BW.out.trans (b4.mono BW.out.size))
      clear b4 q0 q1 q2 q3
      go_wp2_with fail
      go_ret
      exact ⟨by first | rfl | simp, B4.out⟩
  · have hbg : begG n = (⟨0, [], -1, n⟩, 0) := if_neg a
    rw [hbg] at HBG
    obtain ⟨rfl, rfl⟩ := Prod.mk.inj HBG.out
    have b' : decide (n < 0) = false := by simp; omega
    have b2 : decide (4611686018427387903 < n) = false := by simp; omega
    have NW := Lib.hid (heap_alloc_new w3 (.cells #[.int .i64 0, .slice none 0 0, .int .i64 (-1), .int .i64 n] 24))
    have XW := Lib.hid ((Below.refl w3.heap.size w3).alloc (Nat.le_refl _) (.cells #[.int .i64 0, .slice none 0 0, .int .i64 (-1), .int .i64 n] 24))
    have NA := Lib.hid ((XW.out.block _ (lt_of_block N3.out)).trans N3.out)
    have BW := Lib.hid (B3.out.trans (XW.out.mono B3.out.size))
    have VA := Lib.hid (V3.out.on XW.out)
    obtain ⟨q0, q1, q2, q3⟩ := bkG NA.out
    go_wp2_with fail
    refine (sameGa_eq _ _ ⟨0, [], -1, n⟩ _ VA.out ⟨_, rfl, PSl.nil _ _⟩ (Nat.zero_le _)).mono ?_
    rintro e4 w4 ⟨rfl, b4⟩
    have B4 := Lib.hid (BW.out.trans (b4.mono BW.out.size))
    clear b4 q0 q1 q2 q3
    go_wp2_with fail
    go_ret
    exact ⟨by first | rfl | simp, B4.out⟩
end Go.Proofs.Ytippenbfoaohoaa
