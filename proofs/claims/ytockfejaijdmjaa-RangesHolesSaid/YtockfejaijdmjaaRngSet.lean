/- The verifier's texts' 'set': ranges added and cut out, one by one. -/
import Derived.Test.YtockfejaijdmjaaRngCut
import Derived.Test.YtockfejaijdmjaaRaw
namespace Go.Proofs.Ytockfejaijdmjaa
set_option linter.unusedVariables false
open Go.RowKit P

def SetPost (w : World) (e : Ending) (w' : World) : Prop :=
  ∃ (C : List (Int × Int)) (A : Option Addr) (c : Nat), e = .returned (.tuple #[.slice A C.length c, .bool true]) ∧ okL C ∧ C.length ≤ 20 ∧ C.length ≤ c ∧ c ≤ maxLen ∧ RRow w' w'.heap.size A C ∧ Below w.heap.size w w'

theorem set_any (A : Option Addr) (len cap : Nat) (rs : List RawT) (w : World) (h : RawRow w w.heap.size A rs) (hl : rs.length = len) (hlc : len ≤ cap) (hcm : cap ≤ maxLen) :
    Calls Try.prog 22 #[.slice A len cap] w (SetPost w) := by
  have HR := Lib.hid h
  have HL := Lib.hid hl
  obtain ⟨N, hN⟩ : ∃ N, min len 20 = N := ⟨_, rfl⟩
  have n1 : N ≤ 20 := by omega
  have n2 : N ≤ len := by omega
  have HN := Lib.hid hN
  clear h hl hN
  go_enter Try.func22, Try.ntmps22
  go_wp2_with (first
    | (go_at_call 36; refine (some20 _ _ _ _ hlc hcm).mono ?_; rintro e w' ⟨rfl, rfl⟩; rw [HN.out]))
  go_loopg [4, 5, 15] N (fun g v ov i wr => ∃ (k : Nat) (C : List (Int × Int)) (A' : Option Addr) (c : Nat), k + g = N ∧ i = .int .i64 k ∧ ov = .bool true ∧ v = .slice A' C.length c ∧ C.length ≤ k ∧ C.length ≤ c ∧ Hid (c ≤ maxLen) ∧ Hid (okL C) ∧ Hid (RRow wr wr.heap.size A' C) ∧ Below w.heap.size w wr)
  case atStart => exact ⟨0, [], none, 0, by omega, rfl, rfl, rfl, Nat.le_refl _, Nat.le_refl _, Nat.zero_le _, trivial, RRow.nil _ _ _, Below.refl _ _⟩
  case round =>
    obtain ⟨k, C, A', c, hk, rfl, rfl, rfl, hC, hCc, hcm', HO, HC, hb⟩ := hrel
    have HB := Lib.hid hb
    clear hb
    by_cases hlt : k < N
    · obtain ⟨b, off, rfl, hbb, hc⟩ := (HR.out.below HB.out) (by rw [HL.out]; omega)
      obtain ⟨c0, c1, c2, c3⟩ := hc k (by rw [HL.out]; omega)
      obtain ⟨⟨kd, ra, rb, tx⟩, hq⟩ : ∃ p, rs.getD k raw0 = p := ⟨_, rfl⟩
      rw [hq] at c0 c1 c2 c3
      simp only at c0 c1 c2 c3
      clear hc hq
      obtain ⟨pa, hpa⟩ : ∃ x, ra % 60 = x := ⟨_, rfl⟩
      obtain ⟨pb, hpb⟩ : ∃ x, rb % 6 = x := ⟨_, rfl⟩
      obtain ⟨pk, hpk⟩ : ∃ x, kd % 4 = x := ⟨_, rfl⟩
      have a0 : 0 ≤ pa := by omega
      have a1 : pa < 60 := by omega
      have b0 : 0 ≤ pb := by omega
      have b1 : pb < 6 := by omega
      have HA := Lib.hid hpa
      have HBB := Lib.hid hpb
      have HKK := Lib.hid hpk
      clear hpa hpb hpk
      obtain ⟨W2, hW2⟩ : ∃ W2, (wr.alloc (.cells #[.int .i64 kd, .int .i64 ra, .int .i64 rb, .string tx] 49)).alloc (.cells #[.int .i64 pa, .int .i64 (pa + pb)] 29) = W2 := ⟨_, rfl⟩
      have e0 : W2.cell? ⟨wr.heap.size + 1, 0, none⟩ = some (.int .i64 pa) := by rw [← hW2]; simp
      have e1 : W2.cell? ⟨wr.heap.size + 1, 1, none⟩ = some (.int .i64 (pa + pb)) := by rw [← hW2]; simp
      have e2 : W2.cell? ⟨wr.heap.size, 0, none⟩ = some (.int .i64 kd) := by rw [← hW2]; simp
      have z2 : W2.heap.size = wr.heap.size + 1 + 1 := by rw [← hW2]; simp
      have B2 := Lib.hid (show Below wr.heap.size wr W2 by rw [← hW2]; exact ((Below.refl _ _).alloc (Nat.le_refl _) _).alloc (by simp) _)
      have E0 := Lib.hid e0
      have E1 := Lib.hid e1
      have E2 := Lib.hid e2
      have Z2 := Lib.hid z2
      have HX := Lib.hid (show okR (pa, pa + pb) from ⟨a0, by simp only; omega, by simp only; omega⟩)
      have HW2 := Lib.hid hW2
      have il := Lib.hid (ins_len (pa, pa + pb) C)
      have cl := Lib.hid (cut_len HX.out HO.out)
      clear e0 e1 e2 z2 hW2
      by_cases hk0 : pk = 0
      · have g1 : (pk == 0) = true := by simp; omega
        clear hk0
        go_wp2_with (first
          | (go_at_call 23; refine (picked_any _ _ (by omega) (by omega) _).mono ?_; rintro e w' ⟨rfl, rfl⟩; simp only [HA.out, HBB.out, HKK.out])
          | (go_at_call 13
             rw [HW2.out]
             refine (add_any _ _ _ _ _ _ _ (HC.out.on B2.out) rfl HO.out HX.out (by omega) hCc hcm'.out).mono ?_
             rintro e w1 ⟨A1, c1', rfl, l1, m1, r1, hb1⟩
             have d0 := (hb1.cell (p := ⟨wr.heap.size + 1, 0, none⟩) (by rw [Z2.out]; simp)).trans E0.out
             have d1 := (hb1.cell (p := ⟨wr.heap.size + 1, 1, none⟩) (by rw [Z2.out]; simp)).trans E1.out
             have d2 := (hb1.cell (p := ⟨wr.heap.size, 0, none⟩) (by rw [Z2.out]; simp only; omega)).trans E2.out
             have HB1 := Lib.hid (B2.out.trans (hb1.mono B2.out.size))
             clear hb1 r1)
          | (go_at_call 16
             refine (cut_any _ _ _ _ _ _ _ (HC.out.on HB1.out) rfl HO.out HX.out (by omega)).mono ?_
             rintro e w2 ⟨A2, c2', rfl, l2, m2, r2, hb2⟩
             have R2 := Lib.hid r2
             have M2 := Lib.hid m2
             have HB2 := Lib.hid (HB.out.trans ((HB1.out.trans (hb2.mono HB1.out.size)).mono HB.out.size))
             clear hb2 r2 m2))
        go_roundg (gk - 1)
        case measure => omega
        case rel => exact ⟨k + 1, _, A2, c2', by omega, by go_num, rfl, rfl, Nat.le_trans cl.out (Nat.succ_le_succ hC), l2, M2, (cutL_ok HO.out HX.out).1, R2, HB2.out⟩
      · have g1 : (pk == 0) = false := by simp; omega
        clear hk0
        go_wp2_with (first
          | (go_at_call 23; refine (picked_any _ _ (by omega) (by omega) _).mono ?_; rintro e w' ⟨rfl, rfl⟩; simp only [HA.out, HBB.out, HKK.out])
          | (go_at_call 13
             rw [HW2.out]
             refine (add_any _ _ _ _ _ _ _ (HC.out.on B2.out) rfl HO.out HX.out (by omega) hCc hcm'.out).mono ?_
             rintro e w1 ⟨A1, c1', rfl, l1, m1, r1, hb1⟩
             have d2 := (hb1.cell (p := ⟨wr.heap.size, 0, none⟩) (by rw [Z2.out]; simp only; omega)).trans E2.out
             have R1 := Lib.hid r1
             have M1 := Lib.hid m1
             have HB1 := Lib.hid (HB.out.trans ((B2.out.trans (hb1.mono B2.out.size)).mono HB.out.size))
             clear hb1 r1 m1))
        go_roundg (gk - 1)
        case measure => omega
        case rel => exact ⟨k + 1, _, A1, c1', by omega, by go_num, rfl, rfl, Nat.le_trans il.out (Nat.succ_le_succ hC), l1, M1, (insL_ok HO.out HX.out).1, R1, HB1.out⟩
    · have c20 : C.length ≤ 20 := by omega
      go_wp2
      go_ret2
      exact ⟨C, A', c, rfl, HO.out, c20, hCc, hcm'.out, HC.out, HB.out⟩
end Go.Proofs.Ytockfejaijdmjaa
