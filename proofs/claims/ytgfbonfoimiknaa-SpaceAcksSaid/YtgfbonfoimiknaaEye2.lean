/- Contracts of the eye's word, data, kind and downFrom; of bytes.Clone. -/
import Derived.Test.YtgfbonfoimiknaaEye
import Derived.Test.YtgfbonfoimiknaaGrpB
import Derived.Test.YtgfbonfoimiknaaGrpZj
import Derived.Lib.SliceRun
namespace Go.Proofs.Ytgfbonfoimiknaa
set_option linter.unusedVariables false
open Go.RowKit P

theorem or_u64 (x y : Int) (hx : 0 ≤ x) (hx1 : x ≤ 72057594037927935) (hy : 0 ≤ y) (hy1 : y ≤ 255) : bits .or .u64 (x * 256) y = x * 256 + y :=
  bits_join .u64 64 (by decide) (fun n h0 h1 => IntWalk.u64_in n (by omega)) 8 (x * 256) y (by omega) (by omega) (by omega) hy (by omega) (by omega)

theorem word_eye (y : Nat) (σ : St) (w : World) (h : EyeAt w y σ) :
    Calls Try.prog 163 #[.pointer (some ⟨y, 0, none⟩)] w (EyePost y (.int .u64 (wordS σ).1) (wordS σ).2 w) := by
  have HT := Lib.hid (take_eye y σ 8 w h (by omega) (by omega))
  have h8 : (takeS 8 σ).1.length ≤ 8 := by
    unfold takeS
    split
    · simp; omega
    · simp
  have HW1 := Lib.hid (show (wordS σ).1 = beFrom 0 (takeS 8 σ).1 from rfl)
  have HW2 := Lib.hid (show (wordS σ).2 = (takeS 8 σ).2 from rfl)
  obtain ⟨zs, hz⟩ : ∃ zs, (takeS 8 σ).1 = zs := ⟨_, rfl⟩
  obtain ⟨σ1, hs⟩ : ∃ σ1, (takeS 8 σ).2 = σ1 := ⟨_, rfl⟩
  rw [hz] at HT h8 HW1
  rw [hs] at HT HW2
  rw [HW1.out, HW2.out]
  clear h hz hs HW1 HW2
  go_enter Try.func163, Try.ntmps163
  go_wp2_with (go_at_call 189; refine HT.out.mono ?_; rintro e w1 ⟨v, rfl, hv, E1, g1⟩; obtain ⟨A1, c1, rfl, l1, m1, n1, r1⟩ := hv.ex; have R1 := Lib.hid r1; have HE := Lib.hid E1; have G1 := Lib.hid g1; clear hv E1 g1 r1 n1)
  go_loop [3, 9] (fun acc i => ∃ k : Nat, k ≤ zs.length ∧ i = .int .i64 k ∧ acc = .int .u64 (beFrom 0 (zs.take k))) (fun _ i => zs.length - (intOf i).toNat)
  case atStart => exact ⟨0, Nat.zero_le _, rfl, rfl⟩
  case round =>
    obtain ⟨k, hk, rfl, rfl⟩ := hrel
    by_cases hlt : k < zs.length
    · obtain ⟨b, off, rfl, _, hc⟩ := R1.out.2 (by omega)
      have hcell := hc k hlt
      have st := beFrom_step 0 zs k hlt
      have bd := beFrom_bd 0 zs R1.out.1 (by omega) k (by omega)
      have hby := R1.out.1 k
      have bd7 : 0 ≤ beFrom 0 (zs.take k) ∧ beFrom 0 (zs.take k) ≤ 72057594037927935 := by
        have p : (256 : Int) ^ k ≤ 72057594037927936 := by
          have c : k = 0 ∨ k = 1 ∨ k = 2 ∨ k = 3 ∨ k = 4 ∨ k = 5 ∨ k = 6 ∨ k = 7 := by omega
          rcases c with rfl | rfl | rfl | rfl | rfl | rfl | rfl | rfl <;> decide
        generalize (256 : Int) ^ k = u at *
        omega
      generalize beFrom 0 (zs.take k) = yy at st bd7
      generalize zs.getD k 0 = x at st hby hcell
      have hor := or_u64 yy x bd7.1 bd7.2 hby.1 hby.2
      have ST := Lib.hid st
      clear st bd hc
      go_wp2
      go_round
      case rel => exact ⟨k + 1, by omega, by go_num, by rw [ST.out]⟩
      case measure => simp [intOf]; omega
    · obtain rfl : k = zs.length := by omega
      go_wp2
      go_ret
      exact ⟨ret_int (by first | rfl | rw [List.take_of_length_le (Nat.le_refl _)]), HE.out, G1.out⟩

theorem data_eye (y : Nat) (σ : St) (w : World) (h : EyeAt w y σ) (hm : σ.2.length ≤ 140737488355328) :
    Calls Try.prog 164 #[.pointer (some ⟨y, 0, none⟩)] w fun e w' => ∃ v, e = .returned v ∧ (w'.ownsRow w.heap.size 5 1 v (dataS σ).1.length ((dataS σ).1.map (.int .u8)) ∧ Byt (dataS σ).1) ∧ EyeAt w' y (dataS σ).2 ∧ w.grownBy w' (some y) := by
  have hb := numS_bd h.byt
  have HN := Lib.hid (number_eye y σ w h)
  have HD := Lib.hid (show dataS σ = takeS (numS σ).1 (refS (decide (120 < (numS σ).1)) 1 (numS σ).2) from rfl)
  obtain ⟨n, hn⟩ : ∃ n, (numS σ).1 = n := ⟨_, rfl⟩
  obtain ⟨σ1, hs⟩ : ∃ σ1, (numS σ).2 = σ1 := ⟨_, rfl⟩
  rw [hn, hs] at HN HD hb
  obtain ⟨n0, n1, nb, nl⟩ := hb
  have HB := Lib.hid nb
  have HL := Lib.hid (show ∀ b, (takeS n (refS b 1 σ1)).1.length ≤ 140737488355328 from fun b => by
    have := (takeS_bd (σ := refS b 1 σ1) (by rw [refS_left]; exact HB.out) n).2.2
    rw [refS_left] at this
    omega)
  have HBT := Lib.hid (show ∀ b, Byt (takeS n (refS b 1 σ1)).1 from fun b => (takeS_bd (σ := refS b 1 σ1) (by rw [refS_left]; exact HB.out) n).1)
  rw [HD.out]
  clear h hn hs HD nb
  go_enter Try.func164, Try.ntmps164
  go_wp2_with (first
    | (go_at_call 162; refine HN.out.mono ?_; rintro e w1 ⟨rfl, E1, g1⟩; have HE1 := Lib.hid E1; have G1 := Lib.hid g1; clear E1 g1)
    | (go_at_call 159; refine (refuse_eye _ _ _ _ _ HE1.out).mono ?_; rintro e w2 ⟨rfl, E2, g2⟩; have HE2 := Lib.hid E2; have G2 := Lib.hid (grown_trans G1.out g2); clear E2 g2)
    | (go_at_call 189; refine (take_eye _ _ _ _ HE2.out n0 n1).mono ?_; rintro e w3 ⟨v3, rfl, s3, E3, g3⟩; have S3 := Lib.hid s3; have HE3 := Lib.hid E3; have G3 := Lib.hid (grown_trans G2.out g3); clear E3 g3 s3)
    | (go_at_call 62; refine (bclone_any _ _ _ _ (Nat.le_of_lt HE3.out.lt) S3.out (HL.out _)).mono ?_; rintro e w4 ⟨v4, rfl, s4, b4⟩; have S4 := Lib.hid s4; have HE4 := Lib.hid (HE3.out.keep b4); have G4 := Lib.hid (grown_trans G3.out (grown_below _ b4)); clear s4 b4))
  go_ret
  exact ⟨_, rfl, ⟨own_base S4.out G3.out.size, HBT.out _⟩, HE4.out, G4.out⟩
end Go.Proofs.Ytgfbonfoimiknaa
