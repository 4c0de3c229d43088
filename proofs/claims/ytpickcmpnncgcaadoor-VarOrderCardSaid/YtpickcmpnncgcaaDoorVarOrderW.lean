/- VarOrder's walk. -/
import Derived.Test.YtpickcmpnncgcaaDoorOrd
namespace Go.Proofs.YtpickcmpnncgcaaDoor
set_option linter.unusedVariables false
open Go.RowKit P

set_option maxHeartbeats 1000000 in
theorem varOrder_core (a b n m : Int) (X Y : List Int) (a0 : 0 ≤ a) (a1 : a ≤ 4611686018427387903) (b0 : 0 ≤ b) (b1 : b ≤ 4611686018427387903) (hn : num n = a) (hm : num m = b) (hX : enc a = X) (hY : enc b = Y) (w : World) (ht : Tab w) :
    Calls Tryd.prog 5 #[.int .i64 n, .int .i64 m] w fun e w' => e = .returned (.bool true) ∧ Below w.heap.size w w' := by
  have la := enc_len a
  have lb := enc_len b
  have za := sz_bd a
  have zb := sz_bd b
  have ba := enc_byt a a0 a1
  have bb := enc_byt b b0 b1
  have ord := enc_order a b a0 a1 b0 b1
  rw [hX] at la ba ord
  rw [hY] at lb bb ord
  have HN := Lib.hid hn
  have HM := Lib.hid hm
  have HT := Lib.hid ht
  have HA : Hid (∀ w, Tab w → Calls Tryd.prog 7 #[.int .i64 a] w (EncPost X w)) := fun w h => hX ▸ encode_in a a0 a1 w h
  have HB : Hid (∀ w, Tab w → Calls Tryd.prog 7 #[.int .i64 b] w (EncPost Y w)) := fun w h => hY ▸ encode_in b b0 b1 w h
  have mono : a ≤ b → sz a ≤ sz b := sz_mono a b
  have mono' : b ≤ a → sz b ≤ sz a := sz_mono b a
  clear hn hm ht hX hY
  have BA := Lib.hid ba
  have BB := Lib.hid bb
  clear ba bb
  have h0 : 0 < X.length := by omega
  have h8 : Y.length ≤ 8 := by omega
  have h8' : X.length ≤ 8 := by omega
  have key : (a < b ∧ X.length < Y.length) ∨ (b ≤ a ∧ Y.length < X.length) ∨ (a < b ∧ X.length ≤ Y.length ∧ Y.length ≤ X.length) ∨ (b ≤ a ∧ X.length ≤ Y.length ∧ Y.length ≤ X.length) := by
    by_cases hab : a < b
    · have := mono (by omega); omega
    · have := mono' (by omega); omega
  have ORD := Lib.hid ord
  clear ord la lb za zb mono mono' a0 a1 b0 b1
  rcases key with ⟨hab, hl⟩ | ⟨hab, hl⟩ | ⟨hab, hl, hl'⟩ | ⟨hab, hl, hl'⟩
  case' inr.inr.inl => have o := ORD.out (by omega)
  case' inr.inr.inr => have o := ORD.out (by omega)
  case' inl =>
    have d1 : decide (X.length < Y.length) = true := decide_eq_true hl
    have d2 : decide (a < b) = true := decide_eq_true hab
  case' inr.inl =>
    have d1 : decide (X.length < Y.length) = false := decide_eq_false (by omega)
    have d2 : decide (a < b) = false := decide_eq_false (by omega)
  case' inr.inr.inl =>
    have d1 : decide (X.length < Y.length) = false := decide_eq_false (by omega)
    have d2 : decide (a < b) = true := decide_eq_true hab
  case' inr.inr.inr =>
    have d1 : decide (X.length < Y.length) = false := decide_eq_false (by omega)
    have d2 : decide (a < b) = false := decide_eq_false (by omega)
  all_goals
      go_enter Tryd.func5, Tryd.ntmps5
      go_wp2_with (go_at_call 11; refine (number_any _ _).mono ?_; rintro e w' ⟨rfl, rfl⟩; simp only [HN.out, HM.out])
      refine (HA.out _ HT.out).mono ?_
      rintro e w1 hp1
      have r1 := Lib.hid (EncPost.row hp1 BA.out)
      have s1 := EncPost.lt hp1
      have t1 := Lib.hid (HT.out.below hp1.2.1)
      have b1 := Lib.hid hp1.2.1
      obtain ⟨rfl, _, _⟩ := hp1
      rename_i _ _
      go_wp2_with (fail)
      refine (HB.out _ t1.out).mono ?_
      rintro e w2 hp2
      have r2 := Lib.hid (EncPost.row hp2 BB.out)
      have b2 := Lib.hid hp2.2.1
      obtain ⟨rfl, _, _⟩ := hp2
      have c1 := run_str (P := Tryd.prog) ((r1.out.more (B' := w1.heap.size) (by omega)).below b2.out) rfl 25 9 5 X.length Tryd.underlying25 Tryd.underlying5 Tryd.underlying9
      have c2 := run_str (P := Tryd.prog) r2.out rfl 25 9 5 Y.length Tryd.underlying25 Tryd.underlying5 Tryd.underlying9
      go_wp2
      go_ret
      refine ⟨ret_bool (by first | rfl | (simp; done) | (simp; omega)), ?_⟩
      exact (b1.out.trans (b2.out.mono (Nat.le_of_lt s1)))

theorem varOrder_walk (n m : Int) (w : World) (ht : Tab w) :
    Calls Tryd.prog 5 #[.int .i64 n, .int .i64 m] w fun e w' => e = .returned (.bool true) ∧ Below w.heap.size w w' :=
  varOrder_core _ _ n m _ _ (num_bd n).1 (num_bd n).2 (num_bd m).1 (num_bd m).2 rfl rfl rfl rfl w ht
end Go.Proofs.YtpickcmpnncgcaaDoor
