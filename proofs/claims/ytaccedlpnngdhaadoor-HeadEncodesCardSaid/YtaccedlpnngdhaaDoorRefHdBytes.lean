/- The document's answer on a head's bytes: HeadBytes. -/
import Derived.Test.YtaccedlpnngdhaaDoorRefHdText
import Derived.Test.YtaccedlpnngdhaaDoorRefHdFault
import Derived.Test.YtaccedlpnngdhaaDoorConvS
namespace Go.Proofs.YtaccedlpnngdhaaDoor
set_option linter.unusedVariables false
open Go.RowKit P

section
variable (v : Value) (h : Hd) (w : World)
theorem refHdBytes_no (hv : HdVal w w.heap.size v h) (hw : HdWf h) (H : faultH h ≠ 0) :
    Calls Tryd.prog 9 #[v] w fun e w' => e = .returned (.tuple #[.slice none 0 0, .int .i64 (faultH h)]) ∧ Below w.heap.size w w' := by
  have HF := Lib.hid (fun w' (hb : Below w.heap.size w w') => refHdFault_any v h w' ((hv.below hb).more hb.size) hw)
  obtain ⟨x, hx⟩ : ∃ x, faultH h = x := ⟨_, rfl⟩
  rw [hx] at HF H ⊢
  clear hx
  obtain ⟨d, rfl, hd⟩ := hv.ex
  obtain ⟨A, c, rfl, hc, hcm, -, hr⟩ := hd.ex
  clear hv hd hw hr
  obtain ⟨kd, to, fr, tok, num, size⟩ := h
  simp only at HF hc ⊢
  have hx : (x != 0) = true := by simpa using H
  clear H
  go_enter Tryd.func9, Tryd.ntmps9
  go_wp2_with (go_at_call 8; refine (HF.out _ ((Below.refl _ _).alloc (Nat.le_refl _) _)).mono ?_; rintro e w1 ⟨rfl, hb1⟩)
  go_ret2
  exact ⟨rfl, ((Below.refl _ _).alloc (Nat.le_refl _) _).trans (hb1.mono (by simp))⟩
theorem refHdBytes_yes (hv : HdVal w w.heap.size v h) (H : faultH h = 0) :
    Calls Tryd.prog 9 #[v] w fun e w' => Below w.heap.size w w' ∧ ∃ d, e = .returned (.tuple #[d, .int .i64 0]) ∧ BSl w' w'.heap.size d (hdT h) := by
  have hok := okH_of H
  have HF := Lib.hid (fun w' (hb : Below w.heap.size w w') => H ▸ refHdFault_any v h w' ((hv.below hb).more hb.size) hok.wf)
  have HT := Lib.hid (fun w' (hb : Below w.heap.size w w') => refHdText_any v h w' ((hv.below hb).more hb.size) H)
  have hby : Byt (hdT h) := by
    obtain ⟨d, rfl, hd⟩ := hv.ex
    obtain ⟨A, c, rfl, hc, hcm, -, hr⟩ := hd.ex
    exact hdT_byt hok hr.1
  have hlen := hdT_len hok
  have HC := Lib.hid (fun w' => conv_str (hdT h) hby (by omega) w')
  clear hby hlen hok H
  generalize hdT h = X at *
  obtain ⟨d, rfl, hd⟩ := hv.ex
  obtain ⟨A, c, rfl, hc, hcm, -, hr⟩ := hd.ex
  clear hv hd hr
  obtain ⟨kd, to, fr, tok, num, size⟩ := h
  simp only at HF HT hc ⊢
  have F0 := Lib.hid (heap_alloc_new w (.cells #[.int .i64 kd, .int .i64 to, .int .i64 fr, .slice A tok.length c, .int .i64 num, .int .i64 size] 24))
  have B0 := Lib.hid ((Below.refl w.heap.size w).alloc (Nat.le_refl _) (.cells #[.int .i64 kd, .int .i64 to, .int .i64 fr, .slice A tok.length c, .int .i64 num, .int .i64 size] 24))
  go_enter Tryd.func9, Tryd.ntmps9
  go_wp2_with (first
    | (go_at_call 8; refine (HF.out _ B0.out).mono ?_; rintro e w1 ⟨rfl, hb1⟩; have B1 := Lib.hid (B0.out.trans (hb1.mono B0.out.size)); have F1 := Lib.hid ((hb1.block _ (lt_of_block F0.out)).trans F0.out); clear hb1; obtain ⟨q0, q1, q2, q3, q4, q5, qf⟩ := bk6 F1.out)
    | (go_at_call 20; refine (HT.out _ B1.out).mono ?_; rintro e w2 ⟨rfl, hb2⟩; have B2 := Lib.hid (B1.out.trans (hb2.mono B1.out.size)); clear hb2; obtain ⟨C, w3, hrun, hb3, hlt, hd3⟩ := HC.out w2))
  go_ret2
  exact ⟨B2.out.trans (hb3.mono B2.out.size), _, rfl, hd3⟩
theorem refHdBytes_any (hv : HdVal w w.heap.size v h) (hw : HdWf h) :
    Calls Tryd.prog 9 #[v] w (HdEnc h w) := by
  by_cases H : faultH h = 0
  · refine (refHdBytes_yes v h w hv H).mono ?_
    rintro e w' ⟨hb, d, rfl, hd⟩
    exact ⟨hb, d, by rw [H], by rw [if_pos H]; exact hd⟩
  · refine (refHdBytes_no v h w hv hw H).mono ?_
    rintro e w' ⟨rfl, hb⟩
    exact ⟨hb, _, rfl, by rw [if_neg H]; exact BSl.nil _ _⟩
end
end Go.Proofs.YtaccedlpnngdhaaDoor
