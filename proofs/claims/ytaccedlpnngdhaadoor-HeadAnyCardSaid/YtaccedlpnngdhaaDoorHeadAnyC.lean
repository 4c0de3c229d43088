/- The walk of HeadAny, over what is asked of the three functions. -/
import Derived.Test.YtaccedlpnngdhaaDoorHdSameN
namespace Go.Proofs.YtaccedlpnngdhaaDoor
set_option linter.unusedVariables false
open Go.RowKit P

theorem decNum_err {h : Hd} {s : List Int} {x : Int} (k : decNum h s = .error x) : x = 4 := by
  unfold decNum at k
  split at k
  · simpa using k.symm
  · cases k
theorem decTok_err {s : List Int} {x : Int} (k : decTok s = .error x) : x = 4 ∨ x = 1 := by
  unfold decTok at k
  cases h1 : rd s with
  | error e => rw [h1] at k; simp only [Except.error.injEq] at k; have := rd_err h1; omega
  | ok p =>
    rw [h1] at k
    simp only at k
    split at k
    · simp only [Except.error.injEq] at k; omega
    split at k
    · simp only [Except.error.injEq] at k; omega
    · cases k
theorem decH_ne {s : List Int} {x : Int} (k : decH s = .error x) : x ≠ 0 := by
  cases s with
  | nil => simp only [decH, Except.error.injEq] at k; omega
  | cons z s =>
    simp only [decH] at k
    cases hk : kindH z with
    | none => rw [hk] at k; simp only [Except.error.injEq] at k; omega
    | some p =>
      rw [hk] at k
      obtain ⟨q, n⟩ := p
      simp only at k
      cases s with
      | nil => simp only [Except.error.injEq] at k; omega
      | cons a s =>
        simp only at k
        split at k
        · have := decNum_err k; omega
        · cases s with
          | nil => simp only [Except.error.injEq] at k; omega
          | cons b s =>
            simp only at k
            cases h1 : decTok s with
            | error e => rw [h1] at k; simp only [Except.error.injEq] at k; have := decTok_err h1; omega
            | ok p => rw [h1] at k; have := decNum_err k; omega
set_option maxRecDepth 100000 in
set_option maxHeartbeats 600000 in
theorem headAny_core (a0 : Option Addr) (len cap : Nat) (z0 : List Int) (W : World) (hCK : ∀ v h w, HdVal w w.heap.size v h → HdWf h → Calls Tryd.prog 6 #[v] w fun e w' => e = .returned (.int .i64 (faultH h)) ∧ Below w.heap.size w w')
    (hDEC : ∀ (A : Option Addr) (n c : Nat) (zs : List Int) (w : World), BRow w w.heap.size A zs → zs.length = n → n ≤ c → c ≤ maxLen → (A = none → c = 0) → n ≤ 140737488355328 → Calls Tryd.prog 12 #[.slice A n c] w (HdDec zs w))
    (hENC : ∀ v h w', Below W.heap.size W w' → HdVal w' w'.heap.size v h → HdWf h → Calls Tryd.prog 7 #[v] w' (HdEnc h w')) (h : IsRow .u8 W a0 len cap z0) (hr : cap * 1 ≤ 140737488351232) :
    Calls Tryd.prog 5 #[.slice a0 len cap] W fun e w' => e = .returned (.bool true) ∧ Below W.heap.size W w' := by
  obtain ⟨hb, hl, hc, hm⟩ := InRow.brow h
  have hn : a0 = none → cap = 0 := by
    rcases h with ⟨_, _, h, _⟩ | ⟨x, h, _⟩
    · exact fun _ => h
    · intro e; rw [h] at e; cases e
  obtain ⟨zs, hz⟩ : ∃ zs, z0.take len = zs := ⟨_, rfl⟩
  rw [hz] at hb hl
  have HB := Lib.hid hb
  have HL := Lib.hid hl
  have HDEC := Lib.hid (hDEC a0 len cap zs W hb hl hc hm hn (by omega))
  have HD0 := Lib.hid (fun w => hDEC none 0 0 [] w (BRow.nil _ _ _) rfl (Nat.le_refl _) (by unfold maxLen; omega) (fun _ => rfl) (by omega))
  have HDX := Lib.hid hDEC
  have HEN := Lib.hid hENC
  have HCK := Lib.hid hCK
  have hl47 : len ≤ 140737488351232 := by omega
  clear h hb hl hz hn hDEC hENC hCK
  cases hd : decH zs with
  | error x =>
    have HD := Lib.hid hd
    have hx : (x != 0) = true := by have := decH_ne hd; simp [this]
    clear hd
    go_enter Tryd.func5, Tryd.ntmps5
    go_wp2_with (first
      | (go_at_call 12; have g := B1.out; refine (HD0.out _).mono ?_; rintro e w2 hD; obtain ⟨b2, hm2⟩ := hD; rw [show decH [] = .error 4 from rfl] at hm2; obtain rfl := hm2; have B2 := Lib.hid (B1.out.trans (((Below.refl w1.heap.size w1).alloc (Nat.le_refl _) (.cells #[.int .i64 0, .int .i64 0, .int .i64 0, .slice none 0 0, .int .i64 0, .int .i64 0] 24)).trans (b2.mono (by simp)) |>.mono B1.out.size)); clear b2 g)
      | (go_at_call 12; refine HDEC.out.mono ?_; rintro e w1 hD; obtain ⟨b1, hm1⟩ := hD; rw [HD.out] at hm1; obtain rfl := hm1; have B1 := Lib.hid b1; clear b1))
    go_ret
    exact ⟨rfl, B2.out.alloc B2.out.size _⟩
  | ok p =>
    obtain ⟨h, t⟩ := p
    have HD := Lib.hid hd
    obtain ⟨hf, hlen, _⟩ := decH_any HB.out.1 hd
    have HF := Lib.hid hf
    have HWF := Lib.hid (okH_of hf).wf
    have HE := Lib.hid (show decH (hdT h) = .ok (h, []) by have := decH_back hf []; rwa [List.append_nil] at this)
    have k1 : (hdT h).length ≤ zs.length := by omega
    have k2 : t.length ≤ zs.length := by omega
    have k3 : (hdT h).length + t.length ≤ zs.length := hlen
    have HLen := Lib.hid (show zs.length = len from HL.out)
    clear hd hf hlen
    go_enter Tryd.func5, Tryd.ntmps5
    go_wp2_with (first
      | (go_at_call 14; refine (sameHdN_eq _ _ h _ HV5.out HX5.out).mono ?_; rintro e w6 ⟨rfl, b6⟩; have B6 := Lib.hid (B5.out.trans (b6.mono B5.out.size)); clear b6)
      | (go_at_call 6; refine (HCK.out _ h _ HV4.out HWF.out).mono ?_; rintro e w5 ⟨rfl, b5⟩; rw [HF.out]; have B5 := Lib.hid (B4.out.trans (b5.mono B4.out.size)); have HV5 := Lib.hid (HV4.out.on b5); have HX5 := Lib.hid (HX4.out.on b5); clear q0 q1 q2 q3 q4 q5; obtain ⟨q0, q1, q2, q3, q4, q5, _⟩ := bk6 ((b5.block _ (lt_of_block FB4.out)).trans FB4.out); obtain ⟨x0, x1, x2, x3, x4, x5, _⟩ := bk6 ((b5.block _ (lt_of_block FX4.out)).trans FX4.out); clear b5)
      | (go_at_call 12; have g := HR3.out; refine (HDX.out A3 (hdT h).length c3 (hdT h) _ HR3.out rfl hc3 hm3 HN3.out (by have := HLen.out; omega)).mono ?_; rintro e w4 hD; obtain ⟨b4, hm4⟩ := hD; rw [HE.out] at hm4; obtain ⟨v4, rfl, hv4⟩ := hm4; obtain ⟨d4, rfl, hd4⟩ := hv4.ex; obtain ⟨Ad4, cd4, hda4, _, _, _, _⟩ := hd4.ex; subst hda4; have X4 := Lib.hid ((Below.refl w4.heap.size w4).alloc (Nat.le_refl _) (.cells #[.int .i64 h.kind, .int .i64 h.to, .int .i64 h.frm, .slice Ad4 h.tok.length cd4, .int .i64 h.num, .int .i64 h.size] 24)); have B4 := Lib.hid ((B3.out.trans (b4.mono B3.out.size)).trans (X4.out.mono ((B3.out.trans (b4.mono B3.out.size)).size))); have b34 := b4.trans (X4.out.mono b4.size); have FB4 := Lib.hid ((b34.block _ (lt_of_block FB3.out)).trans FB3.out); have FX4 := Lib.hid (heap_alloc_new w4 (.cells #[.int .i64 h.kind, .int .i64 h.to, .int .i64 h.frm, .slice Ad4 h.tok.length cd4, .int .i64 h.num, .int .i64 h.size] 24)); have HV4 := Lib.hid (HV3.out.on b34); have HX4 := Lib.hid (hv4.on X4.out); clear q0 q1 q2 q3 q4 q5; obtain ⟨q0, q1, q2, q3, q4, q5, _⟩ := bk6 FB4.out; clear b4 b34 hv4 hd4 g)
      | (go_at_call 7; refine (HEN.out _ h _ B2.out HV2.out HWF.out).mono ?_; rintro e w3 hE; obtain ⟨b3, A3, c3, rfl, hc3, hm3, hn3, hr3⟩ := hdEnc_yes hE HF.out; have B3 := Lib.hid (B2.out.trans (b3.mono B2.out.size)); have FB3 := Lib.hid ((b3.block _ (lt_of_block FB2.out)).trans FB2.out); have HV3 := Lib.hid (HV2.out.on b3); have HR3 := Lib.hid hr3; have HN3 := Lib.hid hn3; clear hE b3 hr3 hn3)
      | (go_at_call 12; have g := HV1.out; refine (HD0.out _).mono ?_; rintro e w2 hD; obtain ⟨b2, hm2⟩ := hD; rw [show decH [] = .error 4 from rfl] at hm2; obtain rfl := hm2; have b2z := b2.alloc b2.size (.cells #[.int .i64 0, .int .i64 0, .int .i64 0, .slice none 0 0, .int .i64 0, .int .i64 0] 24); have B2 := Lib.hid (B1.out.trans ((A1.out.trans (b2z.mono A1.out.size)).mono B1.out.size)); have FB2 := Lib.hid ((b2z.block _ (lt_of_block FB1.out)).trans FB1.out); have HV2 := Lib.hid (HV1.out.on b2z); obtain ⟨q0, q1, q2, q3, q4, q5, _⟩ := bk6 FB2.out; clear b2 b2z g)
      | (go_at_call 12; refine HDEC.out.mono ?_; rintro e w1 hD; obtain ⟨b1, hm1⟩ := hD; rw [HD.out] at hm1; obtain ⟨v1, rfl, ho⟩ := hm1; obtain ⟨d1, rfl, hd1⟩ := ho.ex; obtain ⟨Ad1, cd1, hda1, _, _, _, _⟩ := hd1.ex; subst hda1; have B1 := Lib.hid b1; have A1 := Lib.hid ((Below.refl w1.heap.size w1).alloc (Nat.le_refl _) (.cells #[.int .i64 h.kind, .int .i64 h.to, .int .i64 h.frm, .slice Ad1 h.tok.length cd1, .int .i64 h.num, .int .i64 h.size] 24)); have FB1 := Lib.hid (heap_alloc_new w1 (.cells #[.int .i64 h.kind, .int .i64 h.to, .int .i64 h.frm, .slice Ad1 h.tok.length cd1, .int .i64 h.num, .int .i64 h.size] 24)); have HV1 := Lib.hid (ho.on A1.out); clear b1 ho hd1))
    all_goals have hL := HLen.out
    all_goals first
      | (exfalso; omega)
      | (go_ret; exact ⟨rfl, B6.out⟩)
end Go.Proofs.YtaccedlpnngdhaaDoor
