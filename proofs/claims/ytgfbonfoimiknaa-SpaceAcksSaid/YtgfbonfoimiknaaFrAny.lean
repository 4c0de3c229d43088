/- A frame is read as it was written, cut short it is none; what is read may be, and is written in no more bytes. Nothing of the program's. -/
import Derived.Test.YtgfbonfoimiknaaGrpA
namespace Go.Proofs.Ytgfbonfoimiknaa.P
set_option linter.unusedVariables false
open Go.RowKit

theorem be_low8 (v : Int) (h0 : 0 ≤ v) (h1 : v ≤ 18446744073709551615) : beFrom 0 (lowB 8 v) = v := by
  show (((((((0 * 256 + v / 256 / 256 / 256 / 256 / 256 / 256 / 256 % 256) * 256 + v / 256 / 256 / 256 / 256 / 256 / 256 % 256) * 256 + v / 256 / 256 / 256 / 256 / 256 % 256) * 256 + v / 256 / 256 / 256 / 256 % 256) * 256 + v / 256 / 256 / 256 % 256) * 256 + v / 256 / 256 % 256) * 256 + v / 256 % 256) * 256 + v % 256 = v
  omega

theorem numBad_no {has : Bool} {n : Int} (h : ¬ numBad has n = true) : 0 ≤ n ∧ n ≤ 4611686018427387903 ∧ (has = false → n = 0) := by
  unfold numBad at h
  cases has <;> simp at h ⊢ <;> omega
/-- a frame that may be -/
structure OkF (f : Fr) (s : List Int) : Prop where
  parts : partsOf f.kind = some s
  data : f.data.length ≤ 120
  rs : f.rs.length ≤ 6
  id0 : 0 ≤ f.id
  id1 : f.id ≤ 4611686018427387903
  idn : 105 ∉ s → f.id = 0
  off0 : 0 ≤ f.off
  off1 : f.off ≤ 4611686018427387903
  offn : 111 ∉ s → f.off = 0
  code0 : 0 ≤ f.code
  code1 : f.code ≤ 4611686018427387903
  coden : 99 ∉ s → 119 ∉ s → f.code = 0
  rsn : 114 ∉ s → f.rs = []
  rsy : 114 ∈ s → 0 < f.rs.length
  down : downL f.rs
  datan : 100 ∉ s → f.data = []
  finn : 102 ∉ s → f.fin = false
theorem okF_of {f : Fr} (h : faultF f = 0) : ∃ s, OkF f s := by
  unfold faultF at h
  cases hp : partsOf f.kind with
  | none => rw [hp] at h; simp at h
  | some s =>
    rw [hp] at h
    simp only at h
    by_cases c1 : 120 < f.data.length ∨ 6 < f.rs.length
    · rw [if_pos c1] at h; omega
    rw [if_neg c1] at h
    by_cases c2 : numBad (decide (105 ∈ s)) f.id = true ∨ numBad (decide (111 ∈ s)) f.off = true ∨ numBad (decide (99 ∈ s) || decide (119 ∈ s)) f.code = true
    · rw [if_pos c2] at h; omega
    rw [if_neg c2] at h
    by_cases c3 : 111 ∈ s ∧ 100 ∈ s ∧ 4611686018427387903 < f.off + f.data.length
    · rw [if_pos c3] at h; omega
    rw [if_neg c3] at h
    by_cases c4 : decide (0 < f.rs.length) ≠ decide (114 ∈ s) ∨ ¬ downL f.rs ∨ (0 < f.data.length ∧ 100 ∉ s) ∨ (f.fin = true ∧ 102 ∉ s)
    · rw [if_pos c4] at h; omega
    have n1 := numBad_no fun e => c2 (.inl e)
    have n2 := numBad_no fun e => c2 (.inr (.inl e))
    have n3 := numBad_no fun e => c2 (.inr (.inr e))
    have r1 : (0 < f.rs.length) ↔ 114 ∈ s := by
      have : decide (0 < f.rs.length) = decide (114 ∈ s) := Decidable.byContradiction fun e => c4 (.inl e)
      simpa using this
    refine ⟨s, hp, by omega, by omega, n1.1, n1.2.1, fun e => n1.2.2 (by simpa using e), n2.1, n2.2.1, fun e => n2.2.2 (by simpa using e), n3.1, n3.2.1, fun e e' => n3.2.2 (by simp [e, e']), fun e => ?_, fun e => r1.2 e, ?_, fun e => ?_, fun e => ?_⟩
    · exact List.eq_nil_of_length_eq_zero (by have := mt r1.1 e; omega)
    · exact Decidable.byContradiction fun e => c4 (.inr (.inl e))
    · refine List.eq_nil_of_length_eq_zero ?_
      rcases Nat.eq_zero_or_pos f.data.length with e0 | e0
      · exact e0
      · exact absurd (.inr (.inr (.inl ⟨e0, e⟩))) c4
    · cases hf : f.fin with
      | false => rfl
      | true => exact absurd (.inr (.inr (.inr ⟨hf, e⟩))) c4

/-- the number that a frame begins with -/
def mkF (f : Fr) : Int := if f.kind = 8 then (if f.fin then 15 else 14) else f.kind
theorem mark_enc (f : Fr) : markF f = enc (mkF f) := by
  unfold markF mkF
  split
  · split <;> rfl
  · rfl
theorem encData (f : Fr) (h : f.data.length ≤ 120) (m : List Int) (g : Fr) : decP g (enc f.data.length ++ f.data ++ m) 100 = .ok ({ g with data := f.data }, m) := by
  rw [decP_d, List.append_assoc, rd_enc _ (by omega) (by omega)]
  simp only
  rw [if_neg (by omega), if_neg (by rw [List.length_append]; omega), show ((f.data.length : Int)).toNat = f.data.length by omega, List.take_left, List.drop_left]
theorem fr_eq {f g : Fr} (h1 : f.kind = g.kind) (h2 : f.id = g.id) (h3 : f.off = g.off) (h4 : f.fin = g.fin) (h5 : f.code = g.code) (h6 : f.rs = g.rs) (h7 : f.data = g.data) : f = g := by
  cases f; cases g; simp_all
theorem step_i (f g : Fr) (h0 : 0 ≤ f.id) (h1 : f.id ≤ 4611686018427387903) (m : List Int) : decP g (encP f 105 ++ m) 105 = .ok ({ g with id := f.id }, m) := by
  show decP g (enc f.id ++ m) 105 = _
  rw [decP_i, rd_enc _ h0 h1]
theorem step_o (f g : Fr) (h0 : 0 ≤ f.off) (h1 : f.off ≤ 4611686018427387903) (m : List Int) : decP g (encP f 111 ++ m) 111 = .ok ({ g with off := f.off }, m) := by
  show decP g (enc f.off ++ m) 111 = _
  rw [decP_o, rd_enc _ h0 h1]
theorem step_c (f g : Fr) (h0 : 0 ≤ f.code) (h1 : f.code ≤ 4611686018427387903) (m : List Int) : decP g (encP f 99 ++ m) 99 = .ok ({ g with code := f.code }, m) := by
  show decP g (enc f.code ++ m) 99 = _
  rw [decP_c, rd_enc _ h0 h1]
theorem step_w (f g : Fr) (h0 : 0 ≤ f.code) (h1 : f.code ≤ 4611686018427387903) (m : List Int) : decP g (encP f 119 ++ m) 119 = .ok ({ g with code := f.code }, m) := by
  show decP g (lowB 8 f.code ++ m) 119 = _
  have l := lowB_len 8 f.code
  rw [decP_w, if_neg (by rw [List.length_append]; omega), List.take_append_of_le_length (by omega), List.take_of_length_le (by omega), List.drop_append_of_le_length (by omega), List.drop_of_length_le (by omega), be_low8 _ h0 (by omega)]
  rw [show i64Of f.code = f.code from if_pos (by omega)]
  rfl
theorem step_d (f g : Fr) (h : f.data.length ≤ 120) (m : List Int) : decP g (encP f 100 ++ m) 100 = .ok ({ g with data := f.data }, m) := encData f h m g
theorem step_r (f g : Fr) (h : downL f.rs) (h0 : 0 < f.rs.length) (h6 : f.rs.length ≤ 6) (m : List Int) : decP g (encP f 114 ++ m) 114 = .ok ({ g with rs := f.rs }, m) := by
  show decP g (encR f.rs ++ m) 114 = _
  rw [decP_r, decRs_enc _ _ h h0 h6]
theorem step_f (f g : Fr) (m : List Int) : decP g (encP f 102 ++ m) 102 = .ok (g, m) := rfl

/-- a frame is read as it was written, whatever stands behind it -/
theorem decF_back {f : Fr} (h : faultF f = 0) (m : List Int) : decF (frT f ++ m) = .ok (f, m) := by
  obtain ⟨s, H⟩ := okF_of h
  have hp := H.parts
  have hk : 0 ≤ mkF f ∧ mkF f ≤ 30 ∧ mkF f ≠ 8 ∧ (if mkF f = 14 ∨ mkF f = 15 then 8 else mkF f) = f.kind ∧ decide (mkF f = 15) = f.fin := by
    have hc := parts_cases hp
    by_cases e8 : f.kind = 8
    · unfold mkF
      rw [if_pos e8]
      cases hf : f.fin <;> simp [e8]
    · have hm : mkF f = f.kind := if_neg e8
      have hs : f.fin = false := H.finn (by
        rcases hc with ⟨e, _⟩ | ⟨e, _⟩ | ⟨e, _⟩ | ⟨e, _⟩ | ⟨e, _⟩ | ⟨e, _⟩ | ⟨e, c⟩ | ⟨e, _⟩ | ⟨e, _⟩ | ⟨e, _⟩ | ⟨e, _⟩ <;> first | (rw [e]; decide) | exact absurd c e8)
      rw [hm, hs]
      refine ⟨by omega, by omega, e8, if_neg (by omega), decide_eq_false (by omega)⟩
  obtain ⟨k0, k1, k8, kk, kf⟩ := hk
  unfold decF frT
  rw [mark_enc, List.append_assoc, rd_enc _ k0 (by omega)]
  simp only
  rw [if_neg k8, kk, hp]
  simp only
  rw [kf]
  have key : decPs s ⟨f.kind, 0, 0, f.fin, 0, [], []⟩ (encPs f ((some s).getD []) ++ m) = .ok (f, m) := by
    simp only [Option.getD_some]
    rcases parts_cases hp with ⟨e, _⟩ | ⟨e, _⟩ | ⟨e, _⟩ | ⟨e, _⟩ | ⟨e, _⟩ | ⟨e, _⟩ | ⟨e, _⟩ | ⟨e, _⟩ | ⟨e, _⟩ | ⟨e, _⟩ | ⟨e, _⟩ <;> subst e
    · simp only [encPs, List.nil_append, decPs, Except.ok.injEq, Prod.mk.injEq, and_true]
      exact fr_eq rfl (H.idn (by decide)).symm (H.offn (by decide)).symm rfl (H.coden (by decide) (by decide)).symm (H.rsn (by decide)).symm (H.datan (by decide)).symm
    · simp only [encPs, List.append_assoc, List.nil_append, decPs, step_r f _ H.down (H.rsy (by decide)) H.rs, Except.ok.injEq, Prod.mk.injEq, and_true]
      exact fr_eq rfl (H.idn (by decide)).symm (H.offn (by decide)).symm rfl (H.coden (by decide) (by decide)).symm rfl (H.datan (by decide)).symm
    · simp only [encPs, List.append_assoc, List.nil_append, decPs, step_i f _ H.id0 H.id1, step_o f _ H.off0 H.off1, step_c f _ H.code0 H.code1, Except.ok.injEq, Prod.mk.injEq, and_true]
      exact fr_eq rfl rfl rfl rfl rfl (H.rsn (by decide)).symm (H.datan (by decide)).symm
    · simp only [encPs, List.append_assoc, List.nil_append, decPs, step_i f _ H.id0 H.id1, step_c f _ H.code0 H.code1, Except.ok.injEq, Prod.mk.injEq, and_true]
      exact fr_eq rfl rfl (H.offn (by decide)).symm rfl rfl (H.rsn (by decide)).symm (H.datan (by decide)).symm
    · simp only [encPs, List.append_assoc, List.nil_append, decPs, step_o f _ H.off0 H.off1, step_d f _ H.data, Except.ok.injEq, Prod.mk.injEq, and_true]
      exact fr_eq rfl (H.idn (by decide)).symm rfl rfl (H.coden (by decide) (by decide)).symm (H.rsn (by decide)).symm rfl
    · simp only [encPs, List.append_assoc, List.nil_append, decPs, step_d f _ H.data, Except.ok.injEq, Prod.mk.injEq, and_true]
      exact fr_eq rfl (H.idn (by decide)).symm (H.offn (by decide)).symm rfl (H.coden (by decide) (by decide)).symm (H.rsn (by decide)).symm rfl
    · simp only [encPs, List.append_assoc, List.nil_append, decPs, step_i f _ H.id0 H.id1, step_o f _ H.off0 H.off1, step_d f _ H.data, step_f, Except.ok.injEq, Prod.mk.injEq, and_true]
      exact fr_eq rfl rfl rfl rfl (H.coden (by decide) (by decide)).symm (H.rsn (by decide)).symm rfl
    · simp only [encPs, List.append_assoc, List.nil_append, decPs, step_o f _ H.off0 H.off1, Except.ok.injEq, Prod.mk.injEq, and_true]
      exact fr_eq rfl (H.idn (by decide)).symm rfl rfl (H.coden (by decide) (by decide)).symm (H.rsn (by decide)).symm (H.datan (by decide)).symm
    · simp only [encPs, List.append_assoc, List.nil_append, decPs, step_i f _ H.id0 H.id1, step_o f _ H.off0 H.off1, Except.ok.injEq, Prod.mk.injEq, and_true]
      exact fr_eq rfl rfl rfl rfl (H.coden (by decide) (by decide)).symm (H.rsn (by decide)).symm (H.datan (by decide)).symm
    · simp only [encPs, List.append_assoc, List.nil_append, decPs, step_w f _ H.code0 H.code1, Except.ok.injEq, Prod.mk.injEq, and_true]
      exact fr_eq rfl (H.idn (by decide)).symm (H.offn (by decide)).symm rfl rfl (H.rsn (by decide)).symm (H.datan (by decide)).symm
    · simp only [encPs, List.append_assoc, List.nil_append, decPs, step_c f _ H.code0 H.code1, Except.ok.injEq, Prod.mk.injEq, and_true]
      exact fr_eq rfl (H.idn (by decide)).symm (H.offn (by decide)).symm rfl rfl (H.rsn (by decide)).symm (H.datan (by decide)).symm
  rw [key]
  simp only
  rw [if_pos h]
/-- cut short it is none -/
theorem decF_cut {f : Fr} (h : faultF f = 0) (j : Nat) (hj : j < (frT f).length) : decF ((frT f).take j) = .error 4 := by
  have hx := decF_ext ((frT f).drop j) ((frT f).take j)
  rw [List.take_append_drop] at hx
  have hb := decF_back h []
  rw [List.append_nil] at hb
  cases hd : decF ((frT f).take j) with
  | ok p =>
    obtain ⟨g, t⟩ := p
    have := hx.1 g t hd
    rw [hb] at this
    simp only [Except.ok.injEq, Prod.mk.injEq] at this
    have hl := congrArg List.length this.2
    rw [List.length_append, List.length_drop, List.length_nil] at hl
    omega
  | error e =>
    by_cases he : e = 4
    · rw [he]
    · have := hx.2 e hd he
      rw [hb] at this
      cases this
/-- no frame's bytes begin with another one's -/
theorem decF_apart {f g : Fr} (hf : faultF f = 0) (hg : faultF g = 0) {x y : List Int} (h : frT f ++ x = frT g ++ y) : f = g := by
  have h1 := decF_back hf x
  rw [h, decF_back hg y] at h1
  simp only [Except.ok.injEq, Prod.mk.injEq] at h1
  exact h1.1.symm
theorem frT_pos (f : Fr) (h : faultF f = 0) : 0 < (frT f).length := by
  unfold frT
  rw [mark_enc, List.length_append]
  have := enc_len (mkF f)
  have := sz_bd (mkF f)
  omega
end Go.Proofs.Ytgfbonfoimiknaa.P
