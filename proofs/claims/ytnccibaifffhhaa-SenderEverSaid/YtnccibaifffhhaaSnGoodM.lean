/- SenderGood: what a sender keeps, whatever is done; plain mathematics. Nothing of the program's. -/
import Derived.Test.YtnccibaifffhhaaGrpSb
namespace Go.Proofs.Ytnccibaifffhhaa.P
set_option linter.unusedVariables false

/-- what is true of a piece that was sent: from off, n bytes, perhaps with the end -/
def SentOk (s : Sn) (off n : Int) (fin : Bool) : Prop := 0 ≤ off ∧ 0 ≤ n ∧ off + n ≤ s.next ∧ (fin = true → s.fin = true ∧ s.next = s.data.length ∧ off + n = s.next)
/-- a sender that went on -/
def Grew (s s' : Sn) : Prop := s.next ≤ s'.next ∧ (s.fin = true → s.next = s.data.length → s'.fin = true ∧ s'.data.length = s.data.length ∧ s'.next = s.next)
theorem Grew.refl (s : Sn) : Grew s s := ⟨Int.le_refl _, fun h _ => ⟨h, rfl, rfl⟩⟩
theorem SentOk.grew {s s' : Sn} {off n : Int} {fin : Bool} (h : SentOk s off n fin) (g : Grew s s') : SentOk s' off n fin := by
  obtain ⟨h1, h2, h3, h4⟩ := h
  refine ⟨h1, h2, by have := g.1; omega, fun hf => ?_⟩
  obtain ⟨a, b, c⟩ := h4 hf
  obtain ⟨x, y, z⟩ := g.2 a b
  exact ⟨x, by rw [y, z]; exact b, by rw [z]; exact c⟩
theorem SentOk.part {s : Sn} (ok : okSn s) {off n : Int} {fin : Bool} (h : SentOk s off n fin) : partF s off n fin = 0 := by
  obtain ⟨h1, h2, h3, h4⟩ := h
  unfold partF
  rw [if_neg (fun q => q ((fault_iff s).2 ok)), if_neg]
  rintro (q | ⟨q, r⟩)
  · apply q; omega
  · obtain ⟨a, b, c⟩ := h4 q
    rcases r with r | r | r
    · rw [a] at r; cases r
    · exact r b
    · exact r c
/-- ranges below a number are few -/
theorem okFrom_few : ∀ (l : List (Int × Int)) (a n : Int), okFrom a l → belowS l n → -2 ≤ a → a + 1 ≤ n → (l.length : Int) ≤ n - a
  | [], a, n, _, _, _, h => by simp only [List.length_nil]; omega
  | x :: l, a, n, h, hb, h0, hn => by
    have h1 := h.1
    have hx := hb x (List.mem_cons_self ..)
    have := okFrom_few l x.2 n h.2.2 (fun y hy => hb y (List.mem_cons_of_mem _ hy)) (by have := h1.1; have := h1.2.1; omega) (by omega)
    have := h1.2.1
    have := h.2.1
    simp only [List.length_cons]
    omega
theorem sn_few {s : Sn} (ok : okSn s) : s.lost.length ≤ 602 ∧ s.acked.length ≤ 602 := by
  obtain ⟨k1, k2, k3, k4, k5, k6, k7, k8, k9, k10⟩ := ok
  have a := okFrom_few s.lost (-2) s.next k4 k8 (by omega) (by omega)
  have b := okFrom_few s.acked (-2) s.next k5 k9 (by omega) (by omega)
  omega
/-- WRITE -/
theorem good_wr {s : Sn} (ok : okSn s) (b : List Int) (fin : Bool) : ((wrS s b fin).2 = 17 ∨ (wrS s b fin).2 = 8) ∨ (wrS s b fin).2 = 0 ∧ okSn (wrS s b fin).1 ∧ Grew s (wrS s b fin).1 ∧ (wrS s b fin).1.mx = s.mx := by
  by_cases h : (wrS s b fin).2 = 0
  · refine .inr ⟨h, wrS_ok h, ?_⟩
    unfold wrS at h ⊢
    rw [if_neg (fun q => q ((fault_iff s).2 ok))] at h ⊢
    by_cases c : s.fin = true
    · rw [if_pos c] at h; cases h
    · rw [if_neg c] at h ⊢
      by_cases d : 600 < s.data.length + b.length
      · rw [if_pos d] at h; cases h
      · rw [if_neg d]
        exact ⟨⟨Int.le_refl _, fun q => absurd q c⟩, rfl⟩
  · refine .inl ?_
    unfold wrS at h ⊢
    rw [if_neg (fun q => q ((fault_iff s).2 ok))] at h ⊢
    by_cases c : s.fin = true
    · rw [if_pos c]; exact .inl rfl
    · rw [if_neg c] at h ⊢
      by_cases d : 600 < s.data.length + b.length
      · rw [if_pos d]; exact .inr rfl
      · rw [if_neg d] at h; exact absurd rfl h
/-- GRANT -/
theorem good_gr {s : Sn} (ok : okSn s) {m : Int} (h0 : 0 ≤ m) (h1 : m < 200) : (grS s m).2 = 0 ∧ okSn (grS s m).1 ∧ Grew s (grS s m).1 ∧ (grS s m).1.mx ≤ max s.mx 200 := by
  have h : (grS s m).2 = 0 := by
    unfold grS
    rw [if_neg (fun q => q ((fault_iff s).2 ok)), if_neg (by omega)]
  refine ⟨h, grS_ok h, ?_⟩
  unfold grS
  rw [if_neg (fun q => q ((fault_iff s).2 ok)), if_neg (by omega)]
  exact ⟨⟨Int.le_refl _, fun q r => ⟨q, rfl, rfl⟩⟩, by dsimp only; omega⟩
/-- PIECE -/
theorem good_pc {s : Sn} (ok : okSn s) {room credit : Int} (hr : 0 ≤ room ∧ room ≤ 120 ∧ 0 ≤ credit) : (pieceS s room credit).2.2.2 = 0 ∧ okSn (pieceS s room credit).1 ∧ Grew s (pieceS s room credit).1 ∧ (pieceS s room credit).1.mx = s.mx ∧
    ((pieceS s room credit).2.2.1 = true → SentOk (pieceS s room credit).1 (pieceS s room credit).2.1.off ((pieceS s room credit).2.1.data.length : Int) (pieceS s room credit).2.1.fin) ∧ (pieceS s room credit).2.1.data.length ≤ 120 ∧ (pieceS s room credit).2.1.rs = [] := by
  have h : (pieceS s room credit).2.2.2 = 0 := by
    unfold pieceS
    rw [if_neg (fun q => q ((fault_iff s).2 ok)), if_neg (fun q => q hr)]
    split <;> rfl
  refine ⟨h, pieceS_ok h, ?_⟩
  have hp := piece_is ok hr
  obtain ⟨k1, k2, k3, k4, k5, k6, k7, k8, k9, k10⟩ := ok
  unfold pieceS
  rw [if_neg (fun q => q ((fault_iff s).2 ⟨k1, k2, k3, k4, k5, k6, k7, k8, k9, k10⟩)), if_neg (fun q => q hr)]
  by_cases c : pcN s room credit = 0 ∧ pcFin s room credit = false
  · rw [if_pos c]
    exact ⟨Grew.refl s, rfl, fun q => by simp at q, by simp [fr00], rfl⟩
  · rw [if_neg c]
    dsimp only
    obtain ⟨lo, hlo⟩ : ∃ x, pcLo s room = x := ⟨_, rfl⟩
    obtain ⟨n, hn⟩ : ∃ x, pcN s room credit = x := ⟨_, rfl⟩
    have hfin : pcFin s room credit = true → s.fin = true ∧ lo + n = s.data.length := by
      rw [← hlo, ← hn]
      unfold pcFin
      simp only [Bool.and_eq_true, Bool.not_eq_true', decide_eq_true_iff]
      rintro ⟨⟨⟨a, b⟩, c⟩, d⟩
      exact ⟨a, d⟩
    rw [hlo, hn] at hp ⊢
    have hlen : (((s.data.drop lo.toNat).take n.toNat).length : Int) = n := by
      rw [List.length_take, List.length_drop]
      omega
    refine ⟨⟨by dsimp only; omega, fun q r => ⟨q, rfl, by dsimp only; omega⟩⟩, rfl, fun _ => ?_, by omega, rfl⟩
    rw [hlen]
    exact ⟨hp.2.2.1, hp.1, by dsimp only; omega, fun q => by have := hfin q; exact ⟨this.1, by dsimp only; omega, by dsimp only; omega⟩⟩
/-- LOSE and HEARD -/
theorem good_ls {s : Sn} (ok : okSn s) {off n : Int} {fin : Bool} (hs : SentOk s off n fin) : (loseS s off n fin).2 = 0 ∧ okSn (loseS s off n fin).1 ∧ Grew s (loseS s off n fin).1 ∧ (loseS s off n fin).1.mx = s.mx := by
  have hp := hs.part ok
  have h := loseS_ok hp
  unfold loseS at h ⊢
  rw [if_neg (fun q => q hp)] at h ⊢
  exact ⟨rfl, h, ⟨Int.le_refl _, fun q r => ⟨q, rfl, rfl⟩⟩, rfl⟩
theorem good_hd {s : Sn} (ok : okSn s) {off n : Int} {fin : Bool} (hs : SentOk s off n fin) : (heardS s off n fin).2 = 0 ∧ okSn (heardS s off n fin).1 ∧ Grew s (heardS s off n fin).1 ∧ (heardS s off n fin).1.mx = s.mx := by
  have hp := hs.part ok
  have h := heardS_ok hp
  unfold heardS at h ⊢
  rw [if_neg (fun q => q hp)] at h ⊢
  exact ⟨rfl, h, ⟨Int.le_refl _, fun q r => ⟨q, rfl, rfl⟩⟩, rfl⟩
/-- one byte more than was sent -/
theorem good_end {s : Sn} (ok : okSn s) : heardS s s.next 1 false = (sn0, 13) := by
  have hp : partF s s.next 1 false = 13 := by
    unfold partF
    rw [if_neg (fun q => q ((fault_iff s).2 ok)), if_pos (.inl (by omega))]
  unfold heardS
  rw [hp]
  rfl
end Go.Proofs.Ytnccibaifffhhaa.P
