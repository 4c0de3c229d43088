/- Several texts in one. -/
import Derived.Test.YtnccibaifffhhaaGrpSa
/- IndexFunc and ContainsFunc of package space's closures, over what is asked of the closure. -/
namespace Go.Proofs.Ytnccibaifffhhaa
set_option linter.unusedVariables false
open Go.RowKit P

/-- the place of the first one of which it holds, or -1 -/
def idxF {α : Type} (p : α → Bool) : Nat → List α → Int
  | _, [] => -1
  | k, a :: l => if p a = true then (k : Int) else idxF p (k + 1) l
theorem idxF_any {α : Type} (p : α → Bool) : ∀ (k : Nat) (l : List α), decide (0 ≤ idxF p k l) = l.any p
  | _, [] => rfl
  | k, a :: l => by
    unfold idxF
    by_cases h : p a = true
    · rw [if_pos h]; simp [h]
    · rw [if_neg h, idxF_any p (k + 1) l]; simp [h]
set_option maxHeartbeats 2000000 in
theorem ix_send (A : Option Addr) (n c : Nat) (css : List (Cells 4)) (l : List Pcl) (p : Pcl → Bool) (w : World) (h : RowE pc4 w w.heap.size A css) (h2 : All2 (PcC w w.heap.size) css l) (hn : l.length = n) (hm : n ≤ 17592186044416)
    (HF : ∀ (i : Nat) (hi : i < l.length) (w' : World), Below w.heap.size w w' → ∀ Af nf cf, Calls Try.prog 63 #[.agg #[.int .i64 (l[i]).num, .int .i64 (l[i]).time, .int .i64 (l[i]).size, .slice Af nf cf]] w' fun e w'' => e = .returned (.bool (p l[i])) ∧ Below w'.heap.size w' w'') :
    Calls Try.prog 75 #[.slice A n c, .func (.func 63) #[] #[]] w fun e w' => e = .returned (.int .i64 (idxF p 0 l)) ∧ Below w.heap.size w w' := by
  have HR := Lib.hid h
  have HN := Lib.hid hn
  have HFF := Lib.hid HF
  have HA := Lib.hid h2
  obtain ⟨rz, hrz⟩ : ∃ rz, idxF p 0 l = rz := ⟨_, rfl⟩
  have HZ := Lib.hid hrz
  rw [hrz]
  clear h hn hrz HF h2
  go_enter Try.func75, Try.ntmps75
  go_wp2_with fail
  go_loopg [8] n (fun gq iv wr => ∃ i : Nat, iv = .int .i64 i ∧ i + gq = n ∧ Hid (idxF p i (l.drop i) = rz) ∧ Hid (Below w.heap.size w wr))
  case atStart => exact ⟨0, rfl, by omega, Lib.hid (by rw [List.drop_zero]; exact HZ.out), Lib.hid (Below.refl _ _)⟩
  case round =>
    obtain ⟨i, rfl, hig, HP, BK⟩ := hrel
    by_cases hlt : i < n
    · have hil : i < l.length := by rw [HN.out]; exact hlt
      have HIF0 := Lib.hid (fun w' hb => HFF.out i hil w' hb)
      obtain ⟨b, off, v, hA, hbl, hF, c0, c1, c2, c3⟩ := pc_cells HR.out HA.out i hil
      subst hA
      obtain ⟨Af, cf, cf2, hvf, hf1, hf2, hf3, hf4⟩ := hF.ex
      obtain ⟨nf, hnf⟩ : ∃ n, (l[i]).frs.length = n := ⟨_, rfl⟩
      rw [hnf] at hvf
      subst hvf
      clear hnf hF hf1 hf2 hf3 hf4 cf2
      have y0 := (BK.out.cell (p := ⟨b, off + i * 4, none⟩) hbl).trans c0
      have y1 := (BK.out.cell (p := ⟨b, off + i * 4 + 1, none⟩) hbl).trans c1
      have y2 := (BK.out.cell (p := ⟨b, off + i * 4 + 2, none⟩) hbl).trans c2
      have y3 := (BK.out.cell (p := ⟨b, off + i * 4 + 3, none⟩) hbl).trans c3
      have HIF := Lib.hid (fun w' hb => HIF0.out w' hb Af nf cf)
      clear c0 c1 c2 c3 HIF0
      have hp := HP.out
      rw [List.drop_eq_getElem_cons hil] at hp
      unfold idxF at hp
      have HQ := Lib.hid hp
      obtain ⟨x, hx⟩ : ∃ x, l[i] = x := ⟨_, rfl⟩
      rw [hx] at y0 y1 y2 HIF HQ
      have hnk : (i : Int) < (n : Int) := by omega
      clear hp hx hil HP
      by_cases ok : p x = true
      · rw [ok] at HIF
        have HE := Lib.hid (show (i : Int) = rz by have := HQ.out; rw [if_pos ok] at this; exact this)
        clear ok HQ
        go_wp2_with fail
        refine (HIF.out _ BK.out).mono ?_
        rintro e w4 ⟨rfl, b4⟩
        have B4 := Lib.hid (BK.out.trans (b4.mono BK.out.size))
        clear b4 y0 y1 y2
        go_wp2_with fail
        go_ret
        exact ⟨by rw [← HE.out]; rfl, B4.out⟩
      · have ok' : p x = false := by simpa using ok
        rw [ok'] at HIF
        have HE := Lib.hid (show idxF p (i + 1) (l.drop (i + 1)) = rz by have := HQ.out; rw [if_neg ok] at this; exact this)
        clear ok ok' HQ
        go_wp2_with fail
        refine (HIF.out _ BK.out).mono ?_
        rintro e w4 ⟨rfl, b4⟩
        have B4 := Lib.hid (BK.out.trans (b4.mono BK.out.size))
        clear b4 y0 y1 y2
        go_wp2_with fail
        go_roundg (gk - 1)
        case measure => omega
        case rel => exact ⟨i + 1, by first | rfl | go_num, by omega, HE, B4⟩
    · obtain rfl : i = n := by omega
      have HE := Lib.hid (show (-1 : Int) = rz by have := HP.out; rw [List.drop_eq_nil_of_le (by rw [HN.out]; exact Nat.le_refl _)] at this; exact this)
      go_wp2_with fail
      go_ret
      exact ⟨by rw [← HE.out]; rfl, BK.out⟩
theorem has_send (A : Option Addr) (n c : Nat) (css : List (Cells 4)) (l : List Pcl) (p : Pcl → Bool) (w : World) (h : RowE pc4 w w.heap.size A css) (h2 : All2 (PcC w w.heap.size) css l) (hn : l.length = n) (hm : n ≤ 17592186044416)
    (HF : ∀ (i : Nat) (hi : i < l.length) (w' : World), Below w.heap.size w w' → ∀ Af nf cf, Calls Try.prog 63 #[.agg #[.int .i64 (l[i]).num, .int .i64 (l[i]).time, .int .i64 (l[i]).size, .slice Af nf cf]] w' fun e w'' => e = .returned (.bool (p l[i])) ∧ Below w'.heap.size w' w'') :
    Calls Try.prog 62 #[.slice A n c, .func (.func 63) #[] #[]] w fun e w' => e = .returned (.bool (l.any p)) ∧ Below w.heap.size w w' := by
  have H := Lib.hid (ix_send A n c css l  p w h h2 hn hm HF)
  rw [← idxF_any p 0 l]
  obtain ⟨rz, hrz⟩ : ∃ rz, idxF p 0 l = rz := ⟨_, rfl⟩
  rw [hrz] at H ⊢
  clear h hn hrz HF h2
  go_enter Try.func62, Try.ntmps62
  go_wp2_with fail
  refine (H.out).mono ?_
  rintro e w4 ⟨rfl, b4⟩
  have B4 := Lib.hid b4
  clear b4
  go_wp2_with fail
  go_ret
  exact ⟨by rfl, B4.out⟩
set_option maxHeartbeats 2000000 in
theorem ix_skip (A : Option Addr) (n c : Nat) (l : List Int) (kb : Nat) (p : Int → Bool) (w : World) (h : RowE intE w w.heap.size A l) (hn : l.length = n) (hm : n ≤ 17592186044416)
    (HF : ∀ (i : Nat) (hi : i < l.length) (w' : World), Below w.heap.size w w' → Calls Try.prog 66 #[.int .i64 (l[i]), .pointer (some ⟨kb, 0, none⟩)] w' fun e w'' => e = .returned (.bool (p l[i])) ∧ Below w'.heap.size w' w'') :
    Calls Try.prog 76 #[.slice A n c, .func (.func 66) #[] #[.pointer (some ⟨kb, 0, none⟩)]] w fun e w' => e = .returned (.int .i64 (idxF p 0 l)) ∧ Below w.heap.size w w' := by
  have HR := Lib.hid h
  have HN := Lib.hid hn
  have HFF := Lib.hid HF
  obtain ⟨rz, hrz⟩ : ∃ rz, idxF p 0 l = rz := ⟨_, rfl⟩
  have HZ := Lib.hid hrz
  rw [hrz]
  clear h hn hrz HF 
  go_enter Try.func76, Try.ntmps76
  go_wp2_with fail
  go_loopg [8] n (fun gq iv wr => ∃ i : Nat, iv = .int .i64 i ∧ i + gq = n ∧ Hid (idxF p i (l.drop i) = rz) ∧ Hid (Below w.heap.size w wr))
  case atStart => exact ⟨0, rfl, by omega, Lib.hid (by rw [List.drop_zero]; exact HZ.out), Lib.hid (Below.refl _ _)⟩
  case round =>
    obtain ⟨i, rfl, hig, HP, BK⟩ := hrel
    by_cases hlt : i < n
    · have hil : i < l.length := by rw [HN.out]; exact hlt
      have HIF0 := Lib.hid (fun w' hb => HFF.out i hil w' hb)
      obtain ⟨b, off, hA, hbl, hc⟩ := HR.out (by rw [HN.out]; omega)
      subst hA
      have c0 := int_at hc i hil
      have y0 := (BK.out.cell (p := ⟨b, off + i, none⟩) hbl).trans c0
      clear hc c0
      have HIF := HIF0
      clear HIF0
      have hp := HP.out
      rw [List.drop_eq_getElem_cons hil] at hp
      unfold idxF at hp
      have HQ := Lib.hid hp
      obtain ⟨x, hx⟩ : ∃ x, l[i] = x := ⟨_, rfl⟩
      rw [hx] at y0 HIF HQ
      have hnk : (i : Int) < (n : Int) := by omega
      clear hp hx hil HP
      by_cases ok : p x = true
      · rw [ok] at HIF
        have HE := Lib.hid (show (i : Int) = rz by have := HQ.out; rw [if_pos ok] at this; exact this)
        clear ok HQ
        go_wp2_with fail
        refine (HIF.out _ BK.out).mono ?_
        rintro e w4 ⟨rfl, b4⟩
        have B4 := Lib.hid (BK.out.trans (b4.mono BK.out.size))
        clear b4 y0
        go_wp2_with fail
        go_ret
        exact ⟨by rw [← HE.out]; rfl, B4.out⟩
      · have ok' : p x = false := by simpa using ok
        rw [ok'] at HIF
        have HE := Lib.hid (show idxF p (i + 1) (l.drop (i + 1)) = rz by have := HQ.out; rw [if_neg ok] at this; exact this)
        clear ok ok' HQ
        go_wp2_with fail
        refine (HIF.out _ BK.out).mono ?_
        rintro e w4 ⟨rfl, b4⟩
        have B4 := Lib.hid (BK.out.trans (b4.mono BK.out.size))
        clear b4 y0
        go_wp2_with fail
        go_roundg (gk - 1)
        case measure => omega
        case rel => exact ⟨i + 1, by first | rfl | go_num, by omega, HE, B4⟩
    · obtain rfl : i = n := by omega
      have HE := Lib.hid (show (-1 : Int) = rz by have := HP.out; rw [List.drop_eq_nil_of_le (by rw [HN.out]; exact Nat.le_refl _)] at this; exact this)
      go_wp2_with fail
      go_ret
      exact ⟨by rw [← HE.out]; rfl, BK.out⟩
theorem has_skip (A : Option Addr) (n c : Nat) (l : List Int) (kb : Nat) (p : Int → Bool) (w : World) (h : RowE intE w w.heap.size A l) (hn : l.length = n) (hm : n ≤ 17592186044416)
    (HF : ∀ (i : Nat) (hi : i < l.length) (w' : World), Below w.heap.size w w' → Calls Try.prog 66 #[.int .i64 (l[i]), .pointer (some ⟨kb, 0, none⟩)] w' fun e w'' => e = .returned (.bool (p l[i])) ∧ Below w'.heap.size w' w'') :
    Calls Try.prog 65 #[.slice A n c, .func (.func 66) #[] #[.pointer (some ⟨kb, 0, none⟩)]] w fun e w' => e = .returned (.bool (l.any p)) ∧ Below w.heap.size w w' := by
  have H := Lib.hid (ix_skip A n c l kb p w h hn hm HF)
  rw [← idxF_any p 0 l]
  obtain ⟨rz, hrz⟩ : ∃ rz, idxF p 0 l = rz := ⟨_, rfl⟩
  rw [hrz] at H ⊢
  clear h hn hrz HF 
  go_enter Try.func65, Try.ntmps65
  go_wp2_with fail
  refine (H.out).mono ?_
  rintro e w4 ⟨rfl, b4⟩
  have B4 := Lib.hid b4
  clear b4
  go_wp2_with fail
  go_ret
  exact ⟨by rfl, B4.out⟩
set_option maxHeartbeats 2000000 in
theorem ix_refu (A : Option Addr) (n c : Nat) (l : List Int) (kb : Nat) (p : Int → Bool) (w : World) (h : RowE intE w w.heap.size A l) (hn : l.length = n) (hm : n ≤ 17592186044416)
    (HF : ∀ (i : Nat) (hi : i < l.length) (w' : World), Below w.heap.size w w' → Calls Try.prog 71 #[.int .i64 (l[i]), .pointer (some ⟨kb, 0, none⟩)] w' fun e w'' => e = .returned (.bool (p l[i])) ∧ Below w'.heap.size w' w'') :
    Calls Try.prog 76 #[.slice A n c, .func (.func 71) #[] #[.pointer (some ⟨kb, 0, none⟩)]] w fun e w' => e = .returned (.int .i64 (idxF p 0 l)) ∧ Below w.heap.size w w' := by
  have HR := Lib.hid h
  have HN := Lib.hid hn
  have HFF := Lib.hid HF
  obtain ⟨rz, hrz⟩ : ∃ rz, idxF p 0 l = rz := ⟨_, rfl⟩
  have HZ := Lib.hid hrz
  rw [hrz]
  clear h hn hrz HF 
  go_enter Try.func76, Try.ntmps76
  go_wp2_with fail
  go_loopg [8] n (fun gq iv wr => ∃ i : Nat, iv = .int .i64 i ∧ i + gq = n ∧ Hid (idxF p i (l.drop i) = rz) ∧ Hid (Below w.heap.size w wr))
  case atStart => exact ⟨0, rfl, by omega, Lib.hid (by rw [List.drop_zero]; exact HZ.out), Lib.hid (Below.refl _ _)⟩
  case round =>
    obtain ⟨i, rfl, hig, HP, BK⟩ := hrel
    by_cases hlt : i < n
    · have hil : i < l.length := by rw [HN.out]; exact hlt
      have HIF0 := Lib.hid (fun w' hb => HFF.out i hil w' hb)
      obtain ⟨b, off, hA, hbl, hc⟩ := HR.out (by rw [HN.out]; omega)
      subst hA
      have c0 := int_at hc i hil
      have y0 := (BK.out.cell (p := ⟨b, off + i, none⟩) hbl).trans c0
      clear hc c0
      have HIF := HIF0
      clear HIF0
      have hp := HP.out
      rw [List.drop_eq_getElem_cons hil] at hp
      unfold idxF at hp
      have HQ := Lib.hid hp
      obtain ⟨x, hx⟩ : ∃ x, l[i] = x := ⟨_, rfl⟩
      rw [hx] at y0 HIF HQ
      have hnk : (i : Int) < (n : Int) := by omega
      clear hp hx hil HP
      by_cases ok : p x = true
      · rw [ok] at HIF
        have HE := Lib.hid (show (i : Int) = rz by have := HQ.out; rw [if_pos ok] at this; exact this)
        clear ok HQ
        go_wp2_with fail
        refine (HIF.out _ BK.out).mono ?_
        rintro e w4 ⟨rfl, b4⟩
        have B4 := Lib.hid (BK.out.trans (b4.mono BK.out.size))
        clear b4 y0
        go_wp2_with fail
        go_ret
        exact ⟨by rw [← HE.out]; rfl, B4.out⟩
      · have ok' : p x = false := by simpa using ok
        rw [ok'] at HIF
        have HE := Lib.hid (show idxF p (i + 1) (l.drop (i + 1)) = rz by have := HQ.out; rw [if_neg ok] at this; exact this)
        clear ok ok' HQ
        go_wp2_with fail
        refine (HIF.out _ BK.out).mono ?_
        rintro e w4 ⟨rfl, b4⟩
        have B4 := Lib.hid (BK.out.trans (b4.mono BK.out.size))
        clear b4 y0
        go_wp2_with fail
        go_roundg (gk - 1)
        case measure => omega
        case rel => exact ⟨i + 1, by first | rfl | go_num, by omega, HE, B4⟩
    · obtain rfl : i = n := by omega
      have HE := Lib.hid (show (-1 : Int) = rz by have := HP.out; rw [List.drop_eq_nil_of_le (by rw [HN.out]; exact Nat.le_refl _)] at this; exact this)
      go_wp2_with fail
      go_ret
      exact ⟨by rw [← HE.out]; rfl, BK.out⟩
theorem has_refu (A : Option Addr) (n c : Nat) (l : List Int) (kb : Nat) (p : Int → Bool) (w : World) (h : RowE intE w w.heap.size A l) (hn : l.length = n) (hm : n ≤ 17592186044416)
    (HF : ∀ (i : Nat) (hi : i < l.length) (w' : World), Below w.heap.size w w' → Calls Try.prog 71 #[.int .i64 (l[i]), .pointer (some ⟨kb, 0, none⟩)] w' fun e w'' => e = .returned (.bool (p l[i])) ∧ Below w'.heap.size w' w'') :
    Calls Try.prog 65 #[.slice A n c, .func (.func 71) #[] #[.pointer (some ⟨kb, 0, none⟩)]] w fun e w' => e = .returned (.bool (l.any p)) ∧ Below w.heap.size w w' := by
  have H := Lib.hid (ix_refu A n c l kb p w h hn hm HF)
  rw [← idxF_any p 0 l]
  obtain ⟨rz, hrz⟩ : ∃ rz, idxF p 0 l = rz := ⟨_, rfl⟩
  rw [hrz] at H ⊢
  clear h hn hrz HF 
  go_enter Try.func65, Try.ntmps65
  go_wp2_with fail
  refine (H.out).mono ?_
  rintro e w4 ⟨rfl, b4⟩
  have B4 := Lib.hid b4
  clear b4
  go_wp2_with fail
  go_ret
  exact ⟨by rfl, B4.out⟩
set_option maxHeartbeats 2000000 in
theorem ix_tell (A : Option Addr) (n c : Nat) (l : List (Int × Int)) (kb : Nat) (p : (Int × Int) → Bool) (w : World) (h : RRow w w.heap.size A l) (hn : l.length = n) (hm : n ≤ 17592186044416)
    (HF : ∀ (i : Nat) (hi : i < l.length) (w' : World), Below w.heap.size w w' → Calls Try.prog 73 #[.agg #[.int .i64 (l[i]).1, .int .i64 (l[i]).2], .pointer (some ⟨kb, 0, none⟩)] w' fun e w'' => e = .returned (.bool (p l[i])) ∧ Below w'.heap.size w' w'') :
    Calls Try.prog 78 #[.slice A n c, .func (.func 73) #[] #[.pointer (some ⟨kb, 0, none⟩)]] w fun e w' => e = .returned (.int .i64 (idxF p 0 l)) ∧ Below w.heap.size w w' := by
  have HR := Lib.hid h
  have HN := Lib.hid hn
  have HFF := Lib.hid HF
  obtain ⟨rz, hrz⟩ : ∃ rz, idxF p 0 l = rz := ⟨_, rfl⟩
  have HZ := Lib.hid hrz
  rw [hrz]
  clear h hn hrz HF 
  go_enter Try.func78, Try.ntmps78
  go_wp2_with fail
  go_loopg [8] n (fun gq iv wr => ∃ i : Nat, iv = .int .i64 i ∧ i + gq = n ∧ Hid (idxF p i (l.drop i) = rz) ∧ Hid (Below w.heap.size w wr))
  case atStart => exact ⟨0, rfl, by omega, Lib.hid (by rw [List.drop_zero]; exact HZ.out), Lib.hid (Below.refl _ _)⟩
  case round =>
    obtain ⟨i, rfl, hig, HP, BK⟩ := hrel
    by_cases hlt : i < n
    · have hil : i < l.length := by rw [HN.out]; exact hlt
      have HIF0 := Lib.hid (fun w' hb => HFF.out i hil w' hb)
      obtain ⟨b, off, hA, hbl, hc⟩ := HR.out (by rw [HN.out]; omega)
      subst hA
      obtain ⟨c0, c1⟩ := hc i hil
      rw [List.getD_eq_getElem?_getD, List.getElem?_eq_getElem hil, Option.getD_some] at c0 c1
      have y0 := (BK.out.cell (p := ⟨b, off + i * 2, none⟩) hbl).trans c0
      have y1 := (BK.out.cell (p := ⟨b, off + i * 2 + 1, none⟩) hbl).trans c1
      clear hc c0 c1
      have HIF := HIF0
      clear HIF0
      have hp := HP.out
      rw [List.drop_eq_getElem_cons hil] at hp
      unfold idxF at hp
      have HQ := Lib.hid hp
      obtain ⟨x, hx⟩ : ∃ x, l[i] = x := ⟨_, rfl⟩
      rw [hx] at y0 y1 HIF HQ
      have hnk : (i : Int) < (n : Int) := by omega
      clear hp hx hil HP
      by_cases ok : p x = true
      · rw [ok] at HIF
        have HE := Lib.hid (show (i : Int) = rz by have := HQ.out; rw [if_pos ok] at this; exact this)
        clear ok HQ
        go_wp2_with fail
        refine (HIF.out _ BK.out).mono ?_
        rintro e w4 ⟨rfl, b4⟩
        have B4 := Lib.hid (BK.out.trans (b4.mono BK.out.size))
        clear b4 y0 y1
        go_wp2_with fail
        go_ret
        exact ⟨by rw [← HE.out]; rfl, B4.out⟩
      · have ok' : p x = false := by simpa using ok
        rw [ok'] at HIF
        have HE := Lib.hid (show idxF p (i + 1) (l.drop (i + 1)) = rz by have := HQ.out; rw [if_neg ok] at this; exact this)
        clear ok ok' HQ
        go_wp2_with fail
        refine (HIF.out _ BK.out).mono ?_
        rintro e w4 ⟨rfl, b4⟩
        have B4 := Lib.hid (BK.out.trans (b4.mono BK.out.size))
        clear b4 y0 y1
        go_wp2_with fail
        go_roundg (gk - 1)
        case measure => omega
        case rel => exact ⟨i + 1, by first | rfl | go_num, by omega, HE, B4⟩
    · obtain rfl : i = n := by omega
      have HE := Lib.hid (show (-1 : Int) = rz by have := HP.out; rw [List.drop_eq_nil_of_le (by rw [HN.out]; exact Nat.le_refl _)] at this; exact this)
      go_wp2_with fail
      go_ret
      exact ⟨by rw [← HE.out]; rfl, BK.out⟩
theorem has_tell (A : Option Addr) (n c : Nat) (l : List (Int × Int)) (kb : Nat) (p : (Int × Int) → Bool) (w : World) (h : RRow w w.heap.size A l) (hn : l.length = n) (hm : n ≤ 17592186044416)
    (HF : ∀ (i : Nat) (hi : i < l.length) (w' : World), Below w.heap.size w w' → Calls Try.prog 73 #[.agg #[.int .i64 (l[i]).1, .int .i64 (l[i]).2], .pointer (some ⟨kb, 0, none⟩)] w' fun e w'' => e = .returned (.bool (p l[i])) ∧ Below w'.heap.size w' w'') :
    Calls Try.prog 72 #[.slice A n c, .func (.func 73) #[] #[.pointer (some ⟨kb, 0, none⟩)]] w fun e w' => e = .returned (.bool (l.any p)) ∧ Below w.heap.size w w' := by
  have H := Lib.hid (ix_tell A n c l kb p w h hn hm HF)
  rw [← idxF_any p 0 l]
  obtain ⟨rz, hrz⟩ : ∃ rz, idxF p 0 l = rz := ⟨_, rfl⟩
  rw [hrz] at H ⊢
  clear h hn hrz HF 
  go_enter Try.func72, Try.ntmps72
  go_wp2_with fail
  refine (H.out).mono ?_
  rintro e w4 ⟨rfl, b4⟩
  have B4 := Lib.hid b4
  clear b4
  go_wp2_with fail
  go_ret
  exact ⟨by rfl, B4.out⟩
end Go.Proofs.Ytnccibaifffhhaa
/- Contracts of package space: within, sendable, skips, tells, what its closures ask. -/
namespace Go.Proofs.Ytnccibaifffhhaa
set_option linter.unusedVariables false
open Go.RowKit P

theorem within_any (n m : Int) (w : World) : Calls Try.prog 47 #[.int .i64 n, .int .i64 m] w fun e w' => e = .returned (.bool (decide (0 ≤ n ∧ n ≤ m))) ∧ w = w' := by
  by_cases h1 : 0 ≤ n
  · have g1 : decide (0 ≤ n) = true := by simp [h1]
    by_cases h2 : n ≤ m
    · have g2 : decide (n ≤ m) = true := by simp [h2]
      rw [decide_eq_true (⟨h1, h2⟩ : 0 ≤ n ∧ n ≤ m)]
      go_enter Try.func47, Try.ntmps47
      go_wp2
      go_ret
      exact ⟨by simp, rfl⟩
    · have g2 : decide (n ≤ m) = false := by simp [h2]
      rw [decide_eq_false (fun q => h2 q.2 : ¬(0 ≤ n ∧ n ≤ m))]
      go_enter Try.func47, Try.ntmps47
      go_wp2
      go_ret
      exact ⟨by simp, rfl⟩
  · have g1 : decide (0 ≤ n) = false := by simp [h1]
    rw [decide_eq_false (fun q => h1 q.1 : ¬(0 ≤ n ∧ n ≤ m))]
    go_enter Try.func47, Try.ntmps47
    go_wp2
    go_ret
    exact ⟨by simp, rfl⟩
-- slices.Index, slices.Contains of numbers
set_option maxHeartbeats 1000000 in
theorem indexI_any (A : Option Addr) (n c : Nat) (l : List Int) (x : Int) (w : World) (h : RowE intE w w.heap.size A l) (hn : l.length = n) (hm : n ≤ 17592186044416) :
    Calls Try.prog 77 #[.slice A n c, .int .i64 x] w fun e w' => e = .returned (.int .i64 (idxF (fun y => decide (x = y)) 0 l)) ∧ w = w' := by
  have HR := Lib.hid h
  have HN := Lib.hid hn
  obtain ⟨rz, hrz⟩ : ∃ rz, idxF (fun y => decide (x = y)) 0 l = rz := ⟨_, rfl⟩
  have HZ := Lib.hid hrz
  rw [hrz]
  clear h hn hrz
  go_enter Try.func77, Try.ntmps77
  go_wp2_with fail
  go_loopg [8] n (fun gq iv wr => ∃ i : Nat, iv = .int .i64 i ∧ i + gq = n ∧ Hid (idxF (fun y => decide (x = y)) i (l.drop i) = rz) ∧ Hid (wr = w))
  case atStart => exact ⟨0, rfl, by omega, Lib.hid (by rw [List.drop_zero]; exact HZ.out), Lib.hid rfl⟩
  case round =>
    obtain ⟨i, rfl, hig, HP, HW⟩ := hrel
    obtain rfl := HW.out
    by_cases hlt : i < n
    · have hil : i < l.length := by rw [HN.out]; exact hlt
      obtain ⟨b, off, hA, hbl, hc⟩ := HR.out (by rw [HN.out]; omega)
      subst hA
      have y0 := int_at hc i hil
      have hp := HP.out
      rw [List.drop_eq_getElem_cons hil] at hp
      unfold idxF at hp
      have HQ := Lib.hid hp
      obtain ⟨y, hy⟩ : ∃ y, l[i] = y := ⟨_, rfl⟩
      rw [hy] at y0 HQ
      have hnk : (i : Int) < (n : Int) := by omega
      clear hp hy hil HP hc
      by_cases ok : x = y
      · have HE := Lib.hid (show (i : Int) = rz by have := HQ.out; rw [if_pos (decide_eq_true ok)] at this; exact this)
        have g1 : (x == y) = true := by simp [ok]
        clear ok HQ
        go_wp2_with fail
        go_ret
        exact ⟨by rw [← HE.out]; rfl, rfl⟩
      · have HE := Lib.hid (show idxF (fun y => decide (x = y)) (i + 1) (l.drop (i + 1)) = rz by have := HQ.out; rw [if_neg (by simp [ok])] at this; exact this)
        have g1 : (x == y) = false := by simp [ok]
        clear ok HQ
        go_wp2_with fail
        go_roundg (gk - 1)
        case measure => omega
        case rel => exact ⟨i + 1, by first | rfl | go_num, by omega, HE, Lib.hid rfl⟩
    · obtain rfl : i = n := by omega
      have HE := Lib.hid (show (-1 : Int) = rz by have := HP.out; rw [List.drop_eq_nil_of_le (by rw [HN.out]; exact Nat.le_refl _)] at this; exact this)
      go_wp2_with fail
      go_ret
      exact ⟨by rw [← HE.out]; rfl, rfl⟩
theorem isinI_any (A : Option Addr) (n c : Nat) (l : List Int) (x : Int) (w : World) (h : RowE intE w w.heap.size A l) (hn : l.length = n) (hm : n ≤ 17592186044416) :
    Calls Try.prog 67 #[.slice A n c, .int .i64 x] w fun e w' => e = .returned (.bool (decide (x ∈ l))) ∧ w = w' := by
  have H := Lib.hid (indexI_any A n c l x w h hn hm)
  have e : decide (x ∈ l) = decide (0 ≤ idxF (fun y => decide (x = y)) 0 l) := by
    rw [idxF_any]
    clear h hn H
    induction l with
    | nil => simp
    | cons a l ih => simp [← ih]
  rw [e]
  obtain ⟨rz, hrz⟩ : ∃ rz, idxF (fun y => decide (x = y)) 0 l = rz := ⟨_, rfl⟩
  rw [hrz] at H ⊢
  clear h hn hrz e
  go_enter Try.func67, Try.ntmps67
  go_wp2_with fail
  refine (H.out).mono ?_
  rintro e w4 ⟨rfl, rfl⟩
  go_wp2_with fail
  go_ret
  exact ⟨by rfl, rfl⟩
/-- sendable -/
theorem sendC_any (num time size : Int) (Af : Option Addr) (nf cf : Nat) (w : World) : Calls Try.prog 63 #[.agg #[.int .i64 num, .int .i64 time, .int .i64 size, .slice Af nf cf]] w fun e w' => e = .returned (.bool (!decide ((0 ≤ time ∧ time ≤ 1099511627776) ∧ 0 ≤ size ∧ size ≤ 400))) ∧ Below w.heap.size w w' := by
  have H1 := Lib.hid (fun w => within_any time 1099511627776 w)
  have H2 := Lib.hid (fun w => within_any size 400 w)
  have B0 := Lib.hid ((Below.refl w.heap.size w).alloc (Nat.le_refl _) (.cells #[.int .i64 num, .int .i64 time, .int .i64 size, .slice Af nf cf] 54))
  by_cases h1 : 0 ≤ time ∧ time ≤ 1099511627776
  · rw [decide_eq_true h1] at H1
    by_cases h2 : 0 ≤ size ∧ size ≤ 400
    · rw [decide_eq_true h2] at H2
      rw [decide_eq_true (⟨h1, h2⟩ : (0 ≤ time ∧ time ≤ 1099511627776) ∧ 0 ≤ size ∧ size ≤ 400)]
      clear h1 h2
      go_enter Try.func63, Try.ntmps63
      go_wp2_with fail
      refine (H1.out _).mono ?_
      rintro e w4 ⟨rfl, rfl⟩
      go_wp2_with fail
      refine (H2.out _).mono ?_
      rintro e w4 ⟨rfl, rfl⟩
      go_wp2_with fail
      go_ret
      exact ⟨by rfl, B0.out⟩
    · rw [decide_eq_false h2] at H2
      rw [decide_eq_false (fun q => h2 q.2 : ¬((0 ≤ time ∧ time ≤ 1099511627776) ∧ 0 ≤ size ∧ size ≤ 400))]
      clear h1 h2
      go_enter Try.func63, Try.ntmps63
      go_wp2_with fail
      refine (H1.out _).mono ?_
      rintro e w4 ⟨rfl, rfl⟩
      go_wp2_with fail
      refine (H2.out _).mono ?_
      rintro e w4 ⟨rfl, rfl⟩
      go_wp2_with fail
      go_ret
      exact ⟨by rfl, B0.out⟩
  · rw [decide_eq_false h1] at H1
    rw [decide_eq_false (fun q => h1 q.1 : ¬((0 ≤ time ∧ time ≤ 1099511627776) ∧ 0 ≤ size ∧ size ≤ 400))]
    clear h1
    go_enter Try.func63, Try.ntmps63
    go_wp2_with fail
    refine (H1.out _).mono ?_
    rintro e w4 ⟨rfl, rfl⟩
    go_wp2_with fail
    go_ret
    exact ⟨by rfl, B0.out⟩
theorem sendable_any (A : Option Addr) (n c : Nat) (css : List (Cells 4)) (l : List Pcl) (w : World) (h : RowE pc4 w w.heap.size A css) (h2 : All2 (PcC w w.heap.size) css l) (hn : l.length = n) (hm : n ≤ 17592186044416) :
    Calls Try.prog 42 #[.slice A n c] w fun e w' => e = .returned (.bool (decide (∀ p ∈ l, sentOk p))) ∧ Below w.heap.size w w' := by
  have H := Lib.hid (has_send A n c css l (fun p => !decide (sentOk p)) w h h2 hn hm (fun i hi w' hb Af nf cf => sendC_any _ _ _ Af nf cf w'))
  have e : decide (∀ p ∈ l, sentOk p) = !(l.any (fun p => !decide (sentOk p))) := by
    rw [Bool.eq_iff_iff]
    simp
  rw [e]
  obtain ⟨rz, hrz⟩ : ∃ rz, l.any (fun p => !decide (sentOk p)) = rz := ⟨_, rfl⟩
  rw [hrz] at H ⊢
  clear h h2 hn hrz e
  go_enter Try.func42, Try.ntmps42
  go_wp2_with fail
  refine (H.out).mono ?_
  rintro e w4 ⟨rfl, b4⟩
  have B4 := Lib.hid b4
  clear b4
  go_wp2_with fail
  go_ret
  exact ⟨by rfl, B4.out⟩
/-- tells -/
theorem tellC_any (a b x : Int) (kb : Nat) (w : World) (hk : w.heap[kb]? = some (.cells #[.int .i64 x] 3 (0, 0))) : Calls Try.prog 73 #[.agg #[.int .i64 a, .int .i64 b], .pointer (some ⟨kb, 0, none⟩)] w fun e w' => e = .returned (.bool (decide (a ≤ x) && decide (x ≤ b))) ∧ Below w.heap.size w w' := by
  have B0 := Lib.hid ((Below.refl w.heap.size w).alloc (Nat.le_refl _) (.cells #[.int .i64 a, .int .i64 b] 63))
  have hk' := (Below.heap_alloc w (.cells #[.int .i64 a, .int .i64 b] 63) kb (lt_of_block hk)).trans hk
  have c0 : (w.alloc (.cells #[.int .i64 a, .int .i64 b] 63)).cell? ⟨kb, 0, none⟩ = some (.int .i64 x) := bk_cell hk' 0
  clear hk hk'
  cases h1 : decide (a ≤ x)
  · go_enter Try.func73, Try.ntmps73
    go_wp2_with fail
    go_ret
    exact ⟨by simp, B0.out⟩
  · go_enter Try.func73, Try.ntmps73
    go_wp2_with fail
    go_ret
    exact ⟨by simp, B0.out⟩
theorem tells_any (A : Option Addr) (n c : Nat) (l : List (Int × Int)) (x : Int) (w : World) (h : RRow w w.heap.size A l) (hn : l.length = n) (hm : n ≤ 17592186044416) :
    Calls Try.prog 53 #[.slice A n c, .int .i64 x] w fun e w' => e = .returned (.bool (memB l x)) ∧ Below w.heap.size w w' := by
  have B0 := Lib.hid ((Below.refl w.heap.size w).alloc (Nat.le_refl _) (.cells #[.int .i64 x] 3))
  have K0 := Lib.hid (heap_alloc_new w (.cells #[.int .i64 x] 3))
  have H := Lib.hid (has_tell A n c l w.heap.size (fun r => decide (r.1 ≤ x) && decide (x ≤ r.2)) _ (h.on B0.out) hn hm (fun i hi w' hb => tellC_any _ _ x w.heap.size w' ((hb.block _ (lt_of_block K0.out)).trans K0.out)))
  obtain ⟨rz, hrz⟩ : ∃ rz, memB l x = rz := ⟨_, rfl⟩
  rw [show l.any (fun r => decide (r.1 ≤ x) && decide (x ≤ r.2)) = memB l x from rfl, hrz] at H
  rw [hrz]
  clear h hn hrz K0
  go_enter Try.func53, Try.ntmps53
  go_wp2_with fail
  refine (H.out).mono ?_
  rintro e w4 ⟨rfl, b4⟩
  have B4 := Lib.hid (B0.out.trans (b4.mono B0.out.size))
  clear b4
  go_wp2_with fail
  go_ret
  exact ⟨by rfl, B4.out⟩
/-- what refuse asks of a number that was left out -/
theorem refuC_any (Al : Option Addr) (nl cl : Nat) (l : List (Int × Int)) (x : Int) (kb : Nat) (w : World) (hk : w.heap[kb]? = some (.cells #[.slice Al nl cl] 25 (0, 0))) (h : RRow w w.heap.size Al l) (hn : l.length = nl) (hm : nl ≤ 17592186044416) :
    Calls Try.prog 71 #[.int .i64 x, .pointer (some ⟨kb, 0, none⟩)] w fun e w' => e = .returned (.bool (memB l x)) ∧ Below w.heap.size w w' := by
  have H := Lib.hid (tells_any Al nl cl l x w h hn hm)
  have c0 : w.cell? ⟨kb, 0, none⟩ = some (.slice Al nl cl) := bk_cell hk 0
  obtain ⟨rz, hrz⟩ : ∃ rz, memB l x = rz := ⟨_, rfl⟩
  rw [hrz] at H ⊢
  clear h hn hrz hk
  go_enter Try.func71, Try.ntmps71
  go_wp2_with fail
  refine (H.out).mono ?_
  rintro e w4 ⟨rfl, b4⟩
  have B4 := Lib.hid b4
  clear b4
  go_wp2_with fail
  go_ret
  exact ⟨by rfl, B4.out⟩
/-- skips: the space lies in a box -/
theorem skipC_any (v0 v1 v2 v3 : Value) (Ak : Option Addr) (nk ck : Nat) (k : List Int) (x : Int) (kb : Nat) (w : World) (hk : w.heap[kb]? = some (.cells #[v0, v1, v2, v3, .slice Ak nk ck] 48 (0, 0))) (h : RowE intE w w.heap.size Ak k) (hn : k.length = nk) (hm : nk ≤ 17592186044416) :
    Calls Try.prog 66 #[.int .i64 x, .pointer (some ⟨kb, 0, none⟩)] w fun e w' => e = .returned (.bool (decide (x ∈ k))) ∧ Below w.heap.size w w' := by
  have H := Lib.hid (isinI_any Ak nk ck k x w h hn hm)
  have c4 : w.cell? ⟨kb, 4, none⟩ = some (.slice Ak nk ck) := bk_cell hk 4
  obtain ⟨rz, hrz⟩ : ∃ rz, decide (x ∈ k) = rz := ⟨_, rfl⟩
  rw [hrz] at H ⊢
  clear h hn hrz hk
  go_enter Try.func66, Try.ntmps66
  go_wp2_with fail
  refine (H.out).mono ?_
  rintro e w4 ⟨rfl, rfl⟩
  go_wp2_with fail
  go_ret
  exact ⟨by rfl, Below.refl _ _⟩
theorem skips_any (next top : Int) (Aa Ah Ak Al : Option Addr) (na ca nh ch nk ck nl cl : Nat) (k l : List Int) (w : World) (h : RowE intE w w.heap.size Ak k) (hn : k.length = nk) (hm : nk ≤ 17592186044416) (h2 : RowE intE w w.heap.size Al l) (hn2 : l.length = nl) (hm2 : nl ≤ 17592186044416) :
    Calls Try.prog 46 #[.agg #[.int .i64 next, .slice Aa na ca, .int .i64 top, .slice Ah nh ch, .slice Ak nk ck], .slice Al nl cl] w fun e w' => e = .returned (.bool (l.any fun x => decide (x ∈ k))) ∧ Below w.heap.size w w' := by
  have B0 := Lib.hid ((Below.refl w.heap.size w).alloc (Nat.le_refl _) (.cells #[.int .i64 next, .slice Aa na ca, .int .i64 top, .slice Ah nh ch, .slice Ak nk ck] 48))
  have K0 := Lib.hid (heap_alloc_new w (.cells #[.int .i64 next, .slice Aa na ca, .int .i64 top, .slice Ah nh ch, .slice Ak nk ck] 48))
  have H := Lib.hid (has_skip Al nl cl l w.heap.size (fun x => decide (x ∈ k)) _ (h2.on B0.out) hn2 hm2 (fun i hi w' hb => skipC_any _ _ _ _ Ak nk ck k _ w.heap.size w' ((hb.block _ (lt_of_block K0.out)).trans K0.out) ((h.on B0.out).on hb) hn hm))
  obtain ⟨rz, hrz⟩ : ∃ rz, (l.any fun x => decide (x ∈ k)) = rz := ⟨_, rfl⟩
  rw [hrz] at H ⊢
  clear h hn h2 hn2 hrz K0
  go_enter Try.func46, Try.ntmps46
  go_wp2_with fail
  refine (H.out).mono ?_
  rintro e w4 ⟨rfl, b4⟩
  have B4 := Lib.hid (B0.out.trans (b4.mono B0.out.size))
  clear b4
  go_wp2_with fail
  go_ret
  exact ⟨by rfl, B4.out⟩
end Go.Proofs.Ytnccibaifffhhaa
