/- Contract of package head: Decode, whatever the bytes. -/
import Derived.Test.YtaccedlpnngdhaaDoorHdDecode
namespace Go.Proofs.YtaccedlpnngdhaaDoor
set_option linter.unusedVariables false
open Go.RowKit P

theorem decTok_ne0 {s : List Int} {x : Int} (k : decTok s = .error x) : x ≠ 0 := by
  unfold decTok at k
  cases h1 : rd s with
  | error e => rw [h1] at k; simp only [Except.error.injEq] at k; have := rd_err h1; omega
  | ok p =>
    rw [h1] at k
    simp only at k
    split at k
    · simp only [Except.error.injEq] at k; omega
    split at k
    · simp only [Except.error.injEq] at k; omega
    · cases k
theorem decTok_left {s t u : List Int} (h : decTok s = .ok (t, u)) : ∃ j, j ≤ s.length ∧ u = s.drop j := by
  unfold decTok at h
  cases h1 : rd s with
  | error e => rw [h1] at h; cases h
  | ok p =>
    obtain ⟨n, v⟩ := p
    obtain ⟨hd, hn, hv⟩ := rd_ok h1
    rw [h1] at h
    simp only at h
    by_cases h2 : 120 < n
    · rw [if_pos h2] at h; cases h
    rw [if_neg h2] at h
    by_cases h3 : (v.length : Int) < n
    · rw [if_pos h3] at h; cases h
    rw [if_neg h3] at h
    simp only [Except.ok.injEq, Prod.mk.injEq] at h
    refine ⟨(kOf (s.getD 0 0)).toNat + n.toNat, ?_, by rw [← h.2, hv, List.drop_drop]⟩
    have := hd.2
    have hk := kOf_bd (s.getD 0 0)
    rw [hv, List.length_drop] at h3
    omega
theorem zHd_er {zs : List Int} {w w' : World} {e : Ending} {x : Int} (hd : decH zs = .error x) (h : e = .returned (.tuple #[zHd, .int .i64 0, .int .i64 x]) ∧ Below w.heap.size w w') : HdDec zs w e w' := hdDec_er hd h
theorem row_at {w : World} {B b off : Nat} {zs : List Int} (h : ∀ j, j < zs.length → w.cell? ⟨b, off + j, none⟩ = some (.int .u8 (zs.getD j 0))) (hb : b < B) (hy : Byt zs) (k : Nat) : BRow w B (some ⟨b, off + k, none⟩) (zs.drop k) :=
  ⟨hy.drop k, fun hp => ⟨b, off + k, rfl, hb, fun j hj => by
    rw [List.length_drop] at hj
    rw [getD_drop, show off + k + j = off + (k + j) by omega]
    exact h (k + j) (by omega)⟩⟩
theorem hdDecode_any (A : Option Addr) (n c : Nat) (zs : List Int) (w : World) (h : BRow w w.heap.size A zs) (hzn : zs.length = n) (hl : n ≤ c) (hm : c ≤ maxLen) (hA : A = none → c = 0) (hn : n ≤ 140737488355328) :
    Calls Tryd.prog 12 #[.slice A n c] w (HdDec zs w) := by
  cases zs with
  | nil =>
    subst hzn
    exact (hdDec_refused A 4 (by decide) (fun w' _ => begun_nil A c w')).mono fun e w' h => zHd_er rfl h
  | cons z s =>
    obtain ⟨b0, off, rfl, hb, hc⟩ := h.2 (by simp)
    have c0 := hc 0 (by simp)
    rw [Nat.add_zero, List.getD_cons_zero] at c0
    have hz := h.1 0
    rw [List.getD_cons_zero] at hz
    cases hk : kindH z with
    | none =>
      exact (hdDec_refused _ 2 (by decide) (fun w' hw => begun_no z hz.1 hz.2 hk (Nat.lt_of_lt_of_le hb hw.size) ((hw.cell (p := ⟨b0, off, none⟩) hb).trans c0) (by simp at hzn; omega) hn)).mono fun e w' h => zHd_er (by simp only [decH, hk]) h
    | some p =>
      obtain ⟨k, m'⟩ := p
      obtain ⟨m, rfl, hm4⟩ : ∃ m : Nat, m' = (m : Int) ∧ m ≤ 4 := ⟨m'.toNat, by have := kindH_some hk; omega, by have := kindH_some hk; omega⟩
      cases s with
      | nil =>
        obtain rfl : n = 1 := by simpa using hzn.symm
        exact (hdDec_refused _ 4 (by decide) (fun w' hw => begun_short z k m hz.1 hz.2 hk (Nat.lt_of_lt_of_le hb hw.size) ((hw.cell (p := ⟨b0, off, none⟩) hb).trans c0) (by omega) hn (.inl (by omega)))).mono fun e w' h => zHd_er (by simp only [decH, hk]) h
      | cons a s1 =>
        have c1 := hc 1 (by simp)
        rw [List.getD_cons_succ, List.getD_cons_zero] at c1
        have ha := h.1 1
        rw [List.getD_cons_succ, List.getD_cons_zero] at ha
        by_cases k2 : k = 2
        · subst k2
          have m1 : 1 ≤ m := by have := kindH_some hk; omega
          obtain ⟨q, rfl⟩ : ∃ q, n = q + 2 := ⟨s1.length, by simpa using hzn.symm⟩
          have hq : s1.length = q := by simpa using hzn
          obtain ⟨p, rfl⟩ : ∃ p, c = p + 2 := ⟨c - 2, by omega⟩
          have hB : ∀ w', Below w.heap.size w w' → Calls Tryd.prog 22 #[.slice (some ⟨b0, off, none⟩) (q + 2) (p + 2)] w' fun e w'' => e = .returned (.tuple #[.agg #[.int .i64 2, .int .i64 a, .int .i64 0, .slice none 0 0, .int .i64 0, .int .i64 m], .int .i64 2, .int .i64 0]) ∧ Below w'.heap.size w' w'' :=
            fun w' hw => begun_2 z m a hz.1 hz.2 hk (Nat.lt_of_lt_of_le hb hw.size) ((hw.cell (p := ⟨b0, off, none⟩) hb).trans c0) ((hw.cell (p := ⟨b0, off + 1, none⟩) hb).trans c1) ha (by omega) hn
          by_cases hqm : q < m
          · exact (hdDec_s_few b0 off q p m a hqm hm4 hn hB).mono fun e w' h => zHd_er (by simp only [decH, hk]; rw [if_pos trivial]; unfold decNum; rw [if_pos (by simp only; omega)]) h
          · have hrow := row_at (k := 2) hc hb h.1
            simp only [List.drop_succ_cons, List.drop_zero] at hrow
            refine (hdDec_s_yes b0 off q p m a (s1.take m) hb (hrow.1.take m) (by rw [List.length_take]; omega) (fun j hj => ?_) (by omega) (by omega) hm m1 hm4 hn hB).mono ?_
            · have := hc (j + 2) (by simp; omega)
              rw [List.getD_cons_succ, List.getD_cons_succ] at this
              rw [getD_take hj, show off + 2 + j = off + (j + 2) by omega]
              exact this
            · rintro e w' ⟨v, rfl, hv, hbl⟩
              refine hdDec_ok (h := ⟨2, a, 0, [], beFrom 0 (s1.take m), m⟩) (t := s1.drop m) ?_ rfl (by simp only [List.length_cons, List.length_drop]; omega) hbl hv
              simp only [decH, hk]
              rw [if_pos trivial]
              unfold decNum
              rw [if_neg (by simp only; omega)]
              simp only [Int.toNat_natCast]
        · cases s1 with
          | nil =>
            obtain rfl : n = 2 := by simpa using hzn.symm
            exact (hdDec_refused _ 4 (by decide) (fun w' hw => begun_short z k m hz.1 hz.2 hk (Nat.lt_of_lt_of_le hb hw.size) ((hw.cell (p := ⟨b0, off, none⟩) hb).trans c0) (by omega) hn (.inr ⟨k2, by omega⟩))).mono fun e w' h => zHd_er (by simp only [decH, hk]; rw [if_neg k2]) h
          | cons b s2 =>
            have c2 := hc 2 (by simp)
            rw [List.getD_cons_succ, List.getD_cons_succ, List.getD_cons_zero] at c2
            have hbb := h.1 2
            rw [List.getD_cons_succ, List.getD_cons_succ, List.getD_cons_zero] at hbb
            have hrow := row_at (k := 3) hc hb h.1
            simp only [List.drop_succ_cons, List.drop_zero] at hrow
            have g2 : (k != 2) = true := by simp [k2]
            have hdec : decH (z :: a :: b :: s2) = (match decTok s2 with | .error e => .error e | .ok (t, u) => decNum ⟨k, a, b, t, 0, m⟩ u) := by
              simp only [decH, hk]
              rw [if_neg k2]
              cases decTok s2 <;> rfl
            obtain ⟨q, rfl⟩ : ∃ q, n = q + 3 := ⟨s2.length, by simpa using hzn.symm⟩
            have hq : s2.length = q := by simpa using hzn
            obtain ⟨p, rfl⟩ : ∃ p, c = p + 3 := ⟨c - 3, by omega⟩
            have hB : ∀ w', Below w.heap.size w w' → Calls Tryd.prog 22 #[.slice (some ⟨b0, off, none⟩) (q + 3) (p + 3)] w' fun e w'' => e = .returned (.tuple #[.agg #[.int .i64 k, .int .i64 a, .int .i64 b, .slice none 0 0, .int .i64 0, .int .i64 m], .int .i64 3, .int .i64 0]) ∧ Below w'.heap.size w' w'' :=
              fun w' hw => begun_3 z k m a b hz.1 hz.2 hk k2 (Nat.lt_of_lt_of_le hb hw.size) ((hw.cell (p := ⟨b0, off, none⟩) hb).trans c0) ((hw.cell (p := ⟨b0, off + 1, none⟩) hb).trans c1) ((hw.cell (p := ⟨b0, off + 2, none⟩) hb).trans c2) ha hbb (by omega) hn
            by_cases hp : p = 0
            · subst hp
              obtain rfl : q = 0 := by omega
              obtain rfl : s2 = [] := List.eq_nil_of_length_eq_zero hq
              have hT : ∀ w', Below w.heap.size w w' → Calls Tryd.prog 23 #[.slice (some ⟨b0, off, none⟩) 0 0] w' fun e w'' => e = .returned (.tuple #[.slice none 0 0, .int .i64 0, .int .i64 4]) ∧ Below w'.heap.size w' w'' :=
                fun w' hw => (token_any (some ⟨b0, off, none⟩) 0 0 [] w' (BRow.nil _ _ _) rfl (Nat.le_refl _) (by unfold maxLen; omega) (fun _ => rfl) (by omega)).mono fun e w'' ht => ⟨ht.2, ht.1⟩
              exact (hdDec_l_tok_b b0 off 0 0 k a b m 4 (by decide) g2 (by omega) (Nat.le_refl _) hm hB hT).mono fun e w' h => zHd_er (by rw [hdec]; rfl) h
            · have hT0 := fun w' (hw : Below w.heap.size w w') => token_any (some ⟨b0, off + 3, none⟩) q p s2 w' ((hrow.below hw).more hw.size) hq (by omega) (by unfold maxLen at *; omega) (fun e => by cases e) (by omega)
              cases hd : decTok s2 with
              | error x =>
                have hT : ∀ w', Below w.heap.size w w' → Calls Tryd.prog 23 #[.slice (some ⟨b0, off + 3, none⟩) q p] w' fun e w'' => e = .returned (.tuple #[.slice none 0 0, .int .i64 0, .int .i64 x]) ∧ Below w'.heap.size w' w'' :=
                  fun w' hw => (hT0 w' hw).mono fun e w'' ht => by
                    unfold TokPost at ht
                    rw [hd] at ht
                    exact ⟨ht.2, ht.1⟩
                exact (hdDec_l_tok_a b0 off q p k a b m x (decTok_ne0 hd) g2 hp hn (by omega) hm hB hT).mono fun e w' h => zHd_er (by rw [hdec, hd]) h
              | ok pr =>
                obtain ⟨t, u⟩ := pr
                obtain ⟨j, hj, hu⟩ := decTok_left hd
                have hul : u.length = q - j := by rw [hu, List.length_drop, hq]
                have hT : ∀ w', Below w.heap.size w w' → Calls Tryd.prog 23 #[.slice (some ⟨b0, off + 3, none⟩) q p] w' fun e w'' => ∃ v, e = .returned (.tuple #[v, .int .i64 j, .int .i64 0]) ∧ BSl w'' w''.heap.size v t ∧ (∀ i, v.ownBlock = some i → w'.heap.size ≤ i) ∧ Below w'.heap.size w' w'' :=
                  fun w' hw => (hT0 w' hw).mono fun e w'' ht => by
                    unfold TokPost at ht
                    rw [hd] at ht
                    obtain ⟨hbl, v, he, hv, ho⟩ := ht
                    refine ⟨v, ?_, hv, ho, hbl⟩
                    rw [he, show (s2.length : Int) - u.length = (j : Int) by omega]
                by_cases hf : q < j + m
                · exact (hdDec_l_few b0 off q p j m k a b t g2 hp hn (by omega) hm (by omega) hm4 hf hB hT).mono fun e w' h => zHd_er (by rw [hdec, hd]; simp only; unfold decNum; rw [if_pos (by simp only; omega)]) h
                · refine (hdDec_l_yes b0 off q p j m k a b t (u.take m) g2 hp hb (hu ▸ (hrow.1.drop j).take m) (by rw [List.length_take]; omega) (fun i hi => ?_) hn (by omega) hm hm4 (by omega) hB hT).mono ?_
                  · have := hc (j + i + 3) (by simp; omega)
                    rw [List.getD_cons_succ, List.getD_cons_succ, List.getD_cons_succ] at this
                    rw [getD_take hi, hu, getD_drop, show off + (3 + j) + i = off + (j + i + 3) by omega]
                    exact this
                  · rintro e w' ⟨v, rfl, hv, hbl⟩
                    refine hdDec_ok (h := ⟨k, a, b, t, beFrom 0 (u.take m), m⟩) (t := u.drop m) ?_ rfl (by simp only [List.length_cons, List.length_drop]; omega) hbl hv
                    rw [hdec, hd]
                    simp only
                    unfold decNum
                    rw [if_neg (by simp only; omega)]
                    simp only [Int.toNat_natCast]
end Go.Proofs.YtaccedlpnngdhaaDoor
