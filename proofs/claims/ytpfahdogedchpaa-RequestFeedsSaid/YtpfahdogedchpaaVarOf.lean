/- The reference's reader of numbers. -/
import Derived.Test.YtpfahdogedchpaaRefNum
import Derived.Test.YtpfahdogedchpaaGrpA
namespace Go.Proofs.Ytpfahdogedchpaa
set_option linter.unusedVariables false
open Go.RowKit P

theorem varOf_empty (w : World) :
    Calls Try.prog 23 #[.string (strOfNums [])] w fun e w' => e = .returned (.tuple #[.int .i64 0, .int .i64 0, .int .i64 4]) ∧ Below w.heap.size w w' := by
  have hem := str_empty []
  simp only [List.length_nil, decide_true] at hem
  go_enter Try.func23, Try.ntmps23
  go_wp2
  go_ret3
  exact ⟨rfl, Below.refl _ _⟩

theorem varOf_short (s : ByteArray) (zs : List Int) (hs : s = strOfNums zs) (hb : Byt zs) (h0 : 0 < zs.length) (hk : (zs.length : Int) < kOf (zs.getD 0 0)) (w : World) :
    Calls Try.prog 23 #[.string s] w fun e w' => e = .returned (.tuple #[.int .i64 0, .int .i64 0, .int .i64 4]) ∧ Below w.heap.size w w' := by
  have hem : s.toList.isEmpty = false := by subst hs; rw [str_empty]; simp; intro h; subst h; simp at h0
  have hget : ∀ n (h : n < s.size), ((s[n]'h).toNat : Int) = zs.getD n 0 := by subst hs; exact str_get hb
  have hsz : s.size = zs.length := by subst hs; exact strOfNums_size zs
  have h0' : 0 < s.size := by omega
  rw [← hsz] at hk
  have hx := hget 0 h0'
  have bz := hb 0
  clear hget hsz hs h0 hb
  generalize zs.getD 0 0 = z at *
  have hk2 : (s.size : Int) < 1 ∨ s.size < 2 ∧ z / 64 = 1 ∨ s.size < 4 ∧ z / 64 = 2 ∨ s.size < 8 ∧ z / 64 = 3 := by
    unfold kOf at hk
    split at hk
    · omega
    · split at hk
      · omega
      · split at hk <;> omega
  clear hk
  rcases hk2 with a | ⟨a, b⟩ | ⟨a, b⟩ | ⟨a, b⟩
  · omega
  all_goals
    go_enter Try.func23, Try.ntmps23
    go_wp2
    go_ret3
    exact ⟨rfl, by go_grown⟩

theorem decV_rem (zs : List Int) (h : Byt zs) (hok : decOk zs) (m : Nat) (hm : (m = 1 ∧ zs.getD 0 0 / 64 = 0) ∨ (m = 2 ∧ zs.getD 0 0 / 64 = 1) ∨ (m = 4 ∧ zs.getD 0 0 / 64 = 2) ∨ (m = 8 ∧ zs.getD 0 0 / 64 = 3)) :
    kOf (zs.getD 0 0) = m ∧ beFrom 0 (zs.take m) = zs.getD 0 0 / 64 * (64 * 256 ^ (m - 1)) + decV zs := by
  have hz := h 0
  have hk : kOf (zs.getD 0 0) = m := by
    unfold kOf
    rcases hm with ⟨rfl, b⟩ | ⟨rfl, b⟩ | ⟨rfl, b⟩ | ⟨rfl, b⟩
    all_goals (split <;> (try split) <;> (try split) <;> omega)
  refine ⟨hk, ?_⟩
  obtain ⟨h0, hlen⟩ := hok
  rw [hk] at hlen
  unfold decV
  rw [hk, show ((m : Nat) : Int).toNat = m from rfl]
  match zs, h0 with
  | z :: t, _ =>
    have e1 : (z :: t).take m = z :: t.take (m - 1) := by
      have : m = (m - 1) + 1 := by omega
      rw [this, List.take_succ_cons]; simp
    rw [e1, beFrom_cons]
    have e2 : (z :: t).getD 0 0 = z := rfl
    have e3 : (z :: t).drop 1 = t := rfl
    rw [e2, e3]
    have hl : (t.take (m - 1)).length = m - 1 := by rw [List.length_take]; simp at hlen; omega
    rw [beFrom_lin (0 * 256 + z), beFrom_lin (z % 64), hl]
    generalize (256 : Int) ^ (m - 1) = p
    generalize beFrom 0 (t.take (m - 1)) = q
    have hz' : z = z / 64 * 64 + z % 64 := by omega
    generalize z / 64 = u at *
    generalize z % 64 = v at *
    subst hz'
    rw [Int.zero_mul, Int.zero_add, Int.add_mul, Int.mul_assoc, Int.add_assoc]

theorem decV_lt (zs : List Int) (h : Byt zs) (hok : decOk zs) : decV zs ≤ zs.getD 0 0 % 64 * 256 ^ ((kOf (zs.getD 0 0)).toNat - 1) + (256 ^ ((kOf (zs.getD 0 0)).toNat - 1) - 1) :=
  (beFrom_bd (zs.getD 0 0 % 64) (zs.drop 1) (h.drop 1) (by omega) ((kOf (zs.getD 0 0)).toNat - 1) (by have := hok.2; rw [List.length_drop]; omega)).2

/-- the whole number, its mark with it, and what is left of it without the mark -/
theorem marked (zs : List Int) (h : Byt zs) (hok : decOk zs) : ∃ m : Nat, m ≤ zs.length ∧ m ≤ 8 ∧ kOf (zs.getD 0 0) = m ∧
    ((m = 1 ∧ zs.getD 0 0 / 64 = 0 ∧ beFrom 0 (zs.take m) % 64 = decV zs) ∨ (m = 2 ∧ zs.getD 0 0 / 64 = 1 ∧ beFrom 0 (zs.take m) % 16384 = decV zs) ∨
     (m = 4 ∧ zs.getD 0 0 / 64 = 2 ∧ beFrom 0 (zs.take m) % 1073741824 = decV zs) ∨ (m = 8 ∧ zs.getD 0 0 / 64 = 3 ∧ beFrom 0 (zs.take m) % 4611686018427387904 = decV zs)) ∧
    0 ≤ beFrom 0 (zs.take m) ∧ beFrom 0 (zs.take m) ≤ 18446744073709551615 := by
  have bz := h 0
  have lt := decV_lt zs h hok
  have v0 := (decV_bd zs h hok).1
  obtain ⟨m, hm⟩ : ∃ m, (m = 1 ∧ zs.getD 0 0 / 64 = 0) ∨ (m = 2 ∧ zs.getD 0 0 / 64 = 1) ∨ (m = 4 ∧ zs.getD 0 0 / 64 = 2) ∨ (m = 8 ∧ zs.getD 0 0 / 64 = 3) := by
    have c : zs.getD 0 0 / 64 = 0 ∨ zs.getD 0 0 / 64 = 1 ∨ zs.getD 0 0 / 64 = 2 ∨ zs.getD 0 0 / 64 = 3 := by omega
    rcases c with c | c | c | c
    · exact ⟨1, .inl ⟨rfl, c⟩⟩
    · exact ⟨2, .inr (.inl ⟨rfl, c⟩)⟩
    · exact ⟨4, .inr (.inr (.inl ⟨rfl, c⟩))⟩
    · exact ⟨8, .inr (.inr (.inr ⟨rfl, c⟩))⟩
  obtain ⟨hk, hbe⟩ := decV_rem zs h hok m hm
  have hl := hok.2
  rw [hk] at hl lt
  refine ⟨m, by omega, by omega, hk, ?_⟩
  rw [hbe]
  rw [show ((m : Nat) : Int).toNat = m from rfl] at lt
  generalize decV zs = v at *
  generalize zs.getD 0 0 = z at *
  have e0 : (256 : Int) ^ (1 - 1) = 1 := rfl
  have e1 : (256 : Int) ^ (2 - 1) = 256 := rfl
  have e3 : (256 : Int) ^ (4 - 1) = 16777216 := rfl
  have e7 : (256 : Int) ^ (8 - 1) = 72057594037927936 := rfl
  rcases hm with ⟨rfl, b⟩ | ⟨rfl, b⟩ | ⟨rfl, b⟩ | ⟨rfl, b⟩
  · rw [e0] at lt ⊢; rw [b]; refine ⟨.inl ⟨rfl, rfl, ?_⟩, ?_, ?_⟩ <;> omega
  · rw [e1] at lt ⊢; rw [b]; refine ⟨.inr (.inl ⟨rfl, rfl, ?_⟩), ?_, ?_⟩ <;> omega
  · rw [e3] at lt ⊢; rw [b]; refine ⟨.inr (.inr (.inl ⟨rfl, rfl, ?_⟩)), ?_, ?_⟩ <;> omega
  · rw [e7] at lt ⊢; rw [b]; refine ⟨.inr (.inr (.inr ⟨rfl, rfl, ?_⟩)), ?_, ?_⟩ <;> omega

theorem varOf_long (s : ByteArray) (zs : List Int) (hs : s = strOfNums zs) (hb : Byt zs) (hok : decOk zs) (w : World) :
    Calls Try.prog 23 #[.string s] w fun e w' => e = .returned (.tuple #[.int .i64 (decV zs), .int .i64 (kOf (zs.getD 0 0)), .int .i64 0]) ∧ Below w.heap.size w w' := by
  have h0 := hok.1
  have hem : s.toList.isEmpty = false := by subst hs; rw [str_empty]; simp; intro h; subst h; simp at h0
  have hget : ∀ n (h : n < s.size), ((s[n]'h).toNat : Int) = zs.getD n 0 := by subst hs; exact str_get hb
  have hsz : s.size = zs.length := by subst hs; exact strOfNums_size zs
  have h0' : 0 < s.size := by omega
  have hx := hget 0 h0'
  have bz := hb 0
  have dv := decV_bd zs hb hok
  have hcut : ∀ k, s.extract 0 k = strOfNums (zs.take k) := by subst hs; exact str_cut zs
  obtain ⟨m, hml, hm8, hk, hm, y0, y1⟩ := marked zs hb hok
  have hms : m ≤ s.size := by omega
  have hnum : ∀ w, Calls Try.prog 37 #[.string (s.extract 0 m)] w fun e w' => e = .returned (.int .u64 (beFrom 0 (zs.take m))) ∧ w = w' := fun w =>
    refnum_any _ _ (hcut m) (hb.take m) (by rw [List.length_take]; omega) w
  rw [hk]
  have HN := Lib.hid hnum
  clear hget hsz hs h0 hb hok hcut hk hnum hml
  obtain ⟨v0, v1, _⟩ := dv
  generalize decV zs = v at *
  generalize beFrom 0 (zs.take m) = y at *
  generalize zs.getD 0 0 = z at *
  rcases hm with ⟨rfl, b, r⟩ | ⟨rfl, b, r⟩ | ⟨rfl, b, r⟩ | ⟨rfl, b, r⟩
  all_goals
    go_enter Try.func23, Try.ntmps23
    go_wp2
    go_quiet ((go_at_call 37; exact Calls.quiet_of_same ((HN.out _).mono fun _ _ ⟨a, b⟩ => ⟨a, b.symm⟩)))
    go_wp2
    go_ret3
    exact ⟨rfl, Go.below_drewN ((Below.refl _ _).alloc (Nat.le_refl _) _) _⟩
end Go.Proofs.Ytpfahdogedchpaa
