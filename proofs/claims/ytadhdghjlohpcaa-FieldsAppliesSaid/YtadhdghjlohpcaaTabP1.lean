/- The project's tables: Size, mayBe, isRoom, gone, Clone of a row of fields. -/
import Derived.Test.YtadhdghjlohpcaaRefTab3
import Derived.Test.YtadhdghjlohpcaaTabLawC
namespace Go.Proofs.Ytadhdghjlohpcaa
set_option linter.unusedVariables false
open Go.RowKit P

theorem tsize_any : TbSzf Try.prog 49 := fun x w hx => by
  obtain ⟨_, _, m1, m2⟩ := hx
  have z1 : (strOfNums x.name).size = x.name.length := strOfNums_size _
  have z2 : (strOfNums x.val).size = x.val.length := strOfNums_size _
  unfold fdV
  have hz : (szF x : Int) = (x.name.length : Int) + (x.val.length : Int) + 32 := by unfold szF; omega
  rw [hz]
  obtain ⟨S1, hS1⟩ : ∃ S, strOfNums x.name = S := ⟨_, rfl⟩
  obtain ⟨S2, hS2⟩ : ∃ S, strOfNums x.val = S := ⟨_, rfl⟩
  rw [hS1] at z1 ⊢
  rw [hS2] at z2 ⊢
  obtain ⟨p, hp⟩ : ∃ p, x.name.length = p := ⟨_, rfl⟩
  obtain ⟨q, hq⟩ : ∃ p, x.val.length = p := ⟨_, rfl⟩
  rw [hp] at z1 m1 ⊢
  rw [hq] at z2 m2 ⊢
  have B2 := Lib.hid ((Below.refl w.heap.size w).alloc (Nat.le_refl _) (.cells #[.string S1, .string S2] 57))
  clear hS1 hS2 hp hq hz
  go_enter Try.func49, Try.ntmps49
  go_wp2_with fail
  go_ret
  exact ⟨by rfl, B2.out⟩
theorem mayBe_any (x : Fld) (hw : FdWf x) (w : World) :
    Calls Try.prog 77 #[fdV x] w fun e w' => e = .returned (.bool (decide (okFd x))) ∧ Below w.heap.size w w' := by
  obtain ⟨_, _, m1, m2⟩ := hw
  have z1 : (strOfNums x.name).size = x.name.length := strOfNums_size _
  have z2 : (strOfNums x.val).size = x.val.length := strOfNums_size _
  have e : decide (okFd x) = (decide ((1 : Int) ≤ (x.name.length : Int)) && decide ((x.name.length : Int) ≤ 20) && decide ((x.val.length : Int) ≤ 40)) := by
    rw [Bool.eq_iff_iff, Bool.and_eq_true, Bool.and_eq_true, decide_eq_true_iff, decide_eq_true_iff, decide_eq_true_iff, decide_eq_true_iff]
    unfold okFd
    constructor
    · rintro ⟨a, b, c⟩; exact ⟨⟨by omega, by omega⟩, by omega⟩
    · rintro ⟨⟨a, b⟩, c⟩; exact ⟨by omega, by omega, by omega⟩
  rw [e]
  unfold fdV
  obtain ⟨S1, hS1⟩ : ∃ S, strOfNums x.name = S := ⟨_, rfl⟩
  obtain ⟨S2, hS2⟩ : ∃ S, strOfNums x.val = S := ⟨_, rfl⟩
  rw [hS1] at z1 ⊢
  rw [hS2] at z2 ⊢
  obtain ⟨p, hp⟩ : ∃ p, x.name.length = p := ⟨_, rfl⟩
  obtain ⟨q, hq⟩ : ∃ p, x.val.length = p := ⟨_, rfl⟩
  rw [hp] at z1 m1 ⊢
  rw [hq] at z2 m2 ⊢
  have B2 := Lib.hid ((Below.refl w.heap.size w).alloc (Nat.le_refl _) (.cells #[.string S1, .string S2] 57))
  clear hS1 hS2 hp hq e
  by_cases h1 : (1 : Int) ≤ (p : Int)
  · by_cases h2 : (p : Int) ≤ 20
    · go_enter Try.func77, Try.ntmps77
      go_wp2_with fail
      go_ret
      exact ⟨by simp [h1, h2] <;> omega, B2.out⟩
    · go_enter Try.func77, Try.ntmps77
      go_wp2_with fail
      go_ret
      exact ⟨by simp [h1, h2] <;> omega, B2.out⟩
  · go_enter Try.func77, Try.ntmps77
    go_wp2_with fail
    go_ret
    exact ⟨by simp [h1] <;> omega, B2.out⟩
theorem isRoom_any (r : Int) (w : World) :
    Calls Try.prog 54 #[.int .i64 r] w fun e w' => e = .returned (.bool (decide (0 ≤ r ∧ r ≤ 160))) ∧ w' = w := by
  by_cases h1 : 0 ≤ r
  · go_enter Try.func54, Try.ntmps54
    go_wp2_with fail
    go_ret
    exact ⟨by simp [h1], rfl⟩
  · go_enter Try.func54, Try.ntmps54
    go_wp2_with fail
    go_ret
    exact ⟨by simp [h1] <;> omega, rfl⟩
theorem gone_any (room put : Int) (A : Option Addr) (n c : Nat) (hp : 0 ≤ put ∧ put ≤ 4611686018427387903) (hn : n ≤ 8796093022208) (w : World) :
    Calls Try.prog 82 #[.agg #[.int .i64 room, .int .i64 put, .slice A n c]] w fun e w' => e = .returned (.int .i64 (put - (n : Int))) ∧ Below w.heap.size w w' := by
  have B2 := Lib.hid ((Below.refl w.heap.size w).alloc (Nat.le_refl _) (.cells #[.int .i64 room, .int .i64 put, .slice A n c] 24))
  go_enter Try.func82, Try.ntmps82
  go_wp2_with fail
  go_ret
  exact ⟨by rfl, B2.out⟩
theorem fclone_any (B : Nat) (A : Option Addr) (n c : Nat) (l : List Fld) (w : World) (hB : B ≤ w.heap.size) (h : RowE FdE w B A l) (hn : l.length = n) (hm : n ≤ 8796093022) :
    Calls Try.prog 46 #[.slice A n c] w fun e w' => Below w.heap.size w w' ∧ ∃ v, e = .returned v ∧ OwnE FdE w' w.heap.size 57 v l := by
  rcases A with _ | a
  · have e0 : l = [] := by
      rcases Nat.eq_zero_or_pos l.length with e | e
      · exact List.eq_nil_of_length_eq_zero e
      · obtain ⟨b, off, e, _⟩ := h e; cases e
    subst e0
    have hnil := fun w => Lib.run_eql_slice_nil (P := Try.prog) w 22 57 none n c 0 0 Try.underlying22
    go_enter Try.func46, Try.ntmps46
    go_wp2
    go_ret
    exact ⟨Below.refl _ _, _, rfl, OwnE.nil _ _ _⟩
  · obtain ⟨i0, hi0, hz0, hz1, hz2⟩ := info_partsE infoFd
    have HI := Lib.hid hi0
    have HZ := Lib.hid hz0
    have HZ1 := Lib.hid hz1
    have HZ2 := Lib.hid hz2
    have H3 := Lib.hid (h.more hB)
    have HN := Lib.hid hn
    clear hi0 hz0 hz1 hz2 h hn
    have hnil := fun w => Lib.run_eql_slice_nil (P := Try.prog) w 22 57 (some a) n c 0 0 Try.underlying22
    have OE := Lib.hid (OwnE.empty (E := FdE) w w.heap.size 57 w.heap.size rfl (Nat.le_refl _))
    have BE := Lib.hid ((Below.refl w.heap.size w).alloc (Nat.le_refl _) (.cells #[] 57))
    go_enter Try.func46, Try.ntmps46
    go_wp2_with (first
      | (at_builtin
         refine wpList_appE _ rfl (.tmp 5) (.tmp 6) _ rfl w.heap.size 57 i0 (.agg #[.string ⟨#[]⟩, .string ⟨#[]⟩]) 32 Try.underlying22 HI.out HZ.out HZ1.out HZ2.out rfl (by decide) (.slice (some ⟨w.heap.size, 0, none⟩) 0 0) [] rfl OE.out w.heap.size (some a) n c l rfl (H3.out.below BE.out) HN.out (by simp only [List.length_nil]; omega) BE.out.size ?_
         intro v1 u1 own1 g1
         have O1 := Lib.hid own1
         have B1 := Lib.hid (BE.out.grown g1 BE.out.size (fun k hk => (OwnE.lt OE.out k hk).1))
         clear own1 g1))
    go_ret
    exact ⟨B1.out, _, rfl, by simpa using O1.out⟩
end Go.Proofs.Ytadhdghjlohpcaa
