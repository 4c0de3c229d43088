/- Several texts in one. -/
import Derived.Test.YtpfahdogedchpaaGrpM
import Derived.Test.YtpfahdogedchpaaGrpZf
/- The project's tables: Size, mayBe, isRoom, gone, Clone of a row of fields. -/
namespace Go.Proofs.Ytpfahdogedchpaa
set_option linter.unusedVariables false
open Go.RowKit P

theorem tsize_any : TbSzf Try.prog 72 := fun x w hx => by
  obtain ⟨_, _, m1, m2⟩ := hx
  have z1 : (strOfNums x.name).size = x.name.length := strOfNums_size _
  have z2 : (strOfNums x.val).size = x.val.length := strOfNums_size _
  unfold fdV
  have hz : (szF x : Int) = (x.name.length : Int) + (x.val.length : Int) + 32 := by unfold szF; omega
  rw [hz]
  obtain ⟨S1, hS1⟩ : ∃ S, strOfNums x.name = S := ⟨_, rfl⟩
  obtain ⟨S2, hS2⟩ : ∃ S, strOfNums x.val = S := ⟨_, rfl⟩
  rw [hS1] at z1 ⊢
  rw [hS2] at z2 ⊢
  obtain ⟨p, hp⟩ : ∃ p, x.name.length = p := ⟨_, rfl⟩
  obtain ⟨q, hq⟩ : ∃ p, x.val.length = p := ⟨_, rfl⟩
  rw [hp] at z1 m1 ⊢
  rw [hq] at z2 m2 ⊢
  have B2 := Lib.hid ((Below.refl w.heap.size w).alloc (Nat.le_refl _) (.cells #[.string S1, .string S2] 66))
  clear hS1 hS2 hp hq hz
  go_enter Try.func72, Try.ntmps72
  go_wp2_with fail
  go_ret
  exact ⟨by rfl, B2.out⟩
theorem mayBe_any (x : Fld) (hw : FdWf x) (w : World) :
    Calls Try.prog 73 #[fdV x] w fun e w' => e = .returned (.bool (decide (okFd x))) ∧ Below w.heap.size w w' := by
  obtain ⟨_, _, m1, m2⟩ := hw
  have z1 : (strOfNums x.name).size = x.name.length := strOfNums_size _
  have z2 : (strOfNums x.val).size = x.val.length := strOfNums_size _
  have e : decide (okFd x) = (decide ((1 : Int) ≤ (x.name.length : Int)) && decide ((x.name.length : Int) ≤ 20) && decide ((x.val.length : Int) ≤ 40)) := by
    rw [Bool.eq_iff_iff, Bool.and_eq_true, Bool.and_eq_true, decide_eq_true_iff, decide_eq_true_iff, decide_eq_true_iff, decide_eq_true_iff]
    unfold okFd
    constructor
    · rintro ⟨a, b, c⟩; exact ⟨⟨by omega, by omega⟩, by omega⟩
    · rintro ⟨⟨a, b⟩, c⟩; exact ⟨by omega, by omega, by omega⟩
  rw [e]
  unfold fdV
  obtain ⟨S1, hS1⟩ : ∃ S, strOfNums x.name = S := ⟨_, rfl⟩
  obtain ⟨S2, hS2⟩ : ∃ S, strOfNums x.val = S := ⟨_, rfl⟩
  rw [hS1] at z1 ⊢
  rw [hS2] at z2 ⊢
  obtain ⟨p, hp⟩ : ∃ p, x.name.length = p := ⟨_, rfl⟩
  obtain ⟨q, hq⟩ : ∃ p, x.val.length = p := ⟨_, rfl⟩
  rw [hp] at z1 m1 ⊢
  rw [hq] at z2 m2 ⊢
  have B2 := Lib.hid ((Below.refl w.heap.size w).alloc (Nat.le_refl _) (.cells #[.string S1, .string S2] 66))
  clear hS1 hS2 hp hq e
  by_cases h1 : (1 : Int) ≤ (p : Int)
  · by_cases h2 : (p : Int) ≤ 20
    · go_enter Try.func73, Try.ntmps73
      go_wp2_with fail
      go_ret
      exact ⟨by simp [h1, h2] <;> omega, B2.out⟩
    · go_enter Try.func73, Try.ntmps73
      go_wp2_with fail
      go_ret
      exact ⟨by simp [h1, h2] <;> omega, B2.out⟩
  · go_enter Try.func73, Try.ntmps73
    go_wp2_with fail
    go_ret
    exact ⟨by simp [h1] <;> omega, B2.out⟩
theorem isRoom_any (r : Int) (w : World) :
    Calls Try.prog 60 #[.int .i64 r] w fun e w' => e = .returned (.bool (decide (0 ≤ r ∧ r ≤ 160))) ∧ w' = w := by
  by_cases h1 : 0 ≤ r
  · go_enter Try.func60, Try.ntmps60
    go_wp2_with fail
    go_ret
    exact ⟨by simp [h1], rfl⟩
  · go_enter Try.func60, Try.ntmps60
    go_wp2_with fail
    go_ret
    exact ⟨by simp [h1] <;> omega, rfl⟩
theorem gone_any (room put : Int) (A : Option Addr) (n c : Nat) (hp : 0 ≤ put ∧ put ≤ 4611686018427387903) (hn : n ≤ 8796093022208) (w : World) :
    Calls Try.prog 78 #[.agg #[.int .i64 room, .int .i64 put, .slice A n c]] w fun e w' => e = .returned (.int .i64 (put - (n : Int))) ∧ Below w.heap.size w w' := by
  have B2 := Lib.hid ((Below.refl w.heap.size w).alloc (Nat.le_refl _) (.cells #[.int .i64 room, .int .i64 put, .slice A n c] 27))
  go_enter Try.func78, Try.ntmps78
  go_wp2_with fail
  go_ret
  exact ⟨by rfl, B2.out⟩
theorem fclone_any (B : Nat) (A : Option Addr) (n c : Nat) (l : List Fld) (w : World) (hB : B ≤ w.heap.size) (h : RowE FdE w B A l) (hn : l.length = n) (hm : n ≤ 8796093022) :
    Calls Try.prog 33 #[.slice A n c] w fun e w' => Below w.heap.size w w' ∧ ∃ v, e = .returned v ∧ OwnE FdE w' w.heap.size 66 v l := by
  rcases A with _ | a
  · have e0 : l = [] := by
      rcases Nat.eq_zero_or_pos l.length with e | e
      · exact List.eq_nil_of_length_eq_zero e
      · obtain ⟨b, off, e, _⟩ := h e; cases e
    subst e0
    have hnil := fun w => Lib.run_eql_slice_nil (P := Try.prog) w 23 66 none n c 0 0 Try.underlying23
    go_enter Try.func33, Try.ntmps33
    go_wp2
    go_ret
    exact ⟨Below.refl _ _, _, rfl, OwnE.nil _ _ _⟩
  · obtain ⟨i0, hi0, hz0, hz1, hz2⟩ := info_partsE infoFd
    have HI := Lib.hid hi0
    have HZ := Lib.hid hz0
    have HZ1 := Lib.hid hz1
    have HZ2 := Lib.hid hz2
    have H3 := Lib.hid (h.more hB)
    have HN := Lib.hid hn
    clear hi0 hz0 hz1 hz2 h hn
    have hnil := fun w => Lib.run_eql_slice_nil (P := Try.prog) w 23 66 (some a) n c 0 0 Try.underlying23
    have OE := Lib.hid (OwnE.empty (E := FdE) w w.heap.size 66 w.heap.size rfl (Nat.le_refl _))
    have BE := Lib.hid ((Below.refl w.heap.size w).alloc (Nat.le_refl _) (.cells #[] 66))
    go_enter Try.func33, Try.ntmps33
    go_wp2_with (first
      | (at_builtin
         refine wpList_appE _ rfl (.tmp 5) (.tmp 6) _ rfl w.heap.size 66 i0 (.agg #[.string ⟨#[]⟩, .string ⟨#[]⟩]) 32 Try.underlying23 HI.out HZ.out HZ1.out HZ2.out rfl (by decide) (.slice (some ⟨w.heap.size, 0, none⟩) 0 0) [] rfl OE.out w.heap.size (some a) n c l rfl (H3.out.below BE.out) HN.out (by simp only [List.length_nil]; omega) BE.out.size ?_
         intro v1 u1 own1 g1
         have O1 := Lib.hid own1
         have B1 := Lib.hid (BE.out.grown g1 BE.out.size (fun k hk => (OwnE.lt OE.out k hk).1))
         clear own1 g1))
    go_ret
    exact ⟨B1.out, _, rfl, by simpa using O1.out⟩
end Go.Proofs.Ytpfahdogedchpaa
/- The project's tables: fit, Check. -/
namespace Go.Proofs.Ytpfahdogedchpaa
set_option linter.unusedVariables false
open Go.RowKit P

/-- what 'fit' says -/
def fitB (l : List Fld) (room : Int) : Prop := (wtL l : Int) ≤ room ∧ ∀ x ∈ l, okFd x
instance (l : List Fld) (room : Int) : Decidable (fitB l room) := by unfold fitB; infer_instance
theorem fit_no {l : List Fld} {room : Int} {i : Nat} (h : i < l.length) (k : ¬ okFd (l.getD i fd0) ∨ room < (wtL (l.take (i + 1)) : Int)) : decide (fitB l room) = false := by
  refine decide_eq_false fun ⟨h1, h2⟩ => ?_
  rcases k with k | k
  · refine k (h2 _ ?_)
    rw [List.getD_eq_getElem?_getD, List.getElem?_eq_getElem h]
    exact List.getElem_mem h
  · have := wtL_app (l.take (i + 1)) (l.drop (i + 1))
    rw [List.take_append_drop] at this
    omega
set_option maxHeartbeats 2000000 in
theorem fit_any (A : Option Addr) (n c : Nat) (l : List Fld) (room : Int) (W : World) (h : RowE FdE W W.heap.size A l) (hn : l.length = n) (hm : n ≤ 8796093022208) (hwf : ∀ x ∈ l, FdWf x) (hroom : 0 ≤ room ∧ room ≤ 160) :
    Calls Try.prog 61 #[.slice A n c, .int .i64 room] W fun e w' => e = .returned (.bool (decide (fitB l room))) ∧ Below W.heap.size W w' := by
  have HR := Lib.hid h
  have HN := Lib.hid hn
  have HW := Lib.hid hwf
  have HST := Lib.hid (fun i (h : i < l.length) => okPre_step h)
  clear h hn hwf
  go_enter Try.func61, Try.ntmps61
  go_wp2_with fail
  go_loopg [1, 9] n (fun gq rv iv wr => ∃ (i : Nat) (r : Int), rv = .int .i64 r ∧ iv = .int .i64 i ∧ i + gq = n ∧ (0 ≤ r ∧ r ≤ 160) ∧ Hid (r = room - (wtL (l.take i) : Int)) ∧ Hid (okPre l i) ∧ Hid (Below W.heap.size W wr))
  case atStart => exact ⟨0, room, rfl, rfl, by omega, hroom, Lib.hid (by rw [List.take_zero, wtL_nil]; simp), Lib.hid (fun x hx => by simp at hx), Lib.hid (Below.refl _ _)⟩
  case round =>
    obtain ⟨i, r, rfl, rfl, hig, hrb, HA, HP, BK⟩ := hrel
    by_cases hlt : i < n
    · have hil : i < l.length := by rw [HN.out]; exact hlt
      obtain ⟨b, off, hA, hb, x0, x1⟩ := fd_cells HR.out hil
      have hmem : l.getD i fd0 ∈ l := by rw [List.getD_eq_getElem?_getD, List.getElem?_eq_getElem hil]; exact List.getElem_mem hil
      have HX := Lib.hid (HW.out _ hmem)
      have HSI := Lib.hid (wtL_take hil)
      have HNO := Lib.hid (fun k => fit_no (l := l) (room := room) hil k)
      have HOK := Lib.hid (fun k => (HST.out i hil).2 ⟨HP.out, k⟩)
      obtain ⟨x, hx⟩ : ∃ x, l.getD i fd0 = x := ⟨_, rfl⟩
      rw [hx] at x0 x1 HX HSI HNO HOK
      have hsz : szF x ≤ 281474976710688 := by have := HX.out.2.2; unfold szF; omega
      have HT := Lib.hid (fun w => tsize_any x w HX.out)
      have HM := Lib.hid (fun w => mayBe_any x HX.out w)
      unfold fdV at HT HM
      subst hA
      have y0 := (BK.out.cell (p := ⟨b, off + i * 2, none⟩) hb).trans x0
      have y1 := (BK.out.cell (p := ⟨b, off + i * 2 + 1, none⟩) hb).trans x1
      obtain ⟨S1, hS1⟩ : ∃ S, strOfNums x.name = S := ⟨_, rfl⟩
      obtain ⟨S2, hS2⟩ : ∃ S, strOfNums x.val = S := ⟨_, rfl⟩
      rw [hS1] at y0 HT HM
      rw [hS2] at y1 HT HM
      obtain ⟨s, hs⟩ : ∃ s, szF x = s := ⟨_, rfl⟩
      rw [hs] at HT hsz HSI
      have F0 := Lib.hid (heap_alloc_new wr (.cells #[.string S1, .string S2] 66))
      have BA := Lib.hid (BK.out.alloc BK.out.size (.cells #[.string S1, .string S2] 66))
      have hnk : (i : Int) < (n : Int) := by omega
      have hrs : IntKind.i64.wrap (r - (s : Int)) = r - (s : Int) := by rw [IntKind.wrap_i64]; omega
      clear x0 x1 hx hS1 hS2 hmem hil hb hs
      go_upto_region 4 with fail
      obtain ⟨V, hV⟩ : ∃ V, wr.alloc (.cells #[.string S1, .string S2] 66) = V := ⟨_, rfl⟩
      rw [hV] at F0 BA ⊢
      clear hV y0 y1
      obtain ⟨y0, y1⟩ := bk2F F0.out
      go_wp2_with fail
      refine (HT.out _).mono ?_
      rintro e w1 ⟨rfl, b1⟩
      have B1 := Lib.hid (BA.out.trans (b1.mono BA.out.size))
      have F1 := Lib.hid ((b1.block _ (lt_of_block F0.out)).trans F0.out)
      clear b1 y0 y1
      obtain ⟨y0, y1⟩ := bk2F F1.out
      by_cases ok : okFd x
      · have HOK1 := Lib.hid (HOK.out ok)
        rw [decide_eq_true ok] at HM
        by_cases hneg : r - (s : Int) < 0
        · have HF := Lib.hid (HNO.out (.inr (by have := HA.out; have := HSI.out; omega)))
          clear HNO HOK ok
          go_wp2_with fail
          refine (HM.out _).mono ?_
          rintro e w2 ⟨rfl, b2⟩
          have B2 := Lib.hid (B1.out.trans (b2.mono B1.out.size))
          clear b2
          go_wp2_with fail
          go_ret
          exact ⟨by rw [HF.out]; rfl, B2.out⟩
        · have HA1 := Lib.hid (show r - (s : Int) = room - (wtL (l.take (i + 1)) : Int) by have := HA.out; have := HSI.out; omega)
          clear HNO HOK ok
          go_wp2_with fail
          refine (HM.out _).mono ?_
          rintro e w2 ⟨rfl, b2⟩
          have B2 := Lib.hid (B1.out.trans (b2.mono B1.out.size))
          clear b2
          go_wp2_with fail
          go_roundg (gk - 1)
          case measure => omega
          case rel => exact ⟨i + 1, r - (s : Int), by first | rfl | go_num, by first | rfl | go_num, by omega, by omega, HA1, HOK1, B2⟩
      · have HF := Lib.hid (HNO.out (.inl ok))
        rw [decide_eq_false ok] at HM
        clear HNO HOK ok
        go_wp2_with fail
        refine (HM.out _).mono ?_
        rintro e w2 ⟨rfl, b2⟩
        have B2 := Lib.hid (B1.out.trans (b2.mono B1.out.size))
        clear b2
        go_wp2_with fail
        go_ret
        exact ⟨by rw [HF.out]; rfl, B2.out⟩
    · obtain rfl : i = n := by omega
      have HF := Lib.hid (show decide (fitB l room) = true from decide_eq_true ⟨by have h1 := HA.out; rw [List.take_of_length_le (by rw [HN.out]; omega)] at h1; omega, by have h1 := HP.out; unfold okPre at h1; rw [List.take_of_length_le (by rw [HN.out]; omega)] at h1; exact h1⟩)
      go_wp2_with fail
      go_ret
      exact ⟨by rw [HF.out]; rfl, BK.out⟩
/-- what Check asks, in its order -/
theorem faultTb_chk (t : Tb) : faultTb t = if (0 ≤ t.room ∧ t.room ≤ 160) ∧ fitB t.rows t.room ∧ (t.rows.length : Int) ≤ t.put ∧ t.put ≤ 4611686018427387903 then 0 else 9 := by
  unfold faultTb
  by_cases h : okTb t
  · rw [if_pos h]
    obtain ⟨k1, k2, k3, k4, k5⟩ := h
    rw [if_pos ⟨k1, ⟨k4, k5⟩, k3, k2.2⟩]
  · rw [if_neg h, if_neg]
    rintro ⟨k1, ⟨k2, k3⟩, k4, k5⟩
    exact h ⟨k1, ⟨by omega, k5⟩, k4, k2, k3⟩
set_option maxHeartbeats 1000000 in
theorem tchk_any : TbChk Try.prog 50 := fun v t W hv hw => by
  obtain ⟨sv, rfl, hs⟩ := hv.ex
  obtain ⟨A, c, rfl, hlc, hcm, hr⟩ := hs.ex
  have hl := hw.len
  have HF := Lib.hid (faultTb_chk t)
  have HFT := Lib.hid (fun (hb : 0 ≤ t.room ∧ t.room ≤ 160) w (hbl : Below W.heap.size W w) => fit_any A t.rows.length c t.rows t.room w (hr.on hbl) rfl hl hw.rows hb)
  obtain ⟨R, hR⟩ : ∃ R, faultTb t = R := ⟨_, rfl⟩
  rw [hR] at HF ⊢
  have rb := hw.room
  have pb := hw.put
  obtain ⟨room, put, rows⟩ := t
  simp only at *
  obtain ⟨n, hn⟩ : ∃ n, rows.length = n := ⟨_, rfl⟩
  rw [hn] at HF HFT hl hlc ⊢
  have B0 := Lib.hid ((Below.refl W.heap.size W).alloc (Nat.le_refl _) (.cells #[.int .i64 room, .int .i64 put, .slice A n c] 27))
  have F0 := Lib.hid (heap_alloc_new W (.cells #[.int .i64 room, .int .i64 put, .slice A n c] 27))
  clear hv hs hw hr hR hn
  by_cases h1 : 0 ≤ room ∧ room ≤ 160
  · have HR1 := Lib.hid (fun w => (isRoom_any room w).mono fun e w' h => by rw [decide_eq_true h1] at h; exact h)
    have HFT2 := Lib.hid (HFT.out h1)
    by_cases h2 : fitB rows room
    · rw [decide_eq_true h2] at HFT2
      by_cases h3 : put < (n : Int)
      · have HE := Lib.hid (show R = 9 by rw [HF.out, if_neg (fun k => by have := k.2.2.1; omega)])
        clear h2 HFT HF
        go_enter Try.func50, Try.ntmps50
        go_wp2_with (first
          | (go_at_call 60; refine (HR1.out _).mono ?_; rintro e w1 ⟨rfl, rfl⟩)
          | (go_at_call 61; refine (HFT2.out _ B0.out).mono ?_; rintro e w1 ⟨rfl, b1⟩; have B1 := Lib.hid (B0.out.trans (b1.mono B0.out.size)); have F1 := Lib.hid ((b1.block _ (lt_of_block F0.out)).trans F0.out); clear b1; obtain ⟨q0, q1, q2⟩ := bk3T F1.out))
        go_ret
        exact ⟨by rw [HE.out]; rfl, B1.out⟩
      · by_cases h4 : 4611686018427387903 < put
        · have HE := Lib.hid (show R = 9 by rw [HF.out, if_neg (fun k => by have := k.2.2.2; omega)])
          clear h2 HFT HF
          go_enter Try.func50, Try.ntmps50
          go_wp2_with (first
            | (go_at_call 60; refine (HR1.out _).mono ?_; rintro e w1 ⟨rfl, rfl⟩)
            | (go_at_call 61; refine (HFT2.out _ B0.out).mono ?_; rintro e w1 ⟨rfl, b1⟩; have B1 := Lib.hid (B0.out.trans (b1.mono B0.out.size)); have F1 := Lib.hid ((b1.block _ (lt_of_block F0.out)).trans F0.out); clear b1; obtain ⟨q0, q1, q2⟩ := bk3T F1.out))
          go_ret
          exact ⟨by rw [HE.out]; rfl, B1.out⟩
        · have HE := Lib.hid (show R = 0 by rw [HF.out, if_pos ⟨h1, h2, by omega, by omega⟩])
          clear h2 HFT HF
          go_enter Try.func50, Try.ntmps50
          go_wp2_with (first
            | (go_at_call 60; refine (HR1.out _).mono ?_; rintro e w1 ⟨rfl, rfl⟩)
            | (go_at_call 61; refine (HFT2.out _ B0.out).mono ?_; rintro e w1 ⟨rfl, b1⟩; have B1 := Lib.hid (B0.out.trans (b1.mono B0.out.size)); have F1 := Lib.hid ((b1.block _ (lt_of_block F0.out)).trans F0.out); clear b1; obtain ⟨q0, q1, q2⟩ := bk3T F1.out))
          go_ret
          exact ⟨by rw [HE.out]; rfl, B1.out⟩
    · rw [decide_eq_false h2] at HFT2
      have HE := Lib.hid (show R = 9 by rw [HF.out, if_neg (fun k => h2 k.2.1)])
      clear h2 HFT HF
      go_enter Try.func50, Try.ntmps50
      go_wp2_with (first
        | (go_at_call 60; refine (HR1.out _).mono ?_; rintro e w1 ⟨rfl, rfl⟩)
        | (go_at_call 61; refine (HFT2.out _ B0.out).mono ?_; rintro e w1 ⟨rfl, b1⟩; have B1 := Lib.hid (B0.out.trans (b1.mono B0.out.size)); clear b1))
      go_ret
      exact ⟨by rw [HE.out]; rfl, B1.out⟩
  · have HR1 := Lib.hid (fun w => (isRoom_any room w).mono fun e w' h => by rw [decide_eq_false h1] at h; exact h)
    have HE := Lib.hid (show R = 9 by rw [HF.out, if_neg (fun k => h1 k.1)])
    clear h1 HFT HF
    go_enter Try.func50, Try.ntmps50
    go_wp2_with (first
      | (go_at_call 60; refine (HR1.out _).mono ?_; rintro e w1 ⟨rfl, rfl⟩))
    go_ret
    exact ⟨by rw [HE.out]; rfl, B0.out⟩
end Go.Proofs.Ytpfahdogedchpaa
