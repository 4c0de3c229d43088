/- Several texts in one. -/
import Derived.Test.YtpfahdogedchpaaGrpA
import Derived.Test.YtpfahdogedchpaaRows
import Derived.WalkLawsBesides
import Derived.WalkSpells
import Derived.Outline
import Derived.Test.YtpfahdogedchpaaGrpY
import Derived.Test.YtpfahdogedchpaaGrpJ
import Derived.Test.YtpfahdogedchpaaGrpW
import Derived.Test.YtpfahdogedchpaaFdP2
import Derived.Test.YtpfahdogedchpaaGrpB
import Derived.Test.YtpfahdogedchpaaGrpC
import Derived.Test.YtpfahdogedchpaaGrpM
import Derived.Test.YtpfahdogedchpaaGrpT
/- varint.Decode's contract. -/
namespace Go.Proofs.Ytpfahdogedchpaa
set_option linter.unusedVariables false
open Go.RowKit P

theorem sizeBy_any (z : Int) (h0 : 0 ≤ z) (h1 : z ≤ 255) (w : World) :
    Calls Try.prog 42 #[.int .u8 z] w fun e w' => e = .returned (.int .i64 (kOf z)) ∧ w = w' := by
  have c : z / 64 = 0 ∨ z / 64 = 1 ∨ z / 64 = 2 ∨ z / 64 = 3 := by omega
  unfold kOf
  rcases c with c | c | c | c
  all_goals
    go_enter Try.func42, Try.ntmps42
    go_wp2
    go_ret
    exact ⟨rfl, rfl⟩

theorem decode_nil (A : Option Addr) (cap : Nat) (w : World) :
    Calls Try.prog 34 #[.slice A 0 cap] w fun e w' => e = .returned (.tuple #[.int .i64 0, .int .i64 0, .int .i64 4]) ∧ w = w' := by
  go_enter Try.func34, Try.ntmps34
  go_wp2
  go_ret3
  exact ⟨rfl, rfl⟩

theorem decode_short (b off n cap : Nat) (z : Int) (w : World) (hc : w.cell? ⟨b, off, none⟩ = some (.int .u8 z)) (h0 : 0 ≤ z) (h1 : z ≤ 255) (hn : 0 < n) (hk : (n : Int) < kOf z) (hl : n ≤ cap) (hm : cap ≤ maxLen) :
    Calls Try.prog 34 #[.slice (some ⟨b, off, none⟩) n cap] w fun e w' => e = .returned (.tuple #[.int .i64 0, .int .i64 0, .int .i64 4]) ∧ w = w' := by
  unfold maxLen at hm
  have hn' : ((n : Int) == 0) = false := by simp; omega
  go_enter Try.func34, Try.ntmps34
  go_wp2_with (go_at_call 42; refine (sizeBy_any _ h0 h1 _).mono ?_; rintro e w' ⟨rfl, rfl⟩)
  go_ret3
  exact ⟨rfl, rfl⟩

theorem decode_long (b off n cap : Nat) (zs : List Int) (w : World) (hb : Byt zs) (hc : ∀ j, j < zs.length → w.cell? ⟨b, off + j, none⟩ = some (.int .u8 (zs.getD j 0))) (hzn : zs.length = n) (hn : 0 < n) (hk : kOf (zs.getD 0 0) ≤ (n : Int)) (hl : n ≤ cap) (hm : cap ≤ maxLen) :
    Calls Try.prog 34 #[.slice (some ⟨b, off, none⟩) n cap] w fun e w' => e = .returned (.tuple #[.int .i64 (beFrom (zs.getD 0 0 % 64) ((zs.drop 1).take ((kOf (zs.getD 0 0)).toNat - 1))), .int .i64 (kOf (zs.getD 0 0)), .int .i64 0]) ∧ w = w' := by
  unfold maxLen at hm
  have hc0 := hc 0 (by omega)
  obtain ⟨h0, h1⟩ := hb 0
  have hbd := beFrom_bd (zs.getD 0 0 % 64) (zs.drop 1) (hb.drop 1) (by omega)
  have hn' : ((n : Int) == 0) = false := by simp; omega
  have HC := Lib.hid hc
  have HB := Lib.hid hb
  have HBD := Lib.hid hbd
  have HZ := Lib.hid hzn
  clear hc hb hbd hzn
  generalize hz : zs.getD 0 0 = z at *
  have HZ0 := Lib.hid hz
  clear hz
  have kb := kOf_bd z
  obtain ⟨m, hmK⟩ : ∃ m : Nat, kOf z = m := ⟨(kOf z).toNat, by omega⟩
  rw [hmK] at kb hk ⊢
  have HK := Lib.hid hmK
  clear hmK
  simp only [Nat.add_zero, Int.toNat_natCast] at hc0 ⊢
  by_cases hcap : cap = 1
  · obtain rfl : n = 1 := by omega
    obtain rfl : m = 1 := by omega
    subst hcap
    go_enter Try.func34, Try.ntmps34
    go_wp2_with (go_at_call 42; refine (sizeBy_any _ h0 h1 _).mono ?_; rintro e w' ⟨rfl, rfl⟩; simp only [HK.out])
    go_rounds 1
    all_goals (go_ret3; exact ⟨rfl, rfl⟩)
  · go_enter Try.func34, Try.ntmps34
    go_wp2_with (go_at_call 42; refine (sizeBy_any _ h0 h1 _).mono ?_; rintro e w' ⟨rfl, rfl⟩; simp only [HK.out])
    go_loop [2, 32] (fun acc i => ∃ k : Nat, k ≤ m - 1 ∧ i = .int .i64 k ∧ acc = .int .i64 (beFrom (z % 64) ((zs.drop 1).take k))) (fun _ i => (m - 1) - (intOf i).toNat)
    case atStart => exact ⟨0, Nat.zero_le _, rfl, rfl⟩
    case round =>
      obtain ⟨k, hk', rfl, rfl⟩ := hrel
      by_cases hlt : k < m - 1
      · have st := beFrom_step (z % 64) (zs.drop 1) k (by rw [List.length_drop, HZ.out]; omega)
        have bd := HBD.out k (by rw [List.length_drop, HZ.out]; omega)
        have hcell := HC.out (1 + k) (by rw [HZ.out]; omega)
        have hby := HB.out (1 + k)
        rw [← Nat.add_assoc] at hcell
        rw [getD_drop] at st
        generalize zs.getD (1 + k) 0 = x at st hcell hby
        generalize beFrom (z % 64) ((zs.drop 1).take k) = y at st bd
        have hy := acc_bd _ _ k (by omega) (by omega) (by omega) bd.1 bd.2
        have or' := or_i64 y x hy.1 hy.2 hby.1 hby.2
        have ST := Lib.hid st
        clear st bd
        go_wp2
        go_round
        case rel => exact ⟨k + 1, by omega, by go_num, by rw [ST.out]⟩
        case measure => simp [intOf]; omega
      · obtain rfl : k = m - 1 := by omega
        go_wp2
        go_ret3
        exact ⟨rfl, rfl⟩

theorem decode_no (A : Option Addr) (n cap B : Nat) (zs : List Int) (w : World) (h : BRow w B A zs) (hzn : zs.length = n) (hl : n ≤ cap) (hm : cap ≤ maxLen) (hno : ¬ decOk zs) :
    Calls Try.prog 34 #[.slice A n cap] w fun e w' => e = .returned (.tuple #[.int .i64 0, .int .i64 0, .int .i64 4]) ∧ w = w' := by
  rcases Nat.eq_zero_or_pos n with h0 | h0
  · subst h0; exact decode_nil A cap w
  · obtain ⟨b, off, rfl, _, hc⟩ := h.2 (by omega)
    unfold decOk at hno
    exact decode_short b off n cap _ w (hc 0 (by omega)) (h.1 0).1 (h.1 0).2 h0 (by omega) hl hm

theorem decode_yes (A : Option Addr) (n cap B : Nat) (zs : List Int) (w : World) (h : BRow w B A zs) (hzn : zs.length = n) (hl : n ≤ cap) (hm : cap ≤ maxLen) (hok : decOk zs) :
    Calls Try.prog 34 #[.slice A n cap] w fun e w' => e = .returned (.tuple #[.int .i64 (decV zs), .int .i64 (kOf (zs.getD 0 0)), .int .i64 0]) ∧ w = w' := by
  obtain ⟨b, off, rfl, _, hc⟩ := h.2 hok.1
  exact decode_long b off n cap zs w h.1 hc hzn (by have := hok.1; omega) (by have := hok.2; omega) hl hm

end Go.Proofs.Ytpfahdogedchpaa
/- What Decode says of fields, in plain numbers. Nothing of the program's. -/
namespace Go.Proofs.Ytpfahdogedchpaa.P
set_option linter.unusedVariables false
theorem linesR_wf2 {t : Tb} (hw : TbWf t) (need : Int) : ∀ (n : Nat) (b : List Int) (out : List Fld), (∀ x ∈ out, FdWf x) → Byt b → b.length ≤ 140737488355328 → ∀ x ∈ (linesR t need n b out).1, FdWf x
  | 0, b, out, h, hb, hl => by
    unfold linesR
    split
    · exact h
    · intro x hx; cases hx
  | n + 1, b, out, h, hb, hl => by
    unfold linesR
    split
    · exact h
    · split
      · intro x hx; cases hx
      · split
        · intro x hx; cases hx
        · refine linesR_wf2 hw need n _ _ (fun x hx => ?_) (hb.drop _) (by rw [List.length_drop]; omega)
          rcases List.mem_append.1 hx with q | q
          · exact h x q
          · rw [List.mem_singleton.1 q]; exact lineR_wf hw need hb hl
theorem decFl_facts2 {t : Tb} {b : List Int} (hw : TbWf t) (hb : Byt b) (hl : b.length ≤ 140737488355328) : (∀ x ∈ (decFl t b).1, FdWf x) ∧ ((decFl t b).2 = 0 → faultFl (decFl t b).1 = 0) ∧ ((decFl t b).2 ≠ 0 → (decFl t b).1 = []) := by
  have hnil : ∀ x ∈ ([] : List Fld), FdWf x := fun x hx => by cases hx
  unfold decFl
  split
  · rename_i c; exact ⟨hnil, fun h => absurd h c, fun _ => rfl⟩
  · split
    · rename_i c; exact ⟨hnil, fun h => absurd h c, fun _ => rfl⟩
    · split
      · exact ⟨hnil, fun h => absurd h (by decide), fun _ => rfl⟩
      · split
        · rename_i c; exact ⟨hnil, fun h => absurd h c, fun _ => rfl⟩
        · split
          · rename_i c; exact ⟨hnil, fun h => absurd h c, fun _ => rfl⟩
          · rename_i c1 c2
            exact ⟨linesR_wf2 hw _ 9 _ _ hnil (hb.drop _) (by rw [List.length_drop]; omega), fun _ => Decidable.byContradiction c2, fun h => absurd h c1⟩
end Go.Proofs.Ytpfahdogedchpaa.P
/- The project's fields.Decode: what it answers lies in new memory. -/
namespace Go.Proofs.Ytpfahdogedchpaa
set_option linter.unusedVariables false
open Go.RowKit P
def FlResN (r : List Fld × Int) (w : World) (e : Ending) (w' : World) : Prop := Below w.heap.size w w' ∧ ∃ v, e = .returned (.tuple #[v, .int .i64 r.2]) ∧ OwnE FdE w' w.heap.size 66 v r.1
def FdDecN (P : Program) (f : FuncId) : Prop := ∀ (v s : Value) (t : Tb) (b : List Int) (w : World), TbVal w w.heap.size v t → TbWf t → BSl w w.heap.size s b → b.length ≤ 140737488355328 → Calls P f #[v, s] w (FlResN (decFl t b) w)
set_option maxRecDepth 100000 in
set_option maxHeartbeats 2000000 in
theorem fddecN_any : FdDecN Try.prog 43 := fun v s t b W hv hw hs hl => by
  have HFT := Lib.hid (fun w (hb : Below W.heap.size W w) => tchk_any v t w (hv.on hb) hw)
  have HPO := Lib.hid (fun w (hb : Below W.heap.size W w) => pxDec_any s b 8 w (bsl_onF hs hb) hl (by decide) (by decide))
  have HLN := Lib.hid (fun need s' bs w (hb : Below W.heap.size W w) (h1 : BSl W W.heap.size s' bs) h2 h3 h4 => fdread_any v t need s' bs w (hv.on hb) hw (bsl_onF h1 hb) h2 h3 h4)
  have HLW := Lib.hid (fun need bs h1 h2 h3 => readR_wf hw need (b := bs) h1 h2 h3)
  have hD : decFl t b = if faultTb t ≠ 0 then ([], faultTb t) else if (pxR b 8).2.2 ≠ 0 then ([], (pxR b 8).2.2) else if t.put < (pxR b 8).1 then ([], 14)
    else if (linesR t (pxR b 8).1 9 (b.drop (pxR b 8).2.1.toNat) []).2 ≠ 0 then ([], (linesR t (pxR b 8).1 9 (b.drop (pxR b 8).2.1.toNat) []).2)
    else if faultFl (linesR t (pxR b 8).1 9 (b.drop (pxR b 8).2.1.toNat) []).1 ≠ 0 then ([], faultFl (linesR t (pxR b 8).1 9 (b.drop (pxR b 8).2.1.toNat) []).1) else linesR t (pxR b 8).1 9 (b.drop (pxR b 8).2.1.toNat) [] := rfl
  rw [hD]
  obtain ⟨A0, c0, rfl, hc0, hm0, hn0, hr0⟩ := hs.ex
  have HPI := Lib.hid (fun h => pxR_in (b := b) (w := 8) (fun j => (hr0.1 j).1) h)
  have HSD := Lib.hid (fun K hK => bsl_drop hs K hK)
  have HBL := Lib.hid hl
  obtain ⟨N, hN⟩ : ∃ N, b.length = N := ⟨_, rfl⟩
  rw [hN] at HPO HPI HSD HBL hc0 ⊢
  obtain ⟨At, ct, rfl⟩ := tb_slicesR hv
  have pb := hw.put
  have B0 := Lib.hid ((Below.refl W.heap.size W).alloc (Nat.le_refl _) (.cells #[.int .i64 t.room, .int .i64 t.put, .slice At t.rows.length ct] 27))
  have F0 := Lib.hid (heap_alloc_new W (.cells #[.int .i64 t.room, .int .i64 t.put, .slice At t.rows.length ct] 27))
  obtain ⟨x, hx⟩ : ∃ x, faultTb t = x := ⟨_, rfl⟩
  rw [hx] at HFT ⊢
  have HOKT := Lib.hid (fun h : x = 0 => (faultTb_iff t).1 (hx.trans h))
  obtain ⟨⟨need, u, y⟩, hr⟩ : ∃ r, pxR b 8 = r := ⟨_, rfl⟩
  rw [hr] at HPO HPI ⊢
  unfold pxRV at HPO
  dsimp only at HPO HPI ⊢
  unfold FlResN
  obtain ⟨room, put, rows⟩ := t
  simp only at pb HFT HLN HLW B0 F0 HOKT ⊢
  obtain ⟨Nt, hNt⟩ : ∃ n, rows.length = n := ⟨_, rfl⟩
  rw [hNt] at HFT HLN B0 F0 ⊢
  clear hx hr hv hw hl hD hr0 hs hm0 hn0
  by_cases h0 : x = 0
  · subst h0
    rw [if_neg (fun k => k rfl)]
    by_cases hy : y = 0
    · subst hy
      rw [if_neg (fun k => k rfl)]
      obtain ⟨n0, n1, u0, u1, u2⟩ := HPI.out rfl
      by_cases hp : put < need
      · rw [if_pos hp]
        have e1 : decide (put < need) = true := by simp [hp]
        clear hNt hN
        go_enter Try.func43, Try.ntmps43
        go_wp2_with (first
          | (go_at_call 50; refine (HFT.out _ B0.out).mono ?_; rintro e w1 ⟨rfl, b1⟩; have B1 := Lib.hid (B0.out.trans (b1.mono B0.out.size)); have F1 := Lib.hid ((b1.block _ (lt_of_block F0.out)).trans F0.out); clear b1; obtain ⟨q0, q1, q2⟩ := bk3T F1.out)
          | (go_at_call 51; refine (HPO.out _ B1.out).mono ?_; rintro e w2 ⟨rfl, rfl⟩))
        go_ret2
        exact ⟨B1.out, _, rfl, OwnE.nil _ _ _⟩
      · rw [if_neg hp]
        have e1 : decide (put < need) = false := by simp; omega
        obtain ⟨U, rfl⟩ : ∃ U : Nat, u = U := ⟨u.toNat, by omega⟩
        rw [Int.toNat_natCast]
        have hUN : U ≤ N := by omega
        have hUI0 : (0 : Int) ≤ (U : Int) := by omega
        have hUI : (U : Int) ≤ (N : Int) := by omega
        have hUc : (U : Int) ≤ (c0 : Int) := by omega
        have SD := HSD.out U hUN
        obtain ⟨SA, hSA⟩ : ∃ SA, (if c0 = U then A0 else Option.map (fun x => x.add U) A0) = SA := ⟨_, rfl⟩
        rw [hSA] at SD
        have SDH := Lib.hid SD
        have HDL := Lib.hid (show (b.drop U).length = N - U by rw [List.length_drop, hN])
        obtain ⟨T, hT⟩ : ∃ T : Tb, (⟨room, put, rows⟩ : Tb) = T := ⟨_, rfl⟩
        rw [hT] at HLN HLW ⊢
        obtain ⟨R, hR⟩ : ∃ R, linesR T need 9 (b.drop U) [] = R := ⟨_, rfl⟩
        rw [hR]
        have HRR := Lib.hid hR
        obtain ⟨RS, hRS⟩ : ∃ RS : List Fld × Int, (if R.2 ≠ 0 then ([], R.2) else if faultFl R.1 ≠ 0 then ([], faultFl R.1) else R) = RS := ⟨_, rfl⟩
        rw [hRS]
        have HRS := Lib.hid hRS
        obtain ⟨i0, hi0, hz0, hz1, hz2⟩ := info_partsE infoFd
        have HI := Lib.hid hi0
        have HZ := Lib.hid hz0
        have HZ1 := Lib.hid hz1
        have HZ2 := Lib.hid hz2
        have hn99 := Lib.hid (show 0 ≤ need ∧ need ≤ 4611686018427387904 by omega)
        clear hR hRS hNt hT hp hi0 hz0 hz1 hz2 HOKT SD HPI HSD hN n0 n1 u0 u1 u2
        go_enter Try.func43, Try.ntmps43
        go_wp2_with (first
          | (go_at_call 50; refine (HFT.out _ B0.out).mono ?_; rintro e w1 ⟨rfl, b1⟩; have B1 := Lib.hid (B0.out.trans (b1.mono B0.out.size)); have F1 := Lib.hid ((b1.block _ (lt_of_block F0.out)).trans F0.out); clear b1; obtain ⟨q0, q1, q2⟩ := bk3T F1.out)
          | (go_at_call 51; refine (HPO.out _ B1.out).mono ?_; rintro e w2 ⟨rfl, rfl⟩))
        clear q0 q1 q2 hSA hUN hUI0 hUI hUc e1 pb hc0
        go_loopg [1, 8, 10] 9 (fun gq sv uv ov wr => ∃ (bs : List Int) (out : List Fld) (Ab A1 : Option Addr) (nb cb n c : Nat) (u : Int), sv = .slice Ab nb cb ∧ uv = .int .i64 u ∧ ov = .slice A1 n c ∧ n + gq = 9 ∧ n ≤ 8 ∧ Hid (out.length = n) ∧ Hid (bs.length = nb) ∧ Hid (nb ≤ N) ∧ Hid (BSl W W.heap.size (.slice Ab nb cb) bs) ∧ Hid (linesR T need gq bs out = R) ∧ Hid (∀ x ∈ out, FdWf x) ∧ Hid (OwnE FdE wr (W.heap.size + 1) 66 (.slice A1 n c) out) ∧ Hid (TKF W (.cells #[.int .i64 room, .int .i64 put, .slice At Nt ct] 27 (0, 0)) wr))
        case atStart => exact ⟨b.drop U, [], SA, none, N - U, c0 - U, 0, 0, _, rfl, rfl, rfl, rfl, by omega, Lib.hid rfl, HDL, Lib.hid (Nat.sub_le _ _), SDH, HRR, Lib.hid (fun x hx => by cases hx), Lib.hid (OwnE.nil _ _ _), Lib.hid ⟨F1.out, B1.out⟩⟩
        case round =>
          obtain ⟨bs, out, Ab, A1, nb, cb, n, c, u, rfl, rfl, rfl, hng, hn8, HNL, HNB, HNN, BS, HLR, HOW, OB, TK⟩ := hrel
          by_cases hnb : nb = 0
          · subst hnb
            obtain rfl : bs = [] := List.eq_nil_of_length_eq_zero HNB.out
            have hRo : R = (out, 0) := by
              have := HLR.out
              cases gk with
              | zero => rw [linesR, if_pos rfl] at this; exact this.symm
              | succ g => rw [linesR, if_pos rfl] at this; exact this.symm
            obtain ⟨A2, c2, h8, l8, m8, r8⟩ := OB.out.slice
            injection h8 with a1 a2 a3
            have HFF := Lib.hid (fun w (hb : Below wr.heap.size wr w) => fdchk_any A1 n c out w (a1 ▸ r8.on hb) HNL.out HOW.out (by omega))
            have HFS := Lib.hid (fun w (hb : Below wr.heap.size wr w) => ((OwnE.later OB.out hb).low (Nat.le_succ _) : OwnE FdE w W.heap.size 66 (.slice A1 n c) out))
            obtain ⟨ff, hff⟩ : ∃ e, faultFl out = e := ⟨_, rfl⟩
            rw [hff] at HFF
            have HRQ := Lib.hid (show RS = if ff ≠ 0 then ([], ff) else (out, 0) by rw [← HRS.out, hRo, if_neg (fun k => k rfl), hff])
            have BK := Lib.hid TK.out.b
            clear hRo a1 a2 a3 l8 m8 r8 hff HRS HRR
            by_cases hf : ff = 0
            · subst hf
              obtain rfl : RS = (out, 0) := by rw [HRQ.out, if_neg (fun k => k rfl)]
              clear HRQ
              go_wp2_with fail
              refine (HFF.out _ (Below.refl _ _)).mono ?_
              rintro e w3 ⟨rfl, b3⟩
              have B3 := Lib.hid (BK.out.trans (b3.mono BK.out.size))
              have S3 := Lib.hid (HFS.out w3 b3)
              clear b3
              go_wp2_with fail
              go_ret2
              exact ⟨B3.out, _, rfl, S3.out⟩
            · obtain rfl : RS = ([], ff) := by rw [HRQ.out, if_pos hf]
              have g : (ff != 0) = true := by simp [hf]
              clear hf HRQ
              go_wp2_with fail
              refine (HFF.out _ (Below.refl _ _)).mono ?_
              rintro e w3 ⟨rfl, b3⟩
              have B3 := Lib.hid (BK.out.trans (b3.mono BK.out.size))
              clear b3
              go_wp2_with fail
              go_ret2
              exact ⟨B3.out, _, rfl, OwnE.nil _ _ _⟩
          · have hnbI : (0 : Int) < (nb : Int) := by omega
            have HNE := Lib.hid (show bs ≠ [] by intro e; have := HNB.out; rw [e] at this; exact hnb this.symm)
            by_cases h8 : n = 8
            · have hRo : R = ([], 1) := by
                have := HLR.out
                cases gk with
                | zero => rw [linesR, if_neg HNE.out] at this; exact this.symm
                | succ g => rw [linesR, if_neg HNE.out, if_pos (by rw [HNL.out]; omega)] at this; exact this.symm
              obtain rfl : RS = ([], 1) := by rw [← HRS.out, hRo, if_pos (by decide)]
              have BK := Lib.hid TK.out.b
              subst h8
              clear hRo HRS HRR hnb
              go_wp2_with fail
              go_ret2
              exact ⟨BK.out, _, rfl, OwnE.nil _ _ _⟩
            · have h8i : ((n : Int) == 8) = false := by simp; omega
              have hn7 := Lib.hid (show n + 1 ≤ 8 by omega)
              obtain ⟨g, rfl⟩ : ∃ g, gk = g + 1 := ⟨gk - 1, by omega⟩
              have HLS := Lib.hid (show R = if (readR T need bs).2.2 ≠ 0 then ([], (readR T need bs).2.2) else linesR T need g (bs.drop (readR T need bs).2.1.toNat) (out ++ [(readR T need bs).1]) by
                have := HLR.out
                rw [linesR_read T need g bs out HNE.out (by rw [HNL.out]; omega)] at this
                exact this.symm)
              obtain ⟨Ab', cb', hq, hq1, hq2, hq3, hqr⟩ := BS.out.ex
              injection hq with a1 a2 a3
              subst a1 a3
              clear a2
              have hbs : bs.length ≤ 140737488355328 := by rw [HNB.out]; have := HNN.out; have := HBL.out; omega
              have HLNE := Lib.hid (fun w hb => HLN.out need _ bs w hb BS.out hbs (by rw [HNB.out]; omega) hn99.out)
              have HFW := Lib.hid (fun h => HLW.out need bs hqr.1 hbs h)
              have HBD := Lib.hid (fun K (hK : K ≤ nb) => bsl_drop BS.out K (by rw [HNB.out]; exact hK))
              have hnc : nb ≤ cb := by have := HNB.out; omega
              obtain ⟨⟨f, u2, y⟩, hln⟩ : ∃ r, readR T need bs = r := ⟨_, rfl⟩
              rw [hln] at HFW HLNE HLS
              unfold fdRV fdV at HLNE
              dsimp only at HFW HLNE HLS
              rw [HNB.out] at HFW
              obtain ⟨S1, hS1⟩ : ∃ S, strOfNums f.name = S := ⟨_, rfl⟩
              obtain ⟨S2, hS2⟩ : ∃ S, strOfNums f.val = S := ⟨_, rfl⟩
              have HFX := Lib.hid (show FdE.f f = [.string S1, .string S2] by rw [← hS1, ← hS2]; rfl)
              rw [hS1, hS2] at HLNE
              obtain ⟨q0, q1, q2⟩ := bk3T TK.out.t
              have b8 := (Below.refl wr.heap.size wr).alloc (Nat.le_refl _) (.cells #[.string ⟨#[]⟩, .string ⟨#[]⟩] 66)
              have TKY := Lib.hid (TK.out.later b8)
              have OBY := Lib.hid (OwnE.later OB.out b8)
              have YY := Lib.hid (heap_alloc_new wr (.cells #[.string ⟨#[]⟩, .string ⟨#[]⟩] 66))
              have hwlt := lt_of_block TK.out.t
              have hwl := Lib.hid (show W.heap.size + 1 ≤ wr.heap.size by omega)
              obtain ⟨f0, f1, f2⟩ := bk3T TKY.out.t
              clear hln hS1 hS2 HLR b8 hq1 hq2 hq3 hqr hnb hbs h8 hwlt
              go_wp2_with fail
              refine (HLNE.out _ TKY.out.b).mono ?_
              clear q0 q1 q2 f0 f1 f2
              rintro e w2 ⟨rfl, b2⟩
              have TK2 := Lib.hid (TKY.out.later b2)
              have OB2 := Lib.hid (OwnE.later OBY.out b2)
              have Y2 := Lib.hid ((b2.block _ (lt_of_block YY.out)).trans YY.out)
              clear b2
              obtain ⟨y0, y1⟩ := bk2F Y2.out
              have yf := fun j => bk_frz Y2.out j
              go_upto_region 17 with fail
              obtain ⟨m0, m1, gy⟩ := bk2_putF Y2.out (.string S1) (.string S2)
              have YY3 := bk2_blkR Y2.out (.string S1) (.string S2)
              obtain ⟨w3, hw3⟩ : ∃ w9, (w2.setCell ⟨wr.heap.size, 0, none⟩ (.string S1)).setCell ⟨wr.heap.size, 1, none⟩ (.string S2) = w9 := ⟨_, rfl⟩
              rw [hw3] at YY3 gy ⊢
              have Y3 := Lib.hid YY3
              have TK3 := Lib.hid (TK2.out.gr gy (fun k e => by cases e; exact hwl.out))
              have OB3 := Lib.hid (OwnE.kept OB2.out gy (fun e => by have := (OwnE.lt OB.out _ e).2; omega))
              clear hw3 gy YY3 m0 m1 y0 y1 yf
              by_cases hy : y = 0
              · subst hy
                rw [if_neg (fun k => k rfl)] at HLS
                obtain ⟨hfw, u0, u1⟩ := HFW.out rfl
                have HFWF := Lib.hid hfw
                obtain ⟨K, rfl⟩ : ∃ K : Nat, u2 = K := ⟨u2.toNat, by omega⟩
                rw [Int.toNat_natCast] at HLS
                have hKn : K ≤ nb := by omega
                have hKI0 : (0 : Int) ≤ (K : Int) := by omega
                have hKI : (K : Int) ≤ (nb : Int) := by omega
                have hKc : (K : Int) ≤ (cb : Int) := by omega
                have BD := HBD.out K hKn
                obtain ⟨SB, hSB⟩ : ∃ SB, (if cb = K then Ab else Option.map (fun x => x.add K) Ab) = SB := ⟨_, rfl⟩
                rw [hSB] at BD
                have BDH := Lib.hid BD
                have HLL := Lib.hid (show out.length ≤ 8 by rw [HNL.out]; exact hn8)
                have R1 := Lib.hid ((RowE.one (E := FdE) w3 f #[.string S1, .string S2] 66 w3.heap.size rfl HFX.out.symm).more (show w3.heap.size + 1 ≤ (w3.alloc (.cells #[.string S1, .string S2] 66)).heap.size by simp))
                have b9 := (Below.refl w3.heap.size w3).alloc (Nat.le_refl _) (.cells #[.string S1, .string S2] 66)
                have OA := Lib.hid (OwnE.later OB3.out b9)
                have TKA := Lib.hid (TK3.out.later b9)
                have hbase := Lib.hid (show W.heap.size + 1 ≤ (w3.alloc (.cells #[.string S1, .string S2] 66)).heap.size from lt_of_block TKA.out.t)
                obtain ⟨y0, y1⟩ := bk2F Y3.out
                clear BD b9 hfw u0 u1
                go_wp2_with (at_builtin
                             refine wpList_appE _ rfl (.tmp 56) (.tmp 58) _ rfl (W.heap.size + 1) 66 i0 (.agg #[.string ⟨#[]⟩, .string ⟨#[]⟩]) 32 Try.underlying23 HI.out HZ.out HZ1.out HZ2.out rfl (by decide) (.slice A1 n c) out rfl OA.out _ (some ⟨w3.heap.size, 0, none⟩) 1 1 [f] rfl R1.out rfl (by have := HLL.out; omega) hbase.out ?_
                             intro v9 u9 own9 g9
                             have O9 := Lib.hid own9
                             have TK9 := Lib.hid (TKA.out.gr g9 (fun k e => (OwnE.lt OA.out k e).1))
                             obtain ⟨A8, c8, h8, _, _, _⟩ := own9.slice
                             have hl1 : (out ++ [f]).length = n + 1 := by rw [List.length_append, HNL.out]; rfl
                             rw [hl1] at h8
                             subst h8
                             have HL1 := Lib.hid hl1
                             clear own9 g9 y0 y1 hl1)
                go_roundg g
                case measure => omega
                case rel => exact ⟨bs.drop K, out ++ [f], SB, A8, nb - K, cb - K, n + 1, c8, _, rfl, rfl, rfl, by omega, hn7.out, HL1, Lib.hid (by rw [List.length_drop, HNB.out]), Lib.hid (Nat.le_trans (Nat.sub_le _ _) HNN.out), BDH, Lib.hid HLS.out.symm, Lib.hid (fun x hx => by rcases List.mem_append.1 hx with hx | hx; (exact HOW.out x hx); (rw [List.mem_singleton.1 hx]; exact HFWF.out)), O9, TK9⟩
              · rw [if_pos hy] at HLS
                have g9 : (y != 0) = true := by simp [hy]
                have hRo := HLS.out
                obtain rfl : RS = ([], y) := by rw [← HRS.out, hRo, if_pos (show (([], y) : List Fld × Int).2 ≠ 0 from hy)]
                have BK := Lib.hid TK3.out.b
                clear hRo HLS hy HRS HRR
                go_wp2_with fail
                go_ret2
                exact ⟨BK.out, _, rfl, OwnE.nil _ _ _⟩
    · rw [if_pos hy]
      have g : (y != 0) = true := by simp [hy]
      clear hNt hy hN
      go_enter Try.func43, Try.ntmps43
      go_wp2_with (first
        | (go_at_call 50; refine (HFT.out _ B0.out).mono ?_; rintro e w1 ⟨rfl, b1⟩; have B1 := Lib.hid (B0.out.trans (b1.mono B0.out.size)); have F1 := Lib.hid ((b1.block _ (lt_of_block F0.out)).trans F0.out); clear b1; obtain ⟨q0, q1, q2⟩ := bk3T F1.out)
        | (go_at_call 51; refine (HPO.out _ B1.out).mono ?_; rintro e w2 ⟨rfl, rfl⟩))
      go_ret2
      exact ⟨B1.out, _, rfl, OwnE.nil _ _ _⟩
  · rw [if_pos h0]
    have g : (x != 0) = true := by simp [h0]
    clear hNt h0 hN
    go_enter Try.func43, Try.ntmps43
    go_wp2_with (go_at_call 50; refine (HFT.out _ B0.out).mono ?_; rintro e w1 ⟨rfl, b1⟩; have B1 := Lib.hid (B0.out.trans (b1.mono B0.out.size)); have F1 := Lib.hid ((b1.block _ (lt_of_block F0.out)).trans F0.out); clear b1; obtain ⟨q0, q1, q2⟩ := bk3T F1.out)
    go_ret2
    exact ⟨B1.out, _, rfl, OwnE.nil _ _ _⟩
end Go.Proofs.Ytpfahdogedchpaa
/- The project's readers of requests in memory: refuse, goOn. -/
namespace Go.Proofs.Ytpfahdogedchpaa.P
set_option linter.unusedVariables false
open Go.RowKit
theorem below_gr {w w' : World} (b : Below w.heap.size w w') (r : Option Nat) : w.grownBy w' r := ⟨b.os, b.tape, b.output, b.size, fun k h _ => b.block k h⟩
/-- 's' lies in no block that 'v' owns -/
def NotIn (v s : Value) : Prop := ∀ g, v.ownBlock = some g → ∀ b off sp n c, s = .slice (some ⟨b, off, sp⟩) n c → 0 < n → b ≠ g
theorem BSl.kb {w w' : World} {s : Value} {zs : List Int} {r : Option Nat} (h : BSl w w.heap.size s zs) (g : w.grownBy w' r) (hn : ∀ k, r = some k → ∀ b off sp n c, s = .slice (some ⟨b, off, sp⟩) n c → 0 < n → b ≠ k) : BSl w' w'.heap.size s zs := by
  obtain ⟨A, c, e, h1, h2, h3, h4⟩ := h.ex
  subst e
  refine ⟨A, c, rfl, h1, h2, h3, h4.1, fun hp => ?_⟩
  obtain ⟨b, off, e, hb, hc⟩ := h4.2 hp
  subst e
  refine ⟨b, off, rfl, Nat.lt_of_lt_of_le hb g.size, fun j hj => ?_⟩
  rw [World.cell?_of_block (g.block b hb (fun e => hn b e.symm b off none _ _ rfl hp rfl))]
  exact hc j hj
theorem FSl.kb {w w' : World} {s : Value} {l : List Fld} {r : Option Nat} (h : FSl w w.heap.size s l) (g : w.grownBy w' r) (hn : ∀ k, r = some k → ∀ b off sp n c, s = .slice (some ⟨b, off, sp⟩) n c → 0 < n → b ≠ k) : FSl w' w'.heap.size s l := by
  obtain ⟨A, c, e, h1, h2, h3⟩ := h.ex
  subst e
  refine ⟨A, c, rfl, h1, h2, fun hp => ?_⟩
  obtain ⟨b, off, e, hb, hc⟩ := h3 hp
  subst e
  refine ⟨b, off, rfl, Nat.lt_of_lt_of_le hb g.size, fun j u hj => ?_⟩
  rw [World.cell?_of_block (g.block b hb (fun e => hn b e.symm b off none _ _ rfl hp rfl))]
  exact hc j u hj
theorem BSl.lt {w : World} {B : Nat} {zs : List Int} {b off n c : Nat} {sp : Option Nat} (h : BSl w B (.slice (some ⟨b, off, sp⟩) n c) zs) (hn : 0 < n) : b < B := by
  obtain ⟨A, c', e, _, _, _, h4⟩ := h.ex
  injection e with e1 e2 e3
  obtain ⟨b', off', e', hb, _⟩ := h4.2 (by omega)
  rw [e'] at e1
  injection e1 with e1
  injection e1 with e1
  omega
theorem FSl.lt {w : World} {B : Nat} {l : List Fld} {b off n c : Nat} {sp : Option Nat} (h : FSl w B (.slice (some ⟨b, off, sp⟩) n c) l) (hn : 0 < n) : b < B := by
  obtain ⟨A, c', e, _, _, h4⟩ := h.ex
  injection e with e1 e2 e3
  obtain ⟨b', off', e', hb, _⟩ := h4 (by omega)
  rw [e'] at e1
  injection e1 with e1
  injection e1 with e1
  omega
theorem bk5T {w : World} {b : Nat} {a0 a1 a2 a3 a4 : Value} {T : TypeId} (h : w.heap[b]? = some (.cells #[a0, a1, a2, a3, a4] T (0, 0))) : w.cell? ⟨b, 0, none⟩ = some a0 ∧ w.cell? ⟨b, 1, none⟩ = some a1 ∧ w.cell? ⟨b, 2, none⟩ = some a2 ∧ w.cell? ⟨b, 3, none⟩ = some a3 ∧ w.cell? ⟨b, 4, none⟩ = some a4 := ⟨bk_cell h 0, bk_cell h 1, bk_cell h 2, bk_cell h 3, bk_cell h 4⟩
theorem bk5_blk {w : World} {b : Nat} {a0 a1 a2 a3 a4 : Value} {T : TypeId} (h : w.heap[b]? = some (.cells #[a0, a1, a2, a3, a4] T (0, 0))) (v0 v1 v2 v3 v4 : Value) :
    (((((w.setCell ⟨b, 0, none⟩ v0).setCell ⟨b, 1, none⟩ v1).setCell ⟨b, 2, none⟩ v2).setCell ⟨b, 3, none⟩ v3).setCell ⟨b, 4, none⟩ v4).heap[b]? = some (.cells #[v0, v1, v2, v3, v4] T (0, 0)) ∧ w.grownBy (((((w.setCell ⟨b, 0, none⟩ v0).setCell ⟨b, 1, none⟩ v1).setCell ⟨b, 2, none⟩ v2).setCell ⟨b, 3, none⟩ v3).setCell ⟨b, 4, none⟩ v4) (some b) := by
  have h0 : (w.setCell ⟨b, 0, none⟩ v0).heap[b]? = some (.cells #[v0, a1, a2, a3, a4] T (0, 0)) := by simpa using bk_set h 0 v0
  have h1 : ((w.setCell ⟨b, 0, none⟩ v0).setCell ⟨b, 1, none⟩ v1).heap[b]? = some (.cells #[v0, v1, a2, a3, a4] T (0, 0)) := by simpa using bk_set h0 1 v1
  have h2 : (((w.setCell ⟨b, 0, none⟩ v0).setCell ⟨b, 1, none⟩ v1).setCell ⟨b, 2, none⟩ v2).heap[b]? = some (.cells #[v0, v1, v2, a3, a4] T (0, 0)) := by simpa using bk_set h1 2 v2
  have h3 : ((((w.setCell ⟨b, 0, none⟩ v0).setCell ⟨b, 1, none⟩ v1).setCell ⟨b, 2, none⟩ v2).setCell ⟨b, 3, none⟩ v3).heap[b]? = some (.cells #[v0, v1, v2, v3, a4] T (0, 0)) := by simpa using bk_set h2 3 v3
  exact ⟨by simpa using bk_set h3 4 v4, gr_trans (gr_trans (gr_trans (gr_trans (gr_set _ b 0 v0) (gr_set _ b 1 v1)) (gr_set _ b 2 v2)) (gr_set _ b 3 v3)) (gr_set _ b 4 v4)⟩
/-- a world that grew, and then a new block was written -/
theorem gr_new {w w1 w2 : World} {r : Option Nat} {k : Nat} (g : w.grownBy w1 r) (h : w1.grownBy w2 (some k)) (hk : w.heap.size ≤ k) : w.grownBy w2 r := g.andThen h (fun j hj => by cases hj; exact .inl hk)
end Go.Proofs.Ytpfahdogedchpaa.P
namespace Go.Proofs.Ytpfahdogedchpaa
set_option linter.unusedVariables false
open Go.RowKit P

abbrev zrd : Array Value := #[.slice none 0 0, .slice none 0 0, .bool false, .slice none 0 0, .bool false]
set_option maxHeartbeats 1000000 in
theorem rqrefuse_any (hA fA bA dA : Option Addr) (hn hc fn fc bn bc dn dc : Nat) (bg en : Bool) (w : World) (m1 : hn ≤ 9223372036854775807) (m2 : bn ≤ 9223372036854775807) (m3 : dn ≤ 9223372036854775807) :
    Calls Try.prog 19 #[.agg #[.slice hA hn hc, .slice fA fn fc, .bool bg, .slice bA bn bc, .bool en], .slice dA dn dc] w fun e w' => e = .returned (.int .i64 (if 800 < hn ∨ 800 < dn ∨ 200 < bn then 1 else if en = true then 17 else 0)) ∧ Below w.heap.size w w' := by
  have B1 := Lib.hid ((Below.refl w.heap.size w).alloc (Nat.le_refl _) (.cells #[.slice hA hn hc, .slice fA fn fc, .bool bg, .slice bA bn bc, .bool en] 25))
  by_cases h1 : 800 < hn
  · have h1' : (800 : Int) < (hn : Int) := by omega
    rw [if_pos (.inl h1)]
    go_enter Try.func19, Try.ntmps19
    go_wp2_with fail
    go_ret
    exact ⟨rfl, B1.out⟩
  · have h1' : ¬ (800 : Int) < (hn : Int) := by omega
    by_cases h2 : 800 < dn
    · have h2' : (800 : Int) < (dn : Int) := by omega
      rw [if_pos (.inr (.inl h2))]
      go_enter Try.func19, Try.ntmps19
      go_wp2_with fail
      go_ret
      exact ⟨rfl, B1.out⟩
    · have h2' : ¬ (800 : Int) < (dn : Int) := by omega
      by_cases h3 : 200 < bn
      · have h3' : (200 : Int) < (bn : Int) := by omega
        rw [if_pos (.inr (.inr h3))]
        go_enter Try.func19, Try.ntmps19
        go_wp2_with fail
        go_ret
        exact ⟨rfl, B1.out⟩
      · have h3' : ¬ (200 : Int) < (bn : Int) := by omega
        rw [if_neg (by omega)]
        cases en
        all_goals
          go_enter Try.func19, Try.ntmps19
          go_wp2_with fail
          go_ret
          exact ⟨rfl, B1.out⟩
set_option maxRecDepth 100000 in
set_option maxHeartbeats 4000000 in
theorem goOn_any (Ah Af : Option Addr) (nh ch nf cf : Nat) (bg en : Bool) (base : Nat) (bs : Value) (body : List Int) (Ad : Option Addr) (nd cd : Nat) (data : List Int) (W : World) (ho : W.ownsRow base 5 1 bs body.length (body.map (.int .u8))) (hbase : base ≤ W.heap.size) (hbl : body.length ≤ 10000) (hd : BSl W W.heap.size (.slice Ad nd cd) data) (hnd : nd ≤ 10000) :
    Calls Try.prog 36 #[.agg #[.slice Ah nh ch, .slice Af nf cf, .bool bg, bs, .bool en], .slice Ad nd cd] W fun e w' =>
      if bg = false then e = .returned (.tuple #[.agg zrd, .int .i64 3]) ∧ Below W.heap.size W w'
      else if 200 < body.length + data.length then e = .returned (.tuple #[.agg zrd, .int .i64 1]) ∧ Below W.heap.size W w'
      else ∃ bs', e = .returned (.tuple #[.agg #[.slice Ah nh ch, .slice Af nf cf, .bool bg, bs', .bool en], .int .i64 0]) ∧ w'.ownsRow base 5 1 bs' (body ++ data).length ((body ++ data).map (.int .u8)) ∧ W.grownBy w' bs.ownBlock ∧ (bs'.ownBlock = bs.ownBlock ∨ ∃ k, bs'.ownBlock = some k ∧ W.heap.size ≤ k) := by
  obtain ⟨Ab, cb, rfl, hbc, hbm⟩ := own_slice ho
  have hdn : data.length = nd := by obtain ⟨_, _, e, _⟩ := hd.ex; cases e; rfl
  have HDN := Lib.hid hdn
  have HD := Lib.hid hd
  have HO := Lib.hid ho
  have HBA := Lib.hid hbase
  obtain ⟨nb, hnb⟩ : ∃ n, body.length = n := ⟨_, rfl⟩
  have HNB := Lib.hid hnb
  rw [hdn, hnb]
  rw [hnb] at HO hbl hbc
  obtain ⟨g1, g2, g3⟩ := two_bk W #[.slice Ah nh ch, .slice Af nf cf, .bool bg, .slice Ab nb cb, .bool en] zrd 25 25
  have X0 := Lib.hid g1
  have Z0 := Lib.hid g2
  have B0 := Lib.hid g3
  obtain ⟨V0, hV0⟩ : ∃ V, (W.alloc (.cells #[.slice Ah nh ch, .slice Af nf cf, .bool bg, .slice Ab nb cb, .bool en] 25)).alloc (.cells zrd 25) = V := ⟨_, rfl⟩
  rw [hV0] at X0 Z0 B0
  unfold zrd at hV0 Z0
  obtain ⟨x0, x1, x2, x3, x4⟩ := bk5T X0.out
  obtain ⟨z0, z1, z2, z3, z4⟩ := bk5T Z0.out
  have zf := fun i => bk_frz Z0.out i
  clear ho hd hdn hnb hbase g1 g2 g3 hbm
  cases bg with
  | false =>
    go_enter Try.func36, Try.ntmps36
    go_wp2_with fail
    obtain ⟨k1, gp⟩ := bk5_blk Z0.out (.slice none 0 0) (.slice none 0 0) (.bool false) (.slice none 0 0) (.bool false)
    obtain ⟨r0, r1, r2, r3, r4⟩ := bk5T k1
    refine bodyPost_ret (by simp [results, Try.results36, go_sem, r0, r1, r2, r3, r4]; try rfl) rfl ?_
    exact ⟨rfl, gr_from B0.out B0.out.size (by omega) gp⟩
  | true =>
    have hadd : IntKind.i64.wrap ((nb : Int) + (nd : Int)) = (nb : Int) + (nd : Int) := by rw [IntKind.wrap_i64]; omega
    by_cases h2 : 200 < nb + nd
    · have h2' : (200 : Int) < (nb : Int) + (nd : Int) := by omega
      go_enter Try.func36, Try.ntmps36
      go_wp2_with fail
      obtain ⟨k1, gp⟩ := bk5_blk Z0.out (.slice none 0 0) (.slice none 0 0) (.bool false) (.slice none 0 0) (.bool false)
      obtain ⟨r0, r1, r2, r3, r4⟩ := bk5T k1
      refine bodyPost_ret (by simp [results, Try.results36, go_sem, r0, r1, r2, r3, r4]; try rfl) rfl ?_
      exact ⟨rfl, gr_from B0.out B0.out.size (by omega) gp⟩
    · have h2' : ¬ (200 : Int) < (nb : Int) + (nd : Int) := by omega
      obtain ⟨i0, hi0, hz0, hz1, hz2⟩ := info_parts infoB1
      have HI := Lib.hid hi0
      have HZ := Lib.hid hz0
      have HZ1 := Lib.hid hz1
      have HZ2 := Lib.hid hz2
      have HO1 := Lib.hid (HO.out.kept (below_gr B0.out none) (none_or _))
      have HNE := Lib.hid (fun k (hk : (Value.slice Ab nb cb).ownBlock = some k) => (HO.out.lt k hk).2)
      have HSZ := Lib.hid (show W.heap.size + 2 ≤ V0.heap.size by have := lt_of_block Z0.out; omega)
      obtain ⟨_, _, ed, _, _, hdnil, hdr⟩ := (bsl_onF HD.out B0.out).ex
      injection ed with ed1 ed2 ed3
      subst ed1 ed3
      have HDR := Lib.hid hdr
      have HDL := Lib.hid hdnil
      clear hi0 hz0 hz1 hz2 hdr hdnil ed2
      go_enter Try.func36, Try.ntmps36
      go_upto_region 5 with fail
      go_upto_region 6 with (at_builtin
                             go_loud (refine wpList_app _ rfl (.tmp 21) (.tmp 22) _ rfl base 5 i0 Try.underlying22 HI.out HZ.out HZ1.out HZ2.out (.slice Ab nb cb) nb (body.map (.int .u8)) rfl HO1.out V0.heap.size Ad nd cd data rfl HDR.out HDN.out HDL.out (by omega) (Nat.le_trans HBA.out (by have := HSZ.out; omega)) ?_)
                             intro v1 w1 own1 g1 hv1
                             obtain ⟨A1, c1, e1, _, _⟩ := own_slice own1
                             subst e1
                             have O1 := Lib.hid own1
                             have G1 := Lib.hid g1
                             have HVN := Lib.hid (show ∀ k, (Value.slice A1 (nb + nd) c1).ownBlock = some k → k < W.heap.size ∨ W.heap.size + 2 ≤ k from fun k hk => by
                               rcases hv1 with e | e
                               · exact .inl (HNE.out k (e ▸ hk))
                               · rw [e] at hk; cases hk; exact .inr HSZ.out)
                             have HV1 := Lib.hid (show (Value.slice A1 (nb + nd) c1).ownBlock = (Value.slice Ab nb cb).ownBlock ∨ ∃ k, (Value.slice A1 (nb + nd) c1).ownBlock = some k ∧ W.heap.size ≤ k from by
                               rcases hv1 with e | e
                               · exact .inl e
                               · exact .inr ⟨_, e, by have := HSZ.out; omega⟩)
                             have X1 := Lib.hid ((g1.block W.heap.size (lt_of_block X0.out) (fun e => by have := HNE.out _ e.symm; omega)).trans X0.out)
                             have Z1 := Lib.hid ((g1.block (W.heap.size + 1) (lt_of_block Z0.out) (fun e => by have := HNE.out _ e.symm; omega)).trans Z0.out)
                             obtain ⟨p0, p1, p2, p3, p4⟩ := bk5T X1.out
                             have pf := fun i => bk_frz X1.out i
                             clear own1 g1 hv1 x0 x1 x2 x3 x4 z0 z1 z2 z3 z4 zf)
      have X2 : (w1.setCell ⟨W.heap.size, 3, none⟩ (.slice A1 (nb + nd) c1)).heap[W.heap.size]? = some (.cells #[.slice Ah nh ch, .slice Af nf cf, .bool true, .slice A1 (nb + nd) c1, .bool en] 25 (0, 0)) := by simpa using bk_set X1.out 3 (.slice A1 (nb + nd) c1)
      have g2 := gr_set w1 W.heap.size 3 (.slice A1 (nb + nd) c1)
      obtain ⟨w2, hw2⟩ : ∃ q, w1.setCell ⟨W.heap.size, 3, none⟩ (.slice A1 (nb + nd) c1) = q := ⟨_, rfl⟩
      rw [hw2] at X2 g2 ⊢
      have Z2 := Lib.hid ((g2.block _ (lt_of_block Z1.out) (by simp)).trans Z1.out)
      have O2 := Lib.hid (O1.out.kept g2 (.inr (fun e => by have := HVN.out _ e; omega)))
      have G2 := Lib.hid (gr_new (gr_trans (below_gr B0.out (Value.slice Ab nb cb).ownBlock) G1.out) g2 (Nat.le_refl _))
      obtain ⟨p0, p1, p2, p3, p4⟩ := bk5T X2
      obtain ⟨z0, z1, z2, z3, z4⟩ := bk5T Z2.out
      have zf := fun i => bk_frz Z2.out i
      clear hw2 g2 X2
      go_wp2_with fail
      obtain ⟨k1, gp⟩ := bk5_blk Z2.out (.slice Ah nh ch) (.slice Af nf cf) (.bool true) (.slice A1 (nb + nd) c1) (.bool en)
      obtain ⟨r0, r1, r2, r3, r4⟩ := bk5T k1
      refine bodyPost_ret (by simp [results, Try.results36, go_sem, r0, r1, r2, r3, r4]; try rfl) rfl ?_
      refine ⟨_, rfl, ?_, gr_new G2.out gp (by omega), HV1.out⟩
      first | rw [List.length_append, HNB.out, HDN.out, List.map_append] | rw [HNB.out, HDN.out]
      exact O2.out.kept gp (.inr (fun e => by have := HVN.out _ e; omega))
end Go.Proofs.Ytpfahdogedchpaa
/- The project's request: begin, first. -/
namespace Go.Proofs.Ytpfahdogedchpaa
set_option linter.unusedVariables false
open Go.RowKit P

theorem faultFl_iff2 (l : List Fld) : faultFl l = 0 ↔ l.length ≤ 8 ∧ ∀ f ∈ l, okFd f := by
  unfold faultFl
  by_cases h : 8 < l.length
  · rw [if_pos h]; exact ⟨fun e => by omega, fun e => by omega⟩
  · rw [if_neg h]
    by_cases k : ∀ f ∈ l, okFd f
    · rw [if_pos k]; exact ⟨fun _ => ⟨by omega, k⟩, fun _ => rfl⟩
    · rw [if_neg k]; exact ⟨fun e => by omega, fun e => absurd e.2 k⟩
theorem two_bk3 (W : World) (a b c : Array Value) (T1 T2 T3 : TypeId) : (((W.alloc (.cells a T1)).alloc (.cells b T2)).alloc (.cells c T3)).heap[W.heap.size]? = some (.cells a T1 (0, 0)) ∧ (((W.alloc (.cells a T1)).alloc (.cells b T2)).alloc (.cells c T3)).heap[W.heap.size + 1]? = some (.cells b T2 (0, 0)) ∧ (((W.alloc (.cells a T1)).alloc (.cells b T2)).alloc (.cells c T3)).heap[W.heap.size + 1 + 1]? = some (.cells c T3 (0, 0)) ∧ Below W.heap.size W (((W.alloc (.cells a T1)).alloc (.cells b T2)).alloc (.cells c T3)) := by
  obtain ⟨h1, h2, h3⟩ := two_bk W a b T1 T2
  have hs : ((W.alloc (.cells a T1)).alloc (.cells b T2)).heap.size = W.heap.size + 1 + 1 := by simp
  have h4 := heap_alloc_new ((W.alloc (.cells a T1)).alloc (.cells b T2)) (.cells c T3)
  rw [hs] at h4
  have q := (Below.refl ((W.alloc (.cells a T1)).alloc (.cells b T2)).heap.size ((W.alloc (.cells a T1)).alloc (.cells b T2))).alloc (Nat.le_refl _) (.cells c T3)
  exact ⟨(q.block _ (lt_of_block h1)).trans h1, (q.block _ (lt_of_block h2)).trans h2, h4, h3.trans (q.mono h3.size)⟩
set_option maxRecDepth 100000 in
set_option maxHeartbeats 4000000 in
theorem begin_any (Ah Af Ab : Option Addr) (nh ch nf cf nb cb : Nat) (bg en : Bool) (tv : Value) (t : Tb) (As : Option Addr) (ns cs : Nat) (sec : List Int) (W : World) (hv : TbVal W W.heap.size tv t) (hw : TbWf t) (hs : BSl W W.heap.size (.slice As ns cs) sec) (hsl : sec.length ≤ 140737488355328) :
    Calls Try.prog 35 #[.agg #[.slice Ah nh ch, .slice Af nf cf, .bool bg, .slice Ab nb cb, .bool en], tv, .slice As ns cs] W fun e w' => Below W.heap.size W w' ∧
      if bg = true then e = .returned (.tuple #[.agg zrd, .int .i64 3])
      else if (decFl t sec).2 = 14 then e = .returned (.tuple #[.agg #[.slice Ah nh ch, .slice Af nf cf, .bool bg, .slice Ab nb cb, .bool en], .int .i64 14])
      else if (decFl t sec).2 ≠ 0 then e = .returned (.tuple #[.agg zrd, .int .i64 (decFl t sec).2])
      else if faultRq (decFl t sec).1 ≠ 0 then e = .returned (.tuple #[.agg zrd, .int .i64 (faultRq (decFl t sec).1)])
      else ∃ fs', e = .returned (.tuple #[.agg #[.slice Ah nh ch, fs', .bool true, .slice Ab nb cb, .bool en], .int .i64 0]) ∧ OwnE FdE w' W.heap.size 66 fs' (decFl t sec).1 := by
  have HD := Lib.hid (fun w (b : Below W.heap.size W w) => fddecN_any tv (.slice As ns cs) t sec w (hv.on b) hw (bsl_onF hs b) hsl)
  have hby : Byt sec := by obtain ⟨_, _, _, _, _, _, q⟩ := hs.ex; exact q.1
  obtain ⟨hwf, hf0, hf1⟩ := decFl_facts2 hw hby hsl
  have HLN := Lib.hid hwf
  have HL8 := Lib.hid (show (decFl t sec).1.length ≤ 8 from by
    by_cases h : (decFl t sec).2 = 0
    · exact ((faultFl_iff2 _).1 (hf0 h)).1
    · rw [hf1 h]; simp)
  obtain ⟨At, nt, ct, room, put, rfl, hv'⟩ := tb_partsR hv
  obtain ⟨g1, g2, g3, g4⟩ := two_bk3 W #[.slice Ah nh ch, .slice Af nf cf, .bool bg, .slice Ab nb cb, .bool en] #[.int .i64 room, .int .i64 put, .slice At nt ct] zrd 25 27 25
  have X0 := Lib.hid g1
  have Y0 := Lib.hid g2
  have Z0 := Lib.hid g3
  have B0 := Lib.hid g4
  obtain ⟨V0, hV0⟩ : ∃ V, ((W.alloc (.cells #[.slice Ah nh ch, .slice Af nf cf, .bool bg, .slice Ab nb cb, .bool en] 25)).alloc (.cells #[.int .i64 room, .int .i64 put, .slice At nt ct] 27)).alloc (.cells zrd 25) = V := ⟨_, rfl⟩
  rw [hV0] at X0 Y0 Z0 B0
  unfold zrd at hV0 Z0
  obtain ⟨x0, x1, x2, x3, x4⟩ := bk5T X0.out
  obtain ⟨y0, y1, y2⟩ := bk3T Y0.out
  obtain ⟨z0, z1, z2, z3, z4⟩ := bk5T Z0.out
  have zf := fun i => bk_frz Z0.out i
  obtain ⟨⟨l, y⟩, hy⟩ : ∃ r, decFl t sec = r := ⟨_, rfl⟩
  rw [hy] at HD HLN HL8 ⊢
  unfold FlResN at HD
  dsimp only at HD HLN HL8 ⊢
  have HCK := Lib.hid (fun w A c (hl : ∀ x ∈ l, FdWf x) (hr : RowE FdE w w.heap.size A l) hc1 hc2 => rqchk_any A l.length c l w hr rfl hc1 hc2 hl (by have := HL8.out; omega))
  obtain ⟨f, hf⟩ : ∃ f, faultRq l = f := ⟨_, rfl⟩
  have HFC := Lib.hid (hf ▸ faultRq_cases l)
  rw [hf] at HCK ⊢
  clear hv hs hsl hby hwf hf0 hf1 hv' g1 g2 g3 g4 hy hf hw
  cases bg with
  | true =>
    go_enter Try.func35, Try.ntmps35
    go_wp2_with fail
    obtain ⟨k1, gp⟩ := bk5_blk Z0.out (.slice none 0 0) (.slice none 0 0) (.bool false) (.slice none 0 0) (.bool false)
    obtain ⟨r0, r1, r2, r3, r4⟩ := bk5T k1
    refine bodyPost_ret (by simp [results, Try.results35, go_sem, r0, r1, r2, r3, r4]; try rfl) rfl ?_
    exact ⟨gr_from B0.out B0.out.size (by omega) gp, rfl⟩
  | false =>
    by_cases h14 : y = 14
    · subst h14
      go_enter Try.func35, Try.ntmps35
      go_wp2_with fail
      refine (HD.out _ B0.out).mono ?_
      clear x0 x1 x2 x3 x4 y0 y1 y2 z0 z1 z2 z3 z4 zf
      rintro e w1 ⟨b1, v1, rfl, o1⟩
      obtain ⟨A1, c1, rfl, hl1, hm1, r1⟩ := o1.slice
      have X1 := Lib.hid ((b1.block _ (lt_of_block X0.out)).trans X0.out)
      have Z1 := Lib.hid ((b1.block _ (lt_of_block Z0.out)).trans Z0.out)
      have B1 := Lib.hid (B0.out.trans (b1.mono B0.out.size))
      have O1 := Lib.hid (o1.low (show W.heap.size ≤ V0.heap.size from B0.out.size))
      have HO1 := Lib.hid (fun k hk => (OwnE.lt o1 k hk).1)
      have R1 := Lib.hid r1
      have HM1 := Lib.hid (And.intro hl1 hm1)
      clear b1 o1 r1 hl1 hm1
      obtain ⟨x0, x1, x2, x3, x4⟩ := bk5T X1.out
      obtain ⟨z0, z1, z2, z3, z4⟩ := bk5T Z1.out
      have zf := fun i => bk_frz Z1.out i
      go_wp2_with fail
      obtain ⟨k1, gp⟩ := bk5_blk Z1.out (.slice Ah nh ch) (.slice Af nf cf) (.bool false) (.slice Ab nb cb) (.bool en)
      obtain ⟨r0, r1, r2, r3, r4⟩ := bk5T k1
      refine bodyPost_ret (by simp [results, Try.results35, go_sem, r0, r1, r2, r3, r4]; try rfl) rfl ?_
      exact ⟨gr_from B1.out B1.out.size (by omega) gp, rfl⟩
    · by_cases h0 : y = 0
      · subst h0
        by_cases hff : f = 0
        · subst hff
          go_enter Try.func35, Try.ntmps35
          go_wp2_with fail
          refine (HD.out _ B0.out).mono ?_
          clear x0 x1 x2 x3 x4 y0 y1 y2 z0 z1 z2 z3 z4 zf
          rintro e w1 ⟨b1, v1, rfl, o1⟩
          obtain ⟨A1, c1, rfl, hl1, hm1, r1⟩ := o1.slice
          have X1 := Lib.hid ((b1.block _ (lt_of_block X0.out)).trans X0.out)
          have Z1 := Lib.hid ((b1.block _ (lt_of_block Z0.out)).trans Z0.out)
          have B1 := Lib.hid (B0.out.trans (b1.mono B0.out.size))
          have O1 := Lib.hid (o1.low (show W.heap.size ≤ V0.heap.size from B0.out.size))
          have HO1 := Lib.hid (fun k hk => (OwnE.lt o1 k hk).1)
          have R1 := Lib.hid r1
          have HM1 := Lib.hid (And.intro hl1 hm1)
          clear b1 o1 r1 hl1 hm1
          obtain ⟨x0, x1, x2, x3, x4⟩ := bk5T X1.out
          obtain ⟨z0, z1, z2, z3, z4⟩ := bk5T Z1.out
          have zf := fun i => bk_frz Z1.out i
          go_wp2_with fail
          refine (HCK.out _ _ _ HLN.out R1.out HM1.out.1 HM1.out.2).mono ?_
          clear x0 x1 x2 x3 x4 z0 z1 z2 z3 z4 zf
          rintro e w2 ⟨rfl, b2⟩
          have X2 := Lib.hid ((b2.block _ (lt_of_block X1.out)).trans X1.out)
          have Z2 := Lib.hid ((b2.block _ (lt_of_block Z1.out)).trans Z1.out)
          have B2 := Lib.hid (B1.out.trans (b2.mono B1.out.size))
          have O2 := Lib.hid (OwnE.later O1.out b2)
          have HLT := Lib.hid (lt_of_block Z0.out)
          clear b2
          obtain ⟨x0, x1, x2, x3, x4⟩ := bk5T X2.out
          have xf := fun i => bk_frz X2.out i
          obtain ⟨z0, z1, z2, z3, z4⟩ := bk5T Z2.out
          have zf := fun i => bk_frz Z2.out i
          go_upto_region 9 with fail
          have X3 : ((w2.setCell ⟨W.heap.size, 1, none⟩ (.slice A1 l.length c1)).setCell ⟨W.heap.size, 2, none⟩ (.bool true)).heap[W.heap.size]? = some (.cells #[.slice Ah nh ch, .slice A1 l.length c1, .bool true, .slice Ab nb cb, .bool en] 25 (0, 0)) := by
            have h1 : (w2.setCell ⟨W.heap.size, 1, none⟩ (.slice A1 l.length c1)).heap[W.heap.size]? = some (.cells #[.slice Ah nh ch, .slice A1 l.length c1, .bool false, .slice Ab nb cb, .bool en] 25 (0, 0)) := by simpa using bk_set X2.out 1 (.slice A1 l.length c1)
            simpa using bk_set h1 2 (.bool true)
          have g3 := gr_trans (gr_set w2 W.heap.size 1 (.slice A1 l.length c1)) (gr_set (w2.setCell ⟨W.heap.size, 1, none⟩ (.slice A1 l.length c1)) W.heap.size 2 (.bool true))
          obtain ⟨w3, hw3⟩ : ∃ q, (w2.setCell ⟨W.heap.size, 1, none⟩ (.slice A1 l.length c1)).setCell ⟨W.heap.size, 2, none⟩ (.bool true) = q := ⟨_, rfl⟩
          rw [hw3] at X3 g3 ⊢
          have Z3 := Lib.hid ((g3.block _ (lt_of_block Z2.out) (by simp; omega)).trans Z2.out)
          have B3 := Lib.hid (gr_from B2.out B2.out.size (Nat.le_refl _) g3)
          have O3 := Lib.hid (OwnE.kept O2.out g3 (fun e => by have := HO1.out _ e; have := HLT.out; omega))
          clear x0 x1 x2 x3 x4 z0 z1 z2 z3 z4 zf xf hw3 g3
          obtain ⟨x0, x1, x2, x3, x4⟩ := bk5T X3
          obtain ⟨z0, z1, z2, z3, z4⟩ := bk5T Z3.out
          have zf := fun i => bk_frz Z3.out i
          clear X3
          go_wp2_with fail
          obtain ⟨k1, gp⟩ := bk5_blk Z3.out (.slice Ah nh ch) (.slice A1 l.length c1) (.bool true) (.slice Ab nb cb) (.bool en)
          obtain ⟨r0, r1, r2, r3, r4⟩ := bk5T k1
          refine bodyPost_ret (by simp [results, Try.results35, go_sem, r0, r1, r2, r3, r4]; try rfl) rfl ?_
          exact ⟨gr_from B3.out B3.out.size (by omega) gp, _, rfl, OwnE.kept O3.out gp (fun e => by have := HO1.out _ e; have := HLT.out; omega)⟩
        · have hf14 : (f == 14) = false := by have := HFC.out; simp; omega
          have hf0 : (f == 0) = false := by simp; exact hff
          go_enter Try.func35, Try.ntmps35
          go_wp2_with fail
          refine (HD.out _ B0.out).mono ?_
          clear x0 x1 x2 x3 x4 y0 y1 y2 z0 z1 z2 z3 z4 zf
          rintro e w1 ⟨b1, v1, rfl, o1⟩
          obtain ⟨A1, c1, rfl, hl1, hm1, r1⟩ := o1.slice
          have X1 := Lib.hid ((b1.block _ (lt_of_block X0.out)).trans X0.out)
          have Z1 := Lib.hid ((b1.block _ (lt_of_block Z0.out)).trans Z0.out)
          have B1 := Lib.hid (B0.out.trans (b1.mono B0.out.size))
          have O1 := Lib.hid (o1.low (show W.heap.size ≤ V0.heap.size from B0.out.size))
          have HO1 := Lib.hid (fun k hk => (OwnE.lt o1 k hk).1)
          have R1 := Lib.hid r1
          have HM1 := Lib.hid (And.intro hl1 hm1)
          clear b1 o1 r1 hl1 hm1
          obtain ⟨x0, x1, x2, x3, x4⟩ := bk5T X1.out
          obtain ⟨z0, z1, z2, z3, z4⟩ := bk5T Z1.out
          have zf := fun i => bk_frz Z1.out i
          go_wp2_with fail
          refine (HCK.out _ _ _ HLN.out R1.out HM1.out.1 HM1.out.2).mono ?_
          clear x0 x1 x2 x3 x4 z0 z1 z2 z3 z4 zf
          rintro e w2 ⟨rfl, b2⟩
          have X2 := Lib.hid ((b2.block _ (lt_of_block X1.out)).trans X1.out)
          have Z2 := Lib.hid ((b2.block _ (lt_of_block Z1.out)).trans Z1.out)
          have B2 := Lib.hid (B1.out.trans (b2.mono B1.out.size))
          have O2 := Lib.hid (OwnE.later O1.out b2)
          have HLT := Lib.hid (lt_of_block Z0.out)
          clear b2
          obtain ⟨x0, x1, x2, x3, x4⟩ := bk5T X2.out
          have xf := fun i => bk_frz X2.out i
          obtain ⟨z0, z1, z2, z3, z4⟩ := bk5T Z2.out
          have zf := fun i => bk_frz Z2.out i
          go_wp2_with fail
          obtain ⟨k1, gp⟩ := bk5_blk Z2.out (.slice none 0 0) (.slice none 0 0) (.bool false) (.slice none 0 0) (.bool false)
          obtain ⟨r0, r1, r2, r3, r4⟩ := bk5T k1
          refine bodyPost_ret (by simp [results, Try.results35, go_sem, r0, r1, r2, r3, r4]; try rfl) rfl ?_
          exact ⟨gr_from B2.out B2.out.size (by omega) gp, by simp [zrd]⟩
      · have hy14 : (y == 14) = false := by simp; exact h14
        have hy0 : (y == 0) = false := by simp; exact h0
        go_enter Try.func35, Try.ntmps35
        go_wp2_with fail
        refine (HD.out _ B0.out).mono ?_
        clear x0 x1 x2 x3 x4 y0 y1 y2 z0 z1 z2 z3 z4 zf
        rintro e w1 ⟨b1, v1, rfl, o1⟩
        obtain ⟨A1, c1, rfl, hl1, hm1, r1⟩ := o1.slice
        have X1 := Lib.hid ((b1.block _ (lt_of_block X0.out)).trans X0.out)
        have Z1 := Lib.hid ((b1.block _ (lt_of_block Z0.out)).trans Z0.out)
        have B1 := Lib.hid (B0.out.trans (b1.mono B0.out.size))
        have O1 := Lib.hid (o1.low (show W.heap.size ≤ V0.heap.size from B0.out.size))
        have HO1 := Lib.hid (fun k hk => (OwnE.lt o1 k hk).1)
        have R1 := Lib.hid r1
        have HM1 := Lib.hid (And.intro hl1 hm1)
        clear b1 o1 r1 hl1 hm1
        obtain ⟨x0, x1, x2, x3, x4⟩ := bk5T X1.out
        obtain ⟨z0, z1, z2, z3, z4⟩ := bk5T Z1.out
        have zf := fun i => bk_frz Z1.out i
        go_wp2_with fail
        obtain ⟨k1, gp⟩ := bk5_blk Z1.out (.slice none 0 0) (.slice none 0 0) (.bool false) (.slice none 0 0) (.bool false)
        obtain ⟨r0, r1, r2, r3, r4⟩ := bk5T k1
        refine bodyPost_ret (by simp [results, Try.results35, go_sem, r0, r1, r2, r3, r4]; try rfl) rfl ?_
        exact ⟨gr_from B1.out B1.out.size (by omega) gp, by simp [zrd]⟩
end Go.Proofs.Ytpfahdogedchpaa
/- The project's request: first. -/
namespace Go.Proofs.Ytpfahdogedchpaa.P
set_option linter.unusedVariables false
open Go.RowKit
theorem notIn_drop {v : Value} {A : Option Addr} {n c : Nat} (h : NotIn v (.slice A n c)) (k : Nat) : NotIn v (.slice (if c = k then A else Option.map (fun x => x.add k) A) (n - k) (c - k)) := by
  intro g hg b off sp n' c' e hn
  injection e with e1 e2 e3
  by_cases q : c = k
  · rw [if_pos q] at e1
    exact h g hg b off sp n c (by rw [e1]) (by omega)
  · rw [if_neg q] at e1
    cases A with
    | none => cases e1
    | some a =>
      have e1 : a.add k = ⟨b, off, sp⟩ := by simpa using e1
      have hb : (a.add k).block = a.block := by unfold Addr.add; split <;> rfl
      rw [e1] at hb
      have hb : b = a.block := hb
      rw [hb]
      exact h g hg a.block a.off a.spot n c rfl (by omega)
theorem rq_bsl_take {w : World} {B : Nat} {A : Option Addr} {n c : Nat} {b : List Int} (h : BSl w B (.slice A n c) b) (k : Nat) (hk : k ≤ b.length) : BSl w B (.slice A k c) (b.take k) := by
  obtain ⟨A', c', e, h1, h2, h3, h4⟩ := h.ex
  cases e
  exact ⟨_, _, by rw [List.length_take, Nat.min_eq_left hk], by rw [List.length_take]; omega, h2, h3, h4.take k⟩
/-- bytes lie in no block that holds a part: a number and slices -/
theorem BSl.grP {w w' : World} {B : Nat} {v : Value} {zs : List Int} {k : Nat} {a0 : Int} {p q : Option Addr} {n c m d : Nat} {T : TypeId} (h : BSl w B v zs) (hk : w.heap[k]? = some (.cells #[.int .i64 a0, .slice p n c, .slice q m d] T (0, 0))) (g : w.grownBy w' (some k)) : BSl w' B v zs := by
  obtain ⟨A, cp, e, h1, h2, h3, h4⟩ := h.ex
  refine ⟨A, cp, e, h1, h2, h3, h4.1, fun hn => ?_⟩
  obtain ⟨b, off, e', hb, hc⟩ := h4.2 hn
  refine ⟨b, off, e', hb, fun j hj => g.cell (hc j hj) ?_⟩
  intro q
  cases q
  have := hc 0 hn
  rw [bk_cell hk] at this
  generalize off + 0 = o at this
  rcases o with _ | _ | _ | o
  · cases this
  · cases this
  · cases this
  · cases this
/-- three cells of a part -/
theorem bk3_blkP {w : World} {b : Nat} {a0 a1 a2 : Value} {T : TypeId} (h : w.heap[b]? = some (.cells #[a0, a1, a2] T (0, 0))) (v0 v1 v2 : Value) :
    (((w.setCell ⟨b, 0, none⟩ v0).setCell ⟨b, 1, none⟩ v1).setCell ⟨b, 2, none⟩ v2).heap[b]? = some (.cells #[v0, v1, v2] T (0, 0)) ∧ w.grownBy (((w.setCell ⟨b, 0, none⟩ v0).setCell ⟨b, 1, none⟩ v1).setCell ⟨b, 2, none⟩ v2) (some b) := bk3_blk h v0 v1 v2
end Go.Proofs.Ytpfahdogedchpaa.P
namespace Go.Proofs.Ytpfahdogedchpaa
set_option linter.unusedVariables false
open Go.RowKit P
theorem rdec_ok {A : Option Addr} {n c : Nat} {zs s : List Int} {v : Int} {w : World} (h : BSl w w.heap.size (.slice A n c) zs) (hr : rd zs = .ok (v, s)) : ∃ K : Nat, s = zs.drop K ∧ K ≤ n ∧ 0 ≤ v ∧ v ≤ 4611686018427387903 ∧
    Calls Try.prog 34 #[.slice A n c] w fun e w' => e = .returned (.tuple #[.int .i64 v, .int .i64 (K : Int), .int .i64 0]) ∧ w = w' := by
  obtain ⟨A', c', e, h1, h2, h3, h4⟩ := h.ex
  injection e with e1 e2 e3
  subst e1 e2 e3
  obtain ⟨r1, r2, r3⟩ := rd_ok hr
  have kb := kOf_bd (zs.getD 0 0)
  obtain ⟨v0, v1, _⟩ := decV_bd zs h4.1 r1
  refine ⟨(kOf (zs.getD 0 0)).toNat, r3, by have := r1.2; omega, by omega, by omega, ?_⟩
  rw [r2, show (((kOf (zs.getD 0 0)).toNat : Nat) : Int) = kOf (zs.getD 0 0) by omega]
  exact decode_yes A zs.length c w.heap.size zs w h4 rfl h1 h2 r1
theorem rdec_err {A : Option Addr} {n c : Nat} {zs : List Int} {x : Int} {w : World} (h : BSl w w.heap.size (.slice A n c) zs) (hr : rd zs = .error x) :
    Calls Try.prog 34 #[.slice A n c] w fun e w' => e = .returned (.tuple #[.int .i64 0, .int .i64 0, .int .i64 4]) ∧ w = w' := by
  obtain ⟨A', c', e, h1, h2, h3, h4⟩ := h.ex
  injection e with e1 e2 e3
  subst e1 e2 e3
  refine decode_no A zs.length c w.heap.size zs w h4 rfl h1 h2 (fun k => ?_)
  unfold rd at hr
  rw [if_pos k] at hr
  cases hr
set_option maxRecDepth 100000 in
set_option maxHeartbeats 4000000 in
theorem first_any (A : Option Addr) (n c : Nat) (b : List Int) (W : World) (hb : BSl W W.heap.size (.slice A n c) b) :
    Calls Try.prog 21 #[.slice A n c] W fun e w' => Below W.heap.size W w' ∧
      if (firstR b).2 = 0 then ∃ A1 n1 c1 A2 n2 c2, e = .returned (.tuple #[.agg #[.int .i64 (firstR b).1.kind, .slice A1 n1 c1, .slice A2 n2 c2], .int .i64 0]) ∧ BSl w' w'.heap.size (.slice A1 n1 c1) (firstR b).1.dat ∧ BSl w' w'.heap.size (.slice A2 n2 c2) (firstR b).1.rest ∧ ∀ v, NotIn v (.slice A n c) → NotIn v (.slice A2 n2 c2)
      else e = .returned (.tuple #[.agg #[.int .i64 0, .slice none 0 0, .slice none 0 0], .int .i64 (firstR b).2]) := by
  have HB := Lib.hid hb
  have hbl : b.length = n := by obtain ⟨_, _, e, _⟩ := hb.ex; cases e; rfl
  have hbb : n ≤ c ∧ c ≤ 9223372036854775807 := by
    obtain ⟨A', c', e, h1, h2, _⟩ := hb.ex
    injection e with _ e2 e3
    unfold maxLen at h2
    omega
  have Z0 := Lib.hid (heap_alloc_new W (.cells #[.int .i64 0, .slice none 0 0, .slice none 0 0] 49))
  have B0 := Lib.hid ((Below.refl W.heap.size W).alloc (Nat.le_refl _) (.cells #[.int .i64 0, .slice none 0 0, .slice none 0 0] 49))
  obtain ⟨V0, hV0⟩ : ∃ V, W.alloc (.cells #[.int .i64 0, .slice none 0 0, .slice none 0 0] 49) = V := ⟨_, rfl⟩
  rw [hV0] at Z0 B0
  have S0 := Lib.hid (bsl_onF hb B0.out)
  obtain ⟨z0, z1, z2⟩ := bk3T Z0.out
  have zf := fun i => bk_frz Z0.out i
  have HBL := Lib.hid hbl
  clear hb hbl
  rcases h1 : rd b with x | ⟨kd, s⟩
  · have HD := Lib.hid (rdec_err S0.out h1)
    rw [firstR_e1 h1, rd_err h1]
    clear h1
    go_enter Try.func21, Try.ntmps21
    go_wp2_with (go_at_call 34; refine (HD.out).mono ?_; rintro e w' ⟨rfl, rfl⟩)
    obtain ⟨k1, gp⟩ := bk3_blkP Z0.out (.int .i64 0) (.slice none 0 0) (.slice none 0 0)
    obtain ⟨r0, r1, r2⟩ := bk3T k1
    refine bodyPost_ret (by simp [results, Try.results21, go_sem, r0, r1, r2]; try rfl) rfl ?_
    refine ⟨gr_from B0.out B0.out.size (Nat.le_refl _) gp, ?_⟩
    simp
  · obtain ⟨K, hs, hK, v0, v1, HDD⟩ := rdec_ok S0.out h1
    have HD := Lib.hid HDD
    have S1 := Lib.hid (bsl_drop S0.out K (by rw [HBL.out]; exact hK))
    have HF1 := Lib.hid h1
    have HSS := Lib.hid hs
    rw [← hs] at S1
    have HNI := Lib.hid (fun v (h : NotIn v (.slice A n c)) => notIn_drop h K)
    have hK0 : (0 : Int) ≤ (K : Int) := by omega
    have hKn : (K : Int) ≤ (n : Int) := by omega
    have hKc : (K : Int) ≤ (c : Int) := by omega
    obtain ⟨A1, hA1⟩ : ∃ a, (if c = K then A else Option.map (fun x => x.add K) A) = a := ⟨_, rfl⟩
    obtain ⟨n1, hn1⟩ : ∃ a, n - K = a := ⟨_, rfl⟩
    obtain ⟨c1, hc1⟩ : ∃ a, c - K = a := ⟨_, rfl⟩
    rw [hA1, hn1, hc1] at S1 HNI
    have hb1 : n1 ≤ c1 ∧ c1 ≤ 9223372036854775807 := by omega
    have hl1 : s.length = n1 := by rw [hs, List.length_drop, HBL.out, hn1]
    have HL1 := Lib.hid hl1
    clear hs h1 HDD v0 v1 hl1
    rcases h2 : rd s with x | ⟨m, u⟩
    · have HD2 := Lib.hid (rdec_err S1.out h2)
      rw [firstR_e2 HF1.out h2, rd_err h2]
      clear h2
      go_enter Try.func21, Try.ntmps21
      go_wp2_with fail
      refine (HD.out).mono ?_
      rintro e w' ⟨rfl, rfl⟩
      go_wp2_with fail
      refine (HD2.out).mono ?_
      rintro e w' ⟨rfl, rfl⟩
      go_wp2_with fail
      obtain ⟨k1, gp⟩ := bk3_blkP Z0.out (.int .i64 0) (.slice none 0 0) (.slice none 0 0)
      obtain ⟨r0, r1, r2⟩ := bk3T k1
      refine bodyPost_ret (by simp [results, Try.results21, go_sem, r0, r1, r2]; try rfl) rfl ?_
      refine ⟨gr_from B0.out B0.out.size (Nat.le_refl _) gp, ?_⟩
      simp
    · obtain ⟨K2, hu, hK2, m0, m1, HDD2⟩ := rdec_ok S1.out h2
      have HD2 := Lib.hid HDD2
      have S2 := Lib.hid (bsl_drop S1.out K2 (by rw [HL1.out]; exact hK2))
      rw [← hu] at S2
      rw [firstR_ok HF1.out h2]
      have HNI2 := Lib.hid (fun v (h : NotIn v (.slice A n c)) => notIn_drop (HNI.out v h) K2)
      have hK20 : (0 : Int) ≤ (K2 : Int) := by omega
      have hK2n : (K2 : Int) ≤ (n1 : Int) := by omega
      have hK2c : (K2 : Int) ≤ (c1 : Int) := by omega
      obtain ⟨A2, hA2⟩ : ∃ a, (if c1 = K2 then A1 else Option.map (fun x => x.add K2) A1) = a := ⟨_, rfl⟩
      obtain ⟨n2, hn2⟩ : ∃ a, n1 - K2 = a := ⟨_, rfl⟩
      obtain ⟨c2, hc2⟩ : ∃ a, c1 - K2 = a := ⟨_, rfl⟩
      rw [hA2, hn2, hc2] at S2 HNI2
      have hb2 : n2 ≤ c2 ∧ c2 ≤ 9223372036854775807 := by omega
      have hl2 : u.length = n2 := by rw [hu, List.length_drop, HL1.out, hn2]
      have HL2 := Lib.hid hl2
      rw [hl2]
      clear hu h2 HDD2 hl2
      by_cases g1 : 400 < m
      · rw [if_pos g1]
        go_enter Try.func21, Try.ntmps21
        go_wp2_with fail
        refine (HD.out).mono ?_
        rintro e w' ⟨rfl, rfl⟩
        go_wp2_with fail
        refine (HD2.out).mono ?_
        rintro e w' ⟨rfl, rfl⟩
        go_wp2_with fail
        obtain ⟨k1, gp⟩ := bk3_blkP Z0.out (.int .i64 0) (.slice none 0 0) (.slice none 0 0)
        obtain ⟨r0, r1, r2⟩ := bk3T k1
        refine bodyPost_ret (by simp [results, Try.results21, go_sem, r0, r1, r2]; try rfl) rfl ?_
        refine ⟨gr_from B0.out B0.out.size (Nat.le_refl _) gp, ?_⟩
        simp
      · rw [if_neg g1]
        by_cases g2 : (n2 : Int) < m
        · rw [if_pos g2]
          go_enter Try.func21, Try.ntmps21
          go_wp2_with fail
          refine (HD.out).mono ?_
          rintro e w' ⟨rfl, rfl⟩
          go_wp2_with fail
          refine (HD2.out).mono ?_
          rintro e w' ⟨rfl, rfl⟩
          go_wp2_with fail
          obtain ⟨k1, gp⟩ := bk3_blkP Z0.out (.int .i64 0) (.slice none 0 0) (.slice none 0 0)
          obtain ⟨r0, r1, r2⟩ := bk3T k1
          refine bodyPost_ret (by simp [results, Try.results21, go_sem, r0, r1, r2]; try rfl) rfl ?_
          refine ⟨gr_from B0.out B0.out.size (Nat.le_refl _) gp, ?_⟩
          simp
        · rw [if_neg g2]
          obtain ⟨L, rfl⟩ : ∃ L : Nat, m = L := ⟨m.toNat, by omega⟩
          have hL0 : (0 : Int) ≤ (L : Int) := by omega
          have hLn : (L : Int) ≤ (n2 : Int) := by omega
          have hLc : (L : Int) ≤ (c2 : Int) := by omega
          go_enter Try.func21, Try.ntmps21
          go_wp2_with fail
          refine (HD.out).mono ?_
          rintro e w' ⟨rfl, rfl⟩
          go_wp2_with fail
          refine (HD2.out).mono ?_
          rintro e w' ⟨rfl, rfl⟩
          go_upto_region 13 with fail
          go_region
          obtain ⟨A3, hA3⟩ : ∃ a, (if c2 = L then A2 else Option.map (fun x => x.add L) A2) = a := ⟨_, rfl⟩
          have S3 := bsl_drop S2.out L (by rw [HL2.out]; omega)
          have HNI3 := fun v (h : NotIn v (.slice A n c)) => notIn_drop (HNI2.out v h) L
          rw [hA3] at S3 HNI3 ⊢
          obtain ⟨k1, gp⟩ := bk3_blkP Z0.out (.int .i64 kd) (.slice A2 L c2) (.slice A3 (n2 - L) (c2 - L))
          obtain ⟨w3, hw3⟩ : ∃ q, (((V0.setCell ⟨W.heap.size, 0, none⟩ (.int .i64 kd)).setCell ⟨W.heap.size, 1, none⟩ (.slice A2 L c2)).setCell ⟨W.heap.size, 2, none⟩ (.slice A3 (n2 - L) (c2 - L))).drew = q := ⟨_, rfl⟩
          have k3 : w3.heap[W.heap.size]? = some (.cells #[.int .i64 kd, .slice A2 L c2, .slice A3 (n2 - L) (c2 - L)] 49 (0, 0)) := by rw [← hw3]; exact k1
          have g3 : V0.grownBy w3 (some W.heap.size) := by rw [← hw3]; exact ⟨gp.os, gp.tape, gp.output, gp.size, gp.block⟩
          rw [hw3]
          obtain ⟨r0, r1, r2⟩ := bk3T k3
          clear k1 gp hw3
          go_wp2_with fail
          refine bodyPost_ret (by simp [results, Try.results21, go_sem, r0, r1, r2]; try rfl) rfl ?_
          refine ⟨gr_from B0.out B0.out.size (Nat.le_refl _) g3, ?_⟩
          refine ⟨A2, L, c2, A3, n2 - L, c2 - L, rfl, ?_, ?_, HNI3⟩
          · exact ((rq_bsl_take S2.out L (by rw [HL2.out]; omega)).grP Z0.out g3).more g3.size
          · exact (S3.grP Z0.out g3).more g3.size
end Go.Proofs.Ytpfahdogedchpaa
