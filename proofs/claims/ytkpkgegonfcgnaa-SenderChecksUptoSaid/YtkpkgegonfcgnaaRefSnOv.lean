/- The document's SenderOver (P10.7). -/
import Derived.Test.YtkpkgegonfcgnaaRefSnFault
import Derived.Test.YtkpkgegonfcgnaaSnWo
import Derived.Test.YtkpkgegonfcgnaaRefWo
namespace Go.Proofs.Ytkpkgegonfcgnaa
set_option linter.unusedVariables false
open Go.RowKit P

set_option maxRecDepth 100000 in
set_option maxHeartbeats 1000000 in
theorem refSnOv_any : SnOv Try.prog 14 := by
  intro v s w hv hw
  have HC := Lib.hid (fun w' (hb : Below w.heap.size w w') => refSnF_any v s w' (hv.on hb) hw)
  unfold overS
  obtain ⟨d, l, a, rfl, hd, hl, ha⟩ := hv.ex
  obtain ⟨Ad, cd, rfl, hdc, hdm, hdn, hdr⟩ := hd.ex
  obtain ⟨Aa, ca, rfl, hac, ham, har⟩ := ha.ex
  have B0 := Lib.hid ((Below.refl w.heap.size w).alloc (Nat.le_refl _) (.cells #[.slice Ad s.data.length cd, .bool s.fin, .int .i64 s.next, .int .i64 s.mx, l, .slice Aa s.acked.length ca, .bool s.ended, .bool s.over] 25))
  have F0 := Lib.hid (heap_alloc_new w (.cells #[.slice Ad s.data.length cd, .bool s.fin, .int .i64 s.next, .int .i64 s.mx, l, .slice Aa s.acked.length ca, .bool s.ended, .bool s.over] 25))
  have hal := hw.al
  by_cases hf : faultSn s = 0
  · have ok := (fault_iff s).1 hf
    have HALL := Lib.hid (wos_all ok)
    have HOK := Lib.hid ok.2.2.2.2.1
    have hdl := ok.1
    have HR := Lib.hid har
    obtain ⟨init, hinit⟩ : ∃ x, x = (if s.data.length = 0 then [] else [(0, (s.data.length : Int) - 1)] : List (Int × Int)) := ⟨_, rfl⟩
    have HI := Lib.hid (show okL init ∧ init.length ≤ 1 by
      rw [hinit]
      split
      · exact ⟨trivial, by simp⟩
      · exact ⟨okL_one ⟨Int.le_refl _, by simp only; omega, by simp only; omega⟩, by simp⟩)
    have HE := Lib.hid (show wosL init s.acked = [] ↔ allA s = true by
      rw [← HALL.out, hinit]
      split
      · constructor
        · intro _; rfl
        · intro _
          have := (wos_ok s.acked (show okL [] from trivial) (okL_all HOK.out))
          refine ok_ext this.1 (show okL [] from trivial) fun n => ⟨fun hn => ?_, fun hn => hn.elim⟩
          exact ((this.2.1 n).1 hn).1.elim
      · exact Iff.rfl)
    rw [if_neg (fun e => e hf)]
    rw [hf] at HC
    obtain ⟨nd, hnd⟩ : ∃ n, s.data.length = n := ⟨_, rfl⟩
    obtain ⟨na, hna⟩ : ∃ n, s.acked.length = n := ⟨_, rfl⟩
    obtain ⟨qs, hqs⟩ : ∃ n, s.acked = n := ⟨_, rfl⟩
    obtain ⟨ov, hov⟩ : ∃ n, s.over = n := ⟨_, rfl⟩
    obtain ⟨al, hal2⟩ : ∃ n, allA s = n := ⟨_, rfl⟩
    rw [hal2] at HE
    rw [hqs] at HE HOK HR
    rw [hnd] at hinit hdl HC B0 F0 ⊢
    rw [hna] at hal HC B0 F0 ⊢
    have HN := Lib.hid (show qs.length = na by rw [← hqs]; exact hna)
    have HINI := Lib.hid hinit
    simp only
    rw [hal2, hov]
    rw [hov] at HC B0 F0
    clear hv hd hl ha hdr har hdn hdc hdm hac ham ok hnd hna hqs hov hal2 HALL hw hf hinit
    go_enter Try.func14, Try.ntmps14
    have hw1 : IntKind.i64.wrap ((nd : Int) - 1) = (nd : Int) - 1 := by rw [IntKind.wrap_i64]; omega
    go_upto_region 4 with (first
      | (go_at_call 13; refine (HC.out _ B0.out).mono ?_; rintro e w1 ⟨rfl, b1⟩; have B1 := Lib.hid (B0.out.trans (b1.mono B0.out.size)); have F1 := Lib.hid ((b1.block _ (lt_of_block F0.out)).trans F0.out); clear b1; obtain ⟨q0, q1, q2, q3, q4, q5, q6, q7⟩ := bkS F1.out))
    go_upto_region 5 with fail
    have X1 := Lib.hid ((Below.refl w1.heap.size w1).alloc (Nat.le_refl _) (.cells #[.int .i64 0, .int .i64 ((nd : Int) - 1)] 61))
    have R1 := Lib.hid (RRow.one w1 0 ((nd : Int) - 1) 61)
    have BX := Lib.hid (B1.out.trans (X1.out.mono B1.out.size))
    have FX := Lib.hid ((X1.out.block _ (lt_of_block F1.out)).trans F1.out)
    have hsx : w1.heap.size + 1 ≤ (w1.alloc (.cells #[.int .i64 0, .int .i64 ((nd : Int) - 1)] 61)).heap.size := by simp
    have RX := Lib.hid (R1.out.more hsx)
    clear R1 q0 q1 q2 q3 q4 q5 q6 q7 hsx
    obtain ⟨q0, q1, q2, q3, q4, q5, q6, q7⟩ := bkS FX.out
    go_upto_if 22 with fail
    go_cut [5] from 19 to 22 (fun u wx => ∃ A m c, u = .slice A m c ∧ Hid (init.length = m) ∧ Hid (RRow wx wx.heap.size A init) ∧ Hid (Below w.heap.size w wx) ∧ Hid (wx.heap[w.heap.size]? = some (.cells #[.slice Ad nd cd, .bool s.fin, .int .i64 s.next, .int .i64 s.mx, l, .slice Aa na ca, .bool s.ended, .bool ov] 25 (0, 0))))
    case first =>
      by_cases h0 : nd = 0
      · have HN0 := Lib.hid (HINI.out.trans (if_pos h0))
        have e0 : ((nd : Int) == 0) = true := by simp; omega
        clear h0
        go_wp2_with fail
        go_meet
        exact ⟨none, 0, 0, rfl, by rw [HN0.out]; rfl, by rw [HN0.out]; exact RRow.nil _ _ _, BX, FX⟩
      · have HN0 := Lib.hid (HINI.out.trans (if_neg h0))
        have e0 : ((nd : Int) == 0) = false := by simp; omega
        go_wp2_with fail
        go_meet
        exact ⟨_, 1, 1, rfl, by rw [HN0.out]; rfl, by rw [HN0.out]; exact RX.out, BX, FX⟩
    case rest =>
    obtain ⟨A0, m0, c0, rfl, HM0, RI0, B2, F2⟩ := hcut
    obtain ⟨wc2, hwc2⟩ : ∃ x, x = wc := ⟨_, rfl⟩
    subst wc
    clear BX FX RX X1 q0 q1 q2 q3 q4 q5 q6 q7 F1 B1 hw1
    obtain ⟨q0, q1, q2, q3, q4, q5, q6, q7⟩ := bkS F2.out
    go_wp2_with fail
    go_loopg [5, 26] na (fun g u i wr => ∃ (k : Nat) (A : Option Addr) (m c : Nat), k + g = na ∧ i = .int .i64 k ∧ u = .slice A m c ∧ Hid ((wosL init (qs.take k)).length = m) ∧ Hid (RRow wr wr.heap.size A (wosL init (qs.take k))) ∧ Hid (Below w.heap.size w wr) ∧ Hid (wr.heap[w.heap.size]? = some (.cells #[.slice Ad nd cd, .bool s.fin, .int .i64 s.next, .int .i64 s.mx, l, .slice Aa na ca, .bool s.ended, .bool ov] 25 (0, 0))))
    case atStart => exact ⟨0, A0, m0, c0, by omega, rfl, rfl, HM0, RI0, B2, F2⟩
    case round =>
      obtain ⟨k, A, m, c, hk, rfl, rfl, HM, RW, BX, FX⟩ := hrel
      by_cases hlt : k < na
      · obtain ⟨b, off, rfl, hbb, hc⟩ := HR.out (by rw [HN.out]; omega)
        obtain ⟨d0, d1⟩ := hc k (by rw [HN.out]; omega)
        have pk := Lib.hid (ok_get HOK.out k (by rw [HN.out]; omega))
        have HS := Lib.hid (wos_snoc init qs k (by rw [HN.out]; omega))
        have w0 := wos_ok (qs.take k) HI.out.1 (okL_all (okFrom_take HOK.out k))
        have OKW := Lib.hid w0.1
        have lw := w0.2.2
        rw [HM.out, List.length_take, HN.out] at lw
        have hi1 := HI.out.2
        have hm16 : (m + 2) * 16 ≤ 140737488355328 := by omega
        obtain ⟨⟨plo, phi⟩, hq⟩ : ∃ p, qs.getD k (0, 0) = p := ⟨_, rfl⟩
        rw [hq] at d0 d1 HS pk
        simp only at d0 d1
        have i1 : (k : Int) < (na : Int) := by omega
        have e0 := (BX.out.cell hbb).trans d0
        have e1 := (BX.out.cell hbb).trans d1
        have BA := Lib.hid (BX.out.alloc BX.out.size (.cells #[.int .i64 plo, .int .i64 phi] 61))
        have RA := Lib.hid (RW.out.on ((Below.refl wr.heap.size wr).alloc (Nat.le_refl _) (.cells #[.int .i64 plo, .int .i64 phi] 61)))
        have FA := Lib.hid ((Below.heap_alloc wr (.cells #[.int .i64 plo, .int .i64 phi] 61) _ (lt_of_block FX.out)).trans FX.out)
        clear hc d0 d1 hq q0 q1 q2 q3 q4 q5 q6 q7 w0 lw hi1
        obtain ⟨q0, q1, q2, q3, q4, q5, q6, q7⟩ := bkS FA.out
        go_wp2_with (first
          | (go_at_call 40; refine (without_any _ _ _ _ _ _ _ RA.out HM.out OKW.out pk.out hm16).mono ?_; rintro e w3 ⟨v3, rfl, o3, b3⟩; have O3 := Lib.hid o3; have B3 := Lib.hid (BA.out.trans (b3.mono BA.out.size)); have F3 := Lib.hid ((b3.block _ (lt_of_block FA.out)).trans FA.out); clear o3 b3))
        go_roundg (gk - 1)
        case measure => omega
        case rel =>
          obtain ⟨A4, c4, hv4, _, _, r4⟩ := O3.out.slice
          rw [← HS.out] at hv4 r4
          exact ⟨k + 1, A4, _, c4, by omega, by first | rfl | go_num, hv4, rfl, r4, B3, F3⟩
      · have e := Lib.hid (show qs.take k = qs from List.take_of_length_le (by rw [HN.out]; omega))
        rw [e.out] at HM RW
        clear q0 q1 q2 q3 q4 q5 q6 q7
        obtain ⟨q0, q1, q2, q3, q4, q5, q6, q7⟩ := bkS FX.out
        have hal' : al = decide (m = 0) := by
          rw [← HM.out]
          cases al with
          | true => rw [HE.out.2 rfl]; rfl
          | false =>
            refine (decide_eq_false fun h => ?_).symm
            have := HE.out.1 (List.eq_nil_of_length_eq_zero h)
            cases this
        cases ov with
        | true =>
          go_wp2_with fail
          go_ret2
          refine ⟨?_, BX.out⟩
          rw [hal']
          by_cases hm0 : m = 0
          · subst hm0; rfl
          · simp [hm0] <;> omega
        | false =>
          go_wp2_with fail
          go_ret2
          exact ⟨by first | rfl | simp, BX.out⟩
  · rw [if_pos hf]
    obtain ⟨x, hx⟩ : ∃ x, faultSn s = x := ⟨_, rfl⟩
    rw [hx] at HC hf ⊢
    have gx : (x != 0) = true := by simp [hf]
    clear hf hx hd hl ha hdr har hdn hdc hdm hac ham hw hv
    go_enter Try.func14, Try.ntmps14
    go_wp2_with (first
      | (go_at_call 13; refine (HC.out _ B0.out).mono ?_; rintro e w1 ⟨rfl, b1⟩; have B1 := Lib.hid (B0.out.trans (b1.mono B0.out.size)); clear b1))
    go_ret2
    exact ⟨rfl, B1.out⟩
end Go.Proofs.Ytkpkgegonfcgnaa
