/- The project's writers: Text with a row that may be written on; number, text. -/
import Derived.Test.YtlddbojfikkhfaaTRow
import Derived.Test.YtlddbojfikkhfaaPxTxt
namespace Go.Proofs.Ytlddbojfikkhfaa
set_option linter.unusedVariables false
open Go.RowKit P

set_option maxHeartbeats 1000000 in
theorem pxTextW_any (first wi : Int) (M : List Int) (w : World) (hM : Byt M) (hb : M.length ≤ 120) (f0 : 0 ≤ first) (f1 : first < 256) (w0 : -9223372036854775808 ≤ wi) (w1 : wi ≤ 9223372036854775807) (hok : pxF first wi M.length = 0) :
    Calls Try.prog 89 #[.int .u8 first, .int .i64 wi, .string (strOfNums M)] w fun e w' => Below w.heap.size w w' ∧ ∃ d, e = .returned (.tuple #[d, .int .i64 0]) ∧ WRow w' w.heap.size 5 d (pxTL first wi M) := by
  have hsz : (strOfNums M).size = M.length := strOfNums_size M
  have HL := Lib.hid (show pxTL first wi M = pxL first wi M.length ++ M from rfl)
  have e1 : decide ((120 : Int) < (M.length : Int)) = false := by simp; omega
  have HEN := Lib.hid (fun w => pxEnc_any first wi M.length w f0 f1 w0 w1)
  have HLE := Lib.hid ((pxL_len (first := first) (w := wi) (n := (M.length : Int)) hok).2)
  have HPO := Lib.hid (show 0 < (pxL first wi M.length).length by unfold pxL; split <;> simp)
  have HSR := Lib.hid (fun w => (by have := Src.ofString (P := Try.prog) w (tx := 9) Try.underlying9 (strOfNums M); rw [hsz, strCells_nums M hM] at this; exact this : Src Try.prog 1 9 (.string (strOfNums M)) M.length (M.map (.int .u8)) w))
  obtain ⟨S, hS⟩ : ∃ S, strOfNums M = S := ⟨_, rfl⟩
  rw [hS] at hsz HSR ⊢
  obtain ⟨L, hL⟩ : ∃ L, pxL first wi M.length = L := ⟨_, rfl⟩
  rw [hL] at HL HEN HLE HPO
  rw [hok] at HEN
  have HNN := Lib.hid hb
  obtain ⟨N, hN⟩ : ∃ N, M.length = N := ⟨_, rfl⟩
  have HN := Lib.hid hN
  rw [hN] at hsz e1 HEN
  have hN120 : N ≤ 120 := by omega
  clear hS hL hb hM hN f0 f1 w0 w1
  go_enter Try.func89, Try.ntmps89
  go_wp2_with fail
  refine (HEN.out _).mono ?_
  rintro e w1 ⟨b1, d, rfl, _, hy⟩
  have B1 := Lib.hid b1
  have WR := Lib.hid (hy rfl)
  clear b1 hy
  go_wp2_with (at_builtin
               go_loud (refine wpList_appT rfl (.tmp 24) (.tmp 25) 9 rfl w.heap.size d (.string S) L M rfl rfl (HSR.out _) (.inr WR.out) (by have := HPO.out; omega) (by have := HLE.out; have := HNN.out; omega) B1.out.size ?_)
               intro v2 w2 h2 g2 _
               have B2 := Lib.hid (B1.out.grown g2 B1.out.size (fun k e => (trow_lt (.inr WR.out) k e).1))
               have R2 := Lib.hid h2
               clear h2 g2)
  go_ret2
  exact ⟨B2.out, _, rfl, by rw [HL.out]; exact R2.out⟩
theorem number_any (first wi n : Int) (w : World) (f0 : 0 ≤ first) (f1 : first < 256) (w0 : -9223372036854775808 ≤ wi) (w1 : wi ≤ 9223372036854775807) (hok : pxF first wi n = 0) :
    Calls Try.prog 60 #[.int .u8 first, .int .i64 wi, .int .i64 n] w fun e w' => Below w.heap.size w w' ∧ ∃ d, e = .returned d ∧ WRow w' w.heap.size 5 d (pxL first wi n) := by
  have HEN := Lib.hid (fun w => pxEnc_any first wi n w f0 f1 w0 w1)
  rw [hok] at HEN
  obtain ⟨L, hL⟩ : ∃ L, pxL first wi n = L := ⟨_, rfl⟩
  rw [hL] at HEN ⊢
  clear hL hok f0 f1 w0 w1
  go_enter Try.func60, Try.ntmps60
  go_wp2_with fail
  refine (HEN.out _).mono ?_
  rintro e w1 ⟨b1, d, rfl, _, hy⟩
  have B1 := Lib.hid b1
  have WR := Lib.hid (hy rfl)
  clear b1 hy
  go_wp2_with fail
  go_ret
  exact ⟨B1.out, _, rfl, WR.out⟩
theorem text_any (first wi : Int) (M : List Int) (w : World) (hM : Byt M) (hb : M.length ≤ 120) (f0 : 0 ≤ first) (f1 : first < 256) (w0 : -9223372036854775808 ≤ wi) (w1 : wi ≤ 9223372036854775807) (hok : pxF first wi M.length = 0) :
    Calls Try.prog 83 #[.int .u8 first, .int .i64 wi, .string (strOfNums M)] w fun e w' => Below w.heap.size w w' ∧ ∃ d, e = .returned d ∧ WRow w' w.heap.size 5 d (pxTL first wi M) := by
  have HEN := Lib.hid (fun w => pxTextW_any first wi M w hM hb f0 f1 w0 w1 hok)
  obtain ⟨L, hL⟩ : ∃ L, pxTL first wi M = L := ⟨_, rfl⟩
  obtain ⟨S, hS⟩ : ∃ S, strOfNums M = S := ⟨_, rfl⟩
  rw [hL] at HEN ⊢
  rw [hS] at HEN ⊢
  clear hL hS hM hb hok f0 f1 w0 w1
  go_enter Try.func83, Try.ntmps83
  go_wp2_with fail
  refine (HEN.out _).mono ?_
  rintro e w1 ⟨b1, d, rfl, hy⟩
  have B1 := Lib.hid b1
  have WR := Lib.hid hy
  clear b1 hy
  go_wp2_with fail
  go_ret
  exact ⟨B1.out, _, rfl, WR.out⟩
end Go.Proofs.Ytlddbojfikkhfaa
