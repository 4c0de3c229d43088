/- Texts behind bits: the project's prefix.Text, the document's TextBytes. -/
import Derived.Test.YtlddbojfikkhfaaGrpE
import Derived.Test.YtlddbojfikkhfaaRefPxB
namespace Go.Proofs.Ytlddbojfikkhfaa
set_option linter.unusedVariables false
open Go.RowKit P

/-- what Text says, by P13.3 -/
def pxTF (first w : Int) (M : List Int) : Int := if 120 < M.length then 1 else pxF first w M.length
def pxTL (first w : Int) (M : List Int) : List Int := pxL first w M.length ++ M
def PxTxt (P : Program) (f : FuncId) : Prop := ∀ (first wi : Int) (M : List Int) (w : World), Byt M → M.length ≤ 140737488355328 → 0 ≤ first → first < 256 → -9223372036854775808 ≤ wi → wi ≤ 9223372036854775807 → Calls P f #[.int .u8 first, .int .i64 wi, .string (strOfNums M)] w (PxPost (pxTF first wi M) (pxTL first wi M) w)
theorem wpList_appS {w : World} {ops : Array Oper} {rest : List Oper} {o : Oper} {a : Act} {Q : Exit → Act → World → Prop} (hgd : o.guard = none) (sl x : Operand)
    (ho : o.op = .call { callee := .builtin .append, args := #[sl, x], argTypes := #[27, 9] })
    (base : Nat) (v : Value) (L M : List Int) (hs : a.eval sl = v) (hx : a.eval x = .string (strOfNums M)) (hW : WRow w base 5 v L) (hL : Byt L) (hM : Byt M) (hm : L.length + M.length ≤ 140737488355328) (hbase : base ≤ w.heap.size)
    (h : ∀ v' w', Below base w w' → BSl w' w'.heap.size v' (L ++ M) → wpList Try.prog ops Q rest (a.put o.dst v') w') : wpList Try.prog ops Q (o :: rest) a w := by
  refine wpList_plain hgd fun K hK => ?_
  obtain ⟨v', w', hr, h2, h3⟩ := wrow_app o.type hW hL hM hm hbase
  unfold Oper.wp execOp
  simp only [ho, resolve, invoke, builtin, Sem.run_bind, Sem.run_pure, Result.andThen_ok, List.map_toArray, List.map_cons, List.map_nil, hs, hx, hr]
  exact hK _ _ (h v' w' h2 h3)

set_option maxHeartbeats 1000000 in
theorem pxText_any : PxTxt Try.prog 89 := fun first wi M w hM hl f0 f1 w0 w1 => by
  have hsz : (strOfNums M).size = M.length := strOfNums_size M
  have NO := Lib.hid (show ∀ x, x ≠ 0 → ∀ w', Below w.heap.size w w' → PxPost x (pxTL first wi M) w (.returned (.tuple #[.slice none 0 0, .int .i64 x])) w' from fun x hx w' hb => ⟨hb, _, rfl, by rw [if_neg hx]; exact px_none w'⟩)
  by_cases hb : 120 < M.length
  · have HF := Lib.hid (show pxTF first wi M = 1 from if_pos hb)
    rw [HF.out]
    have e1 : decide ((120 : Int) < (M.length : Int)) = true := by simp; omega
    obtain ⟨S, hS⟩ : ∃ S, strOfNums M = S := ⟨_, rfl⟩
    rw [hS] at hsz ⊢
    obtain ⟨N, hN⟩ : ∃ N, M.length = N := ⟨_, rfl⟩
    rw [hN] at hsz e1
    clear hS hN hb hl
    go_enter Try.func89, Try.ntmps89
    go_wp2_with fail
    go_ret2
    exact NO.out 1 (by decide) _ (Below.refl _ _)
  · have HF := Lib.hid (show pxTF first wi M = pxF first wi M.length from if_neg hb)
    have HL := Lib.hid (show pxTL first wi M = pxL first wi M.length ++ M from rfl)
    have e1 : decide ((120 : Int) < (M.length : Int)) = false := by simp; omega
    have HEN := Lib.hid (fun w => pxEnc_any first wi M.length w f0 f1 w0 w1)
    have HBY := Lib.hid (fun h => pxL_byt' f0 f1 (n := M.length) (w := wi) h)
    have HLE := Lib.hid (fun h => (pxL_len (first := first) (w := wi) (n := (M.length : Int)) h).2)
    rw [HF.out]
    obtain ⟨S, hS⟩ : ∃ S, strOfNums M = S := ⟨_, rfl⟩
    have HS := Lib.hid hS.symm
    rw [hS] at hsz ⊢
    obtain ⟨L, hL⟩ : ∃ L, pxL first wi M.length = L := ⟨_, rfl⟩
    obtain ⟨x, hx⟩ : ∃ x, pxF first wi M.length = x := ⟨_, rfl⟩
    rw [hL] at HL HEN HBY HLE
    rw [hx] at HEN HBY HLE ⊢
    have HMB := Lib.hid hM
    obtain ⟨N, hN⟩ : ∃ N, M.length = N := ⟨_, rfl⟩
    have HNN := Lib.hid hN
    rw [hN] at hsz e1 HEN
    have hN120 : N ≤ 120 := by omega
    clear hS hL hx hb hl hM hN f0 f1 w0 w1 HF
    by_cases h0 : x = 0
    · subst h0
      have HBY0 := Lib.hid (HBY.out rfl)
      have HLE0 := Lib.hid (HLE.out rfl)
      clear HBY HLE
      go_enter Try.func89, Try.ntmps89
      go_wp2_with fail
      refine (HEN.out _).mono ?_
      rintro e w1 ⟨b1, d, rfl, _, hy⟩
      have B1 := Lib.hid b1
      have WR := Lib.hid (hy rfl)
      clear b1 hy
      go_wp2_with (at_builtin
                   go_loud (refine wpList_appS rfl (.tmp 24) (.tmp 25) rfl w.heap.size d L M rfl (by rw [← HS.out]; rfl) WR.out HBY0.out HMB.out (by have := HLE0.out; have := HNN.out; omega) B1.out.size ?_)
                   intro v2 w2 b2 hb2
                   have B2 := Lib.hid (B1.out.trans b2)
                   have R2 := Lib.hid hb2
                   clear b2 hb2)
      go_ret2
      exact ⟨B2.out, _, rfl, by rw [if_pos rfl, HL.out]; exact R2.out⟩
    · have g : (x != 0) = true := by simp [h0]
      have HX := Lib.hid h0
      clear h0
      go_enter Try.func89, Try.ntmps89
      go_wp2_with fail
      refine (HEN.out _).mono ?_
      rintro e w1 ⟨b1, d, rfl, hd, _⟩
      obtain rfl := hd HX.out
      have B1 := Lib.hid b1
      clear b1 hd
      go_wp2_with fail
      go_ret2
      exact NO.out x HX.out _ B1.out

end Go.Proofs.Ytlddbojfikkhfaa
