/- Several texts in one. -/
import Derived.Test.YtpfahdogedchpaaGrpH
/- The project's tables: last. -/
namespace Go.Proofs.Ytpfahdogedchpaa
set_option linter.unusedVariables false
open Go.RowKit P

end Go.Proofs.Ytpfahdogedchpaa
/- The project's tables: refuse, Get. -/
namespace Go.Proofs.Ytpfahdogedchpaa
set_option linter.unusedVariables false
open Go.RowKit P

/-- why Insert refuses -/
def refT (t : Tb) (f : Fld) : Int := if faultTb t ≠ 0 then faultTb t else if ¬ okFd f then 3 else if t.room < (szF f : Int) then 1 else if t.put = 4611686018427387903 then 8 else 0
theorem young_put {room : Int} {f : Fld} (h : (szF f : Int) ≤ room) (l : List Fld) : young room (l ++ [f]) = young (room - (szF f : Int)) l ++ [f] := by
  induction l with
  | nil =>
    have : (wtL [f] : Int) ≤ room := by rw [wtL_cons, wtL_nil]; omega
    rw [List.nil_append, young_fits this]
    rfl
  | cons x l ih =>
    have e : wtL (x :: l ++ [f]) = wtL (x :: l) + szF f := by rw [wtL_app, wtL_cons (x := f), wtL_nil]; rfl
    by_cases q : (wtL (x :: l) : Int) ≤ room - (szF f : Int)
    · rw [young_fits q, young_fits (by rw [e]; omega)]
    · rw [young_step (room := room - (szF f : Int)) (by omega), ← ih]
      show young room (x :: (l ++ [f])) = young room (l ++ [f])
      have e2 : wtL (x :: (l ++ [f])) = wtL (x :: l) + szF f := e
      exact young_step (by omega)
theorem insT_ref (t : Tb) (f : Fld) : insT t f = if refT t f ≠ 0 then (tb0, refT t f) else (⟨t.room, t.put + 1, young (t.room - (szF f : Int)) t.rows ++ [f]⟩, 0) := by
  unfold insT refT
  by_cases c : faultTb t ≠ 0
  · rw [if_pos c, if_pos c, if_pos c]
  · rw [if_neg c, if_neg c]
    by_cases c2 : ¬ okFd f
    · rw [if_pos c2, if_pos c2, if_pos (by decide)]
    · rw [if_neg c2, if_neg c2]
      by_cases c3 : t.room < (szF f : Int)
      · rw [if_pos c3, if_pos c3, if_pos (by decide)]
      · rw [if_neg c3, if_neg c3]
        by_cases c4 : t.put = 4611686018427387903
        · rw [if_pos c4, if_pos c4, if_pos (by decide)]
        · rw [if_neg c4, if_neg c4, if_neg (by decide), young_put (by omega)]
end Go.Proofs.Ytpfahdogedchpaa
