/- What a pace answers where nothing is refused. -/
import Derived.Test.YtlafjladlkbnoaaPaceLawW
import Derived.Test.YtlafjladlkbnoaaPick
namespace Go.Proofs.Ytlafjladlkbnoaa
set_option linter.unusedVariables false
open Go.RowKit P

theorem paF_yes {wd th fl si : Int} (h0 : 200 ≤ wd) (h1 : wd ≤ 1099511627776) (h2 : mtB th) (h3 : mtB fl) (h4 : -1 ≤ si) (h5 : si ≤ 1099511627776) : paF wd th fl si = 0 := if_pos ⟨h0, h1, h2, h3, h4, h5⟩
theorem paE_yes {wd th fl si : Int} {l : List Int} (hf : paF wd th fl si = 0) (hl : mtL l) : paE wd th fl si l = 0 := by unfold paE; rw [if_neg (fun k => k hf), if_pos hl]
theorem paS_yes {wd th fl si n : Int} (hf : paF wd th fl si = 0) (hn : mtB n) (h : fl + n ≤ wd) : paS wd th fl si n = (wd, th, fl + n, si, true, 0) := by
  unfold paS; rw [if_neg (fun k => k (paE_yes hf ⟨hn, trivial⟩)), if_neg (by omega)]
theorem paS_no {wd th fl si n : Int} (hf : paF wd th fl si = 0) (hn : mtB n) (h : wd < fl + n) : paS wd th fl si n = (wd, th, fl, si, false, 0) := by
  unfold paS; rw [if_neg (fun k => k (paE_yes hf ⟨hn, trivial⟩)), if_pos h]
theorem paH_new {wd th fl si n t : Int} (hf : paF wd th fl si = 0) (hn : mtB n) (ht : mtB t) (h : n ≤ fl) (hs : si < t) : paH wd th fl si n t = (min (wd + paG wd th n) 1099511627776, th, fl - n, si, 0) := by
  unfold paH; rw [if_neg (fun k => k (paE_yes hf ⟨hn, ht, trivial⟩)), if_neg (by omega), if_pos hs]
theorem paH_old {wd th fl si n t : Int} (hf : paF wd th fl si = 0) (hn : mtB n) (ht : mtB t) (h : n ≤ fl) (hs : t ≤ si) : paH wd th fl si n t = (wd, th, fl - n, si, 0) := by
  unfold paH; rw [if_neg (fun k => k (paE_yes hf ⟨hn, ht, trivial⟩)), if_neg (by omega), if_neg (by omega)]
theorem paH_no {wd th fl si n t : Int} (hf : paF wd th fl si = 0) (hn : mtB n) (ht : mtB t) (h : fl < n) : paH wd th fl si n t = (0, 0, 0, 0, 13) := by
  unfold paH; rw [if_neg (fun k => k (paE_yes hf ⟨hn, ht, trivial⟩)), if_pos h]
theorem paL_new {wd th fl si n t now : Int} (hf : paF wd th fl si = 0) (hn : mtB n) (ht : mtB t) (hw : mtB now) (h : n ≤ fl) (hs : si < t) : paL wd th fl si n t now = (max (wd / 2) 200, max (wd / 2) 200, fl - n, max now t, 0) := by
  unfold paL; rw [if_neg (fun k => k (paE_yes hf ⟨hn, ht, hw, trivial⟩)), if_neg (by omega), if_pos hs]
theorem paL_old {wd th fl si n t now : Int} (hf : paF wd th fl si = 0) (hn : mtB n) (ht : mtB t) (hw : mtB now) (h : n ≤ fl) (hs : t ≤ si) : paL wd th fl si n t now = (wd, th, fl - n, si, 0) := by
  unfold paL; rw [if_neg (fun k => k (paE_yes hf ⟨hn, ht, hw, trivial⟩)), if_neg (by omega), if_neg (by omega)]
end Go.Proofs.Ytlafjladlkbnoaa
