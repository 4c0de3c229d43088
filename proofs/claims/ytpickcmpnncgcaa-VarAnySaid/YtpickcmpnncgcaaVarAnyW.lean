/- VarAny's walk. -/
import Derived.Test.YtpickcmpnncgcaaDec
namespace Go.Proofs.Ytpickcmpnncgcaa
open Go.RowKit P

theorem varAny_walk (a : Option Addr) (len cap : Nat) (z : List Int) (w : World) (h : InRow w a len cap z) :
    Calls Try.prog 5 #[.slice a len cap] w fun e w' => e = .returned (.bool true) ∧ Below w.heap.size w w' := by
  obtain ⟨hr, hn, hl, hm⟩ := h.brow
  generalize z.take len = zs at hr hn
  clear h
  by_cases hok : decOk zs
  · have bd := decV_bd zs hr.1 hok
    have hy := decode_yes a len cap _ zs w hr hn hl hm hok
    have hk2 := hok.2
    rw [hn] at hk2
    clear hok hr hn
    generalize decV zs = v at *
    generalize kOf (zs.getD 0 0) = k at *
    unfold maxLen at hm
    have HY := Lib.hid hy
    clear hy
    go_enter Try.func5, Try.ntmps5
    go_wp2_with (first | (go_at_call 6; first | (with_reducible (refine HY.out.mono ?_); rintro e w' ⟨rfl, rfl⟩) | (refine (decode_nil _ _ _).mono ?_; rintro e w' ⟨rfl, rfl⟩)) | (go_at_call 9; refine (size_in _ (by omega) (by omega) _).mono ?_; rintro e w' ⟨rfl, rfl⟩))
    go_ret
    exact ⟨rfl, Below.refl _ _⟩
  · have HY := Lib.hid (decode_no a len cap _ zs w hr hn hl hm hok)
    clear hr hn
    unfold maxLen at hm
    go_enter Try.func5, Try.ntmps5
    go_wp2_with (go_at_call 6; first | (with_reducible (refine HY.out.mono ?_); rintro e w' ⟨rfl, rfl⟩) | (refine (decode_nil _ _ _).mono ?_; rintro e w' ⟨rfl, rfl⟩))
    go_ret
    exact ⟨rfl, Below.refl _ _⟩
end Go.Proofs.Ytpickcmpnncgcaa
