/- Contract of package head: token. -/
import Derived.Test.YtaccedlpnngdhaaDoorHdBegun
import Derived.Test.YtaccedlpnngdhaaDoorDec
namespace Go.Proofs.YtaccedlpnngdhaaDoor
set_option linter.unusedVariables false
open Go.RowKit P

/-- a part of a row -/
theorem brow_part {w : World} {B : Nat} {A : Option Addr} {zs : List Int} (h : BRow w B A zs) (k cap : Nat) (hc : zs.length ≤ cap) : BRow w B (if cap = k then A else A.map (·.add k)) (zs.drop k) := by
  refine ⟨h.1.drop k, fun hn => ?_⟩
  rw [List.length_drop] at hn
  obtain ⟨b, off, rfl, hb, hcell⟩ := h.2 (by omega)
  rw [if_neg (by omega)]
  refine ⟨b, off + k, by simp [Go.WideShapes.add_plain], hb, fun j hj => ?_⟩
  rw [List.length_drop] at hj
  rw [getD_drop, show off + k + j = off + (k + j) from by omega]
  exact hcell (k + j) (by omega)

/-- what is asked of a reader of Tokens -/
def TokPost (zs : List Int) (w : World) (e : Ending) (w' : World) : Prop :=
  Below w.heap.size w w' ∧ match decTok zs with
  | .error x => e = .returned (.tuple #[.slice none 0 0, .int .i64 0, .int .i64 x])
  | .ok (t, u) => ∃ v, e = .returned (.tuple #[v, .int .i64 ((zs.length : Int) - u.length), .int .i64 0]) ∧ BSl w' w'.heap.size v t ∧ ∀ k, v.ownBlock = some k → w.heap.size ≤ k
theorem tok_er {zs : List Int} {w w' : World} {e : Ending} {x : Int} (hd : decTok zs = .error x) (h : e = .returned (.tuple #[.slice none 0 0, .int .i64 0, .int .i64 x]) ∧ Below w.heap.size w w') : TokPost zs w e w' := by
  unfold TokPost
  rw [hd]
  exact ⟨h.2, h.1⟩
theorem tok_ok {zs t u : List Int} {w w' : World} {e : Ending} {v : Value} {n : Int} (hd : decTok zs = .ok (t, u)) (he : e = .returned (.tuple #[v, .int .i64 n, .int .i64 0])) (hn : n = (zs.length : Int) - u.length) (hb : Below w.heap.size w w') (hv : BSl w' w'.heap.size v t) (ho : ∀ k, v.ownBlock = some k → w.heap.size ≤ k) : TokPost zs w e w' := by
  unfold TokPost
  rw [hd]
  subst hn
  exact ⟨hb, v, he, hv, ho⟩

set_option maxHeartbeats 2000000 in
theorem token_any (A : Option Addr) (n c : Nat) (zs : List Int) (w : World) (h : BRow w w.heap.size A zs) (hzn : zs.length = n) (hl : n ≤ c) (hm : c ≤ maxLen) (hA : A = none → c = 0) (hn : n ≤ 140737488355328) :
    Calls Tryd.prog 23 #[.slice A n c] w (TokPost zs w) := by
  have HR := Lib.hid h
  have HA := Lib.hid hA
  by_cases hd : decOk zs
  · have HD := Lib.hid hd
    have hk := kOf_bd (zs.getD 0 0)
    obtain ⟨k, hkk⟩ : ∃ k : Nat, kOf (zs.getD 0 0) = (k : Int) := ⟨(kOf (zs.getD 0 0)).toNat, by omega⟩
    have hdk := hd.2
    have hv := decV_bd zs h.1 hd
    obtain ⟨v, hvv⟩ : ∃ v, decV zs = v := ⟨_, rfl⟩
    rw [hkk] at hk hdk
    rw [hvv] at hv
    have hrd : rd zs = .ok (v, zs.drop k) := by unfold rd; rw [if_pos hd, hvv, hkk]; rfl
    have HRD := Lib.hid hrd
    have HDC := Lib.hid (fun w (h : BRow w w.heap.size A zs) => hkk ▸ hvv ▸ decode_yes A n c w.heap.size zs w h hzn hl hm hd)
    clear hkk hvv hrd hd hA h
    by_cases g : 120 < v
    · have HT := Lib.hid (show decTok zs = .error 1 by unfold decTok; rw [HRD.out]; simp only; rw [if_pos g])
      go_enter Tryd.func23, Tryd.ntmps23
      go_wp2_with (go_at_call 30; refine (HDC.out _ HR.out).mono ?_; rintro e w' ⟨rfl, rfl⟩)
      go_ret3
      exact tok_er HT.out ⟨rfl, Below.refl _ _⟩
    · obtain ⟨j, rfl⟩ : ∃ j : Nat, v = (j : Int) := ⟨v.toNat, by omega⟩
      by_cases q : n < k + j
      · have HT := Lib.hid (show decTok zs = .error 4 by unfold decTok; rw [HRD.out]; simp only; rw [if_neg g, if_pos (by rw [List.length_drop]; omega)])
        have q' : decide ((n : Int) - k < j) = true := by simp; omega
        go_enter Tryd.func23, Tryd.ntmps23
        go_wp2_with (go_at_call 30; refine (HDC.out _ HR.out).mono ?_; rintro e w' ⟨rfl, rfl⟩)
        go_ret3
        exact tok_er HT.out ⟨rfl, Below.refl _ _⟩
      · have HT := Lib.hid (show decTok zs = .ok ((zs.drop k).take j, (zs.drop k).drop j) by unfold decTok; rw [HRD.out]; simp only; rw [if_neg g, if_neg (by rw [List.length_drop]; omega)]; rfl)
        have q' : decide ((n : Int) - k < j) = false := by simp; omega
        have hlj : ((zs.drop k).take j).length = j := by rw [List.length_take, List.length_drop]; omega
        have HP := Lib.hid (show BSl w w.heap.size (.slice (if c = k then A else A.map (·.add k)) j (c - k)) ((zs.drop k).take j) from ⟨_, _, by rw [hlj], by rw [hlj]; omega, by unfold maxLen at *; omega, fun e => by
          by_cases ck : c = k
          · omega
          · rw [if_neg ck] at e
            have := HA.out (by simpa using e)
            omega, (brow_part HR.out k c (by omega)).take j⟩)
        go_enter Tryd.func23, Tryd.ntmps23
        go_wp2_with (first
          | (go_at_call 30; refine (HDC.out _ HR.out).mono ?_; rintro e w' ⟨rfl, rfl⟩)
          | (go_at_call 31; refine (bclone_any _ _ _ _ (Nat.le_refl _) HP.out (by omega)).mono ?_; rintro e w1 ⟨u, rfl, o1, b1⟩; have O1 := Lib.hid o1; have B1 := Lib.hid b1; clear o1 b1))
        all_goals
          go_ret3
          exact tok_ok HT.out rfl (by rw [List.length_drop, List.length_drop]; omega) B1.out (own_bsl O1.out ((HR.out.1.drop k).take j)) (fun k hk => (World.ownsRow.lt O1.out k hk).1)
  · have HT := Lib.hid (show decTok zs = .error 4 by unfold decTok rd; rw [if_neg hd])
    have HD := Lib.hid hd
    clear hd hA h
    go_enter Tryd.func23, Tryd.ntmps23
    go_wp2_with (go_at_call 30; refine (decode_no A n c w.heap.size zs w HR.out hzn hl hm HD.out).mono ?_; rintro e w' ⟨rfl, rfl⟩)
    go_ret3
    exact tok_er HT.out ⟨rfl, Below.refl _ _⟩
end Go.Proofs.YtaccedlpnngdhaaDoor
