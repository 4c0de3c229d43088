/- The project's tables: last. -/
import Derived.Test.YtadhdghjlohpcaaTabP1
namespace Go.Proofs.Ytadhdghjlohpcaa
set_option linter.unusedVariables false
open Go.RowKit P

set_option maxHeartbeats 2000000 in
theorem last_any (A : Option Addr) (n c : Nat) (l : List Fld) (room : Int) (W : World) (h : RowE FdE W W.heap.size A l) (hn : l.length = n) (hnc : n ≤ c) (hc : c ≤ maxLen) (hm : n ≤ 1000) (hwf : ∀ x ∈ l, FdWf x) (hs : wtL l ≤ 1000000) (hroom : 0 ≤ room ∧ room ≤ 160) :
    Calls Try.prog 51 #[.slice A n c, .int .i64 room] W fun e w' => Below W.heap.size W w' ∧ ∃ v, e = .returned v ∧ OwnE FdE w' W.heap.size 57 v (young room l) := by
  have HR := Lib.hid h
  have HN := Lib.hid hn
  have HW := Lib.hid hwf
  have HS := Lib.hid hs
  have HC := Lib.hid hc
  unfold maxLen at hc
  clear h hn hwf hs
  go_enter Try.func51, Try.ntmps51
  go_wp2_with fail
  go_loopg [1, 5] n (fun gq rv iv wr => ∃ (k : Nat) (r : Int), k = gq ∧ k ≤ n ∧ rv = .int .i64 r ∧ iv = .int .i64 (k : Int) ∧ (0 ≤ r ∧ r ≤ 160) ∧ Hid (r = room - (wtL (l.drop k) : Int)) ∧ Hid (Below W.heap.size W wr))
  case atStart => exact ⟨n, room, rfl, Nat.le_refl _, rfl, rfl, hroom, Lib.hid (by rw [List.drop_eq_nil_of_le (by rw [HN.out]; exact Nat.le_refl _), wtL_nil]; simp), Lib.hid (Below.refl _ _)⟩
  case round =>
    obtain ⟨k, r, rfl, hkn, rfl, rfl, hrb, HA, BK⟩ := hrel
    cases k with
    | zero =>
      have HCL := Lib.hid (fun w (hb : Below W.heap.size W w) => fclone_any w.heap.size A n c l w (Nat.le_refl _) (HR.out.on hb) HN.out (by omega))
      have HY := Lib.hid (show young room l = l from young_fits (by have := HA.out; rw [List.drop_zero] at this; omega))
      go_wp2_with fail
      refine (HCL.out _ BK.out).mono ?_
      rintro e w1 ⟨b1, v1, rfl, o1⟩
      have B1 := Lib.hid (BK.out.trans (b1.mono BK.out.size))
      have O1 := Lib.hid (OwnE.low o1 BK.out.size)
      clear b1 o1
      go_wp2_with fail
      go_ret
      exact ⟨B1.out, _, rfl, by rw [HY.out]; exact O1.out⟩
    | succ i =>
      have hil : i < l.length := by rw [HN.out]; omega
      have hmem : l.getD i fd0 ∈ l := by rw [List.getD_eq_getElem?_getD, List.getElem?_eq_getElem hil]; exact List.getElem_mem hil
      have HX := Lib.hid (HW.out _ hmem)
      have HD := Lib.hid (drop_one hil)
      obtain ⟨b, off, hA, hb, x0, x1⟩ := fd_cells HR.out hil
      obtain ⟨x, hx⟩ : ∃ x, l.getD i fd0 = x := ⟨_, rfl⟩
      rw [hx] at x0 x1 HX HD
      have hszD : wtL (l.drop i) = szF x + wtL (l.drop (i + 1)) := by rw [HD.out, wtL_cons]
      have hwl := wtL_drop l i
      have hsz : szF x ≤ 1000000 := by have := HS.out; omega
      have HT := Lib.hid (fun w => tsize_any x w HX.out)
      unfold fdV at HT
      have hcut := RowE.cut HR.out (i + 1) c (by rw [HN.out]; exact hnc)
      have HCL1 := Lib.hid (fun (hc : c = i + 1) w (hb : Below W.heap.size W w) => fclone_any w.heap.size (some ⟨b, off, none⟩) (n - (i + 1)) 0 (l.drop (i + 1)) w (Nat.le_refl _) (by rw [List.drop_eq_nil_of_le (by rw [HN.out]; omega)]; exact RowE.nil _ _ _) (by rw [List.length_drop, HN.out]) (by omega))
      have HCL2 := Lib.hid (fun (hc : ¬ c = i + 1) w (hb : Below W.heap.size W w) => fclone_any w.heap.size (some ⟨b, off + (i + 1) * 2, none⟩) (n - (i + 1)) (c - (i + 1)) (l.drop (i + 1)) w (Nat.le_refl _) (by
        have h := hcut.on hb
        rw [if_neg hc, hA] at h
        exact h) (by rw [List.length_drop, HN.out]) (by omega))
      clear hcut
      subst hA
      have X0 := Lib.hid (fun wr (BK : Below W.heap.size W wr) => (BK.cell (p := ⟨b, off + i * 2, none⟩) hb).trans x0)
      have X1 := Lib.hid (fun wr (BK : Below W.heap.size W wr) => (BK.cell (p := ⟨b, off + i * 2 + 1, none⟩) hb).trans x1)
      obtain ⟨S1, hS1⟩ : ∃ S, strOfNums x.name = S := ⟨_, rfl⟩
      obtain ⟨S2, hS2⟩ : ∃ S, strOfNums x.val = S := ⟨_, rfl⟩
      rw [hS1] at X0 HT
      rw [hS2] at X1 HT
      obtain ⟨s, hs⟩ : ∃ s, szF x = s := ⟨_, rfl⟩
      rw [hs] at HT hsz hszD
      have HSD := Lib.hid hszD
      have y0 := X0.out _ BK.out
      have y1 := X1.out _ BK.out
      have hi1 : ((i + 1 : Nat) : Int) = (i : Int) + 1 := by omega
      have hii : (i : Int) + 1 - 1 = (i : Int) := by omega
      have hit : ((i : Int) + 1).toNat = i + 1 := by omega
      have hin : (i : Int) < (n : Int) := by omega
      have hic : (i : Int) + 1 ≤ (c : Int) := by omega
      have hi0 : (0 : Int) < (i : Int) + 1 := by omega
      have hrs : IntKind.i64.wrap (r - (s : Int)) = r - (s : Int) := by rw [IntKind.wrap_i64]; omega
      rw [hi1]
      clear x0 x1 hx hS1 hS2 hmem hil hb hs hszD hwl hi1
      by_cases hle : (s : Int) ≤ r
      · have HA1 := Lib.hid (show r - (s : Int) = room - (wtL (l.drop i) : Int) by have := HA.out; have := HSD.out; omega)
        clear HCL1 HCL2
        go_wp2_with fail
        refine (HT.out _).mono ?_
        rintro e w1 ⟨rfl, b1⟩
        have B1 := Lib.hid (BK.out.trans (b1.mono BK.out.size))
        clear b1 y0 y1
        have y0 := X0.out _ B1.out
        have y1 := X1.out _ B1.out
        go_wp2_with fail
        refine (HT.out _).mono ?_
        rintro e w2 ⟨rfl, b2⟩
        have B2 := Lib.hid (B1.out.trans (b2.mono B1.out.size))
        clear b2 y0 y1
        go_wp2_with fail
        go_roundg i
        case measure => omega
        case rel => exact ⟨i, r - (s : Int), rfl, by omega, by first | rfl | go_num, by first | rfl | go_num, by omega, HA1, B2⟩
      · have HY := Lib.hid (show young room l = l.drop (i + 1) from young_at (i + 1) (by have := HA.out; omega) (fun j hj => by
          have h1 := wtL_drop (l.drop j) (i - j)
          rw [List.drop_drop, show j + (i - j) = i by omega] at h1
          have := HA.out
          have := HSD.out
          omega))
        go_wp2_with fail
        refine (HT.out _).mono ?_
        rintro e w1 ⟨rfl, b1⟩
        have B1 := Lib.hid (BK.out.trans (b1.mono BK.out.size))
        clear b1 y0 y1
        by_cases hci : c = i + 1
        · have HCL := Lib.hid (HCL1.out hci)
          clear HCL1 HCL2
          go_wp2_with fail
          refine (HCL.out _ B1.out).mono ?_
          rintro e w2 ⟨b2, v2, rfl, o2⟩
          have B2 := Lib.hid (B1.out.trans (b2.mono B1.out.size))
          have O2 := Lib.hid (OwnE.low o2 B1.out.size)
          clear b2 o2
          go_wp2_with fail
          go_ret
          exact ⟨B2.out, _, rfl, by rw [HY.out]; exact O2.out⟩
        · have HCL := Lib.hid (HCL2.out hci)
          clear HCL1 HCL2
          go_wp2_with fail
          refine (HCL.out _ B1.out).mono ?_
          rintro e w2 ⟨b2, v2, rfl, o2⟩
          have B2 := Lib.hid (B1.out.trans (b2.mono B1.out.size))
          have O2 := Lib.hid (OwnE.low o2 B1.out.size)
          clear b2 o2
          go_wp2_with fail
          go_ret
          exact ⟨B2.out, _, rfl, by rw [HY.out]; exact O2.out⟩
end Go.Proofs.Ytadhdghjlohpcaa
