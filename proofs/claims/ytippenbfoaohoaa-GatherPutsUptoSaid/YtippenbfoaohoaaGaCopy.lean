/- Contract of package gather: copied. -/
import Derived.Test.YtippenbfoaohoaaPcRow2
import Derived.Test.YtippenbfoaohoaaBClone
import Derived.Test.YtippenbfoaohoaaRefGaFault
import Derived.Deep.RegionHeld3
import Derived.Deep.AppendLies
namespace Go.Proofs.Ytippenbfoaohoaa
set_option linter.unusedVariables false
open Go.RowKit P

set_option maxRecDepth 100000 in
set_option maxHeartbeats 2000000 in
theorem copied_any (v : Value) (ps : List Pc) (w : World) (hv : PSl w w.heap.size v ps) (hn : ps.length ≤ 1000) (hl : ∀ p ∈ ps, p.2.length ≤ 140737488355328) :
    Calls Try.prog 35 #[v] w fun e w' => ∃ u cs, e = .returned u ∧ RowP w' w.heap.size u cs ∧ cs.map PC.pc = ps ∧ Below w.heap.size w w' := by
  obtain ⟨A, c, rfl, hnc, hcm, hrow⟩ := hv.ex
  have HROW := Lib.hid hrow
  have HLN := Lib.hid hl
  obtain ⟨W0, hW0⟩ : ∃ W, w = W := ⟨_, rfl⟩
  subst hW0
  clear hv hrow hl
  go_enter Try.func35, Try.ntmps35
  go_wp2_with fail
  go_loopg [3, 8] ps.length (fun gq lv iv wr => ∃ (k : Nat) (cs : List PC), iv = .int .i64 k ∧ k + gq = ps.length ∧ cs.length = k ∧ Hid (Below w.heap.size w wr) ∧ Hid (RowP wr w.heap.size lv cs) ∧ Hid (cs.map PC.pc = ps.take k))
  case atStart => exact ⟨0, [], rfl, by omega, rfl, Lib.hid (Below.refl _ _), Lib.hid (RowP.nil _ _), Lib.hid rfl⟩
  case round =>
    obtain ⟨k, cs, rfl, hkg, hcl, BK, RK, EK⟩ := hrel
    have HCK := Lib.hid hcl
    clear hcl
    by_cases hk : k < ps.length
    · obtain ⟨b0, o, hA, hb0, hc⟩ := HROW.out (by omega)
      subst hA
      obtain ⟨e1, d, e2, hd⟩ := hc k hk
      obtain ⟨Ad, cd, rfl, _, _, _, _⟩ := id hd.ex
      have x0 := (BK.out.cell (p := ⟨b0, o + k * 2, none⟩) hb0).trans e1
      have x1 := (BK.out.cell (p := ⟨b0, o + k * 2 + 1, none⟩) hb0).trans e2
      have hmem : ps.getD k pc0 ∈ ps := by rw [List.getD_eq_getElem?_getD, List.getElem?_eq_getElem hk]; exact List.getElem_mem hk
      have hml := HLN.out _ hmem
      have htk := take_step hk
      obtain ⟨p, hp⟩ : ∃ p, ps.getD k pc0 = p := ⟨_, rfl⟩
      rw [hp] at x0 x1 hml htk hd
      obtain ⟨off, ds⟩ := p
      simp only at x0 x1 hml hd
      have HCL := Lib.hid (fun w' (hb : Below w.heap.size w w') => bclone_any w.heap.size _ ds w' hb.size (hd.below hb) hml)
      obtain ⟨m, hm⟩ : ∃ m, ds.length = m := ⟨_, rfl⟩
      rw [hm] at x1 hml HCL
      have HM := Lib.hid hm
      have HTK := Lib.hid htk
      have HDB := Lib.hid (show Byt ds from by obtain ⟨_, _, _, _, _, _, h⟩ := hd.ex; exact h.1)
      have hnk : (k : Int) < (ps.length : Int) := by omega
      have BA := Lib.hid ((BK.out.alloc BK.out.size (.cells #[.int .i64 off, .slice Ad m cd] 55)).drew)
      have hlv := RK.out.slice
      obtain ⟨Al, cl, hlv1, hlv2, hlv3⟩ := hlv
      subst hlv1
      have hne := Lib.hid (show (Value.slice Al cs.length cl).ownBlock ≠ some wr.heap.size from fun e => by have := RK.out.lt _ e; omega)
      have RA := Lib.hid ((RK.out.alloc (.cells #[.int .i64 off, .slice Ad m cd] 55)).drew)
      have FA := Lib.hid (show ((wr.alloc (.cells #[.int .i64 off, .slice Ad m cd] 55)).drew).heap[wr.heap.size]? = some (.cells #[.int .i64 off, .slice Ad m cd] 55 (0, 0)) from heap_alloc_new wr _)
      obtain ⟨i0, hi0, hz0, hz1, hz2⟩ := info_parts infoPc
      have HI := Lib.hid hi0
      have HZ := Lib.hid hz0
      have HZ1 := Lib.hid hz1
      have HZ2 := Lib.hid hz2
      clear hm htk hp hmem hd hc e1 e2 hi0 hz0 hz1 hz2
      go_wp2_with fail
      have hsz := BA.out.size
      have f0 := bk_cell FA.out 0
      have f1 := bk_cell FA.out 1
      simp only [List.getElem?_toArray, List.getElem?_cons_zero, List.getElem?_cons_succ] at f0 f1
      go_region_held3 (fun w' => w'.cell? ⟨wr.heap.size, 0, none⟩ = some (.int .i64 off) ∧ w'.cell? ⟨wr.heap.size, 1, none⟩ = some (.slice Ad m cd))
        (first
          | exact ⟨f0, f1⟩
          | exact ⟨c0, c1⟩
          | exact ⟨n0, n1⟩
          | exact ⟨z0, z1⟩)
        (first
          | (go_at_call 34
             refine (HCL.out _ BA.out).mono ?_
             rintro e w1 ⟨u, rfl, o1, b1⟩
             obtain ⟨Au, cu, hu, _, _⟩ := own_slice o1
             subst hu
             have O1 := Lib.hid (own_base o1 hsz)
             have L1 := Lib.hid (own_lt o1)
             have B1 := Lib.hid (BA.out.trans (b1.mono hsz))
             have R1 := Lib.hid (RA.out.below b1)
             have F1 := Lib.hid ((b1.block _ (lt_of_block FA.out)).trans FA.out)
             have c0 := bk_cell F1.out 0
             have c1 := bk_cell F1.out 1
             simp only [List.getElem?_toArray, List.getElem?_cons_zero, List.getElem?_cons_succ] at c0 c1
             have NB := Lib.hid (heap_alloc_new w1 (.cells #[.int .i64 off, .slice Au m cu] 55))
             have F2 := Lib.hid ((Below.heap_alloc w1 (.cells #[.int .i64 off, .slice Au m cu] 55) _ (lt_of_block F1.out)).trans F1.out)
             have n0 := bk_cell F2.out 0
             have n1 := bk_cell F2.out 1
             simp only [List.getElem?_toArray, List.getElem?_cons_zero, List.getElem?_cons_succ] at n0 n1
             clear o1 b1)
          | (refine step_append_lies _ (by rfl) _ _ _ (by rfl) w.heap.size 55 i0 _ 2 32 Try.underlying22 HI.out HZ.out HZ1.out HZ2.out rfl (by omega) (.slice Al cs.length cl) cs.length (cellsP cs) (by rfl) (R1.out.alloc (.cells #[.int .i64 off, .slice Au m cu] 55)).own
               ⟨w1.heap.size, 0, none⟩ 1 1 [.int .i64 off, .slice Au m cu] (by rfl) (by rfl) (World.news_of_block (cs := #[.int .i64 off, .slice Au m cu]) (t := 55) (fr := (0, 0)) NB.out) (by simp [Value.oneCell'])
               (by omega) (by have := HCK.out; unfold maxLen; omega) (by have := HCK.out; omega) (by have := B1.out.size; simp; omega) (w1.heap.size + 1) (by simp) ?_
             intro gg cap w2 o2 g2 hat hlt
             have O2 := Lib.hid o2
             have G2 := Lib.hid g2
             have F3 := Lib.hid ((g2.block _ (lt_of_block F2.out) (fun e => hne.out e.symm)).trans F2.out)
             have z0 := bk_cell F3.out 0
             have z1 := bk_cell F3.out 1
             simp only [List.getElem?_toArray, List.getElem?_cons_zero, List.getElem?_cons_succ] at z0 z1
             clear o2 g2))
      have e2 : (Value.slice Au m cu) = (PC.mk off ds Au cu).val := by unfold PC.val; rw [HM.out]
      have OKP := Lib.hid (show (PC.mk off ds Au cu).ok w1 w.heap.size from ⟨by rw [← e2]; simp only [HM.out]; exact O1.out, HDB.out⟩)
      have AP := Lib.hid (show ∀ q ∈ cs, q.val.ownBlock = none ∨ q.val.ownBlock ≠ (PC.mk off ds Au cu).val.ownBlock from fresh_apart RA.out (by rw [← e2]; exact fun g hg => by have := L1.out g hg; simpa using this))
      have RN := Lib.hid (RowP.pushC (v' := .slice (some ⟨gg, 0, none⟩) (cs.length + 1) cap) (R1.out.alloc (.cells #[.int .i64 off, .slice Au m cu] 55)) ((OKP.out.kept (World.grownBy_alloc w1 (.cells #[.int .i64 off, .slice Au m cu] 55) none) (none_or _))) AP.out (by have := O2.out; rw [show cellsP [PC.mk off ds Au cu] = [.int .i64 off, .slice Au m cu] from by simp [cellsP, PC.arr, HM.out]]; exact this) G2.out)
      have BN := Lib.hid ((B1.out.alloc B1.out.size (.cells #[.int .i64 off, .slice Au m cu] 55)).grown G2.out (by have := B1.out.size; simp; omega) (fun k hk => (RK.out.lt k hk).1))
      have EN := Lib.hid (show (cs ++ [PC.mk off ds Au cu]).map PC.pc = ps.take (k + 1) from by rw [List.map_append, EK.out, HTK.out]; rfl)
      have hln : (cs ++ [PC.mk off ds Au cu]).length = k + 1 := by have := HCK.out; simp; omega
      clear e2
      go_wp2
      go_roundg (gk - 1)
      case measure => omega
      case rel => exact ⟨k + 1, cs ++ [PC.mk off ds Au cu], by first | rfl | go_num, by omega, hln, BN, RN, EN⟩
    · obtain rfl : k = ps.length := by omega
      obtain rfl : gk = 0 := by omega
      have e9 := EK.out
      rw [List.take_length] at e9
      have E9 := Lib.hid e9
      clear e9
      go_wp2
      go_ret
      exact ⟨_, cs, rfl, RK.out, E9.out, BK.out⟩
end Go.Proofs.Ytippenbfoaohoaa
