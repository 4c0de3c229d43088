/- Several texts in one. -/
import Derived.Test.YtpfahdogedchpaaDoorGrpZb
/- The document's answers on tables: youngest. -/
namespace Go.Proofs.YtpfahdogedchpaaDoor
set_option linter.unusedVariables false
open Go.RowKit P

theorem infoFd : (Tryd.prog.info? 54).map (fun i => (i.zero, i.size, i.bytes)) = some (some (.agg #[.string ⟨#[]⟩, .string ⟨#[]⟩]), 2, 32) := by kernel_rfl
theorem weight_small (A : Option Addr) (n c : Nat) (l : List Fld) (w : World) (h : RowE FdE w w.heap.size A l) (hn : l.length = n) (hm : n ≤ 8796093022208) (hwf : ∀ x ∈ l, FdWf x) (hs : wtL l ≤ 4611686018427387903) :
    Calls Tryd.prog 49 #[.slice A n c] w fun e w' => e = .returned (.int .i64 (wtL l : Int)) ∧ Below w.heap.size w w' := by
  have := weight_any A n c l w h hn hm hwf
  rwa [show IntKind.i64.wrap (wtL l : Int) = (wtL l : Int) by rw [IntKind.wrap_i64]; omega] at this
theorem drop_one {l : List Fld} {k : Nat} (h : k < l.length) : l.drop k = l.getD k fd0 :: l.drop (k + 1) := by
  rw [List.drop_eq_getElem_cons h, List.getD_eq_getElem?_getD, List.getElem?_eq_getElem h]
  rfl
set_option maxHeartbeats 2000000 in
theorem youngest_any (A : Option Addr) (n c : Nat) (l : List Fld) (room : Int) (W : World) (h : RowE FdE W W.heap.size A l) (hn : l.length = n) (hnc : n ≤ c) (hm : n ≤ 1000) (hwf : ∀ x ∈ l, FdWf x) (hs : wtL l ≤ 1000000) (hroom : 0 ≤ room) (hc9 : c ≤ maxLen) :
    Calls Tryd.prog 75 #[.slice A n c, .int .i64 room] W fun e w' => Below W.heap.size W w' ∧ ∃ v, e = .returned v ∧ OwnE FdE w' W.heap.size 54 v (young room l) := by
  have HR := Lib.hid h
  have HN := Lib.hid hn
  have HW := Lib.hid hwf
  have HS := Lib.hid hs
  unfold maxLen at hc9
  obtain ⟨i0, hi0, hz0, hz1, hz2⟩ := info_partsE infoFd
  have HI := Lib.hid hi0
  have HZ := Lib.hid hz0
  have HZ1 := Lib.hid hz1
  have HZ2 := Lib.hid hz2
  clear h hn hwf hs hi0 hz0 hz1 hz2
  go_enter Tryd.func75, Tryd.ntmps75
  go_wp2_with fail
  go_loopg [5, 6] n (fun gq v iv wr => ∃ (k : Nat) (Ao : Option Addr) (co : Nat), k = gq ∧ k ≤ n ∧ v = .slice Ao (n - k) co ∧ iv = .int .i64 ((k : Int) - 1) ∧ Hid (OwnE FdE wr W.heap.size 54 (.slice Ao (n - k) co) (l.drop k)) ∧ Hid ((wtL (l.drop k) : Int) ≤ room) ∧ Hid (Below W.heap.size W wr))
  case atStart => exact ⟨n, none, 0, rfl, Nat.le_refl _, by rw [Nat.sub_self], by first | rfl | go_num, Lib.hid (by rw [List.drop_eq_nil_of_le (by rw [HN.out]; exact Nat.le_refl _), Nat.sub_self]; exact OwnE.nil _ _ _), Lib.hid (by rw [List.drop_eq_nil_of_le (by rw [HN.out]; exact Nat.le_refl _)]; exact hroom), Lib.hid (Below.refl _ _)⟩
  case round =>
    obtain ⟨k, Ao, co, rfl, hkn, rfl, rfl, OO, HO, BK⟩ := hrel
    cases k with
    | zero =>
      have HY := Lib.hid (show young room l = l from young_fits (by have := HO.out; rwa [List.drop_zero] at this))
      have O0 := Lib.hid (show OwnE FdE wr W.heap.size 54 (.slice Ao (n - 0) co) l from OO.out)
      go_wp2_with fail
      go_ret
      exact ⟨BK.out, _, rfl, by rw [HY.out]; exact O0.out⟩
    | succ i =>
      have hil : i < l.length := by rw [HN.out]; omega
      have hmem : l.getD i fd0 ∈ l := by rw [List.getD_eq_getElem?_getD, List.getElem?_eq_getElem hil]; exact List.getElem_mem hil
      have HD := Lib.hid (drop_one hil)
      have HX := Lib.hid (HW.out _ hmem)
      have hk1 : (((i + 1 : Nat) : Int)) - 1 = (i : Int) := by omega
      rw [hk1]
      have hol : (l.drop (i + 1)).length = n - (i + 1) := by rw [List.length_drop, HN.out]
      have hlw := wtL_drop l i
      have hs6 := HS.out
      have HWO := Lib.hid (fun w' (hb : Below wr.heap.size wr w') => weight_small Ao (n - (i + 1)) co (l.drop (i + 1)) w' ((OwnE.row (by have := OO.out; unfold OwnE at this; rw [hol] at this; exact this)).on hb) hol (by omega) (fun x hx => HW.out x (List.mem_of_mem_drop hx)) (by have := wtL_drop l (i + 1); omega))
      obtain ⟨SA, hSA⟩ : ∃ SA, Option.map (fun x : Addr => x.add (i * 2)) A = SA := ⟨_, rfl⟩
      have hrx : RowE FdE W W.heap.size SA [l.getD i fd0] := by
        have h1 := (RowE.cut HR.out i c (by rw [HN.out]; exact hnc)).take 1
        rw [HD.out, if_neg (by omega)] at h1
        rw [← hSA]
        exact h1
      have hwx1 : wtL [l.getD i fd0] = szF (l.getD i fd0) := by rw [wtL_cons, wtL_nil]; rfl
      have hwx2 : wtL (l.drop i) = szF (l.getD i fd0) + wtL (l.drop (i + 1)) := by rw [HD.out, wtL_cons]
      have HWX := Lib.hid (fun w' (hb : Below wr.heap.size wr w') => weight_small SA 1 (c - i) [l.getD i fd0] w' (hrx.on (BK.out.trans (hb.mono BK.out.size))) rfl (by omega) (fun y hy => by rw [List.mem_singleton.1 hy]; exact HX.out) (by omega))
      rw [hwx1] at HWX
      have HYN := Lib.hid (fun h : room < (wtL (l.drop i) : Int) => young_at (room := room) (l := l) (i + 1) HO.out (fun j hj => by
        have := wtL_drop (l.drop j) (i - j)
        rw [List.drop_drop, show j + (i - j) = i by omega] at this
        omega))
      obtain ⟨b, off, hA, hbl, x0, x1⟩ := fd_cells HR.out hil
      obtain ⟨x, hx⟩ : ∃ x, l.getD i fd0 = x := ⟨_, rfl⟩
      rw [hx] at x0 x1 HD HX HWX hwx2
      have HOB := Lib.hid HO.out
      obtain ⟨p, hp⟩ : ∃ p, wtL (l.drop (i + 1)) = p := ⟨_, rfl⟩
      obtain ⟨q, hq⟩ : ∃ q, szF x = q := ⟨_, rfl⟩
      obtain ⟨t, ht⟩ : ∃ t, wtL (l.drop i) = t := ⟨_, rfl⟩
      rw [hp] at HWO HO hwx2
      rw [hq] at HWX hwx2
      rw [ht] at hwx2
      rw [ht] at HYN hlw
      have hpq : (p : Int) + (q : Int) = (t : Int) := by omega
      have hic : (i : Int) + 1 ≤ (c : Int) := by omega
      have hi0' : (0 : Int) ≤ (i : Int) := by omega
      have hi1 : (i : Int) ≤ (i : Int) + 1 := by omega
      have hit : ((i : Int) + 1).toNat = i + 1 := by omega
      have hii : i + 1 - i = 1 := by omega
      have HTT := Lib.hid ht
      have htb : t ≤ 1000000 := by omega
      clear hrx hwx1 hmem hil hk1 hol hs6 hx hp hq ht hwx2
      have Q2 := Lib.hid (fun w2 (hb2 : Below wr.heap.size wr w2) => BK.out.trans (hb2.mono BK.out.size))
      by_cases big : room < (t : Int)
      · have e1 : decide (room < (t : Int)) = true := by simp [big]
        have HY := Lib.hid (HYN.out big)
        clear HYN x0 x1 hA hbl big
        go_wp2_with fail
        refine wp_region_ext (by kernel_rfl) (by kernel_rfl) ?_
        repeat (go_big_quiet_step (first | (go_at_call 49; with_reducible exact Ext.call (HWO.out _ (Ext.h _))) | (go_at_call 49; with_reducible exact Ext.call (HWX.out _ (Ext.h _)))))
        refine wpQuiet_nil ?_
        intro w2 hb2
        have B2 := Lib.hid (Q2.out w2 hb2)
        have O2 := Lib.hid (OwnE.later OO.out hb2)
        clear hb2
        go_wp2_with fail
        go_ret
        exact ⟨B2.out, _, rfl, by rw [HY.out]; exact O2.out⟩
      · have e1 : decide (room < (t : Int)) = false := by simp; omega
        have htr : (t : Int) ≤ room := by omega
        have z1 : (strOfNums x.name).size = x.name.length := strOfNums_size _
        obtain ⟨S1, hS1⟩ : ∃ S, strOfNums x.name = S := ⟨_, rfl⟩
        obtain ⟨S2, hS2⟩ : ∃ S, strOfNums x.val = S := ⟨_, rfl⟩
        have HFX := Lib.hid (show FdE.f x = [.string S1, .string S2] by rw [← hS1, ← hS2]; rfl)
        rw [hS1] at x0
        rw [hS2] at x1
        have X0 := Lib.hid x0
        have X1 := Lib.hid x1
        have HBL := Lib.hid hbl
        have HAA := Lib.hid hA
        clear HYN x0 x1 hA hbl big hS1 hS2 z1
        go_wp2_with fail
        refine wp_region_ext (by kernel_rfl) (by kernel_rfl) ?_
        repeat (go_big_quiet_step (first | (go_at_call 49; with_reducible exact Ext.call (HWO.out _ (Ext.h _))) | (go_at_call 49; with_reducible exact Ext.call (HWX.out _ (Ext.h _)))))
        refine wpQuiet_nil ?_
        intro w2 hb2
        have B2 := Lib.hid (Q2.out w2 hb2)
        have O2 := Lib.hid (OwnE.later OO.out hb2)
        clear hb2 HWO HWX
        have hA := HAA.out
        subst hA
        have y0 := (B2.out.cell (p := ⟨b, off + i * 2, none⟩) HBL.out).trans X0.out
        have y1 := (B2.out.cell (p := ⟨b, off + i * 2 + 1, none⟩) HBL.out).trans X1.out
        have BA := Lib.hid (B2.out.alloc B2.out.size (.cells #[.string S1, .string S2] 54))
        have OX := Lib.hid (show OwnE FdE (w2.alloc (.cells #[.string S1, .string S2] 54)) W.heap.size 54 (.slice (some ⟨w2.heap.size, 0, none⟩) 1 1) [x] from
          ⟨by rw [Lay.cat_len], .inr ⟨w2.heap.size, 1, #[.string S1, .string S2], rfl, B2.out.size, heap_alloc_new w2 (.cells #[.string S1, .string S2] 54), Nat.le_refl _, by unfold maxLen; omega, rfl, by simp only [Lay.cat, List.flatMap_cons, List.flatMap_nil, HFX.out, List.append_nil]; rfl⟩⟩)
        have RO := Lib.hid ((OwnE.row (n := n - (i + 1)) (by have := O2.out; unfold OwnE at this; rw [List.length_drop, HN.out] at this; exact this)).on ((Below.refl w2.heap.size w2).alloc (Nat.le_refl _) (.cells #[.string S1, .string S2] 54)))
        have HOL := Lib.hid (show (l.drop (i + 1)).length = n - (i + 1) by rw [List.length_drop, HN.out])
        go_wp2_with (at_builtin
                     go_loud (refine wpList_appE _ rfl (.tmp 29) (.tmp 30) _ rfl W.heap.size 54 i0 (.agg #[.string ⟨#[]⟩, .string ⟨#[]⟩]) 32 Tryd.underlying22 HI.out HZ.out HZ1.out HZ2.out rfl (by decide) (.slice (some ⟨w2.heap.size, 0, none⟩) 1 1) [x] rfl OX.out (w2.alloc (.cells #[.string S1, .string S2] 54)).heap.size Ao (n - (i + 1)) co (l.drop (i + 1)) rfl RO.out HOL.out (by simp only [List.length_singleton]; omega) BA.out.size ?_)
                     intro v3 w3 own3 g3
                     have B3 := Lib.hid (BA.out.grown g3 BA.out.size (fun k hk => (OwnE.lt OX.out k hk).1))
                     have O3 := Lib.hid (show OwnE FdE w3 W.heap.size 54 v3 (l.drop i) by rw [HD.out]; exact own3)
                     obtain ⟨A3, c3, hv3, _, _, _⟩ := own3.slice
                     rw [show ([x] ++ l.drop (i + 1)).length = n - i by rw [List.length_append, HOL.out, List.length_singleton]; omega] at hv3
                     subst hv3
                     clear own3 g3)
        go_roundg i
        case measure => omega
        case rel => exact ⟨i, A3, c3, rfl, by omega, rfl, by first | rfl | go_num, O3, Lib.hid (by rw [HTT.out]; exact htr), B3⟩
end Go.Proofs.YtpfahdogedchpaaDoor
/- The document's answers on tables: TableGot. -/
namespace Go.Proofs.YtpfahdogedchpaaDoor
set_option linter.unusedVariables false
open Go.RowKit P

theorem two_bk (w : World) (a b : Array Value) (T1 T2 : TypeId) : ((w.alloc (.cells a T1)).alloc (.cells b T2)).heap[w.heap.size]? = some (.cells a T1 (0, 0)) ∧ ((w.alloc (.cells a T1)).alloc (.cells b T2)).heap[w.heap.size + 1]? = some (.cells b T2 (0, 0)) ∧ Below w.heap.size w ((w.alloc (.cells a T1)).alloc (.cells b T2)) := by
  have s1 : (w.alloc (.cells a T1)).heap.size = w.heap.size + 1 := by simp
  have h2 := heap_alloc_new (w.alloc (.cells a T1)) (.cells b T2)
  rw [s1] at h2
  exact ⟨(Below.heap_alloc _ _ _ (by rw [s1]; omega)).trans (heap_alloc_new w _), h2, ((Below.refl _ _).alloc (Nat.le_refl _) _).alloc (by simp) _⟩
theorem bk2_putF {w : World} {b : Nat} {a0 a1 : Value} {T : TypeId} (h : w.heap[b]? = some (.cells #[a0, a1] T (0, 0))) (v0 v1 : Value) :
    ((w.setCell ⟨b, 0, none⟩ v0).setCell ⟨b, 1, none⟩ v1).cell? ⟨b, 0, none⟩ = some v0 ∧ ((w.setCell ⟨b, 0, none⟩ v0).setCell ⟨b, 1, none⟩ v1).cell? ⟨b, 1, none⟩ = some v1 ∧ w.grownBy ((w.setCell ⟨b, 0, none⟩ v0).setCell ⟨b, 1, none⟩ v1) (some b) := by
  have h0 : (w.setCell ⟨b, 0, none⟩ v0).heap[b]? = some (.cells #[v0, a1] T (0, 0)) := by simpa using bk_set h 0 v0
  have h1 : ((w.setCell ⟨b, 0, none⟩ v0).setCell ⟨b, 1, none⟩ v1).heap[b]? = some (.cells #[v0, v1] T (0, 0)) := by simpa using bk_set h0 1 v1
  exact ⟨(bk2F h1).1, (bk2F h1).2, gr_trans (gr_set _ b 0 v0) (gr_set _ b 1 v1)⟩
theorem fdV0 : fdV fd0 = .agg #[.string ⟨#[]⟩, .string ⟨#[]⟩] := rfl
end Go.Proofs.YtpfahdogedchpaaDoor
