/- Several texts in one. -/
import Derived.Test.YtpfahdogedchpaaDoorFdE5
/- The project's writers of fields: refer. -/
namespace Go.Proofs.YtpfahdogedchpaaDoor.P
set_option linter.unusedVariables false
theorem finT_same {t : Tb} {f : Fld} (h : (finT t f).2.1 = true) : (finT t f).2.2 = 0 := by
  unfold finT at h ⊢
  by_cases c : faultTb t ≠ 0
  · exfalso; rw [if_pos c] at h; exact Bool.false_ne_true h
  · rw [if_neg c] at h ⊢
    cases q : lastAt (fun x => decide (x = f)) t.rows with
    | some i => rfl
    | none =>
      rw [q] at h
      simp only at h
      cases q2 : lastAt (fun x => decide (x.name = f.name)) t.rows with
      | some i => simp [q2] at h
      | none => simp [q2] at h
end Go.Proofs.YtpfahdogedchpaaDoor.P
namespace Go.Proofs.YtpfahdogedchpaaDoor
set_option linter.unusedVariables false
open Go.RowKit P

theorem trow_base {w : World} {base base' : Nat} {e : TypeId} {v : Value} {L : List Int} (h : TRow w base e v L) (hb : base' ≤ base) : TRow w base' e v L := by
  rcases h with h | h
  · exact .inl h
  · exact .inr (wrow_base h hb)
theorem trow_slice {w : World} {base : Nat} {e : TypeId} {v : Value} {L : List Int} (h : TRow w base e v L) : ∃ A m c, v = .slice A m c := by
  rcases h with ⟨rfl, _⟩ | ⟨g, cap, _, _, rfl, _⟩
  · exact ⟨_, _, _, rfl⟩
  · exact ⟨_, _, _, rfl⟩
theorem tellT_eq (f : Fld) : tellT f = pxTL 64 5 f.name ++ pxTL 0 7 f.val := by
  unfold tellT pxTL
  simp only [List.append_assoc]
  rfl
theorem tellT_len {f : Fld} (hf : FdWf f) (ok : okFd f) : Byt (tellT f) ∧ 0 < (tellT f).length ∧ (tellT f).length ≤ 200 := by
  unfold okFd at ok
  obtain ⟨a, b, c⟩ := pxT_len (first := 64) (top := 31) (n := (f.name.length : Int)) (by decide) (by decide) (by decide) (by omega) (by omega)
  obtain ⟨a', b', c'⟩ := pxT_len (first := 0) (top := 127) (n := (f.val.length : Int)) (by decide) (by decide) (by decide) (by omega) (by omega)
  unfold tellT
  exact ⟨((a.append hf.1).append a').append hf.2.1, by simp only [List.length_append]; omega, by simp only [List.length_append]; omega⟩
theorem P.tellT_byt {f : Fld} (hf : FdWf f) (ok : okFd f) : Byt (tellT f) := (tellT_len hf ok).1
structure FdRf (w0 : World) (S1 S2 : ByteArray) (kc : Bool) (V1 V2 : Value) (tb0 tb1 tb2 : Bool) (tx0 tx1 tx2 : Value) (w : World) : Prop where
  be : Below w0.heap.size w0 w
  d2 : tb2 = true → tb0 = true ∧ tb1 = true
  h0 : tb0 = true → ∃ A, tx0 = .slice A 11 11 ∧ RowE FdE w w.heap.size A knL
  h1 : tb1 = true → tx1 = V1
  h2 : tb2 = true → tx2 = V2
set_option maxRecDepth 100000 in
set_option maxHeartbeats 4000000 in
theorem refer_any (v : Value) (t : Tb) (A : Option Addr) (n c : Nat) (l : List Fld) (ahead : Bool) (W : World) (hv : TbVal W W.heap.size v t) (hw : TbWf t) (h0 : faultTb t = 0) (h : RowE FdE W W.heap.size A l) (hn : l.length = n) (hwf : ∀ x ∈ l, FdWf x) (hok : ∀ x ∈ l, okFd x) (h8 : n ≤ 8) :
    Calls Tryd.prog 41 #[v, .slice A n c, .bool ahead] W fun e w' => Below W.heap.size W w' ∧ ∃ v' q d, W.heap.size + 2 ≤ q ∧ e = .returned (.tuple #[v', .slice (some ⟨q, 0, none⟩) n n, d]) ∧ TbVal w' w'.heap.size v' (encAll ahead t l).t ∧ NCell w' q (refsN (encAll ahead t l).refs) ∧ TRow w' W.heap.size 5 d (encAll ahead t l).tell ∧ (encAll ahead t l).tell.length ≤ 1600 := by
  have HFEW := Lib.hid (rows_few h0)
  have hput := ((faultTb_iff t).1 h0).2.1.1
  have HE0 : Hid (EncOk 0 (⟨t, [], [], 0⟩ : EncS)) := Lib.hid ⟨rfl, Int.le_refl _, (by decide : (0 : Int) ≤ 4611686018427387903), hput, fun n hn => by simp at hn, hw⟩
  have HF0 := Lib.hid h0
  have HR := Lib.hid h
  have HN := Lib.hid hn
  have HWO := Lib.hid (fun x hx => And.intro (hwf x hx) (hok x hx))
  have HKN := Lib.hid (fun w => known_any w)
  have HHSa := Lib.hid (fun A f hf w h => hasSame_any A 11 11 knL f hf w h rfl knL_wf (by decide))
  have hmk := make_int n (by omega)
  obtain ⟨At, N, cp, room, put, rfl, hv'⟩ := tb_partsR hv
  obtain ⟨g1, g2, g3⟩ := two_bk W #[.int .i64 room, .int .i64 put, .slice At N cp] #[.int .i64 0, .int .i64 0, .slice none 0 0] 24 24
  have TK1 : Hid (TKA _ _ _ _ _ _) := Lib.hid ⟨g1, g2, g3, hv'.on g3⟩
  obtain ⟨w1, hw1⟩ : ∃ x, (W.alloc (.cells #[.int .i64 room, .int .i64 put, .slice At N cp] 24)).alloc (.cells #[.int .i64 0, .int .i64 0, .slice none 0 0] 24) = x := ⟨_, rfl⟩
  rw [hw1] at TK1
  -- the table's rows anew
  obtain ⟨s1, hs1, hfs⟩ := TK1.out.v.ex
  have hcl : ∀ (w : World) (hb : Below w1.heap.size w1 w), Calls Tryd.prog 55 #[.slice At N cp] w fun e w' => Below w.heap.size w w' ∧ ∃ v, e = .returned v ∧ OwnE FdE w' w.heap.size 54 v t.rows := by
    intro w hb
    injection hs1 with e1
    obtain ⟨_, _, e2⟩ := (by simpa using e1 : room = t.room ∧ put = t.put ∧ .slice At N cp = s1)
    subst e2
    obtain ⟨A', c', e3, _, _, hrow⟩ := (hfs.on hb).ex
    injection e3 with a1 a2 a3
    exact fclone_any w.heap.size At N cp t.rows w (Nat.le_refl _) (a1 ▸ hrow) a2.symm (by rw [a2]; exact HFEW.out)
  have hrp : room = t.room ∧ put = t.put := by
    injection hs1 with e1
    obtain ⟨p, q, _⟩ := (by simpa using e1 : room = t.room ∧ put = t.put ∧ .slice At N cp = s1)
    exact ⟨p, q⟩
  have HRP := Lib.hid hrp
  have HCL := Lib.hid hcl
  have HW1 := Lib.hid hw1
  obtain ⟨q0, q1, q2⟩ := bk3T TK1.out.z
  clear hs1 hfs hcl hrp hv hv' hw h0 h hn hwf hok g1 g2 g3 hput hw1
  go_enter Tryd.func41, Tryd.ntmps41
  go_upto_region 1 with fail
  rw [HW1.out]
  go_wp2_with fail
  refine (HCL.out _ (Below.refl _ _)).mono ?_
  rintro e w2 ⟨b2, v2, rfl, hv2⟩
  have TK2 := Lib.hid (TK1.out.later b2)
  have hf2 := fsl_own hv2
  obtain ⟨A2, c2, rfl, l2, m2, row2⟩ := hv2.slice
  have HV2 : Hid (TbVal w2 w2.heap.size (.agg #[.int .i64 room, .int .i64 put, .slice A2 t.rows.length c2]) t) := Lib.hid ⟨_, by rw [HRP.out.1, HRP.out.2], hf2⟩
  obtain ⟨N2, hN2⟩ : ∃ n, t.rows.length = n := ⟨_, rfl⟩
  rw [hN2] at HV2 ⊢
  clear b2 hv2 hf2 l2 m2 row2 hN2 q0 q1 q2 TK1 HW1 HCL
  obtain ⟨q0, q1, q2⟩ := bk3T TK2.out.z
  have zf := fun j => bk_frz TK2.out.z j
  have kz : (w2.setCell ⟨W.heap.size, 2, none⟩ (.slice A2 N2 c2)).heap[W.heap.size]? = some (.cells #[.int .i64 room, .int .i64 put, .slice A2 N2 c2] 24 (0, 0)) := by simpa using bk_set TK2.out.z 2 (.slice A2 N2 c2)
  have TK3 := Lib.hid (TK2.out.set kz (gr_set w2 W.heap.size 2 (.slice A2 N2 c2)) HV2.out)
  go_upto_region 2 with fail
  obtain ⟨w3, hw3⟩ : ∃ w9, w2.setCell ⟨W.heap.size, 2, none⟩ (.slice A2 N2 c2) = w9 := ⟨_, rfl⟩
  rw [hw3] at TK3 ⊢
  clear kz hw3 q0 q1 q2 zf HV2
  have hkz := (Below.refl w3.heap.size w3).alloc (Nat.le_refl _) (.cells (madeCells #[.int .i64 0] n) 3)
  have K0 : Hid (RfK W w3.heap.size n _ _ _ t (refsN []) (.slice none 0 0) [] (w3.alloc (.cells (madeCells #[.int .i64 0] n) 3))) := Lib.hid ⟨TK3.out.later hkz, numI_zero w3 n (by omega), .inl ⟨rfl, rfl⟩, (by have := lt_of_block TK3.out.y; omega)⟩
  go_upto_region 3 with fail
  obtain ⟨w4, hw4⟩ : ∃ x, w3.alloc (.cells (madeCells #[.int .i64 0] n) 3) = x := ⟨_, rfl⟩
  rw [hw4] at K0 ⊢
  obtain ⟨q, hq⟩ : ∃ q, w3.heap.size = q := ⟨_, rfl⟩
  rw [hq] at K0 ⊢
  clear hkz hw4 hq hmk TK3
  go_wp2_with fail
  go_loopg [10, 25] n (fun gq tv iv wr => ∃ (i : Nat) (s : EncS) (r1 p1 : Int) (A1 : Option Addr) (n1 c1 : Nat) (tA : Option Addr) (tm tc : Nat), tv = .slice tA tm tc ∧ iv = .int .i64 i ∧ i + gq = n ∧ Hid (encAll ahead t (l.take i) = s) ∧ Hid (EncOk i s) ∧ Hid (faultTb s.t = 0) ∧ Hid (s.tell.length ≤ 200 * i) ∧ Hid (RfK W q n (.cells #[.int .i64 r1, .int .i64 p1, .slice A1 n1 c1] 24 (0, 0)) (.cells #[.int .i64 0, .int .i64 0, .slice none 0 0] 24 (0, 0)) (.agg #[.int .i64 r1, .int .i64 p1, .slice A1 n1 c1]) s.t (refsN s.refs) (.slice tA tm tc) s.tell wr))
  case atStart => exact ⟨0, ⟨t, [], [], 0⟩, room, put, A2, N2, c2, none, 0, 0, rfl, rfl, by omega, Lib.hid rfl, HE0, HF0, Lib.hid (Nat.zero_le _), K0⟩
  case round =>
    obtain ⟨i, s, r1, p1, A1, n1, c1, tA, tm, tc, rfl, rfl, hig, HSE, HEO, HFT, HTL, K⟩ := hrel
    by_cases hlt : i < n
    · have hin := hlt
      have hil : i < l.length := by rw [HN.out]; exact hlt
      obtain ⟨b, off, hA, hbl, x0, x1⟩ := fd_cells HR.out hil
      have hmem : l.getD i fd0 ∈ l := by rw [List.getD_eq_getElem?_getD, List.getElem?_eq_getElem hil]; exact List.getElem_mem hil
      have HFO := Lib.hid (HWO.out _ hmem)
      have HST := Lib.hid (show encAll ahead t (l.take (i + 1)) = encStep ahead s (l.getD i fd0) by rw [List.take_succ_eq_append_getElem hil, encAll_snoc, HSE.out, List.getD_eq_getElem?_getD, List.getElem?_eq_getElem hil]; rfl)
      have HEO2 := Lib.hid (encStep_ok (ahead := ahead) HEO.out HFO.out.1)
      obtain ⟨f, hf⟩ : ∃ f, l.getD i fd0 = f := ⟨_, rfl⟩
      rw [hf] at x0 x1 HFO HST HEO2
      have HHS := Lib.hid (fun A w h => HHSa.out A f HFO.out.1 w h)
      rw [← kpB_true, show firstP (kpB f true) knL = kpL f true from rfl] at HHS
      have HFI := Lib.hid (fun w (hv : TbVal w w.heap.size (.agg #[.int .i64 r1, .int .i64 p1, .slice A1 n1 c1]) s.t) => tfin_any _ s.t f w hv HEO.out.wf HFO.out.1)
      have HTA := Lib.hid (fun w (hv : TbVal w w.heap.size (.agg #[.int .i64 r1, .int .i64 p1, .slice A1 n1 c1]) s.t) => takes_any _ s.t f w hv HEO.out.wf HFT.out HFO.out.1 HFO.out.2)
      have HIN := Lib.hid (fun w (hv : TbVal w w.heap.size (.agg #[.int .i64 r1, .int .i64 p1, .slice A1 n1 c1]) s.t) => tinsN_any _ s.t f w hv HEO.out.wf HFO.out.1)
      have HPA := Lib.hid (fun w => pair_any 64 5 f HFO.out.1 HFO.out.2 (by decide) (by decide) (by decide) (by decide) w)
      rw [← tellT_eq] at HPA
      have HTT := Lib.hid (tellT_len HFO.out.1 HFO.out.2)
      have HMY := Lib.hid (fun h => insT_may HFT.out HFO.out.2 true h)
      have HSM := Lib.hid (finT_same (t := s.t) (f := f))
      have hrl : Hid ((refsN s.refs).length = i) := Lib.hid (by rw [refsN_len]; exact HEO.out.len)
      obtain ⟨kc, hkc⟩ : ∃ b, decide (0 ≤ kpL f true) = b := ⟨_, rfl⟩
      rw [hkc] at HHS
      have HKC := Lib.hid hkc
      unfold fdV at HHS HFI HTA HIN HPA
      obtain ⟨S1, hS1⟩ : ∃ S, strOfNums f.name = S := ⟨_, rfl⟩
      obtain ⟨S2, hS2⟩ : ∃ S, strOfNums f.val = S := ⟨_, rfl⟩
      rw [hS1, hS2] at HHS HFI HTA HIN HPA
      rw [hS1] at x0
      rw [hS2] at x1
      subst hA
      have y0 := (K.out.k.b.cell (p := ⟨b, off + i * 2, none⟩) hbl).trans x0
      have y1 := (K.out.k.b.cell (p := ⟨b, off + i * 2 + 1, none⟩) hbl).trans x1
      have b1 := (Below.refl wr.heap.size wr).alloc (Nat.le_refl _) (.cells #[.string S1, .string S2] 54)
      have F1 := Lib.hid (heap_alloc_new wr (.cells #[.string S1, .string S2] 54))
      have K1 : Hid (RfK W q n _ _ _ s.t (refsN s.refs ++ []) _ s.tell (wr.alloc (.cells #[.string S1, .string S2] 54))) := Lib.hid (by rw [List.append_nil]; exact K.out.later b1)
      have HQF := Lib.hid K.out.n.lt
      have hnk : (i : Int) < (n : Int) := by omega
      have hnk0 : (0 : Int) ≤ (i : Int) := by omega
      clear x0 x1 hf hS1 hS2 hmem hil hbl b1 hkc
      go_upto_region 7 with fail
      obtain ⟨w1, hw1⟩ : ∃ x, wr.alloc (.cells #[.string S1, .string S2] 54) = x := ⟨_, rfl⟩
      rw [hw1] at F1 K1 ⊢
      clear hw1 y0 y1
      have nf := K1.out.n.frz
      obtain ⟨nu, nc⟩ := K1.out.n.old i hin
      go_upto_region 8 with fail
      have KF := K1.out.setN (-1) i hrl.out hin
      obtain ⟨w2, hw2⟩ : ∃ x, w1.setCell ⟨q, i, none⟩ (.int .i64 (-1)) = x := ⟨_, rfl⟩
      rw [hw2] at KF ⊢
      have K2 := Lib.hid KF.1
      have F2 := Lib.hid ((KF.2.block _ (lt_of_block F1.out) (by have := HQF.out; simp; omega)).trans F1.out)
      clear hw2 KF nf nc
      refine wp_region_inv (fun lis_ act_ wld_ => ∃ (tb0 tb1 tb2 : Bool) (tx0 tx1 tx2 : Value), lis_ = #[tb0, tb1, tb2] ∧ act_ = { tmps := #[Value.agg #[Value.int IntKind.i64 room, Value.int IntKind.i64 put, Value.slice At N cp], Value.slice (some { block := b, off := off }) n c, Value.bool ahead, Value.pointer (some { block := W.heap.size, off := 0 }), undef, undef, Value.pointer (some { block := W.heap.size + 1, off := 0 }), Value.slice none 0 0, Value.slice none 0 0, Value.slice (some { block := q, off := 0 }) n n, Value.slice tA tm tc, Value.int IntKind.i64 ↑i, Value.pointer (some { block := wr.heap.size, off := 0 }), u13, u14, u15, Value.pointer (some { block := W.heap.size, off := 2 }), Value.slice At N cp, Value.slice A2 N2 c2, Value.pointer (some { block := W.heap.size, off := 2 }), Value.slice (some { block := b, off := off }) n c, Value.int IntKind.i64 ↑n, Value.slice (some { block := q, off := 0 }) n n, Value.slice (some { block := b, off := off }) n c, Value.int IntKind.i64 ↑n, Value.int IntKind.i64 ↑i, Value.bool true, Value.int IntKind.i64 ↑i, Value.pointer (some { block := b, off := off + i * 2 }), Value.agg #[Value.string S1, Value.string S2], Value.slice (some { block := q, off := 0 }) n n, Value.int IntKind.i64 ↑i, Value.pointer (some { block := q, off := i }), tx0, tx1, tx2, u36, u37, u38, u39, u40, u41, u42, u43, u44, u45, u46, u47, u48, u49, u50, u51, u52, u53, u54, u55, u56, u57, u58, u59, u60, u61, u62, u63, u64, u65, u66, u67, u68, u69, u70, u71, undef, undef, undef], defers := [] } ∧ FdRf w2 S1 S2 kc (.agg #[.string S1, .string S2]) (.bool kc) tb0 tb1 tb2 tx0 tx1 tx2 wld_) (by kernel_rfl) ?h0 ?hfin ?hI
      case h0 => exact ⟨_, _, _, _, _, _, rfl, rfl, ⟨(Below.refl _ _).drew, (fun h => by cases h), (fun h => by cases h), (fun h => by cases h), (fun h => by cases h)⟩⟩
      case hI =>
        rintro listed a w ⟨tb0, tb1, tb2, tx0, tx1, tx2, rfl, rfl, H⟩ i hi
        obtain ⟨hun, oj, hoj, hall⟩ := mem_ready.1 hi
        clear hi
        rcases i with _ | _ | _ | i
        · have ho := hoj
          simp only [List.getElem?_toArray, List.getElem?_cons_succ, List.getElem?_cons_zero, Option.some.injEq] at hoj
          subst hoj
          obtain rfl : tb0 = false := hun
          clear hall
          obtain rfl : tb2 = false := Bool.eq_false_iff.2 fun h => Bool.false_ne_true (H.d2 h).1
          have hbe := H.be
          refine wpOp_step ho (fun K' hK => ?_)
          have HK := Lib.hid hK
          clear hK ho
          go_wp2_with fail
          refine (HKN.out _).mono ?_
          rintro e w9 ⟨tb9, A9, rfl, h9⟩
          have BC := Lib.hid tb9
          obtain ⟨_, _, hv9, _, _, hr9⟩ := h9.slice
          cases hv9
          have RC := Lib.hid hr9
          clear tb9 h9 hr9
          go_wp2_with fail
          exact HK.out _ _ ⟨_, _, _, _, _, _, rfl, rfl, ⟨hbe.trans (BC.out.mono hbe.size), (fun h => by cases h), (fun _ => ⟨_, rfl, RC.out⟩), H.h1, H.h2⟩⟩
        · have ho := hoj
          simp only [List.getElem?_toArray, List.getElem?_cons_succ, List.getElem?_cons_zero, Option.some.injEq] at hoj
          subst hoj
          obtain rfl : tb1 = false := hun
          clear hall
          obtain rfl : tb2 = false := Bool.eq_false_iff.2 fun h => Bool.false_ne_true (H.d2 h).2
          have hbe := H.be
          obtain ⟨y0, y1⟩ := bk2F ((hbe.block _ (lt_of_block F2.out)).trans F2.out)
          refine wpOp_step ho (fun K' hK => ?_)
          have HK := Lib.hid hK
          clear hK ho
          go_simp
          exact HK.out _ _ ⟨_, _, _, _, _, _, rfl, rfl, ⟨hbe, (fun h => by cases h), H.h0, (fun _ => rfl), H.h2⟩⟩
        · have ho := hoj
          simp only [List.getElem?_toArray, List.getElem?_cons_succ, List.getElem?_cons_zero, Option.some.injEq] at hoj
          subst hoj
          obtain rfl : tb2 = false := hun
          obtain rfl : tb0 = true := hall ⟨0, .data⟩ (by simp) (by kernel_rfl)
          obtain rfl : tb1 = true := hall ⟨1, .data⟩ (by simp) (by kernel_rfl)
          clear hall
          have hbe := H.be
          have P0 := H.h0 rfl
          obtain rfl := H.h1 rfl
          obtain ⟨A9, rfl, hr9⟩ := P0
          have RC := Lib.hid hr9
          clear hr9
          refine wpOp_step ho (fun K' hK => ?_)
          have HK := Lib.hid hK
          clear hK ho
          go_wp2_with fail
          refine (HHS.out A9 _ RC.out).mono ?_
          rintro e w9 ⟨rfl, tb9⟩
          have BC := Lib.hid tb9
          clear tb9
          go_wp2_with fail
          exact HK.out _ _ ⟨_, _, _, _, _, _, rfl, rfl, ⟨hbe.trans (BC.out.mono hbe.size), (fun _ => ⟨rfl, rfl⟩), (fun e => let ⟨A, e1, e2⟩ := (H.h0 e); ⟨A, e1, e2.on BC.out⟩), H.h1, (fun _ => rfl)⟩⟩
        · have ho := hoj
          simp at ho
      case hfin =>
        rintro listed a w ⟨tb0, tb1, tb2, tx0, tx1, tx2, rfl, rfl, H⟩ hr
        have hb : tb2 = true := by
          clear H
          revert tb0 tb1 tb2
          decide +kernel
        subst hb
        clear hr
        obtain rfl : tb0 = true := (H.d2 rfl).1
        obtain rfl : tb1 = true := (H.d2 rfl).2
        have e3 := H.h2 rfl
        have hb := H.be
        clear H
        obtain ⟨w3, hw3⟩ : ∃ x, x = w := ⟨_, rfl⟩
        subst w
        subst e3
        have b3 := hb
        clear hb
        have K3 := Lib.hid (K2.out.later b3)
        have F3 := Lib.hid ((b3.block _ (lt_of_block F2.out)).trans F2.out)
        clear b3
        cases kc with
        | true =>
          have hk := of_decide_eq_true HKC.out
          have HS := Lib.hid (show encStep ahead s f = ⟨s.t, s.tell, s.refs ++ [none], s.need⟩ by unfold encStep; rw [if_pos hk])
          clear hk
          go_wp2_with fail
          go_roundg (gk - 1)
          case measure => omega
          case rel => exact ⟨i + 1, encStep ahead s f, r1, p1, A1, n1, c1, tA, tm, tc, rfl, by first | rfl | go_num, by omega, HST, HEO2, Lib.hid (by rw [HS.out]; exact HFT.out), Lib.hid (by rw [HS.out]; exact (show s.tell.length ≤ 200 * (i + 1) by have := HTL.out; omega)), Lib.hid (by rw [HS.out]; dsimp only; rw [refsN_app]; exact K3.out)⟩
        | false =>
          have HNK := Lib.hid (of_decide_eq_false HKC.out)
          obtain ⟨z0, z1, z2⟩ := bk3T K3.out.k.z
          have zf := fun j => bk_frz K3.out.k.z j
          obtain ⟨y0, y1⟩ := bk2F F3.out
          go_wp2_with fail
          refine (HFI.out _ K3.out.k.v).mono ?_
          clear z0 z1 z2 zf y0 y1
          rintro e w4 ⟨b4, rfl⟩
          have K4 := Lib.hid (K3.out.later b4)
          have F4 := Lib.hid ((b4.block _ (lt_of_block F3.out)).trans F3.out)
          clear b4
          have HHA := Lib.hid (show hasT s.t f = (decide ((finT s.t f).2.2 = 0) && (finT s.t f).2.1) from rfl)
          obtain ⟨⟨fn, fs, fe⟩, hfin⟩ : ∃ r, finT s.t f = r := ⟨_, rfl⟩
          have HFN := Lib.hid (congrArg (·.1) hfin)
          rw [hfin] at HHA HSM ⊢
          dsimp only at HHA HSM ⊢
          clear hfin
          cases fs with
          | true =>
            have hfe := HSM.out rfl
            subst hfe
            have HS := Lib.hid (show encStep ahead s f = ⟨s.t, s.tell, s.refs ++ [some fn], max s.need (fn + 1)⟩ by unfold encStep; rw [if_neg (by have := HNK.out; omega), if_pos (by rw [HHA.out]; rfl), show (finT s.t f).1 = fn from HFN.out])
            have nf := K4.out.n.frz
            obtain ⟨nu, nc⟩ := K4.out.n.old i hin
            go_wp2_with fail
            have KF := K4.out.setN fn i hrl.out hin
            obtain ⟨w5, hw5⟩ : ∃ x, w4.setCell ⟨q, i, none⟩ (.int .i64 fn) = x := ⟨_, rfl⟩
            rw [hw5] at KF ⊢
            have K5 := Lib.hid KF.1
            have F5 := Lib.hid ((KF.2.block _ (lt_of_block F4.out) (by have := HQF.out; simp; omega)).trans F4.out)
            clear hw5 KF nf nc
            go_roundg (gk - 1)
            case measure => omega
            case rel => exact ⟨i + 1, encStep ahead s f, r1, p1, A1, n1, c1, tA, tm, tc, rfl, by first | rfl | go_num, by omega, HST, HEO2, Lib.hid (by rw [HS.out]; exact HFT.out), Lib.hid (by rw [HS.out]; exact (show s.tell.length ≤ 200 * (i + 1) by have := HTL.out; omega)), Lib.hid (by rw [HS.out]; dsimp only; rw [refsN_app]; exact K5.out)⟩
          | false =>
            have HHF := Lib.hid (show hasT s.t f = false by rw [HHA.out, Bool.and_false])
            cases ahead with
            | false =>
              have HS := Lib.hid (show encStep false s f = ⟨s.t, s.tell, s.refs ++ [none], s.need⟩ by unfold encStep; rw [if_neg (by have := HNK.out; omega), if_neg (by rw [HHF.out]; decide), if_neg (by unfold mayT; simp)])
              go_wp2_with fail
              go_roundg (gk - 1)
              case measure => omega
              case rel => exact ⟨i + 1, encStep false s f, r1, p1, A1, n1, c1, tA, tm, tc, rfl, by first | rfl | go_num, by omega, HST, HEO2, Lib.hid (by rw [HS.out]; exact HFT.out), Lib.hid (by rw [HS.out]; exact (show s.tell.length ≤ 200 * (i + 1) by have := HTL.out; omega)), Lib.hid (by rw [HS.out]; dsimp only; rw [refsN_app]; exact K4.out)⟩
            | true =>
              obtain ⟨z0, z1, z2⟩ := bk3T K4.out.k.z
              have zf := fun j => bk_frz K4.out.k.z j
              obtain ⟨y0, y1⟩ := bk2F F4.out
              go_wp2_with fail
              refine (HTA.out _ K4.out.k.v).mono ?_
              clear z0 z1 z2 zf y0 y1
              rintro e w5 ⟨rfl, b5⟩
              have K5 := Lib.hid (K4.out.later b5)
              have F5 := Lib.hid ((b5.block _ (lt_of_block F4.out)).trans F4.out)
              clear b5
              obtain ⟨mb, hmb⟩ : ∃ b, mayT s.t f true = b := ⟨_, rfl⟩
              have HMB := Lib.hid hmb
              rw [hmb] at HMY ⊢
              clear hmb
              cases mb with
              | false =>
                have HS := Lib.hid (show encStep true s f = ⟨s.t, s.tell, s.refs ++ [none], s.need⟩ by unfold encStep; rw [if_neg (by have := HNK.out; omega), if_neg (by rw [HHF.out]; decide), if_neg (by rw [HMB.out]; decide)])
                go_wp2_with fail
                go_roundg (gk - 1)
                case measure => omega
                case rel => exact ⟨i + 1, encStep true s f, r1, p1, A1, n1, c1, tA, tm, tc, rfl, by first | rfl | go_num, by omega, HST, HEO2, Lib.hid (by rw [HS.out]; exact HFT.out), Lib.hid (by rw [HS.out]; exact (show s.tell.length ≤ 200 * (i + 1) by have := HTL.out; omega)), Lib.hid (by rw [HS.out]; dsimp only; rw [refsN_app]; exact K5.out)⟩
              | true =>
                obtain ⟨hi2, hif⟩ := HMY.out rfl
                have hp1 : p1 = s.t.put := by
                  obtain ⟨_, hvv, _⟩ := K5.out.k.v.ex
                  injection hvv with e1
                  exact (by simpa using e1 : r1 = s.t.room ∧ p1 = s.t.put ∧ _ = _).2.1
                have HP1 := Lib.hid hp1
                have HS := Lib.hid (show encStep true s f = ⟨(insT s.t f).1, s.tell ++ tellT f, s.refs ++ [some p1], max s.need (p1 + 1)⟩ by unfold encStep; rw [if_neg (by have := HNK.out; omega), if_neg (by rw [HHF.out]; decide), if_pos HMB.out, hp1])
                obtain ⟨z0, z1, z2⟩ := bk3T K5.out.k.z
                have zf := fun j => bk_frz K5.out.k.z j
                have nf := K5.out.n.frz
                obtain ⟨nu, nc⟩ := K5.out.n.old i hin
                clear hp1
                go_upto_region 14 with fail
                have KF := K5.out.setN p1 i hrl.out hin
                obtain ⟨w6, hw6⟩ : ∃ x, w5.setCell ⟨q, i, none⟩ (.int .i64 p1) = x := ⟨_, rfl⟩
                rw [hw6] at KF ⊢
                have K6 := Lib.hid KF.1
                have F6 := Lib.hid ((KF.2.block _ (lt_of_block F5.out) (by have := HQF.out; simp; omega)).trans F5.out)
                clear z0 z1 z2 zf hw6 KF nf nc
                obtain ⟨z0, z1, z2⟩ := bk3T K6.out.k.z
                have zf := fun j => bk_frz K6.out.k.z j
                obtain ⟨y0, y1⟩ := bk2F F6.out
                obtain ⟨⟨T9, x9⟩, hins⟩ : ∃ r, insT s.t f = r := ⟨_, rfl⟩
                rw [hins] at HIN HS hi2 hif
                unfold TbResN at HIN
                dsimp only at HIN HS hi2 hif
                subst hi2
                have HIF := Lib.hid hif
                obtain ⟨N9, hN9⟩ : ∃ n, T9.rows.length = n := ⟨_, rfl⟩
                have HN9 := Lib.hid hN9
                rw [hN9] at HIN
                clear hins hif hN9 HFI HTA HHS HHA
                go_wp2_with fail
                refine (HIN.out _ K6.out.k.v).mono ?_
                clear z0 z1 z2 zf y0 y1
                rintro e w7 ⟨b7, A9, c9, rfl, l9, m9, hrw⟩
                have RW7 := Lib.hid hrw
                have HV7 : Hid (TbVal w7 w7.heap.size (.agg #[.int .i64 T9.room, .int .i64 T9.put, .slice A9 N9 c9]) T9) := Lib.hid ⟨_, rfl, A9, c9, by rw [HN9.out], by rw [HN9.out]; exact l9, m9, hrw.row⟩
                have HLO := Lib.hid (show W.heap.size + 2 ≤ w6.heap.size by have := K6.out.n.lt; have := K6.out.q; omega)
                have HTO := Lib.hid (fun k e => (trow_lt K6.out.r k e).2)
                have K7 := Lib.hid (K6.out.later b7)
                have F7 := Lib.hid ((b7.block _ (lt_of_block F6.out)).trans F6.out)
                clear b7
                obtain ⟨z0, z1, z2⟩ := bk3T K7.out.k.z
                have zf := fun j => bk_frz K7.out.k.z j
                clear hrw l9 m9
                go_upto_region 15 with fail
                obtain ⟨kz, gz⟩ := bk3_blk K7.out.k.z (.int .i64 T9.room) (.int .i64 T9.put) (.slice A9 N9 c9)
                obtain ⟨w8, hw8⟩ : ∃ x, ((w7.setCell ⟨W.heap.size, 0, none⟩ (.int .i64 T9.room)).setCell ⟨W.heap.size, 1, none⟩ (.int .i64 T9.put)).setCell ⟨W.heap.size, 2, none⟩ (.slice A9 N9 c9) = x := ⟨_, rfl⟩
                rw [hw8] at kz gz ⊢
                have hq2 := K7.out.q
                have K8 : Hid (RfK W q n _ _ _ T9 (refsN s.refs ++ [p1]) _ s.tell w8) := Lib.hid ⟨K7.out.k.set kz gz HV7.out, K7.out.n.keep (gz.block _ K7.out.n.lt (by simp; omega)), trow_gr K7.out.r gz (fun e => by have := (trow_lt K7.out.r _ e).1; omega), hq2⟩
                have RW8 := Lib.hid (RW7.out.gr gz (fun b off _ _ hlo => by have := HLO.out; simp; omega))
                have F8 := Lib.hid ((gz.block _ (lt_of_block F7.out) (by have := HQF.out; simp; omega)).trans F7.out)
                clear hw8 kz gz hq2 z0 z1 z2 zf HV7 RW7 K7 F7
                obtain ⟨y0, y1⟩ := bk2F F8.out
                go_wp2_with fail
                refine (HPA.out _).mono ?_
                clear y0 y1
                rintro e w9 ⟨b9, d9, rfl, h9⟩
                have K9 := Lib.hid (K8.out.later b9)
                have RW9 := Lib.hid (RW8.out.below b9)
                have hb9 := wrow_bsl h9 HTT.out.1
                obtain ⟨Ad, cd, ed, _, _, _, _⟩ := hb9.ex
                subst ed
                have SR := Lib.hid (src_bsl hb9)
                have HBS := Lib.hid (show q + 1 ≤ w9.heap.size from K9.out.n.lt)
                clear b9 h9 hb9
                go_wp2_with (at_builtin
                             go_loud (refine wpList_appT rfl (.tmp 67) (.tmp 69) _ rfl (q + 1) _ _ s.tell (tellT f) rfl rfl SR.out K9.out.r (by have := HTT.out.2.1; omega) (by have := HTT.out.2.2; have := HTL.out; omega) HBS.out ?_)
                             intro v10 w10 h10 g10 _
                             have H10 := Lib.hid h10
                             have G10 := Lib.hid g10
                             obtain ⟨g9, cap9, cur9, fz9, e9, hr9⟩ := id h10
                             subst e9
                             clear h10 g10 hr9)
                have g10 := G10.out
                have hq2 := K9.out.q
                have hlt9 := trow_lt K9.out.r
                have hv10 : TbVal w10 w10.heap.size (.agg #[.int .i64 T9.room, .int .i64 T9.put, .slice A9 N9 c9]) T9 := by
                  obtain ⟨s9, es, hs9⟩ := K9.out.k.v.ex
                  obtain ⟨A', c', ea, h1, h2, h3⟩ := hs9.ex
                  subst ea
                  have e2 : (Value.slice A9 N9 c9) = .slice A' T9.rows.length c' := by
                    injection es with e1
                    simpa using e1
                  injection e2 with a1 a2 a3
                  subst a1 a3
                  exact ⟨_, rfl, A9, c9, by rw [HN9.out], h1, h2, (RW9.out.gr g10 (fun b off _ _ hlo e => by have := HTO.out b e.symm; omega)).row⟩
                have K10 : Hid (RfK W q n _ _ _ T9 (refsN s.refs ++ [p1]) _ (s.tell ++ tellT f) w10) := Lib.hid ⟨⟨(g10.block _ (lt_of_block K9.out.k.z) (fun e => by have := (hlt9 _ e.symm).1; omega)).trans K9.out.k.z, (g10.block _ (lt_of_block K9.out.k.y) (fun e => by have := (hlt9 _ e.symm).1; omega)).trans K9.out.k.y, K9.out.k.b.grown g10 K9.out.k.b.size (fun k e => by have := (hlt9 _ e).1; omega), hv10⟩, K9.out.n.keep (g10.block _ K9.out.n.lt (fun e => by have := (hlt9 _ e.symm).1; omega)), .inr H10.out, hq2⟩
                clear g10 hq2 hlt9 hv10 G10 H10
                obtain ⟨m9, hm9⟩ : ∃ m, s.tell.length + (tellT f).length = m := ⟨_, rfl⟩
                rw [List.length_append, hm9] at K10
                rw [hm9]
                go_roundg (gk - 1)
                case measure => omega
                case rel => exact ⟨i + 1, encStep true s f, T9.room, T9.put, A9, N9, c9, _, m9, cap9, rfl, by first | rfl | go_num, by omega, HST, HEO2, Lib.hid (by rw [HS.out]; exact HIF.out), Lib.hid (by rw [HS.out]; exact (by rw [List.length_append]; have := HTT.out.2.2; have := HTL.out; omega)), Lib.hid (by rw [HS.out]; dsimp only; rw [refsN_app]; exact K10.out)⟩

    · obtain rfl : i = n := by omega
      have htk : l.take i = l := List.take_of_length_le (by rw [HN.out]; exact Nat.le_refl _)
      have HSE2 := Lib.hid (show encAll ahead t l = s by rw [← HSE.out, htk])
      obtain ⟨z0, z1, z2⟩ := bk3T K.out.k.z
      obtain ⟨k1, gp⟩ := bk3_blk K.out.k.y (.int .i64 r1) (.int .i64 p1) (.slice A1 n1 c1)
      have yf := fun j => bk_frz K.out.k.y j
      obtain ⟨y0, y1, y2⟩ := bk3T K.out.k.y
      clear htk
      go_wp2_with fail
      obtain ⟨w2r0, w2r1, w2r2⟩ := bk3T k1
      refine bodyPost_ret (by simp [results, Tryd.results41, go_sem, w2r0, w2r1, w2r2]; try rfl) rfl ?_
      have hq2 := K.out.q
      exact ⟨gr_from K.out.k.b K.out.k.b.size (Nat.le_succ _) gp, _, q, _, hq2, rfl, by rw [HSE2.out]; exact (K.out.k.v.gr K.out.k.y gp).more gp.size, by rw [HSE2.out]; exact (K.out.n.keep (gp.block _ K.out.n.lt (by simp; omega))).cell, by rw [HSE2.out]; exact trow_base (trow_gr K.out.r gp (fun e => by have := (trow_lt K.out.r _ e).1; omega)) (by omega), by rw [HSE2.out]; have := HTL.out; omega⟩
end Go.Proofs.YtpfahdogedchpaaDoor
/- The project's fields: Encode. -/
namespace Go.Proofs.YtpfahdogedchpaaDoor.P
set_option linter.unusedVariables false
open Go.RowKit
theorem encAll_need {ahead : Bool} {t : Tb} (ht : TbWf t) (hp : 0 ≤ t.put) (l : List Fld) (hl : ∀ x ∈ l, FdWf x) : (encAll ahead t l).need = needN (refsN (encAll ahead t l).refs) := by
  have step : ∀ (s : EncS) (f : Fld), 0 ≤ s.need → s.need = needN (refsN s.refs) → (encStep ahead s f).need = needN (refsN (encStep ahead s f).refs) := by
    intro s f h0 h
    have base : (⟨s.t, s.tell, s.refs ++ [none], s.need⟩ : EncS).need = needN (refsN (⟨s.t, s.tell, s.refs ++ [none], s.need⟩ : EncS).refs) := by
      show s.need = needN (refsN (s.refs ++ [none]))
      rw [refsN_app, show refsN [none] = [-1] from rfl, needN_snoc, ← h]
      omega
    unfold encStep
    split
    · exact base
    · split
      · show max s.need _ = needN (refsN (s.refs ++ [some _]))
        rw [refsN_app]
        show _ = needN (refsN s.refs ++ [(finT s.t f).1])
        rw [needN_snoc, ← h]
      · split
        · show max s.need _ = needN (refsN (s.refs ++ [some _]))
          rw [refsN_app]
          show _ = needN (refsN s.refs ++ [s.t.put])
          rw [needN_snoc, ← h]
        · exact base
  have key : ∀ (l : List Fld) (s : EncS) (k : Nat), EncOk k s → s.need = needN (refsN s.refs) → (∀ x ∈ l, FdWf x) → (l.foldl (encStep ahead) s).need = needN (refsN (l.foldl (encStep ahead) s).refs) := by
    intro l
    induction l with
    | nil => intro s k _ h _; exact h
    | cons x l ih =>
      intro s k hk h hw
      exact ih _ _ (encStep_ok (ahead := ahead) hk (hw x (List.mem_cons_self ..))) (step s x hk.n0 h) (fun y hy => hw y (List.mem_cons_of_mem _ hy))
  exact key l ⟨t, [], [], 0⟩ 0 ⟨rfl, Int.le_refl _, (by decide : (0 : Int) ≤ 4611686018427387903), hp, fun n hn => by simp at hn, ht⟩ rfl hl
theorem linesP_T (need : Int) : ∀ (l : List Fld) (rs : List (Option Int)), (∀ n, some n ∈ rs → 0 ≤ n) → linesP need l (refsN rs) = ((l.zip rs).map (fun q => lineT need q.1 q.2)).flatten
  | [], rs, _ => by simp [linesP]
  | x :: l, [], _ => by simp [linesP, refsN]
  | x :: l, r :: rs, h => by
    have ih := linesP_T need l rs (fun n hn => h n (List.mem_cons_of_mem _ hn))
    cases r with
    | none =>
      rw [show linesP need (x :: l) (refsN (none :: rs)) = lineP need x (-1) ++ linesP need l (refsN rs) by simp [linesP, refsN], ih, List.zip_cons_cons, List.map_cons, List.flatten_cons]
      rfl
    | some n =>
      have := h n (List.mem_cons_self ..)
      rw [show linesP need (x :: l) (refsN (some n :: rs)) = lineP need x n ++ linesP need l (refsN rs) by simp [linesP, refsN], ih, List.zip_cons_cons, List.map_cons, List.flatten_cons]
      congr 1
      unfold lineP
      rw [if_neg (by omega)]
theorem secP_T {ahead : Bool} {t : Tb} (ht : TbWf t) (hp : 0 ≤ t.put) (l : List Fld) (hl : ∀ x ∈ l, FdWf x) : secP l (refsN (encAll ahead t l).refs) = linesT (encAll ahead t l).need l (encAll ahead t l).refs := by
  have ho := encAll_ok (ahead := ahead) ht hp l hl
  unfold secP linesT
  rw [← encAll_need ht hp l hl, linesP_T _ l _ (fun n hn => (ho.rs n hn).1)]
  rfl
theorem refs_ok {ahead : Bool} {t : Tb} (ht : TbWf t) (hp : 0 ≤ t.put) (l : List Fld) (hl : ∀ x ∈ l, FdWf x) : NOk (refsN (encAll ahead t l).refs) := by
  have ho := encAll_ok (ahead := ahead) ht hp l hl
  intro x hx
  obtain ⟨r, hr, rfl⟩ := List.mem_map.1 hx
  have := ho.n1
  cases r with
  | none => dsimp only; omega
  | some n => have := ho.rs n hr; dsimp only; omega
theorem tell_byt {ahead : Bool} {t : Tb} : ∀ (l : List Fld), (∀ x ∈ l, FdWf x) → (∀ x ∈ l, okFd x) → Byt (encAll ahead t l).tell := by
  have key : ∀ (l : List Fld) (s : EncS), Byt s.tell → (∀ x ∈ l, FdWf x ∧ okFd x) → Byt (l.foldl (encStep ahead) s).tell := by
    intro l
    induction l with
    | nil => intro s h _; exact h
    | cons x l ih =>
      intro s h hw
      refine ih _ ?_ (fun y hy => hw y (List.mem_cons_of_mem _ hy))
      have hx := hw x (List.mem_cons_self ..)
      unfold encStep
      split
      · exact h
      · split
        · exact h
        · split
          · exact h.append (tellT_byt hx.1 hx.2)
          · exact h
  exact fun l h1 h2 => key l _ Byt.nil (fun x hx => ⟨h1 x hx, h2 x hx⟩)
theorem lines_byt {need : Int} (hn : 0 ≤ need ∧ need ≤ 4611686018427387903) : ∀ (l : List Fld) (ns : List Int), (∀ x ∈ l, FdWf x ∧ okFd x) → (∀ n ∈ ns, n = -1 ∨ (0 ≤ n ∧ n < need ∧ need ≤ 4611686018427387904)) → Byt (linesP need l ns)
  | [], ns, _, _ => by simpa [linesP] using Byt.nil
  | x :: l, [], _, _ => by simpa [linesP] using Byt.nil
  | x :: l, n :: ns, h, k => by
    have ih := lines_byt hn l ns (fun y hy => h y (List.mem_cons_of_mem _ hy)) (fun y hy => k y (List.mem_cons_of_mem _ hy))
    have e : linesP need (x :: l) (n :: ns) = lineP need x n ++ linesP need l ns := by simp [linesP]
    rw [e]
    have hx := h x (List.mem_cons_self ..)
    exact (lineP_len hx.1 hx.2 (k n (List.mem_cons_self ..))).1.append ih
theorem secP_byt {l : List Fld} {ns : List Int} (h : ∀ x ∈ l, FdWf x ∧ okFd x) (k : NOk ns) : Byt (secP l ns) := by
  have h1 := needN_in k
  refine (pxT_len (first := 0) (top := 255) (n := needN ns) (by decide) (by decide) (by decide) h1.1 (by omega)).1.append (lines_byt h1 l ns h (fun n hn => ?_))
  have a := k n hn
  have b := needN_ge n hn
  omega
theorem faultFl_ok {l : List Fld} (h : faultFl l = 0) : (∀ f ∈ l, okFd f) ∧ l.length ≤ 8 := by
  unfold faultFl at h
  by_cases c : 8 < l.length
  · rw [if_pos c] at h; simp at h
  · rw [if_neg c] at h
    by_cases d : ∀ f ∈ l, okFd f
    · exact ⟨d, by omega⟩
    · rw [if_neg d] at h; simp at h
/-- what is asked of Encode -/
def FdEncD (P : Program) (f : FuncId) : Prop := ∀ (v : Value) (t : Tb) (A : Option Addr) (n c : Nat) (l : List Fld) (ahead : Bool) (W : World), TbVal W W.heap.size v t → TbWf t → RowE FdE W W.heap.size A l → l.length = n → (∀ x ∈ l, FdWf x) → n ≤ 8796093022208 →
  Calls P f #[v, .slice A n c, .bool ahead] W fun e w' => Below W.heap.size W w' ∧ ∃ v' d1 d2, e = .returned (.tuple #[v', d1, d2, .int .i64 (encFl t l ahead).2.2.2]) ∧ TbVal w' w'.heap.size v' (encFl t l ahead).1 ∧ BSl w' w'.heap.size d1 (encFl t l ahead).2.1 ∧ BSl w' w'.heap.size d2 (encFl t l ahead).2.2.1
end Go.Proofs.YtpfahdogedchpaaDoor.P
namespace Go.Proofs.YtpfahdogedchpaaDoor
set_option linter.unusedVariables false
open Go.RowKit P

structure FdEc (w0 : World) (W : World) (r1 p1 : Int) (A1 : Option Addr) (n1 c1 : Nat) (tA : Option Addr) (tm tc : Nat) (A : Option Addr) (n c q : Nat) (T : Tb) (TELL SEC : List Int) (V0 V1 V2 V3 V6 V8 : Value) (tb0 tb1 tb2 tb3 tb4 tb5 tb6 tb7 tb8 : Bool) (tx0 tx1 tx2 tx3 tx4 tx5 tx6 tx7 tx8 : Value) (w : World) : Prop where
  be : tb5 = false → Below w0.heap.size w0 w
  d4 : tb4 = true → tb2 = true ∧ tb3 = true
  d5 : tb5 = true → tb0 = true ∧ tb4 = true
  d6 : tb6 = true → tb0 = true ∧ tb1 = true ∧ tb5 = true
  d7 : tb7 = true → tb0 = true ∧ tb1 = true ∧ tb2 = true ∧ tb3 = true ∧ tb4 = true ∧ tb5 = true ∧ tb6 = true
  d8 : tb8 = true → tb0 = true ∧ tb1 = true ∧ tb2 = true ∧ tb3 = true ∧ tb4 = true ∧ tb5 = true ∧ tb6 = true ∧ tb7 = true
  h0 : tb0 = true → tx0 = V0
  h1 : tb1 = true → tx1 = V1
  h2 : tb2 = true → tx2 = V2
  h3 : tb3 = true → tx3 = V3
  h4 : tb4 = true → tb5 = false → WRow w w0.heap.size 5 tx4 SEC
  h5 : tb5 = true → w.heap[W.heap.size + 1]? = some (.cells #[.int .i64 r1, .int .i64 p1, .slice A1 n1 c1] 24 (0, 0)) ∧ TbVal w w.heap.size (.agg #[.int .i64 r1, .int .i64 p1, .slice A1 n1 c1]) T ∧ BSl w w.heap.size (.slice tA tm tc) TELL ∧ BSl w w.heap.size tx4 SEC ∧ Below W.heap.size W w
  h6 : tb6 = true → tx6 = V6
  h7 : tb7 = true → tx7 = tx4
  h8 : tb8 = true → tx8 = V8
set_option maxRecDepth 100000 in
set_option maxHeartbeats 2000000 in
theorem fdenc_any : FdEncD Tryd.prog 23 := fun v t A n c l ahead W hv hw h hn hwf hm => by
  have HFT := Lib.hid (fun w (hb : Below W.heap.size W w) => tchk_any v t w (hv.on hb) hw)
  have HFL := Lib.hid (fun w (hb : Below W.heap.size W w) => fdchk_any A n c l w (h.on hb) hn hwf hm)
  have HRF := Lib.hid (fun h0 hok h8 w (hb : Below W.heap.size W w) => refer_any v t A n c l ahead w (hv.on hb) hw h0 (h.on hb) hn hwf hok h8)
  have HSE := Lib.hid (fun q hok h8 hns hno w (hb : Below W.heap.size W w) (hq : NCell w q (refsN (encAll ahead t l).refs)) => section_any A n c q l (refsN (encAll ahead t l).refs) w (h.on hb) hn hns hwf hok h8 hq hno)
  have HPU := Lib.hid (fun h0 => ((faultTb_iff t).1 h0).2.1.1)
  have HOK := Lib.hid (fun (h : faultFl l = 0) => show (∀ f ∈ l, okFd f) ∧ n ≤ 8 from hn ▸ faultFl_ok h)
  have hE : encFl t l ahead = if faultTb t ≠ 0 then (tb0, [], [], faultTb t) else if faultFl l ≠ 0 then (tb0, [], [], faultFl l) else ((encAll ahead t l).t, (encAll ahead t l).tell, linesT (encAll ahead t l).need l (encAll ahead t l).refs, 0) := rfl
  rw [hE]
  have HWT := Lib.hid hw
  have HWF := Lib.hid hwf
  have HN := Lib.hid hn
  obtain ⟨At, N, cp, room, put, rfl, hv'⟩ := tb_partsR hv
  obtain ⟨g1, g2, g3⟩ := two_bk W #[.int .i64 room, .int .i64 put, .slice At N cp] #[.int .i64 0, .int .i64 0, .slice none 0 0] 24 24
  have Z0 := Lib.hid g1
  have Y0 := Lib.hid g2
  have B0 := Lib.hid g3
  obtain ⟨x, hx⟩ : ∃ x, faultTb t = x := ⟨_, rfl⟩
  rw [hx] at HFT HRF HPU ⊢
  obtain ⟨y, hy⟩ : ∃ y, faultFl l = y := ⟨_, rfl⟩
  rw [hy] at HFL HOK ⊢
  clear hx hy hv hv' hw h hn hwf g1 g2 g3
  obtain ⟨z0, z1, z2⟩ := bk3T Z0.out
  have zf := fun j => bk_frz Z0.out j
  obtain ⟨y0, y1, y2⟩ := bk3T Y0.out
  have yf := fun j => bk_frz Y0.out j
  by_cases h0 : x = 0
  · subst h0
    rw [if_neg (fun k => k rfl)]
    by_cases h1 : y = 0
    · subst h1
      rw [if_neg (fun k => k rfl)]
      obtain ⟨hok, h8⟩ := HOK.out rfl
      have hput := HPU.out rfl
      have HRF2 := Lib.hid (HRF.out rfl hok h8)
      have hns : (refsN (encAll ahead t l).refs).length = n := by rw [refsN_len, (encAll_ok (ahead := ahead) HWT.out hput l HWF.out).len, HN.out]
      have hno := refs_ok (ahead := ahead) HWT.out hput l HWF.out
      have HSE2 := Lib.hid (fun q w hb hq => HSE.out q hok h8 hns hno w hb hq)
      rw [← secP_T HWT.out hput l HWF.out]
      have HYT := Lib.hid (tell_byt (ahead := ahead) (t := t) l HWF.out hok)
      have HYS := Lib.hid (secP_byt (fun x hx => ⟨HWF.out x hx, hok x hx⟩) hno)
      obtain ⟨SEC, hSEC⟩ : ∃ L, secP l (refsN (encAll ahead t l).refs) = L := ⟨_, rfl⟩
      rw [hSEC] at HSE2 HYS ⊢
      obtain ⟨NS, hNS⟩ : ∃ L, refsN (encAll ahead t l).refs = L := ⟨_, rfl⟩
      rw [hNS] at HSE2 HRF2
      obtain ⟨T, hT⟩ : ∃ L, (encAll ahead t l).t = L := ⟨_, rfl⟩
      obtain ⟨TELL, hTELL⟩ : ∃ L, (encAll ahead t l).tell = L := ⟨_, rfl⟩
      rw [hT, hTELL] at HRF2 ⊢
      rw [hTELL] at HYT
      clear HSE HRF HOK HPU hput hns hno hSEC hNS hT hTELL
      go_enter Tryd.func23, Tryd.ntmps23
      go_wp2_with fail
      refine (HFT.out _ B0.out).mono ?_
      clear z0 z1 z2 zf y0 y1 y2 yf
      rintro e w1 ⟨rfl, b1⟩
      have B1 := Lib.hid (B0.out.trans (b1.mono B0.out.size))
      have Z1 := Lib.hid ((b1.block _ (lt_of_block Z0.out)).trans Z0.out)
      have Y1 := Lib.hid ((b1.block _ (lt_of_block Y0.out)).trans Y0.out)
      clear b1
      obtain ⟨z0, z1, z2⟩ := bk3T Z1.out
      have zf := fun j => bk_frz Z1.out j
      obtain ⟨y0, y1, y2⟩ := bk3T Y1.out
      have yf := fun j => bk_frz Y1.out j
      go_wp2_with fail
      refine (HFL.out _ B1.out).mono ?_
      clear z0 z1 z2 zf y0 y1 y2 yf
      rintro e w2 ⟨rfl, b2⟩
      have B2 := Lib.hid (B1.out.trans (b2.mono B1.out.size))
      have Z2 := Lib.hid ((b2.block _ (lt_of_block Z1.out)).trans Z1.out)
      have Y2 := Lib.hid ((b2.block _ (lt_of_block Y1.out)).trans Y1.out)
      clear b2
      obtain ⟨z0, z1, z2⟩ := bk3T Z2.out
      have zf := fun j => bk_frz Z2.out j
      obtain ⟨y0, y1, y2⟩ := bk3T Y2.out
      have yf := fun j => bk_frz Y2.out j
      go_wp2_with fail
      refine (HRF2.out _ B2.out).mono ?_
      clear z0 z1 z2 zf y0 y1 y2 yf
      rintro e w3 ⟨b3, v3, q, d3, hqW2, rfl, hv3, hq3, ht3, _⟩
      have HB2 := Lib.hid (show W.heap.size + 2 ≤ w2.heap.size by have := lt_of_block Y2.out; omega)
      have B3 := Lib.hid (B2.out.trans (b3.mono B2.out.size))
      have Z3 := Lib.hid ((b3.block _ (lt_of_block Z2.out)).trans Z2.out)
      have Y3 := Lib.hid ((b3.block _ (lt_of_block Y2.out)).trans Y2.out)
      obtain ⟨A1, n1, c1, r1, p1, rfl, hv3⟩ := tb_partsR hv3
      obtain ⟨tA, tm, tc, rfl⟩ := trow_slice ht3
      have T3 := Lib.hid ht3
      have N3 := Lib.hid hq3
      have V3 := Lib.hid hv3
      clear b3 ht3 hq3 hv3
      obtain ⟨z0, z1, z2⟩ := bk3T Z3.out
      have zf := fun j => bk_frz Z3.out j
      obtain ⟨y0, y1, y2⟩ := bk3T Y3.out
      have yf := fun j => bk_frz Y3.out j
      go_upto_region 8 with fail
      obtain ⟨kz, gz⟩ := bk3_blk Z3.out (.int .i64 r1) (.int .i64 p1) (.slice A1 n1 c1)
      obtain ⟨w4, hw4⟩ : ∃ x, ((w3.setCell ⟨W.heap.size, 0, none⟩ (.int .i64 r1)).setCell ⟨W.heap.size, 1, none⟩ (.int .i64 p1)).setCell ⟨W.heap.size, 2, none⟩ (.slice A1 n1 c1) = x := ⟨_, rfl⟩
      rw [hw4] at kz gz ⊢
      have Z4 := Lib.hid kz
      have Y4 := Lib.hid ((gz.block _ (lt_of_block Y3.out) (by simp)).trans Y3.out)
      have B4 := Lib.hid (gr_from B3.out B3.out.size (Nat.le_refl _) gz)
      have V4 := Lib.hid ((V3.out.gr Z3.out gz).more gz.size)
      have T4 := Lib.hid (trow_gr T3.out gz (fun e => by have := (trow_lt T3.out _ e).1; have := HB2.out; omega))
      have hq9 := N3.out
      have hqW : q ≠ W.heap.size := by have := HB2.out; omega
      have N4 : Hid (NCell w4 q NS) := Lib.hid ⟨Nat.lt_of_lt_of_le hq9.1 gz.size, fun j hj => gz.cell (hq9.2 j hj) (by simpa using hqW)⟩
      have HSEC := Lib.hid (fun w (hb : Below w4.heap.size w4 w) => HSE2.out q w (B4.out.trans (hb.mono B4.out.size)) (N4.out.on hb))
      clear z0 z1 z2 zf y0 y1 y2 yf
      clear hw4 kz gz hq9 hqW hqW2 HSE2 HRF2
      refine wp_region_inv (fun lis_ act_ wld_ => ∃ (tb0 tb1 tb2 tb3 tb4 tb5 tb6 tb7 tb8 : Bool) (tx0 tx1 tx2 tx3 tx4 tx5 tx6 tx7 tx8 : Value), lis_ = #[tb0, tb1, tb2, tb3, tb4, tb5, tb6, tb7, tb8] ∧ act_ = { tmps := #[Value.agg #[Value.int IntKind.i64 room, Value.int IntKind.i64 put, Value.slice At N cp], Value.slice A n c, Value.bool ahead, Value.pointer (some { block := W.heap.size, off := 0 }), undef, undef, Value.pointer (some { block := W.heap.size + 1, off := 0 }), tx6, tx7, tx8, Value.int IntKind.i64 0, Value.int IntKind.i64 0, Value.slice (some { block := q, off := 0 }) n n, Value.slice tA tm tc, Value.agg #[Value.int IntKind.i64 room, Value.int IntKind.i64 put, Value.slice At N cp], Value.int IntKind.i64 0, Value.int IntKind.i64 0, Value.bool false, undef, undef, Value.slice A n c, Value.int IntKind.i64 0, Value.int IntKind.i64 0, Value.bool false, undef, undef, Value.tuple #[Value.agg #[Value.int IntKind.i64 r1, Value.int IntKind.i64 p1, Value.slice A1 n1 c1], Value.slice (some { block := q, off := 0 }) n n, Value.slice tA tm tc], Value.agg #[Value.int IntKind.i64 room, Value.int IntKind.i64 put, Value.slice At N cp], Value.slice A n c, Value.bool ahead, Value.tuple #[Value.agg #[Value.int IntKind.i64 r1, Value.int IntKind.i64 p1, Value.slice A1 n1 c1], Value.slice (some { block := q, off := 0 }) n n, Value.slice tA tm tc], Value.agg #[Value.int IntKind.i64 r1, Value.int IntKind.i64 p1, Value.slice A1 n1 c1], Value.slice (some { block := q, off := 0 }) n n, Value.slice tA tm tc, tx0, tx1, tx2, tx3, tx4], defers := [] } ∧ FdEc w4 W r1 p1 A1 n1 c1 tA tm tc A n c q T TELL SEC (.agg #[.int .i64 r1, .int .i64 p1, .slice A1 n1 c1]) (.slice tA tm tc) (.slice A n c) (.slice (some ⟨q, 0, none⟩) n n) (.slice tA tm tc) (.int .i64 0) tb0 tb1 tb2 tb3 tb4 tb5 tb6 tb7 tb8 tx0 tx1 tx2 tx3 tx4 tx5 tx6 tx7 tx8 wld_) (by kernel_rfl) ?h0 ?hfin ?hI
      case h0 => exact ⟨_, _, _, _, _, _, _, _, _, _, _, _, _, _, undef, _, _, _, rfl, rfl, ⟨(fun _ => (Below.refl _ _).drew), (fun h => by cases h), (fun h => by cases h), (fun h => by cases h), (fun h => by cases h), (fun h => by cases h), (fun h => by cases h), (fun h => by cases h), (fun h => by cases h), (fun h => by cases h), (fun h => by cases h), (fun h => by cases h), (fun h => by cases h), (fun h => by cases h), (fun h => by cases h)⟩⟩
      case hI =>
        rintro listed a w ⟨tb0, tb1, tb2, tb3, tb4, tb5, tb6, tb7, tb8, tx0, tx1, tx2, tx3, tx4, tx5, tx6, tx7, tx8, rfl, rfl, H⟩ i hi
        obtain ⟨hun, oj, hoj, hall⟩ := mem_ready.1 hi
        clear hi
        rcases i with _ | _ | _ | _ | _ | _ | _ | _ | _ | i
        · have ho := hoj
          simp only [List.getElem?_toArray, List.getElem?_cons_succ, List.getElem?_cons_zero, Option.some.injEq] at hoj
          subst hoj
          obtain rfl : tb0 = false := hun
          clear hall
          obtain rfl : tb5 = false := Bool.eq_false_iff.2 fun h => Bool.false_ne_true (H.d5 h).1
          obtain rfl : tb6 = false := Bool.eq_false_iff.2 fun h => Bool.false_ne_true (H.d6 h).1
          obtain rfl : tb7 = false := Bool.eq_false_iff.2 fun h => Bool.false_ne_true (H.d7 h).1
          obtain rfl : tb8 = false := Bool.eq_false_iff.2 fun h => Bool.false_ne_true (H.d8 h).1
          have hbe := H.be rfl
          obtain ⟨z0, z1, z2⟩ := bk3T ((hbe.block _ (lt_of_block Z4.out)).trans Z4.out)
          refine wpOp_step ho (fun K' hK => ?_)
          have HK := Lib.hid hK
          clear hK ho
          go_simp
          exact HK.out _ _ ⟨_, _, _, _, _, _, _, _, _, _, _, _, _, _, tx5, _, _, _, rfl, rfl, ⟨(fun _ => hbe), H.d4, (fun h => by cases h), (fun h => by cases h), (fun h => by cases h), (fun h => by cases h), (fun _ => rfl), H.h1, H.h2, H.h3, H.h4, (fun h => by cases h), H.h6, (fun h => by cases h), H.h8⟩⟩
        · have ho := hoj
          simp only [List.getElem?_toArray, List.getElem?_cons_succ, List.getElem?_cons_zero, Option.some.injEq] at hoj
          subst hoj
          obtain rfl : tb1 = false := hun
          clear hall
          obtain rfl : tb6 = false := Bool.eq_false_iff.2 fun h => Bool.false_ne_true (H.d6 h).2.1
          obtain rfl : tb7 = false := Bool.eq_false_iff.2 fun h => Bool.false_ne_true (H.d7 h).2.1
          obtain rfl : tb8 = false := Bool.eq_false_iff.2 fun h => Bool.false_ne_true (H.d8 h).2.1
          refine wpOp_step ho (fun K' hK => ?_)
          have HK := Lib.hid hK
          clear hK ho
          go_simp
          exact HK.out _ _ ⟨_, _, _, _, _, _, _, _, _, _, _, _, _, _, tx5, _, _, _, rfl, rfl, ⟨H.be, H.d4, H.d5, (fun h => by cases h), (fun h => by cases h), (fun h => by cases h), H.h0, (fun _ => rfl), H.h2, H.h3, H.h4, H.h5, H.h6, (fun h => by cases h), H.h8⟩⟩
        · have ho := hoj
          simp only [List.getElem?_toArray, List.getElem?_cons_succ, List.getElem?_cons_zero, Option.some.injEq] at hoj
          subst hoj
          obtain rfl : tb2 = false := hun
          clear hall
          obtain rfl : tb4 = false := Bool.eq_false_iff.2 fun h => Bool.false_ne_true (H.d4 h).1
          obtain rfl : tb5 = false := Bool.eq_false_iff.2 fun h => Bool.false_ne_true (H.d5 h).2
          obtain rfl : tb6 = false := Bool.eq_false_iff.2 fun h => Bool.false_ne_true (H.d6 h).2.2
          obtain rfl : tb7 = false := Bool.eq_false_iff.2 fun h => Bool.false_ne_true (H.d7 h).2.2.1
          obtain rfl : tb8 = false := Bool.eq_false_iff.2 fun h => Bool.false_ne_true (H.d8 h).2.2.1
          have hbe := H.be rfl
          refine wpOp_step ho (fun K' hK => ?_)
          have HK := Lib.hid hK
          clear hK ho
          go_simp
          exact HK.out _ _ ⟨_, _, _, _, _, _, _, _, _, _, _, _, _, _, tx5, _, _, _, rfl, rfl, ⟨(fun _ => hbe), (fun h => by cases h), H.d5, H.d6, (fun h => by cases h), (fun h => by cases h), H.h0, H.h1, (fun _ => rfl), H.h3, (fun h => by cases h), (fun h => by cases h), H.h6, (fun h => by cases h), H.h8⟩⟩
        · have ho := hoj
          simp only [List.getElem?_toArray, List.getElem?_cons_succ, List.getElem?_cons_zero, Option.some.injEq] at hoj
          subst hoj
          obtain rfl : tb3 = false := hun
          clear hall
          obtain rfl : tb4 = false := Bool.eq_false_iff.2 fun h => Bool.false_ne_true (H.d4 h).2
          obtain rfl : tb5 = false := Bool.eq_false_iff.2 fun h => Bool.false_ne_true (H.d5 h).2
          obtain rfl : tb6 = false := Bool.eq_false_iff.2 fun h => Bool.false_ne_true (H.d6 h).2.2
          obtain rfl : tb7 = false := Bool.eq_false_iff.2 fun h => Bool.false_ne_true (H.d7 h).2.2.2.1
          obtain rfl : tb8 = false := Bool.eq_false_iff.2 fun h => Bool.false_ne_true (H.d8 h).2.2.2.1
          have hbe := H.be rfl
          refine wpOp_step ho (fun K' hK => ?_)
          have HK := Lib.hid hK
          clear hK ho
          go_simp
          exact HK.out _ _ ⟨_, _, _, _, _, _, _, _, _, _, _, _, _, _, tx5, _, _, _, rfl, rfl, ⟨(fun _ => hbe), (fun h => by cases h), H.d5, H.d6, (fun h => by cases h), (fun h => by cases h), H.h0, H.h1, H.h2, (fun _ => rfl), (fun h => by cases h), (fun h => by cases h), H.h6, (fun h => by cases h), H.h8⟩⟩
        · have ho := hoj
          simp only [List.getElem?_toArray, List.getElem?_cons_succ, List.getElem?_cons_zero, Option.some.injEq] at hoj
          subst hoj
          obtain rfl : tb4 = false := hun
          obtain rfl : tb2 = true := hall ⟨2, .data⟩ (by simp) (by kernel_rfl)
          obtain rfl : tb3 = true := hall ⟨3, .data⟩ (by simp) (by kernel_rfl)
          clear hall
          obtain rfl : tb5 = false := Bool.eq_false_iff.2 fun h => Bool.false_ne_true (H.d5 h).2
          obtain rfl : tb6 = false := Bool.eq_false_iff.2 fun h => Bool.false_ne_true (H.d6 h).2.2
          obtain rfl : tb7 = false := Bool.eq_false_iff.2 fun h => Bool.false_ne_true (H.d7 h).2.2.2.2.1
          obtain rfl : tb8 = false := Bool.eq_false_iff.2 fun h => Bool.false_ne_true (H.d8 h).2.2.2.2.1
          have hbe := H.be rfl
          obtain rfl := H.h2 rfl
          obtain rfl := H.h3 rfl
          refine wpOp_step ho (fun K' hK => ?_)
          have HK := Lib.hid hK
          clear hK ho
          go_wp2_with fail
          refine (HSEC.out _ hbe).mono ?_
          rintro e w9 ⟨tb9, d9, rfl, h9⟩
          have BC := Lib.hid tb9
          have RC := Lib.hid (wrow_base h9 hbe.size)
          clear tb9 h9
          go_wp2_with fail
          exact HK.out _ _ ⟨_, _, _, _, _, _, _, _, _, _, _, _, _, _, tx5, _, _, _, rfl, rfl, ⟨(fun _ => hbe.trans (BC.out.mono hbe.size)), (fun _ => ⟨rfl, rfl⟩), (fun h => by cases h), H.d6, (fun h => by cases h), (fun h => by cases h), H.h0, H.h1, H.h2, H.h3, (fun _ _ => RC.out), (fun h => by cases h), H.h6, (fun h => by cases h), H.h8⟩⟩
        · have ho := hoj
          simp only [List.getElem?_toArray, List.getElem?_cons_succ, List.getElem?_cons_zero, Option.some.injEq] at hoj
          subst hoj
          obtain rfl : tb5 = false := hun
          obtain rfl : tb0 = true := hall ⟨0, .data⟩ (by simp) (by kernel_rfl)
          obtain rfl : tb4 = true := hall ⟨4, .chain⟩ (by simp) (by kernel_rfl)
          obtain rfl : tb2 = true := (H.d4 rfl).1
          obtain rfl : tb3 = true := (H.d4 rfl).2
          clear hall
          obtain rfl : tb6 = false := Bool.eq_false_iff.2 fun h => Bool.false_ne_true (H.d6 h).2.2
          obtain rfl : tb7 = false := Bool.eq_false_iff.2 fun h => Bool.false_ne_true (H.d7 h).2.2.2.2.2.1
          obtain rfl : tb8 = false := Bool.eq_false_iff.2 fun h => Bool.false_ne_true (H.d8 h).2.2.2.2.2.1
          have hbe := H.be rfl
          obtain rfl := H.h0 rfl
          obtain rfl := H.h2 rfl
          obtain rfl := H.h3 rfl
          have P4 := H.h4 rfl rfl
          have YB := Lib.hid ((hbe.block _ (lt_of_block Y4.out)).trans Y4.out)
          obtain ⟨k1, gp⟩ := bk3_blk YB.out (.int .i64 r1) (.int .i64 p1) (.slice A1 n1 c1)
          have KQ := Lib.hid k1
          have VQ := Lib.hid (((V4.out.on hbe).gr YB.out gp).more gp.size)
          have TQ := Lib.hid (trow_bsl (trow_gr (trow_below T4.out hbe) gp (fun e => by have := (trow_lt T4.out _ e).1; have := HB2.out; omega)) HYT.out)
          have SQ := Lib.hid (trow_bsl (trow_gr (.inr P4) gp (fun e => by have := (trow_lt (.inr P4) _ e).1; have := lt_of_block Y4.out; omega)) HYS.out)
          have BQ := Lib.hid (gr_from (B4.out.trans (hbe.mono B4.out.size)) (B4.out.trans (hbe.mono B4.out.size)).size (Nat.le_succ _) gp)
          obtain ⟨y0, y1, y2⟩ := bk3T YB.out
          have yf := fun i => bk_frz YB.out i
          clear k1 gp
          refine wpOp_step ho (fun K' hK => ?_)
          have HK := Lib.hid hK
          clear hK ho
          go_simp
          exact HK.out _ _ ⟨_, _, _, _, _, _, _, _, _, _, _, _, _, _, tx5, _, _, _, rfl, rfl, ⟨(fun h => by cases h), H.d4, (fun _ => ⟨rfl, rfl⟩), (fun h => by cases h), (fun h => by cases h), (fun h => by cases h), H.h0, H.h1, H.h2, H.h3, (fun _ h => by cases h), (fun _ => ⟨KQ.out, VQ.out, TQ.out, SQ.out, BQ.out⟩), H.h6, (fun h => by cases h), H.h8⟩⟩
        · have ho := hoj
          simp only [List.getElem?_toArray, List.getElem?_cons_succ, List.getElem?_cons_zero, Option.some.injEq] at hoj
          subst hoj
          obtain rfl : tb6 = false := hun
          obtain rfl : tb0 = true := hall ⟨0, .phase⟩ (by simp) (by kernel_rfl)
          obtain rfl : tb1 = true := hall ⟨1, .data⟩ (by simp) (by kernel_rfl)
          obtain rfl : tb5 = true := hall ⟨5, .chain⟩ (by simp) (by kernel_rfl)
          obtain rfl : tb4 = true := (H.d5 rfl).2
          obtain rfl : tb2 = true := (H.d4 rfl).1
          obtain rfl : tb3 = true := (H.d4 rfl).2
          clear hall
          obtain rfl : tb7 = false := Bool.eq_false_iff.2 fun h => Bool.false_ne_true (H.d7 h).2.2.2.2.2.2
          obtain rfl : tb8 = false := Bool.eq_false_iff.2 fun h => Bool.false_ne_true (H.d8 h).2.2.2.2.2.2.1
          obtain rfl := H.h0 rfl
          obtain rfl := H.h1 rfl
          obtain rfl := H.h2 rfl
          obtain rfl := H.h3 rfl
          have P5 := H.h5 rfl
          refine wpOp_step ho (fun K' hK => ?_)
          have HK := Lib.hid hK
          clear hK ho
          go_simp
          exact HK.out _ _ ⟨_, _, _, _, _, _, _, _, _, _, _, _, _, _, tx5, _, _, _, rfl, rfl, ⟨(fun h => by cases h), H.d4, H.d5, (fun _ => ⟨rfl, rfl, rfl⟩), (fun h => by cases h), (fun h => by cases h), H.h0, H.h1, H.h2, H.h3, (fun _ h => by cases h), H.h5, (fun _ => rfl), (fun h => by cases h), H.h8⟩⟩
        · have ho := hoj
          simp only [List.getElem?_toArray, List.getElem?_cons_succ, List.getElem?_cons_zero, Option.some.injEq] at hoj
          subst hoj
          obtain rfl : tb7 = false := hun
          obtain rfl : tb0 = true := hall ⟨0, .phase⟩ (by simp) (by kernel_rfl)
          obtain rfl : tb1 = true := hall ⟨1, .phase⟩ (by simp) (by kernel_rfl)
          obtain rfl : tb2 = true := hall ⟨2, .phase⟩ (by simp) (by kernel_rfl)
          obtain rfl : tb3 = true := hall ⟨3, .phase⟩ (by simp) (by kernel_rfl)
          obtain rfl : tb4 = true := hall ⟨4, .data⟩ (by simp) (by kernel_rfl)
          obtain rfl : tb5 = true := hall ⟨5, .phase⟩ (by simp) (by kernel_rfl)
          obtain rfl : tb6 = true := hall ⟨6, .chain⟩ (by simp) (by kernel_rfl)
          clear hall
          obtain rfl : tb8 = false := Bool.eq_false_iff.2 fun h => Bool.false_ne_true (H.d8 h).2.2.2.2.2.2.2
          obtain rfl := H.h0 rfl
          obtain rfl := H.h1 rfl
          obtain rfl := H.h2 rfl
          obtain rfl := H.h3 rfl
          have P5 := H.h5 rfl
          obtain rfl := H.h6 rfl
          refine wpOp_step ho (fun K' hK => ?_)
          have HK := Lib.hid hK
          clear hK ho
          go_simp
          exact HK.out _ _ ⟨_, _, _, _, _, _, _, _, _, _, _, _, _, _, tx5, _, _, _, rfl, rfl, ⟨(fun h => by cases h), H.d4, H.d5, H.d6, (fun _ => ⟨rfl, rfl, rfl, rfl, rfl, rfl, rfl⟩), (fun h => by cases h), H.h0, H.h1, H.h2, H.h3, (fun _ h => by cases h), H.h5, H.h6, (fun _ => rfl), H.h8⟩⟩
        · have ho := hoj
          simp only [List.getElem?_toArray, List.getElem?_cons_succ, List.getElem?_cons_zero, Option.some.injEq] at hoj
          subst hoj
          obtain rfl : tb8 = false := hun
          obtain rfl : tb0 = true := hall ⟨0, .phase⟩ (by simp) (by kernel_rfl)
          obtain rfl : tb1 = true := hall ⟨1, .phase⟩ (by simp) (by kernel_rfl)
          obtain rfl : tb2 = true := hall ⟨2, .phase⟩ (by simp) (by kernel_rfl)
          obtain rfl : tb3 = true := hall ⟨3, .phase⟩ (by simp) (by kernel_rfl)
          obtain rfl : tb4 = true := hall ⟨4, .phase⟩ (by simp) (by kernel_rfl)
          obtain rfl : tb5 = true := hall ⟨5, .phase⟩ (by simp) (by kernel_rfl)
          obtain rfl : tb6 = true := hall ⟨6, .phase⟩ (by simp) (by kernel_rfl)
          obtain rfl : tb7 = true := hall ⟨7, .chain⟩ (by simp) (by kernel_rfl)
          clear hall
          obtain rfl := H.h0 rfl
          obtain rfl := H.h1 rfl
          obtain rfl := H.h2 rfl
          obtain rfl := H.h3 rfl
          have P5 := H.h5 rfl
          obtain rfl := H.h6 rfl
          have P7 := H.h7 rfl
          subst P7
          refine wpOp_step ho (fun K' hK => ?_)
          have HK := Lib.hid hK
          clear hK ho
          go_simp
          exact HK.out _ _ ⟨_, _, _, _, _, _, _, _, _, _, _, _, _, _, tx5, _, _, _, rfl, rfl, ⟨(fun h => by cases h), H.d4, H.d5, H.d6, H.d7, (fun _ => ⟨rfl, rfl, rfl, rfl, rfl, rfl, rfl, rfl⟩), H.h0, H.h1, H.h2, H.h3, (fun _ h => by cases h), H.h5, H.h6, H.h7, (fun _ => rfl)⟩⟩
        · have ho := hoj
          simp at ho
      case hfin =>
        rintro listed a w ⟨tb0, tb1, tb2, tb3, tb4, tb5, tb6, tb7, tb8, tx0, tx1, tx2, tx3, tx4, tx5, tx6, tx7, tx8, rfl, rfl, H⟩ hr
        have hb : tb8 = true := by
          clear H
          revert tb0 tb1 tb2 tb3 tb4 tb5 tb6 tb7 tb8
          decide +kernel
        subst hb
        clear hr
        obtain rfl : tb0 = true := (H.d8 rfl).1
        obtain rfl : tb1 = true := (H.d8 rfl).2.1
        obtain rfl : tb2 = true := (H.d8 rfl).2.2.1
        obtain rfl : tb3 = true := (H.d8 rfl).2.2.2.1
        obtain rfl : tb4 = true := (H.d8 rfl).2.2.2.2.1
        obtain rfl : tb5 = true := (H.d8 rfl).2.2.2.2.2.1
        obtain rfl : tb6 = true := (H.d8 rfl).2.2.2.2.2.2.1
        obtain rfl : tb7 = true := (H.d8 rfl).2.2.2.2.2.2.2
        obtain ⟨hk, hv, ht, hs, hb⟩ := H.h5 rfl
        have e6 := H.h6 rfl
        have e7 := H.h7 rfl
        have e8 := H.h8 rfl
        clear H
        obtain ⟨w5, hw5⟩ : ∃ x, x = w := ⟨_, rfl⟩
        subst w
        subst e7
        obtain ⟨k0, k1, k2⟩ := bk3T hk
        clear hk
        go_wp2_with fail
        refine bodyPost_ret (by simp [results, Tryd.results23, go_sem, k0, k1, k2, e6, e8]; try rfl) rfl ?_
        exact ⟨hb, _, _, _, rfl, hv, ht, hs⟩
    · rw [if_pos h1]
      have g : (y != 0) = true := by simp [h1]
      clear h1 HOK
      go_enter Tryd.func23, Tryd.ntmps23
      go_wp2_with fail
      refine (HFT.out _ B0.out).mono ?_
      clear z0 z1 z2 zf y0 y1 y2 yf
      rintro e w1 ⟨rfl, b1⟩
      have B1 := Lib.hid (B0.out.trans (b1.mono B0.out.size))
      have Z1 := Lib.hid ((b1.block _ (lt_of_block Z0.out)).trans Z0.out)
      have Y1 := Lib.hid ((b1.block _ (lt_of_block Y0.out)).trans Y0.out)
      clear b1
      obtain ⟨z0, z1, z2⟩ := bk3T Z1.out
      have zf := fun j => bk_frz Z1.out j
      obtain ⟨y0, y1, y2⟩ := bk3T Y1.out
      have yf := fun j => bk_frz Y1.out j
      go_wp2_with fail
      refine (HFL.out _ B1.out).mono ?_
      clear z0 z1 z2 zf y0 y1 y2 yf
      rintro e w2 ⟨rfl, b2⟩
      have B2 := Lib.hid (B1.out.trans (b2.mono B1.out.size))
      have Z2 := Lib.hid ((b2.block _ (lt_of_block Z1.out)).trans Z1.out)
      have Y2 := Lib.hid ((b2.block _ (lt_of_block Y1.out)).trans Y1.out)
      clear b2
      obtain ⟨z0, z1, z2⟩ := bk3T Z2.out
      have zf := fun j => bk_frz Z2.out j
      obtain ⟨y0, y1, y2⟩ := bk3T Y2.out
      have yf := fun j => bk_frz Y2.out j
      go_wp2_with fail
      obtain ⟨k1, gp⟩ := bk3_blk Y2.out (.int .i64 0) (.int .i64 0) (.slice none 0 0)
      obtain ⟨r0, r1, r2⟩ := bk3T k1
      refine bodyPost_ret (by simp [results, Tryd.results23, go_sem, r0, r1, r2]; try rfl) rfl ?_
      exact ⟨gr_from B2.out B2.out.size (Nat.le_succ _) gp, _, _, _, rfl, TbVal.zero _ _, BSl.nil _ _, BSl.nil _ _⟩
  · rw [if_pos h0]
    have g : (x != 0) = true := by simp [h0]
    clear h0
    go_enter Tryd.func23, Tryd.ntmps23
    go_wp2_with fail
    refine (HFT.out _ B0.out).mono ?_
    clear z0 z1 z2 zf y0 y1 y2 yf
    rintro e w1 ⟨rfl, b1⟩
    have B1 := Lib.hid (B0.out.trans (b1.mono B0.out.size))
    have Z1 := Lib.hid ((b1.block _ (lt_of_block Z0.out)).trans Z0.out)
    have Y1 := Lib.hid ((b1.block _ (lt_of_block Y0.out)).trans Y0.out)
    clear b1
    obtain ⟨z0, z1, z2⟩ := bk3T Z1.out
    have zf := fun j => bk_frz Z1.out j
    obtain ⟨y0, y1, y2⟩ := bk3T Y1.out
    have yf := fun j => bk_frz Y1.out j
    go_wp2_with fail
    obtain ⟨k1, gp⟩ := bk3_blk Y1.out (.int .i64 0) (.int .i64 0) (.slice none 0 0)
    obtain ⟨r0, r1, r2⟩ := bk3T k1
    refine bodyPost_ret (by simp [results, Tryd.results23, go_sem, r0, r1, r2]; try rfl) rfl ?_
    exact ⟨gr_from B1.out B1.out.size (Nat.le_succ _) gp, _, _, _, rfl, TbVal.zero _ _, BSl.nil _ _, BSl.nil _ _⟩
end Go.Proofs.YtpfahdogedchpaaDoor
