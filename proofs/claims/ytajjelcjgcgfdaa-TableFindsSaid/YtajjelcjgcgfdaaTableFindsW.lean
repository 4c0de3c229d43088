/- The walk of TableFinds. -/
import Derived.Test.YtajjelcjgcgfdaaTableStaysW
import Derived.Test.YtajjelcjgcgfdaaTabFind
import Derived.Test.YtajjelcjgcgfdaaOpenFr
import Derived.Laws.StructEq
namespace Go.Proofs.Ytajjelcjgcgfdaa
set_option linter.unusedVariables false
open Go.RowKit P

theorem RawRow.on {w w' : World} {A : Option Addr} {rs : List RawT} (h : RawRow w w.heap.size A rs) (hb : Below w.heap.size w w') : RawRow w' w'.heap.size A rs := fun hn => by
  obtain ⟨b, off, e, h1, h2⟩ := h.below hb hn
  exact ⟨b, off, e, Nat.lt_of_lt_of_le h1 hb.size, h2⟩
theorem getT_at {room : Int} {all : List Fld} {M i : Nat} (hok : faultTb (tabF room all) = 0) (hM : (young room all).length = M) (hML : M ≤ all.length) (hi : i < M) :
    getT (tabF room all) ((all.length : Int) - (M : Int) + (i : Int)) = ((young room all).getD i fd0, 0) := by
  unfold getT
  rw [if_neg (fun k => k hok)]
  simp only [tabF, hM]
  rw [if_neg (by omega), if_neg (by omega)]
  have e : M - ((all.length : Int) - ((all.length : Int) - (M : Int) + (i : Int))).toNat = i := by omega
  rw [e]
set_option maxRecDepth 100000 in
set_option maxHeartbeats 8000000 in
theorem tableFinds_walk (a0 : Int) (a1 : Option Addr) (n c : Nat) (rs : List RawT) (x2 : RawT) (W : World) (hrow : RawRow W W.heap.size a1 rs) (hn : rs.length = n) (hnc : n ≤ c) (hc : c ≤ maxLen) (hbt : ∀ i, i < n → (rs.getD i raw0).text.size ≤ maxLen) (hx2 : x2.text.size ≤ maxLen) :
    Calls Try.prog 8 #[.int .i64 a0, .slice a1 n c, .agg #[.int .i64 x2.kind, .int .i64 x2.a, .int .i64 x2.b, .string x2.text]] W fun e w' => e = .returned (.bool true) ∧ Below W.heap.size W w' := by
  obtain ⟨kd, ra, rb, tx⟩ := x2
  simp only at hx2 ⊢
  have B0 := Lib.hid ((Below.refl W.heap.size W).alloc (Nat.le_refl _) (.cells #[.int .i64 kd, .int .i64 ra, .int .i64 rb, .string tx] 49))
  have Q0 := Lib.hid (heap_alloc_new W (.cells #[.int .i64 kd, .int .i64 ra, .int .i64 rb, .string tx] 49))
  have HTO := Lib.hid (tableOf_any tinsN_any tsize_any a0 a1 n c rs (W.alloc (.cells #[.int .i64 kd, .int .i64 ra, .int .i64 rb, .string tx] 49)) (hrow.on B0.out) hn hnc hc hbt)
  have HTT := Lib.hid (fun w => tableTells_core tins_any tget_any w)
  have HFO := Lib.hid (fun w => fieldOf_any kd ra rb tx hx2 w)
  obtain ⟨room, hroom⟩ : ∃ room, 40 + a0 % 121 = room := ⟨_, rfl⟩
  have hrb : 0 ≤ room ∧ room ≤ 160 := by omega
  rw [hroom] at HTO
  obtain ⟨f, hf⟩ : ∃ f, fldOf ⟨kd, ra, rb, tx⟩ = f := ⟨_, rfl⟩
  have HFW := Lib.hid (hf ▸ (fldOf_ok ⟨kd, ra, rb, tx⟩).2)
  rw [hf] at HFO
  clear hrow hbt hc hroom hn hf hx2
  go_enter Try.func8, Try.ntmps8
  go_wp2_with fail
  refine HTO.out.mono ?_
  rintro e w1 ⟨all, At, Aa, ct, ca, hall, rfl, h1, h2, h3, h4, r1, r2, b1⟩
  obtain ⟨f1, f2, f3, f4, f5, f6⟩ := tabOf_facts hrb hall
  have hok := (faultTb_iff _).2 (tabF_ok hrb (all := all) (by omega) (fun x hx => (f2 x hx).1))
  have hfin : finT (tabF room all) f = match lastAt (fun x => decide (x = f)) (young room all) with
    | some i => ((all.length : Int) - ((young room all).length : Int) + i, true, 0)
    | none => match lastAt (fun x => decide (x.name = f.name)) (young room all) with
      | some i => ((all.length : Int) - ((young room all).length : Int) + i, false, 0)
      | none => (0, false, 5) := by
    unfold finT
    rw [if_neg (fun k => k hok)]
    rfl
  have HGA := Lib.hid (fun M i h1 h2 h3 => getT_at (room := room) (all := all) (M := M) (i := i) hok h1 h2 h3)
  have HWT := Lib.hid f3
  have HFY := Lib.hid f5
  have HTV := Lib.hid (fun w L M (hL : all.length = L) (hM : (young room all).length = M) (h1 : M ≤ ct) (hr : RowE FdE w w.heap.size At (young room all)) => tabVal_of (room := room) hL hM h1 h2 hr)
  obtain ⟨L, hL⟩ : ∃ L, all.length = L := ⟨_, rfl⟩
  obtain ⟨M, hM⟩ : ∃ M, (young room all).length = M := ⟨_, rfl⟩
  have HYL := Lib.hid hM
  rw [hL] at f1 f4 h3 hfin HGA ⊢
  rw [hM] at f4 h1 hfin ⊢
  have X1 := Lib.hid ((Below.refl w1.heap.size w1).alloc (Nat.le_refl _) (.cells #[.int .i64 room, .int .i64 (L : Int), .slice At M ct] 24))
  have F1 := Lib.hid (heap_alloc_new w1 (.cells #[.int .i64 room, .int .i64 (L : Int), .slice At M ct] 24))
  have B1 := Lib.hid (B0.out.trans ((b1.trans (X1.out.mono b1.size)).mono B0.out.size))
  have Q1 := Lib.hid ((X1.out.block _ (Nat.lt_of_lt_of_le (lt_of_block Q0.out) b1.size)).trans ((b1.block _ (lt_of_block Q0.out)).trans Q0.out))
  have RT := Lib.hid r1
  have HGT := Lib.hid (fun i (hi : i < M) w (hb : Below w1.heap.size w1 w) => HGA.out M i hM f4 hi ▸ tget_any (.agg #[.int .i64 room, .int .i64 (L : Int), .slice At M ct]) (tabF room all) ((L : Int) - (M : Int) + (i : Int)) w (HTV.out w L M hL hM h1 (RT.out.on hb)) HWT.out (by omega))
  have HFN := Lib.hid (fun w (hb : Below w1.heap.size w1 w) => tfin_any (.agg #[.int .i64 room, .int .i64 (L : Int), .slice At M ct]) (tabF room all) f w (HTV.out w L M hL hM h1 (RT.out.on hb)) HWT.out HFW.out)
  have HEQ := Lib.hid (fun x (hx : FdWf x) => And.intro (fl_eqB hx.1 HFW.out.1) (fl_eqB hx.2.1 HFW.out.2.1))
  obtain ⟨⟨o1, o2, o3⟩, ho⟩ : ∃ r, finT (tabF room all) f = r := ⟨_, rfl⟩
  rw [ho] at hfin HFN
  simp only at HFN
  have HFI := Lib.hid hfin
  unfold fdV at HFO HFN
  obtain ⟨T1, hT1⟩ : ∃ S, strOfNums f.name = S := ⟨_, rfl⟩
  obtain ⟨T2, hT2⟩ : ∃ S, strOfNums f.val = S := ⟨_, rfl⟩
  have HT1 := Lib.hid hT1
  have HT2 := Lib.hid hT2
  rw [hT1, hT2] at HFO HFN HEQ
  clear hall r1 r2 b1 f2 f3 f5 f6 HTV hL hM hok hfin ho hT1 hT2 HGA
  obtain ⟨s0, s1, s2, s3⟩ := bk4R Q1.out
  go_wp2_with fail
  refine (HFO.out _).mono ?_
  clear s0 s1 s2 s3
  rintro e w2 ⟨rfl, b2⟩
  have X2 := Lib.hid (b2.alloc b2.size (.cells #[.string T1, .string T2] 26))
  have G2 := Lib.hid (heap_alloc_new w2 (.cells #[.string T1, .string T2] 26))
  have B2 := Lib.hid (B1.out.trans (X2.out.mono B1.out.size))
  have Y2 := Lib.hid (X1.out.trans (X2.out.mono X1.out.size))
  have F2 := Lib.hid ((X2.out.block _ (lt_of_block F1.out)).trans F1.out)
  clear b2
  obtain ⟨q0, q1, q2⟩ := bk3T F2.out
  obtain ⟨y0, y1⟩ := bk2F G2.out
  go_wp2_with fail
  refine (HFN.out _ Y2.out).mono ?_
  clear q0 q1 q2 y0 y1
  rintro e w3 ⟨b3, rfl⟩
  have B3 := Lib.hid (B2.out.trans (b3.mono B2.out.size))
  have Y3 := Lib.hid (Y2.out.trans (b3.mono Y2.out.size))
  have F3 := Lib.hid ((b3.block _ (lt_of_block F2.out)).trans F2.out)
  have G3 := Lib.hid ((b3.block _ (lt_of_block G2.out)).trans G2.out)
  clear b3 HFN HFO
  have HX := HFI.out
  cases c1 : lastAt (fun x => decide (x = f)) (young room all) with
  | some i =>
    rw [c1] at HX
    simp only at HX
    obtain ⟨rfl, rfl, rfl⟩ : o1 = (L : Int) - (M : Int) + (i : Int) ∧ o2 = true ∧ o3 = 0 := by simpa using HX
    obtain ⟨hi, hpi⟩ := lastAt_lt _ c1
    rw [HYL.out] at hi
    have HG := Lib.hid (fun w hb => HGT.out i hi w hb)
    rw [of_decide_eq_true hpi] at HG
    try simp only at HG
    unfold fdV at HG
    rw [HT1.out, HT2.out] at HG
    clear HX c1 hpi hi HFI HGT HEQ
    obtain ⟨q0, q1, q2⟩ := bk3T F3.out
    go_wp2_with fail
    refine (HG.out _ Y3.out).mono ?_
    clear q0 q1 q2
    rintro e w4 ⟨b4, rfl⟩
    have X4 := Lib.hid (b4.alloc b4.size (.cells #[.string T1, .string T2] 26))
    have H4 := Lib.hid (heap_alloc_new w4 (.cells #[.string T1, .string T2] 26))
    have B4 := Lib.hid (B3.out.trans (X4.out.mono B3.out.size))
    have Y4 := Lib.hid (Y3.out.trans (X4.out.mono Y3.out.size))
    have F4 := Lib.hid ((X4.out.block _ (lt_of_block F3.out)).trans F3.out)
    have G4 := Lib.hid ((X4.out.block _ (lt_of_block G3.out)).trans G3.out)
    clear b4
    go_wp2_with fail
    refine (HTT.out _).mono ?_
    rintro e w9 ⟨rfl, b9⟩
    have B9 := Lib.hid (B4.out.trans (b9.mono B4.out.size))
    obtain ⟨y0, y1⟩ := bk2F ((b9.block _ (lt_of_block G4.out)).trans G4.out)
    obtain ⟨z0, z1⟩ := bk2F ((b9.block _ (lt_of_block H4.out)).trans H4.out)
    clear b9
    go_wp2_with fail
    go_ret
    exact ⟨by first | rfl | simp, B9.out⟩
  | none =>
    rw [c1] at HX
    try simp only at HX
    cases c2 : lastAt (fun x => decide (x.name = f.name)) (young room all) with
    | some i =>
      rw [c2] at HX
      simp only at HX
      obtain ⟨rfl, rfl, rfl⟩ : o1 = (L : Int) - (M : Int) + (i : Int) ∧ o2 = false ∧ o3 = 0 := by simpa using HX
      obtain ⟨hi, hpi⟩ := lastAt_lt _ c2
      rw [HYL.out] at hi
      have HG := Lib.hid (fun w hb => HGT.out i hi w hb)
      try simp only at HG
      unfold fdV at HG
      rw [of_decide_eq_true hpi, HT1.out] at HG
      obtain ⟨U2, hU2⟩ : ∃ S, strOfNums ((young room all).getD i fd0).val = S := ⟨_, rfl⟩
      rw [hU2] at HG
      have C1 := Lib.hid c1
      clear HX c1 c2 hpi hi HFI HGT hU2
      obtain ⟨q0, q1, q2⟩ := bk3T F3.out
      go_wp2_with fail
      refine (HG.out _ Y3.out).mono ?_
      clear q0 q1 q2
      rintro e w4 ⟨b4, rfl⟩
      have X4 := Lib.hid (b4.alloc b4.size (.cells #[.string T1, .string U2] 26))
      have H4 := Lib.hid (heap_alloc_new w4 (.cells #[.string T1, .string U2] 26))
      have B4 := Lib.hid (B3.out.trans (X4.out.mono B3.out.size))
      have Y4 := Lib.hid (Y3.out.trans (X4.out.mono Y3.out.size))
      have F4 := Lib.hid ((X4.out.block _ (lt_of_block F3.out)).trans F3.out)
      have G4 := Lib.hid ((X4.out.block _ (lt_of_block G3.out)).trans G3.out)
      clear b4
      obtain ⟨q0, q1, q2⟩ := bk3T F4.out
      go_wp2_with fail
      clear q0 q1 q2
      go_loopg [70] M (fun gq iv wr => ∃ j : Nat, iv = .int .i64 j ∧ j + gq = M ∧ Hid (Below (w4.alloc (.cells #[.string T1, .string U2] 26)).heap.size (w4.alloc (.cells #[.string T1, .string U2] 26)) wr))
      case atStart => exact ⟨0, rfl, by omega, Lib.hid (Below.refl _ _)⟩
      case round =>
        obtain ⟨j, rfl, hjg, BK⟩ := hrel
        have YR := Lib.hid (Y4.out.trans (BK.out.mono Y4.out.size))
        have BR := Lib.hid (B4.out.trans (BK.out.mono B4.out.size))
        by_cases hlt : j < M
        · have hil : j < (young room all).length := by rw [HYL.out]; exact hlt
          obtain ⟨b, off, hA, hbl, x0, x1⟩ := fd_cells RT.out hil
          have hmem : (young room all).getD j fd0 ∈ young room all := by rw [List.getD_eq_getElem?_getD, List.getElem?_eq_getElem hil]; exact List.getElem_mem hil
          have HE := Lib.hid (HEQ.out _ (HFY.out _ hmem))
          have HNO := Lib.hid (of_decide_eq_false (lastAt_none C1.out _ hmem))
          obtain ⟨z, hz⟩ : ∃ z, (young room all).getD j fd0 = z := ⟨_, rfl⟩
          rw [hz] at x0 x1 HE HNO
          obtain ⟨S1, hS1⟩ : ∃ S, strOfNums z.name = S := ⟨_, rfl⟩
          obtain ⟨S2, hS2⟩ : ∃ S, strOfNums z.val = S := ⟨_, rfl⟩
          rw [hS1] at x0 HE
          rw [hS2] at x1 HE
          subst hA
          have y0 := (YR.out.cell (p := ⟨b, off + j * 2, none⟩) hbl).trans x0
          have y1 := (YR.out.cell (p := ⟨b, off + j * 2 + 1, none⟩) hbl).trans x1
          have BA := Lib.hid (BK.out.alloc BK.out.size (.cells #[.string S1, .string S2] 26))
          have hnk : (j : Int) < (M : Int) := by omega
          obtain ⟨u0, u1⟩ := bk2F ((BA.out.block _ (lt_of_block G4.out)).trans G4.out)
          clear x0 x1 hz hS1 hS2 hmem hil hbl
          by_cases hn : z.name = f.name
          · by_cases hv : z.val = f.val
            · exact absurd (fld_iff.2 ⟨hn, hv⟩) HNO.out
            · have g1 : (S1.toList == T1.toList) = true := by rw [HE.out.1, decide_eq_true hn]
              have g2 : (S2.toList == T2.toList) = false := by rw [HE.out.2, decide_eq_false hv]
              clear hn hv
              go_wp2_with fail
              go_roundg (gk - 1)
              case measure => omega
              case rel => exact ⟨j + 1, by first | rfl | go_num, by omega, BA⟩
          · have g1 : (S1.toList == T1.toList) = false := by rw [HE.out.1, decide_eq_false hn]
            clear hn
            go_wp2_with fail
            go_roundg (gk - 1)
            case measure => omega
            case rel => exact ⟨j + 1, by first | rfl | go_num, by omega, BA⟩
        · obtain rfl : j = M := by omega
          have GR := Lib.hid ((BK.out.block _ (lt_of_block G4.out)).trans G4.out)
          have HR4 := Lib.hid ((BK.out.block _ (lt_of_block H4.out)).trans H4.out)
          go_wp2_with fail
          refine (HTT.out _).mono ?_
          rintro e w9 ⟨rfl, b9⟩
          have B9 := Lib.hid (BR.out.trans (b9.mono BR.out.size))
          obtain ⟨y0, y1⟩ := bk2F ((b9.block _ (lt_of_block GR.out)).trans GR.out)
          obtain ⟨z0, z1⟩ := bk2F ((b9.block _ (lt_of_block HR4.out)).trans HR4.out)
          clear b9
          go_wp2_with fail
          go_ret
          exact ⟨by first | rfl | simp, B9.out⟩
    | none =>
      rw [c2] at HX
      simp only at HX
      obtain ⟨rfl, rfl, rfl⟩ : o1 = 0 ∧ o2 = false ∧ o3 = 5 := by simpa using HX
      have C2 := Lib.hid c2
      clear HX c1 c2 HFI HGT
      obtain ⟨q0, q1, q2⟩ := bk3T F3.out
      go_wp2_with fail
      clear q0 q1 q2
      go_loopg [41] M (fun gq iv wr => ∃ j : Nat, iv = .int .i64 j ∧ j + gq = M ∧ Hid (Below w3.heap.size w3 wr))
      case atStart => exact ⟨0, rfl, by omega, Lib.hid (Below.refl _ _)⟩
      case round =>
        obtain ⟨j, rfl, hjg, BK⟩ := hrel
        have YR := Lib.hid (Y3.out.trans (BK.out.mono Y3.out.size))
        have BR := Lib.hid (B3.out.trans (BK.out.mono B3.out.size))
        by_cases hlt : j < M
        · have hil : j < (young room all).length := by rw [HYL.out]; exact hlt
          obtain ⟨b, off, hA, hbl, x0, x1⟩ := fd_cells RT.out hil
          have hmem : (young room all).getD j fd0 ∈ young room all := by rw [List.getD_eq_getElem?_getD, List.getElem?_eq_getElem hil]; exact List.getElem_mem hil
          have HE := Lib.hid (HEQ.out _ (HFY.out _ hmem))
          have HNO := Lib.hid (of_decide_eq_false (lastAt_none C2.out _ hmem))
          obtain ⟨z, hz⟩ : ∃ z, (young room all).getD j fd0 = z := ⟨_, rfl⟩
          rw [hz] at x0 x1 HE HNO
          obtain ⟨S1, hS1⟩ : ∃ S, strOfNums z.name = S := ⟨_, rfl⟩
          obtain ⟨S2, hS2⟩ : ∃ S, strOfNums z.val = S := ⟨_, rfl⟩
          rw [hS1] at x0 HE
          rw [hS2] at x1 HE
          subst hA
          have y0 := (YR.out.cell (p := ⟨b, off + j * 2, none⟩) hbl).trans x0
          have y1 := (YR.out.cell (p := ⟨b, off + j * 2 + 1, none⟩) hbl).trans x1
          have BA := Lib.hid (BK.out.alloc BK.out.size (.cells #[.string S1, .string S2] 26))
          have hnk : (j : Int) < (M : Int) := by omega
          obtain ⟨u0, u1⟩ := bk2F ((BA.out.block _ (lt_of_block G3.out)).trans G3.out)
          clear x0 x1 hz hS1 hS2 hmem hil hbl
          have g1 : (S1.toList == T1.toList) = false := by rw [HE.out.1, decide_eq_false HNO.out]
          go_wp2_with fail
          go_roundg (gk - 1)
          case measure => omega
          case rel => exact ⟨j + 1, by first | rfl | go_num, by omega, BA⟩
        · obtain rfl : j = M := by omega
          go_wp2_with fail
          refine (HTT.out _).mono ?_
          rintro e w9 ⟨rfl, b9⟩
          have B9 := Lib.hid (BR.out.trans (b9.mono BR.out.size))
          skip
          clear b9
          go_wp2_with fail
          go_ret
          exact ⟨by first | rfl | simp, B9.out⟩
end Go.Proofs.Ytajjelcjgcgfdaa
