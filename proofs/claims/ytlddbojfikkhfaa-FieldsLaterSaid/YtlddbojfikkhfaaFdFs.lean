/- The statements' own fieldsOf. -/
import Derived.Test.YtlddbojfikkhfaaTabOf
import Derived.Test.YtlddbojfikkhfaaFdMath
import Derived.Test.YtlddbojfikkhfaaRefFd3
namespace Go.Proofs.Ytlddbojfikkhfaa.P
set_option linter.unusedVariables false
/-- the four that are put in between -/
def knF : Nat → Fld
  | 0 => ⟨[58, 112, 97, 116, 104], [47]⟩
  | 1 => ⟨[58, 109, 101, 116, 104, 111, 100], [71, 69, 84]⟩
  | 2 => ⟨[97, 103, 101], [48]⟩
  | _ => ⟨[58, 112, 97, 116, 104], [47, 120]⟩
def kfOf (r : RawT) : Fld := if r.kind % 3 = 0 then knF (r.a % 4).toNat else fldOf r
theorem knF_ok (j : Nat) : okFd (knF j) ∧ FdWf (knF j) := by
  have key : okFd (knF j) ∧ (∀ z ∈ (knF j).name, 0 ≤ z ∧ z < 256) ∧ (∀ z ∈ (knF j).val, 0 ≤ z ∧ z < 256) ∧ (knF j).name.length ≤ 7 ∧ (knF j).val.length ≤ 3 := by
    unfold knF
    split <;> decide
  exact ⟨key.1, byt_all fun z hz => by have := key.2.1 z hz; omega, byt_all fun z hz => by have := key.2.2.1 z hz; omega, by have := key.2.2.2.1; omega, by have := key.2.2.2.2; omega⟩
theorem kfOf_ok (r : RawT) : okFd (kfOf r) ∧ FdWf (kfOf r) := by
  unfold kfOf
  split
  · exact knF_ok _
  · exact fldOf_ok r
def fsOf (rs : List RawT) : List Fld := (rs.take 8).map kfOf
theorem fsOf_len (rs : List RawT) : (fsOf rs).length = min rs.length 8 := by unfold fsOf; rw [List.length_map, List.length_take]; omega
theorem fsOf_ok (rs : List RawT) : ∀ f ∈ fsOf rs, okFd f ∧ FdWf f := fun f hf => by
  obtain ⟨r, _, rfl⟩ := List.mem_map.1 hf
  exact kfOf_ok r
theorem fsOf_fault (rs : List RawT) : faultFl (fsOf rs) = 0 := by
  unfold faultFl
  rw [if_neg (by rw [fsOf_len]; omega), if_pos (fun f hf => (fsOf_ok rs f hf).1)]
theorem fsOf_at (rs : List RawT) {i : Nat} (h : i < (fsOf rs).length) : (fsOf rs).take (i + 1) = (fsOf rs).take i ++ [kfOf (rs.getD i raw0)] := by
  have h2 : i < rs.length := by rw [fsOf_len] at h; omega
  rw [List.take_succ_eq_append_getElem h, show (fsOf rs)[i] = kfOf rs[i] by simp [fsOf], List.getD_eq_getElem?_getD, List.getElem?_eq_getElem h2]
  rfl
end Go.Proofs.Ytlddbojfikkhfaa.P
namespace Go.Proofs.Ytlddbojfikkhfaa
set_option linter.unusedVariables false
open Go.RowKit P

theorem some8 (A : Option Addr) (len cap : Nat) (w : World) (hl : len ≤ cap) (hc : cap ≤ maxLen) :
    Calls Try.prog 27 #[.slice A len cap, .int .i64 8] w fun e w' => e = .returned (.slice A (min len 8) cap) ∧ w = w' := by
  unfold maxLen at hc
  by_cases h : 8 < len
  · have e := Lib.hid (show min len 8 = 8 by omega)
    go_enter Try.func27, Try.ntmps27
    go_wp2
    go_ret
    exact ⟨by rw [e.out]; rfl, rfl⟩
  · have e := Lib.hid (show min len 8 = len by omega)
    go_enter Try.func27, Try.ntmps27
    go_wp2
    go_ret
    exact ⟨by rw [e.out]; rfl, rfl⟩
set_option maxRecDepth 100000 in
set_option maxHeartbeats 4000000 in
theorem fieldsOf_any (A : Option Addr) (n c : Nat) (rs : List RawT) (W : World) (hrow : RawRow W W.heap.size A rs) (hn : rs.length = n) (hnc : n ≤ c) (hc : c ≤ maxLen) (hbt : ∀ i, i < n → (rs.getD i raw0).text.size ≤ maxLen) :
    Calls Try.prog 23 #[.slice A n c] W fun e w' => Below W.heap.size W w' ∧ ∃ Aa ca, e = .returned (.slice Aa (fsOf rs).length ca) ∧ (fsOf rs).length ≤ ca ∧ ca ≤ maxLen ∧ RowE FdE w' w'.heap.size Aa (fsOf rs) := by
  have HR := Lib.hid hrow
  have HN := Lib.hid hn
  have HBT := Lib.hid hbt
  have HS := Lib.hid (fun w => some8 A n c w hnc hc)
  obtain ⟨N, hN⟩ : ∃ N, min n 8 = N := ⟨_, rfl⟩
  rw [hN] at HS
  have hN8 : N ≤ 8 := by omega
  have hNn : N ≤ n := by omega
  have hFL : (fsOf rs).length = N := by rw [fsOf_len, hn, hN]
  have HFL := Lib.hid hFL
  have HTL := Lib.hid (fun i (h : i ≤ N) => show ((fsOf rs).take i).length = i by rw [List.length_take, hFL]; omega)
  rw [hFL]
  obtain ⟨i0, hi0, hz0, hz1, hz2⟩ := info_partsE infoFd
  have HI := Lib.hid hi0
  have HZ := Lib.hid hz0
  have HZ1 := Lib.hid hz1
  have HZ2 := Lib.hid hz2
  unfold maxLen at hc
  clear hrow hn hbt hi0 hz0 hz1 hz2 hN hFL
  go_enter Try.func23, Try.ntmps23
  go_wp2_with (go_at_call 27; refine (HS.out _).mono ?_; rintro e w' ⟨rfl, rfl⟩)
  go_loopg [3, 11] N (fun gq ov iv wr => ∃ (i : Nat) (out : List Fld) (A1 : Option Addr) (ca : Nat), iv = .int .i64 i ∧ ov = .slice A1 i ca ∧ i + gq = N ∧ Hid (out = (fsOf rs).take i) ∧ Hid (OwnE FdE wr W.heap.size 57 (.slice A1 i ca) out) ∧ Hid (Below W.heap.size W wr))
  case atStart => exact ⟨0, [], none, 0, rfl, rfl, by omega, Lib.hid rfl, Lib.hid (OwnE.nil _ _ _), Lib.hid (Below.refl _ _)⟩
  case round =>
    obtain ⟨i, out, A1, ca, rfl, rfl, hig, HOUT, OA, BK⟩ := hrel
    by_cases hlt : i < N
    · have hir : i < rs.length := by rw [HN.out]; omega
      have HLO := Lib.hid (show out.length = i by rw [HOUT.out]; exact HTL.out i (by omega))
      have HLL := Lib.hid (show out.length ≤ 8 by rw [HLO.out]; omega)
      obtain ⟨b, off, hA, hbl, hcell⟩ := HR.out (by omega)
      obtain ⟨x0, x1, x2, x3⟩ := hcell i hir
      have HTX := Lib.hid (HBT.out i (by omega))
      have HTK := Lib.hid (fsOf_at rs (i := i) (by rw [HFL.out]; exact hlt))
      obtain ⟨rw0, hrw⟩ : ∃ r, rs.getD i raw0 = r := ⟨_, rfl⟩
      rw [hrw] at x0 x1 x2 x3 HTX HTK
      obtain ⟨kd, ra, rb, tx⟩ := rw0
      simp only at x0 x1 x2 x3 HTX
      have HFO := Lib.hid (fun w => fieldOf_any kd ra rb tx HTX.out w)
      unfold kfOf at HTK
      dsimp only at HTK
      obtain ⟨f, hf⟩ : ∃ f, fldOf ⟨kd, ra, rb, tx⟩ = f := ⟨_, rfl⟩
      rw [hf] at HFO HTK
      subst hA
      have y0 := (BK.out.cell (p := ⟨b, off + i * 4, none⟩) hbl).trans x0
      have y1 := (BK.out.cell (p := ⟨b, off + i * 4 + 1, none⟩) hbl).trans x1
      have y2 := (BK.out.cell (p := ⟨b, off + i * 4 + 2, none⟩) hbl).trans x2
      have y3 := (BK.out.cell (p := ⟨b, off + i * 4 + 3, none⟩) hbl).trans x3
      unfold fdV at HFO
      obtain ⟨S1, hS1⟩ : ∃ S, strOfNums f.name = S := ⟨_, rfl⟩
      obtain ⟨S2, hS2⟩ : ∃ S, strOfNums f.val = S := ⟨_, rfl⟩
      have HFX := Lib.hid (show FdE.f f = [.string S1, .string S2] by rw [← hS1, ← hS2]; rfl)
      rw [hS1, hS2] at HFO
      have hnk : (i : Int) < (N : Int) := by omega
      have BKX := Lib.hid ((Below.refl wr.heap.size wr).alloc (Nat.le_refl _) (.cells #[.int .i64 kd, .int .i64 ra, .int .i64 rb, .string tx] 53))
      have RX := Lib.hid (heap_alloc_new wr (.cells #[.int .i64 kd, .int .i64 ra, .int .i64 rb, .string tx] 53))
      clear x0 x1 x2 x3 hcell hrw hf hS1 hS2 hir hbl
      go_wp2_with fail
      refine (HFO.out _).mono ?_
      rintro e w1 ⟨rfl, b1⟩
      have R1 := Lib.hid ((b1.block _ (lt_of_block RX.out)).trans RX.out)
      have b1' := BKX.out.trans (b1.mono BKX.out.size)
      have X0 := (Below.refl w1.heap.size w1).alloc (Nat.le_refl _) (.cells #[.string S1, .string S2] 57)
      have RR2 := (X0.block _ (lt_of_block R1.out)).trans R1.out
      have GG2 := heap_alloc_new w1 (.cells #[.string S1, .string S2] 57)
      have X1 := b1'.alloc b1'.size (.cells #[.string S1, .string S2] 57)
      have BB2 := BK.out.trans (X1.mono BK.out.size)
      have OO2 := OwnE.later OA.out X1
      have HKF := Lib.hid (fun k hk => show k < w1.heap.size from Nat.lt_of_lt_of_le (OwnE.lt OA.out k hk).2 b1'.size)
      have hkW := Lib.hid (show W.heap.size ≤ w1.heap.size from Nat.le_trans BK.out.size b1'.size)
      clear b1 b1' X0 X1 y0 y1 y2 y3
      go_upto_region 6 with fail
      obtain ⟨w2, hw2⟩ : ∃ w9, w1.alloc (.cells #[.string S1, .string S2] 57) = w9 := ⟨_, rfl⟩
      rw [hw2] at RR2 GG2 BB2 OO2 ⊢
      obtain ⟨kf, hkf⟩ : ∃ k, w1.heap.size = k := ⟨_, rfl⟩
      rw [hkf] at GG2 HKF hkW ⊢
      obtain ⟨kr, hkr⟩ : ∃ k, wr.heap.size = k := ⟨_, rfl⟩
      rw [hkr] at RR2 ⊢
      have R2 := Lib.hid RR2
      have G2 := Lib.hid GG2
      have B2 := Lib.hid BB2
      have O2 := Lib.hid OO2
      clear hw2 hkf hkr RR2 GG2 BB2 OO2
      obtain ⟨z0, z1, _, _⟩ := bk4R R2.out
      obtain ⟨q, hq⟩ : ∃ q, kd % 3 = q := ⟨_, rfl⟩
      have HP3 := Lib.hid (fun w => hq ▸ picked_any kd 3 (by decide) (by decide) w)
      rw [hq] at HTK
      by_cases hk : q = 0
      · subst hk
        rw [if_pos rfl] at HTK
        clear HFX hq
        go_upto_region 7 with (go_at_call 26; refine (HP3.out _).mono ?_; rintro e w' ⟨rfl, rfl⟩)
        have h4 : ra % 4 = 0 ∨ ra % 4 = 1 ∨ ra % 4 = 2 ∨ ra % 4 = 3 := by omega
        rcases h4 with h4 | h4 | h4 | h4
        · have HFX := Lib.hid (show FdE.f (knF 0) = [.string ⟨#[58, 112, 97, 116, 104]⟩, .string ⟨#[47]⟩] from rfl)
          have HP4 := Lib.hid (fun w => h4 ▸ picked_any ra 4 (by decide) (by decide) w)
          rw [h4] at HTK
          have HTK := Lib.hid (show (fsOf rs).take (i + 1) = (fsOf rs).take i ++ [knF 0] from HTK.out)
          have XL := (Below.refl w2.heap.size w2).alloc (Nat.le_refl _) (.cells #[.string ⟨#[58, 112, 97, 116, 104]⟩, .string ⟨#[47]⟩, .string ⟨#[58, 109, 101, 116, 104, 111, 100]⟩, .string ⟨#[71, 69, 84]⟩, .string ⟨#[97, 103, 101]⟩, .string ⟨#[48]⟩, .string ⟨#[58, 112, 97, 116, 104]⟩, .string ⟨#[47, 120]⟩] 57)
          have NL := heap_alloc_new w2 (.cells #[.string ⟨#[58, 112, 97, 116, 104]⟩, .string ⟨#[47]⟩, .string ⟨#[58, 109, 101, 116, 104, 111, 100]⟩, .string ⟨#[71, 69, 84]⟩, .string ⟨#[97, 103, 101]⟩, .string ⟨#[48]⟩, .string ⟨#[58, 112, 97, 116, 104]⟩, .string ⟨#[47, 120]⟩] 57)
          have RL := (XL.block _ (lt_of_block R2.out)).trans R2.out
          have GL := (XL.block _ (lt_of_block G2.out)).trans G2.out
          have OL := Lib.hid (OwnE.later O2.out XL)
          have BL := Lib.hid (B2.out.trans (XL.mono B2.out.size))
          have n0 := bk_cell NL 0
          have n1 := bk_cell NL 1
          obtain ⟨p0, p1, _, _⟩ := bk4R RL
          obtain ⟨g0, g1⟩ := bk2F GL
          have gf := fun j => bk_frz GL j
          have hsl : kf < w2.heap.size := lt_of_block G2.out
          simp only [List.getElem?_toArray, List.getElem?_cons_succ, List.getElem?_cons_zero] at n0 n1
          clear h4
          go_upto_region 8 with fail
          obtain ⟨wL, hwL⟩ : ∃ w9, w2.alloc (.cells #[.string ⟨#[58, 112, 97, 116, 104]⟩, .string ⟨#[47]⟩, .string ⟨#[58, 109, 101, 116, 104, 111, 100]⟩, .string ⟨#[71, 69, 84]⟩, .string ⟨#[97, 103, 101]⟩, .string ⟨#[48]⟩, .string ⟨#[58, 112, 97, 116, 104]⟩, .string ⟨#[47, 120]⟩] 57) = w9 := ⟨_, rfl⟩
          obtain ⟨kl, hkl⟩ : ∃ k, w2.heap.size = k := ⟨_, rfl⟩
          rw [hwL] at GL OL BL n0 n1 p0 p1 g0 g1 gf ⊢
          rw [hkl] at n0 n1 ⊢
          clear XL NL RL hwL hkl hsl
          go_upto_region 9 with (go_at_call 26; refine (HP4.out _).mono ?_; rintro e w' ⟨rfl, rfl⟩)
          obtain ⟨m0, m1, gy⟩ := bk2_putF GL (.string ⟨#[58, 112, 97, 116, 104]⟩) (.string ⟨#[47]⟩)
          have YY3 := bk2_blkR GL (.string ⟨#[58, 112, 97, 116, 104]⟩) (.string ⟨#[47]⟩)
          obtain ⟨w3, hw3⟩ : ∃ w9, (wL.setCell ⟨kf, 0, none⟩ (.string ⟨#[58, 112, 97, 116, 104]⟩)).setCell ⟨kf, 1, none⟩ (.string ⟨#[47]⟩) = w9 := ⟨_, rfl⟩
          rw [hw3] at YY3 gy ⊢
          have G3 := Lib.hid YY3
          have O3 := Lib.hid (OwnE.kept OL.out gy (fun e => by have := HKF.out _ e; omega))
          have B3 := Lib.hid (BL.out.grown gy BL.out.size (fun k e => by cases e; exact hkW.out))
          clear hw3 gy YY3 m0 m1 g0 g1 gf p0 p1 n0 n1 GL
          have RR := Lib.hid ((RowE.one (E := FdE) w3 (knF 0) #[.string ⟨#[58, 112, 97, 116, 104]⟩, .string ⟨#[47]⟩] 57 w3.heap.size rfl HFX.out.symm).more (show w3.heap.size + 1 ≤ (w3.alloc (.cells #[.string ⟨#[58, 112, 97, 116, 104]⟩, .string ⟨#[47]⟩] 57)).heap.size by simp))
          have b9 := (Below.refl w3.heap.size w3).alloc (Nat.le_refl _) (.cells #[.string ⟨#[58, 112, 97, 116, 104]⟩, .string ⟨#[47]⟩] 57)
          have OX := Lib.hid (OwnE.later O3.out b9)
          have BX := Lib.hid (B3.out.trans (b9.mono B3.out.size))
          have hbase := Lib.hid BX.out.size
          obtain ⟨y0, y1⟩ := bk2F G3.out
          clear b9
          go_wp2_with (at_builtin
                       refine wpList_appE _ rfl (.tmp 32) (.tmp 34) _ rfl W.heap.size 57 i0 (.agg #[.string ⟨#[]⟩, .string ⟨#[]⟩]) 32 Try.underlying22 HI.out HZ.out HZ1.out HZ2.out rfl (by decide) (.slice A1 i ca) out rfl OX.out _ (some ⟨w3.heap.size, 0, none⟩) 1 1 [(knF 0)] rfl RR.out rfl (by have := HLL.out; omega) hbase.out ?_
                       intro v9 u9 own9 g9
                       have O9 := Lib.hid own9
                       have B9 := Lib.hid (BX.out.grown g9 BX.out.size (fun k e => (OwnE.lt OX.out k e).1))
                       obtain ⟨A8, c8, h8, _, _, _⟩ := own9.slice
                       have hl1 : (out ++ [(knF 0)]).length = i + 1 := by rw [List.length_append, HLO.out]; rfl
                       rw [hl1] at h8
                       subst h8
                       have HON := Lib.hid (show out ++ [(knF 0)] = (fsOf rs).take (i + 1) by rw [HTK.out, ← HOUT.out])
                       clear own9 g9 y0 y1 hl1)
          go_roundg (gk - 1)
          case measure => omega
          case rel => exact ⟨i + 1, out ++ [(knF 0)], A8, c8, by first | rfl | go_num, rfl, by omega, HON, O9, B9⟩
        · have HFX := Lib.hid (show FdE.f (knF 1) = [.string ⟨#[58, 109, 101, 116, 104, 111, 100]⟩, .string ⟨#[71, 69, 84]⟩] from rfl)
          have HP4 := Lib.hid (fun w => h4 ▸ picked_any ra 4 (by decide) (by decide) w)
          rw [h4] at HTK
          have HTK := Lib.hid (show (fsOf rs).take (i + 1) = (fsOf rs).take i ++ [knF 1] from HTK.out)
          have XL := (Below.refl w2.heap.size w2).alloc (Nat.le_refl _) (.cells #[.string ⟨#[58, 112, 97, 116, 104]⟩, .string ⟨#[47]⟩, .string ⟨#[58, 109, 101, 116, 104, 111, 100]⟩, .string ⟨#[71, 69, 84]⟩, .string ⟨#[97, 103, 101]⟩, .string ⟨#[48]⟩, .string ⟨#[58, 112, 97, 116, 104]⟩, .string ⟨#[47, 120]⟩] 57)
          have NL := heap_alloc_new w2 (.cells #[.string ⟨#[58, 112, 97, 116, 104]⟩, .string ⟨#[47]⟩, .string ⟨#[58, 109, 101, 116, 104, 111, 100]⟩, .string ⟨#[71, 69, 84]⟩, .string ⟨#[97, 103, 101]⟩, .string ⟨#[48]⟩, .string ⟨#[58, 112, 97, 116, 104]⟩, .string ⟨#[47, 120]⟩] 57)
          have RL := (XL.block _ (lt_of_block R2.out)).trans R2.out
          have GL := (XL.block _ (lt_of_block G2.out)).trans G2.out
          have OL := Lib.hid (OwnE.later O2.out XL)
          have BL := Lib.hid (B2.out.trans (XL.mono B2.out.size))
          have n0 := bk_cell NL 2
          have n1 := bk_cell NL 3
          obtain ⟨p0, p1, _, _⟩ := bk4R RL
          obtain ⟨g0, g1⟩ := bk2F GL
          have gf := fun j => bk_frz GL j
          have hsl : kf < w2.heap.size := lt_of_block G2.out
          simp only [List.getElem?_toArray, List.getElem?_cons_succ, List.getElem?_cons_zero] at n0 n1
          clear h4
          go_upto_region 8 with fail
          obtain ⟨wL, hwL⟩ : ∃ w9, w2.alloc (.cells #[.string ⟨#[58, 112, 97, 116, 104]⟩, .string ⟨#[47]⟩, .string ⟨#[58, 109, 101, 116, 104, 111, 100]⟩, .string ⟨#[71, 69, 84]⟩, .string ⟨#[97, 103, 101]⟩, .string ⟨#[48]⟩, .string ⟨#[58, 112, 97, 116, 104]⟩, .string ⟨#[47, 120]⟩] 57) = w9 := ⟨_, rfl⟩
          obtain ⟨kl, hkl⟩ : ∃ k, w2.heap.size = k := ⟨_, rfl⟩
          rw [hwL] at GL OL BL n0 n1 p0 p1 g0 g1 gf ⊢
          rw [hkl] at n0 n1 ⊢
          clear XL NL RL hwL hkl hsl
          go_upto_region 9 with (go_at_call 26; refine (HP4.out _).mono ?_; rintro e w' ⟨rfl, rfl⟩)
          obtain ⟨m0, m1, gy⟩ := bk2_putF GL (.string ⟨#[58, 109, 101, 116, 104, 111, 100]⟩) (.string ⟨#[71, 69, 84]⟩)
          have YY3 := bk2_blkR GL (.string ⟨#[58, 109, 101, 116, 104, 111, 100]⟩) (.string ⟨#[71, 69, 84]⟩)
          obtain ⟨w3, hw3⟩ : ∃ w9, (wL.setCell ⟨kf, 0, none⟩ (.string ⟨#[58, 109, 101, 116, 104, 111, 100]⟩)).setCell ⟨kf, 1, none⟩ (.string ⟨#[71, 69, 84]⟩) = w9 := ⟨_, rfl⟩
          rw [hw3] at YY3 gy ⊢
          have G3 := Lib.hid YY3
          have O3 := Lib.hid (OwnE.kept OL.out gy (fun e => by have := HKF.out _ e; omega))
          have B3 := Lib.hid (BL.out.grown gy BL.out.size (fun k e => by cases e; exact hkW.out))
          clear hw3 gy YY3 m0 m1 g0 g1 gf p0 p1 n0 n1 GL
          have RR := Lib.hid ((RowE.one (E := FdE) w3 (knF 1) #[.string ⟨#[58, 109, 101, 116, 104, 111, 100]⟩, .string ⟨#[71, 69, 84]⟩] 57 w3.heap.size rfl HFX.out.symm).more (show w3.heap.size + 1 ≤ (w3.alloc (.cells #[.string ⟨#[58, 109, 101, 116, 104, 111, 100]⟩, .string ⟨#[71, 69, 84]⟩] 57)).heap.size by simp))
          have b9 := (Below.refl w3.heap.size w3).alloc (Nat.le_refl _) (.cells #[.string ⟨#[58, 109, 101, 116, 104, 111, 100]⟩, .string ⟨#[71, 69, 84]⟩] 57)
          have OX := Lib.hid (OwnE.later O3.out b9)
          have BX := Lib.hid (B3.out.trans (b9.mono B3.out.size))
          have hbase := Lib.hid BX.out.size
          obtain ⟨y0, y1⟩ := bk2F G3.out
          clear b9
          go_wp2_with (at_builtin
                       refine wpList_appE _ rfl (.tmp 32) (.tmp 34) _ rfl W.heap.size 57 i0 (.agg #[.string ⟨#[]⟩, .string ⟨#[]⟩]) 32 Try.underlying22 HI.out HZ.out HZ1.out HZ2.out rfl (by decide) (.slice A1 i ca) out rfl OX.out _ (some ⟨w3.heap.size, 0, none⟩) 1 1 [(knF 1)] rfl RR.out rfl (by have := HLL.out; omega) hbase.out ?_
                       intro v9 u9 own9 g9
                       have O9 := Lib.hid own9
                       have B9 := Lib.hid (BX.out.grown g9 BX.out.size (fun k e => (OwnE.lt OX.out k e).1))
                       obtain ⟨A8, c8, h8, _, _, _⟩ := own9.slice
                       have hl1 : (out ++ [(knF 1)]).length = i + 1 := by rw [List.length_append, HLO.out]; rfl
                       rw [hl1] at h8
                       subst h8
                       have HON := Lib.hid (show out ++ [(knF 1)] = (fsOf rs).take (i + 1) by rw [HTK.out, ← HOUT.out])
                       clear own9 g9 y0 y1 hl1)
          go_roundg (gk - 1)
          case measure => omega
          case rel => exact ⟨i + 1, out ++ [(knF 1)], A8, c8, by first | rfl | go_num, rfl, by omega, HON, O9, B9⟩
        · have HFX := Lib.hid (show FdE.f (knF 2) = [.string ⟨#[97, 103, 101]⟩, .string ⟨#[48]⟩] from rfl)
          have HP4 := Lib.hid (fun w => h4 ▸ picked_any ra 4 (by decide) (by decide) w)
          rw [h4] at HTK
          have HTK := Lib.hid (show (fsOf rs).take (i + 1) = (fsOf rs).take i ++ [knF 2] from HTK.out)
          have XL := (Below.refl w2.heap.size w2).alloc (Nat.le_refl _) (.cells #[.string ⟨#[58, 112, 97, 116, 104]⟩, .string ⟨#[47]⟩, .string ⟨#[58, 109, 101, 116, 104, 111, 100]⟩, .string ⟨#[71, 69, 84]⟩, .string ⟨#[97, 103, 101]⟩, .string ⟨#[48]⟩, .string ⟨#[58, 112, 97, 116, 104]⟩, .string ⟨#[47, 120]⟩] 57)
          have NL := heap_alloc_new w2 (.cells #[.string ⟨#[58, 112, 97, 116, 104]⟩, .string ⟨#[47]⟩, .string ⟨#[58, 109, 101, 116, 104, 111, 100]⟩, .string ⟨#[71, 69, 84]⟩, .string ⟨#[97, 103, 101]⟩, .string ⟨#[48]⟩, .string ⟨#[58, 112, 97, 116, 104]⟩, .string ⟨#[47, 120]⟩] 57)
          have RL := (XL.block _ (lt_of_block R2.out)).trans R2.out
          have GL := (XL.block _ (lt_of_block G2.out)).trans G2.out
          have OL := Lib.hid (OwnE.later O2.out XL)
          have BL := Lib.hid (B2.out.trans (XL.mono B2.out.size))
          have n0 := bk_cell NL 4
          have n1 := bk_cell NL 5
          obtain ⟨p0, p1, _, _⟩ := bk4R RL
          obtain ⟨g0, g1⟩ := bk2F GL
          have gf := fun j => bk_frz GL j
          have hsl : kf < w2.heap.size := lt_of_block G2.out
          simp only [List.getElem?_toArray, List.getElem?_cons_succ, List.getElem?_cons_zero] at n0 n1
          clear h4
          go_upto_region 8 with fail
          obtain ⟨wL, hwL⟩ : ∃ w9, w2.alloc (.cells #[.string ⟨#[58, 112, 97, 116, 104]⟩, .string ⟨#[47]⟩, .string ⟨#[58, 109, 101, 116, 104, 111, 100]⟩, .string ⟨#[71, 69, 84]⟩, .string ⟨#[97, 103, 101]⟩, .string ⟨#[48]⟩, .string ⟨#[58, 112, 97, 116, 104]⟩, .string ⟨#[47, 120]⟩] 57) = w9 := ⟨_, rfl⟩
          obtain ⟨kl, hkl⟩ : ∃ k, w2.heap.size = k := ⟨_, rfl⟩
          rw [hwL] at GL OL BL n0 n1 p0 p1 g0 g1 gf ⊢
          rw [hkl] at n0 n1 ⊢
          clear XL NL RL hwL hkl hsl
          go_upto_region 9 with (go_at_call 26; refine (HP4.out _).mono ?_; rintro e w' ⟨rfl, rfl⟩)
          obtain ⟨m0, m1, gy⟩ := bk2_putF GL (.string ⟨#[97, 103, 101]⟩) (.string ⟨#[48]⟩)
          have YY3 := bk2_blkR GL (.string ⟨#[97, 103, 101]⟩) (.string ⟨#[48]⟩)
          obtain ⟨w3, hw3⟩ : ∃ w9, (wL.setCell ⟨kf, 0, none⟩ (.string ⟨#[97, 103, 101]⟩)).setCell ⟨kf, 1, none⟩ (.string ⟨#[48]⟩) = w9 := ⟨_, rfl⟩
          rw [hw3] at YY3 gy ⊢
          have G3 := Lib.hid YY3
          have O3 := Lib.hid (OwnE.kept OL.out gy (fun e => by have := HKF.out _ e; omega))
          have B3 := Lib.hid (BL.out.grown gy BL.out.size (fun k e => by cases e; exact hkW.out))
          clear hw3 gy YY3 m0 m1 g0 g1 gf p0 p1 n0 n1 GL
          have RR := Lib.hid ((RowE.one (E := FdE) w3 (knF 2) #[.string ⟨#[97, 103, 101]⟩, .string ⟨#[48]⟩] 57 w3.heap.size rfl HFX.out.symm).more (show w3.heap.size + 1 ≤ (w3.alloc (.cells #[.string ⟨#[97, 103, 101]⟩, .string ⟨#[48]⟩] 57)).heap.size by simp))
          have b9 := (Below.refl w3.heap.size w3).alloc (Nat.le_refl _) (.cells #[.string ⟨#[97, 103, 101]⟩, .string ⟨#[48]⟩] 57)
          have OX := Lib.hid (OwnE.later O3.out b9)
          have BX := Lib.hid (B3.out.trans (b9.mono B3.out.size))
          have hbase := Lib.hid BX.out.size
          obtain ⟨y0, y1⟩ := bk2F G3.out
          clear b9
          go_wp2_with (at_builtin
                       refine wpList_appE _ rfl (.tmp 32) (.tmp 34) _ rfl W.heap.size 57 i0 (.agg #[.string ⟨#[]⟩, .string ⟨#[]⟩]) 32 Try.underlying22 HI.out HZ.out HZ1.out HZ2.out rfl (by decide) (.slice A1 i ca) out rfl OX.out _ (some ⟨w3.heap.size, 0, none⟩) 1 1 [(knF 2)] rfl RR.out rfl (by have := HLL.out; omega) hbase.out ?_
                       intro v9 u9 own9 g9
                       have O9 := Lib.hid own9
                       have B9 := Lib.hid (BX.out.grown g9 BX.out.size (fun k e => (OwnE.lt OX.out k e).1))
                       obtain ⟨A8, c8, h8, _, _, _⟩ := own9.slice
                       have hl1 : (out ++ [(knF 2)]).length = i + 1 := by rw [List.length_append, HLO.out]; rfl
                       rw [hl1] at h8
                       subst h8
                       have HON := Lib.hid (show out ++ [(knF 2)] = (fsOf rs).take (i + 1) by rw [HTK.out, ← HOUT.out])
                       clear own9 g9 y0 y1 hl1)
          go_roundg (gk - 1)
          case measure => omega
          case rel => exact ⟨i + 1, out ++ [(knF 2)], A8, c8, by first | rfl | go_num, rfl, by omega, HON, O9, B9⟩
        · have HFX := Lib.hid (show FdE.f (knF 3) = [.string ⟨#[58, 112, 97, 116, 104]⟩, .string ⟨#[47, 120]⟩] from rfl)
          have HP4 := Lib.hid (fun w => h4 ▸ picked_any ra 4 (by decide) (by decide) w)
          rw [h4] at HTK
          have HTK := Lib.hid (show (fsOf rs).take (i + 1) = (fsOf rs).take i ++ [knF 3] from HTK.out)
          have XL := (Below.refl w2.heap.size w2).alloc (Nat.le_refl _) (.cells #[.string ⟨#[58, 112, 97, 116, 104]⟩, .string ⟨#[47]⟩, .string ⟨#[58, 109, 101, 116, 104, 111, 100]⟩, .string ⟨#[71, 69, 84]⟩, .string ⟨#[97, 103, 101]⟩, .string ⟨#[48]⟩, .string ⟨#[58, 112, 97, 116, 104]⟩, .string ⟨#[47, 120]⟩] 57)
          have NL := heap_alloc_new w2 (.cells #[.string ⟨#[58, 112, 97, 116, 104]⟩, .string ⟨#[47]⟩, .string ⟨#[58, 109, 101, 116, 104, 111, 100]⟩, .string ⟨#[71, 69, 84]⟩, .string ⟨#[97, 103, 101]⟩, .string ⟨#[48]⟩, .string ⟨#[58, 112, 97, 116, 104]⟩, .string ⟨#[47, 120]⟩] 57)
          have RL := (XL.block _ (lt_of_block R2.out)).trans R2.out
          have GL := (XL.block _ (lt_of_block G2.out)).trans G2.out
          have OL := Lib.hid (OwnE.later O2.out XL)
          have BL := Lib.hid (B2.out.trans (XL.mono B2.out.size))
          have n0 := bk_cell NL 6
          have n1 := bk_cell NL 7
          obtain ⟨p0, p1, _, _⟩ := bk4R RL
          obtain ⟨g0, g1⟩ := bk2F GL
          have gf := fun j => bk_frz GL j
          have hsl : kf < w2.heap.size := lt_of_block G2.out
          simp only [List.getElem?_toArray, List.getElem?_cons_succ, List.getElem?_cons_zero] at n0 n1
          clear h4
          go_upto_region 8 with fail
          obtain ⟨wL, hwL⟩ : ∃ w9, w2.alloc (.cells #[.string ⟨#[58, 112, 97, 116, 104]⟩, .string ⟨#[47]⟩, .string ⟨#[58, 109, 101, 116, 104, 111, 100]⟩, .string ⟨#[71, 69, 84]⟩, .string ⟨#[97, 103, 101]⟩, .string ⟨#[48]⟩, .string ⟨#[58, 112, 97, 116, 104]⟩, .string ⟨#[47, 120]⟩] 57) = w9 := ⟨_, rfl⟩
          obtain ⟨kl, hkl⟩ : ∃ k, w2.heap.size = k := ⟨_, rfl⟩
          rw [hwL] at GL OL BL n0 n1 p0 p1 g0 g1 gf ⊢
          rw [hkl] at n0 n1 ⊢
          clear XL NL RL hwL hkl hsl
          go_upto_region 9 with (go_at_call 26; refine (HP4.out _).mono ?_; rintro e w' ⟨rfl, rfl⟩)
          obtain ⟨m0, m1, gy⟩ := bk2_putF GL (.string ⟨#[58, 112, 97, 116, 104]⟩) (.string ⟨#[47, 120]⟩)
          have YY3 := bk2_blkR GL (.string ⟨#[58, 112, 97, 116, 104]⟩) (.string ⟨#[47, 120]⟩)
          obtain ⟨w3, hw3⟩ : ∃ w9, (wL.setCell ⟨kf, 0, none⟩ (.string ⟨#[58, 112, 97, 116, 104]⟩)).setCell ⟨kf, 1, none⟩ (.string ⟨#[47, 120]⟩) = w9 := ⟨_, rfl⟩
          rw [hw3] at YY3 gy ⊢
          have G3 := Lib.hid YY3
          have O3 := Lib.hid (OwnE.kept OL.out gy (fun e => by have := HKF.out _ e; omega))
          have B3 := Lib.hid (BL.out.grown gy BL.out.size (fun k e => by cases e; exact hkW.out))
          clear hw3 gy YY3 m0 m1 g0 g1 gf p0 p1 n0 n1 GL
          have RR := Lib.hid ((RowE.one (E := FdE) w3 (knF 3) #[.string ⟨#[58, 112, 97, 116, 104]⟩, .string ⟨#[47, 120]⟩] 57 w3.heap.size rfl HFX.out.symm).more (show w3.heap.size + 1 ≤ (w3.alloc (.cells #[.string ⟨#[58, 112, 97, 116, 104]⟩, .string ⟨#[47, 120]⟩] 57)).heap.size by simp))
          have b9 := (Below.refl w3.heap.size w3).alloc (Nat.le_refl _) (.cells #[.string ⟨#[58, 112, 97, 116, 104]⟩, .string ⟨#[47, 120]⟩] 57)
          have OX := Lib.hid (OwnE.later O3.out b9)
          have BX := Lib.hid (B3.out.trans (b9.mono B3.out.size))
          have hbase := Lib.hid BX.out.size
          obtain ⟨y0, y1⟩ := bk2F G3.out
          clear b9
          go_wp2_with (at_builtin
                       refine wpList_appE _ rfl (.tmp 32) (.tmp 34) _ rfl W.heap.size 57 i0 (.agg #[.string ⟨#[]⟩, .string ⟨#[]⟩]) 32 Try.underlying22 HI.out HZ.out HZ1.out HZ2.out rfl (by decide) (.slice A1 i ca) out rfl OX.out _ (some ⟨w3.heap.size, 0, none⟩) 1 1 [(knF 3)] rfl RR.out rfl (by have := HLL.out; omega) hbase.out ?_
                       intro v9 u9 own9 g9
                       have O9 := Lib.hid own9
                       have B9 := Lib.hid (BX.out.grown g9 BX.out.size (fun k e => (OwnE.lt OX.out k e).1))
                       obtain ⟨A8, c8, h8, _, _, _⟩ := own9.slice
                       have hl1 : (out ++ [(knF 3)]).length = i + 1 := by rw [List.length_append, HLO.out]; rfl
                       rw [hl1] at h8
                       subst h8
                       have HON := Lib.hid (show out ++ [(knF 3)] = (fsOf rs).take (i + 1) by rw [HTK.out, ← HOUT.out])
                       clear own9 g9 y0 y1 hl1)
          go_roundg (gk - 1)
          case measure => omega
          case rel => exact ⟨i + 1, out ++ [(knF 3)], A8, c8, by first | rfl | go_num, rfl, by omega, HON, O9, B9⟩
      · rw [if_neg hk] at HTK
        have e1 : (q == 0) = false := by simp [hk]
        have G3 := Lib.hid G2.out
        have O3 := Lib.hid O2.out
        have B3 := Lib.hid B2.out
        clear hk hq
        go_upto_region 9 with (go_at_call 26; refine (HP3.out _).mono ?_; rintro e w' ⟨rfl, rfl⟩)
        obtain ⟨w3, hw3⟩ : ∃ x, w2 = x := ⟨_, rfl⟩
        rw [hw3] at G3 O3 B3 ⊢
        clear hw3
        have RR := Lib.hid ((RowE.one (E := FdE) w3 f #[.string S1, .string S2] 57 w3.heap.size rfl HFX.out.symm).more (show w3.heap.size + 1 ≤ (w3.alloc (.cells #[.string S1, .string S2] 57)).heap.size by simp))
        have b9 := (Below.refl w3.heap.size w3).alloc (Nat.le_refl _) (.cells #[.string S1, .string S2] 57)
        have OX := Lib.hid (OwnE.later O3.out b9)
        have BX := Lib.hid (B3.out.trans (b9.mono B3.out.size))
        have hbase := Lib.hid BX.out.size
        obtain ⟨y0, y1⟩ := bk2F G3.out
        clear b9
        go_wp2_with (at_builtin
                     refine wpList_appE _ rfl (.tmp 32) (.tmp 34) _ rfl W.heap.size 57 i0 (.agg #[.string ⟨#[]⟩, .string ⟨#[]⟩]) 32 Try.underlying22 HI.out HZ.out HZ1.out HZ2.out rfl (by decide) (.slice A1 i ca) out rfl OX.out _ (some ⟨w3.heap.size, 0, none⟩) 1 1 [f] rfl RR.out rfl (by have := HLL.out; omega) hbase.out ?_
                     intro v9 u9 own9 g9
                     have O9 := Lib.hid own9
                     have B9 := Lib.hid (BX.out.grown g9 BX.out.size (fun k e => (OwnE.lt OX.out k e).1))
                     obtain ⟨A8, c8, h8, _, _, _⟩ := own9.slice
                     have hl1 : (out ++ [f]).length = i + 1 := by rw [List.length_append, HLO.out]; rfl
                     rw [hl1] at h8
                     subst h8
                     have HON := Lib.hid (show out ++ [f] = (fsOf rs).take (i + 1) by rw [HTK.out, ← HOUT.out])
                     clear own9 g9 y0 y1 hl1)
        go_roundg (gk - 1)
        case measure => omega
        case rel => exact ⟨i + 1, out ++ [f], A8, c8, by first | rfl | go_num, rfl, by omega, HON, O9, B9⟩
    · obtain rfl : i = N := by omega
      have hnk : ¬ (i : Int) < (i : Int) := by omega
      have hO : out = fsOf rs := by rw [HOUT.out, List.take_of_length_le (by rw [HFL.out]; exact Nat.le_refl _)]
      subst hO
      obtain ⟨A8, c8, h8, l8, m8, r8⟩ := OA.out.slice
      injection h8 with a1 a2 a3
      rw [HFL.out] at l8
      have HRES := Lib.hid (show i ≤ ca ∧ ca ≤ maxLen ∧ RowE FdE wr wr.heap.size A1 (fsOf rs) from ⟨by rw [a3]; exact l8, by rw [a3]; exact m8, a1 ▸ r8⟩)
      clear a1 a2 a3 l8 m8 r8
      go_wp2_with fail
      go_ret
      exact ⟨BK.out, _, _, rfl, HRES.out⟩
end Go.Proofs.Ytlddbojfikkhfaa
