/- The document's RequestFault. -/
import Derived.Test.YtpfahdogedchpaaGrpT
import Derived.Test.YtpfahdogedchpaaGrpF
import Derived.Test.YtpfahdogedchpaaGrpD
namespace Go.Proofs.Ytpfahdogedchpaa.P
set_option linter.unusedVariables false
open Go.RowKit
theorem nOwn_own {l : List Fld} {j : Nat} (h : j < nOwn l) : isOwnF (l.getD j fd0) = true := by
  have hl : j < l.length := Nat.lt_of_lt_of_le h (nOwn_le l)
  cases hq : isOwnF (l.getD j fd0) with
  | true => rfl
  | false =>
    exfalso
    induction l generalizing j with
    | nil => simp at hl
    | cons x l ih =>
      unfold nOwn at h
      rcases j with _ | j
      · rw [List.getD_cons_zero] at hq
        rw [List.takeWhile_cons, hq] at h
        simp at h
      · rw [List.getD_cons_succ] at hq
        rw [List.takeWhile_cons] at h
        cases hx : isOwnF x with
        | false => rw [hx] at h; simp at h
        | true =>
          rw [hx] at h
          simp only [if_true, List.length_cons] at h
          exact ih (j := j) (by unfold nOwn; omega) (by simpa using hl) hq
theorem nOwn_not {l : List Fld} (h : nOwn l < l.length) : isOwnF (l.getD (nOwn l) fd0) = false := by
  induction l with
  | nil => simp at h
  | cons x l ih =>
    cases hx : isOwnF x with
    | false =>
      have e : nOwn (x :: l) = 0 := by unfold nOwn; rw [List.takeWhile_cons, hx]; rfl
      rw [e, List.getD_cons_zero]; exact hx
    | true =>
      have e : nOwn (x :: l) = nOwn l + 1 := by unfold nOwn; rw [List.takeWhile_cons, hx]; rfl
      rw [e, List.getD_cons_succ]
      rw [e] at h
      exact ih (by simpa using h)
/-- an entry of the map that counts may be -/
def goodN (own : List Fld) (zs : List Int) : Prop := cntN zs own ≤ 1 ∧ (zs = nmM ∨ zs = nmP ∨ zs = nmA)
/-- one of another Name -/
def othF (f : Fld) : Bool := !(decide (f.name = nmM) || decide (f.name = nmP) || decide (f.name = nmA))
theorem cnt3 (l : List Fld) : cntN nmM l + cntN nmP l + cntN nmA l + l.countP othF = l.length := by
  have d1 : nmM ≠ nmP := by decide
  have d2 : nmM ≠ nmA := by decide
  have d3 : nmP ≠ nmA := by decide
  induction l with
  | nil => rfl
  | cons f l ih =>
    unfold cntN at ih ⊢
    simp only [List.countP_cons, List.length_cons]
    by_cases h1 : f.name = nmM
    · have e : othF f = false := by unfold othF; simp [h1]
      simp [h1, d1, d2, e]; omega
    · by_cases h2 : f.name = nmP
      · have e : othF f = false := by unfold othF; simp [h2]
        simp [h2, d1.symm, d3, e]; omega
      · by_cases h3 : f.name = nmA
        · have e : othF f = false := by unfold othF; simp [h3]
          simp [h3, d2.symm, d3.symm, e]; omega
        · have e : othF f = true := by unfold othF; simp [h1, h2, h3]
          simp [h1, h2, h3, e]; omega
theorem okOwn_good {own : List Fld} (h : okOwn own) {zs : List Int} (hz : 0 < cntN zs own) : goodN own zs := by
  obtain ⟨h1, h2, h3, h4⟩ := h
  have c := cnt3 own
  have c0 : own.countP othF = 0 := by omega
  obtain ⟨f, hf, hn⟩ := List.countP_pos_iff.1 hz
  have hn : f.name = zs := by simpa using hn
  have q := List.countP_eq_zero.1 c0 f hf
  unfold othF at q
  have q : ¬ f.name = nmM → ¬ f.name = nmP → f.name = nmA := by simpa using q
  have q : (f.name = nmM ∨ f.name = nmP) ∨ f.name = nmA := by
    by_cases a : f.name = nmM
    · exact .inl (.inl a)
    · by_cases b : f.name = nmP
      · exact .inl (.inr b)
      · exact .inr (q a b)
  rw [hn] at q
  rcases q with (rfl | rfl) | rfl
  · exact ⟨by omega, .inl rfl⟩
  · exact ⟨by omega, .inr (.inl rfl)⟩
  · exact ⟨h3, .inr (.inr rfl)⟩
theorem okOwn_of {own : List Fld} (h : ∀ f ∈ own, goodN own f.name) (h1 : cntN nmM own ≠ 0) (h2 : cntN nmP own ≠ 0) : okOwn own := by
  have c := cnt3 own
  have c0 : own.countP othF = 0 := by
    rw [List.countP_eq_zero]
    intro f hf
    have := (h f hf).2
    unfold othF
    rcases this with e | e | e <;> simp [e]
  have le1 : ∀ zs, cntN zs own ≤ 1 := fun zs => by
    rcases Nat.eq_zero_or_pos (cntN zs own) with e | e
    · omega
    · obtain ⟨f, hf, hn⟩ := List.countP_pos_iff.1 e
      have hn : f.name = zs := by simpa using hn
      exact hn ▸ (h f hf).1
  have a := le1 nmM
  have b := le1 nmP
  have d := le1 nmA
  exact ⟨by omega, by omega, d, by omega⟩
theorem MapS.pos {D : DataW Unit} {l : List Fld} (h : MapS D l) {zs : List Int} (hz : Byt zs) : Maps.has D (kyS zs) = true ↔ 0 < cntN zs l := by
  constructor
  · intro k
    rcases Nat.eq_zero_or_pos (cntN zs l) with e | e
    · rw [h.no zs hz e] at k; cases k
    · exact e
  · intro k
    cases hq : Maps.has D (kyS zs) with
    | true => rfl
    | false =>
      exfalso
      have := (Maps.atKey_of_not_has hq (.lit (.int .i64 0))).symm.trans (h.at_ zs hz)
      injection this with e
      injection e with _ e
      omega
end Go.Proofs.Ytpfahdogedchpaa.P
namespace Go.Proofs.Ytpfahdogedchpaa
set_option linter.unusedVariables false
open Go.RowKit P
set_option maxRecDepth 100000 in
set_option maxHeartbeats 8000000 in
theorem refRqF_any : RqChk Try.prog 25 := by
  intro A n c l w h hn hnc hc hwf hm
  have HC := Lib.hid (refFlF_any A n c l w h hn hwf hm)
  have hmm := @run_makeMap Try.prog
  by_cases h0 : faultFl l = 0
  · rw [h0] at HC
    obtain ⟨q8, qok⟩ : l.length ≤ 8 ∧ ∀ f ∈ l, okFd f := by
      unfold faultFl at h0
      by_cases g : 8 < l.length
      · rw [if_pos g] at h0; simp at h0
      · rw [if_neg g] at h0
        by_cases d : ∀ f ∈ l, okFd f
        · exact ⟨by omega, d⟩
        · rw [if_neg d] at h0; simp at h0
    have HF := Lib.hid (okRq_any h0)
    have HR := Lib.hid h
    have HN := Lib.hid hn
    have HW := Lib.hid (fun x hx => And.intro (hwf x hx) (qok x hx))
    have HOW := Lib.hid (fun j (hj : j < nOwn l) => nOwn_own hj)
    have HNO := Lib.hid (fun (hj : nOwn l < l.length) => nOwn_not hj)
    have HKL := Lib.hid (nOwn_le l)
    have hn8 : n ≤ 8 := by omega
    obtain ⟨r, hr⟩ : ∃ r, faultRq l = r := ⟨_, rfl⟩
    rw [hr] at HF ⊢
    obtain ⟨k, hk⟩ : ∃ k, nOwn l = k := ⟨_, rfl⟩
    rw [hk] at HF HOW HNO HKL
    clear h hn hnc hc hwf hm h0 q8 qok hr hk
    go_enter Try.func25, Try.ntmps25
    go_wp2_with fail
    refine (HC.out).mono ?_
    rintro e w1 ⟨rfl, b1⟩
    have I1 : MpI Try.prog 9 3 w w1.heap.size 0 [] (w1.alloc (.map #[] 0)) := ⟨⟨_, World.ownsMap_made w1 Try.prog 9 (plainElem Try.prog 3), MapS.empty⟩, b1.trans (((Below.refl w1.heap.size w1).alloc (Nat.le_refl _) (.map #[] 0)).mono b1.size), b1.size⟩
    obtain ⟨M, hM⟩ : ∃ q, w1.heap.size = q := ⟨_, rfl⟩
    obtain ⟨w2, hw2⟩ : ∃ q, w1.alloc (.map #[] 0) = q := ⟨_, rfl⟩
    have I2 := Lib.hid I1
    rw [hM, hw2] at I2
    clear I1 b1
    go_upto_region 6 with fail
    clear hmm hM hw2
    go_wp2_with fail
    go_loopg [5, 20] n (fun gq pv iv wr => ∃ (i : Nat) (p : Bool), iv = .int .i64 i ∧ pv = .bool p ∧ i + gq = n ∧ Hid (p = decide (k < i)) ∧ Hid (∀ j, j < i → badF (l.getD j fd0) = false) ∧ Hid (∀ j, k ≤ j → j < i → isOwnF (l.getD j fd0) = false) ∧ Hid (MpI Try.prog 9 3 w M i (l.take (min i k)) wr))
    case atStart => exact ⟨0, false, rfl, rfl, by omega, Lib.hid (by simp), Lib.hid (fun j hj => by omega), Lib.hid (fun j _ hj => by omega), by rw [Nat.zero_min]; exact I2⟩
    case round =>
      obtain ⟨i, p, rfl, rfl, hig, HPD, HBN, HNW, IW⟩ := hrel
      by_cases hlt : i < n
      · have hil : i < l.length := by rw [HN.out]; exact hlt
        obtain ⟨b, off, hA, hbl, x0, x1⟩ := fd_cells HR.out hil
        have hmem : l.getD i fd0 ∈ l := by rw [List.getD_eq_getElem?_getD, List.getElem?_eq_getElem hil]; exact List.getElem_mem hil
        have HME := Lib.hid hmem
        have HFW := Lib.hid (HW.out _ hmem)
        have HTK := Lib.hid (show l.take (i + 1) = l.take i ++ [l.getD i fd0] by rw [List.take_succ_eq_append_getElem hil, List.getD_eq_getElem?_getD, List.getElem?_eq_getElem hil]; rfl)
        have HXX := Lib.hid (fun (q : badF (l.getD i fd0) = false) j (hj : j < i + 1) => (by
          rcases Nat.lt_or_ge j i with e | e
          · exact HBN.out j e
          · obtain rfl : j = i := by omega
            exact q : badF (l.getD j fd0) = false))
        have HYY := Lib.hid (fun (q : isOwnF (l.getD i fd0) = false) j (hk : k ≤ j) (hj : j < i + 1) => (by
          rcases Nat.lt_or_ge j i with e | e
          · exact HNW.out j hk e
          · obtain rfl : j = i := by omega
            exact q : isOwnF (l.getD j fd0) = false))
        have HOI := Lib.hid (fun (hj : i < k) => HOW.out i hj)
        have HOK := Lib.hid (fun (hj : k = i) => hj ▸ HNO.out (hj ▸ hil))
        have HAB := Lib.hid (fun (q : badF (l.getD i fd0) = true) => show l.any badF = true from List.any_eq_true.2 ⟨_, hmem, q⟩)
        have HAO := Lib.hid (fun (q : isOwnF (l.getD i fd0) = true) (hj : k < i) => show (l.drop k).any isOwnF = true from List.any_eq_true.2 ⟨l.getD i fd0, by
          rw [List.getD_eq_getElem?_getD, List.getElem?_eq_getElem hil]
          exact List.mem_drop_iff_getElem.2 ⟨i - k, by omega, by simp [show k + (i - k) = i by omega]⟩, q⟩)
        have y0 := (IW.out.b.cell (p := ⟨b, off + i * 2, none⟩) hbl).trans x0
        have y1 := (IW.out.b.cell (p := ⟨b, off + i * 2 + 1, none⟩) hbl).trans x1
        obtain ⟨x, hx⟩ : ∃ x, l.getD i fd0 = x := ⟨_, rfl⟩
        rw [hx] at y0 y1 HFW HTK HXX HYY HOI HOK HAB HAO HME
        have HKY := Lib.hid (keyS_of x.name (by have := HFW.out.2.2.1; omega))
        have hby := HFW.out.1.1
        have hok := HFW.out.2
        have hsz : (strOfNums x.name).size = x.name.length := strOfNums_size _
        have HGET := Lib.hid (fun j h => str_get hby j h)
        have HXX := Lib.hid (show x.name.any badC = false → ∀ j, j < i + 1 → badF (l.getD j fd0) = false from HXX.out)
        have HAB := Lib.hid (show x.name.any badC = true → l.any badF = true from HAB.out)
        have HOI := Lib.hid (show i < k → decide (x.name.getD 0 0 = 58) = true from HOI.out)
        have HOK := Lib.hid (show k = i → decide (x.name.getD 0 0 = 58) = false from HOK.out)
        have HAO := Lib.hid (show decide (x.name.getD 0 0 = 58) = true → k < i → (l.drop k).any isOwnF = true from HAO.out)
        have HYY := Lib.hid (show decide (x.name.getD 0 0 = 58) = false → ∀ j, k ≤ j → j < i + 1 → isOwnF (l.getD j fd0) = false from HYY.out)
        have HDR := Lib.hid (fun j (hj : j < x.name.length) => any_drop (p := badC) hj)
        have HDE := Lib.hid (show (x.name.drop x.name.length).any badC = false by rw [List.drop_length]; rfl)
        have HD0 := Lib.hid (show (x.name.drop 0).any badC = x.name.any badC by rw [List.drop_zero])
        obtain ⟨S1, hS1⟩ : ∃ S, strOfNums x.name = S := ⟨_, rfl⟩
        obtain ⟨S2, hS2⟩ : ∃ S, strOfNums x.val = S := ⟨_, rfl⟩
        rw [hS1] at y0 HKY HGET hsz
        rw [hS2] at y1
        have hN1 : 1 ≤ S1.size ∧ S1.size ≤ 20 := by have := hok.1; have := hok.2.1; omega
        obtain ⟨N1, hNN⟩ : ∃ N, S1.size = N := ⟨_, rfl⟩
        have HSZ := Lib.hid hsz
        subst hA
        have hnk : (i : Int) < (n : Int) := by omega
        have IX := Lib.hid (IW.out.later ((Below.refl wr.heap.size wr).alloc (Nat.le_refl _) (.cells #[.string S1, .string S2] 66)))
        have FX := Lib.hid (heap_alloc_new wr (.cells #[.string S1, .string S2] 66))
        clear x0 x1 hx hS1 hS2 hmem hil hbl hsz hok hby hNN
        go_upto_region 9 with fail
        obtain ⟨w3, hw3⟩ : ∃ q, wr.alloc (.cells #[.string S1, .string S2] 66) = q := ⟨_, rfl⟩
        rw [hw3] at IX FX ⊢
        obtain ⟨u0, u1⟩ := bk2F FX.out
        clear hw3 y0 y1
        go_wp2_with fail
        obtain ⟨gq0, hgq⟩ : ∃ q, q = gk := ⟨_, rfl⟩
        subst hgq
        go_loopg [8] S1.size (fun gq2 jv ws => ∃ j : Nat, jv = .int .i64 j ∧ j + gq2 = S1.size ∧ Hid ((x.name.drop j).any badC = x.name.any badC) ∧ ws = w3)
        case atStart => exact ⟨0, rfl, by omega, HD0, rfl⟩
        case round =>
          obtain ⟨j, rfl, hjg, HQ, rfl⟩ := hrel
          by_cases hjt : j < S1.size
          · have hget := HGET.out j hjt
            have hcb := HFW.out.1.1 j
            have HDJ := Lib.hid (HDR.out j (by rw [← HSZ.out]; exact hjt))
            obtain ⟨c2, hc2⟩ : ∃ c, x.name.getD j 0 = c := ⟨_, rfl⟩
            rw [hc2] at hget hcb HDJ
            have hjk : (j : Int) < (S1.size : Int) := by omega
            clear hc2
            rcases badC_ways c2 with ⟨hb, h1⟩ | ⟨hb, h1, h2⟩ | ⟨hb, h1, h2, h3, h4⟩ | ⟨hb, h1, h2, h3⟩ | ⟨hb, h1, h2, h3, h4⟩
            any_goals
              have HE := Lib.hid (show r = 3 by rw [HF.out, if_pos (HAB.out (by rw [← HQ.out, HDJ.out, hb, Bool.true_or]))])
              clear hb
              go_wp2_with fail
              go_ret
              exact ⟨by rw [HE.out]; rfl, IX.out.b⟩
            all_goals
              have HQ2 := Lib.hid (show (x.name.drop (j + 1)).any badC = x.name.any badC by rw [← HQ.out, HDJ.out, hb, Bool.false_or])
              clear hb
              go_wp2_with fail
              go_roundg (gk - 1)
              case measure => omega
              case rel => exact ⟨j + 1, by first | rfl | go_num, by omega, HQ2, rfl⟩
          · have HB0 := Lib.hid (show x.name.any badC = false by rw [← HQ.out, show j = x.name.length by rw [← HSZ.out]; omega]; exact HDE.out)
            have HX1 := Lib.hid (HXX.out HB0.out)
            have hjt2 : ¬ (j : Int) < (S1.size : Int) := by omega
            have hget := HGET.out 0 (by omega)
            obtain ⟨c0, hc0⟩ : ∃ c, x.name.getD 0 0 = c := ⟨_, rfl⟩
            have hcb := HFW.out.1.1 0
            rw [hc0] at hget hcb HOI HOK HAO HYY
            obtain ⟨D, OO, MM⟩ := IX.out.m
            have OH := Lib.hid OO
            have MH := Lib.hid MM
            clear OO MM hc0
            by_cases hown : c0 = 58
            · subst hown
              rw [decide_eq_true (rfl : (58 : Int) = 58)] at HAO HOI HOK HYY
              have hki : k ≠ i := fun e => by have := HOK.out e; cases this
              cases p with
              | true =>
                have hk1 : k < i := of_decide_eq_true HPD.out.symm
                have HE := Lib.hid (show r = 3 by
                  rw [HF.out]
                  split
                  · rfl
                  · rw [if_pos (HAO.out rfl hk1)])
                have HCK := Lib.hid (by have := cntN_le x.name (l.take (min i k)); rw [List.length_take] at this; omega : cntN x.name (l.take (min i k)) ≤ 8)
                have HATK := Lib.hid (MH.out.at_ x.name HFW.out.1.1)
                obtain ⟨kc, hkc⟩ : ∃ z, cntN x.name (l.take (min i k)) = z := ⟨_, rfl⟩
                rw [hkc] at HATK HCK
                have hk8 := HCK.out
                clear hkc
                go_wp2_with (first
                  | (at_lookup
                     go_loud (refine wpList_lookup_own_int _ rfl _ _ 77 rfl 9 3 .i64 (Maps.string_keyed Try.underlying9) Try.underlying77 Try.underlying3 (zeroIN _) M i D rfl OH.out _ (kyS x.name) rfl HKY.out ?_)
                     intro z hat hwz
                     obtain rfl : z = (kc : Int) := by have := hat.symm.trans HATK.out; cases this; rfl
                     clear hat hwz)
                  | (at_mapUpdate
                     go_loud (refine wpList_mapUpdate_own _ rfl _ _ _ 77 rfl 9 3 (Maps.string_keyed Try.underlying9) Try.underlying77 _ M i D rfl OH.out (by unfold maxLen; omega) _ _ (kyS x.name) rfl rfl HKY.out (.lit (.int .i64 ((kc : Int) + 1))) [] (plainElem_int Try.underlying3 (wfN (by omega) (by omega))) ?_)
                     intro w5 own5 gr5
                     have B5 := Lib.hid (IX.out.b.grown gr5 IX.out.b.size (fun q e => by cases e; exact IX.out.lo))
                     clear own5 gr5))
                go_ret
                exact ⟨by rw [HE.out]; rfl, B5.out⟩
              | false =>
                have hk1 : i < k := by have := of_decide_eq_false HPD.out.symm; omega
                have hmin : min i k = i := by omega
                have HTK2 := Lib.hid (show l.take (min (i + 1) k) = l.take (min i k) ++ [x] by rw [show min (i + 1) k = i + 1 by omega, hmin, HTK.out])
                have HNX := Lib.hid (show ∀ j, k ≤ j → j < i + 1 → isOwnF (l.getD j fd0) = false from fun j h1 h2 => by omega)
                have HCK := Lib.hid (by have := cntN_le x.name (l.take (min i k)); rw [List.length_take] at this; omega : cntN x.name (l.take (min i k)) ≤ 8)
                have HATK := Lib.hid (MH.out.at_ x.name HFW.out.1.1)
                obtain ⟨kc, hkc⟩ : ∃ z, cntN x.name (l.take (min i k)) = z := ⟨_, rfl⟩
                have HKC := Lib.hid hkc
                rw [hkc] at HATK HCK
                have hk8 := HCK.out
                clear hkc hmin
                go_wp2_with (first
                  | (at_lookup
                     go_loud (refine wpList_lookup_own_int _ rfl _ _ 77 rfl 9 3 .i64 (Maps.string_keyed Try.underlying9) Try.underlying77 Try.underlying3 (zeroIN _) M i D rfl OH.out _ (kyS x.name) rfl HKY.out ?_)
                     intro z hat hwz
                     obtain rfl : z = (kc : Int) := by have := hat.symm.trans HATK.out; cases this; rfl
                     clear hat hwz)
                  | (at_mapUpdate
                     go_loud (refine wpList_mapUpdate_own _ rfl _ _ _ 77 rfl 9 3 (Maps.string_keyed Try.underlying9) Try.underlying77 _ M i D rfl OH.out (by unfold maxLen; omega) _ _ (kyS x.name) rfl rfl HKY.out (.lit (.int .i64 ((kc : Int) + 1))) [] (plainElem_int Try.underlying3 (wfN (by omega) (by omega))) ?_)
                     intro w5 own5 gr5
                     have I5 := Lib.hid (IX.out.store MH.out HFW.out.1.1 (by rw [HKC.out]; exact own5) gr5)
                     clear own5 gr5))
                go_roundg (gq0 - 1)
                case measure => omega
                case rel => exact ⟨i + 1, false, by first | rfl | go_num, rfl, by omega, Lib.hid (by simp; omega), HX1, HNX, by rw [HTK2.out]; exact I5⟩
            · have gne : (c0 == 58) = false := by simp; exact hown
              rw [decide_eq_false hown] at HAO HOI HOK HYY
              have hki : k ≤ i := by
                rcases Nat.lt_or_ge i k with e | e
                · have := HOI.out e; cases this
                · exact e
              have HX2 := Lib.hid (HYY.out rfl)
              have I4 : Hid (MpI Try.prog 9 3 w M (i + 1) (l.take (min (i + 1) k)) _) := Lib.hid (by rw [show min (i + 1) k = min i k by omega]; obtain ⟨D', o', m'⟩ := IX.out.m; exact ⟨⟨D', o'.mono (Nat.le_succ _), m'⟩, IX.out.b, IX.out.lo⟩)
              go_wp2_with fail
              go_roundg (gq0 - 1)
              case measure => omega
              case rel => exact ⟨i + 1, true, by first | rfl | go_num, by first | rfl | simp, by omega, Lib.hid (by simp; omega), HX1, HX2, I4⟩
      · obtain rfl : i = n := by omega
        have HNB := Lib.hid (show l.any badF = false by
          cases hq : l.any badF with
          | false => rfl
          | true =>
            obtain ⟨f, hf, hb⟩ := List.any_eq_true.1 hq
            obtain ⟨j, hj, e⟩ := List.getElem_of_mem hf
            have := HBN.out j (by rw [← HN.out]; exact hj)
            rw [List.getD_eq_getElem?_getD, List.getElem?_eq_getElem hj] at this
            simp only [Option.getD_some] at this
            rw [e, hb] at this
            cases this)
        have HNO2 := Lib.hid (show (l.drop k).any isOwnF = false by
          cases hq : (l.drop k).any isOwnF with
          | false => rfl
          | true =>
            obtain ⟨f, hf, hb⟩ := List.any_eq_true.1 hq
            obtain ⟨j, hj, e⟩ := List.mem_drop_iff_getElem.1 hf
            have := HNW.out (j + k) (by omega) (by rw [← HN.out]; exact hj)
            have e2 : l[j + k]? = some f := by rw [List.getElem?_eq_getElem hj, ← e]; simp [Nat.add_comm]
            rw [List.getD_eq_getElem?_getD, e2] at this
            simp only [Option.getD_some] at this
            rw [hb] at this
            cases this)
        have HRR := Lib.hid (show r = if okOwn (l.take k) then 0 else 3 by rw [HF.out, HNB.out, HNO2.out, if_neg (by decide), if_neg (by decide)])
        obtain ⟨D, OO, MM⟩ := IW.out.m
        rw [show min i k = k by have := HKL.out; rw [HN.out] at this; omega] at MM
        obtain ⟨own, hown⟩ : ∃ o, l.take k = o := ⟨_, rfl⟩
        have HOB := Lib.hid (show ∀ f ∈ own, Byt f.name from fun f hf => (HW.out f (by rw [← hown] at hf; exact List.mem_of_mem_take hf)).1.1)
        have HOL := Lib.hid (show own.length ≤ 8 by rw [← hown, List.length_take]; have := HN.out; omega)
        rw [hown] at MM HRR
        have OH := Lib.hid OO
        have MH := Lib.hid MM
        clear OO MM hown
        have BW := Lib.hid IW.out.b
        have LO := Lib.hid IW.out.lo
        have LM := Lib.hid OH.out.lt
        have HG0 := Lib.hid (show ∀ zs, Byt zs → 0 < cntN zs own → Maps.has D (kyS zs) = false → goodN own zs from fun zs hz hp hh => by have := (MH.out.pos hz).2 hp; rw [hh] at this; cases this)
        go_wp2_with (at_range; refine wpList_range_own _ rfl _ 77 rfl 9 3 (Maps.string_keyed Try.underlying9) Try.underlying77 _ M i D rfl OH.out ?_; intro w4 hrg4 hg4 hs4)
        go_frame
        have B4 := Lib.hid (BW.out.grown hg4 BW.out.size (fun j hj => by cases hj))
        obtain ⟨R, hR⟩ : ∃ q, wr.heap.size = q := ⟨_, rfl⟩
        have HRW := Lib.hid (show w.heap.size ≤ R from hR ▸ BW.out.size)
        rw [hR] at hrg4 ⊢
        have G4 := Lib.hid hrg4
        clear hrg4 hg4 hs4 hR IW
        go_loopw [10] (fun _ wr => ∃ (left : Lit → Bool) (cnt : Nat), wr.ranges Try.prog 9 (plainElem Try.prog 3) M R i D left cnt ∧ Hid (∀ zs, Byt zs → 0 < cntN zs own → left (kyS zs) = false → goodN own zs) ∧ Hid (Below w.heap.size w wr)) (fun _ wr => wr.rangeLeft M R)
        case atStart => exact ⟨_, _, G4.out, HG0, B4⟩
        case round =>
          obtain ⟨left, cnt, hrg, HG, BK⟩ := hrel
          have HRG := Lib.hid hrg
          clear hrg
          go_wp2_with (at_next; refine wpList_next_ranges _ rfl _ rfl 9 (Maps.string_keyed Try.underlying9) (plainElem Try.prog 3) (fun x : ByteArray => .string x) (fun c : Int => .int .i64 c) (fun key kl hk => by obtain ⟨s, e, _⟩ := Go.WideMaps.string_of_keyOf Try.underlying9 hk; exact ⟨s, e⟩) (fun v y hv => by obtain ⟨c, e, _⟩ := plainElem_int_inv Try.underlying3 hv; exact ⟨c, e⟩) M R i D left cnt rfl HRG.out ?_ ?_)
          · intro hc0 hl0
            have OO := HRG.out.owns
            obtain ⟨cM, rM, aM, _⟩ := OO.lookup_int (Maps.string_keyed Try.underlying9) Try.underlying77 Try.underlying3 (zeroIN wr) (key := .string { data := #[58, 109, 101, 116, 104, 111, 100] }) (kl := kyS nmM) (keyS_of nmM (by decide))
            obtain ⟨cP, rP, aP, _⟩ := OO.lookup_int (Maps.string_keyed Try.underlying9) Try.underlying77 Try.underlying3 (zeroIN wr) (key := .string { data := #[58, 112, 97, 116, 104] }) (kl := kyS nmP) (keyS_of nmP (by decide))
            obtain rfl : cM = (cntN nmM own : Int) := by have := aM.symm.trans (MH.out.at_ nmM (byt_all (by decide))); cases this; rfl
            obtain rfl : cP = (cntN nmP own : Int) := by have := aP.symm.trans (MH.out.at_ nmP (byt_all (by decide))); cases this; rfl
            have HOK3 := Lib.hid (fun h1 h2 => okOwn_of (own := own) (fun f hf => HG.out f.name (HOB.out f hf) (List.countP_pos_iff.2 ⟨f, hf, by simp⟩) (hl0 _)) h1 h2)
            have l1 := cntN_le nmM own
            have l2 := cntN_le nmP own
            have l3 := HOL.out
            have HNO3 := Lib.hid (fun (h : okOwn own) => And.intro h.1 h.2.1)
            obtain ⟨x, hx⟩ : ∃ x, cntN nmM own = x := ⟨_, rfl⟩
            obtain ⟨y, hy⟩ : ∃ y, cntN nmP own = y := ⟨_, rfl⟩
            rw [hx] at HOK3 HNO3 rM l1
            rw [hy] at HOK3 HNO3 rP l2
            clear aM aP OO hx hy hc0 hl0
            have hyx : IntKind.i64.wrap ((x : Int) * (y : Int)) = (x : Int) * (y : Int) := by
              have h1 : (x : Int) * (y : Int) ≤ 8 * 8 := Int.mul_le_mul (by omega) (by omega) (by omega) (by omega)
              have h2 : 0 ≤ (x : Int) * (y : Int) := Int.mul_nonneg (by omega) (by omega)
              rw [IntKind.wrap_i64]; omega
            by_cases hz0 : x = 0 ∨ y = 0
            · have e1 : ((x : Int) * (y : Int) == 0) = true := by rw [beq_iff_eq, Int.mul_eq_zero]; omega
              have HE := Lib.hid (show r = 3 by
                rw [HRR.out, if_neg]
                intro h
                have := HNO3.out h
                omega)
              clear hz0 l1 l2 l3
              go_wp2_with fail
              go_ret
              exact ⟨by rw [HE.out]; rfl, BK.out⟩
            · have e1 : ((x : Int) * (y : Int) == 0) = false := by rw [beq_eq_false_iff_ne, Ne, Int.mul_eq_zero]; omega
              have HE := Lib.hid (show r = 0 by rw [HRR.out, if_pos (HOK3.out (by omega) (by omega))])
              clear hz0 l1 l2 l3
              go_wp2_with fail
              go_ret
              exact ⟨by rw [HE.out]; rfl, BK.out⟩
          · intro x c kl y ps w5 cnt5 hkey hlk hy hat hrg5 hlt5 hg5 hs5 hen
            obtain ⟨s, hs, hkl, _⟩ := Go.WideMaps.string_of_keyOf Try.underlying9 hkey
            injection hs with hs
            subst hs
            have HX := Lib.hid (numsOf_str x)
            have HXB := Lib.hid (numsOf_byt x)
            obtain ⟨zs, hzs⟩ : ∃ z, numsOf x = z := ⟨_, rfl⟩
            rw [hzs] at HX HXB
            have hkl2 : kl = kyS zs := by rw [hkl]; unfold kyS; rw [HX.out]
            subst hkl2
            have hyc : y = .lit (.int .i64 c) := by
              obtain ⟨c', e1, e2, _⟩ := plainElem_int_inv Try.underlying3 hy
              injection e1 with _ e1
              subst e1
              exact congrArg Prod.fst e2
            have hcc : c = (cntN zs own : Int) := by
              have := (hat (.lit (.int .i64 0))).symm.trans (MH.out.at_ zs HXB.out)
              rw [hyc] at this
              injection this with e
              injection e with _ e
            have hpos : 0 < cntN zs own := (MH.out.pos HXB.out).1 (Maps.has_true_of_atKey hat)
            have HNG := Lib.hid (fun (q : ¬ goodN own zs) => show r = 3 by rw [HRR.out, if_neg (fun h => q (okOwn_good h hpos))])
            have B5 := Lib.hid (BK.out.grown hg5 BK.out.size (fun j hj => by cases hj; exact HRW.out))
            have HGS := Lib.hid (fun (q : goodN own zs) zs' (hz' : Byt zs') (hp' : 0 < cntN zs' own) (hl' : (left (kyS zs') && !(kyS zs').sameKey (kyS zs)) = false) => (by
              cases hl : left (kyS zs') with
              | false => exact HG.out zs' hz' hp' hl
              | true =>
                rw [hl, Bool.true_and] at hl'
                have e := WideAt.sameKey_eq (by simpa using hl' : (kyS zs').sameKey (kyS zs) = true)
                have : zs' = zs := Classical.byContradiction (fun ne => kyS_ne hz' HXB.out ne e)
                exact this ▸ q : goodN own zs'))
            have eM : (x.toList == ({ data := #[58, 109, 101, 116, 104, 111, 100] } : ByteArray).toList) = decide (zs = nmM) := by rw [← HX.out]; exact fl_eqB (ys := nmM) HXB.out (byt_all (by decide))
            have eP : (x.toList == ({ data := #[58, 112, 97, 116, 104] } : ByteArray).toList) = decide (zs = nmP) := by rw [← HX.out]; exact fl_eqB (ys := nmP) HXB.out (byt_all (by decide))
            have eA : (x.toList == ({ data := #[58, 97, 117, 116, 104, 111, 114, 105, 116, 121] } : ByteArray).toList) = decide (zs = nmA) := by rw [← HX.out]; exact fl_eqB (ys := nmA) HXB.out (byt_all (by decide))
            have HLT := Lib.hid hlt5
            have HRG5 := Lib.hid hrg5
            obtain ⟨q, hq⟩ : ∃ q, cntN zs own = q := ⟨_, rfl⟩
            have HQ := Lib.hid hq
            rw [hq] at hcc
            have nM : x.toList = ([58, 109, 101, 116, 104, 111, 100] : List UInt8) ↔ zs = nmM := by rw [← beq_iff_eq, ← decide_eq_true_iff (p := zs = nmM), ← eM, show ({ data := #[58, 109, 101, 116, 104, 111, 100] } : ByteArray).toList = ([58, 109, 101, 116, 104, 111, 100] : List UInt8) by rw [Lib.toList_data]]
            have nP : x.toList = ([58, 112, 97, 116, 104] : List UInt8) ↔ zs = nmP := by rw [← beq_iff_eq, ← decide_eq_true_iff (p := zs = nmP), ← eP, show ({ data := #[58, 112, 97, 116, 104] } : ByteArray).toList = ([58, 112, 97, 116, 104] : List UInt8) by rw [Lib.toList_data]]
            have nA : x.toList = ([58, 97, 117, 116, 104, 111, 114, 105, 116, 121] : List UInt8) ↔ zs = nmA := by rw [← beq_iff_eq, ← decide_eq_true_iff (p := zs = nmA), ← eA, show ({ data := #[58, 97, 117, 116, 104, 111, 114, 105, 116, 121] } : ByteArray).toList = ([58, 97, 117, 116, 104, 111, 114, 105, 116, 121] : List UInt8) by rw [Lib.toList_data]]
            clear eM eP eA hlt5 hg5 hs5 hrg5 hat hlk hyc hkl hq hpos
            subst hcc
            by_cases h1 : (1 : Int) < (q : Int)
            · have HE := Lib.hid (HNG.out (fun k => by have := k.1; rw [HQ.out] at this; omega))
              clear nM nP nA
              go_wp2_with fail
              go_ret
              exact ⟨by rw [HE.out]; rfl, B5.out⟩
            · by_cases hM : zs = nmM
              · have HG5 := Lib.hid (HGS.out ⟨by rw [HQ.out]; omega, .inl hM⟩)
                replace nM := nM.2 hM
                clear nP nA hM
                go_wp2_with fail
                go_roundw
                case rel => exact ⟨_, cnt5, HRG5.out, HG5, B5⟩
                case measure => rw [HRG5.out.left_eq, HRG.out.left_eq]; exact HLT.out
              · replace nM := fun e => hM (nM.1 e)
                by_cases hP : zs = nmP
                · have HG5 := Lib.hid (HGS.out ⟨by rw [HQ.out]; omega, .inr (.inl hP)⟩)
                  replace nP := nP.2 hP
                  clear nA hM hP
                  go_wp2_with fail
                  go_roundw
                  case rel => exact ⟨_, cnt5, HRG5.out, HG5, B5⟩
                  case measure => rw [HRG5.out.left_eq, HRG.out.left_eq]; exact HLT.out
                · replace nP := fun e => hP (nP.1 e)
                  by_cases hA : zs = nmA
                  · have HG5 := Lib.hid (HGS.out ⟨by rw [HQ.out]; omega, .inr (.inr hA)⟩)
                    replace nA := nA.2 hA
                    clear hM hP hA
                    go_wp2_with fail
                    go_roundw
                    case rel => exact ⟨_, cnt5, HRG5.out, HG5, B5⟩
                    case measure => rw [HRG5.out.left_eq, HRG.out.left_eq]; exact HLT.out
                  · replace nA := fun e => hA (nA.1 e)
                    have bM := beq_eq_false_iff_ne.2 nM
                    have bP := beq_eq_false_iff_ne.2 nP
                    have bA := beq_eq_false_iff_ne.2 nA
                    have HE := Lib.hid (HNG.out (fun k => by rcases k.2 with e | e | e; exact hM e; exact hP e; exact hA e))
                    clear hM hP hA nM nP nA
                    go_wp2_with fail
                    go_ret
                    exact ⟨by rw [HE.out]; rfl, B5.out⟩
  · rw [faultRq_bad h0]
    obtain ⟨x, hx⟩ : ∃ x, faultFl l = x := ⟨_, rfl⟩
    rw [hx] at h0 HC ⊢
    have hx0 : (x != 0) = true := by simp; exact h0
    clear h hn hnc hc hwf hm hx hmm
    go_enter Try.func25, Try.ntmps25
    go_wp2_with fail
    refine (HC.out).mono ?_
    rintro e w1 ⟨rfl, b1⟩
    have B1 := Lib.hid b1
    clear b1
    go_wp2_with fail
    go_ret
    exact ⟨rfl, B1.out⟩
end Go.Proofs.Ytpfahdogedchpaa
