/- Several texts in one. -/
import Derived.Test.YtlddbojfikkhfaaGrpP
import Derived.Test.YtlddbojfikkhfaaFdFs
import Derived.Test.YtlddbojfikkhfaaFdTells
import Derived.Test.YtlddbojfikkhfaaFieldsKnownW
import Derived.Test.YtlddbojfikkhfaaGrpG
/- How long what is written can be; the table that came of raw things may be. Nothing of the program's. -/
namespace Go.Proofs.Ytlddbojfikkhfaa.P
set_option linter.unusedVariables false

theorem flat_len (k : Nat) : ∀ ls : List (List Int), (∀ x ∈ ls, x.length ≤ k) → ls.flatten.length ≤ k * ls.length
  | [], _ => by simp
  | x :: ls, h => by
    have h1 := h x (List.mem_cons_self ..)
    have h2 := flat_len k ls (fun y hy => h y (List.mem_cons_of_mem _ hy))
    rw [List.flatten_cons, List.length_append, List.length_cons, Nat.mul_succ]
    omega
theorem lineT_len {need : Int} {f : Fld} {r : Option Int} (hf : FdWf f) (ok : okFd f) (hn : need ≤ 4611686018427387904) (hr : ∀ n, r = some n → 0 ≤ n ∧ n < need) : (lineT need f r).length ≤ 300 := by
  cases r with
  | none =>
    have := (lineP_len (need := need) (n := -1) hf ok (.inl rfl)).2.2
    unfold lineP at this
    rw [if_pos (by omega)] at this
    exact this
  | some n =>
    have h := hr n rfl
    have := (lineP_len (need := need) (n := n) hf ok (.inr ⟨h.1, h.2, hn⟩)).2.2
    unfold lineP at this
    rw [if_neg (by omega)] at this
    exact this
theorem sec_len {t : Tb} {l : List Fld} {ahead : Bool} (h0 : faultTb t = 0) (hl : faultFl l = 0) (hw : ∀ f ∈ l, FdWf f) : (linesT (encAll ahead t l).need l (encAll ahead t l).refs).length ≤ 3000 := by
  obtain ⟨h8, ok⟩ := (faultFl_iff l).1 hl
  have I := encAll_inv h0 ahead l ok
  have hp := ((faultTb_iff _).1 I.f).2.1.2
  have hn0 := I.n0
  have hnp := I.np
  have e : linesT (encAll ahead t l).need l (encAll ahead t l).refs = pxL 0 8 (encAll ahead t l).need ++ ((l.zip (encAll ahead t l).refs).map (fun q => lineT (encAll ahead t l).need q.1 q.2)).flatten := rfl
  have h1 := (pxL_len (pxF_of (first := 0) (wi := 8) (n := (encAll ahead t l).need) (by decide) (by omega) (by decide))).2
  have h2 := flat_len 300 ((l.zip (encAll ahead t l).refs).map (fun q => lineT (encAll ahead t l).need q.1 q.2)) (fun x hx => by
    obtain ⟨q, hq, rfl⟩ := List.mem_map.1 hx
    have hz := List.of_mem_zip (a := q.1) (b := q.2) hq
    refine lineT_len (hw _ hz.1) (ok _ hz.1) (by omega) (fun n hn => ?_)
    obtain ⟨i, hi, he⟩ := List.getElem_of_mem hz.2
    have := I.rs i n (by rw [List.getD_eq_getElem?_getD, List.getElem?_eq_getElem hi, he, hn]; rfl)
    exact ⟨this.1, this.2.1⟩)
  rw [List.length_map, List.length_zip] at h2
  rw [e, List.length_append]
  omega
theorem tell_lenB {ahead : Bool} {t : Tb} {l : List Fld} (hl : faultFl l = 0) (hw : ∀ f ∈ l, FdWf f) : (encAll ahead t l).tell.length ≤ 1600 := by
  obtain ⟨h8, ok⟩ := (faultFl_iff l).1 hl
  have key : ∀ (l : List Fld) (s : EncS), (∀ x ∈ l, FdWf x ∧ okFd x) → (l.foldl (encStep ahead) s).tell.length ≤ s.tell.length + 200 * l.length := by
    intro l
    induction l with
    | nil => intro s _; simp
    | cons x l ih =>
      intro s h
      have h1 := ih (encStep ahead s x) (fun y hy => h y (List.mem_cons_of_mem _ hy))
      have hx := h x (List.mem_cons_self ..)
      have h2 : (encStep ahead s x).tell.length ≤ s.tell.length + 200 := by
        have := (tellT_len hx.1 hx.2).2.2
        unfold encStep
        split
        · exact Nat.le_add_right _ _
        · split
          · exact Nat.le_add_right _ _
          · split
            · simp only [List.length_append]; omega
            · exact Nat.le_add_right _ _
      rw [List.foldl_cons, List.length_cons]
      omega
  have := key l ⟨t, [], [], 0⟩ (fun x hx => ⟨hw x hx, ok x hx⟩)
  have e : (l.foldl (encStep ahead) ⟨t, [], [], 0⟩) = encAll ahead t l := rfl
  rw [e, List.length_nil] at this
  omega
end Go.Proofs.Ytlddbojfikkhfaa.P
/- The walk of FieldsBack. -/
namespace Go.Proofs.Ytlddbojfikkhfaa
set_option linter.unusedVariables false
open Go.RowKit P
theorem tabOf_all {room : Int} {rs : List RawT} {all : List Fld} (hall : all = putL room (fldsOf rs)) : all.length ≤ 12 ∧ ∀ x ∈ all, okFd x ∧ FdWf x := by
  have h1 := putL_len (room := room) (fldsOf rs)
  rw [fldsOf_len] at h1
  refine ⟨by rw [hall]; omega, fun x hx => putL_mem (p := fun x => okFd x ∧ FdWf x) (fldsOf rs) (fldsOf_ok rs) x (hall ▸ hx)⟩
set_option maxRecDepth 100000 in
set_option maxHeartbeats 4000000 in
theorem fieldsBack_walk (a0 : Int) (a1 : Option Addr) (n1 c1 : Nat) (rs1 : List RawT) (a2 : Option Addr) (n2 c2 : Nat) (rs2 : List RawT) (ahead : Bool) (W : World)
    (hrow1 : RawRow W W.heap.size a1 rs1) (hn1 : rs1.length = n1) (hnc1 : n1 ≤ c1) (hc1 : c1 ≤ maxLen) (hbt1 : ∀ i, i < n1 → (rs1.getD i raw0).text.size ≤ maxLen)
    (hrow2 : RawRow W W.heap.size a2 rs2) (hn2 : rs2.length = n2) (hnc2 : n2 ≤ c2) (hc2 : c2 ≤ maxLen) (hbt2 : ∀ i, i < n2 → (rs2.getD i raw0).text.size ≤ maxLen) :
    Calls Try.prog 6 #[.int .i64 a0, .slice a1 n1 c1, .slice a2 n2 c2, .bool ahead] W fun e w' => e = .returned (.bool true) ∧ Below W.heap.size W w' := by
  have HTO := Lib.hid (fun w (hb : Below W.heap.size W w) => tableOf_any tinsN_any tsize_any a0 a1 n1 c1 rs1 w (rawRow_onK hrow1 hb) hn1 hnc1 hc1 hbt1)
  have HFO := Lib.hid (fun w (hb : Below W.heap.size W w) => fieldsOf_any a2 n2 c2 rs2 w (rawRow_onK hrow2 hb) hn2 hnc2 hc2 hbt2)
  have HFT := Lib.hid (fun w => fieldsTell_any w)
  obtain ⟨room, hroom⟩ : ∃ room, 40 + a0 % 121 = room := ⟨_, rfl⟩
  have hrb : 0 ≤ room ∧ room ≤ 160 := by omega
  rw [hroom] at HTO
  have hlw : ∀ f ∈ fsOf rs2, FdWf f := fun f hf => (fsOf_ok rs2 f hf).2
  have hl0 := fsOf_fault rs2
  have hl8 : (fsOf rs2).length ≤ 8 := by rw [fsOf_len]; omega
  obtain ⟨l, hl⟩ : ∃ l, fsOf rs2 = l := ⟨_, rfl⟩
  rw [hl] at HFO hlw hl0 hl8
  obtain ⟨nl, hnl⟩ : ∃ n, l.length = n := ⟨_, rfl⟩
  rw [hnl] at HFO hl8
  clear hroom hrow1 hn1 hnc1 hc1 hbt1 hrow2 hn2 hnc2 hc2 hbt2 hl
  go_enter Try.func6, Try.ntmps6
  go_wp2_with fail
  refine (HTO.out _ (Below.refl _ _)).mono ?_
  rintro e w1 ⟨all, At, Aa, ct, ca, hall, rfl, h1, h2, h3, h4, r1, r2, b1⟩
  obtain ⟨f1, f2⟩ := tabOf_all hall
  have h0 : faultTb (tabF room all) = 0 := (faultTb_iff _).2 (tabF_ok hrb (by omega) (fun f hf => (f2 f hf).1))
  have hTW : TbWf (tabF room all) := tabWf hrb (by omega) (fun x hx => (f2 x hx).2)
  have hv1 : TbVal w1 w1.heap.size (.agg #[.int .i64 room, .int .i64 (all.length : Int), .slice At (young room all).length ct]) (tabF room all) := ⟨_, rfl, At, ct, rfl, h1, h2, r1⟩
  obtain ⟨L, hL⟩ : ∃ L, all.length = L := ⟨_, rfl⟩
  obtain ⟨M, hM⟩ : ∃ M, (young room all).length = M := ⟨_, rfl⟩
  obtain ⟨T, hT⟩ : ∃ T, tabF room all = T := ⟨_, rfl⟩
  rw [hL, hM, hT] at hv1
  rw [hT] at h0 hTW
  rw [hL, hM]
  have X1 := Lib.hid ((Below.refl w1.heap.size w1).alloc (Nat.le_refl _) (.cells #[.int .i64 room, .int .i64 (L : Int), .slice At M ct] 24))
  have F1 := heap_alloc_new w1 (.cells #[.int .i64 room, .int .i64 (L : Int), .slice At M ct] 24)
  have BB1 := b1.trans (X1.out.mono b1.size)
  have VV1 := hv1.on X1.out
  obtain ⟨k1, hk1⟩ : ∃ k, w1.heap.size = k := ⟨_, rfl⟩
  rw [hk1] at F1
  clear b1 hall h1 h2 h3 h4 r1 r2 f1 f2 hv1 hM hT
  go_upto_region 2 with fail
  obtain ⟨w2, hw2⟩ : ∃ w9, w1.alloc (.cells #[.int .i64 room, .int .i64 (L : Int), .slice At M ct] 24) = w9 := ⟨_, rfl⟩
  rw [hw2] at F1 BB1 VV1 ⊢
  have F2 := Lib.hid F1
  have B2 := Lib.hid BB1
  have V2 := Lib.hid VV1
  clear X1 F1 BB1 VV1 hw2 hk1
  go_wp2_with fail
  refine (HFO.out _ B2.out).mono ?_
  rintro e w3 ⟨b3, Al, cl, rfl, s1, s2, rl⟩
  have F3 := Lib.hid ((b3.block _ (lt_of_block F2.out)).trans F2.out)
  have B3 := Lib.hid (B2.out.trans (b3.mono B2.out.size))
  have V3 := Lib.hid (V2.out.on b3)
  have R3 := Lib.hid rl
  have HE := Lib.hid (fdenc_any _ T Al nl cl l ahead w3 V3.out hTW rl hnl hlw (by omega))
  rw [encFl_ok h0 hl0] at HE
  dsimp only at HE
  have hTL := tell_lenB (ahead := ahead) (t := T) hl0 hlw
  have hSL := sec_len (ahead := ahead) h0 hl0 hlw
  have hHE := encFl_heard (ahead := ahead) h0 hl0
  have hDE := encFl_dec (ahead := ahead) h0 hl0
  have hUF := (encAll_inv h0 ahead l ((faultFl_iff l).1 hl0).2).f
  have hTB := tell_byt (ahead := ahead) (t := T) l hlw ((faultFl_iff l).1 hl0).2
  have hUW : TbWf (encAll ahead T l).t := by have := appAll_wf hTW hTB (by omega); rwa [hHE] at this
  obtain ⟨tell, htell⟩ : ∃ x, (encAll ahead T l).tell = x := ⟨_, rfl⟩
  obtain ⟨sec, hsec⟩ : ∃ x, linesT (encAll ahead T l).need l (encAll ahead T l).refs = x := ⟨_, rfl⟩
  obtain ⟨U, hU⟩ : ∃ x, (encAll ahead T l).t = x := ⟨_, rfl⟩
  rw [htell] at HE hTL hHE hTB
  rw [hsec] at HE hSL hDE
  rw [hU] at HE hHE hDE hUW hUF
  have HUR := Lib.hid (show U.rows.length ≤ 8796093022208 from hUW.len)
  have HA := Lib.hid (fun s w v (hv : TbVal w w.heap.size v T) (hs : BSl w w.heap.size s tell) => fdapl_any v s T tell w hv hTW hs (by omega))
  rw [hHE] at HA
  have HD := Lib.hid (fun s w v (hv : TbVal w w.heap.size v U) (hs : BSl w w.heap.size s sec) => fddec_any v s U sec w hv hUW hs (by omega))
  rw [hDE] at HD
  unfold TbRes3 at HA
  unfold FlRes at HD
  dsimp only at HA HD
  obtain ⟨tl, htl⟩ : ∃ n, tell.length = n := ⟨_, rfl⟩
  rw [htl] at HA hTL
  have HNL := Lib.hid hnl
  have HN8 := Lib.hid hl8
  clear b3 rl hTW hlw h0 hl0 hl8 hnl hSL hHE hDE hUF hTB hUW htell hsec hU s1 s2
  obtain ⟨q0, q1, q2⟩ := bk3T F3.out
  go_wp2_with fail
  refine (HE.out).mono ?_
  clear q0 q1 q2
  rintro e w4 ⟨b4, v4, d1, d2, rfl, hv4, hd1, hd2⟩
  obtain ⟨s4, rfl, hs4⟩ := hv4.ex
  obtain ⟨A4, c4, rfl, _, _, ru4⟩ := hs4.ex
  obtain ⟨Ad, cd, rfl, _, _, _, _⟩ := id hd1
  obtain ⟨Ae, ce, rfl, _, _, _, _⟩ := id hd2
  rw [htl] at hd1 ⊢
  obtain ⟨ur, hur⟩ : ∃ x, U.room = x := ⟨_, rfl⟩
  obtain ⟨up, hup⟩ : ∃ x, U.put = x := ⟨_, rfl⟩
  obtain ⟨un, hun⟩ : ∃ x, U.rows.length = x := ⟨_, rfl⟩
  obtain ⟨sn, hsn⟩ : ∃ x, sec.length = x := ⟨_, rfl⟩
  rw [hsn] at hd2 ⊢
  rw [hur, hup, hun] at hv4 ⊢
  rw [hun] at HUR
  have HUN := Lib.hid hun
  have HUr := Lib.hid hur
  have HUp := Lib.hid hup
  have X4 := (Below.refl w4.heap.size w4).alloc (Nat.le_refl _) (.cells #[.int .i64 ur, .int .i64 up, .slice A4 un c4] 24)
  have GG := heap_alloc_new w4 (.cells #[.int .i64 ur, .int .i64 up, .slice A4 un c4] 24)
  have bb := b4.trans (X4.mono b4.size)
  have FF := (bb.block _ (lt_of_block F3.out)).trans F3.out
  have BB := B3.out.trans (bb.mono B3.out.size)
  have VV := V3.out.on bb
  have RR := R3.out.on bb
  have RU := ru4.on X4
  have S1 := bsl_onF hd1 X4
  have S2 := bsl_onF hd2 X4
  obtain ⟨k4, hk4⟩ : ∃ k, w4.heap.size = k := ⟨_, rfl⟩
  rw [hk4] at GG
  clear b4 bb hv4 hs4 hd1 hd2 ru4 X4 hur hup hun htl hsn
  go_upto_region 4 with fail
  obtain ⟨w5, hw5⟩ : ∃ w9, w4.alloc (.cells #[.int .i64 ur, .int .i64 up, .slice A4 un c4] 24) = w9 := ⟨_, rfl⟩
  rw [hw5] at FF GG BB VV RR RU S1 S2 ⊢
  have F5 := Lib.hid FF
  have G5 := Lib.hid GG
  have B5 := Lib.hid BB
  have V5 := Lib.hid VV
  have R5 := Lib.hid RR
  have U5 := Lib.hid RU
  have S5 := Lib.hid S1
  have E5 := Lib.hid S2
  clear hw5 hk4 FF GG BB VV RR RU S1 S2
  obtain ⟨q0, q1, q2⟩ := bk3T F5.out
  go_wp2_with fail
  refine (HA.out _ _ _ V5.out S5.out).mono ?_
  clear q0 q1 q2
  rintro e w6 ⟨b6, v6, rfl, hv6⟩
  obtain ⟨s6, rfl, hs6⟩ := hv6.ex
  obtain ⟨A6, c6, rfl, _, _, ru6⟩ := hs6.ex
  rw [HUr.out, HUp.out, HUN.out] at hv6 ⊢
  have X6 := (Below.refl w6.heap.size w6).alloc (Nat.le_refl _) (.cells #[.int .i64 ur, .int .i64 up, .slice A6 un c6] 24)
  have GG := heap_alloc_new w6 (.cells #[.int .i64 ur, .int .i64 up, .slice A6 un c6] 24)
  have bb := b6.trans (X6.mono b6.size)
  have FF := (bb.block _ (lt_of_block G5.out)).trans G5.out
  have BB := B5.out.trans (bb.mono B5.out.size)
  have RR := R5.out.on bb
  have RU := U5.out.on bb
  have RV := ru6.on X6
  have VV := hv6.on X6
  have S2 := bsl_onF E5.out bb
  obtain ⟨k6, hk6⟩ : ∃ k, w6.heap.size = k := ⟨_, rfl⟩
  rw [hk6] at GG
  clear b6 bb hv6 hs6 ru6 X6
  go_upto_region 5 with fail
  obtain ⟨w7, hw7⟩ : ∃ w9, w6.alloc (.cells #[.int .i64 ur, .int .i64 up, .slice A6 un c6] 24) = w9 := ⟨_, rfl⟩
  rw [hw7] at FF GG BB RR RU RV VV S2 ⊢
  have F7 := Lib.hid FF
  have G7 := Lib.hid GG
  have B7 := Lib.hid BB
  have R7 := Lib.hid RR
  have U7 := Lib.hid RU
  have W7 := Lib.hid RV
  have V7 := Lib.hid VV
  have E7 := Lib.hid S2
  clear hw7 hk6 FF GG BB RR RU RV VV S2
  obtain ⟨q0, q1, q2⟩ := bk3T G7.out
  go_wp2_with fail
  refine (HD.out _ _ _ V7.out E7.out).mono ?_
  clear q0 q1 q2
  rintro e w8 ⟨b8, v8, rfl, h8⟩
  obtain ⟨A8, c8, rfl, _, _, r8⟩ := h8.ex
  rw [HNL.out]
  have F8 := Lib.hid ((b8.block _ (lt_of_block F7.out)).trans F7.out)
  have G8 := Lib.hid ((b8.block _ (lt_of_block G7.out)).trans G7.out)
  have B8 := Lib.hid (B7.out.trans (b8.mono B7.out.size))
  have R8 := Lib.hid (R7.out.on b8)
  have U8 := Lib.hid (U7.out.on b8)
  have W8 := Lib.hid (W7.out.on b8)
  have Q8 := Lib.hid r8
  clear b8 h8 r8
  go_wp2_with fail
  refine (HFT.out _).mono ?_
  rintro e w9 ⟨rfl, b9⟩
  have F9 := Lib.hid ((b9.block _ (lt_of_block F8.out)).trans F8.out)
  have G9 := Lib.hid ((b9.block _ (lt_of_block G8.out)).trans G8.out)
  have B9 := Lib.hid (B8.out.trans (b9.mono B8.out.size))
  have R9 := Lib.hid (R8.out.on b9)
  have U9 := Lib.hid (U8.out.on b9)
  have W9 := Lib.hid (W8.out.on b9)
  have Q9 := Lib.hid (Q8.out.on b9)
  clear b9
  obtain ⟨q0, q1, q2⟩ := bk3T F9.out
  obtain ⟨z0, z1, z2⟩ := bk3T G9.out
  go_wp2_with fail
  refine (ksameFd_eq _ _ un _ _ U.rows _ U9.out W9.out HUN.out HUR.out).mono ?_
  clear q0 q1 q2 z0 z1 z2
  rintro e w10 ⟨rfl, b10⟩
  have B10 := Lib.hid (B9.out.trans (b10.mono B9.out.size))
  have R10 := Lib.hid (R9.out.on b10)
  have Q10 := Lib.hid (Q9.out.on b10)
  clear b10
  go_wp2_with fail
  refine (ksameFd_eq _ _ nl _ _ l _ Q10.out R10.out HNL.out (by have := HN8.out; omega)).mono ?_
  rintro e w11 ⟨rfl, b11⟩
  have B11 := Lib.hid (B10.out.trans (b11.mono B10.out.size))
  clear b11
  go_wp2_with fail
  go_ret
  exact ⟨by first | rfl | simp, B11.out⟩
end Go.Proofs.Ytlddbojfikkhfaa
/- The walk of FieldsWait. -/
namespace Go.Proofs.Ytlddbojfikkhfaa
set_option linter.unusedVariables false
open Go.RowKit P
theorem bsl_take {w : World} {B : Nat} {A : Option Addr} {n c : Nat} {b : List Int} (h : BSl w B (.slice A n c) b) (k : Nat) (hk : k ≤ b.length) : BSl w B (.slice A k c) (b.take k) := by
  obtain ⟨A', c', e, h1, h2, h3, h4⟩ := h.ex
  cases e
  exact ⟨_, _, by rw [List.length_take, Nat.min_eq_left hk], by rw [List.length_take]; omega, h2, h3, h4.take k⟩
structure FwA (w0 : World) (room : Int) (L : Nat) (At : Option Addr) (M ct : Nat) (Ad : Option Addr) (tl cd K n : Nat) (T2 : Tb) (V0 V1 V2 V3 V7 V8 V11 V12 : Value) (sb0 sb1 sb2 sb3 sb4 sb5 sb6 sb7 sb8 sb9 sb10 sb11 sb12 : Bool) (sx0 sx1 sx2 sx3 sx4 sx5 sx6 sx7 sx8 sx9 sx10 sx11 sx12 : Value) (w : World) : Prop where
  be : sb10 = false → Below w0.heap.size w0 w
  d3 : sb3 = true → sb1 = true ∧ sb2 = true
  d4 : sb4 = true → sb0 = true ∧ sb3 = true
  d5 : sb5 = true → sb4 = true
  d6 : sb6 = true → sb5 = true
  d7 : sb7 = true → sb5 = true
  d8 : sb8 = true → sb5 = true
  d10 : sb10 = true → sb0 = true ∧ sb1 = true ∧ sb2 = true ∧ sb3 = true ∧ sb4 = true ∧ sb5 = true ∧ sb6 = true ∧ sb9 = true
  d11 : sb11 = true → sb0 = true ∧ sb1 = true ∧ sb2 = true ∧ sb3 = true ∧ sb4 = true ∧ sb5 = true ∧ sb6 = true ∧ sb7 = true ∧ sb9 = true ∧ sb10 = true
  d12 : sb12 = true → sb0 = true ∧ sb1 = true ∧ sb2 = true ∧ sb3 = true ∧ sb4 = true ∧ sb5 = true ∧ sb6 = true ∧ sb7 = true ∧ sb8 = true ∧ sb9 = true ∧ sb10 = true ∧ sb11 = true
  t4 : sb4 = true → ∃ u, sx4 = .tuple #[u, .int .i64 (n : Int), .int .i64 0]
  t5 : sb5 = true → ∃ u, sx5 = .tuple #[u, .int .i64 (n : Int), .int .i64 0]
  h0 : sb0 = true → sx0 = V0
  h1 : sb1 = true → sx1 = V1
  h2 : sb2 = true → sx2 = V2
  h3 : sb3 = true → sx3 = V3
  h4 : sb4 = true → sb10 = false → ∃ u, sx4 = .tuple #[u, .int .i64 (n : Int), .int .i64 0] ∧ TbVal w w.heap.size u T2
  h5 : sb5 = true → sb10 = false → ∃ u, sx5 = .tuple #[u, .int .i64 (n : Int), .int .i64 0] ∧ TbVal w w.heap.size u T2
  h6 : sb6 = true → sb10 = false → TbVal w w.heap.size sx6 T2
  h7 : sb7 = true → sx7 = V7
  h8 : sb8 = true → sx8 = V8
  h9 : sb9 = true → sb10 = false → ∃ q, sx9 = .pointer (some ⟨q, 0, none⟩) ∧ w0.heap.size ≤ q ∧ w.heap[q]? = some (.cells #[.int .i64 0, .int .i64 0, .slice none 0 0] 24 (0, 0))
  h10 : sb10 = true → ∃ q A n c r p, sx9 = .pointer (some ⟨q, 0, none⟩) ∧ w0.heap.size ≤ q ∧ w.heap[q]? = some (.cells #[.int .i64 r, .int .i64 p, .slice A n c] 24 (0, 0)) ∧ TbVal w w.heap.size (.agg #[.int .i64 r, .int .i64 p, .slice A n c]) T2 ∧ Below w0.heap.size w0 w
  h11 : sb11 = true → sx11 = V11
  h12 : sb12 = true → sx12 = V12
structure FwB (w0 : World) (r9 p9 : Int) (A9 : Option Addr) (n9 c9 : Nat) (Ad SA : Option Addr) (tl cd n m : Nat) (U : Tb) (V0 V1 V2 V3 V7 V8 V11 V12 : Value) (tb0 tb1 tb2 tb3 tb4 tb5 tb6 tb7 tb8 tb9 tb10 tb11 tb12 : Bool) (tx0 tx1 tx2 tx3 tx4 tx5 tx6 tx7 tx8 tx9 tx10 tx11 tx12 : Value) (w : World) : Prop where
  be : tb10 = false → Below w0.heap.size w0 w
  d3 : tb3 = true → tb1 = true ∧ tb2 = true
  d4 : tb4 = true → tb0 = true ∧ tb3 = true
  d5 : tb5 = true → tb4 = true
  d6 : tb6 = true → tb5 = true
  d7 : tb7 = true → tb5 = true
  d8 : tb8 = true → tb5 = true
  d10 : tb10 = true → tb0 = true ∧ tb1 = true ∧ tb2 = true ∧ tb3 = true ∧ tb4 = true ∧ tb5 = true ∧ tb6 = true ∧ tb9 = true
  d11 : tb11 = true → tb0 = true ∧ tb1 = true ∧ tb2 = true ∧ tb3 = true ∧ tb4 = true ∧ tb5 = true ∧ tb6 = true ∧ tb7 = true ∧ tb9 = true ∧ tb10 = true
  d12 : tb12 = true → tb0 = true ∧ tb1 = true ∧ tb2 = true ∧ tb3 = true ∧ tb4 = true ∧ tb5 = true ∧ tb6 = true ∧ tb7 = true ∧ tb8 = true ∧ tb9 = true ∧ tb10 = true ∧ tb11 = true
  t4 : tb4 = true → ∃ u, tx4 = .tuple #[u, .int .i64 (m : Int), .int .i64 0]
  t5 : tb5 = true → ∃ u, tx5 = .tuple #[u, .int .i64 (m : Int), .int .i64 0]
  h0 : tb0 = true → tx0 = V0
  h1 : tb1 = true → tx1 = V1
  h2 : tb2 = true → tx2 = V2
  h3 : tb3 = true → tx3 = V3
  h4 : tb4 = true → tb10 = false → ∃ u, tx4 = .tuple #[u, .int .i64 (m : Int), .int .i64 0] ∧ TbVal w w.heap.size u U
  h5 : tb5 = true → tb10 = false → ∃ u, tx5 = .tuple #[u, .int .i64 (m : Int), .int .i64 0] ∧ TbVal w w.heap.size u U
  h6 : tb6 = true → tb10 = false → TbVal w w.heap.size tx6 U
  h7 : tb7 = true → tx7 = V7
  h8 : tb8 = true → tx8 = V8
  h9 : tb9 = true → tb10 = false → ∃ q, tx9 = .pointer (some ⟨q, 0, none⟩) ∧ w0.heap.size ≤ q ∧ w.heap[q]? = some (.cells #[.int .i64 0, .int .i64 0, .slice none 0 0] 24 (0, 0))
  h10 : tb10 = true → ∃ q A n c r p, tx9 = .pointer (some ⟨q, 0, none⟩) ∧ w0.heap.size ≤ q ∧ w.heap[q]? = some (.cells #[.int .i64 r, .int .i64 p, .slice A n c] 24 (0, 0)) ∧ TbVal w w.heap.size (.agg #[.int .i64 r, .int .i64 p, .slice A n c]) U ∧ Below w0.heap.size w0 w
  h11 : tb11 = true → tx11 = V11
  h12 : tb12 = true → tx12 = V12
set_option maxRecDepth 100000 in
set_option maxHeartbeats 8000000 in
theorem fieldsWait_walk (a0 : Int) (a1 : Option Addr) (n1 c1 : Nat) (rs1 : List RawT) (a2 : Option Addr) (n2 c2 : Nat) (rs2 : List RawT) (a3 : Int) (W : World)
    (hrow1 : RawRow W W.heap.size a1 rs1) (hn1 : rs1.length = n1) (hnc1 : n1 ≤ c1) (hc1 : c1 ≤ maxLen) (hbt1 : ∀ i, i < n1 → (rs1.getD i raw0).text.size ≤ maxLen)
    (hrow2 : RawRow W W.heap.size a2 rs2) (hn2 : rs2.length = n2) (hnc2 : n2 ≤ c2) (hc2 : c2 ≤ maxLen) (hbt2 : ∀ i, i < n2 → (rs2.getD i raw0).text.size ≤ maxLen) :
    Calls Try.prog 7 #[.int .i64 a0, .slice a1 n1 c1, .slice a2 n2 c2, .int .i64 a3] W fun e w' => e = .returned (.bool true) ∧ Below W.heap.size W w' := by
  have HTO := Lib.hid (fun w (hb : Below W.heap.size W w) => tableOf_any tinsN_any tsize_any a0 a1 n1 c1 rs1 w (rawRow_onK hrow1 hb) hn1 hnc1 hc1 hbt1)
  have HFO := Lib.hid (fun w (hb : Below W.heap.size W w) => fieldsOf_any a2 n2 c2 rs2 w (rawRow_onK hrow2 hb) hn2 hnc2 hc2 hbt2)
  have HFT := Lib.hid (fun w => fieldsTell_any w)
  obtain ⟨room, hroom⟩ : ∃ room, 40 + a0 % 121 = room := ⟨_, rfl⟩
  have hrb : 0 ≤ room ∧ room ≤ 160 := by omega
  rw [hroom] at HTO
  have hlw : ∀ f ∈ fsOf rs2, FdWf f := fun f hf => (fsOf_ok rs2 f hf).2
  have hl0 := fsOf_fault rs2
  have hl8 : (fsOf rs2).length ≤ 8 := by rw [fsOf_len]; omega
  obtain ⟨l, hl⟩ : ∃ l, fsOf rs2 = l := ⟨_, rfl⟩
  rw [hl] at HFO hlw hl0 hl8
  obtain ⟨nl, hnl⟩ : ∃ n, l.length = n := ⟨_, rfl⟩
  rw [hnl] at HFO hl8
  clear hroom hrow1 hn1 hnc1 hc1 hbt1 hrow2 hn2 hnc2 hc2 hbt2 hl
  go_enter Try.func7, Try.ntmps7
  go_wp2_with fail
  refine (HTO.out _ (Below.refl _ _)).mono ?_
  rintro e w1 ⟨all, At, Aa, ct, ca, hall, rfl, h1, h2, h3, h4, r1, r2, b1⟩
  obtain ⟨f1, f2⟩ := tabOf_all hall
  have h0 : faultTb (tabF room all) = 0 := (faultTb_iff _).2 (tabF_ok hrb (by omega) (fun f hf => (f2 f hf).1))
  have hTW : TbWf (tabF room all) := tabWf hrb (by omega) (fun x hx => (f2 x hx).2)
  have hv1 : TbVal w1 w1.heap.size (.agg #[.int .i64 room, .int .i64 (all.length : Int), .slice At (young room all).length ct]) (tabF room all) := ⟨_, rfl, At, ct, rfl, h1, h2, r1⟩
  obtain ⟨L, hL⟩ : ∃ L, all.length = L := ⟨_, rfl⟩
  obtain ⟨M, hM⟩ : ∃ M, (young room all).length = M := ⟨_, rfl⟩
  obtain ⟨T, hT⟩ : ∃ T, tabF room all = T := ⟨_, rfl⟩
  rw [hL, hM, hT] at hv1
  rw [hT] at h0 hTW
  rw [hL, hM]
  have X1 := Lib.hid ((Below.refl w1.heap.size w1).alloc (Nat.le_refl _) (.cells #[.int .i64 room, .int .i64 (L : Int), .slice At M ct] 24))
  have F1 := heap_alloc_new w1 (.cells #[.int .i64 room, .int .i64 (L : Int), .slice At M ct] 24)
  have BB1 := b1.trans (X1.out.mono b1.size)
  have VV1 := hv1.on X1.out
  obtain ⟨k1, hk1⟩ : ∃ k, w1.heap.size = k := ⟨_, rfl⟩
  rw [hk1] at F1
  clear b1 hall h1 h2 h3 h4 r1 r2 f1 f2 hv1 hM hT
  go_upto_region 2 with fail
  obtain ⟨w2, hw2⟩ : ∃ w9, w1.alloc (.cells #[.int .i64 room, .int .i64 (L : Int), .slice At M ct] 24) = w9 := ⟨_, rfl⟩
  rw [hw2] at F1 BB1 VV1 ⊢
  have F2 := Lib.hid F1
  have B2 := Lib.hid BB1
  have V2 := Lib.hid VV1
  clear X1 F1 BB1 VV1 hw2 hk1
  go_wp2_with fail
  refine (HFO.out _ B2.out).mono ?_
  rintro e w3 ⟨b3, Al, cl, rfl, s1, s2, rl⟩
  have F3 := Lib.hid ((b3.block _ (lt_of_block F2.out)).trans F2.out)
  have B3 := Lib.hid (B2.out.trans (b3.mono B2.out.size))
  have V3 := Lib.hid (V2.out.on b3)
  have R3 := Lib.hid rl
  have HE := Lib.hid (fdenc_any _ T Al nl cl l true w3 V3.out hTW rl hnl hlw (by omega))
  rw [encFl_ok h0 hl0] at HE
  dsimp only at HE
  have hTL := tell_lenB (ahead := true) (t := T) hl0 hlw
  have hSL := sec_len (ahead := true) h0 hl0 hlw
  have hHE := encFl_heard (ahead := true) h0 hl0
  obtain ⟨hW1, hW2, hW3⟩ := encFl_wait (ahead := true) h0 hl0
  have hCU := encFl_cut (ahead := true) h0 hl0
  have hUF := (encAll_inv h0 true l ((faultFl_iff l).1 hl0).2).f
  have hTB := tell_byt (ahead := true) (t := T) l hlw ((faultFl_iff l).1 hl0).2
  have hUW : TbWf (encAll true T l).t := by have := appAll_wf hTW hTB (by omega); rwa [hHE] at this
  obtain ⟨tell, htell⟩ : ∃ x, (encAll true T l).tell = x := ⟨_, rfl⟩
  obtain ⟨sec, hsec⟩ : ∃ x, linesT (encAll true T l).need l (encAll true T l).refs = x := ⟨_, rfl⟩
  obtain ⟨U, hU⟩ : ∃ x, (encAll true T l).t = x := ⟨_, rfl⟩
  rw [htell] at HE hTL hHE hTB hCU
  rw [hsec] at HE hSL hW2 hW3
  rw [hU] at HE hHE hW1 hW2 hW3 hUW hUF hCU
  have HUR := Lib.hid (show U.rows.length ≤ 8796093022208 from hUW.len)
  have HD := Lib.hid (fun s w v (hv : TbVal w w.heap.size v T) (hs : BSl w w.heap.size s sec) => fddec_any v s T sec w hv hTW hs (by omega))
  have hTWH := Lib.hid hTW
  obtain ⟨⟨got, g⟩, hg⟩ : ∃ r, decFl T sec = r := ⟨_, rfl⟩
  rw [hg] at hW2 hW3
  have HD := Lib.hid (fun s w v hv hs => hg ▸ HD.out s w v hv hs)
  unfold FlRes at HD
  dsimp only at HD
  have HG := Lib.hid hg
  clear hg
  obtain ⟨tl, htl⟩ : ∃ n, tell.length = n := ⟨_, rfl⟩
  rw [htl] at hTL hCU
  have HTL := Lib.hid htl
  obtain ⟨K, hK⟩ : ∃ k : Nat, a3 % ((tl : Int) + 1) = k := ⟨(a3 % ((tl : Int) + 1)).toNat, by have := Int.emod_nonneg a3 (show ((tl : Int) + 1) ≠ 0 by omega); omega⟩
  have hKt : K ≤ tl := by have := Int.emod_lt_of_pos a3 (show (0 : Int) < (tl : Int) + 1 by omega); omega
  have HPK := Lib.hid (fun w => hK ▸ picked_any a3 ((tl : Int) + 1) (by omega) (by omega) w)
  obtain ⟨T2, n, hcu1, hnK, hnt, hcu2⟩ := hCU K
  have HCU1 := Lib.hid hcu1
  have HCU2 := Lib.hid hcu2
  have HTLB := Lib.hid hTL
  have hT2W : TbWf T2 := by have := appAll_wf hTW (hTB.take K) (by rw [List.length_take]; omega); rwa [hcu1] at this
  have HT2W := Lib.hid hT2W
  have HW1 := Lib.hid hW1
  have HW2 := Lib.hid hW2
  have HW3 := Lib.hid hW3
  have HNL := Lib.hid hnl
  have HN8 := Lib.hid hl8
  clear b3 rl hTW hlw h0 hl0 hl8 hnl hSL hHE hUF hTB hUW htell hsec hU s1 s2 hCU hcu1 hcu2 hT2W hW1 hW2 hW3 hK
  obtain ⟨q0, q1, q2⟩ := bk3T F3.out
  go_wp2_with fail
  refine (HE.out).mono ?_
  clear q0 q1 q2
  rintro e w4 ⟨b4, v4, d1, d2, rfl, hv4, hd1, hd2⟩
  obtain ⟨s4, rfl, hs4⟩ := hv4.ex
  obtain ⟨A4, c4, rfl, _, _, ru4⟩ := hs4.ex
  obtain ⟨Ad, cd, rfl, _, _, _, _⟩ := id hd1
  obtain ⟨Ae, ce, rfl, _, _, _, _⟩ := id hd2
  rw [htl] at hd1 ⊢
  obtain ⟨ur, hur⟩ : ∃ x, U.room = x := ⟨_, rfl⟩
  obtain ⟨up, hup⟩ : ∃ x, U.put = x := ⟨_, rfl⟩
  obtain ⟨un, hun⟩ : ∃ x, U.rows.length = x := ⟨_, rfl⟩
  obtain ⟨sn, hsn⟩ : ∃ x, sec.length = x := ⟨_, rfl⟩
  rw [hsn] at hd2 ⊢
  rw [hur, hup, hun] at hv4 ⊢
  rw [hun] at HUR
  have HUN := Lib.hid hun
  have HUr := Lib.hid hur
  have HUp := Lib.hid hup
  have X4 := (Below.refl w4.heap.size w4).alloc (Nat.le_refl _) (.cells #[.int .i64 ur, .int .i64 up, .slice A4 un c4] 24)
  have GG := heap_alloc_new w4 (.cells #[.int .i64 ur, .int .i64 up, .slice A4 un c4] 24)
  have bb := b4.trans (X4.mono b4.size)
  have FF := (bb.block _ (lt_of_block F3.out)).trans F3.out
  have BB := B3.out.trans (bb.mono B3.out.size)
  have VV := V3.out.on bb
  have RR := R3.out.on bb
  have RU := ru4.on X4
  have S1 := bsl_onF hd1 X4
  have S2 := bsl_onF hd2 X4
  obtain ⟨k4, hk4⟩ : ∃ k, w4.heap.size = k := ⟨_, rfl⟩
  rw [hk4] at GG
  clear b4 bb hv4 hs4 hd1 hd2 ru4 X4 hur hup hun htl hsn
  go_upto_region 4 with fail
  obtain ⟨w5, hw5⟩ : ∃ w9, w4.alloc (.cells #[.int .i64 ur, .int .i64 up, .slice A4 un c4] 24) = w9 := ⟨_, rfl⟩
  rw [hw5] at FF GG BB VV RR RU S1 S2 ⊢
  have F5 := Lib.hid FF
  have G5 := Lib.hid GG
  have B5 := Lib.hid BB
  have V5 := Lib.hid VV
  have R5 := Lib.hid RR
  have U5 := Lib.hid RU
  have S5 := Lib.hid S1
  have E5 := Lib.hid S2
  clear hw5 hk4 FF GG BB VV RR RU S1 S2
  obtain ⟨q0, q1, q2⟩ := bk3T F5.out
  go_wp2_with fail
  refine (HD.out _ _ _ V5.out E5.out).mono ?_
  clear q0 q1 q2
  rintro e w6 ⟨b6, v6, rfl, h6⟩
  obtain ⟨A8, c8, rfl, _, _, r8⟩ := h6.ex
  have F6 := Lib.hid ((b6.block _ (lt_of_block F5.out)).trans F5.out)
  have G6 := Lib.hid ((b6.block _ (lt_of_block G5.out)).trans G5.out)
  have B6 := Lib.hid (B5.out.trans (b6.mono B5.out.size))
  have V6 := Lib.hid (V5.out.on b6)
  have R6 := Lib.hid (R5.out.on b6)
  have U6 := Lib.hid (U5.out.on b6)
  have S6 := Lib.hid (bsl_onF S5.out b6)
  have Q6 := Lib.hid r8
  clear b6 h6 r8
  have HA1 := Lib.hid (fun w (hb : Below w6.heap.size w6 w) => fdapl_any _ _ T _ w (V6.out.on hb) hTWH.out (bsl_onF (bsl_take S6.out K (by rw [HTL.out]; exact hKt)) hb) (by rw [List.length_take, HTL.out]; have := HTLB.out; omega))
  rw [HCU1.out] at HA1
  unfold TbRes3 at HA1
  dsimp only at HA1
  have hcd : tl ≤ cd := by
    obtain ⟨_, _, e0, hcd0, _, _, _⟩ := S6.out.ex
    injection e0 with e1 e2 e3
    rw [HTL.out] at hcd0
    omega
  have HKI := Lib.hid (show (0 : Int) ≤ (K : Int) ∧ (K : Int) ≤ (cd : Int) ∧ (K : Int) ≤ (tl : Int) by omega)
  have hwr : IntKind.i64.wrap ((tl : Int) + 1) = (tl : Int) + 1 := by rw [IntKind.wrap_i64]; have := HTLB.out; omega
  go_upto_region 6 with (go_at_call 26; refine (HPK.out _).mono ?_; rintro e w' ⟨rfl, rfl⟩)
  refine wp_region_inv (fun lis_ act_ wld_ => ∃ (sb0 sb1 sb2 sb3 sb4 sb5 sb6 sb7 sb8 sb9 sb10 sb11 sb12 : Bool) (sx0 sx1 sx2 sx3 sx4 sx5 sx6 sx7 sx8 sx9 sx10 sx11 sx12 : Value), lis_ = #[sb0, sb1, sb2, sb3, sb4, sb5, sb6, sb7, sb8, sb9, sb10, sb11, sb12] ∧ act_ = { tmps := #[Value.int IntKind.i64 a0, Value.slice a1 n1 c1, Value.slice a2 n2 c2, Value.int IntKind.i64 a3, undef, undef, undef, undef, Value.bool false, Value.pointer (some { block := k1, off := 0 }), Value.slice Aa L ca, Value.bool true, Value.slice Al nl cl, Value.pointer (some { block := k4, off := 0 }), Value.slice Ad tl cd, Value.slice Ae sn ce, Value.int IntKind.i64 0, Value.slice A8 got.length c8, Value.int IntKind.i64 g, Value.int IntKind.i64 ↑K, sx9, sx11, sx12, undef, undef, undef, Value.tuple #[Value.agg #[Value.int IntKind.i64 room, Value.int IntKind.i64 ↑L, Value.slice At M ct], Value.slice Aa L ca, Value.bool true], Value.int IntKind.i64 a0, Value.slice a1 n1 c1, Value.tuple #[Value.agg #[Value.int IntKind.i64 room, Value.int IntKind.i64 ↑L, Value.slice At M ct], Value.slice Aa L ca, Value.bool true], Value.agg #[Value.int IntKind.i64 room, Value.int IntKind.i64 ↑L, Value.slice At M ct], Value.slice Aa L ca, Value.bool true, Value.slice a2 n2 c2, Value.slice Al nl cl, Value.tuple #[Value.agg #[Value.int IntKind.i64 ur, Value.int IntKind.i64 up, Value.slice A4 un c4], Value.slice Ad tl cd, Value.slice Ae sn ce, Value.int IntKind.i64 0], Value.agg #[Value.int IntKind.i64 room, Value.int IntKind.i64 ↑L, Value.slice At M ct], Value.slice Al nl cl, Value.tuple #[Value.agg #[Value.int IntKind.i64 ur, Value.int IntKind.i64 up, Value.slice A4 un c4], Value.slice Ad tl cd, Value.slice Ae sn ce, Value.int IntKind.i64 0], Value.agg #[Value.int IntKind.i64 ur, Value.int IntKind.i64 up, Value.slice A4 un c4], Value.slice Ad tl cd, Value.slice Ae sn ce, Value.int IntKind.i64 0, Value.tuple #[Value.slice A8 got.length c8, Value.int IntKind.i64 g], Value.agg #[Value.int IntKind.i64 room, Value.int IntKind.i64 ↑L, Value.slice At M ct], Value.slice Ae sn ce, Value.tuple #[Value.slice A8 got.length c8, Value.int IntKind.i64 g], Value.slice A8 got.length c8, Value.int IntKind.i64 g, Value.int IntKind.i64 a3, Value.slice Ad tl cd, Value.int IntKind.i64 ↑tl, Value.int IntKind.i64 (↑tl + 1), Value.int IntKind.i64 ↑K, sx5, sx0, sx1, sx2, sx3, sx4, sx6, sx7, sx8, undef, undef, undef, undef, undef, undef, undef, undef, undef, undef, undef, undef, undef, undef, undef, undef, undef, undef, undef, undef, undef, undef, undef, undef, undef, undef, undef, undef, undef, undef, undef, undef, undef, undef, undef, undef, undef, undef, undef, undef, undef, undef, undef, undef, undef, undef, undef, undef, undef, undef, undef, undef, undef, undef, undef, undef, undef, undef, undef, undef, undef, undef, undef, undef, undef, undef, undef, undef, undef, undef, undef, undef, undef, undef, undef, undef, undef], defers := [] } ∧ FwA w6 room L At M ct Ad tl cd K n T2 (.agg #[.int .i64 room, .int .i64 (L : Int), .slice At M ct]) (.slice Ad tl cd) (.int .i64 (K : Int)) (.slice Ad K cd) (.int .i64 (n : Int)) (.int .i64 0) (.int .i64 (n : Int)) (.int .i64 0) sb0 sb1 sb2 sb3 sb4 sb5 sb6 sb7 sb8 sb9 sb10 sb11 sb12 sx0 sx1 sx2 sx3 sx4 sx5 sx6 sx7 sx8 sx9 sx10 sx11 sx12 wld_) (by kernel_rfl) ?h0 ?hfin ?hI
  case h0 => exact ⟨_, _, _, _, _, _, _, _, _, _, _, _, _, _, _, _, _, _, _, _, _, _, _, undef, _, _, rfl, rfl, ⟨(fun _ => (Below.refl _ _).drew), (fun h => by cases h), (fun h => by cases h), (fun h => by cases h), (fun h => by cases h), (fun h => by cases h), (fun h => by cases h), (fun h => by cases h), (fun h => by cases h), (fun h => by cases h), (fun h => by cases h), (fun h => by cases h), (fun h => by cases h), (fun h => by cases h), (fun h => by cases h), (fun h => by cases h), (fun h => by cases h), (fun h => by cases h), (fun h => by cases h), (fun h => by cases h), (fun h => by cases h), (fun h => by cases h), (fun h => by cases h), (fun h => by cases h), (fun h => by cases h)⟩⟩
  case hI =>
    rintro listed a w ⟨sb0, sb1, sb2, sb3, sb4, sb5, sb6, sb7, sb8, sb9, sb10, sb11, sb12, sx0, sx1, sx2, sx3, sx4, sx5, sx6, sx7, sx8, sx9, sx10, sx11, sx12, rfl, rfl, H⟩ i hi
    obtain ⟨hun, oj, hoj, hall⟩ := mem_ready.1 hi
    clear hi
    rcases i with _ | _ | _ | _ | _ | _ | _ | _ | _ | _ | _ | _ | _ | i
    · have ho := hoj
      simp only [List.getElem?_toArray, List.getElem?_cons_zero, Option.some.injEq] at hoj
      subst hoj
      obtain rfl : sb0 = false := hun
      clear hall
      obtain rfl : sb4 = false := Bool.eq_false_iff.2 fun h => Bool.false_ne_true (H.d4 h).1
      obtain rfl : sb5 = false := Bool.eq_false_iff.2 fun h => Bool.false_ne_true (H.d5 h)
      obtain rfl : sb6 = false := Bool.eq_false_iff.2 fun h => Bool.false_ne_true (H.d6 h)
      obtain rfl : sb7 = false := Bool.eq_false_iff.2 fun h => Bool.false_ne_true (H.d7 h)
      obtain rfl : sb8 = false := Bool.eq_false_iff.2 fun h => Bool.false_ne_true (H.d8 h)
      obtain rfl : sb10 = false := Bool.eq_false_iff.2 fun h => Bool.false_ne_true (H.d10 h).1
      obtain rfl : sb11 = false := Bool.eq_false_iff.2 fun h => Bool.false_ne_true (H.d11 h).1
      obtain rfl : sb12 = false := Bool.eq_false_iff.2 fun h => Bool.false_ne_true (H.d12 h).1
      have hbe := H.be rfl
      have hx_t4 := H.t4
      have hx_t5 := H.t5
      obtain ⟨q0, q1, q2⟩ := bk3T ((hbe.block _ (lt_of_block F6.out)).trans F6.out)
      refine wpOp_step ho (fun K' hK => ?_)
      have HK := Lib.hid hK
      clear hK ho
      go_simp
      exact HK.out _ _ ⟨_, _, _, _, _, _, _, _, _, _, _, _, _, _, _, _, _, _, _, _, _, _, _, sx10, _, _, rfl, rfl, ⟨(fun _ => hbe), H.d3, (fun h => by cases h), H.d5, H.d6, H.d7, H.d8, (fun h => by cases h), (fun h => by cases h), (fun h => by cases h), H.t4, H.t5, (fun _ => rfl), H.h1, H.h2, H.h3, (fun h => by cases h), (fun h => by cases h), (fun h => by cases h), H.h7, H.h8, H.h9, (fun h => by cases h), H.h11, H.h12⟩⟩
    · have ho := hoj
      simp only [List.getElem?_toArray, List.getElem?_cons_succ, List.getElem?_cons_zero, Option.some.injEq] at hoj
      subst hoj
      obtain rfl : sb1 = false := hun
      clear hall
      obtain rfl : sb3 = false := Bool.eq_false_iff.2 fun h => Bool.false_ne_true (H.d3 h).1
      obtain rfl : sb4 = false := Bool.eq_false_iff.2 fun h => Bool.false_ne_true (H.d4 h).2
      obtain rfl : sb5 = false := Bool.eq_false_iff.2 fun h => Bool.false_ne_true (H.d5 h)
      obtain rfl : sb6 = false := Bool.eq_false_iff.2 fun h => Bool.false_ne_true (H.d6 h)
      obtain rfl : sb7 = false := Bool.eq_false_iff.2 fun h => Bool.false_ne_true (H.d7 h)
      obtain rfl : sb8 = false := Bool.eq_false_iff.2 fun h => Bool.false_ne_true (H.d8 h)
      obtain rfl : sb10 = false := Bool.eq_false_iff.2 fun h => Bool.false_ne_true (H.d10 h).2.1
      obtain rfl : sb11 = false := Bool.eq_false_iff.2 fun h => Bool.false_ne_true (H.d11 h).2.1
      obtain rfl : sb12 = false := Bool.eq_false_iff.2 fun h => Bool.false_ne_true (H.d12 h).2.1
      have hbe := H.be rfl
      have hx_t4 := H.t4
      have hx_t5 := H.t5
      refine wpOp_step ho (fun K' hK => ?_)
      have HK := Lib.hid hK
      clear hK ho
      go_simp
      exact HK.out _ _ ⟨_, _, _, _, _, _, _, _, _, _, _, _, _, _, _, _, _, _, _, _, _, _, _, sx10, _, _, rfl, rfl, ⟨(fun _ => hbe), (fun h => by cases h), H.d4, H.d5, H.d6, H.d7, H.d8, (fun h => by cases h), (fun h => by cases h), (fun h => by cases h), H.t4, H.t5, H.h0, (fun _ => rfl), H.h2, H.h3, (fun h => by cases h), (fun h => by cases h), (fun h => by cases h), H.h7, H.h8, H.h9, (fun h => by cases h), H.h11, H.h12⟩⟩
    · have ho := hoj
      simp only [List.getElem?_toArray, List.getElem?_cons_succ, List.getElem?_cons_zero, Option.some.injEq] at hoj
      subst hoj
      obtain rfl : sb2 = false := hun
      clear hall
      obtain rfl : sb3 = false := Bool.eq_false_iff.2 fun h => Bool.false_ne_true (H.d3 h).2
      obtain rfl : sb4 = false := Bool.eq_false_iff.2 fun h => Bool.false_ne_true (H.d4 h).2
      obtain rfl : sb5 = false := Bool.eq_false_iff.2 fun h => Bool.false_ne_true (H.d5 h)
      obtain rfl : sb6 = false := Bool.eq_false_iff.2 fun h => Bool.false_ne_true (H.d6 h)
      obtain rfl : sb7 = false := Bool.eq_false_iff.2 fun h => Bool.false_ne_true (H.d7 h)
      obtain rfl : sb8 = false := Bool.eq_false_iff.2 fun h => Bool.false_ne_true (H.d8 h)
      obtain rfl : sb10 = false := Bool.eq_false_iff.2 fun h => Bool.false_ne_true (H.d10 h).2.2.1
      obtain rfl : sb11 = false := Bool.eq_false_iff.2 fun h => Bool.false_ne_true (H.d11 h).2.2.1
      obtain rfl : sb12 = false := Bool.eq_false_iff.2 fun h => Bool.false_ne_true (H.d12 h).2.2.1
      have hbe := H.be rfl
      have hx_t4 := H.t4
      have hx_t5 := H.t5
      refine wpOp_step ho (fun K' hK => ?_)
      have HK := Lib.hid hK
      clear hK ho
      go_simp
      exact HK.out _ _ ⟨_, _, _, _, _, _, _, _, _, _, _, _, _, _, _, _, _, _, _, _, _, _, _, sx10, _, _, rfl, rfl, ⟨(fun _ => hbe), (fun h => by cases h), H.d4, H.d5, H.d6, H.d7, H.d8, (fun h => by cases h), (fun h => by cases h), (fun h => by cases h), H.t4, H.t5, H.h0, H.h1, (fun _ => rfl), H.h3, (fun h => by cases h), (fun h => by cases h), (fun h => by cases h), H.h7, H.h8, H.h9, (fun h => by cases h), H.h11, H.h12⟩⟩
    · have ho := hoj
      simp only [List.getElem?_toArray, List.getElem?_cons_succ, List.getElem?_cons_zero, Option.some.injEq] at hoj
      subst hoj
      obtain rfl : sb3 = false := hun
      obtain rfl : sb1 = true := hall ⟨1, .data⟩ (by simp) (by kernel_rfl)
      obtain rfl : sb2 = true := hall ⟨2, .data⟩ (by simp) (by kernel_rfl)
      clear hall
      obtain rfl : sb4 = false := Bool.eq_false_iff.2 fun h => Bool.false_ne_true (H.d4 h).2
      obtain rfl : sb5 = false := Bool.eq_false_iff.2 fun h => Bool.false_ne_true (H.d5 h)
      obtain rfl : sb6 = false := Bool.eq_false_iff.2 fun h => Bool.false_ne_true (H.d6 h)
      obtain rfl : sb7 = false := Bool.eq_false_iff.2 fun h => Bool.false_ne_true (H.d7 h)
      obtain rfl : sb8 = false := Bool.eq_false_iff.2 fun h => Bool.false_ne_true (H.d8 h)
      obtain rfl : sb10 = false := Bool.eq_false_iff.2 fun h => Bool.false_ne_true (H.d10 h).2.2.2.1
      obtain rfl : sb11 = false := Bool.eq_false_iff.2 fun h => Bool.false_ne_true (H.d11 h).2.2.2.1
      obtain rfl : sb12 = false := Bool.eq_false_iff.2 fun h => Bool.false_ne_true (H.d12 h).2.2.2.1
      have hbe := H.be rfl
      have hx_t4 := H.t4
      have hx_t5 := H.t5
      obtain rfl := H.h1 rfl
      obtain rfl := H.h2 rfl
      obtain ⟨hk0, hk1, hk2⟩ := HKI.out
      refine wpOp_step ho (fun K' hK => ?_)
      have HK := Lib.hid hK
      clear hK ho
      go_simp
      exact HK.out _ _ ⟨_, _, _, _, _, _, _, _, _, _, _, _, _, _, _, _, _, _, _, _, _, _, _, sx10, _, _, rfl, rfl, ⟨(fun _ => hbe), (fun _ => ⟨rfl, rfl⟩), (fun h => by cases h), H.d5, H.d6, H.d7, H.d8, (fun h => by cases h), (fun h => by cases h), (fun h => by cases h), H.t4, H.t5, H.h0, H.h1, H.h2, (fun _ => rfl), (fun h => by cases h), (fun h => by cases h), (fun h => by cases h), H.h7, H.h8, H.h9, (fun h => by cases h), H.h11, H.h12⟩⟩
    · have ho := hoj
      simp only [List.getElem?_toArray, List.getElem?_cons_succ, List.getElem?_cons_zero, Option.some.injEq] at hoj
      subst hoj
      obtain rfl : sb4 = false := hun
      obtain rfl : sb0 = true := hall ⟨0, .data⟩ (by simp) (by kernel_rfl)
      obtain rfl : sb3 = true := hall ⟨3, .data⟩ (by simp) (by kernel_rfl)
      obtain rfl : sb1 = true := (H.d3 rfl).1
      obtain rfl : sb2 = true := (H.d3 rfl).2
      clear hall
      obtain rfl : sb5 = false := Bool.eq_false_iff.2 fun h => Bool.false_ne_true (H.d5 h)
      obtain rfl : sb6 = false := Bool.eq_false_iff.2 fun h => Bool.false_ne_true (H.d6 h)
      obtain rfl : sb7 = false := Bool.eq_false_iff.2 fun h => Bool.false_ne_true (H.d7 h)
      obtain rfl : sb8 = false := Bool.eq_false_iff.2 fun h => Bool.false_ne_true (H.d8 h)
      obtain rfl : sb10 = false := Bool.eq_false_iff.2 fun h => Bool.false_ne_true (H.d10 h).2.2.2.2.1
      obtain rfl : sb11 = false := Bool.eq_false_iff.2 fun h => Bool.false_ne_true (H.d11 h).2.2.2.2.1
      obtain rfl : sb12 = false := Bool.eq_false_iff.2 fun h => Bool.false_ne_true (H.d12 h).2.2.2.2.1
      have hbe := H.be rfl
      have hx_t4 := H.t4
      have hx_t5 := H.t5
      obtain rfl := H.h0 rfl
      obtain rfl := H.h1 rfl
      obtain rfl := H.h2 rfl
      obtain rfl := H.h3 rfl
      refine wpOp_step ho (fun K' hK => ?_)
      have HK := Lib.hid hK
      clear hK ho
      go_wp2_with fail
      refine (HA1.out _ hbe).mono ?_
      rintro e w9 ⟨sb9, v9, rfl, hv9⟩
      have BC := Lib.hid sb9
      have VC := Lib.hid hv9
      clear sb9 hv9
      go_wp2_with fail
      exact HK.out _ _ ⟨_, _, _, _, _, _, _, _, _, _, _, _, _, _, _, _, _, _, _, _, _, _, _, sx10, _, _, rfl, rfl, ⟨(fun _ => hbe.trans (BC.out.mono hbe.size)), H.d3, (fun _ => ⟨rfl, rfl⟩), (fun h => by cases h), H.d6, H.d7, H.d8, (fun h => by cases h), (fun h => by cases h), (fun h => by cases h), fun _ => ⟨_, rfl⟩, hx_t5, H.h0, H.h1, H.h2, H.h3, (fun _ _ => ⟨_, rfl, VC.out⟩), (fun h => by cases h), (fun h => by cases h), H.h7, H.h8, (fun e f => let ⟨q, e1, e2, e3⟩ := (H.h9 e f); ⟨q, e1, e2, (BC.out.block _ (lt_of_block e3)).trans e3⟩), (fun h => by cases h), H.h11, H.h12⟩⟩
    · have ho := hoj
      simp only [List.getElem?_toArray, List.getElem?_cons_succ, List.getElem?_cons_zero, Option.some.injEq] at hoj
      subst hoj
      obtain rfl : sb5 = false := hun
      obtain rfl : sb4 = true := hall ⟨4, .data⟩ (by simp) (by kernel_rfl)
      obtain rfl : sb0 = true := (H.d4 rfl).1
      obtain rfl : sb3 = true := (H.d4 rfl).2
      obtain rfl : sb1 = true := (H.d3 rfl).1
      obtain rfl : sb2 = true := (H.d3 rfl).2
      clear hall
      obtain rfl : sb6 = false := Bool.eq_false_iff.2 fun h => Bool.false_ne_true (H.d6 h)
      obtain rfl : sb7 = false := Bool.eq_false_iff.2 fun h => Bool.false_ne_true (H.d7 h)
      obtain rfl : sb8 = false := Bool.eq_false_iff.2 fun h => Bool.false_ne_true (H.d8 h)
      obtain rfl : sb10 = false := Bool.eq_false_iff.2 fun h => Bool.false_ne_true (H.d10 h).2.2.2.2.2.1
      obtain rfl : sb11 = false := Bool.eq_false_iff.2 fun h => Bool.false_ne_true (H.d11 h).2.2.2.2.2.1
      obtain rfl : sb12 = false := Bool.eq_false_iff.2 fun h => Bool.false_ne_true (H.d12 h).2.2.2.2.2.1
      have hbe := H.be rfl
      have hx_t4 := H.t4
      have hx_t5 := H.t5
      obtain rfl := H.h0 rfl
      obtain rfl := H.h1 rfl
      obtain rfl := H.h2 rfl
      obtain rfl := H.h3 rfl
      have P4 := H.h4 rfl rfl
      have PT := Lib.hid P4
      have TT := Lib.hid (H.t4 rfl)
      clear P4
      refine wpOp_step ho (fun K' hK => ?_)
      have HK := Lib.hid hK
      clear hK ho
      go_simp
      exact HK.out _ _ ⟨_, _, _, _, _, _, _, _, _, _, _, _, _, _, _, _, _, _, _, _, _, _, _, sx10, _, _, rfl, rfl, ⟨(fun _ => hbe), H.d3, H.d4, (fun _ => rfl), (fun h => by cases h), (fun h => by cases h), (fun h => by cases h), (fun h => by cases h), (fun h => by cases h), (fun h => by cases h), H.t4, fun _ => TT.out, H.h0, H.h1, H.h2, H.h3, H.h4, (fun _ _ => PT.out), (fun h => by cases h), H.h7, H.h8, H.h9, (fun h => by cases h), H.h11, H.h12⟩⟩
    · have ho := hoj
      simp only [List.getElem?_toArray, List.getElem?_cons_succ, List.getElem?_cons_zero, Option.some.injEq] at hoj
      subst hoj
      obtain rfl : sb6 = false := hun
      obtain rfl : sb5 = true := hall ⟨5, .data⟩ (by simp) (by kernel_rfl)
      obtain rfl : sb4 = true := (H.d5 rfl)
      obtain rfl : sb0 = true := (H.d4 rfl).1
      obtain rfl : sb3 = true := (H.d4 rfl).2
      obtain rfl : sb1 = true := (H.d3 rfl).1
      obtain rfl : sb2 = true := (H.d3 rfl).2
      clear hall
      obtain rfl : sb10 = false := Bool.eq_false_iff.2 fun h => Bool.false_ne_true (H.d10 h).2.2.2.2.2.2.1
      obtain rfl : sb11 = false := Bool.eq_false_iff.2 fun h => Bool.false_ne_true (H.d11 h).2.2.2.2.2.2.1
      obtain rfl : sb12 = false := Bool.eq_false_iff.2 fun h => Bool.false_ne_true (H.d12 h).2.2.2.2.2.2.1
      have hbe := H.be rfl
      have hx_t4 := H.t4
      have hx_t5 := H.t5
      obtain rfl := H.h0 rfl
      obtain rfl := H.h1 rfl
      obtain rfl := H.h2 rfl
      obtain rfl := H.h3 rfl
      have P4 := H.h4 rfl rfl
      have P5 := H.h5 rfl rfl
      obtain ⟨u, rfl, hu⟩ := P5
      have HU := Lib.hid hu
      clear hu
      refine wpOp_step ho (fun K' hK => ?_)
      have HK := Lib.hid hK
      clear hK ho
      go_simp
      exact HK.out _ _ ⟨_, _, _, _, _, _, _, _, _, _, _, _, _, _, _, _, _, _, _, _, _, _, _, sx10, _, _, rfl, rfl, ⟨(fun _ => hbe), H.d3, H.d4, H.d5, (fun _ => rfl), H.d7, H.d8, (fun h => by cases h), (fun h => by cases h), (fun h => by cases h), H.t4, H.t5, H.h0, H.h1, H.h2, H.h3, H.h4, H.h5, (fun _ _ => HU.out), H.h7, H.h8, H.h9, (fun h => by cases h), H.h11, H.h12⟩⟩
    · have ho := hoj
      simp only [List.getElem?_toArray, List.getElem?_cons_succ, List.getElem?_cons_zero, Option.some.injEq] at hoj
      subst hoj
      obtain rfl : sb7 = false := hun
      obtain rfl : sb5 = true := hall ⟨5, .data⟩ (by simp) (by kernel_rfl)
      obtain rfl : sb4 = true := (H.d5 rfl)
      obtain rfl : sb0 = true := (H.d4 rfl).1
      obtain rfl : sb3 = true := (H.d4 rfl).2
      obtain rfl : sb1 = true := (H.d3 rfl).1
      obtain rfl : sb2 = true := (H.d3 rfl).2
      clear hall
      obtain rfl : sb11 = false := Bool.eq_false_iff.2 fun h => Bool.false_ne_true (H.d11 h).2.2.2.2.2.2.2.1
      obtain rfl : sb12 = false := Bool.eq_false_iff.2 fun h => Bool.false_ne_true (H.d12 h).2.2.2.2.2.2.2.1
      have hx_t4 := H.t4
      have hx_t5 := H.t5
      obtain rfl := H.h0 rfl
      obtain rfl := H.h1 rfl
      obtain rfl := H.h2 rfl
      obtain rfl := H.h3 rfl
      obtain ⟨u, rfl⟩ := H.t5 rfl
      refine wpOp_step ho (fun K' hK => ?_)
      have HK := Lib.hid hK
      clear hK ho
      go_simp
      exact HK.out _ _ ⟨_, _, _, _, _, _, _, _, _, _, _, _, _, _, _, _, _, _, _, _, _, _, _, sx10, _, _, rfl, rfl, ⟨H.be, H.d3, H.d4, H.d5, H.d6, (fun _ => rfl), H.d8, H.d10, (fun h => by cases h), (fun h => by cases h), H.t4, H.t5, H.h0, H.h1, H.h2, H.h3, H.h4, H.h5, H.h6, (fun _ => rfl), H.h8, H.h9, H.h10, H.h11, H.h12⟩⟩
    · have ho := hoj
      simp only [List.getElem?_toArray, List.getElem?_cons_succ, List.getElem?_cons_zero, Option.some.injEq] at hoj
      subst hoj
      obtain rfl : sb8 = false := hun
      obtain rfl : sb5 = true := hall ⟨5, .data⟩ (by simp) (by kernel_rfl)
      obtain rfl : sb4 = true := (H.d5 rfl)
      obtain rfl : sb0 = true := (H.d4 rfl).1
      obtain rfl : sb3 = true := (H.d4 rfl).2
      obtain rfl : sb1 = true := (H.d3 rfl).1
      obtain rfl : sb2 = true := (H.d3 rfl).2
      clear hall
      obtain rfl : sb12 = false := Bool.eq_false_iff.2 fun h => Bool.false_ne_true (H.d12 h).2.2.2.2.2.2.2.2.1
      have hx_t4 := H.t4
      have hx_t5 := H.t5
      obtain rfl := H.h0 rfl
      obtain rfl := H.h1 rfl
      obtain rfl := H.h2 rfl
      obtain rfl := H.h3 rfl
      obtain ⟨u, rfl⟩ := H.t5 rfl
      refine wpOp_step ho (fun K' hK => ?_)
      have HK := Lib.hid hK
      clear hK ho
      go_simp
      exact HK.out _ _ ⟨_, _, _, _, _, _, _, _, _, _, _, _, _, _, _, _, _, _, _, _, _, _, _, sx10, _, _, rfl, rfl, ⟨H.be, H.d3, H.d4, H.d5, H.d6, H.d7, (fun _ => rfl), H.d10, H.d11, (fun h => by cases h), H.t4, H.t5, H.h0, H.h1, H.h2, H.h3, H.h4, H.h5, H.h6, H.h7, (fun _ => rfl), H.h9, H.h10, H.h11, H.h12⟩⟩
    · have ho := hoj
      simp only [List.getElem?_toArray, List.getElem?_cons_succ, List.getElem?_cons_zero, Option.some.injEq] at hoj
      subst hoj
      obtain rfl : sb9 = false := hun
      clear hall
      obtain rfl : sb10 = false := Bool.eq_false_iff.2 fun h => Bool.false_ne_true (H.d10 h).2.2.2.2.2.2.2
      obtain rfl : sb11 = false := Bool.eq_false_iff.2 fun h => Bool.false_ne_true (H.d11 h).2.2.2.2.2.2.2.2.1
      obtain rfl : sb12 = false := Bool.eq_false_iff.2 fun h => Bool.false_ne_true (H.d12 h).2.2.2.2.2.2.2.2.2.1
      have hbe := H.be rfl
      have hx_t4 := H.t4
      have hx_t5 := H.t5
      have BA := Lib.hid ((Below.refl w.heap.size w).alloc (Nat.le_refl _) (.cells #[.int .i64 0, .int .i64 0, .slice none 0 0] 24))
      have NA := Lib.hid (heap_alloc_new w (.cells #[.int .i64 0, .int .i64 0, .slice none 0 0] 24))
      have hsz := hbe.size
      refine wpOp_step ho (fun K' hK => ?_)
      have HK := Lib.hid hK
      clear hK ho
      go_simp
      exact HK.out _ _ ⟨_, _, _, _, _, _, _, _, _, _, _, _, _, _, _, _, _, _, _, _, _, _, _, sx10, _, _, rfl, rfl, ⟨(fun _ => hbe.trans (BA.out.mono hbe.size)), H.d3, H.d4, H.d5, H.d6, H.d7, H.d8, (fun h => by cases h), (fun h => by cases h), (fun h => by cases h), hx_t4, hx_t5, H.h0, H.h1, H.h2, H.h3, (fun e f => let ⟨u, e1, e2⟩ := (H.h4 e f); ⟨u, e1, e2.on BA.out⟩), (fun e f => let ⟨u, e1, e2⟩ := (H.h5 e f); ⟨u, e1, e2.on BA.out⟩), (fun e f => (H.h6 e f).on BA.out), H.h7, H.h8, (fun _ _ => ⟨_, rfl, hsz, NA.out⟩), (fun h => by cases h), H.h11, H.h12⟩⟩
    · have ho := hoj
      simp only [List.getElem?_toArray, List.getElem?_cons_succ, List.getElem?_cons_zero, Option.some.injEq] at hoj
      subst hoj
      obtain rfl : sb10 = false := hun
      obtain rfl : sb0 = true := hall ⟨0, .phase⟩ (by simp) (by kernel_rfl)
      obtain rfl : sb1 = true := hall ⟨1, .phase⟩ (by simp) (by kernel_rfl)
      obtain rfl : sb2 = true := hall ⟨2, .phase⟩ (by simp) (by kernel_rfl)
      obtain rfl : sb3 = true := hall ⟨3, .phase⟩ (by simp) (by kernel_rfl)
      obtain rfl : sb4 = true := hall ⟨4, .chain⟩ (by simp) (by kernel_rfl)
      obtain rfl : sb5 = true := hall ⟨5, .phase⟩ (by simp) (by kernel_rfl)
      obtain rfl : sb6 = true := hall ⟨6, .data⟩ (by simp) (by kernel_rfl)
      obtain rfl : sb9 = true := hall ⟨9, .data⟩ (by simp) (by kernel_rfl)
      clear hall
      obtain rfl : sb11 = false := Bool.eq_false_iff.2 fun h => Bool.false_ne_true (H.d11 h).2.2.2.2.2.2.2.2.2
      obtain rfl : sb12 = false := Bool.eq_false_iff.2 fun h => Bool.false_ne_true (H.d12 h).2.2.2.2.2.2.2.2.2.2.1
      have hbe := H.be rfl
      have hx_t4 := H.t4
      have hx_t5 := H.t5
      obtain rfl := H.h0 rfl
      obtain rfl := H.h1 rfl
      obtain rfl := H.h2 rfl
      obtain rfl := H.h3 rfl
      have P4 := H.h4 rfl rfl
      have P5 := H.h5 rfl rfl
      have P6 := H.h6 rfl rfl
      have P9 := H.h9 rfl rfl
      obtain ⟨q, rfl, hq0, hq⟩ := P9
      obtain ⟨A9, n9, c9, r9, p9, rfl, hv9⟩ := tb_partsR P6
      obtain ⟨k1, gp⟩ := bk3_blk hq (.int .i64 r9) (.int .i64 p9) (.slice A9 n9 c9)
      have KQ := Lib.hid k1
      have VQ := Lib.hid ((hv9.gr hq gp).more gp.size)
      have BQ := Lib.hid (hbe.grown gp hbe.size (fun k e => by cases e; exact hq0))
      obtain ⟨q0, q1, q2⟩ := bk3T hq
      have qf := fun i => bk_frz hq i
      clear hq hv9 k1 gp
      refine wpOp_step ho (fun K' hK => ?_)
      have HK := Lib.hid hK
      clear hK ho
      go_simp
      exact HK.out _ _ ⟨_, _, _, _, _, _, _, _, _, _, _, _, _, _, _, _, _, _, _, _, _, _, _, sx10, _, _, rfl, rfl, ⟨(fun h => by cases h), H.d3, H.d4, H.d5, H.d6, H.d7, H.d8, (fun _ => ⟨rfl, rfl, rfl, rfl, rfl, rfl, rfl, rfl⟩), (fun h => by cases h), (fun h => by cases h), H.t4, H.t5, H.h0, H.h1, H.h2, H.h3, (fun _ h => by cases h), (fun _ h => by cases h), (fun _ h => by cases h), H.h7, H.h8, (fun _ h => by cases h), (fun _ => ⟨_, _, _, _, _, _, rfl, hq0, KQ.out, VQ.out, BQ.out⟩), H.h11, H.h12⟩⟩
    · have ho := hoj
      simp only [List.getElem?_toArray, List.getElem?_cons_succ, List.getElem?_cons_zero, Option.some.injEq] at hoj
      subst hoj
      obtain rfl : sb11 = false := hun
      obtain rfl : sb0 = true := hall ⟨0, .phase⟩ (by simp) (by kernel_rfl)
      obtain rfl : sb1 = true := hall ⟨1, .phase⟩ (by simp) (by kernel_rfl)
      obtain rfl : sb2 = true := hall ⟨2, .phase⟩ (by simp) (by kernel_rfl)
      obtain rfl : sb3 = true := hall ⟨3, .phase⟩ (by simp) (by kernel_rfl)
      obtain rfl : sb4 = true := hall ⟨4, .phase⟩ (by simp) (by kernel_rfl)
      obtain rfl : sb5 = true := hall ⟨5, .phase⟩ (by simp) (by kernel_rfl)
      obtain rfl : sb6 = true := hall ⟨6, .phase⟩ (by simp) (by kernel_rfl)
      obtain rfl : sb7 = true := hall ⟨7, .data⟩ (by simp) (by kernel_rfl)
      obtain rfl : sb9 = true := hall ⟨9, .phase⟩ (by simp) (by kernel_rfl)
      obtain rfl : sb10 = true := hall ⟨10, .chain⟩ (by simp) (by kernel_rfl)
      clear hall
      obtain rfl : sb12 = false := Bool.eq_false_iff.2 fun h => Bool.false_ne_true (H.d12 h).2.2.2.2.2.2.2.2.2.2.2
      have hx_t4 := H.t4
      have hx_t5 := H.t5
      obtain rfl := H.h0 rfl
      obtain rfl := H.h1 rfl
      obtain rfl := H.h2 rfl
      obtain rfl := H.h3 rfl
      obtain rfl := H.h7 rfl
      have P10 := H.h10 rfl
      refine wpOp_step ho (fun K' hK => ?_)
      have HK := Lib.hid hK
      clear hK ho
      go_simp
      exact HK.out _ _ ⟨_, _, _, _, _, _, _, _, _, _, _, _, _, _, _, _, _, _, _, _, _, _, _, sx10, _, _, rfl, rfl, ⟨(fun h => by cases h), H.d3, H.d4, H.d5, H.d6, H.d7, H.d8, H.d10, (fun _ => ⟨rfl, rfl, rfl, rfl, rfl, rfl, rfl, rfl, rfl, rfl⟩), (fun h => by cases h), H.t4, H.t5, H.h0, H.h1, H.h2, H.h3, (fun _ h => by cases h), (fun _ h => by cases h), (fun _ h => by cases h), H.h7, H.h8, (fun _ h => by cases h), H.h10, (fun _ => rfl), H.h12⟩⟩
    · have ho := hoj
      simp only [List.getElem?_toArray, List.getElem?_cons_succ, List.getElem?_cons_zero, Option.some.injEq] at hoj
      subst hoj
      obtain rfl : sb12 = false := hun
      obtain rfl : sb0 = true := hall ⟨0, .phase⟩ (by simp) (by kernel_rfl)
      obtain rfl : sb1 = true := hall ⟨1, .phase⟩ (by simp) (by kernel_rfl)
      obtain rfl : sb2 = true := hall ⟨2, .phase⟩ (by simp) (by kernel_rfl)
      obtain rfl : sb3 = true := hall ⟨3, .phase⟩ (by simp) (by kernel_rfl)
      obtain rfl : sb4 = true := hall ⟨4, .phase⟩ (by simp) (by kernel_rfl)
      obtain rfl : sb5 = true := hall ⟨5, .phase⟩ (by simp) (by kernel_rfl)
      obtain rfl : sb6 = true := hall ⟨6, .phase⟩ (by simp) (by kernel_rfl)
      obtain rfl : sb7 = true := hall ⟨7, .phase⟩ (by simp) (by kernel_rfl)
      obtain rfl : sb8 = true := hall ⟨8, .data⟩ (by simp) (by kernel_rfl)
      obtain rfl : sb9 = true := hall ⟨9, .phase⟩ (by simp) (by kernel_rfl)
      obtain rfl : sb10 = true := hall ⟨10, .phase⟩ (by simp) (by kernel_rfl)
      obtain rfl : sb11 = true := hall ⟨11, .chain⟩ (by simp) (by kernel_rfl)
      clear hall
      have hx_t4 := H.t4
      have hx_t5 := H.t5
      obtain rfl := H.h0 rfl
      obtain rfl := H.h1 rfl
      obtain rfl := H.h2 rfl
      obtain rfl := H.h3 rfl
      obtain rfl := H.h7 rfl
      obtain rfl := H.h8 rfl
      have P10 := H.h10 rfl
      obtain rfl := H.h11 rfl
      refine wpOp_step ho (fun K' hK => ?_)
      have HK := Lib.hid hK
      clear hK ho
      go_simp
      exact HK.out _ _ ⟨_, _, _, _, _, _, _, _, _, _, _, _, _, _, _, _, _, _, _, _, _, _, _, sx10, _, _, rfl, rfl, ⟨(fun h => by cases h), H.d3, H.d4, H.d5, H.d6, H.d7, H.d8, H.d10, H.d11, (fun _ => ⟨rfl, rfl, rfl, rfl, rfl, rfl, rfl, rfl, rfl, rfl, rfl, rfl⟩), H.t4, H.t5, H.h0, H.h1, H.h2, H.h3, (fun _ h => by cases h), (fun _ h => by cases h), (fun _ h => by cases h), H.h7, H.h8, (fun _ h => by cases h), H.h10, H.h11, (fun _ => rfl)⟩⟩
    · have ho := hoj
      simp at ho
  case hfin =>
    rintro listed a w ⟨sb0, sb1, sb2, sb3, sb4, sb5, sb6, sb7, sb8, sb9, sb10, sb11, sb12, sx0, sx1, sx2, sx3, sx4, sx5, sx6, sx7, sx8, sx9, sx10, sx11, sx12, rfl, rfl, H⟩ hr
    have hb : sb12 = true := by
      clear H
      obtain rfl : sb0 = true := by
        cases sb0
        · exact absurd hr (ready_ne4 (by kernel_rfl))
        · rfl
      obtain rfl : sb1 = true := by
        cases sb1
        · exact absurd hr (ready_ne4 (by kernel_rfl))
        · rfl
      obtain rfl : sb2 = true := by
        cases sb2
        · exact absurd hr (ready_ne4 (by kernel_rfl))
        · rfl
      obtain rfl : sb3 = true := by
        cases sb3
        · exact absurd hr (ready_ne4 (by kernel_rfl))
        · rfl
      obtain rfl : sb4 = true := by
        cases sb4
        · exact absurd hr (ready_ne4 (by kernel_rfl))
        · rfl
      obtain rfl : sb5 = true := by
        cases sb5
        · exact absurd hr (ready_ne4 (by kernel_rfl))
        · rfl
      obtain rfl : sb6 = true := by
        cases sb6
        · exact absurd hr (ready_ne4 (by kernel_rfl))
        · rfl
      obtain rfl : sb7 = true := by
        cases sb7
        · exact absurd hr (ready_ne4 (by kernel_rfl))
        · rfl
      obtain rfl : sb8 = true := by
        cases sb8
        · exact absurd hr (ready_ne4 (by kernel_rfl))
        · rfl
      obtain rfl : sb9 = true := by
        cases sb9
        · exact absurd hr (ready_ne4 (by kernel_rfl))
        · rfl
      obtain rfl : sb10 = true := by
        cases sb10
        · exact absurd hr (ready_ne4 (by kernel_rfl))
        · rfl
      obtain rfl : sb11 = true := by
        cases sb11
        · exact absurd hr (ready_ne4 (by kernel_rfl))
        · rfl
      obtain rfl : sb12 = true := by
        cases sb12
        · exact absurd hr (ready_ne4 (by kernel_rfl))
        · rfl
      rfl
    subst hb
    clear hr
    obtain rfl : sb0 = true := (H.d12 rfl).1
    obtain rfl : sb1 = true := (H.d12 rfl).2.1
    obtain rfl : sb2 = true := (H.d12 rfl).2.2.1
    obtain rfl : sb3 = true := (H.d12 rfl).2.2.2.1
    obtain rfl : sb4 = true := (H.d12 rfl).2.2.2.2.1
    obtain rfl : sb5 = true := (H.d12 rfl).2.2.2.2.2.1
    obtain rfl : sb6 = true := (H.d12 rfl).2.2.2.2.2.2.1
    obtain rfl : sb7 = true := (H.d12 rfl).2.2.2.2.2.2.2.1
    obtain rfl : sb8 = true := (H.d12 rfl).2.2.2.2.2.2.2.2.1
    obtain rfl : sb9 = true := (H.d12 rfl).2.2.2.2.2.2.2.2.2.1
    obtain rfl : sb10 = true := (H.d12 rfl).2.2.2.2.2.2.2.2.2.2.1
    obtain rfl : sb11 = true := (H.d12 rfl).2.2.2.2.2.2.2.2.2.2.2
    obtain ⟨q, A9, n9, c9, r9, p9, e9, hq0, hq, hv9, hb9⟩ := H.h10 rfl
    have e7 := H.h11 rfl
    have e8 := H.h12 rfl
    have HQ7 := Lib.hid hq
    have HV7 := Lib.hid hv9
    have HB7 := Lib.hid hb9
    clear hq hv9 hb9 H hq0
    obtain ⟨w7, hw9⟩ : ∃ x, x = w := ⟨_, rfl⟩
    subst w
    subst e7 e8 e9
    have S7 := Lib.hid (bsl_onF S6.out HB7.out)
    have F7 := Lib.hid ((HB7.out.block _ (lt_of_block F6.out)).trans F6.out)
    have G7 := Lib.hid ((HB7.out.block _ (lt_of_block G6.out)).trans G6.out)
    have B7 := Lib.hid (B6.out.trans (HB7.out.mono B6.out.size))
    have R7 := Lib.hid (R6.out.on HB7.out)
    have U7 := Lib.hid (U6.out.on HB7.out)
    have Q7 := Lib.hid (Q6.out.on HB7.out)
    have HA2 := Lib.hid (fun w (hb : Below w7.heap.size w7 w) => fdapl_any _ _ T2 _ w (HV7.out.on hb) HT2W.out (bsl_onF (bsl_drop S7.out n (by rw [HTL.out]; exact hnt)) hb) (by rw [List.length_drop, HTL.out]; have := HTLB.out; omega))
    rw [HCU2.out] at HA2
    unfold TbRes3 at HA2
    dsimp only at HA2
    obtain ⟨m, hm⟩ : ∃ m, tl - n = m := ⟨_, rfl⟩
    rw [hm] at HA2
    have HM := Lib.hid hm
    obtain ⟨SA, hSA⟩ : ∃ SA, (if cd = n then Ad else Option.map (fun x => x.add n) Ad) = SA := ⟨_, rfl⟩
    rw [hSA] at HA2
    have HSA := Lib.hid hSA
    have HNI := Lib.hid (show (0 : Int) ≤ (n : Int) ∧ (n : Int) ≤ (tl : Int) ∧ (n : Int) ≤ (cd : Int) by omega)
    have e7 : decide ((K : Int) < (n : Int)) = false := by simp; omega
    have e7n : ¬ K < n := by omega
    clear hm hSA hcd hKt hwr
    go_upto_region 9 with fail
    refine wp_region_inv (fun lis_ act_ wld_ => ∃ (tb0 tb1 tb2 tb3 tb4 tb5 tb6 tb7 tb8 tb9 tb10 tb11 tb12 : Bool) (tx0 tx1 tx2 tx3 tx4 tx5 tx6 tx7 tx8 tx9 tx10 tx11 tx12 : Value), lis_ = #[tb0, tb1, tb2, tb3, tb4, tb5, tb6, tb7, tb8, tb9, tb10, tb11, tb12] ∧ act_ = { tmps := #[Value.int IntKind.i64 a0, Value.slice a1 n1 c1, Value.slice a2 n2 c2, Value.int IntKind.i64 a3, undef, undef, undef, undef, Value.bool false, Value.pointer (some { block := k1, off := 0 }), Value.slice Aa L ca, Value.bool true, Value.slice Al nl cl, Value.pointer (some { block := k4, off := 0 }), Value.slice Ad tl cd, Value.slice Ae sn ce, Value.int IntKind.i64 0, Value.slice A8 got.length c8, Value.int IntKind.i64 g, Value.int IntKind.i64 ↑K, Value.pointer (some { block := q, off := 0 }), Value.int IntKind.i64 ↑n, Value.int IntKind.i64 0, tx9, tx11, tx12, Value.tuple #[Value.agg #[Value.int IntKind.i64 room, Value.int IntKind.i64 ↑L, Value.slice At M ct], Value.slice Aa L ca, Value.bool true], Value.int IntKind.i64 a0, Value.slice a1 n1 c1, Value.tuple #[Value.agg #[Value.int IntKind.i64 room, Value.int IntKind.i64 ↑L, Value.slice At M ct], Value.slice Aa L ca, Value.bool true], Value.agg #[Value.int IntKind.i64 room, Value.int IntKind.i64 ↑L, Value.slice At M ct], Value.slice Aa L ca, Value.bool true, Value.slice a2 n2 c2, Value.slice Al nl cl, Value.tuple #[Value.agg #[Value.int IntKind.i64 ur, Value.int IntKind.i64 up, Value.slice A4 un c4], Value.slice Ad tl cd, Value.slice Ae sn ce, Value.int IntKind.i64 0], Value.agg #[Value.int IntKind.i64 room, Value.int IntKind.i64 ↑L, Value.slice At M ct], Value.slice Al nl cl, Value.tuple #[Value.agg #[Value.int IntKind.i64 ur, Value.int IntKind.i64 up, Value.slice A4 un c4], Value.slice Ad tl cd, Value.slice Ae sn ce, Value.int IntKind.i64 0], Value.agg #[Value.int IntKind.i64 ur, Value.int IntKind.i64 up, Value.slice A4 un c4], Value.slice Ad tl cd, Value.slice Ae sn ce, Value.int IntKind.i64 0, Value.tuple #[Value.slice A8 got.length c8, Value.int IntKind.i64 g], Value.agg #[Value.int IntKind.i64 room, Value.int IntKind.i64 ↑L, Value.slice At M ct], Value.slice Ae sn ce, Value.tuple #[Value.slice A8 got.length c8, Value.int IntKind.i64 g], Value.slice A8 got.length c8, Value.int IntKind.i64 g, Value.int IntKind.i64 a3, Value.slice Ad tl cd, Value.int IntKind.i64 ↑tl, Value.int IntKind.i64 (↑tl + 1), Value.int IntKind.i64 ↑K, sx5, sx0, sx1, sx2, sx3, sx4, sx6, sx7, sx8, Value.int IntKind.i64 0, Value.bool false, Value.bool false, Value.int IntKind.i64 ↑n, Value.int IntKind.i64 ↑K, Value.bool false, Value.bool false, tx5, tx0, tx1, tx2, tx3, tx4, tx6, tx7, tx8, undef, undef, undef, undef, undef, undef, undef, undef, undef, undef, undef, undef, undef, undef, undef, undef, undef, undef, undef, undef, undef, undef, undef, undef, undef, undef, undef, undef, undef, undef, undef, undef, undef, undef, undef, undef, undef, undef, undef, undef, undef, undef, undef, undef, undef, undef, undef, undef, undef, undef, undef, undef, undef, undef, undef, undef, undef, undef, undef, undef, undef], defers := [] } ∧ FwB w7 r9 p9 A9 n9 c9 Ad SA tl cd n m U (.agg #[.int .i64 r9, .int .i64 p9, .slice A9 n9 c9]) (.slice Ad tl cd) (.int .i64 (n : Int)) (.slice SA m (cd - n)) (.int .i64 (m : Int)) (.int .i64 0) (.int .i64 (m : Int)) (.int .i64 0) tb0 tb1 tb2 tb3 tb4 tb5 tb6 tb7 tb8 tb9 tb10 tb11 tb12 tx0 tx1 tx2 tx3 tx4 tx5 tx6 tx7 tx8 tx9 tx10 tx11 tx12 wld_) (by kernel_rfl) ?h0 ?hfin ?hI
    case h0 => exact ⟨_, _, _, _, _, _, _, _, _, _, _, _, _, _, _, _, _, _, _, _, _, _, _, undef, _, _, rfl, rfl, ⟨(fun _ => (Below.refl _ _).drew), (fun h => by cases h), (fun h => by cases h), (fun h => by cases h), (fun h => by cases h), (fun h => by cases h), (fun h => by cases h), (fun h => by cases h), (fun h => by cases h), (fun h => by cases h), (fun h => by cases h), (fun h => by cases h), (fun h => by cases h), (fun h => by cases h), (fun h => by cases h), (fun h => by cases h), (fun h => by cases h), (fun h => by cases h), (fun h => by cases h), (fun h => by cases h), (fun h => by cases h), (fun h => by cases h), (fun h => by cases h), (fun h => by cases h), (fun h => by cases h)⟩⟩
    case hI =>
      rintro listed a w ⟨tb0, tb1, tb2, tb3, tb4, tb5, tb6, tb7, tb8, tb9, tb10, tb11, tb12, tx0, tx1, tx2, tx3, tx4, tx5, tx6, tx7, tx8, tx9, tx10, tx11, tx12, rfl, rfl, H⟩ i hi
      obtain ⟨hun, oj, hoj, hall⟩ := mem_ready.1 hi
      clear hi
      rcases i with _ | _ | _ | _ | _ | _ | _ | _ | _ | _ | _ | _ | _ | i
      · have ho := hoj
        simp only [List.getElem?_toArray, List.getElem?_cons_zero, Option.some.injEq] at hoj
        subst hoj
        obtain rfl : tb0 = false := hun
        clear hall
        obtain rfl : tb4 = false := Bool.eq_false_iff.2 fun h => Bool.false_ne_true (H.d4 h).1
        obtain rfl : tb5 = false := Bool.eq_false_iff.2 fun h => Bool.false_ne_true (H.d5 h)
        obtain rfl : tb6 = false := Bool.eq_false_iff.2 fun h => Bool.false_ne_true (H.d6 h)
        obtain rfl : tb7 = false := Bool.eq_false_iff.2 fun h => Bool.false_ne_true (H.d7 h)
        obtain rfl : tb8 = false := Bool.eq_false_iff.2 fun h => Bool.false_ne_true (H.d8 h)
        obtain rfl : tb10 = false := Bool.eq_false_iff.2 fun h => Bool.false_ne_true (H.d10 h).1
        obtain rfl : tb11 = false := Bool.eq_false_iff.2 fun h => Bool.false_ne_true (H.d11 h).1
        obtain rfl : tb12 = false := Bool.eq_false_iff.2 fun h => Bool.false_ne_true (H.d12 h).1
        have hbe := H.be rfl
        have hx_t4 := H.t4
        have hx_t5 := H.t5
        obtain ⟨q0, q1, q2⟩ := bk3T ((hbe.block _ (lt_of_block HQ7.out)).trans HQ7.out)
        refine wpOp_step ho (fun K' hK => ?_)
        have HK := Lib.hid hK
        clear hK ho
        go_simp
        exact HK.out _ _ ⟨_, _, _, _, _, _, _, _, _, _, _, _, _, _, _, _, _, _, _, _, _, _, _, tx10, _, _, rfl, rfl, ⟨(fun _ => hbe), H.d3, (fun h => by cases h), H.d5, H.d6, H.d7, H.d8, (fun h => by cases h), (fun h => by cases h), (fun h => by cases h), H.t4, H.t5, (fun _ => rfl), H.h1, H.h2, H.h3, (fun h => by cases h), (fun h => by cases h), (fun h => by cases h), H.h7, H.h8, H.h9, (fun h => by cases h), H.h11, H.h12⟩⟩
      · have ho := hoj
        simp only [List.getElem?_toArray, List.getElem?_cons_succ, List.getElem?_cons_zero, Option.some.injEq] at hoj
        subst hoj
        obtain rfl : tb1 = false := hun
        clear hall
        obtain rfl : tb3 = false := Bool.eq_false_iff.2 fun h => Bool.false_ne_true (H.d3 h).1
        obtain rfl : tb4 = false := Bool.eq_false_iff.2 fun h => Bool.false_ne_true (H.d4 h).2
        obtain rfl : tb5 = false := Bool.eq_false_iff.2 fun h => Bool.false_ne_true (H.d5 h)
        obtain rfl : tb6 = false := Bool.eq_false_iff.2 fun h => Bool.false_ne_true (H.d6 h)
        obtain rfl : tb7 = false := Bool.eq_false_iff.2 fun h => Bool.false_ne_true (H.d7 h)
        obtain rfl : tb8 = false := Bool.eq_false_iff.2 fun h => Bool.false_ne_true (H.d8 h)
        obtain rfl : tb10 = false := Bool.eq_false_iff.2 fun h => Bool.false_ne_true (H.d10 h).2.1
        obtain rfl : tb11 = false := Bool.eq_false_iff.2 fun h => Bool.false_ne_true (H.d11 h).2.1
        obtain rfl : tb12 = false := Bool.eq_false_iff.2 fun h => Bool.false_ne_true (H.d12 h).2.1
        have hbe := H.be rfl
        have hx_t4 := H.t4
        have hx_t5 := H.t5
        refine wpOp_step ho (fun K' hK => ?_)
        have HK := Lib.hid hK
        clear hK ho
        go_simp
        exact HK.out _ _ ⟨_, _, _, _, _, _, _, _, _, _, _, _, _, _, _, _, _, _, _, _, _, _, _, tx10, _, _, rfl, rfl, ⟨(fun _ => hbe), (fun h => by cases h), H.d4, H.d5, H.d6, H.d7, H.d8, (fun h => by cases h), (fun h => by cases h), (fun h => by cases h), H.t4, H.t5, H.h0, (fun _ => rfl), H.h2, H.h3, (fun h => by cases h), (fun h => by cases h), (fun h => by cases h), H.h7, H.h8, H.h9, (fun h => by cases h), H.h11, H.h12⟩⟩
      · have ho := hoj
        simp only [List.getElem?_toArray, List.getElem?_cons_succ, List.getElem?_cons_zero, Option.some.injEq] at hoj
        subst hoj
        obtain rfl : tb2 = false := hun
        clear hall
        obtain rfl : tb3 = false := Bool.eq_false_iff.2 fun h => Bool.false_ne_true (H.d3 h).2
        obtain rfl : tb4 = false := Bool.eq_false_iff.2 fun h => Bool.false_ne_true (H.d4 h).2
        obtain rfl : tb5 = false := Bool.eq_false_iff.2 fun h => Bool.false_ne_true (H.d5 h)
        obtain rfl : tb6 = false := Bool.eq_false_iff.2 fun h => Bool.false_ne_true (H.d6 h)
        obtain rfl : tb7 = false := Bool.eq_false_iff.2 fun h => Bool.false_ne_true (H.d7 h)
        obtain rfl : tb8 = false := Bool.eq_false_iff.2 fun h => Bool.false_ne_true (H.d8 h)
        obtain rfl : tb10 = false := Bool.eq_false_iff.2 fun h => Bool.false_ne_true (H.d10 h).2.2.1
        obtain rfl : tb11 = false := Bool.eq_false_iff.2 fun h => Bool.false_ne_true (H.d11 h).2.2.1
        obtain rfl : tb12 = false := Bool.eq_false_iff.2 fun h => Bool.false_ne_true (H.d12 h).2.2.1
        have hbe := H.be rfl
        have hx_t4 := H.t4
        have hx_t5 := H.t5
        refine wpOp_step ho (fun K' hK => ?_)
        have HK := Lib.hid hK
        clear hK ho
        go_simp
        exact HK.out _ _ ⟨_, _, _, _, _, _, _, _, _, _, _, _, _, _, _, _, _, _, _, _, _, _, _, tx10, _, _, rfl, rfl, ⟨(fun _ => hbe), (fun h => by cases h), H.d4, H.d5, H.d6, H.d7, H.d8, (fun h => by cases h), (fun h => by cases h), (fun h => by cases h), H.t4, H.t5, H.h0, H.h1, (fun _ => rfl), H.h3, (fun h => by cases h), (fun h => by cases h), (fun h => by cases h), H.h7, H.h8, H.h9, (fun h => by cases h), H.h11, H.h12⟩⟩
      · have ho := hoj
        simp only [List.getElem?_toArray, List.getElem?_cons_succ, List.getElem?_cons_zero, Option.some.injEq] at hoj
        subst hoj
        obtain rfl : tb3 = false := hun
        obtain rfl : tb1 = true := hall ⟨1, .data⟩ (by simp) (by kernel_rfl)
        obtain rfl : tb2 = true := hall ⟨2, .data⟩ (by simp) (by kernel_rfl)
        clear hall
        obtain rfl : tb4 = false := Bool.eq_false_iff.2 fun h => Bool.false_ne_true (H.d4 h).2
        obtain rfl : tb5 = false := Bool.eq_false_iff.2 fun h => Bool.false_ne_true (H.d5 h)
        obtain rfl : tb6 = false := Bool.eq_false_iff.2 fun h => Bool.false_ne_true (H.d6 h)
        obtain rfl : tb7 = false := Bool.eq_false_iff.2 fun h => Bool.false_ne_true (H.d7 h)
        obtain rfl : tb8 = false := Bool.eq_false_iff.2 fun h => Bool.false_ne_true (H.d8 h)
        obtain rfl : tb10 = false := Bool.eq_false_iff.2 fun h => Bool.false_ne_true (H.d10 h).2.2.2.1
        obtain rfl : tb11 = false := Bool.eq_false_iff.2 fun h => Bool.false_ne_true (H.d11 h).2.2.2.1
        obtain rfl : tb12 = false := Bool.eq_false_iff.2 fun h => Bool.false_ne_true (H.d12 h).2.2.2.1
        have hbe := H.be rfl
        have hx_t4 := H.t4
        have hx_t5 := H.t5
        obtain rfl := H.h1 rfl
        obtain rfl := H.h2 rfl
        obtain ⟨hk0, hk1, hk2⟩ := HNI.out
        have hSA := HSA.out
        have hMM := HM.out
        refine wpOp_step ho (fun K' hK => ?_)
        have HK := Lib.hid hK
        clear hK ho
        go_simp
        exact HK.out _ _ ⟨_, _, _, _, _, _, _, _, _, _, _, _, _, _, _, _, _, _, _, _, _, _, _, tx10, _, _, rfl, rfl, ⟨(fun _ => hbe), (fun _ => ⟨rfl, rfl⟩), (fun h => by cases h), H.d5, H.d6, H.d7, H.d8, (fun h => by cases h), (fun h => by cases h), (fun h => by cases h), H.t4, H.t5, H.h0, H.h1, H.h2, (fun _ => rfl), (fun h => by cases h), (fun h => by cases h), (fun h => by cases h), H.h7, H.h8, H.h9, (fun h => by cases h), H.h11, H.h12⟩⟩
      · have ho := hoj
        simp only [List.getElem?_toArray, List.getElem?_cons_succ, List.getElem?_cons_zero, Option.some.injEq] at hoj
        subst hoj
        obtain rfl : tb4 = false := hun
        obtain rfl : tb0 = true := hall ⟨0, .data⟩ (by simp) (by kernel_rfl)
        obtain rfl : tb3 = true := hall ⟨3, .data⟩ (by simp) (by kernel_rfl)
        obtain rfl : tb1 = true := (H.d3 rfl).1
        obtain rfl : tb2 = true := (H.d3 rfl).2
        clear hall
        obtain rfl : tb5 = false := Bool.eq_false_iff.2 fun h => Bool.false_ne_true (H.d5 h)
        obtain rfl : tb6 = false := Bool.eq_false_iff.2 fun h => Bool.false_ne_true (H.d6 h)
        obtain rfl : tb7 = false := Bool.eq_false_iff.2 fun h => Bool.false_ne_true (H.d7 h)
        obtain rfl : tb8 = false := Bool.eq_false_iff.2 fun h => Bool.false_ne_true (H.d8 h)
        obtain rfl : tb10 = false := Bool.eq_false_iff.2 fun h => Bool.false_ne_true (H.d10 h).2.2.2.2.1
        obtain rfl : tb11 = false := Bool.eq_false_iff.2 fun h => Bool.false_ne_true (H.d11 h).2.2.2.2.1
        obtain rfl : tb12 = false := Bool.eq_false_iff.2 fun h => Bool.false_ne_true (H.d12 h).2.2.2.2.1
        have hbe := H.be rfl
        have hx_t4 := H.t4
        have hx_t5 := H.t5
        obtain rfl := H.h0 rfl
        obtain rfl := H.h1 rfl
        obtain rfl := H.h2 rfl
        obtain rfl := H.h3 rfl
        refine wpOp_step ho (fun K' hK => ?_)
        have HK := Lib.hid hK
        clear hK ho
        go_wp2_with fail
        refine (HA2.out _ hbe).mono ?_
        rintro e w9 ⟨tb9, v9, rfl, hv9⟩
        have BC := Lib.hid tb9
        have VC := Lib.hid hv9
        clear tb9 hv9
        go_wp2_with fail
        exact HK.out _ _ ⟨_, _, _, _, _, _, _, _, _, _, _, _, _, _, _, _, _, _, _, _, _, _, _, tx10, _, _, rfl, rfl, ⟨(fun _ => hbe.trans (BC.out.mono hbe.size)), H.d3, (fun _ => ⟨rfl, rfl⟩), (fun h => by cases h), H.d6, H.d7, H.d8, (fun h => by cases h), (fun h => by cases h), (fun h => by cases h), fun _ => ⟨_, rfl⟩, hx_t5, H.h0, H.h1, H.h2, H.h3, (fun _ _ => ⟨_, rfl, VC.out⟩), (fun h => by cases h), (fun h => by cases h), H.h7, H.h8, (fun e f => let ⟨q, e1, e2, e3⟩ := (H.h9 e f); ⟨q, e1, e2, (BC.out.block _ (lt_of_block e3)).trans e3⟩), (fun h => by cases h), H.h11, H.h12⟩⟩
      · have ho := hoj
        simp only [List.getElem?_toArray, List.getElem?_cons_succ, List.getElem?_cons_zero, Option.some.injEq] at hoj
        subst hoj
        obtain rfl : tb5 = false := hun
        obtain rfl : tb4 = true := hall ⟨4, .data⟩ (by simp) (by kernel_rfl)
        obtain rfl : tb0 = true := (H.d4 rfl).1
        obtain rfl : tb3 = true := (H.d4 rfl).2
        obtain rfl : tb1 = true := (H.d3 rfl).1
        obtain rfl : tb2 = true := (H.d3 rfl).2
        clear hall
        obtain rfl : tb6 = false := Bool.eq_false_iff.2 fun h => Bool.false_ne_true (H.d6 h)
        obtain rfl : tb7 = false := Bool.eq_false_iff.2 fun h => Bool.false_ne_true (H.d7 h)
        obtain rfl : tb8 = false := Bool.eq_false_iff.2 fun h => Bool.false_ne_true (H.d8 h)
        obtain rfl : tb10 = false := Bool.eq_false_iff.2 fun h => Bool.false_ne_true (H.d10 h).2.2.2.2.2.1
        obtain rfl : tb11 = false := Bool.eq_false_iff.2 fun h => Bool.false_ne_true (H.d11 h).2.2.2.2.2.1
        obtain rfl : tb12 = false := Bool.eq_false_iff.2 fun h => Bool.false_ne_true (H.d12 h).2.2.2.2.2.1
        have hbe := H.be rfl
        have hx_t4 := H.t4
        have hx_t5 := H.t5
        obtain rfl := H.h0 rfl
        obtain rfl := H.h1 rfl
        obtain rfl := H.h2 rfl
        obtain rfl := H.h3 rfl
        have P4 := H.h4 rfl rfl
        have PT := Lib.hid P4
        have TT := Lib.hid (H.t4 rfl)
        clear P4
        refine wpOp_step ho (fun K' hK => ?_)
        have HK := Lib.hid hK
        clear hK ho
        go_simp
        exact HK.out _ _ ⟨_, _, _, _, _, _, _, _, _, _, _, _, _, _, _, _, _, _, _, _, _, _, _, tx10, _, _, rfl, rfl, ⟨(fun _ => hbe), H.d3, H.d4, (fun _ => rfl), (fun h => by cases h), (fun h => by cases h), (fun h => by cases h), (fun h => by cases h), (fun h => by cases h), (fun h => by cases h), H.t4, fun _ => TT.out, H.h0, H.h1, H.h2, H.h3, H.h4, (fun _ _ => PT.out), (fun h => by cases h), H.h7, H.h8, H.h9, (fun h => by cases h), H.h11, H.h12⟩⟩
      · have ho := hoj
        simp only [List.getElem?_toArray, List.getElem?_cons_succ, List.getElem?_cons_zero, Option.some.injEq] at hoj
        subst hoj
        obtain rfl : tb6 = false := hun
        obtain rfl : tb5 = true := hall ⟨5, .data⟩ (by simp) (by kernel_rfl)
        obtain rfl : tb4 = true := (H.d5 rfl)
        obtain rfl : tb0 = true := (H.d4 rfl).1
        obtain rfl : tb3 = true := (H.d4 rfl).2
        obtain rfl : tb1 = true := (H.d3 rfl).1
        obtain rfl : tb2 = true := (H.d3 rfl).2
        clear hall
        obtain rfl : tb10 = false := Bool.eq_false_iff.2 fun h => Bool.false_ne_true (H.d10 h).2.2.2.2.2.2.1
        obtain rfl : tb11 = false := Bool.eq_false_iff.2 fun h => Bool.false_ne_true (H.d11 h).2.2.2.2.2.2.1
        obtain rfl : tb12 = false := Bool.eq_false_iff.2 fun h => Bool.false_ne_true (H.d12 h).2.2.2.2.2.2.1
        have hbe := H.be rfl
        have hx_t4 := H.t4
        have hx_t5 := H.t5
        obtain rfl := H.h0 rfl
        obtain rfl := H.h1 rfl
        obtain rfl := H.h2 rfl
        obtain rfl := H.h3 rfl
        have P4 := H.h4 rfl rfl
        have P5 := H.h5 rfl rfl
        obtain ⟨u, rfl, hu⟩ := P5
        have HU := Lib.hid hu
        clear hu
        refine wpOp_step ho (fun K' hK => ?_)
        have HK := Lib.hid hK
        clear hK ho
        go_simp
        exact HK.out _ _ ⟨_, _, _, _, _, _, _, _, _, _, _, _, _, _, _, _, _, _, _, _, _, _, _, tx10, _, _, rfl, rfl, ⟨(fun _ => hbe), H.d3, H.d4, H.d5, (fun _ => rfl), H.d7, H.d8, (fun h => by cases h), (fun h => by cases h), (fun h => by cases h), H.t4, H.t5, H.h0, H.h1, H.h2, H.h3, H.h4, H.h5, (fun _ _ => HU.out), H.h7, H.h8, H.h9, (fun h => by cases h), H.h11, H.h12⟩⟩
      · have ho := hoj
        simp only [List.getElem?_toArray, List.getElem?_cons_succ, List.getElem?_cons_zero, Option.some.injEq] at hoj
        subst hoj
        obtain rfl : tb7 = false := hun
        obtain rfl : tb5 = true := hall ⟨5, .data⟩ (by simp) (by kernel_rfl)
        obtain rfl : tb4 = true := (H.d5 rfl)
        obtain rfl : tb0 = true := (H.d4 rfl).1
        obtain rfl : tb3 = true := (H.d4 rfl).2
        obtain rfl : tb1 = true := (H.d3 rfl).1
        obtain rfl : tb2 = true := (H.d3 rfl).2
        clear hall
        obtain rfl : tb11 = false := Bool.eq_false_iff.2 fun h => Bool.false_ne_true (H.d11 h).2.2.2.2.2.2.2.1
        obtain rfl : tb12 = false := Bool.eq_false_iff.2 fun h => Bool.false_ne_true (H.d12 h).2.2.2.2.2.2.2.1
        have hx_t4 := H.t4
        have hx_t5 := H.t5
        obtain rfl := H.h0 rfl
        obtain rfl := H.h1 rfl
        obtain rfl := H.h2 rfl
        obtain rfl := H.h3 rfl
        obtain ⟨u, rfl⟩ := H.t5 rfl
        refine wpOp_step ho (fun K' hK => ?_)
        have HK := Lib.hid hK
        clear hK ho
        go_simp
        exact HK.out _ _ ⟨_, _, _, _, _, _, _, _, _, _, _, _, _, _, _, _, _, _, _, _, _, _, _, tx10, _, _, rfl, rfl, ⟨H.be, H.d3, H.d4, H.d5, H.d6, (fun _ => rfl), H.d8, H.d10, (fun h => by cases h), (fun h => by cases h), H.t4, H.t5, H.h0, H.h1, H.h2, H.h3, H.h4, H.h5, H.h6, (fun _ => rfl), H.h8, H.h9, H.h10, H.h11, H.h12⟩⟩
      · have ho := hoj
        simp only [List.getElem?_toArray, List.getElem?_cons_succ, List.getElem?_cons_zero, Option.some.injEq] at hoj
        subst hoj
        obtain rfl : tb8 = false := hun
        obtain rfl : tb5 = true := hall ⟨5, .data⟩ (by simp) (by kernel_rfl)
        obtain rfl : tb4 = true := (H.d5 rfl)
        obtain rfl : tb0 = true := (H.d4 rfl).1
        obtain rfl : tb3 = true := (H.d4 rfl).2
        obtain rfl : tb1 = true := (H.d3 rfl).1
        obtain rfl : tb2 = true := (H.d3 rfl).2
        clear hall
        obtain rfl : tb12 = false := Bool.eq_false_iff.2 fun h => Bool.false_ne_true (H.d12 h).2.2.2.2.2.2.2.2.1
        have hx_t4 := H.t4
        have hx_t5 := H.t5
        obtain rfl := H.h0 rfl
        obtain rfl := H.h1 rfl
        obtain rfl := H.h2 rfl
        obtain rfl := H.h3 rfl
        obtain ⟨u, rfl⟩ := H.t5 rfl
        refine wpOp_step ho (fun K' hK => ?_)
        have HK := Lib.hid hK
        clear hK ho
        go_simp
        exact HK.out _ _ ⟨_, _, _, _, _, _, _, _, _, _, _, _, _, _, _, _, _, _, _, _, _, _, _, tx10, _, _, rfl, rfl, ⟨H.be, H.d3, H.d4, H.d5, H.d6, H.d7, (fun _ => rfl), H.d10, H.d11, (fun h => by cases h), H.t4, H.t5, H.h0, H.h1, H.h2, H.h3, H.h4, H.h5, H.h6, H.h7, (fun _ => rfl), H.h9, H.h10, H.h11, H.h12⟩⟩
      · have ho := hoj
        simp only [List.getElem?_toArray, List.getElem?_cons_succ, List.getElem?_cons_zero, Option.some.injEq] at hoj
        subst hoj
        obtain rfl : tb9 = false := hun
        clear hall
        obtain rfl : tb10 = false := Bool.eq_false_iff.2 fun h => Bool.false_ne_true (H.d10 h).2.2.2.2.2.2.2
        obtain rfl : tb11 = false := Bool.eq_false_iff.2 fun h => Bool.false_ne_true (H.d11 h).2.2.2.2.2.2.2.2.1
        obtain rfl : tb12 = false := Bool.eq_false_iff.2 fun h => Bool.false_ne_true (H.d12 h).2.2.2.2.2.2.2.2.2.1
        have hbe := H.be rfl
        have hx_t4 := H.t4
        have hx_t5 := H.t5
        have BA := Lib.hid ((Below.refl w.heap.size w).alloc (Nat.le_refl _) (.cells #[.int .i64 0, .int .i64 0, .slice none 0 0] 24))
        have NA := Lib.hid (heap_alloc_new w (.cells #[.int .i64 0, .int .i64 0, .slice none 0 0] 24))
        have hsz := hbe.size
        refine wpOp_step ho (fun K' hK => ?_)
        have HK := Lib.hid hK
        clear hK ho
        go_simp
        exact HK.out _ _ ⟨_, _, _, _, _, _, _, _, _, _, _, _, _, _, _, _, _, _, _, _, _, _, _, tx10, _, _, rfl, rfl, ⟨(fun _ => hbe.trans (BA.out.mono hbe.size)), H.d3, H.d4, H.d5, H.d6, H.d7, H.d8, (fun h => by cases h), (fun h => by cases h), (fun h => by cases h), hx_t4, hx_t5, H.h0, H.h1, H.h2, H.h3, (fun e f => let ⟨u, e1, e2⟩ := (H.h4 e f); ⟨u, e1, e2.on BA.out⟩), (fun e f => let ⟨u, e1, e2⟩ := (H.h5 e f); ⟨u, e1, e2.on BA.out⟩), (fun e f => (H.h6 e f).on BA.out), H.h7, H.h8, (fun _ _ => ⟨_, rfl, hsz, NA.out⟩), (fun h => by cases h), H.h11, H.h12⟩⟩
      · have ho := hoj
        simp only [List.getElem?_toArray, List.getElem?_cons_succ, List.getElem?_cons_zero, Option.some.injEq] at hoj
        subst hoj
        obtain rfl : tb10 = false := hun
        obtain rfl : tb0 = true := hall ⟨0, .phase⟩ (by simp) (by kernel_rfl)
        obtain rfl : tb1 = true := hall ⟨1, .phase⟩ (by simp) (by kernel_rfl)
        obtain rfl : tb2 = true := hall ⟨2, .phase⟩ (by simp) (by kernel_rfl)
        obtain rfl : tb3 = true := hall ⟨3, .phase⟩ (by simp) (by kernel_rfl)
        obtain rfl : tb4 = true := hall ⟨4, .chain⟩ (by simp) (by kernel_rfl)
        obtain rfl : tb5 = true := hall ⟨5, .phase⟩ (by simp) (by kernel_rfl)
        obtain rfl : tb6 = true := hall ⟨6, .data⟩ (by simp) (by kernel_rfl)
        obtain rfl : tb9 = true := hall ⟨9, .data⟩ (by simp) (by kernel_rfl)
        clear hall
        obtain rfl : tb11 = false := Bool.eq_false_iff.2 fun h => Bool.false_ne_true (H.d11 h).2.2.2.2.2.2.2.2.2
        obtain rfl : tb12 = false := Bool.eq_false_iff.2 fun h => Bool.false_ne_true (H.d12 h).2.2.2.2.2.2.2.2.2.2.1
        have hbe := H.be rfl
        have hx_t4 := H.t4
        have hx_t5 := H.t5
        obtain rfl := H.h0 rfl
        obtain rfl := H.h1 rfl
        obtain rfl := H.h2 rfl
        obtain rfl := H.h3 rfl
        have P4 := H.h4 rfl rfl
        have P5 := H.h5 rfl rfl
        have P6 := H.h6 rfl rfl
        have P9 := H.h9 rfl rfl
        obtain ⟨q, rfl, hq0, hq⟩ := P9
        obtain ⟨A9, n9, c9, r9, p9, rfl, hv9⟩ := tb_partsR P6
        obtain ⟨k1, gp⟩ := bk3_blk hq (.int .i64 r9) (.int .i64 p9) (.slice A9 n9 c9)
        have KQ := Lib.hid k1
        have VQ := Lib.hid ((hv9.gr hq gp).more gp.size)
        have BQ := Lib.hid (hbe.grown gp hbe.size (fun k e => by cases e; exact hq0))
        obtain ⟨q0, q1, q2⟩ := bk3T hq
        have qf := fun i => bk_frz hq i
        clear hq hv9 k1 gp
        refine wpOp_step ho (fun K' hK => ?_)
        have HK := Lib.hid hK
        clear hK ho
        go_simp
        exact HK.out _ _ ⟨_, _, _, _, _, _, _, _, _, _, _, _, _, _, _, _, _, _, _, _, _, _, _, tx10, _, _, rfl, rfl, ⟨(fun h => by cases h), H.d3, H.d4, H.d5, H.d6, H.d7, H.d8, (fun _ => ⟨rfl, rfl, rfl, rfl, rfl, rfl, rfl, rfl⟩), (fun h => by cases h), (fun h => by cases h), H.t4, H.t5, H.h0, H.h1, H.h2, H.h3, (fun _ h => by cases h), (fun _ h => by cases h), (fun _ h => by cases h), H.h7, H.h8, (fun _ h => by cases h), (fun _ => ⟨_, _, _, _, _, _, rfl, hq0, KQ.out, VQ.out, BQ.out⟩), H.h11, H.h12⟩⟩
      · have ho := hoj
        simp only [List.getElem?_toArray, List.getElem?_cons_succ, List.getElem?_cons_zero, Option.some.injEq] at hoj
        subst hoj
        obtain rfl : tb11 = false := hun
        obtain rfl : tb0 = true := hall ⟨0, .phase⟩ (by simp) (by kernel_rfl)
        obtain rfl : tb1 = true := hall ⟨1, .phase⟩ (by simp) (by kernel_rfl)
        obtain rfl : tb2 = true := hall ⟨2, .phase⟩ (by simp) (by kernel_rfl)
        obtain rfl : tb3 = true := hall ⟨3, .phase⟩ (by simp) (by kernel_rfl)
        obtain rfl : tb4 = true := hall ⟨4, .phase⟩ (by simp) (by kernel_rfl)
        obtain rfl : tb5 = true := hall ⟨5, .phase⟩ (by simp) (by kernel_rfl)
        obtain rfl : tb6 = true := hall ⟨6, .phase⟩ (by simp) (by kernel_rfl)
        obtain rfl : tb7 = true := hall ⟨7, .data⟩ (by simp) (by kernel_rfl)
        obtain rfl : tb9 = true := hall ⟨9, .phase⟩ (by simp) (by kernel_rfl)
        obtain rfl : tb10 = true := hall ⟨10, .chain⟩ (by simp) (by kernel_rfl)
        clear hall
        obtain rfl : tb12 = false := Bool.eq_false_iff.2 fun h => Bool.false_ne_true (H.d12 h).2.2.2.2.2.2.2.2.2.2.2
        have hx_t4 := H.t4
        have hx_t5 := H.t5
        obtain rfl := H.h0 rfl
        obtain rfl := H.h1 rfl
        obtain rfl := H.h2 rfl
        obtain rfl := H.h3 rfl
        obtain rfl := H.h7 rfl
        have P10 := H.h10 rfl
        refine wpOp_step ho (fun K' hK => ?_)
        have HK := Lib.hid hK
        clear hK ho
        go_simp
        exact HK.out _ _ ⟨_, _, _, _, _, _, _, _, _, _, _, _, _, _, _, _, _, _, _, _, _, _, _, tx10, _, _, rfl, rfl, ⟨(fun h => by cases h), H.d3, H.d4, H.d5, H.d6, H.d7, H.d8, H.d10, (fun _ => ⟨rfl, rfl, rfl, rfl, rfl, rfl, rfl, rfl, rfl, rfl⟩), (fun h => by cases h), H.t4, H.t5, H.h0, H.h1, H.h2, H.h3, (fun _ h => by cases h), (fun _ h => by cases h), (fun _ h => by cases h), H.h7, H.h8, (fun _ h => by cases h), H.h10, (fun _ => rfl), H.h12⟩⟩
      · have ho := hoj
        simp only [List.getElem?_toArray, List.getElem?_cons_succ, List.getElem?_cons_zero, Option.some.injEq] at hoj
        subst hoj
        obtain rfl : tb12 = false := hun
        obtain rfl : tb0 = true := hall ⟨0, .phase⟩ (by simp) (by kernel_rfl)
        obtain rfl : tb1 = true := hall ⟨1, .phase⟩ (by simp) (by kernel_rfl)
        obtain rfl : tb2 = true := hall ⟨2, .phase⟩ (by simp) (by kernel_rfl)
        obtain rfl : tb3 = true := hall ⟨3, .phase⟩ (by simp) (by kernel_rfl)
        obtain rfl : tb4 = true := hall ⟨4, .phase⟩ (by simp) (by kernel_rfl)
        obtain rfl : tb5 = true := hall ⟨5, .phase⟩ (by simp) (by kernel_rfl)
        obtain rfl : tb6 = true := hall ⟨6, .phase⟩ (by simp) (by kernel_rfl)
        obtain rfl : tb7 = true := hall ⟨7, .phase⟩ (by simp) (by kernel_rfl)
        obtain rfl : tb8 = true := hall ⟨8, .data⟩ (by simp) (by kernel_rfl)
        obtain rfl : tb9 = true := hall ⟨9, .phase⟩ (by simp) (by kernel_rfl)
        obtain rfl : tb10 = true := hall ⟨10, .phase⟩ (by simp) (by kernel_rfl)
        obtain rfl : tb11 = true := hall ⟨11, .chain⟩ (by simp) (by kernel_rfl)
        clear hall
        have hx_t4 := H.t4
        have hx_t5 := H.t5
        obtain rfl := H.h0 rfl
        obtain rfl := H.h1 rfl
        obtain rfl := H.h2 rfl
        obtain rfl := H.h3 rfl
        obtain rfl := H.h7 rfl
        obtain rfl := H.h8 rfl
        have P10 := H.h10 rfl
        obtain rfl := H.h11 rfl
        refine wpOp_step ho (fun K' hK => ?_)
        have HK := Lib.hid hK
        clear hK ho
        go_simp
        exact HK.out _ _ ⟨_, _, _, _, _, _, _, _, _, _, _, _, _, _, _, _, _, _, _, _, _, _, _, tx10, _, _, rfl, rfl, ⟨(fun h => by cases h), H.d3, H.d4, H.d5, H.d6, H.d7, H.d8, H.d10, H.d11, (fun _ => ⟨rfl, rfl, rfl, rfl, rfl, rfl, rfl, rfl, rfl, rfl, rfl, rfl⟩), H.t4, H.t5, H.h0, H.h1, H.h2, H.h3, (fun _ h => by cases h), (fun _ h => by cases h), (fun _ h => by cases h), H.h7, H.h8, (fun _ h => by cases h), H.h10, H.h11, (fun _ => rfl)⟩⟩
      · have ho := hoj
        simp at ho
    case hfin =>
      rintro listed a w ⟨tb0, tb1, tb2, tb3, tb4, tb5, tb6, tb7, tb8, tb9, tb10, tb11, tb12, tx0, tx1, tx2, tx3, tx4, tx5, tx6, tx7, tx8, tx9, tx10, tx11, tx12, rfl, rfl, H⟩ hr
      have hb : tb12 = true := by
        clear H
        obtain rfl : tb0 = true := by
          cases tb0
          · exact absurd hr (ready_ne4 (by kernel_rfl))
          · rfl
        obtain rfl : tb1 = true := by
          cases tb1
          · exact absurd hr (ready_ne4 (by kernel_rfl))
          · rfl
        obtain rfl : tb2 = true := by
          cases tb2
          · exact absurd hr (ready_ne4 (by kernel_rfl))
          · rfl
        obtain rfl : tb3 = true := by
          cases tb3
          · exact absurd hr (ready_ne4 (by kernel_rfl))
          · rfl
        obtain rfl : tb4 = true := by
          cases tb4
          · exact absurd hr (ready_ne4 (by kernel_rfl))
          · rfl
        obtain rfl : tb5 = true := by
          cases tb5
          · exact absurd hr (ready_ne4 (by kernel_rfl))
          · rfl
        obtain rfl : tb6 = true := by
          cases tb6
          · exact absurd hr (ready_ne4 (by kernel_rfl))
          · rfl
        obtain rfl : tb7 = true := by
          cases tb7
          · exact absurd hr (ready_ne4 (by kernel_rfl))
          · rfl
        obtain rfl : tb8 = true := by
          cases tb8
          · exact absurd hr (ready_ne4 (by kernel_rfl))
          · rfl
        obtain rfl : tb9 = true := by
          cases tb9
          · exact absurd hr (ready_ne4 (by kernel_rfl))
          · rfl
        obtain rfl : tb10 = true := by
          cases tb10
          · exact absurd hr (ready_ne4 (by kernel_rfl))
          · rfl
        obtain rfl : tb11 = true := by
          cases tb11
          · exact absurd hr (ready_ne4 (by kernel_rfl))
          · rfl
        obtain rfl : tb12 = true := by
          cases tb12
          · exact absurd hr (ready_ne4 (by kernel_rfl))
          · rfl
        rfl
      subst hb
      clear hr
      obtain rfl : tb0 = true := (H.d12 rfl).1
      obtain rfl : tb1 = true := (H.d12 rfl).2.1
      obtain rfl : tb2 = true := (H.d12 rfl).2.2.1
      obtain rfl : tb3 = true := (H.d12 rfl).2.2.2.1
      obtain rfl : tb4 = true := (H.d12 rfl).2.2.2.2.1
      obtain rfl : tb5 = true := (H.d12 rfl).2.2.2.2.2.1
      obtain rfl : tb6 = true := (H.d12 rfl).2.2.2.2.2.2.1
      obtain rfl : tb7 = true := (H.d12 rfl).2.2.2.2.2.2.2.1
      obtain rfl : tb8 = true := (H.d12 rfl).2.2.2.2.2.2.2.2.1
      obtain rfl : tb9 = true := (H.d12 rfl).2.2.2.2.2.2.2.2.2.1
      obtain rfl : tb10 = true := (H.d12 rfl).2.2.2.2.2.2.2.2.2.2.1
      obtain rfl : tb11 = true := (H.d12 rfl).2.2.2.2.2.2.2.2.2.2.2
      obtain ⟨q, A9, n9, c9, r9, p9, e9, hq0, hq, hv9, hb9⟩ := H.h10 rfl
      have e7 := H.h11 rfl
      have e8 := H.h12 rfl
      have HQ8 := Lib.hid hq
      have HV8 := Lib.hid hv9
      have HB8 := Lib.hid hb9
      clear hq hv9 hb9 H hq0
      obtain ⟨w8, hw9⟩ : ∃ x, x = w := ⟨_, rfl⟩
      subst w
      subst e7 e8 e9
      obtain ⟨s9, es9, hs9⟩ := HV8.out.ex
      obtain ⟨A10, c10, rfl, hl10, hc10, r10⟩ := hs9.ex
      have QQ := HQ8.out
      cases es9
      rw [HUr.out, HUp.out, HUN.out] at QQ
      have F8 := Lib.hid ((HB8.out.block _ (lt_of_block F7.out)).trans F7.out)
      have G8 := Lib.hid ((HB8.out.block _ (lt_of_block G7.out)).trans G7.out)
      have Q8 := Lib.hid QQ
      have B8 := Lib.hid (B7.out.trans (HB8.out.mono B7.out.size))
      have R8 := Lib.hid (R7.out.on HB8.out)
      have U8 := Lib.hid (U7.out.on HB8.out)
      have L8 := Lib.hid (Q7.out.on HB8.out)
      have W8 := Lib.hid r10
      have hTp : T.put = (L : Int) := by
        obtain ⟨_, e, _⟩ := V6.out.ex
        injection e with e
        simp only [Array.mk.injEq, List.cons.injEq, Value.int.injEq, true_and] at e
        exact e.2.1.symm
      have hW1 := HW1.out
      rw [hTp, HUp.out] at hW1
      have HWL := Lib.hid HW2.out
      have HWE := Lib.hid HW3.out
      rw [hTp, HUp.out] at HWL HWE
      have hnm : (n : Int) + (m : Int) = (tl : Int) := by have := HM.out; have := HNI.out; omega
      have hnw : IntKind.i64.wrap ((n : Int) + (m : Int)) = (tl : Int) := by rw [hnm, IntKind.wrap_i64]; have := HTLB.out; omega
      have HMW := Lib.hid hnw
      clear QQ r10 hs9 hl10 hc10 hnm hnw hTp HQ8 HV8
      go_wp2_with fail
      refine (HFT.out _).mono ?_
      rintro e w9 ⟨rfl, b9⟩
      have F9 := Lib.hid ((b9.block _ (lt_of_block F8.out)).trans F8.out)
      have G9 := Lib.hid ((b9.block _ (lt_of_block G8.out)).trans G8.out)
      have Q9 := Lib.hid ((b9.block _ (lt_of_block Q8.out)).trans Q8.out)
      have B9 := Lib.hid (B8.out.trans (b9.mono B8.out.size))
      have R9 := Lib.hid (R8.out.on b9)
      have U9 := Lib.hid (U8.out.on b9)
      have L9 := Lib.hid (L8.out.on b9)
      have W9 := Lib.hid (W8.out.on b9)
      clear b9
      obtain ⟨q0, q1, q2⟩ := bk3T Q9.out
      obtain ⟨z0, z1, z2⟩ := bk3T G9.out
      have hnw := HMW.out
      go_wp2_with fail
      refine (ksameFd_eq _ _ un _ _ U.rows _ W9.out U9.out HUN.out HUR.out).mono ?_
      clear q0 q1 q2 z0 z1 z2 hnw
      rintro e w10 ⟨rfl, b10⟩
      have F10 := Lib.hid ((b10.block _ (lt_of_block F9.out)).trans F9.out)
      have G10 := Lib.hid ((b10.block _ (lt_of_block G9.out)).trans G9.out)
      have B10 := Lib.hid (B9.out.trans (b10.mono B9.out.size))
      have R10 := Lib.hid (R9.out.on b10)
      have L10 := Lib.hid (L9.out.on b10)
      clear b10
      obtain ⟨q0, q1, q2⟩ := bk3T F10.out
      obtain ⟨z0, z1, z2⟩ := bk3T G10.out
      by_cases hlt : (L : Int) < up
      · obtain ⟨rfl, rfl⟩ := Prod.mk.inj (HWL.out hlt)
        clear hW1
        go_wp2_with fail
        go_ret
        exact ⟨by first | rfl | simp, B10.out⟩
      · obtain rfl : up = (L : Int) := by omega
        obtain ⟨rfl, rfl⟩ := Prod.mk.inj (HWE.out rfl)
        have hlf : ¬ (L : Int) < (L : Int) := hlt
        clear hW1 hlt
        rw [HNL.out]
        go_wp2_with fail
        refine (ksameFd_eq _ _ nl _ _ _ _ L10.out R10.out HNL.out (by have := HN8.out; omega)).mono ?_
        rintro e w11 ⟨rfl, b11⟩
        have B11 := Lib.hid (B10.out.trans (b11.mono B10.out.size))
        clear b11 q0 q1 q2 z0 z1 z2
        go_wp2_with fail
        go_ret
        exact ⟨by first | rfl | simp, B11.out⟩
end Go.Proofs.Ytlddbojfikkhfaa
/- The walk of FieldsLater. -/
namespace Go.Proofs.Ytlddbojfikkhfaa.P
set_option linter.unusedVariables false
open Go.RowKit
theorem RawRow.cutTo {w : World} {B : Nat} {A : Option Addr} {rs : List RawT} (h : RawRow w B A rs) (k : Nat) : RawRow w B A (rs.take k) := fun hn => by
  rw [List.length_take] at hn
  obtain ⟨b, off, e, hb, hc⟩ := h (by omega)
  refine ⟨b, off, e, hb, fun i hi => ?_⟩
  rw [List.length_take] at hi
  have := hc i (by omega)
  rw [show (rs.take k).getD i raw0 = rs.getD i raw0 by rw [List.getD_eq_getElem?_getD, List.getElem?_take, if_pos (by omega), ← List.getD_eq_getElem?_getD]]
  exact this
theorem raw_take {rs : List RawT} {i k : Nat} (h : i < k) : (rs.take k).getD i raw0 = rs.getD i raw0 := by
  rw [List.getD_eq_getElem?_getD, List.getElem?_take, if_pos h, ← List.getD_eq_getElem?_getD]
theorem RowE.grT {w w' : World} {B : Nat} {A : Option Addr} {l : List Fld} {k : Nat} {a0 a1 : Int} {p : Option Addr} {n c : Nat} {T : TypeId} (h : RowE FdE w B A l) (hk : w.heap[k]? = some (.cells #[.int .i64 a0, .int .i64 a1, .slice p n c] T (0, 0))) (g : w.grownBy w' (some k)) : RowE FdE w' B A l := fun hn => by
  obtain ⟨b, off, e', hb, hc⟩ := h hn
  refine ⟨b, off, e', hb, fun j u hj => g.cell (hc j u hj) ?_⟩
  intro q
  cases q
  have := RowE.at hc 0 0 hn (by decide)
  rw [bk_cell hk] at this
  generalize off + (0 * FdE.k + 0) = o at this
  rcases o with _ | _ | _ | o
  · cases this
  · cases this
  · cases this
  · cases this
theorem BSl.grT {w w' : World} {B : Nat} {v : Value} {zs : List Int} {k : Nat} {a0 a1 : Int} {p : Option Addr} {n c : Nat} {T : TypeId} (h : BSl w B v zs) (hk : w.heap[k]? = some (.cells #[.int .i64 a0, .int .i64 a1, .slice p n c] T (0, 0))) (g : w.grownBy w' (some k)) : BSl w' B v zs := by
  obtain ⟨A, cp, e, h1, h2, h3, h4⟩ := h.ex
  refine ⟨A, cp, e, h1, h2, h3, h4.1, fun hn => ?_⟩
  obtain ⟨b, off, e', hb, hc⟩ := h4.2 hn
  refine ⟨b, off, e', hb, fun j hj => g.cell (hc j hj) ?_⟩
  intro q
  cases q
  have := hc 0 hn
  rw [bk_cell hk] at this
  generalize off + 0 = o at this
  rcases o with _ | _ | _ | o
  · cases this
  · cases this
  · cases this
  · cases this
/-- what lies in memory between the rounds: the table in its box, the section, the fields -/
structure LtI (W : World) (qB : Nat) (T : TypeId) (r p : Int) (A : Option Addr) (n c : Nat) (Wt : Tb) (se : Value) (sec : List Int) (Al : Option Addr) (l : List Fld) (w : World) : Prop where
  k : w.heap[qB]? = some (.cells #[.int .i64 r, .int .i64 p, .slice A n c] T (0, 0))
  v : TbVal w w.heap.size (.agg #[.int .i64 r, .int .i64 p, .slice A n c]) Wt
  e : BSl w w.heap.size se sec
  r : RowE FdE w w.heap.size Al l
  b : Below W.heap.size W w
  lo : W.heap.size ≤ qB
theorem LtI.later {W : World} {k : Nat} {T : TypeId} {r p : Int} {A : Option Addr} {n c : Nat} {Wt : Tb} {se : Value} {sec : List Int} {Al : Option Addr} {l : List Fld} {w w' : World} (h : LtI W k T r p A n c Wt se sec Al l w) (b : Below w.heap.size w w') : LtI W k T r p A n c Wt se sec Al l w' :=
  ⟨(b.block _ (lt_of_block h.k)).trans h.k, h.v.on b, (h.e.below b).more b.size, h.r.on b, h.b.trans (b.mono h.b.size), h.lo⟩
theorem LtI.put {W : World} {k : Nat} {T : TypeId} {r p r' p' : Int} {A A' : Option Addr} {n c n' c' : Nat} {Wt Wn : Tb} {se : Value} {sec : List Int} {Al : Option Addr} {l : List Fld} {w w' : World} (h : LtI W k T r p A n c Wt se sec Al l w) (hk : w'.heap[k]? = some (.cells #[.int .i64 r', .int .i64 p', .slice A' n' c'] T (0, 0))) (g : w.grownBy w' (some k)) (hv : TbVal w w.heap.size (.agg #[.int .i64 r', .int .i64 p', .slice A' n' c']) Wn) : LtI W k T r' p' A' n' c' Wn se sec Al l w' :=
  ⟨hk, (hv.gr h.k g).more g.size, (h.e.grT h.k g).more g.size, (h.r.grT h.k g).more g.size, h.b.grown g h.b.size (fun j e => by cases e; exact h.lo), h.lo⟩
end Go.Proofs.Ytlddbojfikkhfaa.P
namespace Go.Proofs.Ytlddbojfikkhfaa
set_option linter.unusedVariables false
open Go.RowKit P
theorem someK (k : Nat) (hk : k ≤ 1000) (A : Option Addr) (len cap : Nat) (w : World) (hl : len ≤ cap) (hc : cap ≤ maxLen) :
    Calls Try.prog 27 #[.slice A len cap, .int .i64 k] w fun e w' => e = .returned (.slice A (min len k) cap) ∧ w = w' := by
  unfold maxLen at hc
  by_cases h : k < len
  · have e := Lib.hid (show min len k = k by omega)
    go_enter Try.func27, Try.ntmps27
    go_wp2
    go_ret
    exact ⟨by rw [e.out]; rfl, rfl⟩
  · have e := Lib.hid (show min len k = len by omega)
    go_enter Try.func27, Try.ntmps27
    go_wp2
    go_ret
    exact ⟨by rw [e.out]; rfl, rfl⟩
structure FlC (w0 : World) (kd ra rb : Int) (tx S1 S2 : ByteArray) (r9 p9 : Int) (A9 : Option Addr) (n9 c9 : Nat) (Wn : Tb) (g : Int) (V0 V1 V2 V6 V9 : Value) (sb0 sb1 sb2 sb3 sb4 sb5 sb6 sb7 sb8 sb9 : Bool) (sx0 sx1 sx2 sx3 sx4 sx5 sx6 sx7 sx8 sx9 : Value) (w : World) : Prop where
  be : sb8 = false → Below w0.heap.size w0 w
  d2 : sb2 = true → sb1 = true
  d3 : sb3 = true → sb0 = true ∧ sb2 = true
  d4 : sb4 = true → sb3 = true
  d5 : sb5 = true → sb4 = true
  d6 : sb6 = true → sb4 = true
  d8 : sb8 = true → sb0 = true ∧ sb1 = true ∧ sb2 = true ∧ sb3 = true ∧ sb4 = true ∧ sb5 = true ∧ sb7 = true
  d9 : sb9 = true → sb0 = true ∧ sb1 = true ∧ sb2 = true ∧ sb3 = true ∧ sb4 = true ∧ sb5 = true ∧ sb6 = true ∧ sb7 = true ∧ sb8 = true
  t3 : sb3 = true → ∃ u, sx3 = .tuple #[u, .int .i64 g]
  t4 : sb4 = true → ∃ u, sx4 = .tuple #[u, .int .i64 g]
  h0 : sb0 = true → sx0 = V0
  h1 : sb1 = true → sx1 = V1
  h2 : sb2 = true → sx2 = V2
  h3 : sb3 = true → sb8 = false → ∃ u, sx3 = .tuple #[u, .int .i64 g] ∧ TbVal w w.heap.size u Wn
  h4 : sb4 = true → sb8 = false → ∃ u, sx4 = .tuple #[u, .int .i64 g] ∧ TbVal w w.heap.size u Wn
  h5 : sb5 = true → sb8 = false → TbVal w w.heap.size sx5 Wn
  h6 : sb6 = true → sx6 = V6
  h7 : sb7 = true → sb8 = false → ∃ q, sx7 = .pointer (some ⟨q, 0, none⟩) ∧ w0.heap.size ≤ q ∧ w.heap[q]? = some (.cells #[.int .i64 0, .int .i64 0, .slice none 0 0] 24 (0, 0))
  h8 : sb8 = true → ∃ q A n c r p, sx7 = .pointer (some ⟨q, 0, none⟩) ∧ w0.heap.size ≤ q ∧ w.heap[q]? = some (.cells #[.int .i64 r, .int .i64 p, .slice A n c] 24 (0, 0)) ∧ TbVal w w.heap.size (.agg #[.int .i64 r, .int .i64 p, .slice A n c]) Wn ∧ Below w0.heap.size w0 w
  h9 : sb9 = true → sx9 = V9
set_option maxRecDepth 100000 in
set_option maxHeartbeats 8000000 in
theorem fieldsLater_walk (a1 : Option Addr) (n1 c1 : Nat) (rs1 : List RawT) (a2 : Option Addr) (n2 c2 : Nat) (rs2 : List RawT) (a3 : Option Addr) (n3 c3 : Nat) (rs3 : List RawT) (W : World)
    (hrow1 : RawRow W W.heap.size a1 rs1) (hn1 : rs1.length = n1) (hnc1 : n1 ≤ c1) (hc1 : c1 ≤ maxLen) (hbt1 : ∀ i, i < n1 → (rs1.getD i raw0).text.size ≤ maxLen)
    (hrow2 : RawRow W W.heap.size a2 rs2) (hn2 : rs2.length = n2) (hnc2 : n2 ≤ c2) (hc2 : c2 ≤ maxLen) (hbt2 : ∀ i, i < n2 → (rs2.getD i raw0).text.size ≤ maxLen)
    (hrow3 : RawRow W W.heap.size a3 rs3) (hn3 : rs3.length = n3) (hnc3 : n3 ≤ c3) (hc3 : c3 ≤ maxLen) (hbt3 : ∀ i, i < n3 → (rs3.getD i raw0).text.size ≤ maxLen) :
    Calls Try.prog 8 #[.slice a1 n1 c1, .slice a2 n2 c2, .slice a3 n3 c3] W fun e w' => e = .returned (.bool true) ∧ Below W.heap.size W w' := by
  have HS2 := Lib.hid (fun w => someK 2 (by decide) a1 n1 c1 w hnc1 hc1)
  have HS3 := Lib.hid (fun w => someK 3 (by decide) a3 n3 c3 w hnc3 hc3)
  have HTO := Lib.hid (fun w (hb : Below W.heap.size W w) => tableOf_any tinsN_any tsize_any 119 a1 (min n1 2) c1 (rs1.take (min n1 2)) w (RawRow.cutTo (rawRow_onK hrow1 hb) _) (by rw [List.length_take]; omega) (by omega) hc1 (fun i hi => by rw [raw_take (by omega)]; exact hbt1 i (by omega)))
  obtain ⟨m1, hm1⟩ : ∃ m, min n1 2 = m := ⟨_, rfl⟩
  rw [hm1] at HS2 HTO
  obtain ⟨N3, hN3⟩ : ∃ m, min n3 3 = m := ⟨_, rfl⟩
  rw [hN3] at HS3
  have hN3n : N3 ≤ n3 := by omega
  have HRW := Lib.hid hrow3
  have HRN := Lib.hid hn3
  have HRB := Lib.hid hbt3
  unfold maxLen at hc3
  clear hm1 hN3 hrow3 hn3 hbt3
  have HFO := Lib.hid (fun w (hb : Below W.heap.size W w) => fieldsOf_any a2 n2 c2 rs2 w (rawRow_onK hrow2 hb) hn2 hnc2 hc2 hbt2)
  have HFT := Lib.hid (fun w => fieldsTell_any w)
  obtain ⟨room, hroom⟩ : ∃ room, 40 + (119 : Int) % 121 = room := ⟨_, rfl⟩
  have hrb : 0 ≤ room ∧ room ≤ 160 := by omega
  rw [hroom] at HTO
  have hlw : ∀ f ∈ fsOf rs2, FdWf f := fun f hf => (fsOf_ok rs2 f hf).2
  have hl0 := fsOf_fault rs2
  have hl8 : (fsOf rs2).length ≤ 8 := by rw [fsOf_len]; omega
  obtain ⟨l, hl⟩ : ∃ l, fsOf rs2 = l := ⟨_, rfl⟩
  rw [hl] at HFO hlw hl0 hl8
  obtain ⟨nl, hnl⟩ : ∃ n, l.length = n := ⟨_, rfl⟩
  rw [hnl] at HFO hl8
  clear hroom hrow1 hn1 hnc1 hc1 hbt1 hrow2 hn2 hnc2 hc2 hbt2 hl
  go_enter Try.func8, Try.ntmps8
  go_wp2_with (go_at_call 27; refine (HS2.out _).mono ?_; rintro e w' ⟨rfl, rfl⟩)
  refine (HTO.out _ (Below.refl _ _)).mono ?_
  rintro e w1 ⟨all, At, Aa, ct, ca, hall, rfl, h1, h2, h3, h4, r1, r2, b1⟩
  obtain ⟨f1, f2⟩ := tabOf_all hall
  have h0 : faultTb (tabF room all) = 0 := (faultTb_iff _).2 (tabF_ok hrb (by omega) (fun f hf => (f2 f hf).1))
  have hTW : TbWf (tabF room all) := tabWf hrb (by omega) (fun x hx => (f2 x hx).2)
  have hv1 : TbVal w1 w1.heap.size (.agg #[.int .i64 room, .int .i64 (all.length : Int), .slice At (young room all).length ct]) (tabF room all) := ⟨_, rfl, At, ct, rfl, h1, h2, r1⟩
  obtain ⟨L, hL⟩ : ∃ L, all.length = L := ⟨_, rfl⟩
  obtain ⟨M, hM⟩ : ∃ M, (young room all).length = M := ⟨_, rfl⟩
  obtain ⟨T, hT⟩ : ∃ T, tabF room all = T := ⟨_, rfl⟩
  rw [hL, hM, hT] at hv1
  rw [hT] at h0 hTW
  rw [hL, hM]
  have X1 := Lib.hid ((Below.refl w1.heap.size w1).alloc (Nat.le_refl _) (.cells #[.int .i64 room, .int .i64 (L : Int), .slice At M ct] 24))
  have F1 := heap_alloc_new w1 (.cells #[.int .i64 room, .int .i64 (L : Int), .slice At M ct] 24)
  have BB1 := b1.trans (X1.out.mono b1.size)
  have VV1 := hv1.on X1.out
  obtain ⟨k1, hk1⟩ : ∃ k, w1.heap.size = k := ⟨_, rfl⟩
  rw [hk1] at F1
  clear b1 hall h1 h2 h3 h4 r1 r2 f1 f2 hv1 hM hT
  go_upto_region 2 with fail
  obtain ⟨w2, hw2⟩ : ∃ w9, w1.alloc (.cells #[.int .i64 room, .int .i64 (L : Int), .slice At M ct] 24) = w9 := ⟨_, rfl⟩
  rw [hw2] at F1 BB1 VV1 ⊢
  have F2 := Lib.hid F1
  have B2 := Lib.hid BB1
  have V2 := Lib.hid VV1
  clear X1 F1 BB1 VV1 hw2 hk1
  go_wp2_with fail
  refine (HFO.out _ B2.out).mono ?_
  rintro e w3 ⟨b3, Al, cl, rfl, s1, s2, rl⟩
  have F3 := Lib.hid ((b3.block _ (lt_of_block F2.out)).trans F2.out)
  have B3 := Lib.hid (B2.out.trans (b3.mono B2.out.size))
  have V3 := Lib.hid (V2.out.on b3)
  have R3 := Lib.hid rl
  have HE := Lib.hid (fdenc_any _ T Al nl cl l true w3 V3.out hTW rl hnl hlw (by omega))
  rw [encFl_ok h0 hl0] at HE
  dsimp only at HE
  have hTL := tell_lenB (ahead := true) (t := T) hl0 hlw
  have hSL := sec_len (ahead := true) h0 hl0 hlw
  have hHE := encFl_heard (ahead := true) h0 hl0
  have HLT := Lib.hid (fun gs w (hI : Ins (encAll true T l).t gs w) => encFl_later (ahead := true) h0 hl0 hI)
  have hUF := (encAll_inv h0 true l ((faultFl_iff l).1 hl0).2).f
  have hTB := tell_byt (ahead := true) (t := T) l hlw ((faultFl_iff l).1 hl0).2
  have hUW : TbWf (encAll true T l).t := by have := appAll_wf hTW hTB (by omega); rwa [hHE] at this
  obtain ⟨tell, htell⟩ : ∃ x, (encAll true T l).tell = x := ⟨_, rfl⟩
  obtain ⟨sec, hsec⟩ : ∃ x, linesT (encAll true T l).need l (encAll true T l).refs = x := ⟨_, rfl⟩
  obtain ⟨U, hU⟩ : ∃ x, (encAll true T l).t = x := ⟨_, rfl⟩
  rw [htell] at HE hTL hHE hTB
  rw [hsec] at HE hSL HLT
  rw [hU] at HE hHE hUW hUF HLT
  have HUR := Lib.hid (show U.rows.length ≤ 8796093022208 from hUW.len)
  have HD := Lib.hid (fun s w v Wt (hv : TbVal w w.heap.size v Wt) (hw : TbWf Wt) (hs : BSl w w.heap.size s sec) => fddec_any v s Wt sec w hv hw hs (by omega))
  have HUWH := Lib.hid hUW
  obtain ⟨tl, htl⟩ : ∃ n, tell.length = n := ⟨_, rfl⟩
  rw [htl] at hTL
  have HNL := Lib.hid hnl
  have HN8 := Lib.hid hl8
  clear b3 rl hTW hlw h0 hl0 hl8 hnl hSL hHE hUF hTB hUW htell hsec hU s1 s2
  obtain ⟨q0, q1, q2⟩ := bk3T F3.out
  go_wp2_with fail
  refine (HE.out).mono ?_
  clear q0 q1 q2
  rintro e w4 ⟨b4, v4, d1, d2, rfl, hv4, hd1, hd2⟩
  obtain ⟨s4, rfl, hs4⟩ := hv4.ex
  obtain ⟨A4, c4, rfl, _, _, ru4⟩ := hs4.ex
  obtain ⟨Ad, cd, rfl, _, _, _, _⟩ := id hd1
  obtain ⟨Ae, ce, rfl, _, _, _, _⟩ := id hd2
  rw [htl] at hd1 ⊢
  obtain ⟨ur, hur⟩ : ∃ x, U.room = x := ⟨_, rfl⟩
  obtain ⟨up, hup⟩ : ∃ x, U.put = x := ⟨_, rfl⟩
  obtain ⟨un, hun⟩ : ∃ x, U.rows.length = x := ⟨_, rfl⟩
  obtain ⟨sn, hsn⟩ : ∃ x, sec.length = x := ⟨_, rfl⟩
  rw [hsn] at hd2 ⊢
  rw [hur, hup, hun] at hv4 ⊢
  rw [hun] at HUR
  have HUN := Lib.hid hun
  have HUr := Lib.hid hur
  have HUp := Lib.hid hup
  have X4 := (Below.refl w4.heap.size w4).alloc (Nat.le_refl _) (.cells #[.int .i64 ur, .int .i64 up, .slice A4 un c4] 24)
  have GG := heap_alloc_new w4 (.cells #[.int .i64 ur, .int .i64 up, .slice A4 un c4] 24)
  have bb := b4.trans (X4.mono b4.size)
  have FF := (bb.block _ (lt_of_block F3.out)).trans F3.out
  have BB := B3.out.trans (bb.mono B3.out.size)
  have VV := V3.out.on bb
  have RR := R3.out.on bb
  have RU := ru4.on X4
  have VU := hv4.on X4
  have S1 := bsl_onF hd1 X4
  have S2 := bsl_onF hd2 X4
  obtain ⟨k4, hk4⟩ : ∃ k, w4.heap.size = k := ⟨_, rfl⟩
  rw [hk4] at GG
  clear b4 bb hv4 hs4 hd1 hd2 ru4 X4 hur hup hun htl hsn
  go_upto_region 4 with fail
  obtain ⟨w5, hw5⟩ : ∃ w9, w4.alloc (.cells #[.int .i64 ur, .int .i64 up, .slice A4 un c4] 24) = w9 := ⟨_, rfl⟩
  rw [hw5] at FF GG BB VV RR RU VU S1 S2 ⊢
  have F5 := Lib.hid FF
  have G5 := Lib.hid GG
  have B5 := Lib.hid BB
  have V5 := Lib.hid VV
  have R5 := Lib.hid RR
  have U5 := Lib.hid VU
  have S5 := Lib.hid S1
  have E5 := Lib.hid S2
  clear hw5 hk4 FF GG BB VV RR RU VU S1 S2
  obtain ⟨q0, q1, q2⟩ := bk3T G5.out
  have X6 := (Below.refl w5.heap.size w5).alloc (Nat.le_refl _) (.cells #[.int .i64 ur, .int .i64 up, .slice A4 un c4] 24)
  have I6 := LtI.mk (W := W) (qB := w5.heap.size) (heap_alloc_new w5 (.cells #[.int .i64 ur, .int .i64 up, .slice A4 un c4] 24)) (U5.out.on X6) (bsl_onF E5.out X6) (R5.out.on X6) (B5.out.trans (X6.mono B5.out.size)) B5.out.size
  obtain ⟨kW, hkW⟩ : ∃ k, w5.heap.size = k := ⟨_, rfl⟩
  rw [hkW] at I6
  go_upto_region 5 with fail
  obtain ⟨w6, hw6⟩ : ∃ w9, w5.alloc (.cells #[.int .i64 ur, .int .i64 up, .slice A4 un c4] 24) = w9 := ⟨_, rfl⟩
  rw [hw6] at I6 ⊢
  have J6 := Lib.hid I6
  clear hw6 hkW X6 I6 q0 q1 q2
  go_wp2_with (go_at_call 27; refine (HS3.out _).mono ?_; rintro e w' ⟨rfl, rfl⟩)
  go_loopg [44] N3 (fun gq iv wr => ∃ (i : Nat) (r9 p9 : Int) (A9 : Option Addr) (n9 c9 : Nat) (Wt : Tb) (gs : List Fld), iv = .int .i64 i ∧ i + gq = N3 ∧ Hid (Ins U gs Wt) ∧ Hid (TbWf Wt) ∧ Hid (LtI W kW 24 r9 p9 A9 n9 c9 Wt (.slice Ae sn ce) sec Al l wr))
  case atStart => exact ⟨0, _, _, _, _, _, U, [], rfl, by omega, Lib.hid (Ins.nil _), HUWH, J6⟩
  case round =>
    obtain ⟨i, r9, p9, A9, n9, c9, Wt, gs, rfl, hig, HIN0, HWW, IW⟩ := hrel
    by_cases hlt : i < N3
    · have hir : i < rs3.length := by rw [HRN.out]; omega
      obtain ⟨b, off, hA, hbl, hcell⟩ := HRW.out (by omega)
      obtain ⟨x0, x1, x2, x3⟩ := hcell i hir
      have HTX := Lib.hid (HRB.out i (by omega))
      have hfw := fldOf_ok (rs3.getD i raw0)
      obtain ⟨rw0, hrw⟩ : ∃ r, rs3.getD i raw0 = r := ⟨_, rfl⟩
      rw [hrw] at x0 x1 x2 x3 HTX hfw
      obtain ⟨kd, ra, rb, tx⟩ := rw0
      simp only at x0 x1 x2 x3 HTX
      have HFO := Lib.hid (fun w => fieldOf_any kd ra rb tx HTX.out w)
      obtain ⟨f, hf⟩ : ∃ f, fldOf ⟨kd, ra, rb, tx⟩ = f := ⟨_, rfl⟩
      rw [hf] at HFO hfw
      have HFW := Lib.hid hfw.2
      have HFK := Lib.hid hfw.1
      have HW9 := Lib.hid (insT_wf HWW.out HFW.out)
      have HSN := Lib.hid (fun k => HIN0.out.snoc HFK.out k)
      subst hA
      have y0 := (IW.out.b.cell (p := ⟨b, off + i * 4, none⟩) hbl).trans x0
      have y1 := (IW.out.b.cell (p := ⟨b, off + i * 4 + 1, none⟩) hbl).trans x1
      have y2 := (IW.out.b.cell (p := ⟨b, off + i * 4 + 2, none⟩) hbl).trans x2
      have y3 := (IW.out.b.cell (p := ⟨b, off + i * 4 + 3, none⟩) hbl).trans x3
      have HINS := Lib.hid (fun w v (hv : TbVal w w.heap.size v Wt) => (TbInsN.ins tinsN_any) v Wt f w hv HWW.out HFW.out)
      obtain ⟨⟨Wn, g⟩, hg⟩ : ∃ r, insT Wt f = r := ⟨_, rfl⟩
      rw [hg] at HINS HW9 HSN
      unfold TbRes fdV at HINS
      unfold fdV at HFO
      dsimp only at HINS HW9 HSN
      obtain ⟨S1, hS1⟩ : ∃ S, strOfNums f.name = S := ⟨_, rfl⟩
      obtain ⟨S2, hS2⟩ : ∃ S, strOfNums f.val = S := ⟨_, rfl⟩
      rw [hS1, hS2] at HFO HINS
      have hnk : (i : Int) < (N3 : Int) := by omega
      have hX7 := (Below.refl wr.heap.size wr).alloc (Nat.le_refl _) (.cells #[.int .i64 kd, .int .i64 ra, .int .i64 rb, .string tx] 53)
      have hN7 := heap_alloc_new wr (.cells #[.int .i64 kd, .int .i64 ra, .int .i64 rb, .string tx] 53)
      have hI7 := IW.out.later hX7
      obtain ⟨kR, hkR⟩ : ∃ k, wr.heap.size = k := ⟨_, rfl⟩
      rw [hkR] at hN7
      clear x0 x1 x2 x3 hcell hrw hf hfw hS1 hS2 hir hbl hg
      go_upto_region 8 with fail
      obtain ⟨w7, hw7⟩ : ∃ x, wr.alloc (.cells #[.int .i64 kd, .int .i64 ra, .int .i64 rb, .string tx] 53) = x := ⟨_, rfl⟩
      rw [hw7] at hN7 hI7 ⊢
      have K7 := Lib.hid hN7
      have I7 := Lib.hid hI7
      have HIN := Lib.hid (fun w (hb : Below w7.heap.size w7 w) => HINS.out w _ (I7.out.v.on hb))
      clear hN7 hI7 hw7 hkR hX7 y0 y1 y2 y3
      refine wp_region_inv (fun lis_ act_ wld_ => ∃ (sb0 sb1 sb2 sb3 sb4 sb5 sb6 sb7 sb8 sb9 : Bool) (sx0 sx1 sx2 sx3 sx4 sx5 sx6 sx7 sx8 sx9 : Value), lis_ = #[sb0, sb1, sb2, sb3, sb4, sb5, sb6, sb7, sb8, sb9] ∧ act_ = { tmps := #[Value.slice a1 n1 c1, Value.slice a2 n2 c2, Value.slice (some { block := b, off := off }) n3 c3, undef, undef, undef, Value.bool false, Value.pointer (some { block := k1, off := 0 }), Value.slice Aa L ca, Value.bool true, Value.slice Al nl cl, Value.pointer (some { block := k4, off := 0 }), Value.slice Ad tl cd, Value.slice Ae sn ce, Value.int IntKind.i64 0, Value.pointer (some { block := kW, off := 0 }), undef, Value.pointer (some { block := kR, off := 0 }), sx7, sx9, undef, undef, undef, Value.tuple #[Value.agg #[Value.int IntKind.i64 room, Value.int IntKind.i64 ↑L, Value.slice At M ct], Value.slice Aa L ca, Value.bool true], Value.slice a1 n1 c1, Value.slice a1 m1 c1, Value.tuple #[Value.agg #[Value.int IntKind.i64 room, Value.int IntKind.i64 ↑L, Value.slice At M ct], Value.slice Aa L ca, Value.bool true], Value.agg #[Value.int IntKind.i64 room, Value.int IntKind.i64 ↑L, Value.slice At M ct], Value.slice Aa L ca, Value.bool true, Value.slice a2 n2 c2, Value.slice Al nl cl, Value.tuple #[Value.agg #[Value.int IntKind.i64 ur, Value.int IntKind.i64 up, Value.slice A4 un c4], Value.slice Ad tl cd, Value.slice Ae sn ce, Value.int IntKind.i64 0], Value.agg #[Value.int IntKind.i64 room, Value.int IntKind.i64 ↑L, Value.slice At M ct], Value.slice Al nl cl, Value.tuple #[Value.agg #[Value.int IntKind.i64 ur, Value.int IntKind.i64 up, Value.slice A4 un c4], Value.slice Ad tl cd, Value.slice Ae sn ce, Value.int IntKind.i64 0], Value.agg #[Value.int IntKind.i64 ur, Value.int IntKind.i64 up, Value.slice A4 un c4], Value.slice Ad tl cd, Value.slice Ae sn ce, Value.int IntKind.i64 0, Value.agg #[Value.int IntKind.i64 ur, Value.int IntKind.i64 up, Value.slice A4 un c4], Value.slice (some { block := b, off := off }) n3 c3, Value.slice (some { block := b, off := off }) N3 c3, Value.int IntKind.i64 ↑N3, Value.int IntKind.i64 ↑i, Value.bool true, Value.pointer (some { block := b, off := off + i * 4 }), Value.agg #[Value.int IntKind.i64 kd, Value.int IntKind.i64 ra, Value.int IntKind.i64 rb, Value.string tx], sx4, sx0, sx1, sx2, sx3, sx5, sx6, u55, u56, u57, u58, undef, undef, undef, undef, undef, undef, undef, undef, undef, undef, undef, undef, undef, undef, undef, undef, undef, undef, undef, undef, undef, undef, undef, undef, undef, undef, undef, undef, undef, undef, undef, undef, undef, undef, undef, undef, undef], defers := [] } ∧ FlC w7 kd ra rb tx S1 S2 r9 p9 A9 n9 c9 Wn g (.agg #[.int .i64 r9, .int .i64 p9, .slice A9 n9 c9]) (.agg #[.int .i64 kd, .int .i64 ra, .int .i64 rb, .string tx]) (.agg #[.string S1, .string S2]) (.int .i64 g) (.int .i64 g) sb0 sb1 sb2 sb3 sb4 sb5 sb6 sb7 sb8 sb9 sx0 sx1 sx2 sx3 sx4 sx5 sx6 sx7 sx8 sx9 wld_) (by kernel_rfl) ?h0 ?hfin ?hI
      case h0 => exact ⟨_, _, _, _, _, _, _, _, _, _, _, _, _, _, _, _, _, _, undef, _, rfl, rfl, ⟨(fun _ => (Below.refl _ _).drew), (fun h => by cases h), (fun h => by cases h), (fun h => by cases h), (fun h => by cases h), (fun h => by cases h), (fun h => by cases h), (fun h => by cases h), (fun h => by cases h), (fun h => by cases h), (fun h => by cases h), (fun h => by cases h), (fun h => by cases h), (fun h => by cases h), (fun h => by cases h), (fun h => by cases h), (fun h => by cases h), (fun h => by cases h), (fun h => by cases h), (fun h => by cases h)⟩⟩
      case hI =>
        rintro listed a w ⟨sb0, sb1, sb2, sb3, sb4, sb5, sb6, sb7, sb8, sb9, sx0, sx1, sx2, sx3, sx4, sx5, sx6, sx7, sx8, sx9, rfl, rfl, H⟩ i hi
        obtain ⟨hun, oj, hoj, hall⟩ := mem_ready.1 hi
        clear hi
        rcases i with _ | _ | _ | _ | _ | _ | _ | _ | _ | _ | i
        · have ho := hoj
          simp only [List.getElem?_toArray, List.getElem?_cons_zero, Option.some.injEq] at hoj
          subst hoj
          obtain rfl : sb0 = false := hun
          clear hall
          obtain rfl : sb3 = false := Bool.eq_false_iff.2 fun h => Bool.false_ne_true (H.d3 h).1
          obtain rfl : sb4 = false := Bool.eq_false_iff.2 fun h => Bool.false_ne_true (H.d4 h)
          obtain rfl : sb5 = false := Bool.eq_false_iff.2 fun h => Bool.false_ne_true (H.d5 h)
          obtain rfl : sb6 = false := Bool.eq_false_iff.2 fun h => Bool.false_ne_true (H.d6 h)
          obtain rfl : sb8 = false := Bool.eq_false_iff.2 fun h => Bool.false_ne_true (H.d8 h).1
          obtain rfl : sb9 = false := Bool.eq_false_iff.2 fun h => Bool.false_ne_true (H.d9 h).1
          have hbe := H.be rfl
          have hx_t3 := H.t3
          have hx_t4 := H.t4
          obtain ⟨q0, q1, q2⟩ := bk3T ((hbe.block _ (lt_of_block I7.out.k)).trans I7.out.k)
          refine wpOp_step ho (fun K' hK => ?_)
          have HK := Lib.hid hK
          clear hK ho
          go_simp
          exact HK.out _ _ ⟨_, _, _, _, _, _, _, _, _, _, _, _, _, _, _, _, _, _, sx8, _, rfl, rfl, ⟨(fun _ => hbe), H.d2, (fun h => by cases h), H.d4, H.d5, H.d6, (fun h => by cases h), (fun h => by cases h), H.t3, H.t4, (fun _ => rfl), H.h1, H.h2, (fun h => by cases h), (fun h => by cases h), (fun h => by cases h), H.h6, H.h7, (fun h => by cases h), H.h9⟩⟩
        · have ho := hoj
          simp only [List.getElem?_toArray, List.getElem?_cons_succ, List.getElem?_cons_zero, Option.some.injEq] at hoj
          subst hoj
          obtain rfl : sb1 = false := hun
          clear hall
          obtain rfl : sb2 = false := Bool.eq_false_iff.2 fun h => Bool.false_ne_true (H.d2 h)
          obtain rfl : sb3 = false := Bool.eq_false_iff.2 fun h => Bool.false_ne_true (H.d3 h).2
          obtain rfl : sb4 = false := Bool.eq_false_iff.2 fun h => Bool.false_ne_true (H.d4 h)
          obtain rfl : sb5 = false := Bool.eq_false_iff.2 fun h => Bool.false_ne_true (H.d5 h)
          obtain rfl : sb6 = false := Bool.eq_false_iff.2 fun h => Bool.false_ne_true (H.d6 h)
          obtain rfl : sb8 = false := Bool.eq_false_iff.2 fun h => Bool.false_ne_true (H.d8 h).2.1
          obtain rfl : sb9 = false := Bool.eq_false_iff.2 fun h => Bool.false_ne_true (H.d9 h).2.1
          have hbe := H.be rfl
          have hx_t3 := H.t3
          have hx_t4 := H.t4
          obtain ⟨z0, z1, z2, z3⟩ := bk4R ((hbe.block _ (lt_of_block K7.out)).trans K7.out)
          refine wpOp_step ho (fun K' hK => ?_)
          have HK := Lib.hid hK
          clear hK ho
          go_simp
          exact HK.out _ _ ⟨_, _, _, _, _, _, _, _, _, _, _, _, _, _, _, _, _, _, sx8, _, rfl, rfl, ⟨(fun _ => hbe), (fun h => by cases h), H.d3, H.d4, H.d5, H.d6, (fun h => by cases h), (fun h => by cases h), H.t3, H.t4, H.h0, (fun _ => rfl), H.h2, (fun h => by cases h), (fun h => by cases h), (fun h => by cases h), H.h6, H.h7, (fun h => by cases h), H.h9⟩⟩
        · have ho := hoj
          simp only [List.getElem?_toArray, List.getElem?_cons_succ, List.getElem?_cons_zero, Option.some.injEq] at hoj
          subst hoj
          obtain rfl : sb2 = false := hun
          obtain rfl : sb1 = true := hall ⟨1, .data⟩ (by simp) (by kernel_rfl)
          clear hall
          obtain rfl : sb3 = false := Bool.eq_false_iff.2 fun h => Bool.false_ne_true (H.d3 h).2
          obtain rfl : sb4 = false := Bool.eq_false_iff.2 fun h => Bool.false_ne_true (H.d4 h)
          obtain rfl : sb5 = false := Bool.eq_false_iff.2 fun h => Bool.false_ne_true (H.d5 h)
          obtain rfl : sb6 = false := Bool.eq_false_iff.2 fun h => Bool.false_ne_true (H.d6 h)
          obtain rfl : sb8 = false := Bool.eq_false_iff.2 fun h => Bool.false_ne_true (H.d8 h).2.2.1
          obtain rfl : sb9 = false := Bool.eq_false_iff.2 fun h => Bool.false_ne_true (H.d9 h).2.2.1
          have hbe := H.be rfl
          have hx_t3 := H.t3
          have hx_t4 := H.t4
          obtain rfl := H.h1 rfl
          refine wpOp_step ho (fun K' hK => ?_)
          have HK := Lib.hid hK
          clear hK ho
          go_wp2_with fail
          refine (HFO.out _).mono ?_
          rintro e w9 ⟨rfl, sb9⟩
          have BC := Lib.hid sb9
          clear sb9
          go_wp2_with fail
          exact HK.out _ _ ⟨_, _, _, _, _, _, _, _, _, _, _, _, _, _, _, _, _, _, sx8, _, rfl, rfl, ⟨(fun _ => hbe.trans (BC.out.mono hbe.size)), (fun _ => rfl), (fun h => by cases h), H.d4, H.d5, H.d6, (fun h => by cases h), (fun h => by cases h), hx_t3, hx_t4, H.h0, H.h1, (fun _ => rfl), (fun h => by cases h), (fun h => by cases h), (fun h => by cases h), H.h6, (fun e f => let ⟨q, e1, e2, e3⟩ := (H.h7 e f); ⟨q, e1, e2, (BC.out.block _ (lt_of_block e3)).trans e3⟩), (fun h => by cases h), H.h9⟩⟩
        · have ho := hoj
          simp only [List.getElem?_toArray, List.getElem?_cons_succ, List.getElem?_cons_zero, Option.some.injEq] at hoj
          subst hoj
          obtain rfl : sb3 = false := hun
          obtain rfl : sb0 = true := hall ⟨0, .data⟩ (by simp) (by kernel_rfl)
          obtain rfl : sb2 = true := hall ⟨2, .data⟩ (by simp) (by kernel_rfl)
          obtain rfl : sb1 = true := (H.d2 rfl)
          clear hall
          obtain rfl : sb4 = false := Bool.eq_false_iff.2 fun h => Bool.false_ne_true (H.d4 h)
          obtain rfl : sb5 = false := Bool.eq_false_iff.2 fun h => Bool.false_ne_true (H.d5 h)
          obtain rfl : sb6 = false := Bool.eq_false_iff.2 fun h => Bool.false_ne_true (H.d6 h)
          obtain rfl : sb8 = false := Bool.eq_false_iff.2 fun h => Bool.false_ne_true (H.d8 h).2.2.2.1
          obtain rfl : sb9 = false := Bool.eq_false_iff.2 fun h => Bool.false_ne_true (H.d9 h).2.2.2.1
          have hbe := H.be rfl
          have hx_t3 := H.t3
          have hx_t4 := H.t4
          obtain rfl := H.h0 rfl
          obtain rfl := H.h1 rfl
          obtain rfl := H.h2 rfl
          refine wpOp_step ho (fun K' hK => ?_)
          have HK := Lib.hid hK
          clear hK ho
          go_wp2_with fail
          refine (HIN.out _ hbe).mono ?_
          rintro e w9 ⟨sb9, v9, rfl, hv9⟩
          have BC := Lib.hid sb9
          have VC := Lib.hid hv9
          clear sb9 hv9
          go_wp2_with fail
          exact HK.out _ _ ⟨_, _, _, _, _, _, _, _, _, _, _, _, _, _, _, _, _, _, sx8, _, rfl, rfl, ⟨(fun _ => hbe.trans (BC.out.mono hbe.size)), H.d2, (fun _ => ⟨rfl, rfl⟩), (fun h => by cases h), H.d5, H.d6, (fun h => by cases h), (fun h => by cases h), fun _ => ⟨_, rfl⟩, hx_t4, H.h0, H.h1, H.h2, (fun _ _ => ⟨_, rfl, VC.out⟩), (fun h => by cases h), (fun h => by cases h), H.h6, (fun e f => let ⟨q, e1, e2, e3⟩ := (H.h7 e f); ⟨q, e1, e2, (BC.out.block _ (lt_of_block e3)).trans e3⟩), (fun h => by cases h), H.h9⟩⟩
        · have ho := hoj
          simp only [List.getElem?_toArray, List.getElem?_cons_succ, List.getElem?_cons_zero, Option.some.injEq] at hoj
          subst hoj
          obtain rfl : sb4 = false := hun
          obtain rfl : sb3 = true := hall ⟨3, .data⟩ (by simp) (by kernel_rfl)
          obtain rfl : sb0 = true := (H.d3 rfl).1
          obtain rfl : sb2 = true := (H.d3 rfl).2
          obtain rfl : sb1 = true := (H.d2 rfl)
          clear hall
          obtain rfl : sb5 = false := Bool.eq_false_iff.2 fun h => Bool.false_ne_true (H.d5 h)
          obtain rfl : sb6 = false := Bool.eq_false_iff.2 fun h => Bool.false_ne_true (H.d6 h)
          obtain rfl : sb8 = false := Bool.eq_false_iff.2 fun h => Bool.false_ne_true (H.d8 h).2.2.2.2.1
          obtain rfl : sb9 = false := Bool.eq_false_iff.2 fun h => Bool.false_ne_true (H.d9 h).2.2.2.2.1
          have hbe := H.be rfl
          have hx_t3 := H.t3
          have hx_t4 := H.t4
          obtain rfl := H.h0 rfl
          obtain rfl := H.h1 rfl
          obtain rfl := H.h2 rfl
          have P3 := H.h3 rfl rfl
          have PT := Lib.hid P3
          have TT := Lib.hid (H.t3 rfl)
          clear P3
          refine wpOp_step ho (fun K' hK => ?_)
          have HK := Lib.hid hK
          clear hK ho
          go_simp
          exact HK.out _ _ ⟨_, _, _, _, _, _, _, _, _, _, _, _, _, _, _, _, _, _, sx8, _, rfl, rfl, ⟨(fun _ => hbe), H.d2, H.d3, (fun _ => rfl), (fun h => by cases h), (fun h => by cases h), (fun h => by cases h), (fun h => by cases h), H.t3, fun _ => TT.out, H.h0, H.h1, H.h2, H.h3, (fun _ _ => PT.out), (fun h => by cases h), H.h6, H.h7, (fun h => by cases h), H.h9⟩⟩
        · have ho := hoj
          simp only [List.getElem?_toArray, List.getElem?_cons_succ, List.getElem?_cons_zero, Option.some.injEq] at hoj
          subst hoj
          obtain rfl : sb5 = false := hun
          obtain rfl : sb4 = true := hall ⟨4, .data⟩ (by simp) (by kernel_rfl)
          obtain rfl : sb3 = true := (H.d4 rfl)
          obtain rfl : sb0 = true := (H.d3 rfl).1
          obtain rfl : sb2 = true := (H.d3 rfl).2
          obtain rfl : sb1 = true := (H.d2 rfl)
          clear hall
          obtain rfl : sb8 = false := Bool.eq_false_iff.2 fun h => Bool.false_ne_true (H.d8 h).2.2.2.2.2.1
          obtain rfl : sb9 = false := Bool.eq_false_iff.2 fun h => Bool.false_ne_true (H.d9 h).2.2.2.2.2.1
          have hbe := H.be rfl
          have hx_t3 := H.t3
          have hx_t4 := H.t4
          obtain rfl := H.h0 rfl
          obtain rfl := H.h1 rfl
          obtain rfl := H.h2 rfl
          have P3 := H.h3 rfl rfl
          have P4 := H.h4 rfl rfl
          obtain ⟨u, rfl, hu⟩ := P4
          have HU := Lib.hid hu
          clear hu
          refine wpOp_step ho (fun K' hK => ?_)
          have HK := Lib.hid hK
          clear hK ho
          go_simp
          exact HK.out _ _ ⟨_, _, _, _, _, _, _, _, _, _, _, _, _, _, _, _, _, _, sx8, _, rfl, rfl, ⟨(fun _ => hbe), H.d2, H.d3, H.d4, (fun _ => rfl), H.d6, (fun h => by cases h), (fun h => by cases h), H.t3, H.t4, H.h0, H.h1, H.h2, H.h3, H.h4, (fun _ _ => HU.out), H.h6, H.h7, (fun h => by cases h), H.h9⟩⟩
        · have ho := hoj
          simp only [List.getElem?_toArray, List.getElem?_cons_succ, List.getElem?_cons_zero, Option.some.injEq] at hoj
          subst hoj
          obtain rfl : sb6 = false := hun
          obtain rfl : sb4 = true := hall ⟨4, .data⟩ (by simp) (by kernel_rfl)
          obtain rfl : sb3 = true := (H.d4 rfl)
          obtain rfl : sb0 = true := (H.d3 rfl).1
          obtain rfl : sb2 = true := (H.d3 rfl).2
          obtain rfl : sb1 = true := (H.d2 rfl)
          clear hall
          obtain rfl : sb9 = false := Bool.eq_false_iff.2 fun h => Bool.false_ne_true (H.d9 h).2.2.2.2.2.2.1
          have hx_t3 := H.t3
          have hx_t4 := H.t4
          obtain rfl := H.h0 rfl
          obtain rfl := H.h1 rfl
          obtain rfl := H.h2 rfl
          obtain ⟨u, rfl⟩ := H.t4 rfl
          refine wpOp_step ho (fun K' hK => ?_)
          have HK := Lib.hid hK
          clear hK ho
          go_simp
          exact HK.out _ _ ⟨_, _, _, _, _, _, _, _, _, _, _, _, _, _, _, _, _, _, sx8, _, rfl, rfl, ⟨H.be, H.d2, H.d3, H.d4, H.d5, (fun _ => rfl), H.d8, (fun h => by cases h), H.t3, H.t4, H.h0, H.h1, H.h2, H.h3, H.h4, H.h5, (fun _ => rfl), H.h7, H.h8, H.h9⟩⟩
        · have ho := hoj
          simp only [List.getElem?_toArray, List.getElem?_cons_succ, List.getElem?_cons_zero, Option.some.injEq] at hoj
          subst hoj
          obtain rfl : sb7 = false := hun
          clear hall
          obtain rfl : sb8 = false := Bool.eq_false_iff.2 fun h => Bool.false_ne_true (H.d8 h).2.2.2.2.2.2
          obtain rfl : sb9 = false := Bool.eq_false_iff.2 fun h => Bool.false_ne_true (H.d9 h).2.2.2.2.2.2.2.1
          have hbe := H.be rfl
          have hx_t3 := H.t3
          have hx_t4 := H.t4
          have BA := Lib.hid ((Below.refl w.heap.size w).alloc (Nat.le_refl _) (.cells #[.int .i64 0, .int .i64 0, .slice none 0 0] 24))
          have NA := Lib.hid (heap_alloc_new w (.cells #[.int .i64 0, .int .i64 0, .slice none 0 0] 24))
          have hsz := hbe.size
          refine wpOp_step ho (fun K' hK => ?_)
          have HK := Lib.hid hK
          clear hK ho
          go_simp
          exact HK.out _ _ ⟨_, _, _, _, _, _, _, _, _, _, _, _, _, _, _, _, _, _, sx8, _, rfl, rfl, ⟨(fun _ => hbe.trans (BA.out.mono hbe.size)), H.d2, H.d3, H.d4, H.d5, H.d6, (fun h => by cases h), (fun h => by cases h), hx_t3, hx_t4, H.h0, H.h1, H.h2, (fun e f => let ⟨u, e1, e2⟩ := (H.h3 e f); ⟨u, e1, e2.on BA.out⟩), (fun e f => let ⟨u, e1, e2⟩ := (H.h4 e f); ⟨u, e1, e2.on BA.out⟩), (fun e f => (H.h5 e f).on BA.out), H.h6, (fun _ _ => ⟨_, rfl, hsz, NA.out⟩), (fun h => by cases h), H.h9⟩⟩
        · have ho := hoj
          simp only [List.getElem?_toArray, List.getElem?_cons_succ, List.getElem?_cons_zero, Option.some.injEq] at hoj
          subst hoj
          obtain rfl : sb8 = false := hun
          obtain rfl : sb0 = true := hall ⟨0, .phase⟩ (by simp) (by kernel_rfl)
          obtain rfl : sb1 = true := hall ⟨1, .phase⟩ (by simp) (by kernel_rfl)
          obtain rfl : sb2 = true := hall ⟨2, .phase⟩ (by simp) (by kernel_rfl)
          obtain rfl : sb3 = true := hall ⟨3, .chain⟩ (by simp) (by kernel_rfl)
          obtain rfl : sb4 = true := hall ⟨4, .phase⟩ (by simp) (by kernel_rfl)
          obtain rfl : sb5 = true := hall ⟨5, .data⟩ (by simp) (by kernel_rfl)
          obtain rfl : sb7 = true := hall ⟨7, .data⟩ (by simp) (by kernel_rfl)
          clear hall
          obtain rfl : sb9 = false := Bool.eq_false_iff.2 fun h => Bool.false_ne_true (H.d9 h).2.2.2.2.2.2.2.2
          have hbe := H.be rfl
          have hx_t3 := H.t3
          have hx_t4 := H.t4
          obtain rfl := H.h0 rfl
          obtain rfl := H.h1 rfl
          obtain rfl := H.h2 rfl
          have P3 := H.h3 rfl rfl
          have P4 := H.h4 rfl rfl
          have P5 := H.h5 rfl rfl
          have P7 := H.h7 rfl rfl
          obtain ⟨q, rfl, hq0, hq⟩ := P7
          obtain ⟨A8, n8, c8, r8, p8, rfl, hv8⟩ := tb_partsR P5
          obtain ⟨k1, gp⟩ := bk3_blk hq (.int .i64 r8) (.int .i64 p8) (.slice A8 n8 c8)
          have KQ := Lib.hid k1
          have VQ := Lib.hid ((hv8.gr hq gp).more gp.size)
          have BQ := Lib.hid (hbe.grown gp hbe.size (fun k e => by cases e; exact hq0))
          obtain ⟨q0, q1, q2⟩ := bk3T hq
          have qf := fun i => bk_frz hq i
          clear hq hv8 k1 gp
          refine wpOp_step ho (fun K' hK => ?_)
          have HK := Lib.hid hK
          clear hK ho
          go_simp
          exact HK.out _ _ ⟨_, _, _, _, _, _, _, _, _, _, _, _, _, _, _, _, _, _, sx8, _, rfl, rfl, ⟨(fun h => by cases h), H.d2, H.d3, H.d4, H.d5, H.d6, (fun _ => ⟨rfl, rfl, rfl, rfl, rfl, rfl, rfl⟩), (fun h => by cases h), H.t3, H.t4, H.h0, H.h1, H.h2, (fun _ h => by cases h), (fun _ h => by cases h), (fun _ h => by cases h), H.h6, (fun _ h => by cases h), (fun _ => ⟨_, _, _, _, _, _, rfl, hq0, KQ.out, VQ.out, BQ.out⟩), H.h9⟩⟩
        · have ho := hoj
          simp only [List.getElem?_toArray, List.getElem?_cons_succ, List.getElem?_cons_zero, Option.some.injEq] at hoj
          subst hoj
          obtain rfl : sb9 = false := hun
          obtain rfl : sb0 = true := hall ⟨0, .phase⟩ (by simp) (by kernel_rfl)
          obtain rfl : sb1 = true := hall ⟨1, .phase⟩ (by simp) (by kernel_rfl)
          obtain rfl : sb2 = true := hall ⟨2, .phase⟩ (by simp) (by kernel_rfl)
          obtain rfl : sb3 = true := hall ⟨3, .phase⟩ (by simp) (by kernel_rfl)
          obtain rfl : sb4 = true := hall ⟨4, .phase⟩ (by simp) (by kernel_rfl)
          obtain rfl : sb5 = true := hall ⟨5, .phase⟩ (by simp) (by kernel_rfl)
          obtain rfl : sb6 = true := hall ⟨6, .data⟩ (by simp) (by kernel_rfl)
          obtain rfl : sb7 = true := hall ⟨7, .phase⟩ (by simp) (by kernel_rfl)
          obtain rfl : sb8 = true := hall ⟨8, .chain⟩ (by simp) (by kernel_rfl)
          clear hall
          have hx_t3 := H.t3
          have hx_t4 := H.t4
          obtain rfl := H.h0 rfl
          obtain rfl := H.h1 rfl
          obtain rfl := H.h2 rfl
          obtain rfl := H.h6 rfl
          have P8 := H.h8 rfl
          refine wpOp_step ho (fun K' hK => ?_)
          have HK := Lib.hid hK
          clear hK ho
          go_simp
          exact HK.out _ _ ⟨_, _, _, _, _, _, _, _, _, _, _, _, _, _, _, _, _, _, sx8, _, rfl, rfl, ⟨(fun h => by cases h), H.d2, H.d3, H.d4, H.d5, H.d6, H.d8, (fun _ => ⟨rfl, rfl, rfl, rfl, rfl, rfl, rfl, rfl, rfl⟩), H.t3, H.t4, H.h0, H.h1, H.h2, (fun _ h => by cases h), (fun _ h => by cases h), (fun _ h => by cases h), H.h6, (fun _ h => by cases h), H.h8, (fun _ => rfl)⟩⟩
        · have ho := hoj
          simp at ho
      case hfin =>
        rintro listed a w ⟨sb0, sb1, sb2, sb3, sb4, sb5, sb6, sb7, sb8, sb9, sx0, sx1, sx2, sx3, sx4, sx5, sx6, sx7, sx8, sx9, rfl, rfl, H⟩ hr
        have hb : sb9 = true := by
          clear H
          revert sb0 sb1 sb2 sb3 sb4 sb5 sb6 sb7 sb8 sb9
          decide +kernel
        subst hb
        clear hr
        obtain rfl : sb0 = true := (H.d9 rfl).1
        obtain rfl : sb1 = true := (H.d9 rfl).2.1
        obtain rfl : sb2 = true := (H.d9 rfl).2.2.1
        obtain rfl : sb3 = true := (H.d9 rfl).2.2.2.1
        obtain rfl : sb4 = true := (H.d9 rfl).2.2.2.2.1
        obtain rfl : sb5 = true := (H.d9 rfl).2.2.2.2.2.1
        obtain rfl : sb6 = true := (H.d9 rfl).2.2.2.2.2.2.1
        obtain rfl : sb7 = true := (H.d9 rfl).2.2.2.2.2.2.2.1
        obtain rfl : sb8 = true := (H.d9 rfl).2.2.2.2.2.2.2.2
        obtain ⟨q, A8, n8, c8, r8, p8, e9, hq0, hq, hv9, hb9⟩ := H.h8 rfl
        have e7 := H.h9 rfl
        have HQ8 := Lib.hid hq
        have HV8 := Lib.hid hv9
        have HB8 := Lib.hid hb9
        have HQN := Lib.hid hq0
        clear hq hv9 hb9 H hq0
        obtain ⟨w8, hw9⟩ : ∃ x, x = w := ⟨_, rfl⟩
        subst w
        subst e7 e9
        have I8 := Lib.hid (I7.out.later HB8.out)
        clear K7 I7 HB8
        by_cases hg0 : g = 0
        · have HSN2 := Lib.hid (HSN.out hg0)
          subst hg0
          obtain ⟨k9, g9⟩ := bk3_blk I8.out.k (.int .i64 r8) (.int .i64 p8) (.slice A8 n8 c8)
          have I9 := Lib.hid (I8.out.put k9 g9 HV8.out)
          obtain ⟨q0, q1, q2⟩ := bk3T HQ8.out
          have qf := fun i => bk_frz I8.out.k i
          obtain ⟨z0, z1, z2⟩ := bk3T I8.out.k
          clear k9 g9
          go_wp2_with fail
          go_roundg (gk - 1)
          case measure => omega
          case rel => exact ⟨i + 1, r8, p8, A8, n8, c8, Wn, gs ++ [f], by first | rfl | go_num, by omega, HSN2, HW9, I9⟩
        · have hgf : (g == 0) = false := by simp; exact hg0
          go_wp2_with fail
          go_roundg (gk - 1)
          case measure => omega
          case rel => exact ⟨i + 1, r9, p9, A9, n9, c9, Wt, gs, by first | rfl | go_num, by omega, HIN0, HWW, I8⟩
    · obtain rfl : i = N3 := by omega
      have hLT := HLT.out gs Wt HIN0.out
      have HDD := Lib.hid (HD.out (.slice Ae sn ce) wr _ Wt IW.out.v HWW.out IW.out.e)
      obtain ⟨⟨got, g⟩, hg⟩ : ∃ r, decFl Wt sec = r := ⟨_, rfl⟩
      rw [hg] at hLT HDD
      unfold FlRes at HDD
      dsimp only at HDD
      have hpn : p9 = Wt.put ∧ n9 = Wt.rows.length := by
        obtain ⟨s, e, hs⟩ := IW.out.v.ex
        obtain ⟨A', c', e', _⟩ := hs.ex
        subst e'
        cases e
        exact ⟨rfl, rfl⟩
      have hpb := HWW.out.put
      have HLC := Lib.hid hLT
      have HPN := Lib.hid hpn
      have HPB := Lib.hid hpb
      clear hLT hg hpn hpb hlt
      obtain ⟨q0, q1, q2⟩ := bk3T IW.out.k
      go_wp2_with fail
      refine (HDD.out).mono ?_
      clear q0 q1 q2
      rintro e w9 ⟨b9, v9, rfl, h9⟩
      obtain ⟨A8, c8, rfl, _, _, r8⟩ := h9.ex
      have I9 := Lib.hid (IW.out.later b9)
      have Q9 := Lib.hid r8
      clear b9 h9 r8
      obtain ⟨q0, q1, q2⟩ := bk3T I9.out.k
      rcases HLC.out with hA | ⟨hB, hB2⟩
      · obtain ⟨rfl, rfl⟩ := Prod.mk.inj hA
        rw [HNL.out]
        clear hA
        go_wp2_with fail
        refine (HFT.out _).mono ?_
        clear q0 q1 q2
        rintro e w10 ⟨rfl, b10⟩
        have I10 := Lib.hid (I9.out.later b10)
        have Q10 := Lib.hid (Q9.out.on b10)
        clear b10
        go_wp2_with fail
        refine (ksameFd_eq _ _ nl _ _ _ _ Q10.out I10.out.r HNL.out (by have := HN8.out; omega)).mono ?_
        rintro e w11 ⟨rfl, b11⟩
        have B11 := Lib.hid (I10.out.b.trans (b11.mono I10.out.b.size))
        clear b11
        go_wp2_with fail
        go_ret
        exact ⟨by first | rfl | simp, B11.out⟩
      · obtain ⟨rfl, rfl⟩ := Prod.mk.inj hB
        have hgo : IntKind.i64.wrap (p9 - (n9 : Int)) = p9 - (n9 : Int) := by rw [IntKind.wrap_i64]; have := HPN.out; have := HPB.out; omega
        have hg0 : 0 < p9 - (n9 : Int) := by have := HPN.out; omega
        clear hB hB2
        go_wp2_with fail
        refine (HFT.out _).mono ?_
        clear q0 q1 q2
        rintro e w10 ⟨rfl, b10⟩
        have I10 := Lib.hid (I9.out.later b10)
        clear b10
        go_wp2_with fail
        go_ret
        exact ⟨by simp; omega, I10.out.b⟩
end Go.Proofs.Ytlddbojfikkhfaa
