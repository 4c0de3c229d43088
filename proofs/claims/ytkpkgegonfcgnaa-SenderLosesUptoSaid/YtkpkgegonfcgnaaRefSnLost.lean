/- The document's SenderLost (P10.6). -/
import Derived.Test.YtkpkgegonfcgnaaRefSnPart
import Derived.Test.YtkpkgegonfcgnaaRefWo
import Derived.Test.YtkpkgegonfcgnaaRefJoin0
import Derived.Test.YtkpkgegonfcgnaaSnTwo
import Derived.Test.YtkpkgegonfcgnaaStepR
import Derived.Deep.CutRange
namespace Go.Proofs.Ytkpkgegonfcgnaa.P
set_option linter.unusedVariables false
def cutsL (qs l : List (Int × Int)) : List (Int × Int) := qs.foldl (fun l x => cutL x l) l
theorem okL_one {r : Int × Int} (h : okR r) : okL [r] := ⟨h, by have := h.1; omega, trivial⟩
theorem cutsL_snoc (qs l : List (Int × Int)) (k : Nat) (h : k < qs.length) : cutsL (qs.take (k + 1)) l = cutL (qs.getD k (0, 0)) (cutsL (qs.take k) l) := by
  rw [takeR_snoc qs k h]
  simp [cutsL, List.foldl_append]
theorem cutsL_ok : ∀ (qs : List (Int × Int)) {l : List (Int × Int)}, okL l → (∀ x ∈ qs, okR x) → okL (cutsL qs l) ∧ ∀ n, mem (cutsL qs l) n ↔ mem l n ∧ ¬ mem qs n
  | [], l, h, _ => ⟨h, fun n => by simp [cutsL, mem]⟩
  | x :: qs, l, h, hq => by
    have h1 := cutL_ok h (hq x (by simp))
    have h2 := cutsL_ok qs h1.1 (fun y hy => hq y (by simp [hy]))
    refine ⟨h2.1, fun n => ?_⟩
    show mem (cutsL qs (cutL x l)) n ↔ _
    rw [h2.2, h1.2]
    simp only [mem, not_or, and_assoc]
theorem cutsL_len : ∀ (qs : List (Int × Int)) {l : List (Int × Int)}, okL l → (∀ x ∈ qs, okR x) → (cutsL qs l).length ≤ l.length + qs.length
  | [], l, _, _ => by simp [cutsL]
  | x :: qs, l, h, hq => by
    have h1 := cut_len (hq x (by simp)) h
    have h2 := cutsL_len qs (cutL_ok h (hq x (by simp))).1 (fun y hy => hq y (by simp [hy]))
    show (cutsL qs (cutL x l)).length ≤ _
    simp only [List.length_cons]
    omega
theorem lost_same {ls qs L1 : List (Int × Int)} {off hh : Int} (kl : okL ls) (kq : okL qs) (hr : okR (off, hh)) (e : addL (holesF hh off qs) ls = L1) (C : List (Int × Int)) (hC : okL C) (hm : ∀ m, mem C m ↔ mem (ls ++ cutsL qs [(off, hh)]) m) : C = L1 := by
  subst e
  have h1 := addL_ok (holesF hh off qs) kl (holes_okR (r := (off, hh)) kq hr)
  have h2 := (holesL_ok (r := (off, hh)) kq hr).2
  have h3 := (cutsL_ok qs (okL_one hr) (fun x hx => (okFrom_all kq hx).1)).2
  refine ok_ext hC h1.1 fun m => ?_
  rw [hm, mem_app, h1.2, h3]
  have h4 := h2 m
  simp only at h4
  rw [h4]
  simp only [mem, or_false]
  constructor
  · rintro (h | h)
    · exact .inr h
    · exact .inl h
  · rintro (h | h)
    · exact .inr h
    · exact .inl h
end Go.Proofs.Ytkpkgegonfcgnaa.P
namespace Go.Proofs.Ytkpkgegonfcgnaa
set_option linter.unusedVariables false
open Go.RowKit P

theorem own_oneL (w : World) (base : Nat) (t : TypeId) (a b : Int) (hb : base ≤ w.heap.size) : OwnR (w.alloc (.cells #[.int .i64 a, .int .i64 b] t)) base t (.slice (some ⟨w.heap.size, 0, none⟩) 1 1) [(a, b)] :=
  ⟨rfl, .inr ⟨w.heap.size, 1, #[.int .i64 a, .int .i64 b], rfl, hb, heap_alloc_new w _, Nat.le_refl _, by unfold maxLen; omega, rfl, rfl⟩⟩
theorem own_rslL {w : World} {base : Nat} {v : Value} {ps : List (Int × Int)} {t : TypeId} (h : OwnR w base t v ps) : RSl w w.heap.size v ps := by
  obtain ⟨A9, c9, e9, k1, k2, k3⟩ := h.slice
  exact ⟨A9, c9, e9, k1, k2, k3⟩
set_option maxRecDepth 100000 in
set_option maxHeartbeats 4000000 in
theorem refSnLs_any : SnLs Try.prog 26 := by
  intro v s off n fin w hv hw hn
  obtain ⟨d, l, a, rfl, hd, hl, ha⟩ := hv.ex
  obtain ⟨Ad, cd, rfl, _, _, _, _⟩ := id hd.ex
  obtain ⟨Al, cl, rfl, _, _, hlr⟩ := id hl.ex
  obtain ⟨Aa, ca, rfl, _, _, har⟩ := id ha.ex
  have HF := Lib.hid (fun w' (hb : Below w.heap.size w w') => refSnPart_any _ s off n fin w' (hv.on hb) hw hn)
  have HD := Lib.hid hd
  have HL := Lib.hid hl
  have HA := Lib.hid ha
  have RL := Lib.hid hlr
  have RA := Lib.hid har
  have hll := hw.ll
  have hal := hw.al
  obtain ⟨fi, hfi⟩ : ∃ x, s.fin = x := ⟨_, rfl⟩
  obtain ⟨nx, hnx⟩ : ∃ x, s.next = x := ⟨_, rfl⟩
  obtain ⟨mx, hmx⟩ : ∃ x, s.mx = x := ⟨_, rfl⟩
  obtain ⟨en, hen⟩ : ∃ x, s.ended = x := ⟨_, rfl⟩
  obtain ⟨ov, hov⟩ : ∃ x, s.over = x := ⟨_, rfl⟩
  obtain ⟨nd, hnd⟩ : ∃ x, s.data.length = x := ⟨_, rfl⟩
  obtain ⟨nl, hnl⟩ : ∃ x, s.lost.length = x := ⟨_, rfl⟩
  obtain ⟨na, hna⟩ : ∃ x, s.acked.length = x := ⟨_, rfl⟩
  rw [hfi, hnx, hmx, hen, hov, hnd, hnl, hna] at HF
  rw [hfi, hnx, hmx, hen, hov, hnd, hnl, hna]
  rw [hnl] at hll HL
  rw [hna] at hal HA
  rw [hnd] at HD
  have HNL := Lib.hid hnl
  have HNA0 := Lib.hid hna
  have HND := Lib.hid hnd
  obtain ⟨g0, g1, g2⟩ := twoX w #[.slice Ad nd cd, .bool fi, .int .i64 nx, .int .i64 mx, .slice Al nl cl, .slice Aa na ca, .bool en, .bool ov] #[.slice none 0 0, .bool false, .int .i64 0, .int .i64 0, .slice none 0 0, .slice none 0 0, .bool false, .bool false] 25 25
  have F0 := Lib.hid g0
  have Z0 := Lib.hid g1
  have B0 := Lib.hid g2
  unfold loseS
  by_cases hf : partF s off n fin = 0
  · rw [if_neg (fun e => e hf)]
    have pk := part_ok hf
    have ok := pk.1
    obtain ⟨b1', b2', b3', b4'⟩ := pk.2.1
    have kd := ok.1
    have kn := ok.2.1
    have KL := Lib.hid ok.2.2.2.1
    have KA := Lib.hid ok.2.2.2.2.1
    have HRR := Lib.hid (fun h => part_r ok pk.2.1 h)
    rw [hf] at HF
    obtain ⟨L1, hL1⟩ : ∃ x, (if 0 < n then addL (holesF (off + n - 1) off s.acked) s.lost else s.lost) = x := ⟨_, rfl⟩
    have HL1 := Lib.hid hL1
    rw [hL1]
    have HFI := Lib.hid hfi
    have HNX := Lib.hid hnx
    have HMX := Lib.hid hmx
    have HEN := Lib.hid hen
    have HOV := Lib.hid hov
    rw [hnd] at kd
    rw [hnx] at b2' b4' kn
    rw [hnd] at kn
    clear hv hw hd hl ha g0 g1 g2 hf pk ok hL1 hn hfi hnx hmx hen hov hnd hnl hna hlr har
    obtain ⟨bn, hbn⟩ : ∃ x, decide (0 < n) = x := ⟨_, rfl⟩
    have HBN := Lib.hid hbn
    go_enter Try.func26, Try.ntmps26
    go_upto_region 4 with (first
      | (go_at_call 50; refine (HF.out _ B0.out).mono ?_; rintro e w1 ⟨rfl, b1⟩; have B1 := Lib.hid (B0.out.trans (b1.mono B0.out.size)); have F1 := Lib.hid ((b1.block _ (lt_of_block F0.out)).trans F0.out); have Z1 := Lib.hid ((b1.block _ (lt_of_block Z0.out)).trans Z0.out); clear b1; obtain ⟨q0, q1, q2, q3, q4, q5, q6, q7⟩ := bkS F1.out; obtain ⟨z0, z1, z2, z3, z4, z5, z6, z7⟩ := bkS Z1.out; have zf := fun i => bk_frz Z1.out i))
    go_cut [24] from 23 to 24 (fun u wx => u = .bool bn ∧ wx = w1)
    case first =>
      have hbn2 := HBN.out
      go_wp2_with fail
      go_meet
      exact ⟨by first | rfl | rw [hbn] | rw [hbn2], rfl⟩
    case rest =>
    obtain ⟨rfl, hwcq⟩ := hcut
    subst wc
    clear hbn z0 z1 z2 z3 z4 z5 z6 z7 zf
    go_upto_if 24 with fail
    go_cut [11, 13] from 25 to 50 (fun u v wx => ∃ A5 c5, Hid (wx.heap[w.heap.size]? = some (.cells #[.slice Ad nd cd, .bool fi, .int .i64 nx, .int .i64 mx, .slice A5 L1.length c5, .slice Aa na ca, .bool en, .bool ov] 25 (0, 0))) ∧ Hid (wx.heap[w.heap.size + 1]? = some (.cells #[.slice none 0 0, .bool false, .int .i64 0, .int .i64 0, .slice none 0 0, .slice none 0 0, .bool false, .bool false] 25 (0, 0))) ∧ Hid (Below w.heap.size w wx) ∧
          Hid (∃ base, w.heap.size + 1 < base ∧ (OwnR wx base 61 (.slice A5 L1.length c5) L1 ∨ (Value.slice A5 L1.length c5 = .slice Al nl cl ∧ L1 = s.lost))))
    case first =>
      have hwb := lt_of_block F1.out
      have hwz := lt_of_block Z1.out
      cases bn with
      | false =>
        have hn0 : ¬ 0 < n := of_decide_eq_false HBN.out
        have e1 : L1 = s.lost := by rw [← HL1.out, if_neg hn0]
        have E1 := Lib.hid (show Value.slice Al L1.length cl = .slice Al nl cl ∧ L1 = s.lost by rw [e1, HNL.out]; exact ⟨rfl, rfl⟩)
        have E3 := Lib.hid (show L1.length = nl by rw [e1]; exact HNL.out)
        clear hn0 e1
        go_wp2_with fail
        go_meet
        exact ⟨Al, cl, by rw [E3.out]; exact F1, Z1, B1, Lib.hid ⟨_, hwz, .inr E1.out⟩⟩
      | true =>
        have hn0 : 0 < n := of_decide_eq_true HBN.out
        have hr := HRR.out hn0
        obtain ⟨hh, hhh⟩ : ∃ x, off + n - 1 = x := ⟨_, rfl⟩
        rw [hhh] at hr
        have e1 : addL (holesF hh off s.acked) s.lost = L1 := by rw [← HL1.out, if_pos hn0, hhh]
        have x1 : IntKind.i64.wrap (off + n) = off + n := by rw [IntKind.wrap_i64]; omega
        have x2 : IntKind.i64.wrap (off + n - 1) = hh := by rw [IntKind.wrap_i64]; omega
        obtain ⟨ls, hls⟩ : ∃ x, s.lost = x := ⟨_, rfl⟩
        obtain ⟨qs, hqs⟩ : ∃ x, s.acked = x := ⟨_, rfl⟩
        rw [hls, hqs] at e1
        have KLs := Lib.hid (show okL ls by rw [← hls]; exact KL.out)
        have KQ := Lib.hid (show okL qs by rw [← hqs]; exact KA.out)
        have HE := Lib.hid (fun C hC hm => lost_same KLs.out KQ.out hr e1 C hC hm : ∀ C, okL C → (∀ m, mem C m ↔ mem (ls ++ cutsL qs [(off, hh)]) m) → C = L1)
        have RLs := Lib.hid (show RRow w w.heap.size Al ls by rw [← hls]; exact RL.out)
        have RA2 := Lib.hid (show RRow w w.heap.size Aa qs by rw [← hqs]; exact RA.out)
        have HNA := Lib.hid (show qs.length = na by rw [← hqs]; exact HNA0.out)
        have HNL2 := Lib.hid (show ls.length = nl by rw [← hls]; exact HNL.out)
        clear RA RL
        have RA := RA2
        obtain ⟨i0, hi0, hz0, hz1, hz2⟩ := info_parts infoR
        have HI := Lib.hid hi0
        have HZ := Lib.hid hz0
        have HZ1 := Lib.hid hz1
        have HZ2 := Lib.hid hz2
        have X4 := (Below.refl w1.heap.size w1).alloc (Nat.le_refl _) (.cells #[.int .i64 off, .int .i64 hh] 61)
        have V4 := Lib.hid (own_oneL w1 w1.heap.size 61 off hh (Nat.le_refl _))
        have HR1 := Lib.hid hr
        obtain ⟨Y4, hY4⟩ : ∃ x, w1.alloc (.cells #[.int .i64 off, .int .i64 hh] 61) = x := ⟨_, rfl⟩
        rw [hY4] at X4 V4
        have XX := Lib.hid X4
        have F4 := Lib.hid ((XX.out.block _ (lt_of_block F1.out)).trans F1.out)
        have Z4 := Lib.hid ((XX.out.block _ (lt_of_block Z1.out)).trans Z1.out)
        have B4 := Lib.hid (B1.out.trans (XX.out.mono B1.out.size))
        clear hi0 hz0 hz1 hz2 X4 e1 hr hn0 hhh hls hqs q0 q1 q2 q3 q4 q5 q6 q7 RA2
        obtain ⟨q0, q1, q2, q3, q4, q5, q6, q7⟩ := bkS F4.out
        have hsX := XX.out.size
        go_wp2_with fail
        clear q0 q1 q2 q3 q4 q5 q6 q7
        go_loopg [35, 11] na (fun g i lv wr => ∃ (k : Nat) (Ak : Option Addr) (ck : Nat), k + g = na ∧ i = .int .i64 k ∧ lv = .slice Ak (cutsL (qs.take k) [(off, hh)]).length ck ∧ w1.heap.size ≤ wr.heap.size ∧ Hid (wr.heap[w.heap.size]? = some (.cells #[.slice Ad nd cd, .bool fi, .int .i64 nx, .int .i64 mx, .slice Al nl cl, .slice Aa na ca, .bool en, .bool ov] 25 (0, 0))) ∧ Hid (wr.heap[w.heap.size + 1]? = some (.cells #[.slice none 0 0, .bool false, .int .i64 0, .int .i64 0, .slice none 0 0, .slice none 0 0, .bool false, .bool false] 25 (0, 0))) ∧ Hid (Below w.heap.size w wr) ∧ Hid (OwnR wr w1.heap.size 61 (.slice Ak (cutsL (qs.take k) [(off, hh)]).length ck) (cutsL (qs.take k) [(off, hh)])))
        case atStart => exact ⟨0, _, _, by omega, rfl, rfl, hsX, F4, Z4, B4, V4⟩
        case round =>
          obtain ⟨k, Ak, ck, hk, rfl, rfl, hsz, FK, ZK, BK, OK⟩ := hrel
          have ka := cutsL_ok (qs.take k) (okL_one HR1.out) (fun x hx => (okFrom_all KQ.out (List.mem_of_mem_take hx)).1)
          have kl := cutsL_len (qs.take k) (okL_one HR1.out) (fun x hx => (okFrom_all KQ.out (List.mem_of_mem_take hx)).1)
          rw [List.length_take, HNA.out, List.length_singleton] at kl
          by_cases hlt : k < na
          · have hq : k < qs.length := by rw [HNA.out]; exact hlt
            obtain ⟨b, o, rfl, hbb, hc⟩ := (RA.out.below BK.out) (by omega)
            obtain ⟨c0, c1⟩ := hc k hq
            have pk := (okFrom_all KQ.out (getR_mem qs k hq)).1
            have HSN := Lib.hid (cutsL_snoc qs [(off, hh)] k hq)
            obtain ⟨lk, hlk⟩ : ∃ x, cutsL (qs.take k) [(off, hh)] = x := ⟨_, rfl⟩
            rw [hlk] at OK HSN ka kl ⊢
            obtain ⟨⟨plo, phi⟩, hp⟩ : ∃ p, qs.getD k (0, 0) = p := ⟨_, rfl⟩
            rw [hp] at c0 c1 HSN pk
            simp only at c0 c1
            have i1 : (k : Int) < (na : Int) := by omega
            have X5 := (Below.refl wr.heap.size wr).alloc (Nat.le_refl _) (.cells #[.int .i64 plo, .int .i64 phi] 61)
            have V5 := Lib.hid (heap_alloc_new wr (.cells #[.int .i64 plo, .int .i64 phi] 61))
            obtain ⟨Y5, hY5⟩ : ∃ x, wr.alloc (.cells #[.int .i64 plo, .int .i64 phi] 61) = x := ⟨_, rfl⟩
            rw [hY5] at X5 V5
            have XY := Lib.hid X5
            have F5 := Lib.hid ((XY.out.block _ (lt_of_block FK.out)).trans FK.out)
            have Z5 := Lib.hid ((XY.out.block _ (lt_of_block ZK.out)).trans ZK.out)
            have B5 := Lib.hid (BK.out.trans (XY.out.mono BK.out.size))
            have O5 := Lib.hid (own_later2 OK.out XY.out)
            obtain ⟨_, _, el, hlc, hlm, hlr⟩ := OwnR.slice O5.out
            cases el
            have HWO := Lib.hid (without_any Ak lk.length ck lk plo phi Y5 hlr rfl ka.1 pk (by omega))
            rw [← HSN.out] at HWO
            have hs5 : w1.heap.size ≤ Y5.heap.size := by have := XY.out.size; omega
            clear hc hp hlk ka kl X5 pk hlr hlc hlm
            have m0 := bk_cell V5.out 0
            have m1 := bk_cell V5.out 1
            simp only [List.getElem?_toArray, List.getElem?_cons_zero, List.getElem?_cons_succ] at m0 m1
            go_wp2_with fail
            refine HWO.out.mono ?_
            rintro e w5 ⟨u5, rfl, o5, b5⟩
            obtain ⟨A5, c5, hu5, _, _, _⟩ := o5.slice
            subst hu5
            have O6 := Lib.hid (own_lowR o5 hs5)
            have F6 := Lib.hid ((b5.block _ (lt_of_block F5.out)).trans F5.out)
            have Z6 := Lib.hid ((b5.block _ (lt_of_block Z5.out)).trans Z5.out)
            have B6 := Lib.hid (B5.out.trans (b5.mono B5.out.size))
            have hs6 : w1.heap.size ≤ w5.heap.size := Nat.le_trans hs5 b5.size
            clear b5 o5 m0 m1 c0 c1 hY5
            go_wp2_with fail
            go_roundg (gk - 1)
            case measure => omega
            case rel => exact ⟨k + 1, A5, c5, by omega, by first | rfl | go_num, rfl, hs6, F6, Z6, B6, O6⟩
          · have e : qs.take k = qs := List.take_of_length_le (by rw [HNA.out]; omega)
            rw [e] at OK ka kl ⊢
            clear e
            obtain ⟨la, hla⟩ : ∃ x, cutsL qs [(off, hh)] = x := ⟨_, rfl⟩
            rw [hla] at OK ka kl HE ⊢
            have HOK := Lib.hid (fun x hx => by
              rcases List.mem_append.1 hx with hx | hx
              · exact (okFrom_all KLs.out hx).1
              · exact (okFrom_all ka.1 hx).1 : ∀ x ∈ ls ++ la, okR x)
            obtain ⟨ml, hml⟩ : ∃ x, la.length = x := ⟨_, rfl⟩
            have HML := Lib.hid hml
            rw [hml] at OK kl ⊢
            obtain ⟨md, hmd⟩ : ∃ x, (ls ++ la).length = x := ⟨_, rfl⟩
            have HMD := Lib.hid hmd
            have hmd2 : md ≤ nl + ml := by rw [← hmd, List.length_append, HNL2.out, hml]; exact Nat.le_refl _
            clear hml hla ka hmd
            have i1 : ¬ (k : Int) < (na : Int) := by omega
            have N7 := own_empty wr wr.heap.size 61 (Nat.le_refl _)
            have X7 := (Below.refl wr.heap.size wr).alloc (Nat.le_refl _) (.cells #[] 61)
            obtain ⟨Y7, hY7⟩ : ∃ x, wr.alloc (.cells #[] 61) = x := ⟨_, rfl⟩
            rw [hY7] at N7 X7
            have O7 := Lib.hid N7
            have XY := Lib.hid X7
            have hs7 := XY.out.size
            have RL7 := Lib.hid (RLs.out.below (BK.out.trans (XY.out.mono BK.out.size)))
            have F7 := Lib.hid ((XY.out.block _ (lt_of_block FK.out)).trans FK.out)
            obtain ⟨q0, q1, q2, q3, q4, q5, q6, q7⟩ := bkS F7.out
            clear N7 X7
            go_wp2_with (first
              | (at_builtin
                 refine wpList_appR _ rfl (.tmp 43) (.tmp 45) _ rfl wr.heap.size 61 i0 _ Try.underlying23 HI.out HZ.out HZ1.out HZ2.out rfl _ [] rfl O7.out w.heap.size Al nl cl ls rfl RL7.out HNL2.out (by rw [List.length_nil]; omega) hs7 ?_
                 intro v8 w8 own8 g8
                 have O8 := Lib.hid own8
                 rw [List.nil_append] at O8
                 have B8 := Lib.hid (XY.out.grown g8 hs7 (fun j hj => (O7.out.lt j hj).1))
                 have hs8 := B8.out.size
                 have ol8 := own_later2 OK.out B8.out
                 have R8 : RRow w8 w8.heap.size Ak la := by
                   obtain ⟨_, _, el, _, _, hlr⟩ := OwnR.slice (show OwnR w8 w1.heap.size 61 (.slice Ak la.length ck) la by rw [HML.out]; exact ol8)
                   injection el with e1 e2 e3
                   rw [e1]; exact hlr
                 have RK8 := Lib.hid R8
                 clear own8 g8 ol8 R8 q0 q1 q2 q3 q4 q5 q6 q7)
              | (at_builtin
                 refine wpList_appR _ rfl (.tmp 46) (.tmp 47) _ rfl wr.heap.size 61 i0 _ Try.underlying23 HI.out HZ.out HZ1.out HZ2.out rfl _ ls rfl O8.out w8.heap.size Ak ml ck la rfl RK8.out HML.out (by rw [HNL2.out]; omega) hs8 ?_
                 intro v9 w9 own9 g9
                 have O9 := Lib.hid own9
                 have B9 := Lib.hid (B8.out.grown g9 hs8 (fun j hj => (O8.out.lt j hj).1))
                 have hs9 := B9.out.size
                 obtain ⟨A9, c9, hv9, _, _, r9⟩ := own9.slice
                 rw [HMD.out] at hv9
                 subst hv9
                 have HJ := Lib.hid (joined_all A9 md c9 (ls ++ la) w9 r9 HMD.out HOK.out (own_noneR O9.out) (by omega))
                 clear own9 g9 r9))
            refine HJ.out.mono ?_
            rintro e u3 ⟨v3, C, rfl, oC, okC, mC, hb3⟩
            have eC := HE.out C okC mC
            rw [eC] at oC
            clear okC mC eC
            obtain ⟨A5, c5, hu5, _, _, _⟩ := oC.slice
            subst hu5
            have OC := Lib.hid oC
            have B10 := Lib.hid (B9.out.trans (hb3.mono hs9))
            have F10 := Lib.hid ((B10.out.block _ (lt_of_block FK.out)).trans FK.out)
            have Z10 := Lib.hid ((B10.out.block _ (lt_of_block ZK.out)).trans ZK.out)
            have BW := Lib.hid (BK.out.trans (B10.out.mono BK.out.size))
            have hwk := lt_of_block ZK.out
            clear hb3 oC
            obtain ⟨q0, q1, q2, q3, q4, q5, q6, q7⟩ := bkS F10.out
            have qf := fun i => bk_frz F10.out i
            obtain ⟨Y12, hY12⟩ : ∃ x, u3.setCell ⟨w.heap.size, 4, none⟩ (.slice A5 L1.length c5) = x := ⟨_, rfl⟩
            have gg12 := gr_set u3 w.heap.size 4 (.slice A5 L1.length c5)
            have FX12 := (bkS_set F10.out (.slice A5 L1.length c5)).2.2.2.2.1
            rw [hY12] at gg12 FX12
            have FY12 := Lib.hid FX12
            have ZY12 := Lib.hid ((gg12.block _ (lt_of_block Z10.out) (by simp)).trans Z10.out)
            have OL12 := Lib.hid (own_gr OC.out gg12 (by omega))
            have BY12 := Lib.hid (gr_from BW.out BW.out.size (Nat.le_refl _) gg12)
            clear gg12 FX12
            go_wp2_with fail
            go_meet
            exact ⟨A5, c5, FY12, ZY12, BY12, Lib.hid ⟨_, Nat.lt_of_lt_of_le hwk hs9, .inl OL12.out⟩⟩
    case rest =>
    obtain ⟨A5, c5, F9, Z9, B9, H5⟩ := hcut
    have HRET : ∀ U, Below w.heap.size w U → (∀ base v ps, w.heap.size + 1 < base → OwnR wc base 61 v ps → OwnR U base 61 v ps) → BSl U U.heap.size (.slice Ad nd cd) s.data ∧ RSl U U.heap.size (.slice A5 L1.length c5) L1 ∧ RSl U U.heap.size (.slice Aa na ca) s.acked := by
      intro U hb hk
      have hU := hb.size
      refine ⟨(HD.out.below hb).more hU, ?_, (HA.out.below hb).more hU⟩
      obtain ⟨base, h1, h2⟩ := H5.out
      rcases h2 with o | ⟨e1, e2⟩
      · exact own_rslL (hk _ _ _ h1 o)
      · rw [e1, e2]; exact (HL.out.below hb).more hU
    have HRT := Lib.hid HRET
    clear HRET
    cases fin with
    | false =>
      obtain ⟨z0, z1, z2, z3, z4, z5, z6, z7⟩ := bkS Z9.out
      obtain ⟨k0, k1, k2, k3, k4, k5, k6, k7⟩ := bkS F9.out
      have zf := fun i => bk_frz Z9.out i
      go_wp2_with fail
      obtain ⟨RY, gp⟩ := bkS_put Z9.out (.slice Ad nd cd) (.bool fi) (.int .i64 nx) (.int .i64 mx) (.slice A5 L1.length c5) (.slice Aa na ca) (.bool en) (.bool ov)
      obtain ⟨r0, r1, r2, r3, r4, r5, r6, r7⟩ := bkS RY
      refine bodyPost_ret (by simp [results, Try.results26, go_sem, r0, r1, r2, r3, r4, r5, r6, r7]; try rfl) rfl ?_
      have BB := gr_from B9.out B9.out.size (Nat.le_succ _) gp
      obtain ⟨k1', k2', k3'⟩ := HRT.out _ BB (fun base v ps h o => own_gr (o) gp (by omega))
      exact ⟨BB, _, rfl, ⟨_, _, _, by simp [HFI.out, HNX.out, HMX.out, HEN.out, HOV.out], k1', k2', k3'⟩⟩
    | true =>
      obtain ⟨k0, k1, k2, k3, k4, k5, k6, k7⟩ := bkS F9.out
      have kf := fun i => bk_frz F9.out i
      obtain ⟨Y10, hY10⟩ : ∃ x, wc.setCell ⟨w.heap.size, 6, none⟩ (.bool false) = x := ⟨_, rfl⟩
      have gg10 := gr_set wc w.heap.size 6 (.bool false)
      have FX10 := (bkS_set F9.out (.bool false)).2.2.2.2.2.2.1
      rw [hY10] at gg10 FX10
      have FY10 := Lib.hid FX10
      have ZY10 := Lib.hid ((gg10.block _ (lt_of_block Z9.out) (by simp)).trans Z9.out)
      have BY10 := Lib.hid (gr_from B9.out B9.out.size (Nat.le_refl _) gg10)
      have HK10 := Lib.hid (fun base v ps (h : w.heap.size + 1 < base) (o : OwnR wc base 61 v ps) => (own_gr o gg10 (by omega) : OwnR Y10 base 61 v ps))
      clear gg10 FX10
      obtain ⟨u0, u1, u2, u3, u4, u5, u6, u7⟩ := bkS FY10.out
      have zf := fun i => bk_frz ZY10.out i
      obtain ⟨z0, z1, z2, z3, z4, z5, z6, z7⟩ := bkS ZY10.out
      go_wp2_with fail
      obtain ⟨RY, gp⟩ := bkS_put ZY10.out (.slice Ad nd cd) (.bool fi) (.int .i64 nx) (.int .i64 mx) (.slice A5 L1.length c5) (.slice Aa na ca) (.bool false) (.bool ov)
      obtain ⟨r0, r1, r2, r3, r4, r5, r6, r7⟩ := bkS RY
      refine bodyPost_ret (by simp [results, Try.results26, go_sem, r0, r1, r2, r3, r4, r5, r6, r7]; try rfl) rfl ?_
      have BB := gr_from BY10.out BY10.out.size (Nat.le_succ _) gp
      obtain ⟨k1', k2', k3'⟩ := HRT.out _ BB (fun base v ps h o => own_gr (HK10.out base v ps h o) gp (by omega))
      exact ⟨BB, _, rfl, ⟨_, _, _, by simp [HFI.out, HNX.out, HMX.out, HEN.out, HOV.out], k1', k2', k3'⟩⟩
  · rw [if_pos hf]
    clear hv hw hd hl ha g0 g1 g2 hfi hnx hmx hen hov hnd hnl hna hlr har
    obtain ⟨x, hx⟩ : ∃ x, partF s off n fin = x := ⟨_, rfl⟩
    rw [hx] at HF hf ⊢
    have gx : (x != 0) = true := by simp [hf]
    clear hx hf
    go_enter Try.func26, Try.ntmps26
    go_wp2_with (first
      | (go_at_call 50; refine (HF.out _ B0.out).mono ?_; rintro e w1 ⟨rfl, b1⟩; have B1 := Lib.hid (B0.out.trans (b1.mono B0.out.size)); have F1 := Lib.hid ((b1.block _ (lt_of_block F0.out)).trans F0.out); have Z1 := Lib.hid ((b1.block _ (lt_of_block Z0.out)).trans Z0.out); clear b1; obtain ⟨q0, q1, q2, q3, q4, q5, q6, q7⟩ := bkS F1.out; obtain ⟨z0, z1, z2, z3, z4, z5, z6, z7⟩ := bkS Z1.out; have zf := fun i => bk_frz Z1.out i))
    obtain ⟨RY, gp⟩ := bkS_put Z1.out (.slice none 0 0) (.bool false) (.int .i64 0) (.int .i64 0) (.slice none 0 0) (.slice none 0 0) (.bool false) (.bool false)
    obtain ⟨r0, r1, r2, r3, r4, r5, r6, r7⟩ := bkS RY
    refine bodyPost_ret (by simp [results, Try.results26, go_sem, r0, r1, r2, r3, r4, r5, r6, r7]; try rfl) rfl ?_
    exact ⟨gr_from B1.out B1.out.size (Nat.le_succ _) gp, _, rfl, SnVal.nil _ _⟩
end Go.Proofs.Ytkpkgegonfcgnaa
