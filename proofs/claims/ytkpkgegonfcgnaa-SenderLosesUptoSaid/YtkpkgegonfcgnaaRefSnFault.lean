/- The document's answer on whether a sender may be. -/
import Derived.Test.YtkpkgegonfcgnaaRefSnLap
import Derived.Test.YtkpkgegonfcgnaaRefUp2
import Derived.Test.YtkpkgegonfcgnaaRefRng
import Derived.Test.YtkpkgegonfcgnaaSnSets
import Derived.Test.YtkpkgegonfcgnaaStepR
import Derived.Test.YtkpkgegonfcgnaaRngSome
import Derived.Test.YtkpkgegonfcgnaaRegInv
import Derived.Deep.CutRange
namespace Go.Proofs.Ytkpkgegonfcgnaa.P
set_option linter.unusedVariables false
/-- what the document asks first; then; all of it -/
def snP1 (s : Sn) : Prop := s.data.length ≤ 600 ∧ (0 ≤ s.next ∧ s.next ≤ s.data.length) ∧ s.next ≤ s.mx ∧ s.mx ≤ 4611686018427387903 ∧ okL s.lost ∧ okL s.acked
instance (s : Sn) : Decidable (snP1 s) := by unfold snP1; infer_instance
def snP2 (s : Sn) : Prop := snP1 s ∧ ¬(s.ended = true ∧ s.over = true) ∧ (s.ended = true ∨ s.over = true → s.fin = true ∧ s.next = s.data.length)
instance (s : Sn) : Decidable (snP2 s) := by unfold snP2; infer_instance
def snP3 (s : Sn) (k : Nat) : Prop := snP2 s ∧ belowS ((s.lost ++ s.acked).take k) s.next
instance (s : Sn) (k : Nat) : Decidable (snP3 s k) := by unfold snP3 belowS; infer_instance
theorem faultSn_ref (s : Sn) {n : Nat} (hn : s.lost.length + s.acked.length = n) : faultSn s = if snP3 s n ∧ lapL s.lost s.acked = false then 0 else 9 := by
  have e : (s.lost ++ s.acked).take n = s.lost ++ s.acked := by rw [List.take_of_length_le (by rw [List.length_append]; omega)]
  have hb : belowS (s.lost ++ s.acked) s.next ↔ belowS s.lost s.next ∧ belowS s.acked s.next := by
    unfold belowS
    constructor
    · intro h; exact ⟨fun x hx => h x (List.mem_append_left _ hx), fun x hx => h x (List.mem_append_right _ hx)⟩
    · intro h x hx; exact (List.mem_append.1 hx).elim (h.1 x) (h.2 x)
  have : okSn s ↔ snP3 s n ∧ lapL s.lost s.acked = false := by
    unfold snP3 snP2 snP1 okSn
    rw [e, hb]
    constructor
    · rintro ⟨k1, k2, k3, k4, k5, k6, k7, k8, k9, k10⟩; exact ⟨⟨⟨⟨k1, k2, k3.1, k3.2, k4, k5⟩, k6, k7⟩, k8, k9⟩, k10⟩
    · rintro ⟨⟨⟨⟨k1, k2, k3, k3', k4, k5⟩, k6, k7⟩, k8, k9⟩, k10⟩; exact ⟨k1, k2, ⟨k3, k3'⟩, k4, k5, k6, k7, k8, k9, k10⟩
  unfold faultSn
  by_cases h : okSn s
  · rw [if_pos h, if_pos (this.1 h)]
  · rw [if_neg h, if_neg (fun k => h (this.2 k))]
theorem snP3_step {s : Sn} {k : Nat} {p : Int × Int} (hk : k < (s.lost ++ s.acked).length) (hp : (s.lost ++ s.acked).getD k (0, 0) = p) : snP3 s (k + 1) ↔ snP3 s k ∧ p.2 < s.next := by
  unfold snP3
  have e : (s.lost ++ s.acked).take (k + 1) = (s.lost ++ s.acked).take k ++ [p] := by
    rw [List.take_succ_eq_append_getElem hk, ← hp, List.getD_eq_getElem?_getD, List.getElem?_eq_getElem hk]; rfl
  rw [e]
  unfold belowS
  constructor
  · rintro ⟨h1, h2⟩; exact ⟨⟨h1, fun x hx => h2 x (List.mem_append_left _ hx)⟩, h2 p (List.mem_append_right _ (by simp))⟩
  · rintro ⟨⟨h1, h2⟩, h3⟩; exact ⟨h1, fun x hx => (List.mem_append.1 hx).elim (h2 x) (fun h => by simp only [List.mem_singleton] at h; rw [h]; exact h3)⟩
end Go.Proofs.Ytkpkgegonfcgnaa.P
namespace Go.Proofs.Ytkpkgegonfcgnaa
set_option linter.unusedVariables false
open Go.RowKit P

structure SnF3 (w0 : World) (ps qs : List (Int × Int)) (Al Aa : Option Addr) (nl na cl ca : Nat) (V1 V2 V4 V5 V7 V8 : Value) (b0 b1 b2 b3 b4 b5 b6 b7 b8 : Bool) (x0 x1 x2 x3 x4 x5 x6 x7 x8 : Value) (w : World) : Prop where
  be : Below w0.heap.size w0 w
  d2 : b2 = true → b1 = true
  d3 : b3 = true → b0 = true ∧ b2 = true
  d5 : b5 = true → b4 = true
  d6 : b6 = true → b3 = true ∧ b5 = true
  d7 : b7 = true → b6 = true
  h0 : b0 = true → b3 = false → OwnR w w0.heap.size 61 x0 []
  h1 : b1 = true → x1 = V1
  h2 : b2 = true → x2 = V2
  h3 : b3 = true → b6 = false → OwnR w w0.heap.size 61 x3 ps
  h4 : b4 = true → x4 = V4
  h5 : b5 = true → x5 = V5
  h6 : b6 = true → ∃ A c, x6 = .slice A (nl + na) c ∧ RRow w w.heap.size A (ps ++ qs)
  h7 : b7 = true → x7 = V7
  h8 : b8 = true → x8 = V8
set_option maxRecDepth 100000 in
set_option maxHeartbeats 4000000 in
theorem refSnF_any : SnChk Try.prog 13 := by
  intro v s W hv hw
  obtain ⟨d, l, a, rfl, hd, hl, ha⟩ := hv.ex
  obtain ⟨Ad, cd, rfl, hdc, hdm, hdn, hdr⟩ := hd.ex
  obtain ⟨Al, cl, rfl, hlc, hlm, hlr⟩ := hl.ex
  obtain ⟨Aa, ca, rfl, hac, ham, har⟩ := ha.ex
  have hll := hw.ll
  have hal := hw.al
  have HRl := Lib.hid hlr
  have HRa := Lib.hid har
  obtain ⟨nd, hnd⟩ : ∃ n, s.data.length = n := ⟨_, rfl⟩
  obtain ⟨nl, hnl⟩ : ∃ n, s.lost.length = n := ⟨_, rfl⟩
  obtain ⟨na, hna⟩ : ∃ n, s.acked.length = n := ⟨_, rfl⟩
  have hft := faultSn_ref s (n := nl + na) (by omega)
  have hstep := fun k p (hk : k < nl + na) (hp : (s.lost ++ s.acked).getD k (0, 0) = p) => snP3_step (s := s) (k := k) (p := p) (by rw [List.length_append]; omega) hp
  obtain ⟨R, hR⟩ : ∃ R, faultSn s = R := ⟨_, rfl⟩
  obtain ⟨L, hL⟩ : ∃ L, lapL s.lost s.acked = L := ⟨_, rfl⟩
  rw [hR, hL] at hft
  rw [hR]
  have HFT := Lib.hid hft
  have HST := Lib.hid hstep
  have HLAP := Lib.hid (fun w' (hb : Below W.heap.size W w') => hL ▸ overlap_any Al Aa nl cl na ca s.lost s.acked w' (hlr.on hb) hnl (by omega) (har.on hb) hna (by omega))
  have HCL := Lib.hid (fun w' (hb : Below W.heap.size W w') => fault_any Al nl cl s.lost w' (hlr.on hb) hnl (by omega))
  have HCA := Lib.hid (fun w' (hb : Below W.heap.size W w') => fault_any Aa na ca s.acked w' (har.on hb) hna (by omega))
  have HP1 := Lib.hid (show snP1 s = (nd ≤ 600 ∧ (0 ≤ s.next ∧ s.next ≤ nd) ∧ s.next ≤ s.mx ∧ s.mx ≤ 4611686018427387903 ∧ okL s.lost ∧ okL s.acked) by unfold snP1; rw [hnd])
  have HP2 := Lib.hid (show snP2 s = (snP1 s ∧ ¬(s.ended = true ∧ s.over = true) ∧ (s.ended = true ∨ s.over = true → s.fin = true ∧ s.next = nd)) by unfold snP2; rw [hnd])
  have HP3 := Lib.hid (show snP3 s 0 = snP2 s by
    unfold snP3 belowS
    apply propext
    constructor
    · intro h; exact h.1
    · intro h; exact ⟨h, fun x hx => by simp at hx⟩)
  obtain ⟨ps, hps⟩ : ∃ n, s.lost = n := ⟨_, rfl⟩
  obtain ⟨qs, hqs⟩ : ∃ n, s.acked = n := ⟨_, rfl⟩
  obtain ⟨nx, hnx⟩ : ∃ n, s.next = n := ⟨_, rfl⟩
  obtain ⟨mx, hmx⟩ : ∃ n, s.mx = n := ⟨_, rfl⟩
  obtain ⟨fin, hfin⟩ : ∃ n, s.fin = n := ⟨_, rfl⟩
  obtain ⟨en, hen⟩ : ∃ n, s.ended = n := ⟨_, rfl⟩
  obtain ⟨ov, hov⟩ : ∃ n, s.over = n := ⟨_, rfl⟩
  rw [hps, hqs, hnx] at HST
  rw [hps] at HRl HCL hnl hll
  rw [hqs] at HRa HCA hna hal
  rw [hps, hqs, hnx, hmx] at HP1
  rw [hen, hov, hfin, hnx] at HP2
  rw [hnd, hnx, hmx, hfin, hen, hov, hps, hqs, hnl, hna]
  have B0 := Lib.hid ((Below.refl W.heap.size W).alloc (Nat.le_refl _) (.cells #[.slice Ad nd cd, .bool fin, .int .i64 nx, .int .i64 mx, .slice Al nl cl, .slice Aa na ca, .bool en, .bool ov] 25))
  have F0 := Lib.hid (heap_alloc_new W (.cells #[.slice Ad nd cd, .bool fin, .int .i64 nx, .int .i64 mx, .slice Al nl cl, .slice Aa na ca, .bool en, .bool ov] 25))
  obtain ⟨i0, hi0, hz0, hz1, hz2⟩ := info_parts infoR
  have HI := Lib.hid hi0
  have HZ := Lib.hid hz0
  have HZ1 := Lib.hid hz1
  have HZ2 := Lib.hid hz2
  clear hi0 hz0 hz1 hz2
  clear hv hw hd hl ha hdr hlr har hdn hdc hdm hlc hlm hac ham hft hstep hnd hnx hmx hfin hen hov hL hR hps hqs
  go_enter Try.func13, Try.ntmps13
  go_upto_region 1 with fail
  go_cut [3] from 6 to 102 (fun s3 wx => s3 = .bool (decide (snP1 s)) ∧ Hid (Below W.heap.size W wx) ∧ Hid (wx.heap[W.heap.size]? = some (.cells #[.slice Ad nd cd, .bool fin, .int .i64 nx, .int .i64 mx, .slice Al nl cl, .slice Aa na ca, .bool en, .bool ov] 25 (0, 0))))
  case first =>
    by_cases a1 : nd ≤ 600
    · by_cases a2 : 0 ≤ nx ∧ nx ≤ nd
      · have u1 : upB2 nx nd = true := by unfold upB2; simp [a2]
        by_cases a3 : nx ≤ mx
        · by_cases a4 : mx ≤ 4611686018427387903
          · by_cases a5 : okL ps
            · have ck1 : ckV ps = 0 := if_pos a5
              by_cases a6 : okL qs
              · have ck2 : ckV qs = 0 := if_pos a6
                have GY := Lib.hid (show snP1 s by rw [HP1.out]; exact ⟨a1, a2, a3, a4, a5, a6⟩)
                clear a2 a5 a6
                go_wp2_with (first
                  | (go_at_call 37; refine (upTo_any _ _ _).mono ?_; rintro e w' ⟨rfl, rfl⟩)
                  | (go_at_call 38; have g := B1.out; refine (HCA.out _ B1.out).mono ?_; rintro e w2 ⟨rfl, b2⟩; rw [ck2]; have B2 := Lib.hid (B1.out.trans (b2.mono B1.out.size)); have F2 := Lib.hid ((b2.block _ (lt_of_block F1.out)).trans F1.out); clear b2)
                  | (go_at_call 38; refine (HCL.out _ B0.out).mono ?_; rintro e w1 ⟨rfl, b1⟩; rw [ck1]; have B1 := Lib.hid (B0.out.trans (b1.mono B0.out.size)); have F1 := Lib.hid ((b1.block _ (lt_of_block F0.out)).trans F0.out); clear b1; obtain ⟨q0, q1, q2, q3, q4, q5, q6, q7⟩ := bkS F1.out))
                go_meet
                exact ⟨decY (b := true) GY.out, B2, F2⟩
              · have ck2 : ckV qs = 3 := if_neg a6
                have GN := Lib.hid (show ¬ snP1 s by rw [HP1.out]; exact fun h => a6 h.2.2.2.2.2)
                clear a2 a5 a6
                go_wp2_with (first
                  | (go_at_call 37; refine (upTo_any _ _ _).mono ?_; rintro e w' ⟨rfl, rfl⟩)
                  | (go_at_call 38; have g := B1.out; refine (HCA.out _ B1.out).mono ?_; rintro e w2 ⟨rfl, b2⟩; rw [ck2]; have B2 := Lib.hid (B1.out.trans (b2.mono B1.out.size)); have F2 := Lib.hid ((b2.block _ (lt_of_block F1.out)).trans F1.out); clear b2)
                  | (go_at_call 38; refine (HCL.out _ B0.out).mono ?_; rintro e w1 ⟨rfl, b1⟩; rw [ck1]; have B1 := Lib.hid (B0.out.trans (b1.mono B0.out.size)); have F1 := Lib.hid ((b1.block _ (lt_of_block F0.out)).trans F0.out); clear b1; obtain ⟨q0, q1, q2, q3, q4, q5, q6, q7⟩ := bkS F1.out))
                go_meet
                exact ⟨decN (b := true) GN.out, B2, F2⟩
            · have ck1 : ckV ps = 3 := if_neg a5
              have GN := Lib.hid (show ¬ snP1 s by rw [HP1.out]; exact fun h => a5 h.2.2.2.2.1)
              clear a2 a5
              go_wp2_with (first
                | (go_at_call 37; refine (upTo_any _ _ _).mono ?_; rintro e w' ⟨rfl, rfl⟩)
                | (go_at_call 38; refine (HCL.out _ B0.out).mono ?_; rintro e w1 ⟨rfl, b1⟩; rw [ck1]; have B1 := Lib.hid (B0.out.trans (b1.mono B0.out.size)); have F1 := Lib.hid ((b1.block _ (lt_of_block F0.out)).trans F0.out); clear b1))
              go_meet
              exact ⟨decN (b := true) GN.out, B1, F1⟩
          · have GN := Lib.hid (show ¬ snP1 s by rw [HP1.out]; exact fun h => a4 h.2.2.2.1)
            have d4 : decide (mx ≤ 4611686018427387903) = false := decide_eq_false a4
            clear a2
            go_wp2_with (first
              | (go_at_call 37; refine (upTo_any _ _ _).mono ?_; rintro e w' ⟨rfl, rfl⟩))
            go_meet
            exact ⟨decN (b := true) GN.out, B0, F0⟩
        · have GN := Lib.hid (show ¬ snP1 s by rw [HP1.out]; exact fun h => a3 h.2.2.1)
          have d3 : decide (nx ≤ mx) = false := decide_eq_false a3
          clear a2
          go_wp2_with (first
            | (go_at_call 37; refine (upTo_any _ _ _).mono ?_; rintro e w' ⟨rfl, rfl⟩))
          go_meet
          exact ⟨decN (b := true) GN.out, B0, F0⟩
      · have GN := Lib.hid (show ¬ snP1 s by rw [HP1.out]; exact fun h => a2 h.2.1)
        have u1 : upB2 nx nd = false := upB2_no (by omega)
        clear a2
        go_wp2_with (first
          | (go_at_call 37; refine (upTo_any _ _ _).mono ?_; rintro e w' ⟨rfl, rfl⟩))
        go_meet
        exact ⟨decN (b := true) GN.out, B0, F0⟩
    · have GN := Lib.hid (show ¬ snP1 s by rw [HP1.out]; exact fun h => a1 h.1)
      have d1 : decide ((nd : Int) ≤ 600) = false := by simp; omega
      go_wp2_with fail
      go_meet
      exact ⟨decN (b := true) GN.out, B0, F0⟩
  case rest =>
  obtain ⟨rfl, B1, F1⟩ := hcut
  obtain ⟨wc1, hwc1⟩ : ∃ x, x = wc := ⟨_, rfl⟩
  subst wc
  clear B0 F0 HP1 HCL HCA
  go_upto_region 2 with fail
  go_cut [3] from 6 to 102 (fun s3 wx => s3 = .bool (decide (snP2 s)) ∧ wx = wc1)
  case first =>
    obtain ⟨q0, q1, q2, q3, q4, q5, q6, q7⟩ := bkS F1.out
    by_cases p1 : snP1 s
    · rw [decide_eq_true p1]
      by_cases e1 : nx = nd
      · have GQ := Lib.hid (show snP2 s = (¬(en = true ∧ ov = true) ∧ (en = true ∨ ov = true → fin = true)) by rw [HP2.out]; simp [p1, e1])
        have e1' : (nx == (nd : Int)) = true := by simp [e1]
        clear p1 HP2 e1
        cases en <;> cases ov <;> cases fin <;> (simp at GQ; go_wp2_with fail; go_meet; exact ⟨by simp [GQ.out], rfl⟩)
      · have GQ := Lib.hid (show snP2 s = (¬(en = true ∧ ov = true) ∧ ¬(en = true ∨ ov = true)) by rw [HP2.out]; simp [p1, e1])
        have e1' : (nx == (nd : Int)) = false := by simp [e1]
        clear p1 HP2 e1
        cases en <;> cases ov <;> cases fin <;> (simp at GQ; go_wp2_with fail; go_meet; exact ⟨by simp [GQ.out], rfl⟩)
    · have GN := Lib.hid (show ¬ snP2 s by rw [HP2.out]; exact fun h => p1 h.1)
      rw [decide_eq_false p1]
      clear p1
      go_wp2_with fail
      go_meet
      exact ⟨decN (b := true) GN.out, rfl⟩
  case rest =>
  obtain ⟨rfl, hwcq⟩ := hcut
  subst wc
  obtain ⟨wc2, hwc2⟩ : ∃ x, x = wc1 := ⟨_, rfl⟩
  subst wc1
  have BW2 := B1
  have F2 := F1
  have RL2 := Lib.hid (HRl.out.on BW2.out)
  have RA2 := Lib.hid (HRa.out.on BW2.out)
  clear B1 F1 HP2
  go_upto_region 3 with fail
  go_cut [79, 80, 81] from 73 to 102 (fun v79 v80 v81 wx => ∃ A c, v79 = .slice A (nl + na) c ∧ v80 = .int .i64 ((nl + na : Nat) : Int) ∧ v81 = .int .i64 0 ∧ Hid (RRow wx wx.heap.size A (ps ++ qs)) ∧ Hid (Below W.heap.size W wx) ∧ Hid (wx.heap[W.heap.size]? = some (.cells #[.slice Ad nd cd, .bool fin, .int .i64 nx, .int .i64 mx, .slice Al nl cl, .slice Aa na ca, .bool en, .bool ov] 25 (0, 0))))
  case first =>
    refine wp_region_inv (fun listed a w => ∃ (b0 b1 b2 b3 b4 b5 b6 b7 b8 : Bool) (x0 x1 x2 x3 x4 x5 x6 x7 x8 : Value), listed = #[b0, b1, b2, b3, b4, b5, b6, b7, b8] ∧ a = { tmps := #[Value.agg #[Value.slice Ad nd cd, Value.bool fin, Value.int IntKind.i64 nx, Value.int IntKind.i64 mx, Value.slice Al nl cl, Value.slice Aa na ca, Value.bool en, Value.bool ov], Value.pointer (some { block := W.heap.size, off := 0 }), Value.int IntKind.i64 0, Value.bool (decide (snP2 s)), undef, undef, u6, u7, u8, u9, u10, u11, u12, u13, u14, u15, u16, u17, u18, u19, u20, u21, u22, u23, u24, u25, u26, u27, u28, u29, u30, u31, u32, u33, u34, u35, u36, u37, u38, u39, u40, u41, u42, u43, u44, u45, u46, u47, u48, u49, u50, u51, u52, u53, u54, u55, u56, u57, u58, u59, u60, u61, u62, u63, u64, u65, u66, u67, u68, u69, u70, u71, u72, x0, x1, x2, x3, x4, x5, x6, x7, x8, u82, u83, u84, u85, u86, u87, u88, u89, u90, u91, u92, u93, u94, u95, u96, u97, u98, u99, u100, u101, u102], defers := [] } ∧ SnF3 wc2 ps qs Al Aa nl na cl ca (.pointer (some ⟨W.heap.size, 4, none⟩)) (.slice Al nl cl) (.pointer (some ⟨W.heap.size, 5, none⟩)) (.slice Aa na ca) (.int .i64 ((nl : Int) + (na : Int))) (.int .i64 0) b0 b1 b2 b3 b4 b5 b6 b7 b8 x0 x1 x2 x3 x4 x5 x6 x7 x8 w) (by kernel_rfl) ?h0 ?hfin ?hI
    case h0 => exact ⟨_, _, _, _, _, _, _, _, _, _, _, _, _, _, _, _, _, _, rfl, rfl, ⟨(Below.refl _ _).drew, (fun h => by cases h), (fun h => by cases h), (fun h => by cases h), (fun h => by cases h), (fun h => by cases h), (fun h => by cases h), (fun h => by cases h), (fun h => by cases h), (fun h => by cases h), (fun h => by cases h), (fun h => by cases h), (fun h => by cases h), (fun h => by cases h), (fun h => by cases h)⟩⟩
    case hI =>
      rintro listed a w ⟨b0, b1, b2, b3, b4, b5, b6, b7, b8, x0, x1, x2, x3, x4, x5, x6, x7, x8, rfl, rfl, H⟩ i hi
      obtain ⟨hun, oj, hoj, hall⟩ := mem_ready.1 hi
      clear hi
      rcases i with _ | _ | _ | _ | _ | _ | _ | _ | _ | i
      · have ho := hoj
        simp only [List.getElem?_toArray, List.getElem?_cons_succ, List.getElem?_cons_zero, Option.some.injEq] at hoj
        subst hoj
        obtain rfl : b0 = false := hun
        clear hall
        obtain rfl : b3 = false := Bool.eq_false_iff.2 fun h => Bool.false_ne_true (H.d3 h).1
        obtain rfl : b6 = false := Bool.eq_false_iff.2 fun h => Bool.false_ne_true (H.d6 h).1
        obtain rfl : b7 = false := Bool.eq_false_iff.2 fun h => Bool.false_ne_true (H.d7 h)
        have hbe := H.be
        have BA := Lib.hid ((Below.refl w.heap.size w).alloc (Nat.le_refl _) (.cells #[] 61))
        have NA := Lib.hid (own_empty w wc2.heap.size 61 hbe.size)
        refine wpOp_step ho (fun K' hK => ?_)
        have HK := Lib.hid hK
        clear hK ho
        go_simp
        exact HK.out _ _ ⟨_, _, _, _, _, _, _, _, _, _, _, _, _, _, _, _, _, _, rfl, rfl, ⟨hbe.trans (BA.out.mono hbe.size), H.d2, (fun h => by cases h), H.d5, H.d6, H.d7, (fun _ _ => NA.out), H.h1, H.h2, (fun h => by cases h), H.h4, H.h5, (fun h => by cases h), H.h7, H.h8⟩⟩
      · have ho := hoj
        simp only [List.getElem?_toArray, List.getElem?_cons_succ, List.getElem?_cons_zero, Option.some.injEq] at hoj
        subst hoj
        obtain rfl : b1 = false := hun
        clear hall
        obtain rfl : b2 = false := Bool.eq_false_iff.2 fun h => Bool.false_ne_true (H.d2 h)
        obtain rfl : b3 = false := Bool.eq_false_iff.2 fun h => Bool.false_ne_true (H.d3 h).2
        obtain rfl : b6 = false := Bool.eq_false_iff.2 fun h => Bool.false_ne_true (H.d6 h).1
        obtain rfl : b7 = false := Bool.eq_false_iff.2 fun h => Bool.false_ne_true (H.d7 h)
        have hbe := H.be
        refine wpOp_step ho (fun K' hK => ?_)
        have HK := Lib.hid hK
        clear hK ho
        go_simp
        exact HK.out _ _ ⟨_, _, _, _, _, _, _, _, _, _, _, _, _, _, _, _, _, _, rfl, rfl, ⟨hbe, (fun h => by cases h), H.d3, H.d5, H.d6, H.d7, H.h0, (fun _ => rfl), H.h2, (fun h => by cases h), H.h4, H.h5, (fun h => by cases h), H.h7, H.h8⟩⟩
      · have ho := hoj
        simp only [List.getElem?_toArray, List.getElem?_cons_succ, List.getElem?_cons_zero, Option.some.injEq] at hoj
        subst hoj
        obtain rfl : b2 = false := hun
        obtain rfl : b1 = true := hall ⟨1, .data⟩ (by simp) (by kernel_rfl)
        clear hall
        obtain rfl : b3 = false := Bool.eq_false_iff.2 fun h => Bool.false_ne_true (H.d3 h).2
        obtain rfl : b6 = false := Bool.eq_false_iff.2 fun h => Bool.false_ne_true (H.d6 h).1
        obtain rfl : b7 = false := Bool.eq_false_iff.2 fun h => Bool.false_ne_true (H.d7 h)
        have hbe := H.be
        obtain rfl := H.h1 rfl
        obtain ⟨q0, q1, q2, q3, q4, q5, q6, q7⟩ := bkS ((hbe.block _ (lt_of_block F2.out)).trans F2.out)
        refine wpOp_step ho (fun K' hK => ?_)
        have HK := Lib.hid hK
        clear hK ho
        go_simp
        exact HK.out _ _ ⟨_, _, _, _, _, _, _, _, _, _, _, _, _, _, _, _, _, _, rfl, rfl, ⟨hbe, (fun _ => rfl), (fun h => by cases h), H.d5, H.d6, H.d7, H.h0, H.h1, (fun _ => rfl), (fun h => by cases h), H.h4, H.h5, (fun h => by cases h), H.h7, H.h8⟩⟩
      · have ho := hoj
        simp only [List.getElem?_toArray, List.getElem?_cons_succ, List.getElem?_cons_zero, Option.some.injEq] at hoj
        subst hoj
        obtain rfl : b3 = false := hun
        obtain rfl : b0 = true := hall ⟨0, .data⟩ (by simp) (by kernel_rfl)
        obtain rfl : b2 = true := hall ⟨2, .data⟩ (by simp) (by kernel_rfl)
        obtain rfl : b1 = true := (H.d2 rfl)
        clear hall
        obtain rfl : b6 = false := Bool.eq_false_iff.2 fun h => Bool.false_ne_true (H.d6 h).1
        obtain rfl : b7 = false := Bool.eq_false_iff.2 fun h => Bool.false_ne_true (H.d7 h)
        have hbe := H.be
        have P0 := H.h0 rfl rfl
        obtain rfl := H.h1 rfl
        obtain rfl := H.h2 rfl
        have R1 := Lib.hid (RL2.out.on hbe)
        have O1 := Lib.hid P0
        have hsz := hbe.size
        refine wpOp_step ho (fun K' hK => ?_)
        have HK := Lib.hid hK
        clear hK ho
        refine step_appR w rfl (.tmp 73) (.tmp 75) _ rfl wc2.heap.size 61 i0 _ Try.underlying23 HI.out HZ.out HZ1.out HZ2.out rfl _ [] rfl O1.out w.heap.size Al nl cl ps rfl R1.out hnl (by rw [List.length_nil]; omega) hsz ?_
        intro v1 u1 own1 g1
        have O2 := Lib.hid own1
        have BB := Lib.hid (hbe.grown g1 hsz (fun k hk => (O1.out.lt k hk).1))
        clear own1 g1
        exact HK.out _ _ ⟨_, _, _, _, _, _, _, _, _, _, _, _, _, _, _, _, _, _, rfl, rfl, ⟨BB.out, H.d2, (fun _ => ⟨rfl, rfl⟩), H.d5, (fun h => by cases h), H.d7, (fun _ h => by cases h), H.h1, H.h2, (fun _ _ => (by have := O2.out; rwa [List.nil_append] at this)), H.h4, H.h5, (fun h => by cases h), H.h7, H.h8⟩⟩
      · have ho := hoj
        simp only [List.getElem?_toArray, List.getElem?_cons_succ, List.getElem?_cons_zero, Option.some.injEq] at hoj
        subst hoj
        obtain rfl : b4 = false := hun
        clear hall
        obtain rfl : b5 = false := Bool.eq_false_iff.2 fun h => Bool.false_ne_true (H.d5 h)
        obtain rfl : b6 = false := Bool.eq_false_iff.2 fun h => Bool.false_ne_true (H.d6 h).2
        obtain rfl : b7 = false := Bool.eq_false_iff.2 fun h => Bool.false_ne_true (H.d7 h)
        have hbe := H.be
        refine wpOp_step ho (fun K' hK => ?_)
        have HK := Lib.hid hK
        clear hK ho
        go_simp
        exact HK.out _ _ ⟨_, _, _, _, _, _, _, _, _, _, _, _, _, _, _, _, _, _, rfl, rfl, ⟨hbe, H.d2, H.d3, (fun h => by cases h), H.d6, H.d7, H.h0, H.h1, H.h2, H.h3, (fun _ => rfl), H.h5, (fun h => by cases h), H.h7, H.h8⟩⟩
      · have ho := hoj
        simp only [List.getElem?_toArray, List.getElem?_cons_succ, List.getElem?_cons_zero, Option.some.injEq] at hoj
        subst hoj
        obtain rfl : b5 = false := hun
        obtain rfl : b4 = true := hall ⟨4, .data⟩ (by simp) (by kernel_rfl)
        clear hall
        obtain rfl : b6 = false := Bool.eq_false_iff.2 fun h => Bool.false_ne_true (H.d6 h).2
        obtain rfl : b7 = false := Bool.eq_false_iff.2 fun h => Bool.false_ne_true (H.d7 h)
        have hbe := H.be
        obtain rfl := H.h4 rfl
        obtain ⟨q0, q1, q2, q3, q4, q5, q6, q7⟩ := bkS ((hbe.block _ (lt_of_block F2.out)).trans F2.out)
        refine wpOp_step ho (fun K' hK => ?_)
        have HK := Lib.hid hK
        clear hK ho
        go_simp
        exact HK.out _ _ ⟨_, _, _, _, _, _, _, _, _, _, _, _, _, _, _, _, _, _, rfl, rfl, ⟨hbe, H.d2, H.d3, (fun _ => rfl), (fun h => by cases h), H.d7, H.h0, H.h1, H.h2, H.h3, H.h4, (fun _ => rfl), (fun h => by cases h), H.h7, H.h8⟩⟩
      · have ho := hoj
        simp only [List.getElem?_toArray, List.getElem?_cons_succ, List.getElem?_cons_zero, Option.some.injEq] at hoj
        subst hoj
        obtain rfl : b6 = false := hun
        obtain rfl : b3 = true := hall ⟨3, .data⟩ (by simp) (by kernel_rfl)
        obtain rfl : b5 = true := hall ⟨5, .data⟩ (by simp) (by kernel_rfl)
        obtain rfl : b0 = true := (H.d3 rfl).1
        obtain rfl : b2 = true := (H.d3 rfl).2
        obtain rfl : b4 = true := (H.d5 rfl)
        obtain rfl : b1 = true := (H.d2 rfl)
        clear hall
        obtain rfl : b7 = false := Bool.eq_false_iff.2 fun h => Bool.false_ne_true (H.d7 h)
        have hbe := H.be
        obtain rfl := H.h1 rfl
        obtain rfl := H.h2 rfl
        have P3 := H.h3 rfl rfl
        obtain rfl := H.h4 rfl
        obtain rfl := H.h5 rfl
        have R1 := Lib.hid (RA2.out.on hbe)
        have O1 := Lib.hid P3
        have hsz := hbe.size
        refine wpOp_step ho (fun K' hK => ?_)
        have HK := Lib.hid hK
        clear hK ho
        refine step_appR w rfl (.tmp 76) (.tmp 78) _ rfl wc2.heap.size 61 i0 _ Try.underlying23 HI.out HZ.out HZ1.out HZ2.out rfl _ ps rfl O1.out w.heap.size Aa na ca qs rfl R1.out hna (by omega) hsz ?_
        intro v1 u1 own1 g1
        have O2 := Lib.hid own1
        have BB := Lib.hid (hbe.grown g1 hsz (fun k hk => (O1.out.lt k hk).1))
        clear own1 g1
        exact HK.out _ _ ⟨_, _, _, _, _, _, _, _, _, _, _, _, _, _, _, _, _, _, rfl, rfl, ⟨BB.out, H.d2, H.d3, H.d5, (fun _ => ⟨rfl, rfl⟩), (fun h => by cases h), (fun _ h => by cases h), H.h1, H.h2, (fun _ h => by cases h), H.h4, H.h5, (fun _ => (by obtain ⟨A9, c9, hv9, _, _, hr9⟩ := O2.out.slice; rw [List.length_append, hnl, hna] at hv9; exact ⟨A9, c9, hv9, hr9⟩)), H.h7, H.h8⟩⟩
      · have ho := hoj
        simp only [List.getElem?_toArray, List.getElem?_cons_succ, List.getElem?_cons_zero, Option.some.injEq] at hoj
        subst hoj
        obtain rfl : b7 = false := hun
        obtain rfl : b6 = true := hall ⟨6, .data⟩ (by simp) (by kernel_rfl)
        obtain rfl : b3 = true := (H.d6 rfl).1
        obtain rfl : b5 = true := (H.d6 rfl).2
        obtain rfl : b0 = true := (H.d3 rfl).1
        obtain rfl : b2 = true := (H.d3 rfl).2
        obtain rfl : b4 = true := (H.d5 rfl)
        obtain rfl : b1 = true := (H.d2 rfl)
        clear hall
        have hbe := H.be
        obtain rfl := H.h1 rfl
        obtain rfl := H.h2 rfl
        obtain rfl := H.h4 rfl
        obtain rfl := H.h5 rfl
        have P6 := H.h6 rfl
        obtain ⟨A9, c9, rfl, hr9⟩ := P6
        refine wpOp_step ho (fun K' hK => ?_)
        have HK := Lib.hid hK
        clear hK ho
        go_simp
        exact HK.out _ _ ⟨_, _, _, _, _, _, _, _, _, _, _, _, _, _, _, _, _, _, rfl, rfl, ⟨hbe, H.d2, H.d3, H.d5, H.d6, (fun _ => rfl), (fun _ h => by cases h), H.h1, H.h2, (fun _ h => by cases h), H.h4, H.h5, H.h6, (fun _ => rfl), H.h8⟩⟩
      · have ho := hoj
        simp only [List.getElem?_toArray, List.getElem?_cons_succ, List.getElem?_cons_zero, Option.some.injEq] at hoj
        subst hoj
        obtain rfl : b8 = false := hun
        clear hall
        have hbe := H.be
        refine wpOp_step ho (fun K' hK => ?_)
        have HK := Lib.hid hK
        clear hK ho
        go_simp
        exact HK.out _ _ ⟨_, _, _, _, _, _, _, _, _, _, _, _, _, _, _, _, _, _, rfl, rfl, ⟨hbe, H.d2, H.d3, H.d5, H.d6, H.d7, H.h0, H.h1, H.h2, H.h3, H.h4, H.h5, H.h6, H.h7, (fun _ => rfl)⟩⟩
      · have ho := hoj
        simp at ho
    case hfin =>
      rintro listed a w ⟨b0, b1, b2, b3, b4, b5, b6, b7, b8, x0, x1, x2, x3, x4, x5, x6, x7, x8, rfl, rfl, H⟩ hr
      have hb : b8 = true ∧ b7 = true := by
        clear H
        revert b0 b1 b2 b3 b4 b5 b6 b7 b8
        decide +kernel
      obtain ⟨rfl, rfl⟩ := hb
      obtain rfl : b6 = true := H.d7 rfl
      clear hr
      obtain ⟨A9, c9, e9, hr9⟩ := H.h6 rfl
      have h7 := H.h7 rfl
      have h8 := H.h8 rfl
      subst e9 h7 h8
      have hb := H.be
      clear H
      go_wp2_with fail
      go_meet
      exact ⟨A9, c9, rfl, by simp, rfl, Lib.hid hr9, Lib.hid (BW2.out.trans (hb.mono BW2.out.size)), Lib.hid ((hb.block _ (lt_of_block F2.out)).trans F2.out)⟩
  case rest =>
  obtain ⟨A, c, rfl, rfl, rfl, RX, B3, F3⟩ := hcut
  obtain ⟨wc3, hwc3⟩ : ∃ x, x = wc := ⟨_, rfl⟩
  subst wc
  have HLN := Lib.hid (show (ps ++ qs).length = nl + na by rw [List.length_append, hnl, hna])
  obtain ⟨n, hn⟩ : ∃ n, nl + na = n := ⟨_, rfl⟩
  rw [hn] at HLN HST HFT ⊢
  have hnb : n ≤ 2097152 := by omega
  have HP0 := Lib.hid HP3.out.symm
  have B3' := Lib.hid (show Below wc3.heap.size wc3 wc3 from Below.refl _ _)
  clear BW2 F2 RL2 RA2 HP3 hn hnl hna hll hal
  go_wp2_with fail
  go_loopg [3, 81] n (fun g u i wr => ∃ k : Nat, k + g = n ∧ i = .int .i64 k ∧ u = .bool (decide (snP3 s k)) ∧ Hid (Below wc3.heap.size wc3 wr) ∧ Hid (Below W.heap.size W wr) ∧ Hid (wr.heap[W.heap.size]? = some (.cells #[.slice Ad nd cd, .bool fin, .int .i64 nx, .int .i64 mx, .slice Al nl cl, .slice Aa na ca, .bool en, .bool ov] 25 (0, 0))))
  case atStart => exact ⟨0, by omega, rfl, by rw [show decide (snP3 s 0) = decide (snP2 s) from decide_eq_decide.2 (by rw [← HP0.out])], B3', B3, F3⟩
  case round =>
    obtain ⟨k, hk, rfl, rfl, BC, BX, FX⟩ := hrel
    obtain ⟨q0, q1, q2, q3, q4, q5, q6, q7⟩ := bkS FX.out
    by_cases hlt : k < n
    · obtain ⟨b, off, rfl, hbb, hc⟩ := RX.out (by rw [HLN.out]; omega)
      obtain ⟨c0, c1⟩ := hc k (by rw [HLN.out]; omega)
      obtain ⟨⟨lo, hi⟩, hp⟩ : ∃ p, (ps ++ qs).getD k (0, 0) = p := ⟨_, rfl⟩
      have HS := Lib.hid (HST.out k _ hlt hp)
      rw [hp] at c0 c1
      simp only at c0 c1
      have d0 := (BC.out.cell hbb).trans c0
      have d1 := (BC.out.cell hbb).trans c1
      have hkn : (k : Int) < (n : Int) := by omega
      have BA := Lib.hid (BX.out.alloc BX.out.size (.cells #[.int .i64 lo, .int .i64 hi] 61))
      have BCA := Lib.hid (BC.out.alloc BC.out.size (.cells #[.int .i64 lo, .int .i64 hi] 61))
      have FA := Lib.hid ((Below.heap_alloc wr (.cells #[.int .i64 lo, .int .i64 hi] 61) _ (lt_of_block FX.out)).trans FX.out)
      clear hc c0 c1 hp q0 q1 q2 q3 q4 q5 q6 q7
      obtain ⟨q0, q1, q2, q3, q4, q5, q6, q7⟩ := bkS FA.out
      by_cases hb : snP3 s k
      · rw [decide_eq_true hb]
        by_cases hg : hi < nx
        · have g1 : decide (hi < nx) = true := decide_eq_true hg
          have GY := Lib.hid (show snP3 s (k + 1) from HS.out.2 ⟨hb, hg⟩)
          clear hb
          go_wp2_with fail
          go_roundg (gk - 1)
          case measure => omega
          case rel => exact ⟨k + 1, by omega, by first | rfl | go_num, decY (b := true) GY.out, BCA, BA, FA⟩
        · have g1 : decide (hi < nx) = false := decide_eq_false hg
          have GN := Lib.hid (show ¬ snP3 s (k + 1) from fun h => hg (HS.out.1 h).2)
          clear hb
          go_wp2_with fail
          go_roundg (gk - 1)
          case measure => omega
          case rel => exact ⟨k + 1, by omega, by first | rfl | go_num, decN (b := true) GN.out, BCA, BA, FA⟩
      · rw [decide_eq_false hb]
        have GN := Lib.hid (show ¬ snP3 s (k + 1) from fun h => hb (HS.out.1 h).1)
        clear hb
        go_wp2_with fail
        go_roundg (gk - 1)
        case measure => omega
        case rel => exact ⟨k + 1, by omega, by first | rfl | go_num, decN (b := true) GN.out, BCA, BA, FA⟩
    · obtain rfl : k = n := by omega
      by_cases hb : snP3 s k
      · rw [decide_eq_true hb]
        cases L with
        | true =>
          have HF := Lib.hid (HFT.out.trans (if_neg (fun h => by cases h.2)))
          clear hb
          go_wp2_with (first
            | (go_at_call 39; refine (HLAP.out _ BX.out).mono ?_; rintro e w5 ⟨rfl, b5⟩; have B5 := Lib.hid (BX.out.trans (b5.mono BX.out.size)); clear b5))
          go_ret
          exact ⟨by rw [HF.out]; rfl, B5.out⟩
        | false =>
          have HF := Lib.hid (HFT.out.trans (if_pos ⟨hb, rfl⟩))
          clear hb
          go_wp2_with (first
            | (go_at_call 39; refine (HLAP.out _ BX.out).mono ?_; rintro e w5 ⟨rfl, b5⟩; have B5 := Lib.hid (BX.out.trans (b5.mono BX.out.size)); clear b5))
          go_ret
          exact ⟨by rw [HF.out]; rfl, B5.out⟩
      · rw [decide_eq_false hb]
        have HF := Lib.hid (HFT.out.trans (if_neg (fun h => hb h.1)))
        clear hb
        go_wp2_with fail
        go_ret
        exact ⟨by rw [HF.out]; rfl, BX.out⟩
end Go.Proofs.Ytkpkgegonfcgnaa
