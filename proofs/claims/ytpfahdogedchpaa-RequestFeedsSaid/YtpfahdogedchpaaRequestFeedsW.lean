/- The walk of RequestFeeds. -/
import Derived.Test.YtpfahdogedchpaaRqF7
import Derived.Test.YtpfahdogedchpaaRqRef3
import Derived.Test.YtpfahdogedchpaaSame
import Derived.Test.YtpfahdogedchpaaGrpZf
import Derived.Test.YtpfahdogedchpaaOpenRd
namespace Go.Proofs.Ytpfahdogedchpaa
set_option linter.unusedVariables false
open Go.RowKit P
theorem in_bslQ {w : World} {a : Option Addr} {len cap : Nat} {zs : List Int} (h : InRow w a len cap zs) : BSl w w.heap.size (.slice a len cap) (zs.take len) := by
  obtain ⟨h1, h2, h3, h4⟩ := h.brow
  refine ⟨a, cap, by rw [h2], by omega, h4, ?_, h1⟩
  rintro rfl
  rcases h with ⟨_, _, h, _⟩ | ⟨x, e, _⟩
  · exact h
  · cases e
set_option maxHeartbeats 2000000 in
/-- two readers that are the same -/
theorem sameRd_any (Ah Af Ab Ah' Af' Ab' : Option Addr) (nh ch nf cf nb cb nh' ch' nf' cf' nb' cb' : Nat) (r : Rd) (w : World) (h1 : BSl w w.heap.size (.slice Ah nh ch) r.held) (h2 : FSl w w.heap.size (.slice Af nf cf) r.flds) (h3 : BSl w w.heap.size (.slice Ab nb cb) r.body)
    (g1 : BSl w w.heap.size (.slice Ah' nh' ch') r.held) (g2 : FSl w w.heap.size (.slice Af' nf' cf') r.flds) (g3 : BSl w w.heap.size (.slice Ab' nb' cb') r.body) (hm : r.flds.length ≤ 8796093022208) :
    Calls Try.prog 8 #[.agg #[.slice Ah nh ch, .slice Af nf cf, .bool r.begun, .slice Ab nb cb, .bool r.ended], .agg #[.slice Ah' nh' ch', .slice Af' nf' cf', .bool r.begun, .slice Ab' nb' cb', .bool r.ended]] w fun e w' => e = .returned (.bool true) ∧ Below w.heap.size w w' := by
  obtain ⟨held, fl, bg, bd, en⟩ := r
  dsimp only at *
  have X0 := ((Below.refl w.heap.size w).alloc (Nat.le_refl _) (.cells #[.slice Ah nh ch, .slice Af nf cf, .bool bg, .slice Ab nb cb, .bool en] 25)).alloc (by simp) (.cells #[.slice Ah' nh' ch', .slice Af' nf' cf', .bool bg, .slice Ab' nb' cb', .bool en] 25)
  have F1 := (Below.heap_alloc _ (.cells #[.slice Ah' nh' ch', .slice Af' nf' cf', .bool bg, .slice Ab' nb' cb', .bool en] 25) w.heap.size (by simp)).trans (heap_alloc_new w (.cells #[.slice Ah nh ch, .slice Af nf cf, .bool bg, .slice Ab nb cb, .bool en] 25))
  have F2 := heap_alloc_new (w.alloc (.cells #[.slice Ah nh ch, .slice Af nf cf, .bool bg, .slice Ab nb cb, .bool en] 25)) (.cells #[.slice Ah' nh' ch', .slice Af' nf' cf', .bool bg, .slice Ab' nb' cb', .bool en] 25)
  have hs1 : (w.alloc (.cells #[.slice Ah nh ch, .slice Af nf cf, .bool bg, .slice Ab nb cb, .bool en] 25)).heap.size = w.heap.size + 1 := by simp
  rw [hs1] at F2
  obtain ⟨W0, hW0⟩ : ∃ V, ((w.alloc (.cells #[.slice Ah nh ch, .slice Af nf cf, .bool bg, .slice Ab nb cb, .bool en] 25)).alloc (.cells #[.slice Ah' nh' ch', .slice Af' nf' cf', .bool bg, .slice Ab' nb' cb', .bool en] 25)) = V := ⟨_, rfl⟩
  rw [hW0] at X0 F1 F2
  have B0 := Lib.hid X0
  have F1 := Lib.hid F1
  have F2 := Lib.hid F2
  obtain ⟨_, _, e1, _, _, _, a1⟩ := (bsl_onF h1 X0).ex
  obtain ⟨_, _, e2, _, _, _, a2⟩ := (bsl_onF g1 X0).ex
  obtain ⟨_, _, e3, _, _, c1⟩ := (h2.on X0).ex
  obtain ⟨_, _, e4, _, _, c2⟩ := (g2.on X0).ex
  injection e1 with e11 e12 e13
  injection e2 with e21 e22 e23
  injection e3 with e31 e32 e33
  injection e4 with e41 e42 e43
  subst e11 e12 e13 e21 e22 e23 e31 e32 e33 e41 e42 e43
  have HS1 := Lib.hid (sameBytes_eq W0 _ _ _ ch _ ch' _ _ held a1 a2 rfl rfl)
  have HS2 := Lib.hid (lsameFd_eq _ _ _ cf cf' fl W0 c1 c2 rfl hm)
  have HB1 := Lib.hid (bsl_onF h3 X0)
  have HB2 := Lib.hid (bsl_onF g3 X0)
  obtain ⟨x0, x1, x2, x3, x4⟩ := bk5T F1.out
  obtain ⟨y0, y1, y2, y3, y4⟩ := bk5T F2.out
  obtain ⟨hn, hhn⟩ : ∃ q, held.length = q := ⟨_, rfl⟩
  obtain ⟨fn, hfn⟩ : ∃ q, fl.length = q := ⟨_, rfl⟩
  rw [hhn] at HS1 x0 y0 ⊢
  rw [hfn] at HS2 x1 y1 ⊢
  rw [hhn, hfn] at hW0 F1 F2
  clear a1 a2 c1 c2 h1 h2 h3 g1 g2 g3 X0 hs1 hhn hfn hm
  go_enter Try.func8, Try.ntmps8
  go_upto_region 1 with fail
  try rw [hW0]
  clear hW0
  go_wp2_with fail
  refine HS1.out.mono ?_
  rintro e w1 ⟨rfl, rfl⟩
  go_wp2_with fail
  refine HS2.out.mono ?_
  rintro e w2 ⟨rfl, b2⟩
  have F3 := Lib.hid ((b2.block _ (lt_of_block F1.out)).trans F1.out)
  have F4 := Lib.hid ((b2.block _ (lt_of_block F2.out)).trans F2.out)
  have B2 := Lib.hid (B0.out.trans (b2.mono B0.out.size))
  obtain ⟨_, _, e5, _, _, _, a3⟩ := (bsl_onF HB1.out b2).ex
  obtain ⟨_, _, e6, _, _, _, a4⟩ := (bsl_onF HB2.out b2).ex
  injection e5 with e51 e52 e53
  injection e6 with e61 e62 e63
  subst e51 e53 e61 e63
  have HS3 := Lib.hid (sameBytes_eq w2 _ _ nb cb nb' cb' _ _ bd a3 a4 e52.symm e62.symm)
  clear b2 a3 a4 e52 e62 x0 x1 x2 x3 x4 y0 y1 y2 y3 y4 F1 F2 HB1 HB2 HS1 HS2
  obtain ⟨x0, x1, x2, x3, x4⟩ := bk5T F3.out
  obtain ⟨y0, y1, y2, y3, y4⟩ := bk5T F4.out
  go_wp2_with fail
  refine HS3.out.mono ?_
  rintro e w3 ⟨rfl, rfl⟩
  go_wp2_with fail
  go_ret
  exact ⟨by first | rfl | simp, B2.out⟩
theorem feedR_few {r : Rd} {t : Tb} {b : List Int} {fin : Bool} (h : r.flds.length ≤ 8796093022208) : (feedR r t b fin).1.flds.length ≤ 8796093022208 := by
  have h0 : rd0.flds.length ≤ 8796093022208 := by simp [rd0]
  have hN : ∀ (n : Nat) (r : Rd), r.flds.length ≤ 8796093022208 → (feedN t fin n r).1.flds.length ≤ 8796093022208 := by
    intro n
    induction n with
    | zero => intro r h; exact h
    | succ n ih =>
      intro r h
      rw [feedN]
      split
      · split
        · exact h0
        · exact h
      · split
        · split
          · exact h
          · exact h0
        · split
          · exact h
          · split
            · exact h0
            · apply ih
              dsimp only
              by_cases q : (takeR t r.flds r.begun r.body (firstR r.held).1).1.1 = r.flds
              · rw [q]; exact h
              · have : (takeR t r.flds r.begun r.body (firstR r.held).1).1.1.length ≤ 8 := by
                  have e : ∀ fl : List Fld, (takeR t fl r.begun r.body (firstR r.held).1).1.1 = fl ∨ (takeR t fl r.begun r.body (firstR r.held).1).1.1.length ≤ 8 := by
                    intro fl
                    unfold takeR
                    split
                    · split
                      · exact .inr (by simp)
                      · split
                        · exact .inl rfl
                        · split
                          · exact .inr (by simp)
                          · split
                            · exact .inr (by simp)
                            · rename_i h5
                              have h7 := (faultRq_iff.1 (by omega : faultRq (decFl t (firstR r.held).1.dat).1 = 0)).1
                              refine .inr ?_
                              dsimp only
                              unfold faultFl at h7
                              split at h7
                              · cases h7
                              · omega
                    · split
                      · split
                        · exact .inr (by simp)
                        · split
                          · exact .inr (by simp)
                          · exact .inl rfl
                      · exact .inl rfl
                  exact (e r.flds).resolve_left q
                omega
  unfold feedR
  split
  · exact h0
  · split
    · exact h0
    · exact hN _ _ h
set_option maxHeartbeats 4000000 in
theorem requestFeeds_walk (Aho Afo Abo Ad : Option Addr) (nho cho nfo cfo nbo cbo nd cd : Nat) (b2 b4 fin : Bool) (held : List Int) (fl : List Fld) (body b : List Int) (tv : Value) (t : Tb) (W : World) (hh : BSl W W.heap.size (.slice Aho nho cho) held) (hf : FSl W W.heap.size (.slice Afo nfo cfo) fl) (hb : BSl W W.heap.size (.slice Abo nbo cbo) body) (hd : BSl W W.heap.size (.slice Ad nd cd) b) (hv : TbVal W W.heap.size tv t) (hw : TbWf t) (hnf : nfo ≤ 4398046510976) :
    Calls Try.prog 3 #[.agg #[.slice Aho nho cho, .slice Afo nfo cfo, .bool b2, .slice Abo nbo cbo, .bool b4], tv, .slice Ad nd cd, .bool fin] W fun e w' => e = .returned (.bool true) ∧ Below W.heap.size W w' := by
  have l4 : fl.length = nfo := by obtain ⟨_, _, e, _⟩ := hf.ex; cases e; rfl
  have hfew := feedR_few (r := ⟨held, fl, b2, body, b4⟩) (t := t) (b := b) (fin := fin) (by dsimp only; omega)
  obtain ⟨At, nt, ct, room, put, rfl, hv'⟩ := tb_partsR hv
  have X0 := ((Below.refl W.heap.size W).alloc (Nat.le_refl _) (.cells #[.slice Aho nho cho, .slice Afo nfo cfo, .bool b2, .slice Abo nbo cbo, .bool b4] 25)).alloc (by simp) (.cells #[.int .i64 room, .int .i64 put, .slice At nt ct] 27)
  have F1 := (Below.heap_alloc _ (.cells #[.int .i64 room, .int .i64 put, .slice At nt ct] 27) W.heap.size (by simp)).trans (heap_alloc_new W (.cells #[.slice Aho nho cho, .slice Afo nfo cfo, .bool b2, .slice Abo nbo cbo, .bool b4] 25))
  have F2 := heap_alloc_new (W.alloc (.cells #[.slice Aho nho cho, .slice Afo nfo cfo, .bool b2, .slice Abo nbo cbo, .bool b4] 25)) (.cells #[.int .i64 room, .int .i64 put, .slice At nt ct] 27)
  have hs1 : (W.alloc (.cells #[.slice Aho nho cho, .slice Afo nfo cfo, .bool b2, .slice Abo nbo cbo, .bool b4] 25)).heap.size = W.heap.size + 1 := by simp
  rw [hs1] at F2
  obtain ⟨W0, hW0⟩ : ∃ V, ((W.alloc (.cells #[.slice Aho nho cho, .slice Afo nfo cfo, .bool b2, .slice Abo nbo cbo, .bool b4] 25)).alloc (.cells #[.int .i64 room, .int .i64 put, .slice At nt ct] 27)) = V := ⟨_, rfl⟩
  rw [hW0] at X0 F1 F2
  have HF := Lib.hid (feed_any Aho Afo Abo Ad nho cho nfo cfo nbo cbo nd cd fin ⟨held, fl, b2, body, b4⟩ b _ t W0 (bsl_onF hh X0) (hf.on X0) (bsl_onF hb X0) (bsl_onF hd X0) (hv'.on X0) hw hnf)
  have HR := Lib.hid (fun w (k : Below W0.heap.size W0 w) => refFed_any Aho Afo Abo Ad nho cho nfo cfo nbo cbo nd cd fin ⟨held, fl, b2, body, b4⟩ b _ t w (bsl_onF (bsl_onF hh X0) k) ((hf.on X0).on k) (bsl_onF (bsl_onF hb X0) k) (bsl_onF (bsl_onF hd X0) k) ((hv'.on X0).on k) hw)
  obtain ⟨⟨R, E⟩, hR⟩ : ∃ q, feedR ⟨held, fl, b2, body, b4⟩ t b fin = q := ⟨_, rfl⟩
  rw [hR] at HF HR hfew
  dsimp only at HF HR hfew
  have HFW := Lib.hid hfew
  have B0 := Lib.hid X0
  have F1 := Lib.hid F1
  have F2 := Lib.hid F2
  clear hR hfew l4 hh hf hb hd hv hv' hw hnf X0 hs1
  obtain ⟨x0, x1, x2, x3, x4⟩ := bk5T F1.out
  obtain ⟨y0, y1, y2⟩ := bk3T F2.out
  go_enter Try.func3, Try.ntmps3
  go_upto_region 1 with fail
  try rw [hW0]
  clear hW0
  go_wp2_with fail
  refine HF.out.mono ?_
  clear x0 x1 x2 x3 x4 y0 y1 y2
  rintro e w1 ⟨b1, v1, rfl, hv1⟩
  obtain ⟨Ah, ch, Af, cf, Ab, cb, rfl, p1⟩ := hv1.split
  have XB := (Below.refl w1.heap.size w1).alloc (Nat.le_refl _) (.cells #[.slice Ah R.held.length ch, .slice Af R.flds.length cf, .bool R.begun, .slice Ab R.body.length cb, .bool R.ended] 25)
  have G1 := heap_alloc_new w1 (.cells #[.slice Ah R.held.length ch, .slice Af R.flds.length cf, .bool R.begun, .slice Ab R.body.length cb, .bool R.ended] 25)
  have bb := b1.trans (XB.mono b1.size)
  have F3 := Lib.hid ((bb.block _ (lt_of_block F1.out)).trans F1.out)
  have F4 := Lib.hid ((bb.block _ (lt_of_block F2.out)).trans F2.out)
  have KK := Lib.hid bb
  have P1 := Lib.hid (p1.on XB)
  obtain ⟨n1, hn1⟩ : ∃ q, R.held.length = q := ⟨_, rfl⟩
  obtain ⟨n2, hn2⟩ : ∃ q, R.flds.length = q := ⟨_, rfl⟩
  obtain ⟨n3, hn3⟩ : ∃ q, R.body.length = q := ⟨_, rfl⟩
  obtain ⟨g1, hg1⟩ : ∃ q, R.begun = q := ⟨_, rfl⟩
  obtain ⟨g2, hg2⟩ : ∃ q, R.ended = q := ⟨_, rfl⟩
  have HN := Lib.hid (And.intro hn1 (And.intro hn2 (And.intro hn3 (And.intro hg1 hg2))))
  rw [hn1, hn2, hn3, hg1, hg2] at KK F3 F4 P1 G1 ⊢
  clear hn1 hn2 hn3 hg1 hg2 b1 hv1 p1 XB bb HF
  obtain ⟨k1, hk1⟩ : ∃ k, w1.heap.size = k := ⟨_, rfl⟩
  rw [hk1] at G1
  go_upto_region 2 with fail
  obtain ⟨W2, hW2⟩ : ∃ q, w1.alloc (.cells #[.slice Ah n1 ch, .slice Af n2 cf, .bool g1, .slice Ab n3 cb, .bool g2] 25) = q := ⟨_, rfl⟩
  rw [hW2] at G1 F3 F4 KK P1 ⊢
  have G2 := Lib.hid G1
  clear hW2 hk1 G1 F1 F2
  obtain ⟨x0, x1, x2, x3, x4⟩ := bk5T F3.out
  obtain ⟨y0, y1, y2⟩ := bk3T F4.out
  go_wp2_with fail
  refine (HR.out W2 KK.out).mono ?_
  clear x0 x1 x2 x3 x4 y0 y1 y2
  rintro e w3 ⟨b3, v3, rfl, hv3⟩
  obtain ⟨Ah', ch', Af', cf', Ab', cb', rfl, p3⟩ := hv3.split
  rw [HN.out.1, HN.out.2.1, HN.out.2.2.1, HN.out.2.2.2.1, HN.out.2.2.2.2] at p3 ⊢
  have XB := (Below.refl w3.heap.size w3).alloc (Nat.le_refl _) (.cells #[.slice Ah' n1 ch', .slice Af' n2 cf', .bool g1, .slice Ab' n3 cb', .bool g2] 25)
  have G3 := heap_alloc_new w3 (.cells #[.slice Ah' n1 ch', .slice Af' n2 cf', .bool g1, .slice Ab' n3 cb', .bool g2] 25)
  have bb := b3.trans (XB.mono b3.size)
  have G4 := Lib.hid ((bb.block _ (lt_of_block G2.out)).trans G2.out)
  have B4 := Lib.hid (B0.out.trans ((KK.out.trans (bb.mono KK.out.size)).mono B0.out.size))
  have P2 := Lib.hid (P1.out.on bb)
  have P3 := Lib.hid (p3.on XB)
  obtain ⟨k3, hk3⟩ : ∃ k, w3.heap.size = k := ⟨_, rfl⟩
  rw [hk3] at G3
  clear b3 hv3 p3 XB bb HR P1 KK
  go_upto_region 3 with fail
  obtain ⟨W4, hW4⟩ : ∃ q, w3.alloc (.cells #[.slice Ah' n1 ch', .slice Af' n2 cf', .bool g1, .slice Ab' n3 cb', .bool g2] 25) = q := ⟨_, rfl⟩
  rw [hW4] at G3 G4 B4 P2 P3 ⊢
  have G5 := Lib.hid G3
  clear hW4 hk3 G3 G2 F3 F4
  obtain ⟨p1, p2, p3⟩ := P2.out.parts
  obtain ⟨q1, q2, q3⟩ := P3.out.parts
  have HSM := Lib.hid (sameRd_any Ah Af Ab Ah' Af' Ab' n1 ch n2 cf n3 cb n1 ch' n2 cf' n3 cb' R W4 p1 p2 p3 q1 q2 q3 HFW.out)
  rw [HN.out.2.2.2.1, HN.out.2.2.2.2] at HSM
  clear p1 p2 p3 q1 q2 q3
  obtain ⟨x0, x1, x2, x3, x4⟩ := bk5T G4.out
  obtain ⟨y0, y1, y2, y3, y4⟩ := bk5T G5.out
  go_wp2_with fail
  refine HSM.out.mono ?_
  clear x0 x1 x2 x3 x4 y0 y1 y2 y3 y4
  rintro e w5 ⟨rfl, b5⟩
  have B5 := Lib.hid (B4.out.trans (b5.mono B4.out.size))
  clear b5
  go_wp2_with fail
  go_ret
  exact ⟨by first | rfl | simp, B5.out⟩
end Go.Proofs.Ytpfahdogedchpaa
