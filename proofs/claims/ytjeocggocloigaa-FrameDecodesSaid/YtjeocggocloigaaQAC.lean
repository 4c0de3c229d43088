/- Texts of the proofs, joined. -/
import Derived.Test.YtjeocggocloigaaQAB
import Derived.Test.YtjeocggocloigaaQA
import Derived.Test.YtjeocggocloigaaQC
import Derived.Test.YtjeocggocloigaaQH
import Derived.Test.YtjeocggocloigaaQM
import Derived.Laws.IdiomStrings
import Derived.Test.YtjeocggocloigaaQB
/- The document's reader of a frame: its closure num, over what is left and what is wrong. -/
namespace Go.Proofs.Ytjeocggocloigaa
set_option linter.unusedVariables false
open Go.RowKit P

theorem str_drop (zs : List Int) (k : Nat) : (strOfNums zs).extract k (strOfNums zs).size = strOfNums (zs.drop k) := by
  apply ByteArray.ext
  apply Array.toList_inj.1
  rw [Lib.extract_data, strOfNums_data, strOfNums_data]
  have e : (strOfNums zs).size = zs.length := strOfNums_size zs
  rw [e, List.map_drop]
  rw [List.take_of_length_le (by rw [List.length_drop, List.length_map]; omega)]

/-- what is left lies in block ps, what is wrong in block pb -/
structure RefAt (w : World) (ps pb : Nat) (σ : St) : Prop where
  s : w.heap[ps]? = some (.cells #[.string (strOfNums σ.2)] 9 (0, 0))
  b : w.heap[pb]? = some (.cells #[.int .i64 σ.1] 26 (0, 0))
  ne : ps ≠ pb
/-- nothing but the two blocks has turned -/
structure Mod2 (ps pb : Nat) (w w' : World) : Prop where
  os : w'.os = w.os
  tape : w'.tape = w.tape
  output : w'.output = w.output
  size : w.heap.size ≤ w'.heap.size
  block : ∀ k, k < w.heap.size → k ≠ ps → k ≠ pb → w'.heap[k]? = w.heap[k]?
theorem Mod2.refl (ps pb : Nat) (w : World) : Mod2 ps pb w w := ⟨rfl, rfl, rfl, Nat.le_refl _, fun _ _ _ _ => rfl⟩
theorem Mod2.trans {ps pb : Nat} {a b c : World} (h : Mod2 ps pb a b) (k : Mod2 ps pb b c) : Mod2 ps pb a c :=
  ⟨k.os.trans h.os, k.tape.trans h.tape, k.output.trans h.output, Nat.le_trans h.size k.size, fun i hi h1 h2 => (k.block i (Nat.lt_of_lt_of_le hi h.size) h1 h2).trans (h.block i hi h1 h2)⟩
theorem Mod2.of {ps pb : Nat} {w w' : World} (h : Below w.heap.size w w') : Mod2 ps pb w w' := ⟨h.os, h.tape, h.output, h.size, fun k hk _ _ => h.block k hk⟩
theorem Mod2.grown {ps pb k : Nat} {w w' : World} (g : w.grownBy w' (some k)) (h : k = ps ∨ k = pb) : Mod2 ps pb w w' :=
  ⟨g.os, g.tape, g.output, g.size, fun i hi h1 h2 => g.block i hi (by simp; omega)⟩
theorem Mod2.below {ps pb B : Nat} {W w w' : World} (h : Mod2 ps pb w w') (k : Below B W w) (h1 : B ≤ ps) (h2 : B ≤ pb) (hB : B ≤ w.heap.size) : Below B W w' :=
  ⟨h.os.trans k.os, h.tape.trans k.tape, h.output.trans k.output, Nat.le_trans k.size h.size, fun i hi => (h.block i (by omega) (by omega) (by omega)).trans (k.block i hi)⟩
theorem RefAt.on {w w' : World} {ps pb : Nat} {σ : St} (h : RefAt w ps pb σ) (hb : Below w.heap.size w w') : RefAt w' ps pb σ :=
  ⟨(hb.block _ (lt_of_block h.s)).trans h.s, (hb.block _ (lt_of_block h.b)).trans h.b, h.ne⟩
def NumPost (ps pb : Nat) (σ : St) (w : World) (e : Ending) (w' : World) : Prop := e = .returned (.int .i64 (numS σ).1) ∧ RefAt w' ps pb (numS σ).2 ∧ Mod2 ps pb w w'

theorem varOf_no (zs : List Int) (hb : Byt zs) (h : ¬ decOk zs) (w : World) :
    Calls Try.prog 23 #[.string (strOfNums zs)] w fun e w' => e = .returned (.tuple #[.int .i64 0, .int .i64 0, .int .i64 4]) ∧ Below w.heap.size w w' := by
  by_cases h0 : 0 < zs.length
  · exact varOf_short _ zs rfl hb h0 (by unfold decOk at h; omega) w
  · have e : zs = [] := List.eq_nil_of_length_eq_zero (by omega)
    subst e
    exact varOf_empty w

set_option maxRecDepth 100000 in
set_option maxHeartbeats 600000 in
theorem numC_any (ps pb : Nat) (σ : St) (w : World) (h : RefAt w ps pb σ) (hy : Byt σ.2) (hl : σ.2.length ≤ 140737488355328) :
    Calls Try.prog 22 #[.pointer (some ⟨pb, 0, none⟩), .pointer (some ⟨ps, 0, none⟩)] w (NumPost ps pb σ w) := by
  obtain ⟨e, zs⟩ := σ
  simp only at *
  have HA := Lib.hid h
  obtain ⟨h1, h2, hne⟩ := h
  have hne' : pb ≠ ps := fun e => hne e.symm
  have H1 := Lib.hid h1
  have H2 := Lib.hid h2
  have s0 := blk_cell h1 0
  have b0 := blk_cell h2 0
  simp only [List.getElem?_toArray, List.getElem?_cons_zero] at s0 b0
  by_cases he : e = 0
  · subst he
    obtain ⟨S, hS⟩ : ∃ S, strOfNums zs = S := ⟨_, rfl⟩
    have hsz : S.size = zs.length := by rw [← hS]; exact strOfNums_size zs
    obtain ⟨m, v, q, hm, hN, hV⟩ : ∃ (m : Nat) (v q : Int), m ≤ S.size ∧ numS (0, zs) = (v, (q, zs.drop m)) ∧ ∀ w, Calls Try.prog 23 #[.string S] w fun e w' => e = .returned (.tuple #[.int .i64 v, .int .i64 m, .int .i64 q]) ∧ Below w.heap.size w w' := by
      by_cases hd : decOk zs
      · obtain ⟨m, hml, _, hkm, _⟩ := marked zs hy hd
        refine ⟨m, decV zs, 0, by omega, ?_, fun w => ?_⟩
        · unfold numS
          rw [if_pos rfl, if_pos hd, hkm]
          rfl
        · have := varOf_long S zs hS.symm hy hd w
          rwa [hkm] at this
      · refine ⟨0, 0, 4, Nat.zero_le _, ?_, fun w => ?_⟩
        · unfold numS
          rw [if_pos rfl, if_neg hd]
          rfl
        · exact hS ▸ varOf_no zs hy hd w
    rw [hS] at s0
    have HSS := Lib.hid hS
    have HD := Lib.hid (show S.extract m S.size = strOfNums (zs.drop m) by rw [← hS]; exact str_drop zs m)
    have HV := Lib.hid hV
    have HN := Lib.hid hN
    have hS48 : S.size ≤ 140737488355328 := by omega
    have hm' : (m : Int) ≤ (S.size : Int) := by omega
    clear h1 h2 hS hV hN hsz hy hl
    go_enter Try.func22, Try.ntmps22
    go_wp2_with (go_at_call 23; refine (HV.out _).mono ?_; rintro e w1 ⟨rfl, hb1⟩; have B1 := Lib.hid hb1; have F1 := Lib.hid ((hb1.block _ (lt_of_block H1.out)).trans H1.out); have F2 := Lib.hid ((hb1.block _ (lt_of_block H2.out)).trans H2.out); clear hb1 s0 b0; have s1 := blk_cell F1.out 0; have b1 := blk_cell F2.out 0; simp only [List.getElem?_toArray, List.getElem?_cons_zero] at s1 b1; rw [HSS.out] at s1; have sf := blk_frz F1.out 0; have bf := blk_frz F2.out 0)
    go_ret
    have hb2 := B1.out
    have G1 := grown_set w1 pb 0 (.int .i64 q)
    have G2 := grown_set (w1.setCell ⟨pb, 0, none⟩ (.int .i64 q)) ps 0 (.string (S.extract m S.size))
    have k1 := (G1.block ps (lt_of_block F1.out) (by simp; exact hne)).trans F1.out
    have k2 := blk_set F2.out 0 (.int .i64 q)
    have k3 := blk_set k1 0 (.string (S.extract m S.size))
    have k4 := (G2.block pb (lt_of_block k2) (by simp; exact hne')).trans k2
    refine ⟨by rw [HN.out]; rfl, ⟨?_, ?_, hne⟩, (Mod2.of hb2).trans ((Mod2.grown G1 (.inr rfl)).trans (Mod2.grown G2 (.inl rfl)))⟩
    · rw [HN.out, ← HD.out]
      simpa using k3
    · rw [HN.out]
      simpa using k4
  · have g : (e != 0) = true := by simp [he]
    have HN := Lib.hid (numS_bad (σ := (e, zs)) he)
    clear h1 h2 he
    go_enter Try.func22, Try.ntmps22
    go_wp2_with fail
    go_ret
    exact ⟨by rw [HN.out]; rfl, by rw [HN.out]; exact HA.out, Mod2.refl _ _ _⟩
end Go.Proofs.Ytjeocggocloigaa
/- The document's reader of a frame: what lies in memory between its steps. -/
namespace Go.Proofs.Ytjeocggocloigaa
set_option linter.unusedVariables false
open Go.RowKit P

theorem mod2_own {ps pb base e size n : Nat} {w w' : World} {v : Value} {xs : List Value} (h : w.ownsRow base e size v n xs) (m : Mod2 ps pb w w') (h1 : ps < base) (h2 : pb < base) : w'.ownsRow base e size v n xs := by
  refine ⟨h.1, ?_⟩
  rcases h.2 with hn | ⟨g, cap, cur, rfl, hb, hg, rest⟩
  · exact .inl hn
  · refine .inr ⟨g, cap, cur, rfl, hb, ?_, rest⟩
    rw [m.block g (lt_of_block hg) (by omega) (by omega)]
    exact hg
/-- a slice whose row, if it has one, lies from block B on -/
def SlFrom (B : Nat) (v : Value) : Prop := ∀ b o n c, v = .slice (some ⟨b, o, none⟩) n c → B ≤ b
theorem SlFrom.nil {B : Nat} : SlFrom B (.slice none 0 0) := fun b o n c e => by cases e
theorem SlFrom.at {B b n c : Nat} (h : B ≤ b) : SlFrom B (.slice (some ⟨b, 0, none⟩) n c) := fun b' o n' c' e => by cases e; exact h
theorem bsl_same {B : Nat} {w w' : World} {v : Value} {zs : List Int} (h : BSl w w.heap.size v zs) (hs : SlFrom B v) (hz : w.heap.size ≤ w'.heap.size) (hk : ∀ k, k < w.heap.size → B ≤ k → w'.heap[k]? = w.heap[k]?) : BSl w' w'.heap.size v zs := by
  obtain ⟨A, c, rfl, h1, h2, h3, h4⟩ := h.ex
  refine ⟨A, c, rfl, h1, h2, h3, h4.1, fun hn => ?_⟩
  obtain ⟨b, off, e, hb, hc⟩ := h4.2 hn
  subst e
  have k := hk b hb (hs b off _ _ rfl)
  exact ⟨b, off, rfl, by omega, fun j hj => (by simp only [World.cell?, k]; exact hc j hj)⟩

/-- between the steps: what is left and wrong, the result's variable, the frame's variable, its rows above it -/
structure FoAt (w0 : World) (pf : Nat) (σ : St) (F : Fr) (r d : Value) (L : Nat) (wr : World) : Prop where
  ra : RefAt wr w0.heap.size (w0.heap.size + 1 + 1) σ
  fz : wr.heap[w0.heap.size + 1]? = some (.cells #[.int .i64 0, .int .i64 0, .int .i64 0, .bool false, .int .i64 0, .slice none 0 0, .slice none 0 0] 25 (0, 0))
  fb : wr.heap[pf]? = some (.cells #[.int .i64 F.kind, .int .i64 F.id, .int .i64 F.off, .bool F.fin, .int .i64 F.code, r, d] 25 (0, 0))
  pf0 : w0.heap.size + 1 + 1 < pf
  be : Below w0.heap.size w0 wr
  yt : Byt σ.2
  ln : σ.2.length ≤ L
  rs : OwnR wr (pf + 1) 51 r F.rs
  da : BSl wr wr.heap.size d F.data
  dn : SlFrom (pf + 1) d
section
variable {w0 wr w' : World} {pf L : Nat} {σ σ' : St} {F : Fr} {r d : Value}
theorem FoAt.on (h : FoAt w0 pf σ F r d L wr) (hb : Below wr.heap.size wr w') : FoAt w0 pf σ F r d L w' :=
  ⟨h.ra.on hb, (hb.block _ (lt_of_block h.fz)).trans h.fz, (hb.block _ (lt_of_block h.fb)).trans h.fb, h.pf0, h.be.trans (hb.mono h.be.size), h.yt, h.ln,
    World.ownsRow.kept h.rs (grown_below none hb) (by cases hv : r.ownBlock with | none => exact .inl rfl | some k => exact .inr (by simp)), (h.da.below hb).more hb.size, h.dn⟩
theorem FoAt.num (h : FoAt w0 pf σ F r d L wr) (ha : RefAt w' w0.heap.size (w0.heap.size + 1 + 1) σ') (m : Mod2 w0.heap.size (w0.heap.size + 1 + 1) wr w') (hy : Byt σ'.2) (hl : σ'.2.length ≤ L) : FoAt w0 pf σ' F r d L w' :=
  have p := h.pf0
  ⟨ha, (m.block _ (lt_of_block h.fz) (by omega) (by omega)).trans h.fz, (m.block _ (lt_of_block h.fb) (by omega) (by omega)).trans h.fb, p, m.below h.be (Nat.le_refl _) (by omega) h.be.size, hy, hl,
    mod2_own h.rs m (by omega) (by omega), bsl_same h.da h.dn m.size (fun k hk hp => m.block k hk (by omega) (by omega)), h.dn⟩
/-- the frame's variable is written anew -/
theorem FoAt.put (h : FoAt w0 pf σ F r d L wr) {F' : Fr} (g : wr.grownBy w' (some pf)) (hf : w'.heap[pf]? = some (.cells #[.int .i64 F'.kind, .int .i64 F'.id, .int .i64 F'.off, .bool F'.fin, .int .i64 F'.code, r, d] 25 (0, 0))) (e1 : F'.rs = F.rs) (e2 : F'.data = F.data) : FoAt w0 pf σ F' r d L w' :=
  have p := h.pf0
  ⟨⟨(g.block _ (lt_of_block h.ra.s) (by simp; omega)).trans h.ra.s, (g.block _ (lt_of_block h.ra.b) (by simp; omega)).trans h.ra.b, h.ra.ne⟩, (g.block _ (lt_of_block h.fz) (by simp; omega)).trans h.fz, hf, p,
    h.be.grown g h.be.size (fun k e => (by cases e; omega)), h.yt, h.ln,
    e1 ▸ World.ownsRow.kept h.rs g (by
      cases hv : r.ownBlock with
      | none => exact .inl rfl
      | some k => exact .inr (by have := (OwnR.lt h.rs k hv).1; simp; omega)),
    e2 ▸ bsl_same h.da h.dn g.size (fun k hk hp => g.block k hk (by simp; omega)), h.dn⟩
theorem FoAt.set (h : FoAt w0 pf σ F r d L wr) {F' : Fr} (i : Nat) (v : Value) (hf : (#[.int .i64 F.kind, .int .i64 F.id, .int .i64 F.off, .bool F.fin, .int .i64 F.code, r, d] : Array Value).setIfInBounds i v = #[.int .i64 F'.kind, .int .i64 F'.id, .int .i64 F'.off, .bool F'.fin, .int .i64 F'.code, r, d]) (e1 : F'.rs = F.rs) (e2 : F'.data = F.data) : FoAt w0 pf σ F' r d L (wr.setCell ⟨pf, i, none⟩ v) :=
  h.put (grown_set wr pf i v) (hf ▸ blk_set h.fb i v) e1 e2
theorem FoAt.cells (h : FoAt w0 pf σ F r d L wr) : wr.cell? ⟨w0.heap.size + 1 + 1, 0, none⟩ = some (.int .i64 σ.1) ∧ wr.cell? ⟨w0.heap.size, 0, none⟩ = some (.string (strOfNums σ.2)) ∧ wr.frozen? ⟨w0.heap.size + 1 + 1, 0, none⟩ = false ∧ wr.frozen? ⟨w0.heap.size, 0, none⟩ = false :=
  ⟨blk_cell h.ra.b 0, blk_cell h.ra.s 0, blk_frz h.ra.b 0, blk_frz h.ra.s 0⟩
end
section
variable {w0 wr : World} {pf L : Nat} {e : Int} {t : List Int} {F : Fr} {r d : Value}
theorem FoAt.bad (h : FoAt w0 pf (e, t) F r d L wr) (x : Int) : FoAt w0 pf (x, t) F r d L (wr.setCell ⟨w0.heap.size + 1 + 1, 0, none⟩ (.int .i64 x)) := by
  have g := grown_set wr (w0.heap.size + 1 + 1) 0 (.int .i64 x)
  exact h.num ⟨(g.block _ (lt_of_block h.ra.s) (by simp; omega)).trans h.ra.s, by simpa using blk_set h.ra.b 0 (.int .i64 x), h.ra.ne⟩ (Mod2.grown g (.inr rfl)) h.yt h.ln
theorem FoAt.left (h : FoAt w0 pf (e, t) F r d L wr) {t' : List Int} (hy : Byt t') (hl : t'.length ≤ t.length) : FoAt w0 pf (e, t') F r d L (wr.setCell ⟨w0.heap.size, 0, none⟩ (.string (strOfNums t'))) := by
  have g := grown_set wr w0.heap.size 0 (.string (strOfNums t'))
  exact h.num ⟨by simpa using blk_set h.ra.s 0 (.string (strOfNums t')), (g.block _ (lt_of_block h.ra.b) (by simp; omega)).trans h.ra.b, h.ra.ne⟩ (Mod2.grown g (.inl rfl)) hy (Nat.le_trans hl h.ln)
end
theorem word_short {t : List Int} (h : t.length < 8) : wordS (0, t) = (beFrom 0 [], (4, t)) := by
  unfold wordS takeS refS
  have d : ((t.length : Int) < 8) := by omega
  simp [d]
theorem word_long {t : List Int} (h : 8 ≤ t.length) : wordS (0, t) = (beFrom 0 (t.take 8), (0, t.drop 8)) := by
  unfold wordS takeS refS
  have d : ¬ ((t.length : Int) < 8) := by omega
  simp [d]
theorem data_bad {t t5 : List Int} {v e5 : Int} (h : numS (0, t) = (v, (e5, t5))) (he : e5 ≠ 0) : dataS (0, t) = ([], (e5, t5)) := by
  unfold dataS
  rw [h]
  simp only
  rw [refS_bad (σ := (e5, t5)) he, takeS_bad (σ := (e5, t5)) he]
theorem data_big {t t5 : List Int} {v : Int} (h : numS (0, t) = (v, (0, t5))) (hv : 120 < v) : dataS (0, t) = ([], (1, t5)) := by
  unfold dataS
  rw [h]
  have q : refS (decide (120 < v)) 1 (0, t5) = (1, t5) := by unfold refS; simp [hv]
  simp only
  rw [q, takeS_bad (σ := (1, t5)) (by show (1 : Int) ≠ 0; decide)]
theorem data_short {t t5 : List Int} {v : Int} (h : numS (0, t) = (v, (0, t5))) (hv : ¬ 120 < v) (hs : (t5.length : Int) < v) : dataS (0, t) = ([], (4, t5)) := by
  unfold dataS
  rw [h]
  have q : refS (decide (120 < v)) 1 (0, t5) = (0, t5) := by unfold refS; simp [hv]
  simp only
  rw [q]
  unfold takeS refS
  simp [hs]
theorem data_ok {t t5 : List Int} {v : Int} (h : numS (0, t) = (v, (0, t5))) (hv : ¬ 120 < v) (hs : ¬ (t5.length : Int) < v) : dataS (0, t) = (t5.take v.toNat, (0, t5.drop v.toNat)) := by
  unfold dataS
  rw [h]
  have q : refS (decide (120 < v)) 1 (0, t5) = (0, t5) := by unfold refS; simp [hv]
  simp only
  rw [q]
  unfold takeS refS
  simp [hs]
/-- bytes made of a string, wherever -/
theorem conv_any (ys : List Int) (hb : Byt ys) (hl : ys.length ≤ 120) (w : World) : ∃ C W1, (convert 9 23 (.string (strOfNums ys))).run Try.prog w = .ok (.slice (some ⟨w.heap.size, 0, none⟩) ys.length C) W1 ∧ Below w.heap.size w W1 ∧ BSl W1 W1.heap.size (.slice (some ⟨w.heap.size, 0, none⟩) ys.length C) ys := by
  have hls : (strOfNums ys).size = ys.length := strOfNums_size ys
  have hrun := run_bytes_of_string (P := Try.prog) w 9 23 5 (strOfNums ys) Try.underlying9 Try.underlying23 Try.underlying5
  have hC := grownCap_ge w (strOfNums ys).size 0 5
  have hM := grownCap_le_maxLen w (strOfNums ys).size 0 5 (by rw [hls]; unfold maxLen; omega)
  rw [hls] at hC hM
  have hrow := bytesRow_brow w ys hb (grownCap w (strOfNums ys).size 0 5) 5 ((bytesRow (strOfNums ys) (grownCap w (strOfNums ys).size 0 5)).size, (bytesRow (strOfNums ys) (grownCap w (strOfNums ys).size 0 5)).size + 1)
  rw [hls] at hrow
  exact ⟨_, _, by rw [hrun, hls], ((Below.refl w.heap.size w).drew).alloc (Nat.le_refl _) _, ⟨_, _, rfl, hC, hM, (fun e => by cases e), hrow.more (by simp)⟩⟩
section
variable {w0 wr : World} {pf L : Nat} {σ : St} {F : Fr} {r d : Value}
theorem FoAt.setD (h : FoAt w0 pf σ F r d L wr) {d' : Value} {ys : List Int} (hd : BSl wr wr.heap.size d' ys) (hs : SlFrom (pf + 1) d') : FoAt w0 pf σ { F with data := ys } r d' L (wr.setCell ⟨pf, 6, none⟩ d') := by
  have g := grown_set wr pf 6 d'
  have p := h.pf0
  exact ⟨⟨(g.block _ (lt_of_block h.ra.s) (by simp; omega)).trans h.ra.s, (g.block _ (lt_of_block h.ra.b) (by simp; omega)).trans h.ra.b, h.ra.ne⟩, (g.block _ (lt_of_block h.fz) (by simp; omega)).trans h.fz, by simpa using blk_set h.fb 6 d', p,
    h.be.grown g h.be.size (fun k e => (by cases e; omega)), h.yt, h.ln,
    World.ownsRow.kept h.rs g (by
      cases hv : r.ownBlock with
      | none => exact .inl rfl
      | some k => exact .inr (by have := (OwnR.lt h.rs k hv).1; simp; omega)),
    bsl_same hd hs g.size (fun k hk hp => g.block k hk (by simp; omega)), hs⟩
end
section
variable {w0 wr : World} {pf L : Nat} {σ : St} {F : Fr} {r d : Value}
/-- one more range, and the frame's variable told of it -/
theorem FoAt.app (h : FoAt w0 pf σ F r d L wr) (h0 : F.data = []) (o : Obj) {v' : Value} {w' : World} {l' : List (Int × Int)} (ho : OwnR w' (pf + 1) 51 v' l') (g : (wr.alloc o).grownBy w' r.ownBlock) :
    w'.heap[pf]? = some (.cells #[.int .i64 F.kind, .int .i64 F.id, .int .i64 F.off, .bool F.fin, .int .i64 F.code, r, d] 25 (0, 0)) ∧ FoAt w0 pf σ { F with rs := l' } v' d L (w'.setCell ⟨pf, 5, none⟩ v') := by
  have p := h.pf0
  have hA := h.on ((Below.refl wr.heap.size wr).alloc (Nat.le_refl _) o)
  have ne : ∀ k, k ≤ pf → some k ≠ r.ownBlock := fun k hk e => by have := (OwnR.lt h.rs k e.symm).1; omega
  have b1 := (g.block pf (lt_of_block hA.fb) (ne pf (Nat.le_refl _))).trans hA.fb
  have g2 := grown_set w' pf 5 v'
  have bw : Below w0.heap.size w0 w' := hA.be.grown g hA.be.size (fun k e => by have := (OwnR.lt h.rs k e).1; omega)
  refine ⟨b1, ⟨?_, ?_, ?_⟩, ?_, by simpa using blk_set b1 5 v', p, bw.grown g2 bw.size (fun k e => (by cases e; omega)), h.yt, h.ln, ?_, ?_, h.dn⟩
  · exact (g2.block _ (Nat.lt_of_lt_of_le (lt_of_block hA.ra.s) g.size) (by simp; omega)).trans ((g.block _ (lt_of_block hA.ra.s) (ne _ (by omega))).trans hA.ra.s)
  · exact (g2.block _ (Nat.lt_of_lt_of_le (lt_of_block hA.ra.b) g.size) (by simp; omega)).trans ((g.block _ (lt_of_block hA.ra.b) (ne _ (by omega))).trans hA.ra.b)
  · exact h.ra.ne
  · exact (g2.block _ (Nat.lt_of_lt_of_le (lt_of_block hA.fz) g.size) (by simp; omega)).trans ((g.block _ (lt_of_block hA.fz) (ne _ (by omega))).trans hA.fz)
  · exact World.ownsRow.kept ho g2 (by
      cases hv : v'.ownBlock with
      | none => exact .inl rfl
      | some k => exact .inr (by have := (OwnR.lt ho k hv).1; simp; omega))
  · obtain ⟨A, c, rfl, e1, e2, e3, e4⟩ := h.da.ex
    refine ⟨A, c, rfl, e1, e2, e3, ?_⟩
    show BRow _ _ A F.data
    rw [h0]
    exact BRow.nil _ _ _
end
/-- a frame's rows, from block B on -/
structure RowsAt (w : World) (B : Nat) (r d : Value) (F : Fr) : Prop where
  rs : OwnR w B 51 r F.rs
  da : BSl w w.heap.size d F.data
  dn : SlFrom B d
theorem RowsAt.on {w w' : World} {B : Nat} {r d : Value} {F : Fr} (h : RowsAt w B r d F) (hb : Below w.heap.size w w') : RowsAt w' B r d F :=
  ⟨World.ownsRow.kept h.rs (grown_below none hb) (by cases hv : r.ownBlock with | none => exact .inl rfl | some k => exact .inr (by simp)), (h.da.below hb).more hb.size, h.dn⟩
theorem RowsAt.other {w w' : World} {B k : Nat} {r d : Value} {F : Fr} (h : RowsAt w B r d F) (g : w.grownBy w' (some k)) (hk : k < B) : RowsAt w' B r d F :=
  ⟨World.ownsRow.kept h.rs g (by
    cases hv : r.ownBlock with
    | none => exact .inl rfl
    | some q => exact .inr (by have := (OwnR.lt h.rs q hv).1; simp; omega)), bsl_same h.da h.dn g.size (fun i hi hp => g.block i hi (by simp; omega)), h.dn⟩
theorem RowsAt.val {w : World} {B : Nat} {r d : Value} {F : Fr} (h : RowsAt w B r d F) : FrVal w w.heap.size (.agg #[.int .i64 F.kind, .int .i64 F.id, .int .i64 F.off, .bool F.fin, .int .i64 F.code, r, d]) F := ⟨r, d, rfl, rsl_own h.rs, h.da⟩
def RefDec (zs : List Int) (w : World) (e : Ending) (w' : World) : Prop :=
  Below w.heap.size w w' ∧ match decF zs with
  | .error x => e = .returned (.tuple #[.agg #[.int .i64 0, .int .i64 0, .int .i64 0, .bool false, .int .i64 0, .slice none 0 0, .slice none 0 0], .int .i64 0, .int .i64 x])
  | .ok (f, t) => ∃ v, e = .returned (.tuple #[v, .int .i64 ((zs.length : Int) - t.length), .int .i64 0]) ∧ FrVal w' w'.heap.size v f
theorem refDec_ok {zs t : List Int} {w w' : World} {e : Ending} {f : Fr} {v : Value} (hb : Below w.heap.size w w') (hd : decF zs = .ok (f, t)) (he : e = .returned (.tuple #[v, .int .i64 ((zs.length : Int) - t.length), .int .i64 0])) (hv : FrVal w' w'.heap.size v f) : RefDec zs w e w' := by
  refine ⟨hb, ?_⟩
  rw [hd]
  exact ⟨v, he, hv⟩
theorem refDec_er {zs : List Int} {w w' : World} {e : Ending} {x : Int} (hb : Below w.heap.size w w') (hd : decF zs = .error x) (he : e = .returned (.tuple #[.agg #[.int .i64 0, .int .i64 0, .int .i64 0, .bool false, .int .i64 0, .slice none 0 0, .slice none 0 0], .int .i64 0, .int .i64 x])) : RefDec zs w e w' := by
  refine ⟨hb, ?_⟩
  rw [hd]
  exact he
def finF : Except Int (Fr × List Int) → Except Int (Fr × List Int)
  | .error e => .error e
  | .ok (f, u) => if faultF f = 0 then .ok (f, u) else .error (faultF f)
theorem decF_at {zs t : List Int} {n : Int} (h : rd zs = .ok (n, t)) (h8 : n ≠ 8) {ps : List Int} (hp : partsOf (if n = 14 ∨ n = 15 then 8 else n) = some ps) : decF zs = finF (decPsS ps ⟨if n = 14 ∨ n = 15 then 8 else n, 0, 0, decide (n = 15), 0, [], []⟩ (0, t)) := by
  unfold decF
  rw [h]
  simp only
  rw [if_neg h8, hp]
  simp only
  unfold decPsS
  rw [if_pos rfl]
  cases decPs ps ⟨if n = 14 ∨ n = 15 then 8 else n, 0, 0, decide (n = 15), 0, [], []⟩ t with
  | error e => rfl
  | ok p => obtain ⟨f, u⟩ := p; rfl
theorem decF_no {zs t : List Int} {n : Int} (h : rd zs = .ok (n, t)) (hp : n = 8 ∨ partsOf (if n = 14 ∨ n = 15 then 8 else n) = none) : decF zs = .error 2 := by
  unfold decF
  rw [h]
  simp only
  by_cases h8 : n = 8
  · rw [if_pos h8]
  · rw [if_neg h8]
    rcases hp with hp | hp
    · exact absurd hp h8
    · rw [hp]
end Go.Proofs.Ytjeocggocloigaa
/- The ranges of an Ack, as the document's answer reads them one by one. Nothing of the program's. -/
namespace Go.Proofs.Ytjeocggocloigaa.P
set_option linter.unusedVariables false
open Go.RowKit

theorem RRow.oneAt {w : World} {lo hi : Int} {t : TypeId} {n : Nat} (h : w.heap.size = n) : RRow (w.alloc (.cells #[.int .i64 lo, .int .i64 hi] t)) (n + 1) (some ⟨n, 0, none⟩) [(lo, hi)] := h ▸ RRow.one w lo hi t
/-- k ranges have been read: l; hi is the last one's upper end, σ what is left and wrong -/
structure RI (t : List Int) (n hi0 : Int) (σ3 : St) (k : Nat) (l : List (Int × Int)) (hi : Int) (σ : St) : Prop where
  len : l.length = k
  at0 : k = 0 → σ = σ3 ∧ hi = hi0
  atK : 0 < k → decRs t = conR l (decTS (n.toNat + 1 - k) (l.getD (k - 1) (0, 0)).1 σ) ∧ (σ.1 = 0 → 0 ≤ (l.getD (k - 1) (0, 0)).1) ∧ (l.getD (k - 1) (0, 0)).1 ≤ 4611686018427387903
theorem RI.start (t : List Int) (n hi0 : Int) (σ3 : St) : RI t n hi0 σ3 0 [] hi0 σ3 := ⟨rfl, fun _ => ⟨rfl, rfl⟩, fun h => absurd h (by omega)⟩
section
variable {t : List Int} {n hi0 hi : Int} {σ1 σ2 σ : St} {k : Nat} {l : List (Int × Int)}
theorem RI.one (h1 : numS (0, t) = (hi0, σ1)) (h2 : numS σ1 = (n, σ2)) (hb : Byt (refS (decide (6 ≤ n)) 1 σ2).2) (hh : hi0 ≤ 4611686018427387903) {r : Int × Int} {σ4 : St} (hd : downS hi0 (refS (decide (6 ≤ n)) 1 σ2) = (r, σ4)) : RI t n hi0 (refS (decide (6 ≤ n)) 1 σ2) 1 [r] hi0 σ4 := by
  have bd := downS_bd hb hd
  refine ⟨rfl, fun h => absurd h (by omega), fun _ => ⟨?_, fun e => ?_, ?_⟩⟩
  · rw [decRs_start t hi0 σ1 h1 n σ2 h2 r σ4 hd]
    rfl
  · exact (bd.2.1 e).1
  · exact Int.le_trans bd.1 hh
theorem RI.next (H : RI t n hi0 (refS (decide (6 ≤ n)) 1 σ2) k l hi σ) (hk : 0 < k) (hkn : (k : Int) ≤ n) {s : List Int} (hs : σ = (0, s)) (hb : Byt s) {g : Int} {σa σb : St} (hg : numS (0, s) = (g, σa)) {r : Int × Int} (hd : downS ((l.getD (k - 1) (0, 0)).1 - g - 2) σa = (r, σb)) (hi' : Int) :
    RI t n hi0 (refS (decide (6 ≤ n)) 1 σ2) (k + 1) (l ++ [r]) hi' σb := by
  subst hs
  obtain ⟨a1, a2, a3⟩ := H.atK hk
  have bg := numS_bd (σ := (0, s)) hb
  rw [hg] at bg
  have bd := downS_bd bg.2.2.1 hd
  have e1 : (l ++ [r]).getD (k + 1 - 1) (0, 0) = r := by
    rw [Nat.add_sub_cancel, List.getD_eq_getElem?_getD, List.getElem?_append_right (by rw [H.len]; exact Nat.le_refl _), H.len]
    simp
  refine ⟨by rw [List.length_append, H.len]; rfl, fun h => absurd h (by omega), fun _ => ⟨?_, fun e => ?_, ?_⟩⟩
  · rw [a1, e1, show n.toNat + 1 - k = (n.toNat + 1 - (k + 1)) + 1 by omega, decTS_step _ _ s g σa hg r σb hd, conR_con]
  · rw [e1]; exact (bd.2.1 e).1
  · rw [e1]
    have := bd.1
    have := bg.1
    simp only at this
    omega
theorem RI.done (H : RI t n hi0 (refS (decide (6 ≤ n)) 1 σ2) k l hi σ) (h1 : numS (0, t) = (hi0, σ1)) (h2 : numS σ1 = (n, σ2)) (n0 : 0 ≤ n) (hx : σ.1 ≠ 0 ∨ (k : Int) = n + 1) : decRs t = toE σ l := by
  rcases Nat.eq_zero_or_pos k with h0 | h0
  · obtain ⟨e1, e2⟩ := H.at0 h0
    have hl : l = [] := List.eq_nil_of_length_eq_zero (by rw [H.len, h0])
    rcases hx with hx | hx
    · obtain ⟨e, u⟩ := σ
      have hd := downS_bad hi0 e hx u
      rw [e1] at hd
      rw [decRs_start t hi0 σ1 h1 n σ2 h2 _ _ hd, decTS_end _ _ _ _ (by rw [← e1]; exact hx), e1]
      unfold toE
      rw [if_neg (by rw [← e1]; exact hx), if_neg (by rw [← e1]; exact hx)]
    · omega
  · obtain ⟨a1, _, _⟩ := H.atK h0
    rw [a1]
    rcases hx with hx | hx
    · exact decTS_end _ _ _ _ hx
    · rw [show n.toNat + 1 - k = 0 by omega]
      exact decTS_zero _ _ _
end
end Go.Proofs.Ytjeocggocloigaa.P
