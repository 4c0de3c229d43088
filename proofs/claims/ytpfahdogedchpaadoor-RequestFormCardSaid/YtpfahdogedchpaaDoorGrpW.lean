/- Several texts in one. -/
import Derived.Test.YtpfahdogedchpaaDoorGrpZa
import Derived.Test.YtpfahdogedchpaaDoorGrpU
import Derived.Test.YtpfahdogedchpaaDoorFdP2
import Derived.Test.YtpfahdogedchpaaDoorGrpR
import Derived.Lib.AppendZerosOnto
import Derived.Lib.SliceRun
import Derived.Lib.Walk
/- Requests that are read as they were written: plain mathematics. Nothing of the program's. -/
namespace Go.Proofs.YtpfahdogedchpaaDoor.P
set_option linter.unusedVariables false

/-- the bytes of a Body -/
def bodT (body : List Int) : List Int := if body = [] then [] else enc 0 ++ (enc (body.length : Int) ++ (body ++ []))
/-- the bytes of a request, by P16.2 -/
def reqT (sec body : List Int) : List Int := enc 1 ++ (enc (sec.length : Int) ++ (sec ++ bodT body))
theorem enc_small {n : Int} (h : n < 64) : enc n = [n] := by unfold enc; rw [if_pos h]
theorem enc_len2 {n : Int} (h : n < 16384) : (enc n).length ≤ 2 := by
  have := enc_len n
  unfold sz at this
  split at this
  · omega
  · first | omega | (rw [if_pos h] at this; omega)
theorem bodT_len (body : List Int) (h : body.length ≤ 200) : (bodT body).length ≤ 203 := by
  unfold bodT
  split
  · simp
  · have := enc_len2 (n := 0) (by decide)
    have := enc_len2 (n := (body.length : Int)) (by omega)
    have e : (enc 0).length = 1 := rfl
    simp only [List.length_append, List.length_nil]
    omega
theorem reqT_len (sec body : List Int) (hs : sec.length ≤ 400) (h : body.length ≤ 200) : (reqT sec body).length ≤ 606 := by
  have := bodT_len body h
  have := enc_len2 (n := (sec.length : Int)) (by omega)
  have e : (enc 1).length = 1 := rfl
  unfold reqT
  simp only [List.length_append]
  omega
theorem reqT_ne (sec body : List Int) : reqT sec body ≠ [] := by
  unfold reqT
  rw [enc_small (by decide)]
  simp
/-- the section is the first frame -/
theorem req_first {sec body : List Int} (hs : sec.length ≤ 400) (m : List Int) : firstR (reqT sec body ++ m) = (⟨1, sec, bodT body ++ m⟩, 0) := by
  unfold reqT
  rw [List.append_assoc, List.append_assoc, List.append_assoc]
  exact firstR_enc 1 sec _ (by decide) (by decide) hs
theorem bod_first {body : List Int} (h : body ≠ []) (hb : body.length ≤ 200) (m : List Int) : firstR (bodT body ++ m) = (⟨0, body, m⟩, 0) := by
  unfold bodT
  rw [if_neg h, List.append_nil, List.append_assoc, List.append_assoc]
  exact firstR_enc 0 body _ (by decide) (by decide) (by omega)
theorem bodT_ne {body : List Int} (h : body ≠ []) (m : List Int) : bodT body ++ m ≠ [] := by
  unfold bodT
  rw [if_neg h, enc_small (by decide)]
  simp
theorem take_one {t : Tb} {sec : List Int} {l : List Fld} (hd : decFl t sec = (l, 0)) (hf : faultRq l = 0) (bd rest : List Int) : takeR t [] false bd ⟨1, sec, rest⟩ = ((l, true, bd), 0) := by
  unfold takeR
  rw [if_pos rfl, if_neg (by decide), hd]
  dsimp only
  rw [if_neg (by decide), if_neg (by decide), if_neg (by omega)]
theorem take_zero {t : Tb} {l : List Fld} {bd d : List Int} (h : bd.length + d.length ≤ 200) (rest : List Int) : takeR t l true bd ⟨0, d, rest⟩ = ((l, true, bd ++ d), 0) := by
  unfold takeR
  rw [if_neg (show ¬ (0 : Int) = 1 by decide), if_pos rfl, if_neg (by decide), if_neg (by dsimp only; omega)]
/-- behind the section: what is Held then -/
theorem feed_sec {t : Tb} {sec body : List Int} {l : List Fld} (hd : decFl t sec = (l, 0)) (hf : faultRq l = 0) (hs : sec.length ≤ 400) (hb : body.length ≤ 200) (m : List Int) (fin : Bool) (N : Nat) (hN : (reqT sec body ++ m).length < N) :
    feedN t fin N ⟨reqT sec body ++ m, [], false, [], false⟩ = feedN t fin (m.length + 1) ⟨m, l, true, body, false⟩ := by
  rcases N with _ | N
  · omega
  have hne : reqT sec body ++ m ≠ [] := by simp [reqT_ne]
  have e := req_first (body := body) hs m
  have k := take_one hd hf [] (bodT body ++ m)
  rw [feedN_step (r := ⟨reqT sec body ++ m, [], false, [], false⟩) hne (by dsimp only; rw [e]) (by dsimp only; rw [e]; dsimp only; rw [k])]
  dsimp only
  rw [e]
  dsimp only
  rw [k]
  dsimp only
  have hlen : (bodT body ++ m).length < N := by
    have := firstR_less (b := reqT sec body ++ m) (by rw [e])
    rw [e] at this
    dsimp only at this
    omega
  by_cases h0 : body = []
  · subst h0
    have q : bodT [] = [] := rfl
    rw [q, List.nil_append] at hlen ⊢
    exact feedN_more _ _ _ hlen (Nat.lt_succ_self _)
  · rcases N with _ | N
    · omega
    have hn2 := bodT_ne h0 m
    have e2 := bod_first h0 hb m
    have k2 := take_zero (t := t) (l := l) (bd := []) (d := body) (by simpa using hb) m
    rw [feedN_step (r := ⟨bodT body ++ m, l, true, [], false⟩) hn2 (by dsimp only; rw [e2]) (by dsimp only; rw [e2]; dsimp only; rw [k2])]
    dsimp only
    rw [e2]
    dsimp only
    rw [k2]
    dsimp only
    rw [List.nil_append]
    refine feedN_more _ _ _ ?_ (Nat.lt_succ_self _)
    have := firstR_less (b := bodT body ++ m) (by rw [e2])
    rw [e2] at this
    dsimp only at this ⊢
    omega
/-- all of a request is read -/
theorem feed_all {t : Tb} {sec body : List Int} {l : List Fld} (hd : decFl t sec = (l, 0)) (hf : faultRq l = 0) (hs : sec.length ≤ 400) (hb : body.length ≤ 200) (N : Nat) (hN : (reqT sec body).length < N) :
    feedN t true N ⟨reqT sec body, [], false, [], false⟩ = (⟨[], l, true, body, true⟩, 0) := by
  have := feed_sec hd hf hs hb [] true N (by rw [List.append_nil]; exact hN)
  rw [List.append_nil] at this
  rw [this]
  rfl
/-- it waits for what is told ahead -/
theorem feed_waits {t : Tb} {sec body : List Int} (hd : (decFl t sec).2 = 14) (hs : sec.length ≤ 400) (fin : Bool) (N : Nat) (hN : 0 < N) :
    feedN t fin N ⟨reqT sec body, [], false, [], false⟩ = (⟨reqT sec body, [], false, [], false⟩, 14) := by
  rcases N with _ | N
  · omega
  have e := req_first (body := body) hs []
  rw [List.append_nil] at e
  refine feedN_wait (r := ⟨reqT sec body, [], false, [], false⟩) (reqT_ne _ _) (by dsimp only; rw [e]) ?_
  dsimp only
  rw [e]
  dsimp only
  unfold takeR
  rw [if_pos rfl, if_neg (by decide), if_pos hd]
theorem feedR_in {r : Rd} {t : Tb} {b : List Int} {fin : Bool} (h1 : r.held.length ≤ 800) (h2 : b.length ≤ 800) (h3 : r.body.length ≤ 200) (h4 : r.ended = false) (N : Nat) (hN : (r.held ++ b).length < N) : feedR r t b fin = feedN t fin N ⟨r.held ++ b, r.flds, r.begun, r.body, r.ended⟩ := by
  unfold feedR
  rw [if_neg (by omega), if_neg (by rw [h4]; decide)]
  exact feedN_more _ _ _ (by rw [List.length_append]; omega) hN
theorem feedR_done {r : Rd} {t : Tb} {b : List Int} {fin : Bool} (h1 : r.held.length ≤ 800) (h2 : b.length ≤ 800) (h3 : r.body.length ≤ 200) (h4 : r.ended = true) : feedR r t b fin = (rd0, 17) := by
  unfold feedR
  rw [if_neg (by omega), if_pos h4]
/-- A REQUEST IS READ AS IT WAS WRITTEN, however its bytes are cut -/
theorem feed_parts {t : Tb} {all : List Int} {R : Rd} (hA : all.length ≤ 800) (hR : feedN t true (all.length + 1) ⟨all, [], false, [], false⟩ = (R, 0)) (hB : R.body.length ≤ 200) (i j : Nat) (hij : i ≤ j) (hj : j ≤ all.length) :
    ∃ x1 x2 : Rd, feedR rd0 t (all.take i) false = (x1, 0) ∧ feedR x1 t ((all.drop i).take (j - i)) false = (x2, 0) ∧ feedR x2 t (all.drop j) true = (R, 0) := by
  have ejk : all.take i ++ (all.drop i).take (j - i) = all.take j := by
    have := List.take_add (l := all) (i := i) (j := j - i)
    rw [show i + (j - i) = j by omega] at this
    exact this.symm
  have e1 : feedR rd0 t (all.take i) false = feedN t false (all.length + 2) ⟨all.take i, [], false, [], false⟩ := feedR_in (r := rd0) (by simp [rd0]) (by rw [List.length_take]; omega) (by simp [rd0]) rfl _ (by simp [rd0]; omega)
  obtain ⟨x1, hx1⟩ := feedN_begin (all.length + 2) ⟨all.take i, [], false, [], false⟩ (all.drop i) true R (by simp only [List.take_append_drop]; omega) (by simp only [List.take_append_drop]; rw [feedN_more _ (all.length + 1) _ (by dsimp only; omega) (by dsimp only; omega)]; exact hR)
  obtain ⟨p1, p2, p3⟩ := feedN_cut _ _ _ (by dsimp only; rw [List.length_take]; omega) rfl hx1
  dsimp only at p2 p3
  have hR1 := p3 (all.drop i) true (x1.held.length + all.length + 1) (all.length + 1) (by rw [List.length_append, List.length_drop]; omega) (by rw [List.take_append_drop]; omega)
  rw [List.take_append_drop, hR] at hR1
  have hb1 : x1.body.length ≤ 200 := by have := feedN_grow _ _ _ hR1; first | omega | (dsimp only at this; omega)
  have hh1 : x1.held.length ≤ 800 := by rw [List.length_take] at p2; omega
  have e2 : feedR x1 t ((all.drop i).take (j - i)) false = feedN t false (x1.held.length + all.length + 1) ⟨x1.held ++ (all.drop i).take (j - i), x1.flds, x1.begun, x1.body, x1.ended⟩ := feedR_in hh1 (by rw [List.length_take, List.length_drop]; omega) hb1 p1 _ (by rw [List.length_append, List.length_take, List.length_drop]; omega)
  have hsp : all.drop i = (all.drop i).take (j - i) ++ all.drop j := by
    conv => lhs; rw [← List.take_append_drop (j - i) (all.drop i)]
    rw [List.drop_drop, show i + (j - i) = j by omega]
  rw [hsp, ← List.append_assoc] at hR1
  obtain ⟨x2, hx2⟩ := feedN_begin (x1.held.length + all.length + 1) ⟨x1.held ++ (all.drop i).take (j - i), x1.flds, x1.begun, x1.body, x1.ended⟩ (all.drop j) true R (by simp only [List.length_append, List.length_take, List.length_drop]; omega) hR1
  obtain ⟨r1, r2, r3⟩ := feedN_cut (x1.held.length + all.length + 1) ⟨x1.held ++ (all.drop i).take (j - i), x1.flds, x1.begun, x1.body, x1.ended⟩ x2 (by simp only [List.length_append, List.length_take, List.length_drop]; omega) p1 hx2
  dsimp only at r2 r3
  have hR2 := r3 (all.drop j) true (x2.held.length + all.length + 1) (x1.held.length + all.length + 1) (by rw [List.length_append, List.length_drop]; omega) (by simp only [List.length_append, List.length_take, List.length_drop]; omega)
  rw [hR1] at hR2
  have hb2 : x2.body.length ≤ 200 := by have := feedN_grow _ _ _ hR2; first | omega | (dsimp only at this; omega)
  have hh2 : x2.held.length ≤ 800 := by
    rw [List.length_append, List.length_take, List.length_drop] at r2
    rw [List.length_take] at p2
    omega
  refine ⟨x1, x2, by rw [e1]; exact hx1, by rw [e2]; exact hx2, ?_⟩
  rw [feedR_in hh2 (by rw [List.length_drop]; omega) hb2 r1 (x2.held.length + all.length + 1) (by rw [List.length_append, List.length_drop]; omega)]
  exact hR2
end Go.Proofs.YtpfahdogedchpaaDoor.P
/- The project's frame of a request: slices.Grow and slices.Concat of bytes. -/
namespace Go.Proofs.YtpfahdogedchpaaDoor
set_option linter.unusedVariables false
open Go.RowKit P

set_option maxRecDepth 100000 in
theorem grow0_any (n : Nat) (h : 1 ≤ n) (hn : n ≤ 1000000) (w : World) : Calls Tryd.prog 72 #[.slice none 0 0, .int .i64 n] w fun e w' => Below w.heap.size w w' ∧ ∃ d, e = .returned d ∧ WRow w' w.heap.size 5 d [] := by
  obtain ⟨i0, hi0, hz0, hz1, hz2⟩ := info_parts infoB1
  have hrz : ∀ ty, (Builtin.append_ #[25, 3] ty #[.slice none 0 0, .int .i64 (n : Int)]).run Tryd.prog w = .ok (.slice (some ⟨w.heap.size, 0, none⟩) (0 + n) (grownCap w (0 + n) 0 5)) (w.drew.alloc (.cells ((#[] : Array Value) ++ Builtin.zeroCells (Value.int .u8 0).cells n ++ Builtin.zeroCells (Value.int .u8 0).cells (grownCap w (0 + n) 0 5 - (0 + n))) 5)) := fun ty =>
    Lib.run_append_grow_zeros w 25 3 ty 5 i0 (.int .u8 0) .i64 .i64 Tryd.underlying25 Tryd.underlying3 hi0 hz0 none 0 0 [] (run_firstCells_none w.drew i0.size 0 0 0) n (by omega) (by rw [hz1]; decide) (by omega) (by omega) (by rw [hz2]; omega) (by rw [hz2]; exact growslice_fits (by omega) (by omega))
  rw [Nat.zero_add] at hrz
  have hG := grownCap_ge w n 0 5
  have hM := grownCap_le_maxLen w n 0 5 (by unfold maxLen; omega)
  obtain ⟨G, hGG⟩ : ∃ G, grownCap w n 0 5 = G := ⟨_, rfl⟩
  rw [hGG] at hrz hG hM
  have HM := Lib.hid hM
  unfold maxLen at hM
  have hn0 : ¬ (n : Int) < 0 := by omega
  have hn1 : (0 : Int) < (n : Int) := by omega
  have HN := Lib.hid (heap_alloc_new w.drew (.cells ((#[] : Array Value) ++ Builtin.zeroCells (Value.int .u8 0).cells n ++ Builtin.zeroCells (Value.int .u8 0).cells (G - n)) 5))
  have BB := Lib.hid (((Below.refl w.heap.size w).drew).alloc (Nat.le_refl _) (.cells ((#[] : Array Value) ++ Builtin.zeroCells (Value.int .u8 0).cells n ++ Builtin.zeroCells (Value.int .u8 0).cells (G - n)) 5))
  have HS := Lib.hid (show ((#[] : Array Value) ++ Builtin.zeroCells (Value.int .u8 0).cells n ++ Builtin.zeroCells (Value.int .u8 0).cells (G - n)).size = G by simp [Builtin.zeroCells, Value.cells]; omega)
  obtain ⟨cs, hcs⟩ : ∃ cs, (#[] : Array Value) ++ Builtin.zeroCells (Value.int .u8 0).cells n ++ Builtin.zeroCells (Value.int .u8 0).cells (G - n) = cs := ⟨_, rfl⟩
  rw [hcs] at hrz HN BB HS
  clear hGG hcs hi0 hz0 hz1 hz2
  go_enter Tryd.func72, Tryd.ntmps72
  go_wp2_with (at_builtin; refine Lib.wpList_append_run _ rfl _ _ _ _ rfl _ _ rfl rfl _ _ (hrz _) ?_)
  go_ret
  exact ⟨BB.out, _, rfl, w.heap.size, G, cs, (0, 0), rfl, Nat.le_refl _, HN.out, fun i _ k => by have := k.2; simp at this, Nat.zero_le _, HM.out, HS.out, rfl⟩
set_option maxRecDepth 100000 in
set_option maxHeartbeats 4000000 in
theorem concat3_any (q : Nat) (T : TypeId) (fz : Nat × Nat) (A1 A2 A3 : Option Addr) (c1 c2 c3 : Nat) (z1 z2 z3 : List Int) (w : World) (hq : w.heap[q]? = some (.cells #[.slice A1 z1.length c1, .slice A2 z2.length c2, .slice A3 z3.length c3] T fz))
    (h1 : BSl w w.heap.size (.slice A1 z1.length c1) z1) (h2 : BSl w w.heap.size (.slice A2 z2.length c2) z2) (h3 : BSl w w.heap.size (.slice A3 z3.length c3) z3) (hp : 0 < z1.length) (b1 : z1.length ≤ 10000) (b2 : z2.length ≤ 10000) (b3 : z3.length ≤ 10000) :
    Calls Tryd.prog 44 #[.slice (some ⟨q, 0, none⟩) 3 3] w fun e w' => Below w.heap.size w w' ∧ ∃ d, e = .returned d ∧ WRow w' w.heap.size 5 d (z1 ++ z2 ++ z3) := by
  have y0 : w.cell? ⟨q, 0, none⟩ = some (.slice A1 z1.length c1) := by simp [World.cell?, hq]
  have y1 : w.cell? ⟨q, 1, none⟩ = some (.slice A2 z2.length c2) := by simp [World.cell?, hq]
  have y2 : w.cell? ⟨q, 2, none⟩ = some (.slice A3 z3.length c3) := by simp [World.cell?, hq]
  have HQ := Lib.hid (lt_of_block hq)
  have Y0 := Lib.hid y0
  have Y1 := Lib.hid y1
  have Y2 := Lib.hid y2
  have H1 := Lib.hid h1
  have H2 := Lib.hid h2
  have H3 := Lib.hid h3
  have HP := Lib.hid hp
  have HB1 := Lib.hid b1
  have HB2 := Lib.hid b2
  have HB3 := Lib.hid b3
  obtain ⟨n1, e1⟩ : ∃ n, z1.length = n := ⟨_, rfl⟩
  obtain ⟨n2, e2⟩ : ∃ n, z2.length = n := ⟨_, rfl⟩
  obtain ⟨n3, e3⟩ : ∃ n, z3.length = n := ⟨_, rfl⟩
  rw [e1] at y0 Y0 H1 hp b1
  rw [e2] at y1 Y1 H2 b2
  rw [e3] at y2 Y2 H3 b3
  have HG := Lib.hid (fun w => (by have := grow0_any (n1 + n2 + n3) (by omega) (by omega) w; rw [show ((n1 + n2 + n3 : Nat) : Int) = (n1 : Int) + (n2 : Int) + (n3 : Int) by omega] at this; exact this : Calls Tryd.prog 72 #[.slice none 0 0, .int .i64 ((n1 : Int) + (n2 : Int) + (n3 : Int))] w fun e w' => Below w.heap.size w w' ∧ ∃ d, e = .returned d ∧ WRow w' w.heap.size 5 d []))
  have HL1 := Lib.hid e1
  have HL2 := Lib.hid e2
  have HL3 := Lib.hid e3
  clear hq h1 h2 h3 e1 e2 e3
  go_enter Tryd.func44, Tryd.ntmps44
  go_wp2_with fail
  refine wp_loop_rounds 4 ?_
  repeat any_goals (rw [rounds_succ]; go_wp2_with fail)
  refine (HG.out _).mono ?_
  rintro e w1 ⟨g1, d1, rfl, r1⟩
  have B1 := Lib.hid g1
  have R1 := Lib.hid (show TRow w1 w.heap.size 5 d1 [] from .inr r1)
  clear g1 r1 y0 y1 y2
  have S1 := Lib.hid (bsl_onF H1.out B1.out)
  have y0 := (B1.out.cell (p := ⟨q, 0, none⟩) HQ.out).trans Y0.out
  go_wp2_with fail
  refine wp_loop_rounds 4 ?_
  rw [rounds_succ]
  go_wp2_with (at_builtin
               refine wpList_appT rfl (.tmp 31) (.tmp 32) 25 rfl w.heap.size d1 (.slice A1 n1 c1) [] z1 rfl rfl (src_bsl S1.out) R1.out (by have := HP.out; simp only [List.length_nil]; omega) (by have := HB1.out; have := HB2.out; have := HB3.out; simp only [List.length_nil]; omega) B1.out.size ?_
               intro d2 w2 h2 g2 _
               have B2 := Lib.hid (B1.out.grown g2 B1.out.size (fun k e => (trow_lt R1.out k e).1))
               have R2 := Lib.hid (show TRow w2 w.heap.size 5 d2 ([] ++ z1) from .inr h2)
               have S2 := Lib.hid (bsl_onF H2.out B2.out)
               have y1 := (B2.out.cell (p := ⟨q, 1, none⟩) HQ.out).trans Y1.out
               clear h2 g2 y0)
  rw [rounds_succ]
  go_wp2_with (at_builtin
               refine wpList_appT rfl (.tmp 31) (.tmp 32) 25 rfl w.heap.size d2 (.slice A2 n2 c2) ([] ++ z1) z2 rfl rfl (src_bsl S2.out) R2.out (by have := HP.out; simp only [List.length_append, List.length_nil]; omega) (by have := HB1.out; have := HB2.out; have := HB3.out; simp only [List.length_append, List.length_nil]; omega) B2.out.size ?_
               intro d3 w3 h3 g3 _
               have B3 := Lib.hid (B2.out.grown g3 B2.out.size (fun k e => (trow_lt R2.out k e).1))
               have R3 := Lib.hid (show TRow w3 w.heap.size 5 d3 ([] ++ z1 ++ z2) from .inr h3)
               have S3 := Lib.hid (bsl_onF H3.out B3.out)
               have y2 := (B3.out.cell (p := ⟨q, 2, none⟩) HQ.out).trans Y2.out
               clear h3 g3 y1)
  rw [rounds_succ]
  go_wp2_with (at_builtin
               refine wpList_appT rfl (.tmp 31) (.tmp 32) 25 rfl w.heap.size d3 (.slice A3 n3 c3) ([] ++ z1 ++ z2) z3 rfl rfl (src_bsl S3.out) R3.out (by have := HP.out; simp only [List.length_append, List.length_nil]; omega) (by have := HB1.out; have := HB2.out; have := HB3.out; simp only [List.length_append, List.length_nil]; omega) B3.out.size ?_
               intro d4 w4 h4 g4 _
               have B4 := Lib.hid (B3.out.grown g4 B3.out.size (fun k e => (trow_lt R3.out k e).1))
               have R4 := Lib.hid (show TRow w4 w.heap.size 5 d4 ([] ++ z1 ++ z2 ++ z3) from .inr h4)
               skip
               skip
               clear h4 g4 y2)
  rw [rounds_succ]
  go_wp2_with fail
  go_ret
  rcases R4.out with ⟨_, k⟩ | k
  · exfalso
    have := congrArg List.length k
    have := HP.out
    simp only [List.length_append, List.length_nil] at *
    omega
  · exact ⟨B4.out, _, rfl, k⟩
/-- a frame of a request -/
theorem frame_any (kind : Int) (h0 : 0 ≤ kind) (h1 : kind < 64) (A : Option Addr) (n c : Nat) (z : List Int) (w : World) (ht : Tab w) (h : BSl w w.heap.size (.slice A n c) z) (hn : z.length = n) (hb : n ≤ 10000) :
    Calls Tryd.prog 24 #[.int .i64 kind, .slice A n c] w fun e w' => Below w.heap.size w w' ∧ ∃ d, e = .returned d ∧ WRow w' w.heap.size 5 d (enc kind ++ enc (n : Int) ++ z) := by
  subst hn
  have HE1 := Lib.hid (fun w ht => encode_in kind h0 (by omega) w ht)
  have HE2 := Lib.hid (fun w ht => encode_in (z.length : Int) (by omega) (by omega) w ht)
  have HT := Lib.hid ht
  have HZ := Lib.hid h
  have HZB := Lib.hid hb
  have hp1 := enc_len kind
  have hp2 := sz_bd kind
  have hp3 := enc_len (z.length : Int)
  have hp4 := sz_bd (z.length : Int)
  obtain ⟨x, hx⟩ : ∃ x, enc kind = x := ⟨_, rfl⟩
  obtain ⟨y, hy⟩ : ∃ y, enc (z.length : Int) = y := ⟨_, rfl⟩
  have HX := Lib.hid (show Byt x from hx ▸ enc_byt kind h0 (by omega))
  have HY := Lib.hid (show Byt y from hy ▸ enc_byt (z.length : Int) (by omega) (by omega))
  rw [hx] at HE1 hp1 ⊢
  rw [hy] at HE2 hp3 ⊢
  have HLX := Lib.hid (show 0 < x.length ∧ x.length ≤ 8 by omega)
  have HLY := Lib.hid (show y.length ≤ 8 by omega)
  unfold EncPost at HE1 HE2
  clear hx hy hp1 hp2 hp3 hp4 ht h h0 h1 hb
  go_enter Tryd.func24, Tryd.ntmps24
  go_wp2_with fail
  refine (HE1.out _ HT.out).mono ?_
  rintro e w1 hE
  obtain ⟨rfl, b1, k1⟩ := id hE
  have X1 := Lib.hid (show BSl w1 w1.heap.size (.slice (some ⟨w.heap.size, 0, none⟩) x.length x.length) x from ⟨_, _, rfl, Nat.le_refl _, by unfold maxLen; have := HLX.out; omega, (fun e => by cases e), ((show EncPost x w _ w1 from hE).row HX.out).more (show EncPost x w _ w1 from hE).lt⟩)
  have Z1 := Lib.hid (bsl_onF HZ.out b1)
  have T1 := Lib.hid (HT.out.below b1)
  have B1 := Lib.hid b1
  clear hE b1 k1
  go_wp2_with fail
  refine (HE2.out _ T1.out).mono ?_
  rintro e w2 hE
  obtain ⟨rfl, b2, k2⟩ := id hE
  have Y2 := Lib.hid (show BSl w2 w2.heap.size (.slice (some ⟨w1.heap.size, 0, none⟩) y.length y.length) y from ⟨_, _, rfl, Nat.le_refl _, by unfold maxLen; have := HLY.out; omega, (fun e => by cases e), ((show EncPost y w1 _ w2 from hE).row HY.out).more (show EncPost y w1 _ w2 from hE).lt⟩)
  have X2 := Lib.hid (bsl_onF X1.out b2)
  have Z2 := Lib.hid (bsl_onF Z1.out b2)
  have B2 := Lib.hid (B1.out.trans (b2.mono B1.out.size))
  clear hE b2 k2
  go_upto_region 3 with fail
  have X3 := fun o => (Below.refl w2.heap.size w2).alloc (Nat.le_refl _) o
  go_wp2_with fail
  refine (concat3_any w2.heap.size _ _ _ _ _ _ _ _ x y z _ (heap_alloc_new w2 _) (bsl_onF X2.out (X3 _)) (bsl_onF Y2.out (X3 _)) (bsl_onF Z2.out (X3 _)) HLX.out.1 (by have := HLX.out; omega) (by have := HLY.out; omega) HZB.out).mono ?_
  rintro e w3 ⟨b3, d, rfl, r3⟩
  have B3 := Lib.hid (B2.out.trans (((X3 _).trans (b3.mono (X3 _).size)).mono B2.out.size))
  have R3 := Lib.hid (wrow_base r3 (Nat.le_trans B2.out.size (X3 _).size))
  clear b3 r3
  go_wp2_with fail
  go_ret
  exact ⟨B3.out, _, rfl, R3.out⟩
end Go.Proofs.YtpfahdogedchpaaDoor
