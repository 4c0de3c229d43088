/- Contract of package gather's closure that puts a piece (together$1). -/
import Derived.Test.YtippenbfoaohoaaPcRow2
import Derived.Test.YtippenbfoaohoaaBClone
import Derived.Test.YtippenbfoaohoaaGaPart
import Derived.Test.YtippenbfoaohoaaRegInv
import Derived.Test.YtippenbfoaohoaaPcPut
import Derived.Deep.RegionHeld3
import Derived.Deep.AppendLies
namespace Go.Proofs.Ytippenbfoaohoaa
set_option linter.unusedVariables false
open Go.RowKit P

/-- what the closure does with a piece -/
def AddPost (K : Nat) (cs : List PC) (off : Int) (ds : List Int) (w : World) (e : Ending) (w' : World) : Prop := e = .returned (.tuple #[]) ∧ ∃ cs', TL w' K cs' ∧ cs'.map PC.pc = addP (cs.map PC.pc) (off, ds) ∧ Below K w w' ∧ ∀ j, j < w.heap.size → Far w K cs j → w'.heap[j]? = w.heap[j]? ∧ Far w' K cs' j
theorem PutEnd.ret {W0 : World} {K : Nat} {cs : List PC} {off : Int} {ds : List Int} {R : List Pc} {w : World} (h : PutEnd W0 K cs R w) (e : addP (cs.map PC.pc) (off, ds) = R) : AddPost K cs off ds W0 (.returned (.tuple #[])) w := by
  obtain ⟨cs', h1, h2, h3, h4⟩ := h.ex
  exact ⟨rfl, cs', h1, by rw [e, h2], h3, h4⟩
structure ClsA (w0 : World) (W0 : World) (K : Nat) (cs : List PC) (off : Int) (ds : List Int) (V0 V1 V2 V3 V4 : Value) (b0 b1 b2 b3 b4 b5 b6 b7 b8 b9 : Bool) (x0 x1 x2 x3 x4 x5 x6 x7 x8 x9 : Value) (w : World) : Prop where
  be : b8 = false → Below w0.heap.size w0 w
  d2 : b2 = true → b1 = true
  d4 : b4 = true → b3 = true
  d5 : b5 = true → b4 = true
  d6 : b6 = true → b2 = true ∧ b5 = true
  d7 : b7 = true → b6 = true
  d8 : b8 = true → b0 = true ∧ b7 = true ∧ b5 = true
  d9 : b9 = true → b0 = true ∧ b1 = true ∧ b2 = true ∧ b3 = true ∧ b4 = true ∧ b5 = true ∧ b6 = true ∧ b7 = true ∧ b8 = true
  h0 : b0 = true → x0 = V0
  h1 : b1 = true → x1 = V1
  h2 : b2 = true → x2 = V2
  h3 : b3 = true → x3 = V3
  h4 : b4 = true → x4 = V4
  h5 : b5 = true → b8 = false → OwnAt w (K + 1) w0.heap.size x5 ds
  h6 : b6 = true → b8 = false → ∃ u, x6 = .agg #[.int .i64 off, u] ∧ OwnAt w (K + 1) w0.heap.size u ds
  h7 : b7 = true → b8 = false → ∃ g u, x7 = .slice (some ⟨g, 0, none⟩) 1 1 ∧ w.heap[g]? = some (.cells #[.int .i64 off, u] 55 (0, 0)) ∧ OwnAt w (K + 1) w0.heap.size u ds
  h8 : b8 = true → b9 = false → PutAt W0 K cs (cs.map PC.pc ++ [(off, ds)]) x8 w
  h9 : b9 = true → PutEnd W0 K cs (cs.map PC.pc ++ [(off, ds)]) w
structure ClsB (w0 : World) (W0 : World) (K : Nat) (cs : List PC) (off : Int) (ds : List Int) (V0 V1 V2 V3 V4 : Value) (b0 b1 b2 b3 b4 b5 b6 b7 b8 b9 : Bool) (x0 x1 x2 x3 x4 x5 x6 x7 x8 x9 : Value) (w : World) : Prop where
  be : b8 = false → Below w0.heap.size w0 w
  d2 : b2 = true → b1 = true
  d4 : b4 = true → b3 = true
  d5 : b5 = true → b4 = true
  d6 : b6 = true → b2 = true ∧ b5 = true
  d7 : b7 = true → b6 = true
  d8 : b8 = true → b0 = true ∧ b7 = true ∧ b5 = true
  d9 : b9 = true → b0 = true ∧ b1 = true ∧ b2 = true ∧ b3 = true ∧ b4 = true ∧ b5 = true ∧ b6 = true ∧ b7 = true ∧ b8 = true
  h0 : b0 = true → x0 = V0
  h1 : b1 = true → x1 = V1
  h2 : b2 = true → x2 = V2
  h3 : b3 = true → x3 = V3
  h4 : b4 = true → x4 = V4
  h5 : b5 = true → b8 = false → OwnAt w (K + 1) w0.heap.size x5 ds
  h6 : b6 = true → b8 = false → ∃ u, x6 = .agg #[.int .i64 off, u] ∧ OwnAt w (K + 1) w0.heap.size u ds
  h7 : b7 = true → b8 = false → ∃ g u, x7 = .slice (some ⟨g, 0, none⟩) 1 1 ∧ w.heap[g]? = some (.cells #[.int .i64 off, u] 55 (0, 0)) ∧ OwnAt w (K + 1) w0.heap.size u ds
  h8 : b8 = true → b9 = false → PutAt W0 K cs (cs.map PC.pc ++ [(off, ds)]) x8 w
  h9 : b9 = true → PutEnd W0 K cs (cs.map PC.pc ++ [(off, ds)]) w
structure ClsC (w0 : World) (W0 : World) (K gb ql : Nat) (qs : List PC) (qo : Int) (qz : List Int) (qa : Option Addr) (qc : Nat) (ds : List Int) (lv : Value) (V0 V1 V2 V3 V4 V5 V6 V7 V8 V10 V11 : Value) (b0 b1 b2 b3 b4 b5 b6 b7 b8 b9 b10 b11 b12 : Bool) (x0 x1 x2 x3 x4 x5 x6 x7 x8 x9 x10 x11 x12 : Value) (w : World) : Prop where
  be : b9 = false → Below w0.heap.size w0 w
  d4 : b4 = true → b2 = true ∧ b3 = true
  d5 : b5 = true → b4 = true
  d6 : b6 = true → b5 = true
  d8 : b8 = true → b7 = true
  d9 : b9 = true → b6 = true ∧ b8 = true
  d10 : b10 = true → b0 = true ∧ b1 = true
  d11 : b11 = true → b10 = true
  d12 : b12 = true → b0 = true ∧ b1 = true ∧ b2 = true ∧ b3 = true ∧ b4 = true ∧ b5 = true ∧ b6 = true ∧ b7 = true ∧ b8 = true ∧ b9 = true ∧ b10 = true ∧ b11 = true
  kc : b12 = false → w.cell? ⟨K, 0, none⟩ = some lv
  h0 : b0 = true → x0 = V0
  h1 : b1 = true → x1 = V1
  h2 : b2 = true → x2 = V2
  h3 : b3 = true → x3 = V3
  h4 : b4 = true → x4 = V4
  h5 : b5 = true → x5 = V5
  h6 : b6 = true → x6 = V6
  h7 : b7 = true → x7 = V7
  h8 : b8 = true → x8 = V8
  h9 : b9 = true → b12 = false → MoreAt W0 K gb (ql * 2 + 1) (qs ++ [PC.mk qo qz qa qc]) (qs.map PC.pc ++ [(qo, qz ++ ds)]) x9 w
  h10 : b10 = true → x10 = V10
  h11 : b11 = true → x11 = V11
  h12 : b12 = true → PutEnd W0 K (qs ++ [PC.mk qo qz qa qc]) (qs.map PC.pc ++ [(qo, qz ++ ds)]) w
section
variable {off : Int} {dv : Value} {ds : List Int} {cs : List PC} {K : Nat} {W0 : World}
theorem put_empty (hT : TL W0 K cs) (hd : BSl W0 K dv ds) (h0 : ds = []) : Calls Try.prog 37 #[.agg #[.int .i64 off, dv], .pointer (some ⟨K, 0, none⟩)] W0 (AddPost K cs off ds W0) := by
  subst h0
  obtain ⟨Ad, cd, rfl, hdc, hdm, hdn, hdr⟩ := id hd.ex
  have HT := Lib.hid (hT.below ((Below.refl W0.heap.size W0).alloc (Nat.le_refl _) (.cells #[.int .i64 off, .slice Ad 0 cd] 55)))
  have BB := Lib.hid ((Below.refl K W0).alloc (Nat.le_of_lt hT.lt) (.cells #[.int .i64 off, .slice Ad 0 cd] 55))
  unfold AddPost
  have HA := Lib.hid (addP_nil (cs.map PC.pc) (p := (off, [])) rfl)
  have HFF := Lib.hid (fun j (hj : j < W0.heap.size) (hf : Far W0 K cs j) => (show (W0.alloc (.cells #[.int .i64 off, .slice Ad 0 cd] 55)).heap[j]? = W0.heap[j]? ∧ Far (W0.alloc (.cells #[.int .i64 off, .slice Ad 0 cd] 55)) K cs j from ⟨Below.heap_alloc _ _ _ hj, hf.ne, fun lv hl => hf.row lv (by rwa [Below.heap_alloc _ _ _ hT.lt] at hl), hf.pcs⟩))
  clear hT hd hdr
  go_enter Try.func37, Try.ntmps37
  go_wp2
  exact bodyPost_ret (v := .tuple #[]) (by simp [results, Try.results37, go_sem]) rfl ⟨rfl, cs, HT.out, HA.out.symm, BB.out, HFF.out⟩
set_option maxRecDepth 100000 in
set_option maxHeartbeats 2000000 in
theorem put_first (hT : TL W0 K cs) (hd : BSl W0 K dv ds) (h0 : 0 < ds.length) (hs : ds.length ≤ 140737488355328) (hn : cs.length = 0) : Calls Try.prog 37 #[.agg #[.int .i64 off, dv], .pointer (some ⟨K, 0, none⟩)] W0 (AddPost K cs off ds W0) := by
  obtain ⟨lv, hK1, hR⟩ := hT.ex
  obtain ⟨Al, cl, rfl, hlc, hlm⟩ := hR.slice
  obtain ⟨Ad, cd, rfl, hdc, hdm, hdn, hdr⟩ := id hd.ex
  have HDB := Lib.hid hdr.1
  have hK := lt_of_block hK1
  obtain ⟨m, hm⟩ : ∃ m, ds.length = m := ⟨_, rfl⟩
  have HM := Lib.hid hm
  rw [hm] at hd hdc hs h0 ⊢
  rw [hn] at hK1 hR hlc
  have HN := Lib.hid hn
  have HD := Lib.hid hd
  have BB0 := Lib.hid ((Below.refl K W0).alloc (by omega) (.cells #[.int .i64 off, .slice Ad m cd] 55))
  have BF0 := Lib.hid ((Below.refl W0.heap.size W0).alloc (Nat.le_refl _) (.cells #[.int .i64 off, .slice Ad m cd] 55))
  have HK1 := Lib.hid hK1
  have FB0 := Lib.hid (heap_alloc_new W0 (.cells #[.int .i64 off, .slice Ad m cd] 55))
  have KB0 := Lib.hid ((Below.heap_alloc W0 (.cells #[.int .i64 off, .slice Ad m cd] 55) _ hK).trans hK1)
  have RB0 := Lib.hid (hR.alloc (.cells #[.int .i64 off, .slice Ad m cd] 55))
  have HNF := Lib.hid (fun k (hk : (Value.slice Al 0 cl).ownBlock = some k) => Nat.ne_of_lt (hR.lt k hk).2)
  unfold maxLen at hlm hdm
  have m0' : ((m : Int) == 0) = false := by simp; omega
  unfold AddPost
  have HA := Lib.hid (show addP (cs.map PC.pc) (off, ds) = cs.map PC.pc ++ [(off, ds)] from by
    have : cs = [] := List.eq_nil_of_length_eq_zero hn
    subst this
    exact addP_first (p := (off, ds)) (fun e => by simp only at e; rw [e] at hm; simp at hm; omega))
  have q0 := bk_cell FB0.out 1
  have q1 := bk_cell KB0.out 0
  have q2 := bk_cell FB0.out 0
  simp only [List.getElem?_toArray, List.getElem?_cons_zero, List.getElem?_cons_succ] at q0 q1 q2
  clear hm hT hd hK1 hR hn hdr
  go_enter Try.func37, Try.ntmps37
  go_wp2_with fail
  have d0 := Ext.cell q0
  have d1 := Ext.cell q1
  have d2 := Ext.cell q2
  refine wp_region_ext (by kernel_rfl) (by kernel_rfl) ?_
  repeat (go_big_quiet_step (fail))
  refine wpQuiet_nil ?_
  intro X hbX
  have BB := Lib.hid (BB0.out.trans (hbX.mono (by simp; omega)))
  have BF := Lib.hid (BF0.out.trans (hbX.mono (by simp)))
  have FB := Lib.hid ((hbX.block _ (lt_of_block FB0.out)).trans FB0.out)
  have KB := Lib.hid ((hbX.block _ (lt_of_block KB0.out)).trans KB0.out)
  have RB := Lib.hid (RB0.out.below hbX)
  clear hbX d0 d1 d2 q0 q1 q2
  go_wp2_with fail
  have hFX := BF.out.size
  have hszX := BB.out.size
  have hkX := lt_of_block KB.out
  have hbX := lt_of_block FB.out
  have hKX : K ≤ X.heap.size := Nat.le_of_lt hkX
  have kc := bk_cell KB.out 0
  have fc0 := bk_cell FB.out 0
  have fc1 := bk_cell FB.out 1
  simp only [List.getElem?_toArray, List.getElem?_cons_zero, List.getElem?_cons_succ] at kc fc0 fc1
  have HCL := Lib.hid (fun w' (hb : Below K W0 w') => bclone_any K (.slice Ad m cd) ds w' (by have := hb.size; omega) (HD.out.below hb) (by have := HM.out; omega))
  have hln : cs.length ≤ 1000 := by have := HN.out; omega
  refine wp_region_inv (fun listed a w => ∃ (b0 b1 b2 b3 b4 b5 b6 b7 b8 b9 : Bool) (x0 x1 x2 x3 x4 x5 x6 x7 x8 x9 : Value), listed = #[b0, b1, b2, b3, b4, b5, b6, b7, b8, b9] ∧ a = { tmps := #[Value.agg #[Value.int IntKind.i64 off, Value.slice Ad m cd], Value.pointer (some { block := K, off := 0 }), Value.pointer (some { block := W0.heap.size, off := 0 }), Value.int IntKind.i64 (-1), Value.pointer (some { block := W0.heap.size, off := 1 }), Value.slice Ad m cd, Value.int IntKind.i64 ↑m, Value.bool false, Value.slice Al 0 cl, Value.int IntKind.i64 0, Value.int IntKind.i64 (-1), Value.int IntKind.i64 (-1), Value.bool false, Value.bool false, undef, undef, undef, undef, undef, undef, undef, undef, Value.bool false, undef, undef, undef, undef, undef, undef, undef, undef, undef, undef, undef, undef, x0, x1, x2, x3, x4, x5, x6, x7, x8], defers := [] } ∧ ClsA X W0 K cs off ds (.slice Al 0 cl) (.pointer (some ⟨W0.heap.size, 0, none⟩)) (.int .i64 off) (.pointer (some ⟨W0.heap.size, 1, none⟩)) (.slice Ad m cd) b0 b1 b2 b3 b4 b5 b6 b7 b8 b9 x0 x1 x2 x3 x4 x5 x6 x7 x8 x9 w) (by kernel_rfl) ?h0 ?hfin ?hI
  case h0 => exact ⟨_, _, _, _, _, _, _, _, _, _, _, _, _, _, _, _, _, _, _, undef, rfl, rfl, ⟨(fun _ => (Below.refl _ _).drew), (fun h => by cases h), (fun h => by cases h), (fun h => by cases h), (fun h => by cases h), (fun h => by cases h), (fun h => by cases h), (fun h => by cases h), (fun h => by cases h), (fun h => by cases h), (fun h => by cases h), (fun h => by cases h), (fun h => by cases h), (fun h => by cases h), (fun h => by cases h), (fun h => by cases h), (fun h => by cases h), (fun h => by cases h)⟩⟩
  case hI =>
    rintro listed a w ⟨b0, b1, b2, b3, b4, b5, b6, b7, b8, b9, x0, x1, x2, x3, x4, x5, x6, x7, x8, x9, rfl, rfl, H⟩ i hi
    obtain ⟨hun, oj, hoj, hall⟩ := mem_ready.1 hi
    clear hi
    rcases i with _ | _ | _ | _ | _ | _ | _ | _ | _ | _ | i
    · have ho := hoj
      simp only [List.getElem?_toArray, List.getElem?_cons_succ, List.getElem?_cons_zero, Option.some.injEq] at hoj
      subst hoj
      obtain rfl : b0 = false := hun
      clear hall
      obtain rfl : b8 = false := Bool.eq_false_iff.2 fun h => Bool.false_ne_true (H.d8 h).1
      obtain rfl : b9 = false := Bool.eq_false_iff.2 fun h => Bool.false_ne_true (H.d9 h).1
      have hbe := H.be rfl
      have c := (hbe.cell (p := ⟨K, 0, none⟩) hkX).trans kc
      refine wpOp_step ho (fun K' hK => ?_)
      have HK := Lib.hid hK
      clear hK ho
      go_simp
      exact HK.out _ _ ⟨_, _, _, _, _, _, _, _, _, _, _, _, _, _, _, _, _, _, _, x9, rfl, rfl, ⟨(fun _ => hbe), H.d2, H.d4, H.d5, H.d6, H.d7, (fun h => by cases h), (fun h => by cases h), (fun _ => rfl), H.h1, H.h2, H.h3, H.h4, H.h5, H.h6, H.h7, (fun h => by cases h), (fun h => by cases h)⟩⟩
    · have ho := hoj
      simp only [List.getElem?_toArray, List.getElem?_cons_succ, List.getElem?_cons_zero, Option.some.injEq] at hoj
      subst hoj
      obtain rfl : b1 = false := hun
      clear hall
      obtain rfl : b2 = false := Bool.eq_false_iff.2 fun h => Bool.false_ne_true (H.d2 h)
      obtain rfl : b6 = false := Bool.eq_false_iff.2 fun h => Bool.false_ne_true (H.d6 h).1
      obtain rfl : b7 = false := Bool.eq_false_iff.2 fun h => Bool.false_ne_true (H.d7 h)
      obtain rfl : b8 = false := Bool.eq_false_iff.2 fun h => Bool.false_ne_true (H.d8 h).2.1
      obtain rfl : b9 = false := Bool.eq_false_iff.2 fun h => Bool.false_ne_true (H.d9 h).2.1
      have hbe := H.be rfl
      refine wpOp_step ho (fun K' hK => ?_)
      have HK := Lib.hid hK
      clear hK ho
      go_simp
      exact HK.out _ _ ⟨_, _, _, _, _, _, _, _, _, _, _, _, _, _, _, _, _, _, _, x9, rfl, rfl, ⟨(fun _ => hbe), (fun h => by cases h), H.d4, H.d5, H.d6, H.d7, H.d8, (fun h => by cases h), H.h0, (fun _ => rfl), H.h2, H.h3, H.h4, H.h5, (fun h => by cases h), (fun h => by cases h), (fun h => by cases h), (fun h => by cases h)⟩⟩
    · have ho := hoj
      simp only [List.getElem?_toArray, List.getElem?_cons_succ, List.getElem?_cons_zero, Option.some.injEq] at hoj
      subst hoj
      obtain rfl : b2 = false := hun
      obtain rfl : b1 = true := hall ⟨1, .data⟩ (by simp) (by kernel_rfl)
      clear hall
      obtain rfl : b6 = false := Bool.eq_false_iff.2 fun h => Bool.false_ne_true (H.d6 h).1
      obtain rfl : b7 = false := Bool.eq_false_iff.2 fun h => Bool.false_ne_true (H.d7 h)
      obtain rfl : b8 = false := Bool.eq_false_iff.2 fun h => Bool.false_ne_true (H.d8 h).2.1
      obtain rfl : b9 = false := Bool.eq_false_iff.2 fun h => Bool.false_ne_true (H.d9 h).2.2.1
      have hbe := H.be rfl
      obtain rfl := H.h1 rfl
      have c := (hbe.cell (p := ⟨W0.heap.size, 0, none⟩) hbX).trans fc0
      refine wpOp_step ho (fun K' hK => ?_)
      have HK := Lib.hid hK
      clear hK ho
      go_simp
      exact HK.out _ _ ⟨_, _, _, _, _, _, _, _, _, _, _, _, _, _, _, _, _, _, _, x9, rfl, rfl, ⟨(fun _ => hbe), (fun _ => rfl), H.d4, H.d5, (fun h => by cases h), H.d7, H.d8, (fun h => by cases h), H.h0, H.h1, (fun _ => rfl), H.h3, H.h4, H.h5, (fun h => by cases h), (fun h => by cases h), (fun h => by cases h), (fun h => by cases h)⟩⟩
    · have ho := hoj
      simp only [List.getElem?_toArray, List.getElem?_cons_succ, List.getElem?_cons_zero, Option.some.injEq] at hoj
      subst hoj
      obtain rfl : b3 = false := hun
      clear hall
      obtain rfl : b4 = false := Bool.eq_false_iff.2 fun h => Bool.false_ne_true (H.d4 h)
      obtain rfl : b5 = false := Bool.eq_false_iff.2 fun h => Bool.false_ne_true (H.d5 h)
      obtain rfl : b6 = false := Bool.eq_false_iff.2 fun h => Bool.false_ne_true (H.d6 h).2
      obtain rfl : b7 = false := Bool.eq_false_iff.2 fun h => Bool.false_ne_true (H.d7 h)
      obtain rfl : b8 = false := Bool.eq_false_iff.2 fun h => Bool.false_ne_true (H.d8 h).2.1
      obtain rfl : b9 = false := Bool.eq_false_iff.2 fun h => Bool.false_ne_true (H.d9 h).2.2.2.1
      have hbe := H.be rfl
      refine wpOp_step ho (fun K' hK => ?_)
      have HK := Lib.hid hK
      clear hK ho
      go_simp
      exact HK.out _ _ ⟨_, _, _, _, _, _, _, _, _, _, _, _, _, _, _, _, _, _, _, x9, rfl, rfl, ⟨(fun _ => hbe), H.d2, (fun h => by cases h), H.d5, H.d6, H.d7, H.d8, (fun h => by cases h), H.h0, H.h1, H.h2, (fun _ => rfl), H.h4, (fun h => by cases h), (fun h => by cases h), (fun h => by cases h), (fun h => by cases h), (fun h => by cases h)⟩⟩
    · have ho := hoj
      simp only [List.getElem?_toArray, List.getElem?_cons_succ, List.getElem?_cons_zero, Option.some.injEq] at hoj
      subst hoj
      obtain rfl : b4 = false := hun
      obtain rfl : b3 = true := hall ⟨3, .data⟩ (by simp) (by kernel_rfl)
      clear hall
      obtain rfl : b5 = false := Bool.eq_false_iff.2 fun h => Bool.false_ne_true (H.d5 h)
      obtain rfl : b6 = false := Bool.eq_false_iff.2 fun h => Bool.false_ne_true (H.d6 h).2
      obtain rfl : b7 = false := Bool.eq_false_iff.2 fun h => Bool.false_ne_true (H.d7 h)
      obtain rfl : b8 = false := Bool.eq_false_iff.2 fun h => Bool.false_ne_true (H.d8 h).2.1
      obtain rfl : b9 = false := Bool.eq_false_iff.2 fun h => Bool.false_ne_true (H.d9 h).2.2.2.2.1
      have hbe := H.be rfl
      obtain rfl := H.h3 rfl
      have c := (hbe.cell (p := ⟨W0.heap.size, 1, none⟩) hbX).trans fc1
      refine wpOp_step ho (fun K' hK => ?_)
      have HK := Lib.hid hK
      clear hK ho
      go_simp
      exact HK.out _ _ ⟨_, _, _, _, _, _, _, _, _, _, _, _, _, _, _, _, _, _, _, x9, rfl, rfl, ⟨(fun _ => hbe), H.d2, (fun _ => rfl), (fun h => by cases h), H.d6, H.d7, H.d8, (fun h => by cases h), H.h0, H.h1, H.h2, H.h3, (fun _ => rfl), (fun h => by cases h), (fun h => by cases h), (fun h => by cases h), (fun h => by cases h), (fun h => by cases h)⟩⟩
    · have ho := hoj
      simp only [List.getElem?_toArray, List.getElem?_cons_succ, List.getElem?_cons_zero, Option.some.injEq] at hoj
      subst hoj
      obtain rfl : b5 = false := hun
      obtain rfl : b4 = true := hall ⟨4, .data⟩ (by simp) (by kernel_rfl)
      obtain rfl : b3 = true := (H.d4 rfl)
      clear hall
      obtain rfl : b6 = false := Bool.eq_false_iff.2 fun h => Bool.false_ne_true (H.d6 h).2
      obtain rfl : b7 = false := Bool.eq_false_iff.2 fun h => Bool.false_ne_true (H.d7 h)
      obtain rfl : b8 = false := Bool.eq_false_iff.2 fun h => Bool.false_ne_true (H.d8 h).2.1
      obtain rfl : b9 = false := Bool.eq_false_iff.2 fun h => Bool.false_ne_true (H.d9 h).2.2.2.2.2.1
      have hbe := H.be rfl
      obtain rfl := H.h3 rfl
      obtain rfl := H.h4 rfl
      refine wpOp_step ho (fun K' hK => ?_)
      have HK := Lib.hid hK
      clear hK ho
      go_wp2_with (go_at_call 34; refine (HCL.out w (BB.out.trans (hbe.mono hKX))).mono ?_; rintro e w1 ⟨u, rfl, o1, b1⟩; have BC := Lib.hid b1; have UC := Lib.hid (OwnAt.mk' (b := K + 1) (B := X.heap.size) o1 (by have := hbe.size; omega) hbe.size HDB.out); clear o1 b1)
      exact HK.out _ _ ⟨_, _, _, _, _, _, _, _, _, _, _, _, _, _, _, _, _, _, _, x9, rfl, rfl, ⟨(fun _ => hbe.trans (BC.out.mono hbe.size)), H.d2, H.d4, (fun _ => rfl), (fun h => by cases h), H.d7, (fun h => by cases h), (fun h => by cases h), H.h0, H.h1, H.h2, H.h3, H.h4, (fun _ _ => UC.out), (fun h => by cases h), (fun h => by cases h), (fun h => by cases h), (fun h => by cases h)⟩⟩
    · have ho := hoj
      simp only [List.getElem?_toArray, List.getElem?_cons_succ, List.getElem?_cons_zero, Option.some.injEq] at hoj
      subst hoj
      obtain rfl : b6 = false := hun
      obtain rfl : b2 = true := hall ⟨2, .data⟩ (by simp) (by kernel_rfl)
      obtain rfl : b5 = true := hall ⟨5, .data⟩ (by simp) (by kernel_rfl)
      obtain rfl : b1 = true := (H.d2 rfl)
      obtain rfl : b4 = true := (H.d5 rfl)
      obtain rfl : b3 = true := (H.d4 rfl)
      clear hall
      obtain rfl : b7 = false := Bool.eq_false_iff.2 fun h => Bool.false_ne_true (H.d7 h)
      obtain rfl : b8 = false := Bool.eq_false_iff.2 fun h => Bool.false_ne_true (H.d8 h).2.1
      obtain rfl : b9 = false := Bool.eq_false_iff.2 fun h => Bool.false_ne_true (H.d9 h).2.2.2.2.2.2.1
      have hbe := H.be rfl
      obtain rfl := H.h1 rfl
      obtain rfl := H.h2 rfl
      obtain rfl := H.h3 rfl
      obtain rfl := H.h4 rfl
      have P5 := H.h5 rfl rfl
      have U5 := Lib.hid P5
      obtain ⟨Au, cu, rfl⟩ := P5.ex
      clear P5
      refine wpOp_step ho (fun K' hK => ?_)
      have HK := Lib.hid hK
      clear hK ho
      go_simp
      exact HK.out _ _ ⟨_, _, _, _, _, _, _, _, _, _, _, _, _, _, _, _, _, _, _, x9, rfl, rfl, ⟨(fun _ => hbe), H.d2, H.d4, H.d5, (fun _ => ⟨rfl, rfl⟩), (fun h => by cases h), H.d8, (fun h => by cases h), H.h0, H.h1, H.h2, H.h3, H.h4, H.h5, (fun _ _ => ⟨_, rfl, U5.out⟩), (fun h => by cases h), (fun h => by cases h), (fun h => by cases h)⟩⟩
    · have ho := hoj
      simp only [List.getElem?_toArray, List.getElem?_cons_succ, List.getElem?_cons_zero, Option.some.injEq] at hoj
      subst hoj
      obtain rfl : b7 = false := hun
      obtain rfl : b6 = true := hall ⟨6, .data⟩ (by simp) (by kernel_rfl)
      obtain rfl : b2 = true := (H.d6 rfl).1
      obtain rfl : b5 = true := (H.d6 rfl).2
      obtain rfl : b1 = true := (H.d2 rfl)
      obtain rfl : b4 = true := (H.d5 rfl)
      obtain rfl : b3 = true := (H.d4 rfl)
      clear hall
      obtain rfl : b8 = false := Bool.eq_false_iff.2 fun h => Bool.false_ne_true (H.d8 h).2.1
      obtain rfl : b9 = false := Bool.eq_false_iff.2 fun h => Bool.false_ne_true (H.d9 h).2.2.2.2.2.2.2.1
      have hbe := H.be rfl
      obtain rfl := H.h1 rfl
      obtain rfl := H.h2 rfl
      obtain rfl := H.h3 rfl
      obtain rfl := H.h4 rfl
      have P5 := H.h5 rfl rfl
      have P6 := H.h6 rfl rfl
      obtain ⟨u, rfl, hu⟩ := P6
      obtain ⟨Au, cu, rfl⟩ := id hu.ex
      have U6 := Lib.hid hu
      clear hu
      have BA := Lib.hid ((Below.refl w.heap.size w).alloc (Nat.le_refl _) (.cells #[.int .i64 off, .slice Au ds.length cu] 55))
      have NA := Lib.hid (heap_alloc_new w (.cells #[.int .i64 off, .slice Au ds.length cu] 55))
      refine wpOp_step ho (fun K' hK => ?_)
      have HK := Lib.hid hK
      clear hK ho
      go_simp
      exact HK.out _ _ ⟨_, _, _, _, _, _, _, _, _, _, _, _, _, _, _, _, _, _, _, x9, rfl, rfl, ⟨(fun _ => hbe.trans (BA.out.mono hbe.size)), H.d2, H.d4, H.d5, H.d6, (fun _ => rfl), (fun h => by cases h), (fun h => by cases h), H.h0, H.h1, H.h2, H.h3, H.h4, (fun e f => OwnAt.on (H.h5 e f) BA.out), (fun e f => let ⟨u, e1, e2⟩ := (H.h6 e f); ⟨u, e1, e2.on BA.out⟩), (fun _ _ => ⟨_, _, rfl, NA.out, U6.out.on BA.out⟩), (fun h => by cases h), (fun h => by cases h)⟩⟩
    · have ho := hoj
      simp only [List.getElem?_toArray, List.getElem?_cons_succ, List.getElem?_cons_zero, Option.some.injEq] at hoj
      subst hoj
      obtain rfl : b8 = false := hun
      obtain rfl : b0 = true := hall ⟨0, .data⟩ (by simp) (by kernel_rfl)
      obtain rfl : b7 = true := hall ⟨7, .data⟩ (by simp) (by kernel_rfl)
      obtain rfl : b5 = true := hall ⟨5, .chain⟩ (by simp) (by kernel_rfl)
      obtain rfl : b4 = true := (H.d5 rfl)
      obtain rfl : b6 = true := (H.d7 rfl)
      obtain rfl : b3 = true := (H.d4 rfl)
      obtain rfl : b2 = true := (H.d6 rfl).1
      obtain rfl : b1 = true := (H.d2 rfl)
      clear hall
      obtain rfl : b9 = false := Bool.eq_false_iff.2 fun h => Bool.false_ne_true (H.d9 h).2.2.2.2.2.2.2.2
      have hbe := H.be rfl
      obtain rfl := H.h0 rfl
      obtain rfl := H.h1 rfl
      obtain rfl := H.h2 rfl
      obtain rfl := H.h3 rfl
      obtain rfl := H.h4 rfl
      have P5 := H.h5 rfl rfl
      have P6 := H.h6 rfl rfl
      have P7 := H.h7 rfl rfl
      obtain ⟨g, u, rfl, hg, hu⟩ := P7
      have HG := Lib.hid hg
      have RW := Lib.hid (RB.out.below hbe)
      have HU := Lib.hid hu
      have hsz := hbe.size
      have BW := Lib.hid (BF.out.trans (hbe.mono hFX))
      have KW := Lib.hid ((hbe.block _ hkX).trans KB.out)
      have HAP := Lib.hid (fresh_apart RB.out hu.lo)
      clear hg hu
      refine wpOp_step ho (fun K' hK => ?_)
      have HK := Lib.hid hK
      clear hK ho
      refine step_pushC w rfl (.tmp 35) (.tmp 42) rfl (K + 1) _ cs rfl RW.out off u ds g 1 X.heap.size rfl HG.out HU.out HAP.out hln (by omega) ?_
      intro v' w' p hp hpv hv2 hr g2
      have PN := Lib.hid (PutAt.pushed (W0 := W0) hp hr g2 hv2 (fun g hg => by rw [hpv] at hg; exact Nat.le_trans hFX (HU.out.lo g hg)) BW.out HK1.out RW.out.lt)
      clear hp hr g2 hpv hv2
      exact HK.out _ _ ⟨_, _, _, _, _, _, _, _, _, _, _, _, _, _, _, _, _, _, _, x9, rfl, rfl, ⟨(fun h => by cases h), H.d2, H.d4, H.d5, H.d6, H.d7, (fun _ => ⟨rfl, rfl, rfl⟩), (fun h => by cases h), H.h0, H.h1, H.h2, H.h3, H.h4, (fun _ h => by cases h), (fun _ h => by cases h), (fun _ h => by cases h), (fun _ _ => PN.out), (fun h => by cases h)⟩⟩
    · have ho := hoj
      simp only [List.getElem?_toArray, List.getElem?_cons_succ, List.getElem?_cons_zero, Option.some.injEq] at hoj
      subst hoj
      obtain rfl : b9 = false := hun
      obtain rfl : b0 = true := hall ⟨0, .phase⟩ (by simp) (by kernel_rfl)
      obtain rfl : b1 = true := hall ⟨1, .phase⟩ (by simp) (by kernel_rfl)
      obtain rfl : b2 = true := hall ⟨2, .phase⟩ (by simp) (by kernel_rfl)
      obtain rfl : b3 = true := hall ⟨3, .phase⟩ (by simp) (by kernel_rfl)
      obtain rfl : b4 = true := hall ⟨4, .phase⟩ (by simp) (by kernel_rfl)
      obtain rfl : b5 = true := hall ⟨5, .phase⟩ (by simp) (by kernel_rfl)
      obtain rfl : b6 = true := hall ⟨6, .phase⟩ (by simp) (by kernel_rfl)
      obtain rfl : b7 = true := hall ⟨7, .phase⟩ (by simp) (by kernel_rfl)
      obtain rfl : b8 = true := hall ⟨8, .data⟩ (by simp) (by kernel_rfl)
      clear hall
      obtain rfl := H.h0 rfl
      obtain rfl := H.h1 rfl
      obtain rfl := H.h2 rfl
      obtain rfl := H.h3 rfl
      obtain rfl := H.h4 rfl
      have P8 := H.h8 rfl rfl
      have PP := Lib.hid P8
      obtain ⟨lz, kz, kf⟩ := P8.facts
      obtain ⟨Ax, nx, cx, rfl⟩ := P8.slice
      clear P8
      refine wpOp_step ho (fun K' hK => ?_)
      have HK := Lib.hid hK
      clear hK ho
      go_simp
      exact HK.out _ _ ⟨_, _, _, _, _, _, _, _, _, _, _, _, _, _, _, _, _, _, _, x9, rfl, rfl, ⟨(fun h => by cases h), H.d2, H.d4, H.d5, H.d6, H.d7, H.d8, (fun _ => ⟨rfl, rfl, rfl, rfl, rfl, rfl, rfl, rfl, rfl⟩), H.h0, H.h1, H.h2, H.h3, H.h4, (fun _ h => by cases h), (fun _ h => by cases h), (fun _ h => by cases h), (fun _ h => by cases h), (fun _ => PP.out.store)⟩⟩
    · have ho := hoj
      simp at ho
  case hfin =>
    rintro listed a w ⟨b0, b1, b2, b3, b4, b5, b6, b7, b8, b9, x0, x1, x2, x3, x4, x5, x6, x7, x8, x9, rfl, rfl, H⟩ hr
    have hb : b9 = true := by
      clear H
      revert b0 b1 b2 b3 b4 b5 b6 b7 b8 b9
      decide +kernel
    subst hb
    clear hr
    have PE := Lib.hid (H.h9 rfl)
    go_wp2
    exact bodyPost_ret (v := .tuple #[]) (by simp [results, Try.results37, go_sem]) rfl (PE.out.ret HA.out)
set_option maxRecDepth 100000 in
set_option maxHeartbeats 2000000 in
theorem put_apart (qs : List PC) (q : PC) (hcs : cs = qs ++ [q]) (hT : TL W0 K cs) (hd : BSl W0 K dv ds) (h0 : 0 < ds.length) (hs : q.zs.length + ds.length ≤ 140737488355328) (hln : cs.length ≤ 1000) (hq : -9223372036854775808 ≤ endP q.pc ∧ endP q.pc ≤ 9223372036854775807) (ht : endP q.pc ≠ off) : Calls Try.prog 37 #[.agg #[.int .i64 off, dv], .pointer (some ⟨K, 0, none⟩)] W0 (AddPost K cs off ds W0) := by
  obtain ⟨n, hn⟩ : ∃ n, cs.length = n := ⟨_, rfl⟩
  obtain ⟨lv, hK1, hR⟩ := hT.ex
  obtain ⟨Al, cl, rfl, hlc, hlm⟩ := hR.slice
  obtain ⟨Ad, cd, rfl, hdc, hdm, hdn, hdr⟩ := id hd.ex
  have HDB := Lib.hid hdr.1
  have hK := lt_of_block hK1
  obtain ⟨m, hm⟩ : ∃ m, ds.length = m := ⟨_, rfl⟩
  have HM := Lib.hid hm
  rw [hm] at hd hdc hs h0 ⊢
  rw [hn] at hK1 hR hlc
  have HN := Lib.hid hn
  have HD := Lib.hid hd
  have BB0 := Lib.hid ((Below.refl K W0).alloc (by omega) (.cells #[.int .i64 off, .slice Ad m cd] 55))
  have BF0 := Lib.hid ((Below.refl W0.heap.size W0).alloc (Nat.le_refl _) (.cells #[.int .i64 off, .slice Ad m cd] 55))
  have HK1 := Lib.hid hK1
  have FB0 := Lib.hid (heap_alloc_new W0 (.cells #[.int .i64 off, .slice Ad m cd] 55))
  have KB0 := Lib.hid ((Below.heap_alloc W0 (.cells #[.int .i64 off, .slice Ad m cd] 55) _ hK).trans hK1)
  have RB0 := Lib.hid (hR.alloc (.cells #[.int .i64 off, .slice Ad m cd] 55))
  have HNF := Lib.hid (fun k (hk : (Value.slice Al n cl).ownBlock = some k) => Nat.ne_of_lt (hR.lt k hk).2)
  unfold maxLen at hlm hdm
  have m0' : ((m : Int) == 0) = false := by simp; omega
  unfold AddPost
  have HA := Lib.hid (show addP (cs.map PC.pc) (off, ds) = cs.map PC.pc ++ [(off, ds)] from by
    have := addP_apart (qs.map PC.pc) q.pc (p := (off, ds)) (fun e => by simp only at e; rw [e] at hm; simp at hm; omega) ht
    rw [hcs, List.map_append]
    exact this)
  have hnq : n = qs.length + 1 := by rw [← hn, hcs]; simp
  obtain ⟨gb, capb, hv, hb1, hb2, hb3, hb4, hbc⟩ := (hR.alloc (.cells #[.int .i64 off, .slice Ad m cd] 55)).at_ (by rw [hn]; omega)
  injection hv with hv1 hv2 hv3
  subst hv1 hv3
  obtain ⟨xo, xc, fz⟩ := hbc qs.length (by rw [hn]; omega)
  have hpget : cs.getD qs.length pcz = q := by rw [hcs, List.getD_eq_getElem?_getD, List.getElem?_append_right (Nat.le_refl _), Nat.sub_self]; rfl
  rw [hpget] at xo xc
  have hqe : endP q.pc = q.off + q.zs.length := rfl
  obtain ⟨qo, qz, qa, qc⟩ := q
  have hpv : (PC.mk qo qz qa qc).val = .slice qa qz.length qc := rfl
  rw [hpv] at xc
  rw [hqe] at ht hq
  dsimp only at xo xc ht hq hs
  obtain ⟨qm, hqm⟩ : ∃ m, qz.length = m := ⟨_, rfl⟩
  rw [hqm] at xc ht hq hs
  have HQM := Lib.hid hqm
  obtain ⟨ql, hql⟩ : ∃ m, qs.length = m := ⟨_, rfl⟩
  rw [hql] at xo xc fz hnq
  have HQL := Lib.hid hql
  have HE := Lib.hid (fun w' => end_any qo qa qm qc w' hq)
  have hwn : IntKind.i64.wrap ((n : Int) - 1) = (ql : Int) := by rw [IntKind.wrap_i64]; omega
  have hq0 : (0 : Int) ≤ (ql : Int) := by omega
  have hq1 : (ql : Int) < (n : Int) := by omega
  have gt : (qo + (qm : Int) == off) = false := by simp [ht]
  have hdn0 : 0 < n := by omega
  have HCS := Lib.hid hcs
  have HNQ := Lib.hid hnq
  clear hnq ht hqm hql hcs hbc hpget hqe hpv hv2
  have q0 := bk_cell FB0.out 1
  have q1 := bk_cell KB0.out 0
  have q2 := bk_cell FB0.out 0
  simp only [List.getElem?_toArray, List.getElem?_cons_zero, List.getElem?_cons_succ] at q0 q1 q2
  clear hm hT hd hK1 hR hn hdr
  go_enter Try.func37, Try.ntmps37
  go_wp2_with fail
  have d0 := Ext.cell q0
  have d1 := Ext.cell q1
  have d2 := Ext.cell q2
  have d3 := Ext.cell xo
  have d4 := Ext.cell xc
  refine wp_region_ext (by kernel_rfl) (by kernel_rfl) ?_
  repeat (go_big_quiet_step ((go_at_call 31; exact Ext.call (HE.out _))))
  refine wpQuiet_nil ?_
  intro X hbX
  have BB := Lib.hid (BB0.out.trans (hbX.mono (by simp; omega)))
  have BF := Lib.hid (BF0.out.trans (hbX.mono (by simp)))
  have FB := Lib.hid ((hbX.block _ (lt_of_block FB0.out)).trans FB0.out)
  have KB := Lib.hid ((hbX.block _ (lt_of_block KB0.out)).trans KB0.out)
  have RB := Lib.hid (RB0.out.below hbX)
  clear hbX d0 d1 d2 q0 q1 q2 d3 d4
  go_wp2_with fail
  have hFX := BF.out.size
  have hszX := BB.out.size
  have hkX := lt_of_block KB.out
  have hbX := lt_of_block FB.out
  have hKX : K ≤ X.heap.size := Nat.le_of_lt hkX
  have kc := bk_cell KB.out 0
  have fc0 := bk_cell FB.out 0
  have fc1 := bk_cell FB.out 1
  simp only [List.getElem?_toArray, List.getElem?_cons_zero, List.getElem?_cons_succ] at kc fc0 fc1
  have HCL := Lib.hid (fun w' (hb : Below K W0 w') => bclone_any K (.slice Ad m cd) ds w' (by have := hb.size; omega) (HD.out.below hb) (by have := HM.out; omega))
  have hln : cs.length ≤ 1000 := by have := HN.out; omega
  refine wp_region_inv (fun listed a w => ∃ (b0 b1 b2 b3 b4 b5 b6 b7 b8 b9 : Bool) (x0 x1 x2 x3 x4 x5 x6 x7 x8 x9 : Value), listed = #[b0, b1, b2, b3, b4, b5, b6, b7, b8, b9] ∧ a = { tmps := #[Value.agg #[Value.int IntKind.i64 off, Value.slice Ad m cd], Value.pointer (some { block := K, off := 0 }), Value.pointer (some { block := W0.heap.size, off := 0 }), Value.int IntKind.i64 ↑ql, Value.pointer (some { block := W0.heap.size, off := 1 }), Value.slice Ad m cd, Value.int IntKind.i64 ↑m, Value.bool false, Value.slice (some { block := gb, off := 0 }) n cl, Value.int IntKind.i64 ↑n, Value.int IntKind.i64 ↑ql, Value.int IntKind.i64 ↑ql, Value.bool true, Value.bool true, Value.slice (some { block := gb, off := 0 }) n cl, Value.int IntKind.i64 ↑ql, Value.pointer (some { block := gb, off := ql * 2 }), Value.agg #[Value.int IntKind.i64 qo, Value.slice qa qm qc], Value.int IntKind.i64 (qo + ↑qm), Value.pointer (some { block := W0.heap.size, off := 0 }), Value.int IntKind.i64 off, Value.bool false, Value.bool false, undef, undef, undef, undef, undef, undef, undef, undef, undef, undef, undef, undef, x0, x1, x2, x3, x4, x5, x6, x7, x8], defers := [] } ∧ ClsB X W0 K cs off ds (.slice (some ⟨gb, 0, none⟩) n cl) (.pointer (some ⟨W0.heap.size, 0, none⟩)) (.int .i64 off) (.pointer (some ⟨W0.heap.size, 1, none⟩)) (.slice Ad m cd) b0 b1 b2 b3 b4 b5 b6 b7 b8 b9 x0 x1 x2 x3 x4 x5 x6 x7 x8 x9 w) (by kernel_rfl) ?h0 ?hfin ?hI
  case h0 => exact ⟨_, _, _, _, _, _, _, _, _, _, _, _, _, _, _, _, _, _, _, undef, rfl, rfl, ⟨(fun _ => (Below.refl _ _).drew), (fun h => by cases h), (fun h => by cases h), (fun h => by cases h), (fun h => by cases h), (fun h => by cases h), (fun h => by cases h), (fun h => by cases h), (fun h => by cases h), (fun h => by cases h), (fun h => by cases h), (fun h => by cases h), (fun h => by cases h), (fun h => by cases h), (fun h => by cases h), (fun h => by cases h), (fun h => by cases h), (fun h => by cases h)⟩⟩
  case hI =>
    rintro listed a w ⟨b0, b1, b2, b3, b4, b5, b6, b7, b8, b9, x0, x1, x2, x3, x4, x5, x6, x7, x8, x9, rfl, rfl, H⟩ i hi
    obtain ⟨hun, oj, hoj, hall⟩ := mem_ready.1 hi
    clear hi
    rcases i with _ | _ | _ | _ | _ | _ | _ | _ | _ | _ | i
    · have ho := hoj
      simp only [List.getElem?_toArray, List.getElem?_cons_succ, List.getElem?_cons_zero, Option.some.injEq] at hoj
      subst hoj
      obtain rfl : b0 = false := hun
      clear hall
      obtain rfl : b8 = false := Bool.eq_false_iff.2 fun h => Bool.false_ne_true (H.d8 h).1
      obtain rfl : b9 = false := Bool.eq_false_iff.2 fun h => Bool.false_ne_true (H.d9 h).1
      have hbe := H.be rfl
      have c := (hbe.cell (p := ⟨K, 0, none⟩) hkX).trans kc
      refine wpOp_step ho (fun K' hK => ?_)
      have HK := Lib.hid hK
      clear hK ho
      go_simp
      exact HK.out _ _ ⟨_, _, _, _, _, _, _, _, _, _, _, _, _, _, _, _, _, _, _, x9, rfl, rfl, ⟨(fun _ => hbe), H.d2, H.d4, H.d5, H.d6, H.d7, (fun h => by cases h), (fun h => by cases h), (fun _ => rfl), H.h1, H.h2, H.h3, H.h4, H.h5, H.h6, H.h7, (fun h => by cases h), (fun h => by cases h)⟩⟩
    · have ho := hoj
      simp only [List.getElem?_toArray, List.getElem?_cons_succ, List.getElem?_cons_zero, Option.some.injEq] at hoj
      subst hoj
      obtain rfl : b1 = false := hun
      clear hall
      obtain rfl : b2 = false := Bool.eq_false_iff.2 fun h => Bool.false_ne_true (H.d2 h)
      obtain rfl : b6 = false := Bool.eq_false_iff.2 fun h => Bool.false_ne_true (H.d6 h).1
      obtain rfl : b7 = false := Bool.eq_false_iff.2 fun h => Bool.false_ne_true (H.d7 h)
      obtain rfl : b8 = false := Bool.eq_false_iff.2 fun h => Bool.false_ne_true (H.d8 h).2.1
      obtain rfl : b9 = false := Bool.eq_false_iff.2 fun h => Bool.false_ne_true (H.d9 h).2.1
      have hbe := H.be rfl
      refine wpOp_step ho (fun K' hK => ?_)
      have HK := Lib.hid hK
      clear hK ho
      go_simp
      exact HK.out _ _ ⟨_, _, _, _, _, _, _, _, _, _, _, _, _, _, _, _, _, _, _, x9, rfl, rfl, ⟨(fun _ => hbe), (fun h => by cases h), H.d4, H.d5, H.d6, H.d7, H.d8, (fun h => by cases h), H.h0, (fun _ => rfl), H.h2, H.h3, H.h4, H.h5, (fun h => by cases h), (fun h => by cases h), (fun h => by cases h), (fun h => by cases h)⟩⟩
    · have ho := hoj
      simp only [List.getElem?_toArray, List.getElem?_cons_succ, List.getElem?_cons_zero, Option.some.injEq] at hoj
      subst hoj
      obtain rfl : b2 = false := hun
      obtain rfl : b1 = true := hall ⟨1, .data⟩ (by simp) (by kernel_rfl)
      clear hall
      obtain rfl : b6 = false := Bool.eq_false_iff.2 fun h => Bool.false_ne_true (H.d6 h).1
      obtain rfl : b7 = false := Bool.eq_false_iff.2 fun h => Bool.false_ne_true (H.d7 h)
      obtain rfl : b8 = false := Bool.eq_false_iff.2 fun h => Bool.false_ne_true (H.d8 h).2.1
      obtain rfl : b9 = false := Bool.eq_false_iff.2 fun h => Bool.false_ne_true (H.d9 h).2.2.1
      have hbe := H.be rfl
      obtain rfl := H.h1 rfl
      have c := (hbe.cell (p := ⟨W0.heap.size, 0, none⟩) hbX).trans fc0
      refine wpOp_step ho (fun K' hK => ?_)
      have HK := Lib.hid hK
      clear hK ho
      go_simp
      exact HK.out _ _ ⟨_, _, _, _, _, _, _, _, _, _, _, _, _, _, _, _, _, _, _, x9, rfl, rfl, ⟨(fun _ => hbe), (fun _ => rfl), H.d4, H.d5, (fun h => by cases h), H.d7, H.d8, (fun h => by cases h), H.h0, H.h1, (fun _ => rfl), H.h3, H.h4, H.h5, (fun h => by cases h), (fun h => by cases h), (fun h => by cases h), (fun h => by cases h)⟩⟩
    · have ho := hoj
      simp only [List.getElem?_toArray, List.getElem?_cons_succ, List.getElem?_cons_zero, Option.some.injEq] at hoj
      subst hoj
      obtain rfl : b3 = false := hun
      clear hall
      obtain rfl : b4 = false := Bool.eq_false_iff.2 fun h => Bool.false_ne_true (H.d4 h)
      obtain rfl : b5 = false := Bool.eq_false_iff.2 fun h => Bool.false_ne_true (H.d5 h)
      obtain rfl : b6 = false := Bool.eq_false_iff.2 fun h => Bool.false_ne_true (H.d6 h).2
      obtain rfl : b7 = false := Bool.eq_false_iff.2 fun h => Bool.false_ne_true (H.d7 h)
      obtain rfl : b8 = false := Bool.eq_false_iff.2 fun h => Bool.false_ne_true (H.d8 h).2.1
      obtain rfl : b9 = false := Bool.eq_false_iff.2 fun h => Bool.false_ne_true (H.d9 h).2.2.2.1
      have hbe := H.be rfl
      refine wpOp_step ho (fun K' hK => ?_)
      have HK := Lib.hid hK
      clear hK ho
      go_simp
      exact HK.out _ _ ⟨_, _, _, _, _, _, _, _, _, _, _, _, _, _, _, _, _, _, _, x9, rfl, rfl, ⟨(fun _ => hbe), H.d2, (fun h => by cases h), H.d5, H.d6, H.d7, H.d8, (fun h => by cases h), H.h0, H.h1, H.h2, (fun _ => rfl), H.h4, (fun h => by cases h), (fun h => by cases h), (fun h => by cases h), (fun h => by cases h), (fun h => by cases h)⟩⟩
    · have ho := hoj
      simp only [List.getElem?_toArray, List.getElem?_cons_succ, List.getElem?_cons_zero, Option.some.injEq] at hoj
      subst hoj
      obtain rfl : b4 = false := hun
      obtain rfl : b3 = true := hall ⟨3, .data⟩ (by simp) (by kernel_rfl)
      clear hall
      obtain rfl : b5 = false := Bool.eq_false_iff.2 fun h => Bool.false_ne_true (H.d5 h)
      obtain rfl : b6 = false := Bool.eq_false_iff.2 fun h => Bool.false_ne_true (H.d6 h).2
      obtain rfl : b7 = false := Bool.eq_false_iff.2 fun h => Bool.false_ne_true (H.d7 h)
      obtain rfl : b8 = false := Bool.eq_false_iff.2 fun h => Bool.false_ne_true (H.d8 h).2.1
      obtain rfl : b9 = false := Bool.eq_false_iff.2 fun h => Bool.false_ne_true (H.d9 h).2.2.2.2.1
      have hbe := H.be rfl
      obtain rfl := H.h3 rfl
      have c := (hbe.cell (p := ⟨W0.heap.size, 1, none⟩) hbX).trans fc1
      refine wpOp_step ho (fun K' hK => ?_)
      have HK := Lib.hid hK
      clear hK ho
      go_simp
      exact HK.out _ _ ⟨_, _, _, _, _, _, _, _, _, _, _, _, _, _, _, _, _, _, _, x9, rfl, rfl, ⟨(fun _ => hbe), H.d2, (fun _ => rfl), (fun h => by cases h), H.d6, H.d7, H.d8, (fun h => by cases h), H.h0, H.h1, H.h2, H.h3, (fun _ => rfl), (fun h => by cases h), (fun h => by cases h), (fun h => by cases h), (fun h => by cases h), (fun h => by cases h)⟩⟩
    · have ho := hoj
      simp only [List.getElem?_toArray, List.getElem?_cons_succ, List.getElem?_cons_zero, Option.some.injEq] at hoj
      subst hoj
      obtain rfl : b5 = false := hun
      obtain rfl : b4 = true := hall ⟨4, .data⟩ (by simp) (by kernel_rfl)
      obtain rfl : b3 = true := (H.d4 rfl)
      clear hall
      obtain rfl : b6 = false := Bool.eq_false_iff.2 fun h => Bool.false_ne_true (H.d6 h).2
      obtain rfl : b7 = false := Bool.eq_false_iff.2 fun h => Bool.false_ne_true (H.d7 h)
      obtain rfl : b8 = false := Bool.eq_false_iff.2 fun h => Bool.false_ne_true (H.d8 h).2.1
      obtain rfl : b9 = false := Bool.eq_false_iff.2 fun h => Bool.false_ne_true (H.d9 h).2.2.2.2.2.1
      have hbe := H.be rfl
      obtain rfl := H.h3 rfl
      obtain rfl := H.h4 rfl
      refine wpOp_step ho (fun K' hK => ?_)
      have HK := Lib.hid hK
      clear hK ho
      go_wp2_with (go_at_call 34; refine (HCL.out w (BB.out.trans (hbe.mono hKX))).mono ?_; rintro e w1 ⟨u, rfl, o1, b1⟩; have BC := Lib.hid b1; have UC := Lib.hid (OwnAt.mk' (b := K + 1) (B := X.heap.size) o1 (by have := hbe.size; omega) hbe.size HDB.out); clear o1 b1)
      exact HK.out _ _ ⟨_, _, _, _, _, _, _, _, _, _, _, _, _, _, _, _, _, _, _, x9, rfl, rfl, ⟨(fun _ => hbe.trans (BC.out.mono hbe.size)), H.d2, H.d4, (fun _ => rfl), (fun h => by cases h), H.d7, (fun h => by cases h), (fun h => by cases h), H.h0, H.h1, H.h2, H.h3, H.h4, (fun _ _ => UC.out), (fun h => by cases h), (fun h => by cases h), (fun h => by cases h), (fun h => by cases h)⟩⟩
    · have ho := hoj
      simp only [List.getElem?_toArray, List.getElem?_cons_succ, List.getElem?_cons_zero, Option.some.injEq] at hoj
      subst hoj
      obtain rfl : b6 = false := hun
      obtain rfl : b2 = true := hall ⟨2, .data⟩ (by simp) (by kernel_rfl)
      obtain rfl : b5 = true := hall ⟨5, .data⟩ (by simp) (by kernel_rfl)
      obtain rfl : b1 = true := (H.d2 rfl)
      obtain rfl : b4 = true := (H.d5 rfl)
      obtain rfl : b3 = true := (H.d4 rfl)
      clear hall
      obtain rfl : b7 = false := Bool.eq_false_iff.2 fun h => Bool.false_ne_true (H.d7 h)
      obtain rfl : b8 = false := Bool.eq_false_iff.2 fun h => Bool.false_ne_true (H.d8 h).2.1
      obtain rfl : b9 = false := Bool.eq_false_iff.2 fun h => Bool.false_ne_true (H.d9 h).2.2.2.2.2.2.1
      have hbe := H.be rfl
      obtain rfl := H.h1 rfl
      obtain rfl := H.h2 rfl
      obtain rfl := H.h3 rfl
      obtain rfl := H.h4 rfl
      have P5 := H.h5 rfl rfl
      have U5 := Lib.hid P5
      obtain ⟨Au, cu, rfl⟩ := P5.ex
      clear P5
      refine wpOp_step ho (fun K' hK => ?_)
      have HK := Lib.hid hK
      clear hK ho
      go_simp
      exact HK.out _ _ ⟨_, _, _, _, _, _, _, _, _, _, _, _, _, _, _, _, _, _, _, x9, rfl, rfl, ⟨(fun _ => hbe), H.d2, H.d4, H.d5, (fun _ => ⟨rfl, rfl⟩), (fun h => by cases h), H.d8, (fun h => by cases h), H.h0, H.h1, H.h2, H.h3, H.h4, H.h5, (fun _ _ => ⟨_, rfl, U5.out⟩), (fun h => by cases h), (fun h => by cases h), (fun h => by cases h)⟩⟩
    · have ho := hoj
      simp only [List.getElem?_toArray, List.getElem?_cons_succ, List.getElem?_cons_zero, Option.some.injEq] at hoj
      subst hoj
      obtain rfl : b7 = false := hun
      obtain rfl : b6 = true := hall ⟨6, .data⟩ (by simp) (by kernel_rfl)
      obtain rfl : b2 = true := (H.d6 rfl).1
      obtain rfl : b5 = true := (H.d6 rfl).2
      obtain rfl : b1 = true := (H.d2 rfl)
      obtain rfl : b4 = true := (H.d5 rfl)
      obtain rfl : b3 = true := (H.d4 rfl)
      clear hall
      obtain rfl : b8 = false := Bool.eq_false_iff.2 fun h => Bool.false_ne_true (H.d8 h).2.1
      obtain rfl : b9 = false := Bool.eq_false_iff.2 fun h => Bool.false_ne_true (H.d9 h).2.2.2.2.2.2.2.1
      have hbe := H.be rfl
      obtain rfl := H.h1 rfl
      obtain rfl := H.h2 rfl
      obtain rfl := H.h3 rfl
      obtain rfl := H.h4 rfl
      have P5 := H.h5 rfl rfl
      have P6 := H.h6 rfl rfl
      obtain ⟨u, rfl, hu⟩ := P6
      obtain ⟨Au, cu, rfl⟩ := id hu.ex
      have U6 := Lib.hid hu
      clear hu
      have BA := Lib.hid ((Below.refl w.heap.size w).alloc (Nat.le_refl _) (.cells #[.int .i64 off, .slice Au ds.length cu] 55))
      have NA := Lib.hid (heap_alloc_new w (.cells #[.int .i64 off, .slice Au ds.length cu] 55))
      refine wpOp_step ho (fun K' hK => ?_)
      have HK := Lib.hid hK
      clear hK ho
      go_simp
      exact HK.out _ _ ⟨_, _, _, _, _, _, _, _, _, _, _, _, _, _, _, _, _, _, _, x9, rfl, rfl, ⟨(fun _ => hbe.trans (BA.out.mono hbe.size)), H.d2, H.d4, H.d5, H.d6, (fun _ => rfl), (fun h => by cases h), (fun h => by cases h), H.h0, H.h1, H.h2, H.h3, H.h4, (fun e f => OwnAt.on (H.h5 e f) BA.out), (fun e f => let ⟨u, e1, e2⟩ := (H.h6 e f); ⟨u, e1, e2.on BA.out⟩), (fun _ _ => ⟨_, _, rfl, NA.out, U6.out.on BA.out⟩), (fun h => by cases h), (fun h => by cases h)⟩⟩
    · have ho := hoj
      simp only [List.getElem?_toArray, List.getElem?_cons_succ, List.getElem?_cons_zero, Option.some.injEq] at hoj
      subst hoj
      obtain rfl : b8 = false := hun
      obtain rfl : b0 = true := hall ⟨0, .data⟩ (by simp) (by kernel_rfl)
      obtain rfl : b7 = true := hall ⟨7, .data⟩ (by simp) (by kernel_rfl)
      obtain rfl : b5 = true := hall ⟨5, .chain⟩ (by simp) (by kernel_rfl)
      obtain rfl : b4 = true := (H.d5 rfl)
      obtain rfl : b6 = true := (H.d7 rfl)
      obtain rfl : b3 = true := (H.d4 rfl)
      obtain rfl : b2 = true := (H.d6 rfl).1
      obtain rfl : b1 = true := (H.d2 rfl)
      clear hall
      obtain rfl : b9 = false := Bool.eq_false_iff.2 fun h => Bool.false_ne_true (H.d9 h).2.2.2.2.2.2.2.2
      have hbe := H.be rfl
      obtain rfl := H.h0 rfl
      obtain rfl := H.h1 rfl
      obtain rfl := H.h2 rfl
      obtain rfl := H.h3 rfl
      obtain rfl := H.h4 rfl
      have P5 := H.h5 rfl rfl
      have P6 := H.h6 rfl rfl
      have P7 := H.h7 rfl rfl
      obtain ⟨g, u, rfl, hg, hu⟩ := P7
      have HG := Lib.hid hg
      have RW := Lib.hid (RB.out.below hbe)
      have HU := Lib.hid hu
      have hsz := hbe.size
      have BW := Lib.hid (BF.out.trans (hbe.mono hFX))
      have KW := Lib.hid ((hbe.block _ hkX).trans KB.out)
      have HAP := Lib.hid (fresh_apart RB.out hu.lo)
      clear hg hu
      refine wpOp_step ho (fun K' hK => ?_)
      have HK := Lib.hid hK
      clear hK ho
      refine step_pushC w rfl (.tmp 35) (.tmp 42) rfl (K + 1) _ cs rfl RW.out off u ds g 1 X.heap.size rfl HG.out HU.out HAP.out hln (by omega) ?_
      intro v' w' p hp hpv hv2 hr g2
      have PN := Lib.hid (PutAt.pushed (W0 := W0) hp hr g2 hv2 (fun g hg => by rw [hpv] at hg; exact Nat.le_trans hFX (HU.out.lo g hg)) BW.out HK1.out RW.out.lt)
      clear hp hr g2 hpv hv2
      exact HK.out _ _ ⟨_, _, _, _, _, _, _, _, _, _, _, _, _, _, _, _, _, _, _, x9, rfl, rfl, ⟨(fun h => by cases h), H.d2, H.d4, H.d5, H.d6, H.d7, (fun _ => ⟨rfl, rfl, rfl⟩), (fun h => by cases h), H.h0, H.h1, H.h2, H.h3, H.h4, (fun _ h => by cases h), (fun _ h => by cases h), (fun _ h => by cases h), (fun _ _ => PN.out), (fun h => by cases h)⟩⟩
    · have ho := hoj
      simp only [List.getElem?_toArray, List.getElem?_cons_succ, List.getElem?_cons_zero, Option.some.injEq] at hoj
      subst hoj
      obtain rfl : b9 = false := hun
      obtain rfl : b0 = true := hall ⟨0, .phase⟩ (by simp) (by kernel_rfl)
      obtain rfl : b1 = true := hall ⟨1, .phase⟩ (by simp) (by kernel_rfl)
      obtain rfl : b2 = true := hall ⟨2, .phase⟩ (by simp) (by kernel_rfl)
      obtain rfl : b3 = true := hall ⟨3, .phase⟩ (by simp) (by kernel_rfl)
      obtain rfl : b4 = true := hall ⟨4, .phase⟩ (by simp) (by kernel_rfl)
      obtain rfl : b5 = true := hall ⟨5, .phase⟩ (by simp) (by kernel_rfl)
      obtain rfl : b6 = true := hall ⟨6, .phase⟩ (by simp) (by kernel_rfl)
      obtain rfl : b7 = true := hall ⟨7, .phase⟩ (by simp) (by kernel_rfl)
      obtain rfl : b8 = true := hall ⟨8, .data⟩ (by simp) (by kernel_rfl)
      clear hall
      obtain rfl := H.h0 rfl
      obtain rfl := H.h1 rfl
      obtain rfl := H.h2 rfl
      obtain rfl := H.h3 rfl
      obtain rfl := H.h4 rfl
      have P8 := H.h8 rfl rfl
      have PP := Lib.hid P8
      obtain ⟨lz, kz, kf⟩ := P8.facts
      obtain ⟨Ax, nx, cx, rfl⟩ := P8.slice
      clear P8
      refine wpOp_step ho (fun K' hK => ?_)
      have HK := Lib.hid hK
      clear hK ho
      go_simp
      exact HK.out _ _ ⟨_, _, _, _, _, _, _, _, _, _, _, _, _, _, _, _, _, _, _, x9, rfl, rfl, ⟨(fun h => by cases h), H.d2, H.d4, H.d5, H.d6, H.d7, H.d8, (fun _ => ⟨rfl, rfl, rfl, rfl, rfl, rfl, rfl, rfl, rfl⟩), H.h0, H.h1, H.h2, H.h3, H.h4, (fun _ h => by cases h), (fun _ h => by cases h), (fun _ h => by cases h), (fun _ h => by cases h), (fun _ => PP.out.store)⟩⟩
    · have ho := hoj
      simp at ho
  case hfin =>
    rintro listed a w ⟨b0, b1, b2, b3, b4, b5, b6, b7, b8, b9, x0, x1, x2, x3, x4, x5, x6, x7, x8, x9, rfl, rfl, H⟩ hr
    have hb : b9 = true := by
      clear H
      revert b0 b1 b2 b3 b4 b5 b6 b7 b8 b9
      decide +kernel
    subst hb
    clear hr
    have PE := Lib.hid (H.h9 rfl)
    go_wp2
    exact bodyPost_ret (v := .tuple #[]) (by simp [results, Try.results37, go_sem]) rfl (PE.out.ret HA.out)
set_option maxRecDepth 100000 in
set_option maxHeartbeats 2000000 in
theorem put_touch (qs : List PC) (q : PC) (hcs : cs = qs ++ [q]) (hT : TL W0 K cs) (hd : BSl W0 K dv ds) (h0 : 0 < ds.length) (hs : q.zs.length + ds.length ≤ 140737488355328) (hln : cs.length ≤ 1000) (hq : -9223372036854775808 ≤ endP q.pc ∧ endP q.pc ≤ 9223372036854775807) (ht : endP q.pc = off) : Calls Try.prog 37 #[.agg #[.int .i64 off, dv], .pointer (some ⟨K, 0, none⟩)] W0 (AddPost K cs off ds W0) := by
  obtain ⟨n, hn⟩ : ∃ n, cs.length = n := ⟨_, rfl⟩
  obtain ⟨lv, hK1, hR⟩ := hT.ex
  obtain ⟨Al, cl, rfl, hlc, hlm⟩ := hR.slice
  obtain ⟨Ad, cd, rfl, hdc, hdm, hdn, hdr⟩ := id hd.ex
  have HDB := Lib.hid hdr.1
  have hK := lt_of_block hK1
  obtain ⟨m, hm⟩ : ∃ m, ds.length = m := ⟨_, rfl⟩
  have HM := Lib.hid hm
  rw [hm] at hd hdc hs h0 ⊢
  rw [hn] at hK1 hR hlc
  have HN := Lib.hid hn
  have HD := Lib.hid hd
  have BB0 := Lib.hid ((Below.refl K W0).alloc (by omega) (.cells #[.int .i64 off, .slice Ad m cd] 55))
  have BF0 := Lib.hid ((Below.refl W0.heap.size W0).alloc (Nat.le_refl _) (.cells #[.int .i64 off, .slice Ad m cd] 55))
  have HK1 := Lib.hid hK1
  have FB0 := Lib.hid (heap_alloc_new W0 (.cells #[.int .i64 off, .slice Ad m cd] 55))
  have KB0 := Lib.hid ((Below.heap_alloc W0 (.cells #[.int .i64 off, .slice Ad m cd] 55) _ hK).trans hK1)
  have RB0 := Lib.hid (hR.alloc (.cells #[.int .i64 off, .slice Ad m cd] 55))
  have HNF := Lib.hid (fun k (hk : (Value.slice Al n cl).ownBlock = some k) => Nat.ne_of_lt (hR.lt k hk).2)
  unfold maxLen at hlm hdm
  have m0' : ((m : Int) == 0) = false := by simp; omega
  unfold AddPost
  have HA := Lib.hid (show addP (cs.map PC.pc) (off, ds) = qs.map PC.pc ++ [(q.off, q.zs ++ ds)] from by
    have := addP_touch (qs.map PC.pc) q.pc (p := (off, ds)) (fun e => by simp only at e; rw [e] at hm; simp at hm; omega) ht
    rw [hcs, List.map_append]
    exact this)
  have hnq : n = qs.length + 1 := by rw [← hn, hcs]; simp
  obtain ⟨gb, capb, hv, hb1, hb2, hb3, hb4, hbc⟩ := (hR.alloc (.cells #[.int .i64 off, .slice Ad m cd] 55)).at_ (by rw [hn]; omega)
  injection hv with hv1 hv2 hv3
  subst hv1 hv3
  obtain ⟨xo, xc, fz⟩ := hbc qs.length (by rw [hn]; omega)
  have hpget : cs.getD qs.length pcz = q := by rw [hcs, List.getD_eq_getElem?_getD, List.getElem?_append_right (Nat.le_refl _), Nat.sub_self]; rfl
  rw [hpget] at xo xc
  have hqe : endP q.pc = q.off + q.zs.length := rfl
  obtain ⟨qo, qz, qa, qc⟩ := q
  have hpv : (PC.mk qo qz qa qc).val = .slice qa qz.length qc := rfl
  rw [hpv] at xc
  rw [hqe] at ht hq
  dsimp only at xo xc ht hq hs
  obtain ⟨qm, hqm⟩ : ∃ m, qz.length = m := ⟨_, rfl⟩
  rw [hqm] at xc ht hq hs
  have HQM := Lib.hid hqm
  obtain ⟨ql, hql⟩ : ∃ m, qs.length = m := ⟨_, rfl⟩
  rw [hql] at xo xc fz hnq
  have HQL := Lib.hid hql
  have HE := Lib.hid (fun w' => end_any qo qa qm qc w' hq)
  have hwn : IntKind.i64.wrap ((n : Int) - 1) = (ql : Int) := by rw [IntKind.wrap_i64]; omega
  have hq0 : (0 : Int) ≤ (ql : Int) := by omega
  have hq1 : (ql : Int) < (n : Int) := by omega
  have gt : (qo + (qm : Int) == off) = true := by simp [ht]
  have hdn0 : 0 < n := by omega
  have HCS := Lib.hid hcs
  have HNQ := Lib.hid hnq
  clear hnq ht hqm hql hcs hbc hpget hqe hpv hv2
  have q0 := bk_cell FB0.out 1
  have q1 := bk_cell KB0.out 0
  have q2 := bk_cell FB0.out 0
  simp only [List.getElem?_toArray, List.getElem?_cons_zero, List.getElem?_cons_succ] at q0 q1 q2
  clear hm hT hd hK1 hR hn
  go_enter Try.func37, Try.ntmps37
  go_wp2_with fail
  have d0 := Ext.cell q0
  have d1 := Ext.cell q1
  have d2 := Ext.cell q2
  have d3 := Ext.cell xo
  have d4 := Ext.cell xc
  refine wp_region_ext (by kernel_rfl) (by kernel_rfl) ?_
  repeat (go_big_quiet_step ((go_at_call 31; exact Ext.call (HE.out _))))
  refine wpQuiet_nil ?_
  intro X hbX
  have BB := Lib.hid (BB0.out.trans (hbX.mono (by simp; omega)))
  have BF := Lib.hid (BF0.out.trans (hbX.mono (by simp)))
  have FB := Lib.hid ((hbX.block _ (lt_of_block FB0.out)).trans FB0.out)
  have KB := Lib.hid ((hbX.block _ (lt_of_block KB0.out)).trans KB0.out)
  have RB := Lib.hid (RB0.out.below hbX)
  clear hbX d0 d1 d2 q0 q1 q2 d3 d4
  go_wp2_with fail
  have hFX := BF.out.size
  have hszX := BB.out.size
  have hkX := lt_of_block KB.out
  have hbX := lt_of_block FB.out
  have hKX : K ≤ X.heap.size := Nat.le_of_lt hkX
  have kc := bk_cell KB.out 0
  have fc0 := bk_cell FB.out 0
  have fc1 := bk_cell FB.out 1
  simp only [List.getElem?_toArray, List.getElem?_cons_zero, List.getElem?_cons_succ] at kc fc0 fc1
  have HDR := Lib.hid hdr
  have hgX : gb < X.heap.size := by have := RB.out.lt gb rfl; omega
  have xc' : X.cell? ⟨gb, ql * 2 + 1, none⟩ = some (.slice qa qm qc) := by
    obtain ⟨g2, cap2, hv2, _, _, _, _, hbc2⟩ := RB.out.at_ (by rw [HN.out]; omega)
    injection hv2 with e1 e2 e3
    injection e1 with e1
    injection e1 with e1
    subst e1
    have t := (hbc2 ql (by have := HNQ.out; rw [HN.out]; omega)).2.1
    have hg : cs.getD ql pcz = PC.mk qo qz qa qc := by rw [HCS.out, List.getD_eq_getElem?_getD, List.getElem?_append_right (by rw [HQL.out]; exact Nat.le_refl _), HQL.out, Nat.sub_self]; rfl
    rw [hg] at t
    simpa [PC.val, HQM.out] using t
  clear xc
  have xc := xc'
  clear xc'
  obtain ⟨i0, hi0, hz0, hz1, hz2⟩ := info_parts infoB1
  have HI := Lib.hid hi0
  have HZ := Lib.hid hz0
  have HZ1 := Lib.hid hz1
  have HZ2 := Lib.hid hz2
  clear hi0 hz0 hz1 hz2
  refine wp_region_inv (fun listed a w => ∃ (b0 b1 b2 b3 b4 b5 b6 b7 b8 b9 b10 b11 b12 : Bool) (x0 x1 x2 x3 x4 x5 x6 x7 x8 x9 x10 x11 x12 : Value), listed = #[b0, b1, b2, b3, b4, b5, b6, b7, b8, b9, b10, b11, b12] ∧ a = { tmps := #[Value.agg #[Value.int IntKind.i64 off, Value.slice Ad m cd], Value.pointer (some { block := K, off := 0 }), Value.pointer (some { block := W0.heap.size, off := 0 }), Value.int IntKind.i64 ↑ql, Value.pointer (some { block := W0.heap.size, off := 1 }), Value.slice Ad m cd, Value.int IntKind.i64 ↑m, Value.bool false, Value.slice (some { block := gb, off := 0 }) n cl, Value.int IntKind.i64 ↑n, Value.int IntKind.i64 ↑ql, Value.int IntKind.i64 ↑ql, Value.bool true, Value.bool true, Value.slice (some { block := gb, off := 0 }) n cl, Value.int IntKind.i64 ↑ql, Value.pointer (some { block := gb, off := ql * 2 }), Value.agg #[Value.int IntKind.i64 qo, Value.slice qa qm qc], Value.int IntKind.i64 (qo + ↑qm), Value.pointer (some { block := W0.heap.size, off := 0 }), Value.int IntKind.i64 off, Value.bool true, Value.bool true, x0, x1, x2, x3, x4, x5, x6, x7, x8, x9, x10, x11, undef, undef, undef, undef, undef, undef, undef, undef, undef], defers := [] } ∧ ClsC X W0 K gb ql qs qo qz qa qc ds (.slice (some ⟨gb, 0, none⟩) n cl) (.slice (some ⟨gb, 0, none⟩) n cl) (.int .i64 (ql : Int)) (.slice (some ⟨gb, 0, none⟩) n cl) (.int .i64 (ql : Int)) (.pointer (some ⟨gb, ql * 2, none⟩)) (.pointer (some ⟨gb, ql * 2 + 1, none⟩)) (.slice qa qm qc) (.pointer (some ⟨W0.heap.size, 1, none⟩)) (.slice Ad m cd) (.pointer (some ⟨gb, ql * 2, none⟩)) (.pointer (some ⟨gb, ql * 2 + 1, none⟩)) b0 b1 b2 b3 b4 b5 b6 b7 b8 b9 b10 b11 b12 x0 x1 x2 x3 x4 x5 x6 x7 x8 x9 x10 x11 x12 w) (by kernel_rfl) ?h0 ?hfin ?hI
  case h0 => exact ⟨_, _, _, _, _, _, _, _, _, _, _, _, _, _, _, _, _, _, _, _, _, _, _, _, _, undef, rfl, rfl, ⟨(fun _ => (Below.refl _ _).drew), (fun h => by cases h), (fun h => by cases h), (fun h => by cases h), (fun h => by cases h), (fun h => by cases h), (fun h => by cases h), (fun h => by cases h), (fun h => by cases h), (fun _ => kc), (fun h => by cases h), (fun h => by cases h), (fun h => by cases h), (fun h => by cases h), (fun h => by cases h), (fun h => by cases h), (fun h => by cases h), (fun h => by cases h), (fun h => by cases h), (fun h => by cases h), (fun h => by cases h), (fun h => by cases h), (fun h => by cases h)⟩⟩
  case hI =>
    rintro listed a w ⟨b0, b1, b2, b3, b4, b5, b6, b7, b8, b9, b10, b11, b12, x0, x1, x2, x3, x4, x5, x6, x7, x8, x9, x10, x11, x12, rfl, rfl, H⟩ i hi
    obtain ⟨hun, oj, hoj, hall⟩ := mem_ready.1 hi
    clear hi
    rcases i with _ | _ | _ | _ | _ | _ | _ | _ | _ | _ | _ | _ | _ | i
    · have ho := hoj
      simp only [List.getElem?_toArray, List.getElem?_cons_succ, List.getElem?_cons_zero, Option.some.injEq] at hoj
      subst hoj
      obtain rfl : b0 = false := hun
      clear hall
      obtain rfl : b10 = false := Bool.eq_false_iff.2 fun h => Bool.false_ne_true (H.d10 h).1
      obtain rfl : b11 = false := Bool.eq_false_iff.2 fun h => Bool.false_ne_true (H.d11 h)
      obtain rfl : b12 = false := Bool.eq_false_iff.2 fun h => Bool.false_ne_true (H.d12 h).1
      have hx_kc := H.kc rfl
      refine wpOp_step ho (fun K' hK => ?_)
      have HK := Lib.hid hK
      clear hK ho
      go_simp
      exact HK.out _ _ ⟨_, _, _, _, _, _, _, _, _, _, _, _, _, _, _, _, _, _, _, _, _, _, _, _, _, x12, rfl, rfl, ⟨H.be, H.d4, H.d5, H.d6, H.d8, H.d9, (fun h => by cases h), H.d11, (fun h => by cases h), H.kc, (fun _ => rfl), H.h1, H.h2, H.h3, H.h4, H.h5, H.h6, H.h7, H.h8, H.h9, H.h10, H.h11, (fun h => by cases h)⟩⟩
    · have ho := hoj
      simp only [List.getElem?_toArray, List.getElem?_cons_succ, List.getElem?_cons_zero, Option.some.injEq] at hoj
      subst hoj
      obtain rfl : b1 = false := hun
      clear hall
      obtain rfl : b10 = false := Bool.eq_false_iff.2 fun h => Bool.false_ne_true (H.d10 h).2
      obtain rfl : b11 = false := Bool.eq_false_iff.2 fun h => Bool.false_ne_true (H.d11 h)
      obtain rfl : b12 = false := Bool.eq_false_iff.2 fun h => Bool.false_ne_true (H.d12 h).2.1
      have hx_kc := H.kc rfl
      refine wpOp_step ho (fun K' hK => ?_)
      have HK := Lib.hid hK
      clear hK ho
      go_simp
      exact HK.out _ _ ⟨_, _, _, _, _, _, _, _, _, _, _, _, _, _, _, _, _, _, _, _, _, _, _, _, _, x12, rfl, rfl, ⟨H.be, H.d4, H.d5, H.d6, H.d8, H.d9, (fun h => by cases h), H.d11, (fun h => by cases h), H.kc, H.h0, (fun _ => rfl), H.h2, H.h3, H.h4, H.h5, H.h6, H.h7, H.h8, H.h9, H.h10, H.h11, (fun h => by cases h)⟩⟩
    · have ho := hoj
      simp only [List.getElem?_toArray, List.getElem?_cons_succ, List.getElem?_cons_zero, Option.some.injEq] at hoj
      subst hoj
      obtain rfl : b2 = false := hun
      clear hall
      obtain rfl : b4 = false := Bool.eq_false_iff.2 fun h => Bool.false_ne_true (H.d4 h).1
      obtain rfl : b5 = false := Bool.eq_false_iff.2 fun h => Bool.false_ne_true (H.d5 h)
      obtain rfl : b6 = false := Bool.eq_false_iff.2 fun h => Bool.false_ne_true (H.d6 h)
      obtain rfl : b9 = false := Bool.eq_false_iff.2 fun h => Bool.false_ne_true (H.d9 h).1
      obtain rfl : b12 = false := Bool.eq_false_iff.2 fun h => Bool.false_ne_true (H.d12 h).2.2.1
      have hbe := H.be rfl
      have hx_kc := H.kc rfl
      refine wpOp_step ho (fun K' hK => ?_)
      have HK := Lib.hid hK
      clear hK ho
      go_simp
      exact HK.out _ _ ⟨_, _, _, _, _, _, _, _, _, _, _, _, _, _, _, _, _, _, _, _, _, _, _, _, _, x12, rfl, rfl, ⟨(fun _ => hbe), (fun h => by cases h), H.d5, H.d6, H.d8, H.d9, H.d10, H.d11, (fun h => by cases h), H.kc, H.h0, H.h1, (fun _ => rfl), H.h3, H.h4, H.h5, H.h6, H.h7, H.h8, (fun h => by cases h), H.h10, H.h11, (fun h => by cases h)⟩⟩
    · have ho := hoj
      simp only [List.getElem?_toArray, List.getElem?_cons_succ, List.getElem?_cons_zero, Option.some.injEq] at hoj
      subst hoj
      obtain rfl : b3 = false := hun
      clear hall
      obtain rfl : b4 = false := Bool.eq_false_iff.2 fun h => Bool.false_ne_true (H.d4 h).2
      obtain rfl : b5 = false := Bool.eq_false_iff.2 fun h => Bool.false_ne_true (H.d5 h)
      obtain rfl : b6 = false := Bool.eq_false_iff.2 fun h => Bool.false_ne_true (H.d6 h)
      obtain rfl : b9 = false := Bool.eq_false_iff.2 fun h => Bool.false_ne_true (H.d9 h).1
      obtain rfl : b12 = false := Bool.eq_false_iff.2 fun h => Bool.false_ne_true (H.d12 h).2.2.2.1
      have hbe := H.be rfl
      have hx_kc := H.kc rfl
      refine wpOp_step ho (fun K' hK => ?_)
      have HK := Lib.hid hK
      clear hK ho
      go_simp
      exact HK.out _ _ ⟨_, _, _, _, _, _, _, _, _, _, _, _, _, _, _, _, _, _, _, _, _, _, _, _, _, x12, rfl, rfl, ⟨(fun _ => hbe), (fun h => by cases h), H.d5, H.d6, H.d8, H.d9, H.d10, H.d11, (fun h => by cases h), H.kc, H.h0, H.h1, H.h2, (fun _ => rfl), H.h4, H.h5, H.h6, H.h7, H.h8, (fun h => by cases h), H.h10, H.h11, (fun h => by cases h)⟩⟩
    · have ho := hoj
      simp only [List.getElem?_toArray, List.getElem?_cons_succ, List.getElem?_cons_zero, Option.some.injEq] at hoj
      subst hoj
      obtain rfl : b4 = false := hun
      obtain rfl : b2 = true := hall ⟨2, .data⟩ (by simp) (by kernel_rfl)
      obtain rfl : b3 = true := hall ⟨3, .data⟩ (by simp) (by kernel_rfl)
      clear hall
      obtain rfl : b5 = false := Bool.eq_false_iff.2 fun h => Bool.false_ne_true (H.d5 h)
      obtain rfl : b6 = false := Bool.eq_false_iff.2 fun h => Bool.false_ne_true (H.d6 h)
      obtain rfl : b9 = false := Bool.eq_false_iff.2 fun h => Bool.false_ne_true (H.d9 h).1
      obtain rfl : b12 = false := Bool.eq_false_iff.2 fun h => Bool.false_ne_true (H.d12 h).2.2.2.2.1
      have hbe := H.be rfl
      have hx_kc := H.kc rfl
      obtain rfl := H.h2 rfl
      obtain rfl := H.h3 rfl
      refine wpOp_step ho (fun K' hK => ?_)
      have HK := Lib.hid hK
      clear hK ho
      go_simp
      exact HK.out _ _ ⟨_, _, _, _, _, _, _, _, _, _, _, _, _, _, _, _, _, _, _, _, _, _, _, _, _, x12, rfl, rfl, ⟨(fun _ => hbe), (fun _ => ⟨rfl, rfl⟩), (fun h => by cases h), H.d6, H.d8, H.d9, H.d10, H.d11, (fun h => by cases h), H.kc, H.h0, H.h1, H.h2, H.h3, (fun _ => rfl), H.h5, H.h6, H.h7, H.h8, (fun h => by cases h), H.h10, H.h11, (fun h => by cases h)⟩⟩
    · have ho := hoj
      simp only [List.getElem?_toArray, List.getElem?_cons_succ, List.getElem?_cons_zero, Option.some.injEq] at hoj
      subst hoj
      obtain rfl : b5 = false := hun
      obtain rfl : b4 = true := hall ⟨4, .data⟩ (by simp) (by kernel_rfl)
      obtain rfl : b2 = true := (H.d4 rfl).1
      obtain rfl : b3 = true := (H.d4 rfl).2
      clear hall
      obtain rfl : b6 = false := Bool.eq_false_iff.2 fun h => Bool.false_ne_true (H.d6 h)
      obtain rfl : b9 = false := Bool.eq_false_iff.2 fun h => Bool.false_ne_true (H.d9 h).1
      obtain rfl : b12 = false := Bool.eq_false_iff.2 fun h => Bool.false_ne_true (H.d12 h).2.2.2.2.2.1
      have hbe := H.be rfl
      have hx_kc := H.kc rfl
      obtain rfl := H.h2 rfl
      obtain rfl := H.h3 rfl
      obtain rfl := H.h4 rfl
      refine wpOp_step ho (fun K' hK => ?_)
      have HK := Lib.hid hK
      clear hK ho
      go_simp
      exact HK.out _ _ ⟨_, _, _, _, _, _, _, _, _, _, _, _, _, _, _, _, _, _, _, _, _, _, _, _, _, x12, rfl, rfl, ⟨(fun _ => hbe), H.d4, (fun _ => rfl), (fun h => by cases h), H.d8, H.d9, H.d10, H.d11, (fun h => by cases h), H.kc, H.h0, H.h1, H.h2, H.h3, H.h4, (fun _ => rfl), H.h6, H.h7, H.h8, (fun h => by cases h), H.h10, H.h11, (fun h => by cases h)⟩⟩
    · have ho := hoj
      simp only [List.getElem?_toArray, List.getElem?_cons_succ, List.getElem?_cons_zero, Option.some.injEq] at hoj
      subst hoj
      obtain rfl : b6 = false := hun
      obtain rfl : b5 = true := hall ⟨5, .data⟩ (by simp) (by kernel_rfl)
      obtain rfl : b4 = true := (H.d5 rfl)
      obtain rfl : b2 = true := (H.d4 rfl).1
      obtain rfl : b3 = true := (H.d4 rfl).2
      clear hall
      obtain rfl : b9 = false := Bool.eq_false_iff.2 fun h => Bool.false_ne_true (H.d9 h).1
      obtain rfl : b12 = false := Bool.eq_false_iff.2 fun h => Bool.false_ne_true (H.d12 h).2.2.2.2.2.2.1
      have hbe := H.be rfl
      have hx_kc := H.kc rfl
      obtain rfl := H.h2 rfl
      obtain rfl := H.h3 rfl
      obtain rfl := H.h4 rfl
      obtain rfl := H.h5 rfl
      have c := (hbe.cell (p := ⟨gb, ql * 2 + 1, none⟩) hgX).trans xc
      refine wpOp_step ho (fun K' hK => ?_)
      have HK := Lib.hid hK
      clear hK ho
      go_simp
      exact HK.out _ _ ⟨_, _, _, _, _, _, _, _, _, _, _, _, _, _, _, _, _, _, _, _, _, _, _, _, _, x12, rfl, rfl, ⟨(fun _ => hbe), H.d4, H.d5, (fun _ => rfl), H.d8, (fun h => by cases h), H.d10, H.d11, (fun h => by cases h), H.kc, H.h0, H.h1, H.h2, H.h3, H.h4, H.h5, (fun _ => rfl), H.h7, H.h8, (fun h => by cases h), H.h10, H.h11, (fun h => by cases h)⟩⟩
    · have ho := hoj
      simp only [List.getElem?_toArray, List.getElem?_cons_succ, List.getElem?_cons_zero, Option.some.injEq] at hoj
      subst hoj
      obtain rfl : b7 = false := hun
      clear hall
      obtain rfl : b8 = false := Bool.eq_false_iff.2 fun h => Bool.false_ne_true (H.d8 h)
      obtain rfl : b9 = false := Bool.eq_false_iff.2 fun h => Bool.false_ne_true (H.d9 h).2
      obtain rfl : b12 = false := Bool.eq_false_iff.2 fun h => Bool.false_ne_true (H.d12 h).2.2.2.2.2.2.2.1
      have hbe := H.be rfl
      have hx_kc := H.kc rfl
      refine wpOp_step ho (fun K' hK => ?_)
      have HK := Lib.hid hK
      clear hK ho
      go_simp
      exact HK.out _ _ ⟨_, _, _, _, _, _, _, _, _, _, _, _, _, _, _, _, _, _, _, _, _, _, _, _, _, x12, rfl, rfl, ⟨(fun _ => hbe), H.d4, H.d5, H.d6, (fun h => by cases h), H.d9, H.d10, H.d11, (fun h => by cases h), H.kc, H.h0, H.h1, H.h2, H.h3, H.h4, H.h5, H.h6, (fun _ => rfl), H.h8, (fun h => by cases h), H.h10, H.h11, (fun h => by cases h)⟩⟩
    · have ho := hoj
      simp only [List.getElem?_toArray, List.getElem?_cons_succ, List.getElem?_cons_zero, Option.some.injEq] at hoj
      subst hoj
      obtain rfl : b8 = false := hun
      obtain rfl : b7 = true := hall ⟨7, .data⟩ (by simp) (by kernel_rfl)
      clear hall
      obtain rfl : b9 = false := Bool.eq_false_iff.2 fun h => Bool.false_ne_true (H.d9 h).2
      obtain rfl : b12 = false := Bool.eq_false_iff.2 fun h => Bool.false_ne_true (H.d12 h).2.2.2.2.2.2.2.2.1
      have hbe := H.be rfl
      have hx_kc := H.kc rfl
      obtain rfl := H.h7 rfl
      have c := (hbe.cell (p := ⟨W0.heap.size, 1, none⟩) hbX).trans fc1
      refine wpOp_step ho (fun K' hK => ?_)
      have HK := Lib.hid hK
      clear hK ho
      go_simp
      exact HK.out _ _ ⟨_, _, _, _, _, _, _, _, _, _, _, _, _, _, _, _, _, _, _, _, _, _, _, _, _, x12, rfl, rfl, ⟨(fun _ => hbe), H.d4, H.d5, H.d6, (fun _ => rfl), (fun h => by cases h), H.d10, H.d11, (fun h => by cases h), H.kc, H.h0, H.h1, H.h2, H.h3, H.h4, H.h5, H.h6, H.h7, (fun _ => rfl), (fun h => by cases h), H.h10, H.h11, (fun h => by cases h)⟩⟩
    · have ho := hoj
      simp only [List.getElem?_toArray, List.getElem?_cons_succ, List.getElem?_cons_zero, Option.some.injEq] at hoj
      subst hoj
      obtain rfl : b9 = false := hun
      obtain rfl : b6 = true := hall ⟨6, .data⟩ (by simp) (by kernel_rfl)
      obtain rfl : b8 = true := hall ⟨8, .data⟩ (by simp) (by kernel_rfl)
      obtain rfl : b5 = true := (H.d6 rfl)
      obtain rfl : b7 = true := (H.d8 rfl)
      obtain rfl : b4 = true := (H.d5 rfl)
      obtain rfl : b2 = true := (H.d4 rfl).1
      obtain rfl : b3 = true := (H.d4 rfl).2
      clear hall
      obtain rfl : b12 = false := Bool.eq_false_iff.2 fun h => Bool.false_ne_true (H.d12 h).2.2.2.2.2.2.2.2.2.1
      have hbe := H.be rfl
      have hx_kc := H.kc rfl
      obtain rfl := H.h2 rfl
      obtain rfl := H.h3 rfl
      obtain rfl := H.h4 rfl
      obtain rfl := H.h5 rfl
      obtain rfl := H.h6 rfl
      obtain rfl := H.h7 rfl
      obtain rfl := H.h8 rfl
      have hsz := hbe.size
      have RW := Lib.hid (RB.out.below hbe)
      have BW := Lib.hid (BF.out.trans (hbe.mono hFX))
      have KW := Lib.hid ((hbe.block _ hkX).trans KB.out)
      have OW := Lib.hid (RW.out.oks (PC.mk qo qz qa qc) (by rw [HCS.out]; simp)).own
      have OW2 := Lib.hid (show w.ownsRow (K + 1) 5 1 (.slice qa qm qc) qm (qz.map (.int .u8)) from by have := OW.out; simp only [PC.val, HQM.out] at this; exact this)
      have DW := Lib.hid (HDR.out.below (BB.out.trans (hbe.mono hKX)))
      refine wpOp_step ho (fun K' hK => ?_)
      have HK := Lib.hid hK
      clear hK ho
      refine step_app w rfl (.tmp 29) (.tmp 31) _ rfl (K + 1) 5 i0 Try.underlying31 HI.out HZ.out HZ1.out HZ2.out (.slice qa qm qc) qm (qz.map (.int .u8)) rfl OW2.out K Ad m cd ds rfl DW.out HM.out hdn hs (by omega) ?_
      intro v' w' o2 g2 hd2
      have CN := Lib.hid ((g2.cell_far ⟨K, 0, none⟩ (by have := lt_of_block KW.out; exact this) (by intro e; have := own_lt OW2.out K e.symm; omega)).trans hx_kc)
      have PN := Lib.hid (by have t := MoreAt.mk' (q := PC.mk qo qz qa qc) HK1.out (by have := RW.out; rw [HCS.out] at this; exact this) BW.out HDB.out (by rw [HQM.out, HM.out]; exact o2) (by have t := g2; simp only [PC.val, HQM.out]; exact t) (by simp only [PC.val, HQM.out]; exact hd2); rw [HQL.out] at t; exact t)
      clear o2 g2 hd2
      exact HK.out _ _ ⟨_, _, _, _, _, _, _, _, _, _, _, _, _, _, _, _, _, _, _, _, _, _, _, _, _, x12, rfl, rfl, ⟨(fun h => by cases h), H.d4, H.d5, H.d6, H.d8, (fun _ => ⟨rfl, rfl⟩), H.d10, H.d11, (fun h => by cases h), (fun _ => CN.out), H.h0, H.h1, H.h2, H.h3, H.h4, H.h5, H.h6, H.h7, H.h8, (fun _ _ => PN.out), H.h10, H.h11, (fun h => by cases h)⟩⟩
    · have ho := hoj
      simp only [List.getElem?_toArray, List.getElem?_cons_succ, List.getElem?_cons_zero, Option.some.injEq] at hoj
      subst hoj
      obtain rfl : b10 = false := hun
      obtain rfl : b0 = true := hall ⟨0, .data⟩ (by simp) (by kernel_rfl)
      obtain rfl : b1 = true := hall ⟨1, .data⟩ (by simp) (by kernel_rfl)
      clear hall
      obtain rfl : b11 = false := Bool.eq_false_iff.2 fun h => Bool.false_ne_true (H.d11 h)
      obtain rfl : b12 = false := Bool.eq_false_iff.2 fun h => Bool.false_ne_true (H.d12 h).2.2.2.2.2.2.2.2.2.2.1
      have hx_kc := H.kc rfl
      obtain rfl := H.h0 rfl
      obtain rfl := H.h1 rfl
      refine wpOp_step ho (fun K' hK => ?_)
      have HK := Lib.hid hK
      clear hK ho
      go_simp
      exact HK.out _ _ ⟨_, _, _, _, _, _, _, _, _, _, _, _, _, _, _, _, _, _, _, _, _, _, _, _, _, x12, rfl, rfl, ⟨H.be, H.d4, H.d5, H.d6, H.d8, H.d9, (fun _ => ⟨rfl, rfl⟩), (fun h => by cases h), (fun h => by cases h), H.kc, H.h0, H.h1, H.h2, H.h3, H.h4, H.h5, H.h6, H.h7, H.h8, H.h9, (fun _ => rfl), H.h11, (fun h => by cases h)⟩⟩
    · have ho := hoj
      simp only [List.getElem?_toArray, List.getElem?_cons_succ, List.getElem?_cons_zero, Option.some.injEq] at hoj
      subst hoj
      obtain rfl : b11 = false := hun
      obtain rfl : b10 = true := hall ⟨10, .data⟩ (by simp) (by kernel_rfl)
      obtain rfl : b0 = true := (H.d10 rfl).1
      obtain rfl : b1 = true := (H.d10 rfl).2
      clear hall
      obtain rfl : b12 = false := Bool.eq_false_iff.2 fun h => Bool.false_ne_true (H.d12 h).2.2.2.2.2.2.2.2.2.2.2
      have hx_kc := H.kc rfl
      obtain rfl := H.h0 rfl
      obtain rfl := H.h1 rfl
      obtain rfl := H.h10 rfl
      refine wpOp_step ho (fun K' hK => ?_)
      have HK := Lib.hid hK
      clear hK ho
      go_simp
      exact HK.out _ _ ⟨_, _, _, _, _, _, _, _, _, _, _, _, _, _, _, _, _, _, _, _, _, _, _, _, _, x12, rfl, rfl, ⟨H.be, H.d4, H.d5, H.d6, H.d8, H.d9, H.d10, (fun _ => rfl), (fun h => by cases h), H.kc, H.h0, H.h1, H.h2, H.h3, H.h4, H.h5, H.h6, H.h7, H.h8, H.h9, H.h10, (fun _ => rfl), (fun h => by cases h)⟩⟩
    · have ho := hoj
      simp only [List.getElem?_toArray, List.getElem?_cons_succ, List.getElem?_cons_zero, Option.some.injEq] at hoj
      subst hoj
      obtain rfl : b12 = false := hun
      obtain rfl : b0 = true := hall ⟨0, .phase⟩ (by simp) (by kernel_rfl)
      obtain rfl : b1 = true := hall ⟨1, .phase⟩ (by simp) (by kernel_rfl)
      obtain rfl : b2 = true := hall ⟨2, .phase⟩ (by simp) (by kernel_rfl)
      obtain rfl : b3 = true := hall ⟨3, .phase⟩ (by simp) (by kernel_rfl)
      obtain rfl : b4 = true := hall ⟨4, .phase⟩ (by simp) (by kernel_rfl)
      obtain rfl : b5 = true := hall ⟨5, .phase⟩ (by simp) (by kernel_rfl)
      obtain rfl : b6 = true := hall ⟨6, .phase⟩ (by simp) (by kernel_rfl)
      obtain rfl : b7 = true := hall ⟨7, .phase⟩ (by simp) (by kernel_rfl)
      obtain rfl : b8 = true := hall ⟨8, .phase⟩ (by simp) (by kernel_rfl)
      obtain rfl : b9 = true := hall ⟨9, .data⟩ (by simp) (by kernel_rfl)
      obtain rfl : b11 = true := hall ⟨11, .data⟩ (by simp) (by kernel_rfl)
      obtain rfl : b10 = true := (H.d11 rfl)
      clear hall
      have hx_kc := H.kc rfl
      obtain rfl := H.h0 rfl
      obtain rfl := H.h1 rfl
      obtain rfl := H.h2 rfl
      obtain rfl := H.h3 rfl
      obtain rfl := H.h4 rfl
      obtain rfl := H.h5 rfl
      obtain rfl := H.h6 rfl
      obtain rfl := H.h7 rfl
      obtain rfl := H.h8 rfl
      have P9 := H.h9 rfl rfl
      obtain rfl := H.h10 rfl
      obtain rfl := H.h11 rfl
      have PP := Lib.hid P9.fin
      obtain ⟨lz, kz, kf⟩ := P9.ex
      obtain ⟨Ax, nx, cx, rfl⟩ := P9.slice
      clear P9
      refine wpOp_step ho (fun K' hK => ?_)
      have HK := Lib.hid hK
      clear hK ho
      go_simp
      exact HK.out _ _ ⟨_, _, _, _, _, _, _, _, _, _, _, _, _, _, _, _, _, _, _, _, _, _, _, _, _, x12, rfl, rfl, ⟨(fun h => by cases h), H.d4, H.d5, H.d6, H.d8, H.d9, H.d10, H.d11, (fun _ => ⟨rfl, rfl, rfl, rfl, rfl, rfl, rfl, rfl, rfl, rfl, rfl, rfl⟩), (fun h => by cases h), H.h0, H.h1, H.h2, H.h3, H.h4, H.h5, H.h6, H.h7, H.h8, (fun _ h => by cases h), H.h10, H.h11, (fun _ => PP.out)⟩⟩
    · have ho := hoj
      simp at ho
  case hfin =>
    rintro listed a w ⟨b0, b1, b2, b3, b4, b5, b6, b7, b8, b9, b10, b11, b12, x0, x1, x2, x3, x4, x5, x6, x7, x8, x9, x10, x11, x12, rfl, rfl, H⟩ hr
    have hb : b12 = true := by
      clear H
      revert b0 b1 b2 b3 b4 b5 b6 b7 b8 b9 b10 b11 b12
      decide +kernel
    subst hb
    clear hr
    have PE := Lib.hid (H.h12 rfl)
    go_wp2
    exact bodyPost_ret (v := .tuple #[]) (by simp [results, Try.results37, go_sem]) rfl (by have t := PE.out.ret (off := off) (ds := ds) (by rw [← HCS.out]; exact HA.out); rw [← HCS.out] at t; exact t)
end
end Go.Proofs.Ytippenbfoaohoaa
