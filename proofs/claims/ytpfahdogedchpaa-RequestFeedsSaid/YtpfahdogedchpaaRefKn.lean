/- The document's answers on fields: KnownFields. -/
import Derived.Test.YtpfahdogedchpaaGrpZa
import Derived.Test.YtpfahdogedchpaaGrpM
import Derived.Laws.RangeString
import Derived.Laws.Runes
import Derived.RangeFuncRecord
import Derived.RangeFuncOwn
namespace Go.Proofs.Ytpfahdogedchpaa
set_option linter.unusedVariables false
open Go.RowKit P

theorem enc_ascii {c : Int} (h0 : 0 ≤ c) (h1 : c < 128) : Utf8.encode c = strOfNums [c] := by
  have hc : c.toNat < 128 := by omega
  have hv : Utf8.valid c = true := by unfold Utf8.valid; simp; omega
  unfold Utf8.encode
  simp only [hv, hc, if_true]
  rfl
/-- a step of a range over a string, wherever its iterator lies -/
theorem run_next_str {P : Program} {w : World} {b : Nat} {s : ByteArray} {pos : Nat} (hb : w.heap[b]? = some (.stringIter s pos)) (ty : TypeId) (h : pos < s.size) (ha : (s[pos]'h).toNat < 128) :
    (Instr.next (.pointer (some ⟨b, 0, none⟩)) true ty).run P w = .ok (.tuple #[.bool true, .int .i64 pos, .int .i32 (s[pos]'h).toNat]) (w.putObj b (.stringIter s (pos + 1))) := by
  simp only [Instr.next, getObj, setObj, Sem.run_bind, Sem.run, hb, Result.andThen, h, if_true, decode_ascii s pos h ha]
  simp [goInt, Sem.run, hb, World.putObj]
theorem run_next_strEnd {P : Program} {w : World} {b : Nat} {s : ByteArray} {pos : Nat} (hb : w.heap[b]? = some (.stringIter s pos)) (ty : TypeId) (h : ¬ pos < s.size) :
    (Instr.next (.pointer (some ⟨b, 0, none⟩)) true ty).run P w = .ok (.tuple #[.bool false]) w := by
  simp [Instr.next, getObj, Sem.run, hb, h]
theorem bk2_blk {w : World} {b : Nat} {a0 a1 : Value} {T : TypeId} (h : w.heap[b]? = some (.cells #[a0, a1] T (0, 0))) (v0 v1 : Value) :
    ((w.setCell ⟨b, 0, none⟩ v0).setCell ⟨b, 1, none⟩ v1).heap[b]? = some (.cells #[v0, v1] T (0, 0)) ∧ w.grownBy ((w.setCell ⟨b, 0, none⟩ v0).setCell ⟨b, 1, none⟩ v1) (some b) := by
  have h0 : (w.setCell ⟨b, 0, none⟩ v0).heap[b]? = some (.cells #[v0, a1] T (0, 0)) := by simpa using bk_set h 0 v0
  exact ⟨by simpa using bk_set h0 1 v1, gr_trans (gr_set _ b 0 v0) (gr_set _ b 1 v1)⟩
set_option maxRecDepth 100000 in
set_option maxHeartbeats 4000000 in
theorem refKn_any (W : World) : Calls Try.prog 59 #[] W fun e w' => Below W.heap.size W w' ∧ ∃ v, e = .returned v ∧ OwnE FdE w' W.heap.size 66 v knL := by
  obtain ⟨i0, hi0, hz0, hz1, hz2⟩ := info_partsE infoFd
  have HI := Lib.hid hi0
  have HZ := Lib.hid hz0
  have HZ1 := Lib.hid hz1
  have HZ2 := Lib.hid hz2
  clear hi0 hz0 hz1 hz2
  go_enter Try.func59, Try.ntmps59
  go_wp2_with fail
  go_loopg [1, 3] 103 (fun gq ov vv wr => ∃ (i : Nat) (b : Bool) (A : Option Addr) (n c : Nat), ov = .slice A n c ∧ vv = .bool b ∧ i + gq = 103 ∧ Hid (n = (stK i).1.length) ∧ Hid (b = (stK i).2.2) ∧
    Hid (wr.heap[W.heap.size]? = some (.cells #[.string (strOfNums (stK i).2.1.name), .string (strOfNums (stK i).2.1.val)] 66 (0, 0))) ∧ Hid (wr.heap[W.heap.size + 1]? = some (.stringIter (strOfNums knT) i)) ∧
    Hid (OwnE FdE wr (W.heap.size + 2) 66 (.slice A n c) (stK i).1) ∧ Hid (Below W.heap.size W wr))
  case atStart =>
    refine ⟨0, false, none, 0, 0, rfl, rfl, rfl, Lib.hid rfl, Lib.hid rfl, Lib.hid ?_, Lib.hid ?_, Lib.hid (OwnE.nil _ _ _), Lib.hid ?_⟩
    · exact (Below.heap_alloc _ _ _ (by simp)).trans (heap_alloc_new W _)
    · have e := World.iter_heap (W.alloc (.cells #[.string ⟨#[]⟩, .string ⟨#[]⟩] 66)) (strOfNums knT) 0
      rw [World.size_alloc] at e
      exact e
    · exact ((Below.refl _ _).alloc (Nat.le_refl _) _).alloc (by simp) _
  case round =>
    obtain ⟨i, vb, A, n, c, rfl, rfl, hig, HNL, HVB, FB, IB, OB, BK⟩ := hrel
    by_cases hlt : i < 103
    · have hlk : i < knT.length := by rw [knT_len]; exact hlt
      have HST := Lib.hid (stK_succ hlk)
      obtain ⟨hc0, hc1⟩ := knT_in i hlk
      have hss : i < (strOfNums knT).size := by rw [strOfNums_size]; exact hlk
      have hget := str_get (byt_all (zs := knT) (by decide)) i hss
      have hnx0 := fun ty => run_next_str (P := Try.prog) IB.out ty hss (by have := hget; omega)
      rw [hget] at hnx0
      obtain ⟨ch, hch⟩ : ∃ ch, knT.getD i 0 = ch := ⟨_, rfl⟩
      rw [hch] at HST hc0 hc1 hnx0
      obtain ⟨S, hS⟩ : ∃ S, strOfNums knT = S := ⟨_, rfl⟩
      have HSN := Lib.hid hS
      rw [hS] at IB hnx0
      have HEN := Lib.hid (enc_ascii (by omega) hc1)
      have HLN := Lib.hid (stK_len i)
      obtain ⟨⟨out, f, wb⟩, hst⟩ : ∃ s, stK i = s := ⟨_, rfl⟩
      rw [hst] at HST HNL HVB FB OB HLN
      simp only at HNL HVB FB OB HLN
      obtain rfl : vb = wb := HVB.out
      have hno := HNL.out
      have gP := grownBy_putObj' wr (W.heap.size + 1) (.stringIter S (i + 1))
      have IV := Lib.hid (World.putObj_heap_same (w := wr) (o := .stringIter S (i + 1)) (lt_of_block IB.out))
      have FV := Lib.hid ((gP.block _ (lt_of_block FB.out) (by simp)).trans FB.out)
      have OV := Lib.hid (OwnE.kept OB.out gP (fun e => by have := (OwnE.lt OB.out _ e).1; omega))
      have BV := Lib.hid (BK.out.grown gP BK.out.size (fun k e => by cases e; omega))
      obtain ⟨l1, l2, l3⟩ := HLN.out
      clear hlk hss hget hch hS hst HVB gP
      go_upto_region 5 with fail
      obtain ⟨V, hV⟩ : ∃ V, wr.putObj (W.heap.size + 1) (.stringIter S (i + 1)) = V := ⟨_, rfl⟩
      rw [hV] at IV FV OV BV ⊢
      clear hV hnx0 IB FB OB
      have z1 : (strOfNums f.name).size = f.name.length := strOfNums_size _
      have z2 : (strOfNums f.val).size = f.val.length := strOfNums_size _
      have zc : (strOfNums [ch]).size = 1 := by rw [strOfNums_size]; rfl
      obtain ⟨S1, hS1⟩ : ∃ S, strOfNums f.name = S := ⟨_, rfl⟩
      obtain ⟨S2, hS2⟩ : ∃ S, strOfNums f.val = S := ⟨_, rfl⟩
      obtain ⟨C, hC⟩ : ∃ S, strOfNums [ch] = S := ⟨_, rfl⟩
      have HS1 := Lib.hid hS1
      have HS2 := Lib.hid hS2
      have HCC := Lib.hid hC
      have HFX := Lib.hid (show FdE.f f = [.string S1, .string S2] by rw [← hS1, ← hS2]; rfl)
      have hen := HEN.out
      rw [hC] at hen zc
      rw [hS1] at FV z1
      rw [hS2] at FV z2
      have z1' : S1.size ≤ 103 := by omega
      have z2' : S2.size ≤ 103 := by omega
      clear z1 z2 l2 l3 hS1 hS2 hC HEN HLN
      obtain ⟨q0, q1⟩ := bk2F FV.out
      have qf := fun j => bk_frz FV.out j
      by_cases h1 : ch = 32
      · subst h1
        have HSX := Lib.hid (show stK (i + 1) = (out ++ [f], fd0, false) by rw [HST.out]; rfl)
        have BA := Lib.hid (BV.out.alloc BV.out.size (.cells #[.string S1, .string S2] 66))
        have hsz1 := lt_of_block IV.out
        have R1 := Lib.hid ((RowE.one (E := FdE) V f #[.string S1, .string S2] 66 V.heap.size rfl HFX.out.symm).more (show V.heap.size + 1 ≤ (V.alloc (.cells #[.string S1, .string S2] 66)).heap.size by simp))
        have OA := Lib.hid (OwnE.later OV.out ((Below.refl V.heap.size V).alloc (Nat.le_refl _) (.cells #[.string S1, .string S2] 66)))
        have FA := Lib.hid ((Below.heap_alloc V (.cells #[.string S1, .string S2] 66) W.heap.size (lt_of_block FV.out)).trans FV.out)
        have IA := Lib.hid ((Below.heap_alloc V (.cells #[.string S1, .string S2] 66) (W.heap.size + 1) (lt_of_block IV.out)).trans IV.out)
        have hbase : W.heap.size + 2 ≤ (V.alloc (.cells #[.string S1, .string S2] 66)).heap.size := by rw [World.size_alloc]; omega
        have hno2 : out.length ≤ 103 := by omega
        clear hen zc z1' z2' l1 hno
        go_wp2_with (at_builtin
                     go_loud (refine wpList_appE _ rfl (.tmp 20) (.tmp 22) _ rfl (W.heap.size + 2) 66 i0 (.agg #[.string ⟨#[]⟩, .string ⟨#[]⟩]) 32 Try.underlying23 HI.out HZ.out HZ1.out HZ2.out rfl (by decide) (.slice A n c) out rfl OA.out _ (some ⟨V.heap.size, 0, none⟩) 1 1 [f] rfl R1.out rfl (by omega) hbase ?_)
                     intro v1 u1 own1 g1
                     have O1 := Lib.hid own1
                     have hne := fun k e => (OwnE.lt OA.out k e).1
                     have F1 := Lib.hid ((g1.block _ (lt_of_block FA.out) (fun e => by have := hne _ e.symm; omega)).trans FA.out)
                     have I1 := Lib.hid ((g1.block _ (lt_of_block IA.out) (fun e => by have := hne _ e.symm; omega)).trans IA.out)
                     have B1 := Lib.hid (BA.out.grown g1 BA.out.size (fun k e => by have := hne _ e; omega))
                     obtain ⟨A3, c3, hv3, _, _, _⟩ := own1.slice
                     subst hv3
                     obtain ⟨p0, p1⟩ := bk2F F1.out
                     have pf := fun j => bk_frz F1.out j
                     clear own1 g1 hne q0 q1 qf)
        obtain ⟨F2, g2⟩ := bk2_blk F1.out (.string ⟨#[]⟩) (.string ⟨#[]⟩)
        have F2' := Lib.hid F2
        have I2 := Lib.hid ((g2.block _ (lt_of_block I1.out) (by simp)).trans I1.out)
        have O2 := Lib.hid (OwnE.kept O1.out g2 (fun e => by have := (OwnE.lt O1.out _ e).1; omega))
        have B2 := Lib.hid (B1.out.grown g2 B1.out.size (fun k e => by cases e; omega))
        clear F2 g2
        go_roundg (gk - 1)
        case measure => omega
        case rel => exact ⟨i + 1, false, A3, (out ++ [f]).length, c3, by first | rfl | simp, rfl, by omega, Lib.hid (by rw [HSX.out]), Lib.hid (by rw [HSX.out]), Lib.hid (by rw [HSX.out]; exact F2'.out), by rw [HSN.out]; exact I2, Lib.hid (by rw [HSX.out]; exact O2.out), B2⟩
      · by_cases h2 : ch = 61
        · subst h2
          have HSX := Lib.hid (show stK (i + 1) = (out, f, true) by rw [HST.out]; rfl)
          go_wp2_with fail
          go_roundg (gk - 1)
          case measure => omega
          case rel => exact ⟨i + 1, true, A, n, c, rfl, rfl, by omega, Lib.hid (by rw [HSX.out]; exact HNL.out), Lib.hid (by rw [HSX.out]), Lib.hid (by rw [HSX.out, HS1.out, HS2.out]; exact FV.out), by rw [HSN.out]; exact IV, Lib.hid (by rw [HSX.out]; exact OV.out), BV⟩
        · have e1 : (ch == 32) = false := by simp [h1]
          have e2 : (ch == 61) = false := by simp [h2]
          cases vb with
          | true =>
            have FN := Lib.hid (show (V.setCell ⟨W.heap.size, 1, none⟩ (.string (S2 ++ C))).heap[W.heap.size]? = some (.cells #[.string S1, .string (S2 ++ C)] 66 (0, 0)) by simpa using bk_set FV.out 1 (.string (S2 ++ C)))
            have gN := gr_set V W.heap.size 1 (.string (S2 ++ C))
            have IN := Lib.hid ((gN.block _ (lt_of_block IV.out) (by simp)).trans IV.out)
            have ON := Lib.hid (OwnE.kept OV.out gN (fun e => by have := (OwnE.lt OV.out _ e).1; omega))
            have BN := Lib.hid (BV.out.grown gN BV.out.size (fun k e => by cases e; omega))
            have HSX := Lib.hid (show stK (i + 1) = (out, (⟨f.name, f.val ++ [ch]⟩ : Fld), true) by rw [HST.out]; unfold stepK; rw [if_neg h1, if_neg h2]; rfl)
            clear gN
            go_wp2_with fail
            go_roundg (gk - 1)
            case measure => omega
            case rel => exact ⟨i + 1, true, A, n, c, rfl, rfl, by omega, Lib.hid (by rw [HSX.out]; exact HNL.out), Lib.hid (by rw [HSX.out]), Lib.hid (by rw [HSX.out]; simp only [← str_cat]; rw [HS1.out, HS2.out, HCC.out]; exact FN.out), by rw [HSN.out]; exact IN, Lib.hid (by rw [HSX.out]; exact ON.out), BN⟩
          | false =>
            have FN := Lib.hid (show (V.setCell ⟨W.heap.size, 0, none⟩ (.string (S1 ++ C))).heap[W.heap.size]? = some (.cells #[.string (S1 ++ C), .string S2] 66 (0, 0)) by simpa using bk_set FV.out 0 (.string (S1 ++ C)))
            have gN := gr_set V W.heap.size 0 (.string (S1 ++ C))
            have IN := Lib.hid ((gN.block _ (lt_of_block IV.out) (by simp)).trans IV.out)
            have ON := Lib.hid (OwnE.kept OV.out gN (fun e => by have := (OwnE.lt OV.out _ e).1; omega))
            have BN := Lib.hid (BV.out.grown gN BV.out.size (fun k e => by cases e; omega))
            have HSX := Lib.hid (show stK (i + 1) = (out, (⟨f.name ++ [ch], f.val⟩ : Fld), false) by rw [HST.out]; unfold stepK; rw [if_neg h1, if_neg h2]; rfl)
            clear gN
            go_wp2_with fail
            go_roundg (gk - 1)
            case measure => omega
            case rel => exact ⟨i + 1, false, A, n, c, rfl, rfl, by omega, Lib.hid (by rw [HSX.out]; exact HNL.out), Lib.hid (by rw [HSX.out]), Lib.hid (by rw [HSX.out]; simp only [← str_cat]; rw [HS1.out, HS2.out, HCC.out]; exact FN.out), by rw [HSN.out]; exact IN, Lib.hid (by rw [HSX.out]; exact ON.out), BN⟩
    · obtain rfl : i = 103 := by omega
      have hss : ¬ 103 < (strOfNums knT).size := by rw [strOfNums_size, knT_len]; omega
      have hnx0 := fun ty => run_next_strEnd (P := Try.prog) IB.out ty hss
      have OE := Lib.hid (show OwnE FdE wr W.heap.size 66 (.slice A n c) knL from OwnE.low OB.out (by omega))
      clear hss
      go_wp2_with fail
      go_ret
      exact ⟨BK.out, _, rfl, OE.out⟩
end Go.Proofs.Ytpfahdogedchpaa
