/- VarSizes' walk. -/
import Derived.Test.YtpickcmpnncgcaaDoorVarText
import Derived.Test.YtpickcmpnncgcaaDoorOrd
namespace Go.Proofs.YtpickcmpnncgcaaDoor
set_option linter.unusedVariables false
open Go.RowKit P

/-- a slice of the call's own, that reads as the bytes zs -/
def BytesPost (zs : List Int) (w : World) (e : Ending) (w' : World) : Prop :=
  ∃ g cap, e = .returned (.tuple #[.slice (some ⟨g, 0, none⟩) zs.length cap, .int .i64 0]) ∧ Below w.heap.size w w' ∧ BRow w' w'.heap.size (some ⟨g, 0, none⟩) zs

theorem bytesRow_brow (w : World) (zs : List Int) (hb : Byt zs) (cap : Nat) (e : TypeId) (fr : Nat × Nat) :
    BRow (w.drew.alloc (.cells (bytesRow (strOfNums zs) cap) e fr)) (w.heap.size + 1) (some ⟨w.heap.size, 0, none⟩) zs :=
  ⟨hb, fun _ => ⟨_, 0, rfl, by omega, fun j hj => by
    have h1 := World.cell?_alloc_mark w.drew (bytesRow (strOfNums zs) cap) e fr (0 + j)
    refine (show _ = _ from h1).trans ?_
    have hs : 0 + j < (strOfNums zs).data.size := by
      have := strOfNums_size zs
      show 0 + j < (strOfNums zs).size
      omega
    rw [bytesRow_at (strOfNums zs) cap (0 + j) hs]
    have := str_get hb (0 + j) hs
    refine (congrArg some (congrArg (Value.int .u8) (this : _ = zs.getD (0 + j) 0))).trans ?_
    rw [Nat.zero_add]⟩⟩

theorem varBytes_in (n : Int) (h0 : 0 ≤ n) (h1 : n ≤ 4611686018427387903) (w : World) :
    Calls Tryd.prog 9 #[.int .i64 n] w (BytesPost (enc n) w) := by
  have hl : (strOfNums (enc n)).size = (enc n).length := strOfNums_size _
  have hbs := fun w => run_bytes_of_string (P := Tryd.prog) w 9 25 5 (strOfNums (enc n)) Tryd.underlying9 Tryd.underlying25 Tryd.underlying5
  have HB := Lib.hid (enc_byt n h0 h1)
  go_enter Tryd.func9, Tryd.ntmps9
  go_wp2_with (first | (go_at_call 8; refine (refSize_in _ h0 h1 _).mono ?_; rintro e w' ⟨rfl, rfl⟩) | (go_at_call 16; refine (varText_in _ h0 h1 _).mono ?_; rintro e w1 ⟨rfl, hb⟩))
  go_ret2
  exact ⟨w1.heap.size, _, rfl, (hb.trans ((Below.refl _ _).alloc hb.size _).drew), (bytesRow_brow w1 (enc n) HB.out _ _ _).more (by simp)⟩

theorem varBytes_out (n : Int) (h : n < 0 ∨ 4611686018427387903 < n) (w : World) :
    Calls Tryd.prog 9 #[.int .i64 n] w fun e w' => e = .returned (.tuple #[.slice none 0 0, .int .i64 6]) ∧ w = w' := by
  go_enter Tryd.func9, Tryd.ntmps9
  go_wp2_with (go_at_call 8; refine (refSize_out _ h _).mono ?_; rintro e w' ⟨rfl, rfl⟩)
  go_ret2
  exact ⟨rfl, rfl⟩

theorem sameBytes_eq (w : World) (B B' n c n' c' : Nat) (A A' : Option Addr) (zs : List Int) (h : BRow w B A zs) (h' : BRow w B' A' zs) (hn : zs.length = n) (hn' : zs.length = n') :
    Calls Tryd.prog 10 #[.slice A n c, .slice A' n' c'] w fun e w' => e = .returned (.bool true) ∧ w = w' := by
  have c1 := run_str (P := Tryd.prog) h hn 25 9 5 c Tryd.underlying25 Tryd.underlying5 Tryd.underlying9
  have c2 := run_str (P := Tryd.prog) h' hn' 25 9 5 c' Tryd.underlying25 Tryd.underlying5 Tryd.underlying9
  clear h h' hn hn'
  go_enter Tryd.func10, Tryd.ntmps10
  go_wp2
  go_ret
  exact ⟨rfl, rfl⟩

theorem varSizes_in (n : Int) (h0 : 0 ≤ n) (h1 : n ≤ 4611686018427387903) (w : World) (ht : Tab w) :
    Calls Tryd.prog 3 #[.int .i64 n] w fun e w' => e = .returned (.bool true) ∧ Below w.heap.size w w' := by
  have HB := Lib.hid (enc_byt n h0 h1)
  have HT := Lib.hid ht
  clear ht
  go_enter Tryd.func3, Tryd.ntmps3
  go_wp2_with (first | (go_at_call 6; refine (size_in _ h0 h1 _).mono ?_; rintro e w' ⟨rfl, rfl⟩))
  refine (encode_in n h0 h1 _ HT.out).mono ?_
  rintro e w1 hp1
  have r1 := Lib.hid (EncPost.row hp1 HB.out)
  have s1 := EncPost.lt hp1
  have b1 := Lib.hid hp1.2.1
  obtain ⟨rfl, _, _⟩ := hp1
  go_wp2_with (first | (go_at_call 8; refine (refSize_in _ h0 h1 _).mono ?_; rintro e w' ⟨rfl, rfl⟩))
  refine (varBytes_in n h0 h1 _).mono ?_
  rintro e w2 ⟨g, cap, rfl, hb2, r2⟩
  have b2 := Lib.hid hb2
  have r2' := Lib.hid r2
  have S := Lib.hid (sameBytes_eq w2 _ _ _ (enc n).length _ cap _ _ (enc n) ((r1.out.more (B' := w1.heap.size) (by omega)).below b2.out) r2 rfl rfl)
  clear hb2 r2
  go_wp2_with (first | (go_at_call 10; refine S.out.mono ?_; rintro e w' ⟨rfl, rfl⟩))
  go_ret
  exact ⟨rfl, b1.out.trans (b2.out.mono (Nat.le_of_lt s1))⟩

theorem varSizes_walk (n : Int) (w : World) (ht : Tab w) :
    Calls Tryd.prog 3 #[.int .i64 n] w fun e w' => e = .returned (.bool true) ∧ Below w.heap.size w w' := by
  by_cases h : 0 ≤ n ∧ n ≤ 4611686018427387903
  · exact varSizes_in n h.1 h.2 w ht
  · have h' : n < 0 ∨ 4611686018427387903 < n := by omega
    have S := Lib.hid (fun w => sameBytes_eq w 0 0 0 0 0 0 none none [] (BRow.nil _ _ _) (BRow.nil _ _ _) rfl rfl)
    clear ht h
    go_enter Tryd.func3, Tryd.ntmps3
    go_wp2_with (first | (go_at_call 6; refine (size_out _ h' _).mono ?_; rintro e w' ⟨rfl, rfl⟩) | (go_at_call 7; refine (encode_out _ h' _).mono ?_; rintro e w' ⟨rfl, rfl⟩) | (go_at_call 8; refine (refSize_out _ h' _).mono ?_; rintro e w' ⟨rfl, rfl⟩) | (go_at_call 9; refine (varBytes_out _ h' _).mono ?_; rintro e w' ⟨rfl, rfl⟩) | (go_at_call 10; refine (S.out _).mono ?_; rintro e w' ⟨rfl, rfl⟩))
    go_ret
    exact ⟨rfl, Below.refl _ _⟩
end Go.Proofs.YtpickcmpnncgcaaDoor
