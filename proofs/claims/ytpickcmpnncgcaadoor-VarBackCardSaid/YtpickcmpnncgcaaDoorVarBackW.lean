/- VarBack's walk. -/
import Derived.Test.YtpickcmpnncgcaaDoorEnc
import Derived.Test.YtpickcmpnncgcaaDoorDec
import Derived.Test.YtpickcmpnncgcaaDoorApp
import Derived.Test.YtpickcmpnncgcaaDoorPick
namespace Go.Proofs.YtpickcmpnncgcaaDoor
set_option linter.unusedVariables false
open Go.RowKit P

theorem enc_head (n : Int) (h0 : 0 ≤ n) (h1 : n ≤ 4611686018427387903) : ∃ z t, enc n = z :: t ∧ kOf z = sz n ∧ beFrom (z % 64) t = n := by
  unfold enc sz
  split
  · exact ⟨n, [], rfl, by unfold kOf; rw [if_pos (by omega)], by simp [beFrom]; omega⟩
  split
  · exact ⟨_, _, rfl, by unfold kOf; rw [if_neg (by omega), if_pos (by omega)], by simp only [beFrom, List.foldl_cons, List.foldl_nil]; omega⟩
  split
  · exact ⟨_, _, rfl, by unfold kOf; rw [if_neg (by omega), if_neg (by omega), if_pos (by omega)], by simp only [beFrom, List.foldl_cons, List.foldl_nil]; omega⟩
  · exact ⟨_, _, rfl, by unfold kOf; rw [if_neg (by omega), if_neg (by omega), if_neg (by omega)], by simp only [beFrom, List.foldl_cons, List.foldl_nil]; omega⟩

theorem enc_dec (n : Int) (h0 : 0 ≤ n) (h1 : n ≤ 4611686018427387903) (more : List Int) : decOk (enc n ++ more) ∧ decV (enc n ++ more) = n ∧ kOf ((enc n ++ more).getD 0 0) = sz n := by
  have hl := enc_len n
  obtain ⟨z, t, e, hk, hv⟩ := enc_head n h0 h1
  rw [e] at hl ⊢
  have hz : ((z :: t) ++ more).getD 0 0 = z := rfl
  have hb := sz_bd n
  refine ⟨⟨by simp, ?_⟩, ?_, by rw [hz]; exact hk⟩
  · rw [hz, hk, List.length_append]; omega
  · unfold decV
    rw [hz, hk]
    have e2 : (((z :: t) ++ more).drop 1).take ((sz n).toNat - 1) = t := by
      show (t ++ more).take ((sz n).toNat - 1) = t
      rw [List.take_append_of_le_length (by simp at hl; omega), List.take_of_length_le (by simp at hl; omega)]
    rw [e2, hv]

theorem enc_cut (n : Int) (h0 : 0 ≤ n) (h1 : n ≤ 4611686018427387903) (j : Nat) (hj : j < (enc n).length) : ¬ decOk ((enc n).take j) := by
  have hl := enc_len n
  obtain ⟨z, t, e, hk, hv⟩ := enc_head n h0 h1
  rintro ⟨a, b⟩
  rw [List.length_take] at a b
  have hz : ((enc n).take j).getD 0 0 = z := by
    rw [getD_take (by omega), e]; rfl
  rw [hz, hk] at b
  omega

theorem infoB : (Tryd.prog.info? 5).map (fun i => (i.zero, i.size, i.bytes)) = some (some (.int .u8 0), 1, 1) := by kernel_rfl

theorem varBack_core (n m at_ : Int) (X : List Int) (A : Option Addr) (len cap : Nat) (zs : List Int) (m0 : 0 ≤ m) (m1 : m ≤ 4611686018427387903) (hn : num n = m) (hX : enc m = X) (w : World) (ht : Tab w)
    (hr : BRow w w.heap.size A zs) (hl : zs.length = len) (hlc : len ≤ cap) (hA : A = none → cap = 0) (hreach : cap ≤ 140737488351232) :
    Calls Tryd.prog 4 #[.int .i64 n, .slice A len cap, .int .i64 at_] w fun e w' => e = .returned (.bool true) ∧ Below w.heap.size w w' := by
  obtain ⟨i0, hi0, hz0, hz1, hz2⟩ := info_parts infoB
  have HI := Lib.hid hi0
  have HZ := Lib.hid hz0
  have HZ1 := Lib.hid hz1
  have HZ2 := Lib.hid hz2
  have HN := Lib.hid hn
  have HX := Lib.hid hX
  have HT := Lib.hid ht
  have HR := Lib.hid hr
  have HL := Lib.hid hl
  have HA := Lib.hid hA
  have HB : Hid (Byt X) := hX ▸ enc_byt m m0 m1
  have hlX : (X.length : Int) = sz m := hX ▸ enc_len m
  have sb := sz_bd m
  have x1 : 0 < X.length := by omega
  have x8 : X.length ≤ 8 := by omega
  have HE : Hid (∀ w, Tab w → Calls Tryd.prog 7 #[.int .i64 m] w (EncPost X w)) := fun w h => hX ▸ encode_in m m0 m1 w h
  have HD : Hid (decOk (X ++ zs) ∧ decV (X ++ zs) = m ∧ kOf ((X ++ zs).getD 0 0) = X.length) := by
    have := enc_dec m m0 m1 zs
    rw [hX] at this
    exact ⟨this.1, this.2.1, by omega⟩
  have HC : Hid (∀ j, j < X.length → ¬ decOk (X.take j)) := fun j hj => by
    have := enc_cut m m0 m1 j
    rw [hX] at this
    exact this hj
  clear hi0 hz0 hz1 hz2 hn hX ht hr hl hA hlX sb
  go_enter Tryd.func4, Tryd.ntmps4
  go_wp2_with (go_at_call 11; refine (number_any _ _).mono ?_; rintro e w' ⟨rfl, rfl⟩; simp only [HN.out])
  refine (HE.out _ HT.out).mono ?_
  rintro e w1 hp1
  have r1 := Lib.hid (EncPost.row hp1 HB.out)
  have s1 := EncPost.lt hp1
  have b1 := Lib.hid hp1.2.1
  obtain ⟨rfl, _, _⟩ := hp1
  have own0 : (w1.alloc (.cells #[] 5)).ownsRow w1.heap.size 5 1 (.slice (some ⟨w1.heap.size, 0, none⟩) 0 0) 0 [] :=
    ⟨rfl, .inr ⟨w1.heap.size, 0, #[], rfl, Nat.le_refl _, Shape.heap_new w1 _, Nat.le_refl _, by unfold maxLen; omega, rfl, rfl⟩⟩
  have row1 : BRow (w1.alloc (.cells #[] 5)) w1.heap.size (some ⟨w.heap.size, 0, none⟩) X := (r1.out.more (B' := w1.heap.size) (by omega)).below ((Below.refl _ _).alloc (Nat.le_refl _) _)
  have O0 := Lib.hid own0
  have R1 := Lib.hid row1
  clear own0 row1
  go_wp2_with (first
    | (at_builtin
       refine wpList_app _ rfl (.tmp 24) (.tmp 25) _ rfl w1.heap.size 5 i0 Tryd.underlying25 HI.out HZ.out HZ1.out HZ2.out _ 0 [] rfl O0.out w1.heap.size _ X.length X.length X rfl R1.out rfl (fun h => by cases h) (by omega) (by simp) ?_
       intro v2 w2 own2 g2 at2
       simp only [Nat.zero_add, List.nil_append] at own2
       have b2 : Hid (Below w1.heap.size w1 w2) := ((Below.refl _ _).alloc (Nat.le_refl _) _).grown g2 (by simp) (fun k h => by cases h; exact Nat.le_refl _)
       have A2 := Lib.hid at2
       have O2 := Lib.hid own2
       have sz2 : w1.heap.size + 1 ≤ w2.heap.size := by have := g2.size; simpa using this
       clear own2 g2 at2
       have R2 : Hid (BRow w2 w.heap.size A zs) := (HR.out.below b1.out).below (b2.out.mono (by omega)))
    | (at_builtin
       refine wpList_app _ rfl (.tmp 26) (.tmp 27) _ rfl w1.heap.size 5 i0 Tryd.underlying25 HI.out HZ.out HZ1.out HZ2.out v2 X.length _ rfl O2.out w.heap.size A len cap zs rfl R2.out HL.out HA.out (by omega) (by omega) ?_
       intro v3 w3 own3 g3 at3
       have O3 := Lib.hid own3
       have G3 := Lib.hid g3
       clear own3 g3 at3))
  have b3 : Hid (Below w1.heap.size w2 w3) := (Below.refl _ _).grown G3.out (by have := b2.out.size; omega) (fun k hk => (O2.out.lt k hk).1)
  obtain ⟨A3, c3, hv3, l3, m3⟩ := own_slice O3.out
  have O4 := O3.out
  rw [hv3, ← List.map_append] at O4
  have row3 := own_brow O4 (Byt.append HB.out HR.out.1)
  have HDEC : Hid (Calls Tryd.prog 12 #[.slice A3 (X.length + len) c3] w3 fun e w' => e = .returned (.tuple #[.int .i64 m, .int .i64 X.length, .int .i64 0]) ∧ w3 = w') := by
    have := decode_yes A3 (X.length + len) c3 _ (X ++ zs) w3 row3 (by simp [HL.out]) l3 m3 HD.out.1
    rwa [HD.out.2.1, HD.out.2.2] at this
  have rX : Hid (BRow w3 w1.heap.size (some ⟨w.heap.size, 0, none⟩) X) := ((r1.out.more (B' := w1.heap.size) (by omega)).below b2.out).below b3.out
  rw [hv3]
  clear O4 row3 hv3 O3 G3 l3 m3
  refine HDEC.out.mono ?_
  rintro e w' ⟨rfl, rfl⟩
  obtain ⟨j, hj, hjl⟩ : ∃ j : Nat, at_ % (X.length : Int) = j ∧ j < X.length := ⟨(at_ % (X.length : Int)).toNat, by have := Int.emod_nonneg at_ (show (X.length : Int) ≠ 0 by omega); omega, by have := Int.emod_lt_of_pos at_ (show (0 : Int) < X.length by omega); have := Int.emod_nonneg at_ (show (X.length : Int) ≠ 0 by omega); omega⟩
  have HP : Hid (Calls Tryd.prog 13 #[.int .i64 at_, .int .i64 X.length] w3 fun e w' => e = .returned (.int .i64 j) ∧ w3 = w') := by
    have := picked_any at_ X.length (by omega) (by omega) w3
    rwa [hj] at this
  have HS : Hid (∀ A c, j ≤ c → c ≤ maxLen → BRow w3 w1.heap.size A X → Calls Tryd.prog 12 #[.slice A j c] w3 fun e w' => e = .returned (.tuple #[.int .i64 0, .int .i64 0, .int .i64 4]) ∧ w3 = w') := fun A c hc hm h =>
    decode_no A j c _ (X.take j) w3 (h.take j) (by rw [List.length_take]; omega) hc hm (HC.out j hjl)
  clear hj HDEC
  go_wp2_with (first | (go_at_call 13; refine HP.out.mono ?_; rintro e w' ⟨rfl, rfl⟩))
  refine (HS.out (some ⟨w.heap.size, 0, none⟩) X.length (by omega) (by unfold maxLen; omega) rX.out).mono ?_
  rintro e w' ⟨rfl, rfl⟩
  go_wp2
  go_ret
  exact ⟨rfl, b1.out.trans ((b2.out.trans b3.out).mono (by omega))⟩

theorem varBack_walk (n at_ : Int) (A : Option Addr) (len cap : Nat) (z : List Int) (w : World) (ht : Tab w) (h : IsRow .u8 w A len cap z) (hreach : cap * 1 ≤ 140737488351232) :
    Calls Tryd.prog 4 #[.int .i64 n, .slice A len cap, .int .i64 at_] w fun e w' => e = .returned (.bool true) ∧ Below w.heap.size w w' := by
  obtain ⟨hr, hn, hl, hm⟩ := InRow.brow (show InRow w A len cap z from h)
  exact varBack_core n _ at_ _ A len cap (z.take len) (num_bd n).1 (num_bd n).2 rfl rfl w ht hr hn hl (fun e => by subst e; rcases h with ⟨_, _, e, _⟩ | ⟨x, e, _⟩ <;> first | exact e | cases e) (by omega)
end Go.Proofs.YtpickcmpnncgcaaDoor
