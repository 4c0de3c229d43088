/- NumberNear's walk. -/
import Derived.Test.YtadeakdfopdblaaWholeOf
import Derived.Test.YtadeakdfopdblaaPick
import Derived.Test.YtadeakdfopdblaaApp
namespace Go.Proofs.Ytadeakdfopdblaa
set_option linter.unusedVariables false
open Go.RowKit P

theorem infoB : (Try.prog.info? 5).map (fun i => (i.zero, i.size, i.bytes)) = some (some (.int .u8 0), 1, 1) := by kernel_rfl

theorem numberNear_1 (n t : Int) (A : Option Addr) (len cap : Nat) (zs : List Int) (hn : n % 1152921504606846976 = t) (t0 : 0 ≤ t) (t1 : t < 1152921504606846976)
    (hj : (len : Int) % 4 % ((len : Int) + 1) = 0) (kl : 1 ≤ len + 1) (w : World)
    (hr : BRow w w.heap.size A zs) (hl : zs.length = len) (hlc : len ≤ cap) (hA : A = none → cap = 0) (hreach : cap ≤ 140737488351232) :
    Calls Try.prog 6 #[.int .i64 n, .slice A len cap] w fun e w' => e = .returned (.bool true) ∧ Below w.heap.size w w' := by
  obtain ⟨i0, hi0, hz0, hz1, hz2⟩ := info_parts infoB
  have HI := Lib.hid hi0
  have HZ := Lib.hid hz0
  have HZ1 := Lib.hid hz1
  have HZ2 := Lib.hid hz2
  have HN := Lib.hid hn
  have HR := Lib.hid hr
  have HL := Lib.hid hl
  have HA := Lib.hid hA
  have own0 : (w.alloc (.cells #[.int .u8 1] 5)).ownsRow w.heap.size 5 1 (.slice (some ⟨w.heap.size, 0, none⟩) 1 1) 1 [.int .u8 1] :=
    ⟨rfl, .inr ⟨w.heap.size, 1, #[.int .u8 1], rfl, Nat.le_refl _, heap_new w _, Nat.le_refl _, by unfold maxLen; omega, rfl, rfl⟩⟩
  have O0 := Lib.hid own0
  have R1 := Lib.hid (hr.below ((Below.refl _ _).alloc (Nat.le_refl _) (.cells #[.int .u8 1] 5)))
  have HY : Hid (∃ ys, (1 :: zs).take 1 = ys ∧ ys.length = 1) := ⟨_, rfl, by rw [List.length_take, List.length_cons]; omega⟩
  clear hi0 hz0 hz1 hz2 hn hr hl hA own0
  go_enter Try.func6, Try.ntmps6
  go_wp2_with (first
    | (at_builtin
       refine wpList_app _ rfl (.tmp 14) (.tmp 15) _ rfl w.heap.size 5 i0 Try.underlying22 HI.out HZ.out HZ1.out HZ2.out _ 1 [.int .u8 1] rfl O0.out w.heap.size A len cap zs rfl R1.out HL.out HA.out (by omega) (by simp) ?_
       intro v2 w2 own2 g2 at2
       have O2 := Lib.hid own2
       have b2 : Hid (Below w.heap.size w w2) := ((Below.refl _ _).alloc (Nat.le_refl _) _).grown g2 (by simp) (fun k h => by cases h; exact Nat.le_refl _)
       obtain ⟨A2, c2, hv2, l2, m2⟩ := own_slice own2
       subst hv2
       have B2 : Hid (BRow w2 w2.heap.size A2 (1 :: zs)) := own_brow (zs := 1 :: zs) own2 (byt_cons (by omega) HR.out.1)
       clear own2 g2 at2
       have m3 := m2
       unfold maxLen at m3)
    | (go_at_call 13; refine (picked_any _ _ (by omega) (by omega) _).mono ?_; rintro e w' ⟨rfl, rfl⟩; simp only [HN.out]))
  obtain ⟨ys, hys, hyl⟩ := HY.out
  have row := B2.out.take 1
  rw [hys] at row
  have HW := Lib.hid (whole_in t A2 1 c2 _ ys w2 row hyl (by omega) (by omega) (by omega) (by omega) m2)
  have HE := Lib.hid (whole_size t none 0 0 (by omega) (by omega) (by unfold maxLen; omega) w2)
  have yb := be_bd 1 (by omega) ys hyl row.1
  have nr := whole_near t (beFrom 0 ys) 1 (by omega) t0 t1 yb.1 yb.2
  have bd := Lib.hid (beFrom_bd 0 ys row.1 (by omega))
  obtain ⟨b, off, rfl, hb2, hc2⟩ := row.2 (by omega)
  have HC := Lib.hid hc2
  have HB := Lib.hid row.1
  have HYL := Lib.hid hyl
  clear hys row hc2 hyl
  have HYT : Hid (ys.take 1 = ys) := List.take_of_length_le (by rw [HYL.out]; omega)
  rw [show winOf (1 : Nat) = 256 from rfl] at HW nr yb
  obtain ⟨v, hv⟩ : ∃ v, wholeV t 256 (beFrom 0 ys) = v := ⟨_, rfl⟩
  rw [hv] at HW nr
  clear hv
  obtain ⟨n0, n1, n2, n3, n4⟩ := nr
  have n1' : (v % 256 == beFrom 0 ys) = true := by rw [n1]; simp
  clear n1
  go_wp2_with (first | (go_at_call 11; first | (with_reducible (refine HW.out.mono ?_); rintro e w' ⟨rfl, rfl⟩) | (refine HE.out.mono ?_; rintro e w' ⟨rfl, rfl⟩)))
  go_loop [11, 45] (fun acc i => ∃ r : Nat, r ≤ 1 ∧ i = .int .i64 r ∧ acc = .int .i64 (beFrom 0 (ys.take r))) (fun _ i => 1 - (intOf i).toNat)
  case atStart => exact ⟨0, Nat.zero_le _, rfl, rfl⟩
  case round =>
    obtain ⟨r, hr, rfl, rfl⟩ := hrel
    by_cases hlt : r < 1
    · have st := beFrom_step 0 ys r (by rw [HYL.out]; omega)
      have bq := bd.out r (by rw [HYL.out]; omega)
      have hcell := HC.out r (by rw [HYL.out]; omega)
      have hby := HB.out r
      have pb := pow256 r (by omega)
      generalize (256 : Int) ^ r = u at bq pb
      have acc0 : 0 ≤ beFrom 0 (ys.take r) ∧ beFrom 0 (ys.take r) ≤ 281474976710656 := by omega
      generalize ys.getD r 0 = x at st hcell hby
      generalize beFrom 0 (ys.take r) = y at st acc0
      have ST := Lib.hid st
      clear st bq pb
      go_wp2
      go_round
      case rel => exact ⟨r + 1, by omega, by go_num, by rw [ST.out]⟩
      case measure => simp [intOf]; omega
    · obtain rfl : r = 1 := by omega
      rw [HYT.out]
      generalize beFrom 0 ys = y at *
      go_wp2
      all_goals
        go_ret
        exact ⟨ret_bool (by first | rfl | (simp; done) | (simp; omega)), b2.out⟩
theorem numberNear_2 (n t : Int) (A : Option Addr) (len cap : Nat) (zs : List Int) (hn : n % 1152921504606846976 = t) (t0 : 0 ≤ t) (t1 : t < 1152921504606846976)
    (hj : (len : Int) % 4 % ((len : Int) + 1) = 1) (kl : 2 ≤ len + 1) (w : World)
    (hr : BRow w w.heap.size A zs) (hl : zs.length = len) (hlc : len ≤ cap) (hA : A = none → cap = 0) (hreach : cap ≤ 140737488351232) :
    Calls Try.prog 6 #[.int .i64 n, .slice A len cap] w fun e w' => e = .returned (.bool true) ∧ Below w.heap.size w w' := by
  obtain ⟨i0, hi0, hz0, hz1, hz2⟩ := info_parts infoB
  have HI := Lib.hid hi0
  have HZ := Lib.hid hz0
  have HZ1 := Lib.hid hz1
  have HZ2 := Lib.hid hz2
  have HN := Lib.hid hn
  have HR := Lib.hid hr
  have HL := Lib.hid hl
  have HA := Lib.hid hA
  have own0 : (w.alloc (.cells #[.int .u8 1] 5)).ownsRow w.heap.size 5 1 (.slice (some ⟨w.heap.size, 0, none⟩) 1 1) 1 [.int .u8 1] :=
    ⟨rfl, .inr ⟨w.heap.size, 1, #[.int .u8 1], rfl, Nat.le_refl _, heap_new w _, Nat.le_refl _, by unfold maxLen; omega, rfl, rfl⟩⟩
  have O0 := Lib.hid own0
  have R1 := Lib.hid (hr.below ((Below.refl _ _).alloc (Nat.le_refl _) (.cells #[.int .u8 1] 5)))
  have HY : Hid (∃ ys, (1 :: zs).take 2 = ys ∧ ys.length = 2) := ⟨_, rfl, by rw [List.length_take, List.length_cons]; omega⟩
  clear hi0 hz0 hz1 hz2 hn hr hl hA own0
  go_enter Try.func6, Try.ntmps6
  go_wp2_with (first
    | (at_builtin
       refine wpList_app _ rfl (.tmp 14) (.tmp 15) _ rfl w.heap.size 5 i0 Try.underlying22 HI.out HZ.out HZ1.out HZ2.out _ 1 [.int .u8 1] rfl O0.out w.heap.size A len cap zs rfl R1.out HL.out HA.out (by omega) (by simp) ?_
       intro v2 w2 own2 g2 at2
       have O2 := Lib.hid own2
       have b2 : Hid (Below w.heap.size w w2) := ((Below.refl _ _).alloc (Nat.le_refl _) _).grown g2 (by simp) (fun k h => by cases h; exact Nat.le_refl _)
       obtain ⟨A2, c2, hv2, l2, m2⟩ := own_slice own2
       subst hv2
       have B2 : Hid (BRow w2 w2.heap.size A2 (1 :: zs)) := own_brow (zs := 1 :: zs) own2 (byt_cons (by omega) HR.out.1)
       clear own2 g2 at2
       have m3 := m2
       unfold maxLen at m3)
    | (go_at_call 13; refine (picked_any _ _ (by omega) (by omega) _).mono ?_; rintro e w' ⟨rfl, rfl⟩; simp only [HN.out]))
  obtain ⟨ys, hys, hyl⟩ := HY.out
  have row := B2.out.take 2
  rw [hys] at row
  have HW := Lib.hid (whole_in t A2 2 c2 _ ys w2 row hyl (by omega) (by omega) (by omega) (by omega) m2)
  have HE := Lib.hid (whole_size t none 0 0 (by omega) (by omega) (by unfold maxLen; omega) w2)
  have yb := be_bd 2 (by omega) ys hyl row.1
  have nr := whole_near t (beFrom 0 ys) 2 (by omega) t0 t1 yb.1 yb.2
  have bd := Lib.hid (beFrom_bd 0 ys row.1 (by omega))
  obtain ⟨b, off, rfl, hb2, hc2⟩ := row.2 (by omega)
  have HC := Lib.hid hc2
  have HB := Lib.hid row.1
  have HYL := Lib.hid hyl
  clear hys row hc2 hyl
  have HYT : Hid (ys.take 2 = ys) := List.take_of_length_le (by rw [HYL.out]; omega)
  rw [show winOf (2 : Nat) = 65536 from rfl] at HW nr yb
  obtain ⟨v, hv⟩ : ∃ v, wholeV t 65536 (beFrom 0 ys) = v := ⟨_, rfl⟩
  rw [hv] at HW nr
  clear hv
  obtain ⟨n0, n1, n2, n3, n4⟩ := nr
  have n1' : (v % 65536 == beFrom 0 ys) = true := by rw [n1]; simp
  clear n1
  go_wp2_with (first | (go_at_call 11; first | (with_reducible (refine HW.out.mono ?_); rintro e w' ⟨rfl, rfl⟩) | (refine HE.out.mono ?_; rintro e w' ⟨rfl, rfl⟩)))
  go_loop [11, 45] (fun acc i => ∃ r : Nat, r ≤ 2 ∧ i = .int .i64 r ∧ acc = .int .i64 (beFrom 0 (ys.take r))) (fun _ i => 2 - (intOf i).toNat)
  case atStart => exact ⟨0, Nat.zero_le _, rfl, rfl⟩
  case round =>
    obtain ⟨r, hr, rfl, rfl⟩ := hrel
    by_cases hlt : r < 2
    · have st := beFrom_step 0 ys r (by rw [HYL.out]; omega)
      have bq := bd.out r (by rw [HYL.out]; omega)
      have hcell := HC.out r (by rw [HYL.out]; omega)
      have hby := HB.out r
      have pb := pow256 r (by omega)
      generalize (256 : Int) ^ r = u at bq pb
      have acc0 : 0 ≤ beFrom 0 (ys.take r) ∧ beFrom 0 (ys.take r) ≤ 281474976710656 := by omega
      generalize ys.getD r 0 = x at st hcell hby
      generalize beFrom 0 (ys.take r) = y at st acc0
      have ST := Lib.hid st
      clear st bq pb
      go_wp2
      go_round
      case rel => exact ⟨r + 1, by omega, by go_num, by rw [ST.out]⟩
      case measure => simp [intOf]; omega
    · obtain rfl : r = 2 := by omega
      rw [HYT.out]
      generalize beFrom 0 ys = y at *
      go_wp2
      all_goals
        go_ret
        exact ⟨ret_bool (by first | rfl | (simp; done) | (simp; omega)), b2.out⟩
theorem numberNear_3 (n t : Int) (A : Option Addr) (len cap : Nat) (zs : List Int) (hn : n % 1152921504606846976 = t) (t0 : 0 ≤ t) (t1 : t < 1152921504606846976)
    (hj : (len : Int) % 4 % ((len : Int) + 1) = 2) (kl : 3 ≤ len + 1) (w : World)
    (hr : BRow w w.heap.size A zs) (hl : zs.length = len) (hlc : len ≤ cap) (hA : A = none → cap = 0) (hreach : cap ≤ 140737488351232) :
    Calls Try.prog 6 #[.int .i64 n, .slice A len cap] w fun e w' => e = .returned (.bool true) ∧ Below w.heap.size w w' := by
  obtain ⟨i0, hi0, hz0, hz1, hz2⟩ := info_parts infoB
  have HI := Lib.hid hi0
  have HZ := Lib.hid hz0
  have HZ1 := Lib.hid hz1
  have HZ2 := Lib.hid hz2
  have HN := Lib.hid hn
  have HR := Lib.hid hr
  have HL := Lib.hid hl
  have HA := Lib.hid hA
  have own0 : (w.alloc (.cells #[.int .u8 1] 5)).ownsRow w.heap.size 5 1 (.slice (some ⟨w.heap.size, 0, none⟩) 1 1) 1 [.int .u8 1] :=
    ⟨rfl, .inr ⟨w.heap.size, 1, #[.int .u8 1], rfl, Nat.le_refl _, heap_new w _, Nat.le_refl _, by unfold maxLen; omega, rfl, rfl⟩⟩
  have O0 := Lib.hid own0
  have R1 := Lib.hid (hr.below ((Below.refl _ _).alloc (Nat.le_refl _) (.cells #[.int .u8 1] 5)))
  have HY : Hid (∃ ys, (1 :: zs).take 3 = ys ∧ ys.length = 3) := ⟨_, rfl, by rw [List.length_take, List.length_cons]; omega⟩
  clear hi0 hz0 hz1 hz2 hn hr hl hA own0
  go_enter Try.func6, Try.ntmps6
  go_wp2_with (first
    | (at_builtin
       refine wpList_app _ rfl (.tmp 14) (.tmp 15) _ rfl w.heap.size 5 i0 Try.underlying22 HI.out HZ.out HZ1.out HZ2.out _ 1 [.int .u8 1] rfl O0.out w.heap.size A len cap zs rfl R1.out HL.out HA.out (by omega) (by simp) ?_
       intro v2 w2 own2 g2 at2
       have O2 := Lib.hid own2
       have b2 : Hid (Below w.heap.size w w2) := ((Below.refl _ _).alloc (Nat.le_refl _) _).grown g2 (by simp) (fun k h => by cases h; exact Nat.le_refl _)
       obtain ⟨A2, c2, hv2, l2, m2⟩ := own_slice own2
       subst hv2
       have B2 : Hid (BRow w2 w2.heap.size A2 (1 :: zs)) := own_brow (zs := 1 :: zs) own2 (byt_cons (by omega) HR.out.1)
       clear own2 g2 at2
       have m3 := m2
       unfold maxLen at m3)
    | (go_at_call 13; refine (picked_any _ _ (by omega) (by omega) _).mono ?_; rintro e w' ⟨rfl, rfl⟩; simp only [HN.out]))
  obtain ⟨ys, hys, hyl⟩ := HY.out
  have row := B2.out.take 3
  rw [hys] at row
  have HW := Lib.hid (whole_in t A2 3 c2 _ ys w2 row hyl (by omega) (by omega) (by omega) (by omega) m2)
  have HE := Lib.hid (whole_size t none 0 0 (by omega) (by omega) (by unfold maxLen; omega) w2)
  have yb := be_bd 3 (by omega) ys hyl row.1
  have nr := whole_near t (beFrom 0 ys) 3 (by omega) t0 t1 yb.1 yb.2
  have bd := Lib.hid (beFrom_bd 0 ys row.1 (by omega))
  obtain ⟨b, off, rfl, hb2, hc2⟩ := row.2 (by omega)
  have HC := Lib.hid hc2
  have HB := Lib.hid row.1
  have HYL := Lib.hid hyl
  clear hys row hc2 hyl
  have HYT : Hid (ys.take 3 = ys) := List.take_of_length_le (by rw [HYL.out]; omega)
  rw [show winOf (3 : Nat) = 16777216 from rfl] at HW nr yb
  obtain ⟨v, hv⟩ : ∃ v, wholeV t 16777216 (beFrom 0 ys) = v := ⟨_, rfl⟩
  rw [hv] at HW nr
  clear hv
  obtain ⟨n0, n1, n2, n3, n4⟩ := nr
  have n1' : (v % 16777216 == beFrom 0 ys) = true := by rw [n1]; simp
  clear n1
  go_wp2_with (first | (go_at_call 11; first | (with_reducible (refine HW.out.mono ?_); rintro e w' ⟨rfl, rfl⟩) | (refine HE.out.mono ?_; rintro e w' ⟨rfl, rfl⟩)))
  go_loop [11, 45] (fun acc i => ∃ r : Nat, r ≤ 3 ∧ i = .int .i64 r ∧ acc = .int .i64 (beFrom 0 (ys.take r))) (fun _ i => 3 - (intOf i).toNat)
  case atStart => exact ⟨0, Nat.zero_le _, rfl, rfl⟩
  case round =>
    obtain ⟨r, hr, rfl, rfl⟩ := hrel
    by_cases hlt : r < 3
    · have st := beFrom_step 0 ys r (by rw [HYL.out]; omega)
      have bq := bd.out r (by rw [HYL.out]; omega)
      have hcell := HC.out r (by rw [HYL.out]; omega)
      have hby := HB.out r
      have pb := pow256 r (by omega)
      generalize (256 : Int) ^ r = u at bq pb
      have acc0 : 0 ≤ beFrom 0 (ys.take r) ∧ beFrom 0 (ys.take r) ≤ 281474976710656 := by omega
      generalize ys.getD r 0 = x at st hcell hby
      generalize beFrom 0 (ys.take r) = y at st acc0
      have ST := Lib.hid st
      clear st bq pb
      go_wp2
      go_round
      case rel => exact ⟨r + 1, by omega, by go_num, by rw [ST.out]⟩
      case measure => simp [intOf]; omega
    · obtain rfl : r = 3 := by omega
      rw [HYT.out]
      generalize beFrom 0 ys = y at *
      go_wp2
      all_goals
        go_ret
        exact ⟨ret_bool (by first | rfl | (simp; done) | (simp; omega)), b2.out⟩
theorem numberNear_4 (n t : Int) (A : Option Addr) (len cap : Nat) (zs : List Int) (hn : n % 1152921504606846976 = t) (t0 : 0 ≤ t) (t1 : t < 1152921504606846976)
    (hj : (len : Int) % 4 % ((len : Int) + 1) = 3) (kl : 4 ≤ len + 1) (w : World)
    (hr : BRow w w.heap.size A zs) (hl : zs.length = len) (hlc : len ≤ cap) (hA : A = none → cap = 0) (hreach : cap ≤ 140737488351232) :
    Calls Try.prog 6 #[.int .i64 n, .slice A len cap] w fun e w' => e = .returned (.bool true) ∧ Below w.heap.size w w' := by
  obtain ⟨i0, hi0, hz0, hz1, hz2⟩ := info_parts infoB
  have HI := Lib.hid hi0
  have HZ := Lib.hid hz0
  have HZ1 := Lib.hid hz1
  have HZ2 := Lib.hid hz2
  have HN := Lib.hid hn
  have HR := Lib.hid hr
  have HL := Lib.hid hl
  have HA := Lib.hid hA
  have own0 : (w.alloc (.cells #[.int .u8 1] 5)).ownsRow w.heap.size 5 1 (.slice (some ⟨w.heap.size, 0, none⟩) 1 1) 1 [.int .u8 1] :=
    ⟨rfl, .inr ⟨w.heap.size, 1, #[.int .u8 1], rfl, Nat.le_refl _, heap_new w _, Nat.le_refl _, by unfold maxLen; omega, rfl, rfl⟩⟩
  have O0 := Lib.hid own0
  have R1 := Lib.hid (hr.below ((Below.refl _ _).alloc (Nat.le_refl _) (.cells #[.int .u8 1] 5)))
  have HY : Hid (∃ ys, (1 :: zs).take 4 = ys ∧ ys.length = 4) := ⟨_, rfl, by rw [List.length_take, List.length_cons]; omega⟩
  clear hi0 hz0 hz1 hz2 hn hr hl hA own0
  go_enter Try.func6, Try.ntmps6
  go_wp2_with (first
    | (at_builtin
       refine wpList_app _ rfl (.tmp 14) (.tmp 15) _ rfl w.heap.size 5 i0 Try.underlying22 HI.out HZ.out HZ1.out HZ2.out _ 1 [.int .u8 1] rfl O0.out w.heap.size A len cap zs rfl R1.out HL.out HA.out (by omega) (by simp) ?_
       intro v2 w2 own2 g2 at2
       have O2 := Lib.hid own2
       have b2 : Hid (Below w.heap.size w w2) := ((Below.refl _ _).alloc (Nat.le_refl _) _).grown g2 (by simp) (fun k h => by cases h; exact Nat.le_refl _)
       obtain ⟨A2, c2, hv2, l2, m2⟩ := own_slice own2
       subst hv2
       have B2 : Hid (BRow w2 w2.heap.size A2 (1 :: zs)) := own_brow (zs := 1 :: zs) own2 (byt_cons (by omega) HR.out.1)
       clear own2 g2 at2
       have m3 := m2
       unfold maxLen at m3)
    | (go_at_call 13; refine (picked_any _ _ (by omega) (by omega) _).mono ?_; rintro e w' ⟨rfl, rfl⟩; simp only [HN.out]))
  obtain ⟨ys, hys, hyl⟩ := HY.out
  have row := B2.out.take 4
  rw [hys] at row
  have HW := Lib.hid (whole_in t A2 4 c2 _ ys w2 row hyl (by omega) (by omega) (by omega) (by omega) m2)
  have HE := Lib.hid (whole_size t none 0 0 (by omega) (by omega) (by unfold maxLen; omega) w2)
  have yb := be_bd 4 (by omega) ys hyl row.1
  have nr := whole_near t (beFrom 0 ys) 4 (by omega) t0 t1 yb.1 yb.2
  have bd := Lib.hid (beFrom_bd 0 ys row.1 (by omega))
  obtain ⟨b, off, rfl, hb2, hc2⟩ := row.2 (by omega)
  have HC := Lib.hid hc2
  have HB := Lib.hid row.1
  have HYL := Lib.hid hyl
  clear hys row hc2 hyl
  have HYT : Hid (ys.take 4 = ys) := List.take_of_length_le (by rw [HYL.out]; omega)
  rw [show winOf (4 : Nat) = 4294967296 from rfl] at HW nr yb
  obtain ⟨v, hv⟩ : ∃ v, wholeV t 4294967296 (beFrom 0 ys) = v := ⟨_, rfl⟩
  rw [hv] at HW nr
  clear hv
  obtain ⟨n0, n1, n2, n3, n4⟩ := nr
  have n1' : (v % 4294967296 == beFrom 0 ys) = true := by rw [n1]; simp
  clear n1
  go_wp2_with (first | (go_at_call 11; first | (with_reducible (refine HW.out.mono ?_); rintro e w' ⟨rfl, rfl⟩) | (refine HE.out.mono ?_; rintro e w' ⟨rfl, rfl⟩)))
  go_loop [11, 45] (fun acc i => ∃ r : Nat, r ≤ 4 ∧ i = .int .i64 r ∧ acc = .int .i64 (beFrom 0 (ys.take r))) (fun _ i => 4 - (intOf i).toNat)
  case atStart => exact ⟨0, Nat.zero_le _, rfl, rfl⟩
  case round =>
    obtain ⟨r, hr, rfl, rfl⟩ := hrel
    by_cases hlt : r < 4
    · have st := beFrom_step 0 ys r (by rw [HYL.out]; omega)
      have bq := bd.out r (by rw [HYL.out]; omega)
      have hcell := HC.out r (by rw [HYL.out]; omega)
      have hby := HB.out r
      have pb := pow256 r (by omega)
      generalize (256 : Int) ^ r = u at bq pb
      have acc0 : 0 ≤ beFrom 0 (ys.take r) ∧ beFrom 0 (ys.take r) ≤ 281474976710656 := by omega
      generalize ys.getD r 0 = x at st hcell hby
      generalize beFrom 0 (ys.take r) = y at st acc0
      have ST := Lib.hid st
      clear st bq pb
      go_wp2
      go_round
      case rel => exact ⟨r + 1, by omega, by go_num, by rw [ST.out]⟩
      case measure => simp [intOf]; omega
    · obtain rfl : r = 4 := by omega
      rw [HYT.out]
      generalize beFrom 0 ys = y at *
      go_wp2
      all_goals
        go_ret
        exact ⟨ret_bool (by first | rfl | (simp; done) | (simp; omega)), b2.out⟩

theorem numberNear_walk (n : Int) (A : Option Addr) (len cap : Nat) (z : List Int) (w : World) (h : IsRow .u8 w A len cap z) (hreach : cap * 1 ≤ 140737488351232) :
    Calls Try.prog 6 #[.int .i64 n, .slice A len cap] w fun e w' => e = .returned (.bool true) ∧ Below w.heap.size w w' := by
  obtain ⟨hr, hn, hl, hm⟩ := InRow.brow (show InRow w A len cap z from h)
  have hA : A = none → cap = 0 := fun e => by subst e; rcases h with ⟨_, _, e, _⟩ | ⟨x, e, _⟩ <;> first | exact e | cases e
  have t0 : 0 ≤ n % 1152921504606846976 := by omega
  have t1 : n % 1152921504606846976 < 1152921504606846976 := by omega
  obtain ⟨j, hj, j4, jl⟩ : ∃ j : Nat, (len : Int) % 4 % ((len : Int) + 1) = j ∧ j < 4 ∧ j ≤ len := by
    refine ⟨len % 4 % (len + 1), by simp, ?_, ?_⟩
    · have := Nat.mod_le (len % 4) (len + 1); omega
    · have := Nat.mod_lt (len % 4) (show 0 < len + 1 by omega); omega
  have c : j = 0 ∨ j = 1 ∨ j = 2 ∨ j = 3 := by omega
  rcases c with rfl | rfl | rfl | rfl
  · exact numberNear_1 n _ A len cap (z.take len) rfl t0 t1 hj (by omega) w hr hn hl hA (by omega)
  · exact numberNear_2 n _ A len cap (z.take len) rfl t0 t1 hj (by omega) w hr hn hl hA (by omega)
  · exact numberNear_3 n _ A len cap (z.take len) rfl t0 t1 hj (by omega) w hr hn hl hA (by omega)
  · exact numberNear_4 n _ A len cap (z.take len) rfl t0 t1 hj (by omega) w hr hn hl hA (by omega)
end Go.Proofs.Ytadeakdfopdblaa
