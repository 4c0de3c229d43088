/- The document's answer on bytes that a head begins with: HeadOf (whatever they are). -/
import Derived.Test.YtaccedlpnngdhaaRefHdOfB
namespace Go.Proofs.Ytaccedlpnngdhaa
set_option linter.unusedVariables false
open Go.RowKit P

theorem str_mid (zs : List Int) (a b : Nat) : (strOfNums zs).extract a b = strOfNums ((zs.drop a).take (b - a)) := by
  apply ByteArray.ext
  apply Array.toList_inj.1
  rw [Lib.extract_data, strOfNums_data, strOfNums_data]
  simp [List.map_take, List.map_drop]
theorem str_end (zs : List Int) (k : Nat) : (strOfNums zs).extract k (strOfNums zs).size = strOfNums (zs.drop k) := by
  rw [str_mid, strOfNums_size, List.take_of_length_le (by rw [List.length_drop]; omega)]
theorem kindH_none {z : Int} (h : kindH z = none) : z < 64 ∨ 68 ≤ z ∧ z < 192 ∨ 196 ≤ z ∧ z < 240 ∨ 240 < z := by
  unfold kindH at h
  by_cases a : 64 ≤ z ∧ z < 68
  · rw [if_pos a] at h; cases h
  rw [if_neg a] at h
  by_cases b : 192 ≤ z ∧ z < 196
  · rw [if_pos b] at h; cases h
  rw [if_neg b] at h
  by_cases c : z = 240
  · rw [if_pos c] at h; cases h
  omega
theorem varOf_no (s : ByteArray) (zs : List Int) (hs : s = strOfNums zs) (hb : Byt zs) (hno : ¬ decOk zs) (w : World) :
    Calls Try.prog 9 #[.string s] w fun e w' => e = .returned (.tuple #[.int .i64 0, .int .i64 0, .int .i64 4]) ∧ Below w.heap.size w w' := by
  by_cases h0 : 0 < zs.length
  · exact varOf_short s zs hs hb h0 (by unfold decOk at hno; omega) w
  · have hz : zs = [] := List.eq_nil_of_length_eq_zero (by omega)
    subst hz hs
    exact varOf_empty w
/-- what the numbers of one to four bytes are -/
theorem num_bd {s : List Int} {k : Nat} (hb : Byt s) (hk : k ≤ 4) (hl : k ≤ s.length) : 0 ≤ beFrom 0 (s.take k) ∧ beFrom 0 (s.take k) ≤ 4294967295 := by
  rcases Nat.eq_zero_or_pos k with e | e
  · subst e
    exact ⟨Int.le_refl 0, by show (0 : Int) ≤ _; omega⟩
  · have b := be_bd k (by omega) (s.take k) (by rw [List.length_take]; omega) (hb.take k)
    have := winOf_le k
    omega

section
variable {w : World}
theorem refHdOf_sh (z : Int) (s : List Int) (hb : Byt (z :: s)) (n : Int) (hk : kindH z = some (2, n)) (hn : n = z - 63) (z0 : 64 ≤ z) (z1 : z < 68) :
    Calls Try.prog 5 #[.string (strOfNums (z :: s))] w (HdDec (z :: s) w) := by
  have hem : (strOfNums (z :: s)).toList.isEmpty = false := by rw [str_empty]; simp
  have hget := str_get hb
  have hsz : (strOfNums (z :: s)).size = s.length + 1 := by rw [strOfNums_size]; rfl
  have h0 : 0 < (strOfNums (z :: s)).size := by omega
  have hx := hget 0 h0
  cases s with
  | nil => exact (refHdOf_short1 hem h0 hx z0 z1 (by rw [hsz]; decide)).mono fun e w' h => hdDec_er (by simp only [decH, hk]) h
  | cons a s =>
    simp only [List.length_cons] at hsz
    have h1 : 1 < (strOfNums (z :: a :: s)).size := by omega
    have hy := hget 1 h1
    have ba := hb 1
    simp only [List.getD_cons_succ, List.getD_cons_zero] at hx hy ba
    obtain ⟨k, hkn⟩ : ∃ k : Nat, n = k := ⟨n.toNat, by omega⟩
    have hd : decH (z :: a :: s) = decNum ⟨2, a, 0, [], 0, n⟩ s := by simp only [decH, hk, if_true]
    by_cases hl : (s.length : Int) < n
    · refine (refHdOf_short2 hem h0 hx z0 z1 h1 hy ba.1 ba.2 (by omega)).mono fun e w' h => hdDec_er ?_ h
      rw [hd]
      exact if_pos hl
    · have hs : Byt s := hb.drop 2
      have hmid := str_mid (z :: a :: s) 2 (2 + k)
      rw [show ((z :: a :: s).drop 2) = s from rfl, show 2 + k - 2 = k by omega] at hmid
      have nb := num_bd (k := k) hs (by omega) (by omega)
      refine (refHdOf_short (k := k) (v := beFrom 0 (s.take k)) hem h0 hx z0 z1 h1 hy ba.1 ba.2 (by omega) (by omega) nb.1 nb.2 (Lib.hid fun w => refnum_any _ _ hmid (hs.take k) (by rw [List.length_take]; omega) w)).mono fun e w' h => hdDec_ok (h := ⟨2, a, 0, [], beFrom 0 (s.take k), n⟩) (t := s.drop k) ?_ h.1 ?_ h.2 ⟨_, by rw [hkn], BSl.nil _ _⟩
      · rw [hd]
        unfold decNum
        simp only
        rw [if_neg hl, hkn, Int.toNat_natCast]
      · simp only [List.length_cons, List.length_drop]
        omega
theorem decH_long {z a b q n : Int} {s : List Int} (hk : kindH z = some (q, n)) (hq : q ≠ 2) : decH (z :: a :: b :: s) = match decTok s with | .error e => .error e | .ok (t, u) => decNum ⟨q, a, b, t, 0, n⟩ u := by
  simp only [decH, hk, if_neg hq]
  rcases decTok s with e | ⟨t, u⟩ <;> rfl
theorem decTok_no {s : List Int} (h : ¬ decOk s) : decTok s = .error 4 := by unfold decTok rd; rw [if_neg h]
theorem decTok_yes {s : List Int} (h : decOk s) : decTok s = if 120 < decV s then .error 1 else if ((s.length : Int) - kOf (s.getD 0 0) < decV s) then .error 4 else .ok ((s.drop (kOf (s.getD 0 0)).toNat).take (decV s).toNat, (s.drop (kOf (s.getD 0 0)).toNat).drop (decV s).toNat) := by
  unfold decTok rd
  rw [if_pos h]
  simp only
  have := h.2
  have := kOf_bd (s.getD 0 0)
  rw [show (((s.drop (kOf (s.getD 0 0)).toNat).length : Nat) : Int) = (s.length : Int) - kOf (s.getD 0 0) by rw [List.length_drop]; omega]
theorem refHdOf_init (z : Int) (s : List Int) (hb : Byt (z :: s)) (n : Int) (hk : kindH z = some (0, n)) (hn : n = z - 191) (z0 : 192 ≤ z) (z1 : z < 196) :
    Calls Try.prog 5 #[.string (strOfNums (z :: s))] w (HdDec (z :: s) w) := by
  have hem : (strOfNums (z :: s)).toList.isEmpty = false := by rw [str_empty]; simp
  have hget := str_get hb
  have hsz : (strOfNums (z :: s)).size = s.length + 1 := by rw [strOfNums_size]; rfl
  have h0 : 0 < (strOfNums (z :: s)).size := by omega
  have hx := hget 0 h0
  obtain ⟨k, hkn⟩ : ∃ k : Nat, n = k := ⟨n.toNat, by omega⟩
  cases s with
  | nil => exact (refHdOf_long1Init (y := 0) (f := 0) (k := k) (n := 0) (m := 0) hem h0 hx z0 z1 (show z - 191 = (k : Int) by omega) (by rw [hsz]; decide) (by rw [hsz]; decide)).mono fun e w' h => hdDec_er (by simp only [decH, hk]) h
  | cons a s =>
    cases s with
    | nil => exact (refHdOf_long1Init (y := 0) (f := 0) (k := k) (n := 0) (m := 0) hem h0 hx z0 z1 (show z - 191 = (k : Int) by omega) (by rw [hsz]; simp) (by rw [hsz]; simp)).mono fun e w' h => hdDec_er (by simp only [decH, hk]; rfl) h
    | cons b r =>
      simp only [List.length_cons] at hsz
      have h1 : 1 < (strOfNums (z :: a :: b :: r)).size := by omega
      have h2 : 2 < (strOfNums (z :: a :: b :: r)).size := by omega
      have hy := hget 1 h1
      have hf := hget 2 h2
      have ba := hb 1
      have bf := hb 2
      simp only [List.getD_cons_succ, List.getD_cons_zero] at hx hy hf ba bf
      have hd := decH_long (a := a) (b := b) (s := r) hk (by decide)
      have hr : Byt r := hb.drop 3
      have hend := str_end (z :: a :: b :: r) 3
      rw [show ((z :: a :: b :: r).drop 3) = r from rfl] at hend
      by_cases hok : decOk r
      · have hbd := decV_bd r hr hok
        have hko := kOf_bd (r.getD 0 0)
        have ht := decTok_yes hok
        have hv := fun w => varOf_long _ r hend hr hok w
        have hk2 := hok.2
        obtain ⟨m, hm⟩ : ∃ m : Nat, decV r = m := ⟨(decV r).toNat, by omega⟩
        obtain ⟨nn, hnn⟩ : ∃ m : Nat, kOf (r.getD 0 0) = m := ⟨(kOf (r.getD 0 0)).toNat, by omega⟩
        rw [hm, hnn] at ht
        rw [hnn] at hk2
        simp only [hm, hnn] at hv
        have hn8 : nn ≤ 8 := by omega
        rw [Int.toNat_natCast, Int.toNat_natCast] at ht
        by_cases hm1 : 120 < (m : Int)
        · rw [if_pos hm1] at ht
          rw [ht] at hd
          exact (refHdOf_long3Init (k := k) hem h0 hx z0 z1 (show z - 191 = (k : Int) by omega) h1 hy ba.1 ba.2 h2 hf bf.1 bf.2 (Lib.hid hv) hn8 (by omega)).mono fun e w' h => hdDec_er hd h
        · rw [if_neg hm1] at ht
          have hm2 : m ≤ 120 := by omega
          by_cases hl : (r.length : Int) - nn < m
          · rw [if_pos hl] at ht
            rw [ht] at hd
            exact (refHdOf_long4Init (k := k) hem h0 hx z0 z1 (show z - 191 = (k : Int) by omega) h1 hy ba.1 ba.2 h2 hf bf.1 bf.2 (Lib.hid hv) hn8 hm2 (by omega)).mono fun e w' h => hdDec_er hd h
          · rw [if_neg hl] at ht
            rw [ht] at hd
            simp only at hd
            have hdr : ∀ j, (z :: a :: b :: r).drop (3 + j) = r.drop j := fun j => by rw [show 3 + j = j + 3 by omega]; rfl
            have hT := str_mid (z :: a :: b :: r) (3 + nn) (3 + nn + m)
            rw [hdr, show 3 + nn + m - (3 + nn) = m by omega] at hT
            have htl : ((r.drop nn).take m).length = m := by rw [List.length_take, List.length_drop]; omega
            have hty : Byt ((r.drop nn).take m) := (hr.drop nn).take m
            have hul : (((r.drop nn).drop m).length : Int) = (r.length : Int) - nn - m := by rw [List.length_drop, List.length_drop]; omega
            by_cases hs5 : (((r.drop nn).drop m).length : Int) < n
            · have hd5 : decNum ⟨0, a, b, (r.drop nn).take m, 0, n⟩ ((r.drop nn).drop m) = .error 4 := if_pos hs5
              rw [hd5] at hd
              exact (refHdOf_long5Init (k := k) hem h0 hx z0 z1 (show z - 191 = (k : Int) by omega) h1 hy ba.1 ba.2 h2 hf bf.1 bf.2 (Lib.hid hv) hn8 hm2 _ htl hty (Lib.hid hT) (by omega) (by omega)).mono fun e w' h => hdDec_er hd h
            · have hN := str_mid (z :: a :: b :: r) (3 + nn + m) (3 + nn + m + k)
              rw [show 3 + nn + m = 3 + (nn + m) by omega, hdr, show 3 + (nn + m) + k - (3 + (nn + m)) = k by omega, ← List.drop_drop, show 3 + (nn + m) = 3 + nn + m by omega] at hN
              have hu : Byt ((r.drop nn).drop m) := (hr.drop nn).drop m
              have nb := num_bd (k := k) hu (by omega) (by omega)
              have hd5 : decNum ⟨0, a, b, (r.drop nn).take m, 0, n⟩ ((r.drop nn).drop m) = .ok (⟨0, a, b, (r.drop nn).take m, beFrom 0 (((r.drop nn).drop m).take k), n⟩, ((r.drop nn).drop m).drop k) := by
                unfold decNum
                simp only
                rw [if_neg hs5, hkn, Int.toNat_natCast]
              rw [hd5] at hd
              refine (refHdOf_okInit (k := k) hem h0 hx z0 z1 (show z - 191 = (k : Int) by omega) h1 hy ba.1 ba.2 h2 hf bf.1 bf.2 (Lib.hid hv) hn8 hm2 _ htl hty (Lib.hid hT) (by omega) nb.1 nb.2 (Lib.hid fun w => refnum_any _ _ hN (hu.take k) (by rw [List.length_take]; omega) w)).mono ?_
              rintro e w' ⟨d, he, hb', hdd⟩
              refine hdDec_ok hd he ?_ hb' ⟨d, by rw [hkn], hdd⟩
              simp only [List.length_cons, List.length_drop]
              omega
      · have ht := decTok_no hok
        rw [ht] at hd
        exact (refHdOf_long2Init (k := k) (n := 0) (m := 0) hem h0 hx z0 z1 (show z - 191 = (k : Int) by omega) h1 hy ba.1 ba.2 h2 hf bf.1 bf.2 (Lib.hid fun w => varOf_no _ r hend hr hok w)).mono fun e w' h => hdDec_er hd h
theorem refHdOf_retry (z : Int) (s : List Int) (hb : Byt (z :: s)) (hk : kindH z = some (1, 0)) (hz : z = 240) :
    Calls Try.prog 5 #[.string (strOfNums (z :: s))] w (HdDec (z :: s) w) := by
  have hem : (strOfNums (z :: s)).toList.isEmpty = false := by rw [str_empty]; simp
  have hget := str_get hb
  have hsz : (strOfNums (z :: s)).size = s.length + 1 := by rw [strOfNums_size]; rfl
  have h0 : 0 < (strOfNums (z :: s)).size := by omega
  have hx := hget 0 h0
  cases s with
  | nil => exact (refHdOf_long1Retry (y := 0) (f := 0) (k := 0) (n := 0) (m := 0) hem h0 hx hz (by rw [hsz]; decide) (by rw [hsz]; decide)).mono fun e w' h => hdDec_er (by simp only [decH, hk]) h
  | cons a s =>
    cases s with
    | nil => exact (refHdOf_long1Retry (y := 0) (f := 0) (k := 0) (n := 0) (m := 0) hem h0 hx hz (by rw [hsz]; simp) (by rw [hsz]; simp)).mono fun e w' h => hdDec_er (by simp only [decH, hk]; rfl) h
    | cons b r =>
      simp only [List.length_cons] at hsz
      have h1 : 1 < (strOfNums (z :: a :: b :: r)).size := by omega
      have h2 : 2 < (strOfNums (z :: a :: b :: r)).size := by omega
      have hy := hget 1 h1
      have hf := hget 2 h2
      have ba := hb 1
      have bf := hb 2
      simp only [List.getD_cons_succ, List.getD_cons_zero] at hx hy hf ba bf
      have hd := decH_long (a := a) (b := b) (s := r) hk (by decide)
      have hr : Byt r := hb.drop 3
      have hend := str_end (z :: a :: b :: r) 3
      rw [show ((z :: a :: b :: r).drop 3) = r from rfl] at hend
      by_cases hok : decOk r
      · have hbd := decV_bd r hr hok
        have hko := kOf_bd (r.getD 0 0)
        have ht := decTok_yes hok
        have hv := fun w => varOf_long _ r hend hr hok w
        have hk2 := hok.2
        obtain ⟨m, hm⟩ : ∃ m : Nat, decV r = m := ⟨(decV r).toNat, by omega⟩
        obtain ⟨nn, hnn⟩ : ∃ m : Nat, kOf (r.getD 0 0) = m := ⟨(kOf (r.getD 0 0)).toNat, by omega⟩
        rw [hm, hnn] at ht
        rw [hnn] at hk2
        simp only [hm, hnn] at hv
        have hn8 : nn ≤ 8 := by omega
        rw [Int.toNat_natCast, Int.toNat_natCast] at ht
        by_cases hm1 : 120 < (m : Int)
        · rw [if_pos hm1] at ht
          rw [ht] at hd
          exact (refHdOf_long3Retry (k := 0) hem h0 hx hz h1 hy ba.1 ba.2 h2 hf bf.1 bf.2 (Lib.hid hv) hn8 (by omega)).mono fun e w' h => hdDec_er hd h
        · rw [if_neg hm1] at ht
          have hm2 : m ≤ 120 := by omega
          by_cases hl : (r.length : Int) - nn < m
          · rw [if_pos hl] at ht
            rw [ht] at hd
            exact (refHdOf_long4Retry (k := 0) hem h0 hx hz h1 hy ba.1 ba.2 h2 hf bf.1 bf.2 (Lib.hid hv) hn8 hm2 (by omega)).mono fun e w' h => hdDec_er hd h
          · rw [if_neg hl] at ht
            rw [ht] at hd
            simp only at hd
            have hdr : ∀ j, (z :: a :: b :: r).drop (3 + j) = r.drop j := fun j => by rw [show 3 + j = j + 3 by omega]; rfl
            have hT := str_mid (z :: a :: b :: r) (3 + nn) (3 + nn + m)
            rw [hdr, show 3 + nn + m - (3 + nn) = m by omega] at hT
            have htl : ((r.drop nn).take m).length = m := by rw [List.length_take, List.length_drop]; omega
            have hty : Byt ((r.drop nn).take m) := (hr.drop nn).take m
            have hul : (((r.drop nn).drop m).length : Int) = (r.length : Int) - nn - m := by rw [List.length_drop, List.length_drop]; omega
            have hd5 : decNum ⟨1, a, b, (r.drop nn).take m, 0, 0⟩ ((r.drop nn).drop m) = .ok (⟨1, a, b, (r.drop nn).take m, 0, 0⟩, (r.drop nn).drop m) := by
              unfold decNum
              simp only
              rw [if_neg (by omega)]
              rfl
            rw [hd5] at hd
            refine (refHdOf_okRetry (v := 0) (k := 0) hem h0 hx hz h1 hy ba.1 ba.2 h2 hf bf.1 bf.2 (Lib.hid hv) hn8 hm2 _ htl hty (Lib.hid hT) (by omega) (Lib.hid fun w => refnum_any _ [] rfl Byt.nil (by decide) w)).mono ?_
            rintro e w' ⟨d, he, hb', hdd⟩
            refine hdDec_ok hd he ?_ hb' ⟨d, rfl, hdd⟩
            simp only [List.length_cons, List.length_drop]
            omega
      · have ht := decTok_no hok
        rw [ht] at hd
        exact (refHdOf_long2Retry (k := 0) (n := 0) (m := 0) hem h0 hx hz h1 hy ba.1 ba.2 h2 hf bf.1 bf.2 (Lib.hid fun w => varOf_no _ r hend hr hok w)).mono fun e w' h => hdDec_er hd h
end
theorem refHdOf_any (zs : List Int) (hb : Byt zs) (w : World) :
    Calls Try.prog 5 #[.string (strOfNums zs)] w (HdDec zs w) := by
  cases zs with
  | nil => exact (refHdOf_empty (by rw [str_empty]; rfl)).mono fun e w' h => hdDec_er rfl h
  | cons z s =>
    cases hk : kindH z with
    | none =>
      have hem : (strOfNums (z :: s)).toList.isEmpty = false := by rw [str_empty]; simp
      have hsz : (strOfNums (z :: s)).size = s.length + 1 := by rw [strOfNums_size]; rfl
      exact (refHdOf_none hem (by omega) (str_get hb 0 (by omega)) (kindH_none hk)).mono fun e w' h => hdDec_er (by simp only [decH, hk]) h
    | some p =>
      obtain ⟨q, n⟩ := p
      rcases kindH_some hk with ⟨rfl, hn, z0, z1⟩ | ⟨rfl, hn, z0, z1⟩ | ⟨rfl, rfl, hz⟩
      · exact refHdOf_sh z s hb n hk hn z0 z1
      · exact refHdOf_init z s hb n hk hn z0 z1
      · exact refHdOf_retry z s hb hk hz
end Go.Proofs.Ytaccedlpnngdhaa
