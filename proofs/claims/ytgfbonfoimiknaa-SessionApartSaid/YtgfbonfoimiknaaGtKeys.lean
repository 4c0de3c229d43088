/- Package gate's keys (First, Session, Way, Word) and the document's, and the walks of GateKeys and SessionApart. -/
import Derived.Test.YtgfbonfoimiknaaLkMix
import Derived.Test.YtgfbonfoimiknaaMixApartC
import Derived.Test.YtgfbonfoimiknaaRefNum
import Derived.Test.YtgfbonfoimiknaaEye2
import Derived.Test.YtgfbonfoimiknaaGrpB
import Derived.Laws.DeepNot64
namespace Go.Proofs.Ytgfbonfoimiknaa
set_option linter.unusedVariables false
set_option maxRecDepth 100000
open Go.RowKit P

/-- the key of two words -/
def sesN (c s : Nat) : Nat := mx (c ^^^ mx s)
theorem sesN_lt (c s : Nat) : sesN c s < 18446744073709551616 := mx_lt _
theorem not_u64 (a : Nat) (ha : a < 18446744073709551616) : bits .xor .u64 IntKind.u64.max (a : Int) = ((18446744073709551615 - a : Nat) : Int) := by
  rw [show IntKind.u64.max = 18446744073709551615 from by decide]
  show IntKind.u64.wrap ((BitVec.ofInt 64 18446744073709551615 ^^^ BitVec.ofInt 64 (a : Int)).toNat : Int) = _
  have h1 : BitVec.ofInt 64 18446744073709551615 = BitVec.allOnes 64 := by decide
  rw [h1, BitVec.allOnes_xor, BitVec.toNat_not, ofInt_u64 a (by omega)]
  simp [IntKind.wrap, IntKind.bits, IntKind.signed]
  omega
/-- the key of one way -/
def wayN (k : Nat) (up : Bool) : Nat := mx (if up then k else 18446744073709551615 - k)
theorem wayN_lt (k : Nat) (up : Bool) : wayN k up < 18446744073709551616 := mx_lt _
theorem first_any (n : Int) (w : World) : Calls Try.prog 48 #[.int .i64 n] w fun e w' => e = .returned (.int .u64 (keyN 1 n)) ∧ Below w.heap.size w w' := by
  have HK := Lib.hid (fun w => key_any 1 (by decide) n w)
  generalize keyN 1 n = k at *
  go_enter Try.func48, Try.ntmps48
  go_wp2_with fail
  refine (HK.out _).mono ?_
  rintro e w1 ⟨rfl, b1⟩
  go_wp2_with fail
  go_ret
  exact ⟨rfl, b1⟩
theorem refFirst_any (n : Int) (w : World) : Calls Try.prog 52 #[.int .i64 n] w fun e w' => e = .returned (.int .u64 (keyN 1 n)) ∧ Below w.heap.size w w' := by
  have HK := Lib.hid (fun w => refKey_any 1 (by decide) n w)
  generalize keyN 1 n = k at *
  go_enter Try.func52, Try.ntmps52
  go_wp2_with fail
  refine (HK.out _).mono ?_
  rintro e w1 ⟨rfl, b1⟩
  go_wp2_with fail
  go_ret
  exact ⟨rfl, b1⟩
theorem session_any (c s : Nat) (hc : c < 18446744073709551616) (hs : s < 18446744073709551616) (w : World) : Calls Try.prog 49 #[.int .u64 c, .int .u64 s] w fun e w' => e = .returned (.int .u64 (sesN c s)) ∧ Below w.heap.size w w' := by
  have hxo : bits .xor .u64 (c : Int) (mx s : Int) = ((c ^^^ mx s : Nat) : Int) := bits_xor_u64_nat _ _ hc (mx_lt s)
  have H1 := Lib.hid (fun w => mix_any s hs w)
  have H2 := Lib.hid (fun w => mix_any (c ^^^ mx s) (xor_lt hc (mx_lt s)) w)
  rw [show sesN c s = mx (c ^^^ mx s) from rfl]
  generalize c ^^^ mx s = q at *
  generalize mx s = t at *
  generalize mx q = r at *
  clear hs hc
  go_enter Try.func49, Try.ntmps49
  go_wp2_with fail
  refine (H1.out _).mono ?_
  rintro e w1 ⟨rfl, b1⟩
  go_wp2_with fail
  refine (H2.out _).mono ?_
  rintro e w2 ⟨rfl, b2⟩
  go_wp2_with fail
  go_ret
  exact ⟨rfl, b1.trans (b2.mono b1.size)⟩
theorem refSession_any (c s : Nat) (hc : c < 18446744073709551616) (hs : s < 18446744073709551616) (w : World) : Calls Try.prog 53 #[.int .u64 c, .int .u64 s] w fun e w' => e = .returned (.int .u64 (sesN c s)) ∧ Below w.heap.size w w' := by
  have hxo : bits .xor .u64 (mx s : Int) (c : Int) = ((c ^^^ mx s : Nat) : Int) := by rw [Nat.xor_comm]; exact bits_xor_u64_nat _ _ (mx_lt s) hc
  have H1 := Lib.hid (fun w => refMix_any s hs w)
  have H2 := Lib.hid (fun w => refMix_any (c ^^^ mx s) (xor_lt hc (mx_lt s)) w)
  rw [show sesN c s = mx (c ^^^ mx s) from rfl]
  generalize c ^^^ mx s = q at *
  generalize mx s = t at *
  generalize mx q = r at *
  clear hs hc
  go_enter Try.func53, Try.ntmps53
  go_wp2_with fail
  refine (H1.out _).mono ?_
  rintro e w1 ⟨rfl, b1⟩
  go_wp2_with fail
  refine (H2.out _).mono ?_
  rintro e w2 ⟨rfl, b2⟩
  go_wp2_with fail
  go_ret
  exact ⟨rfl, b1.trans (b2.mono b1.size)⟩
theorem way_any (k : Nat) (hk : k < 18446744073709551616) (up : Bool) (w : World) : Calls Try.prog 50 #[.int .u64 k, .bool up] w fun e w' => e = .returned (.int .u64 (wayN k up)) ∧ Below w.heap.size w w' := by
  have HM := Lib.hid (fun w => mix_any (if up then k else 18446744073709551615 - k) (by split <;> omega) w)
  rw [show wayN k up = mx (if up then k else 18446744073709551615 - k) from rfl]
  generalize hr : mx (if up then k else 18446744073709551615 - k) = r at *
  clear hr
  cases up
  · simp only [Bool.false_eq_true, if_false] at HM
    have hno := Lib.hid (not_u64 k hk)
    generalize 18446744073709551615 - k = q at *
    go_enter Try.func50, Try.ntmps50
    go_wp2_with fail
    rw [hno.out]
    refine (HM.out _).mono ?_
    rintro e w1 ⟨rfl, b1⟩
    go_wp2_with fail
    go_ret
    exact ⟨rfl, b1⟩
  · simp only [if_true] at HM
    go_enter Try.func50, Try.ntmps50
    go_wp2_with fail
    refine (HM.out _).mono ?_
    rintro e w1 ⟨rfl, b1⟩
    go_wp2_with fail
    go_ret
    exact ⟨rfl, b1⟩
theorem refWay_any (k : Nat) (hk : k < 18446744073709551616) (up : Bool) (w : World) : Calls Try.prog 54 #[.int .u64 k, .bool up] w fun e w' => e = .returned (.int .u64 (wayN k up)) ∧ Below w.heap.size w w' := by
  have HM := Lib.hid (fun w => refMix_any (if up then k else 18446744073709551615 - k) (by split <;> omega) w)
  rw [show wayN k up = mx (if up then k else 18446744073709551615 - k) from rfl]
  generalize hr : mx (if up then k else 18446744073709551615 - k) = r at *
  clear hr
  cases up
  · simp only [Bool.false_eq_true, if_false] at HM
    have hno := Lib.hid (not_u64 k hk)
    generalize 18446744073709551615 - k = q at *
    go_enter Try.func54, Try.ntmps54
    go_wp2_with fail
    rw [hno.out]
    refine (HM.out _).mono ?_
    rintro e w1 ⟨rfl, b1⟩
    go_wp2_with fail
    go_ret
    exact ⟨rfl, b1⟩
  · simp only [if_true] at HM
    go_enter Try.func54, Try.ntmps54
    go_wp2_with fail
    refine (HM.out _).mono ?_
    rintro e w1 ⟨rfl, b1⟩
    go_wp2_with fail
    go_ret
    exact ⟨rfl, b1⟩
/-- a word of bytes: the first eight count -/
def wordN (zs : List Int) : Int := beFrom 0 (zs.take 8)
theorem word_bd {zs : List Int} (hb : Byt zs) (k : Nat) (hk : k ≤ zs.length) (h7 : k ≤ 7) : 0 ≤ beFrom 0 (zs.take k) ∧ beFrom 0 (zs.take k) ≤ 72057594037927935 := by
  have bd := beFrom_bd 0 zs hb (by omega) k hk
  have p : (256 : Int) ^ k ≤ 72057594037927936 := by
    have c : k = 0 ∨ k = 1 ∨ k = 2 ∨ k = 3 ∨ k = 4 ∨ k = 5 ∨ k = 6 ∨ k = 7 := by omega
    rcases c with rfl | rfl | rfl | rfl | rfl | rfl | rfl | rfl <;> decide
  generalize (256 : Int) ^ k = u at *
  omega
theorem word_lt (A : Option Addr) (n c : Nat) (zs : List Int) (w : World) (h : BRow w w.heap.size A zs) (hn : zs.length = n) (hc : n ≤ c) (hm : c ≤ maxLen) (hq : n < 8) :
    Calls Try.prog 51 #[.slice A n c] w fun e w' => e = .returned (.int .u64 (wordN zs)) ∧ w = w' := by
  have H := Lib.hid h
  have HN := Lib.hid hn
  have HW := Lib.hid (show wordN zs = beFrom 0 (zs.take n) by
    unfold wordN
    rw [List.take_of_length_le (by rw [hn]; omega)]; rw [List.take_of_length_le (by rw [hn]; omega)])
  clear h hn
  go_enter Try.func51, Try.ntmps51
  go_wp2_with fail
  go_loop [3, 12] (fun acc i => ∃ k : Nat, k ≤ n ∧ i = .int .i64 k ∧ acc = .int .u64 (beFrom 0 (zs.take k))) (fun _ i => n - (intOf i).toNat)
  case atStart => exact ⟨0, Nat.zero_le _, rfl, rfl⟩
  case round =>
    obtain ⟨k, hk, rfl, rfl⟩ := hrel
    by_cases hlt : k < n
    · have bd := word_bd H.out.1 k (by rw [HN.out]; omega) (by omega)
      have st := Lib.hid (beFrom_step 0 zs k (by rw [HN.out]; omega))
      obtain ⟨b, off, rfl, hb, hcell⟩ := H.out.2 (by rw [HN.out]; omega)
      have hc2 := hcell k (by rw [HN.out]; omega)
      have hby := H.out.1 k
      generalize beFrom 0 (zs.take k) = y at st bd
      generalize zs.getD k 0 = x at st hby hc2
      have hor := or_u64 y x bd.1 bd.2 hby.1 hby.2
      clear hcell
      go_wp2_with fail
      go_round
      case rel => exact ⟨k + 1, by omega, by go_num, by rw [st.out]⟩
      case measure => simp [intOf]; omega
    · obtain rfl : k = n := by omega
      go_wp2_with fail
      go_ret
      exact ⟨ret_int HW.out.symm, rfl⟩
theorem refWord_lt (A : Option Addr) (n c : Nat) (zs : List Int) (w : World) (h : BRow w w.heap.size A zs) (hn : zs.length = n) (hc : n ≤ c) (hm : c ≤ maxLen) (hq : n < 8) :
    Calls Try.prog 55 #[.slice A n c] w fun e w' => e = .returned (.int .u64 (wordN zs)) ∧ Below w.heap.size w w' := by
  have HW := Lib.hid (show wordN zs = beFrom 0 (zs.take n) by
    unfold wordN
    rw [List.take_of_length_le (by rw [hn]; omega)]; rw [List.take_of_length_le (by rw [hn]; omega)])
  have hb := h.1.take n
  have hlm : (zs.take n).length = n := by rw [List.length_take]; omega
  have HS := Lib.hid (fun w => refnum_any (strOfNums (zs.take n)) (zs.take n) rfl hb (by omega) w)
  have hst := fun (src dst e : TypeId) (cap : Nat) => run_str (P := Try.prog) (h.take n) hlm src dst e cap
  clear h hn
  go_enter Try.func55, Try.ntmps55
  go_wp2_with fail
  refine (HS.out _).mono ?_
  rintro e w1 ⟨rfl, rfl⟩
  go_wp2_with fail
  go_ret
  exact ⟨ret_int HW.out.symm, Below.refl _ _⟩
theorem word_eq (A : Option Addr) (n c : Nat) (zs : List Int) (w : World) (h : BRow w w.heap.size A zs) (hn : zs.length = 8) (hc : 8 ≤ c) (hm : c ≤ maxLen)  :
    Calls Try.prog 51 #[.slice A 8 c] w fun e w' => e = .returned (.int .u64 (wordN zs)) ∧ w = w' := by
  have H := Lib.hid h
  have HN := Lib.hid hn
  have HW := Lib.hid (show wordN zs = beFrom 0 (zs.take 8) by
    unfold wordN
    rfl)
  clear h hn
  go_enter Try.func51, Try.ntmps51
  go_wp2_with fail
  go_loop [3, 12] (fun acc i => ∃ k : Nat, k ≤ 8 ∧ i = .int .i64 k ∧ acc = .int .u64 (beFrom 0 (zs.take k))) (fun _ i => 8 - (intOf i).toNat)
  case atStart => exact ⟨0, Nat.zero_le _, rfl, rfl⟩
  case round =>
    obtain ⟨k, hk, rfl, rfl⟩ := hrel
    by_cases hlt : k < 8
    · have bd := word_bd H.out.1 k (by rw [HN.out]; omega) (by omega)
      have st := Lib.hid (beFrom_step 0 zs k (by rw [HN.out]; omega))
      obtain ⟨b, off, rfl, hb, hcell⟩ := H.out.2 (by rw [HN.out]; omega)
      have hc2 := hcell k (by rw [HN.out]; omega)
      have hby := H.out.1 k
      generalize beFrom 0 (zs.take k) = y at st bd
      generalize zs.getD k 0 = x at st hby hc2
      have hor := or_u64 y x bd.1 bd.2 hby.1 hby.2
      clear hcell
      go_wp2_with fail
      go_round
      case rel => exact ⟨k + 1, by omega, by go_num, by rw [st.out]⟩
      case measure => simp [intOf]; omega
    · obtain rfl : k = 8 := by omega
      go_wp2_with fail
      go_ret
      exact ⟨ret_int HW.out.symm, rfl⟩
theorem refWord_eq (A : Option Addr) (n c : Nat) (zs : List Int) (w : World) (h : BRow w w.heap.size A zs) (hn : zs.length = 8) (hc : 8 ≤ c) (hm : c ≤ maxLen)  :
    Calls Try.prog 55 #[.slice A 8 c] w fun e w' => e = .returned (.int .u64 (wordN zs)) ∧ Below w.heap.size w w' := by
  have HW := Lib.hid (show wordN zs = beFrom 0 (zs.take 8) by
    unfold wordN
    rfl)
  have hb := h.1.take 8
  have hlm : (zs.take 8).length = 8 := by rw [List.length_take]; omega
  have HS := Lib.hid (fun w => refnum_any (strOfNums (zs.take 8)) (zs.take 8) rfl hb (by omega) w)
  have hst := fun (src dst e : TypeId) (cap : Nat) => run_str (P := Try.prog) (h.take 8) hlm src dst e cap
  clear h hn
  go_enter Try.func55, Try.ntmps55
  go_wp2_with fail
  refine (HS.out _).mono ?_
  rintro e w1 ⟨rfl, rfl⟩
  go_wp2_with fail
  go_ret
  exact ⟨ret_int HW.out.symm, Below.refl _ _⟩
theorem word_gt (A : Option Addr) (n c : Nat) (zs : List Int) (w : World) (h : BRow w w.heap.size A zs) (hn : zs.length = n) (hc : n ≤ c) (hm : c ≤ maxLen) (hq : 8 < n) :
    Calls Try.prog 51 #[.slice A n c] w fun e w' => e = .returned (.int .u64 (wordN zs)) ∧ w = w' := by
  have H := Lib.hid h
  have HN := Lib.hid hn
  have HW := Lib.hid (show wordN zs = beFrom 0 (zs.take 8) by
    unfold wordN
    rfl)
  clear h hn
  go_enter Try.func51, Try.ntmps51
  go_wp2_with fail
  go_loop [3, 12] (fun acc i => ∃ k : Nat, k ≤ 8 ∧ i = .int .i64 k ∧ acc = .int .u64 (beFrom 0 (zs.take k))) (fun _ i => 8 - (intOf i).toNat)
  case atStart => exact ⟨0, Nat.zero_le _, rfl, rfl⟩
  case round =>
    obtain ⟨k, hk, rfl, rfl⟩ := hrel
    by_cases hlt : k < 8
    · have bd := word_bd H.out.1 k (by rw [HN.out]; omega) (by omega)
      have st := Lib.hid (beFrom_step 0 zs k (by rw [HN.out]; omega))
      obtain ⟨b, off, rfl, hb, hcell⟩ := H.out.2 (by rw [HN.out]; omega)
      have hc2 := hcell k (by rw [HN.out]; omega)
      have hby := H.out.1 k
      generalize beFrom 0 (zs.take k) = y at st bd
      generalize zs.getD k 0 = x at st hby hc2
      have hor := or_u64 y x bd.1 bd.2 hby.1 hby.2
      clear hcell
      go_wp2_with fail
      go_round
      case rel => exact ⟨k + 1, by omega, by go_num, by rw [st.out]⟩
      case measure => simp [intOf]; omega
    · obtain rfl : k = 8 := by omega
      go_wp2_with fail
      go_ret
      exact ⟨ret_int HW.out.symm, rfl⟩
theorem refWord_gt (A : Option Addr) (n c : Nat) (zs : List Int) (w : World) (h : BRow w w.heap.size A zs) (hn : zs.length = n) (hc : n ≤ c) (hm : c ≤ maxLen) (hq : 8 < n) :
    Calls Try.prog 55 #[.slice A n c] w fun e w' => e = .returned (.int .u64 (wordN zs)) ∧ Below w.heap.size w w' := by
  have HW := Lib.hid (show wordN zs = beFrom 0 (zs.take 8) by
    unfold wordN
    rfl)
  have hb := h.1.take 8
  have hlm : (zs.take 8).length = 8 := by rw [List.length_take]; omega
  have HS := Lib.hid (fun w => refnum_any (strOfNums (zs.take 8)) (zs.take 8) rfl hb (by omega) w)
  have hst := fun (src dst e : TypeId) (cap : Nat) => run_str (P := Try.prog) (h.take 8) hlm src dst e cap
  clear h hn
  go_enter Try.func55, Try.ntmps55
  go_wp2_with fail
  refine (HS.out _).mono ?_
  rintro e w1 ⟨rfl, rfl⟩
  go_wp2_with fail
  go_ret
  exact ⟨ret_int HW.out.symm, Below.refl _ _⟩
theorem word_any (A : Option Addr) (n c : Nat) (zs : List Int) (w : World) (h : BRow w w.heap.size A zs) (hn : zs.length = n) (hc : n ≤ c) (hm : c ≤ maxLen) :
    Calls Try.prog 51 #[.slice A n c] w fun e w' => e = .returned (.int .u64 (wordN zs)) ∧ w = w' := by
  rcases Nat.lt_trichotomy n 8 with q | q | q
  · exact word_lt A n c zs w h hn hc hm q
  · subst q
    exact word_eq A 0 c zs w h hn hc hm
  · exact word_gt A n c zs w h hn hc hm q
theorem refWord_any (A : Option Addr) (n c : Nat) (zs : List Int) (w : World) (h : BRow w w.heap.size A zs) (hn : zs.length = n) (hc : n ≤ c) (hm : c ≤ maxLen) :
    Calls Try.prog 55 #[.slice A n c] w fun e w' => e = .returned (.int .u64 (wordN zs)) ∧ Below w.heap.size w w' := by
  rcases Nat.lt_trichotomy n 8 with q | q | q
  · exact refWord_lt A n c zs w h hn hc hm q
  · subst q
    exact refWord_eq A 0 c zs w h hn hc hm
  · exact refWord_gt A n c zs w h hn hc hm q
theorem sesN_inj1 {a b s : Nat} (ha : a < 18446744073709551616) (hb : b < 18446744073709551616) (h : sesN a s = sesN b s) : a = b := by
  have h1 := mx_inj (xor_lt ha (mx_lt _)) (xor_lt hb (mx_lt _)) h
  have := congrArg (· ^^^ mx s) h1
  simpa [Nat.xor_assoc] using this
theorem sesN_inj2 {a s t : Nat} (ha : a < 18446744073709551616) (hs : s < 18446744073709551616) (ht : t < 18446744073709551616) (h : sesN a s = sesN a t) : s = t := by
  have h1 := mx_inj (xor_lt ha (mx_lt _)) (xor_lt ha (mx_lt _)) h
  have h2 := congrArg (a ^^^ ·) h1
  have h3 : mx s = mx t := by simpa [← Nat.xor_assoc] using h2
  exact mx_inj hs ht h3
theorem wayN_inj {a b : Nat} (ha : a < 18446744073709551616) (hb : b < 18446744073709551616) (h : wayN a true = wayN b true) : a = b := mx_inj ha hb h
theorem wayN_apart {a : Nat} (ha : a < 18446744073709551616) : wayN a true ≠ wayN a false := fun h => by
  have := mx_inj ha (by omega : 18446744073709551615 - a < 18446744073709551616) h
  omega
end Go.Proofs.Ytgfbonfoimiknaa
