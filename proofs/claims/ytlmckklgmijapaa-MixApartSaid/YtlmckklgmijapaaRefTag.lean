/- The document's answers on seals: the tag (tagOf). -/
import Derived.Test.YtlmckklgmijapaaRefMix
import Derived.Test.YtlmckklgmijapaaBig
namespace Go.Proofs.Ytlmckklgmijapaa
set_option linter.unusedVariables false
open Go.RowKit P

theorem tagP_lt (t : Nat) (zs : List Int) : tagP t zs < 18446744073709551616 := by unfold tagP; exact mx_lt _
theorem tags_lt (t : Nat) (ht : t < 18446744073709551616) (L : List (List Int)) : L.foldl tagP t < 18446744073709551616 := by
  induction L generalizing t with
  | nil => exact ht
  | cons a L ih => rw [List.foldl_cons]; exact ih _ (tagP_lt _ _)
/-- the tag behind so many bytes of a part -/
def tagB (t : Nat) (zs : List Int) : Nat := zs.foldl (fun h z => mx (z.toNat ^^^ h)) t
theorem tagB_cons (t : Nat) (z : Int) (zs : List Int) : tagB t (z :: zs) = tagB (mx (z.toNat ^^^ t)) zs := by unfold tagB; rw [List.foldl_cons]
theorem tagB_lt (t : Nat) (ht : t < 18446744073709551616) (zs : List Int) : tagB t zs < 18446744073709551616 := by
  induction zs generalizing t with
  | nil => exact ht
  | cons a L ih => rw [tagB_cons]; exact ih _ (mx_lt _)
theorem tagB_snoc (t : Nat) (zs : List Int) (k : Nat) (h : k < zs.length) : tagB t (zs.take (k + 1)) = mx ((zs.getD k 0).toNat ^^^ tagB t (zs.take k)) := by
  unfold tagB
  rw [take_snoc zs k h, List.foldl_append, List.foldl_cons, List.foldl_nil]
theorem tags_snoc (t : Nat) (L : List (List Int)) (k : Nat) (h : k < L.length) : (L.take (k + 1)).foldl tagP t = tagP ((L.take k).foldl tagP t) (L.getD k []) := by
  rw [List.take_succ_eq_append_getElem h, List.foldl_append, List.getD_eq_getElem?_getD, List.getElem?_eq_getElem h, List.foldl_cons, List.foldl_nil, Option.getD_some]

set_option maxHeartbeats 400000 in
theorem refTag_any (key : Nat) (hk : key < 18446744073709551616) (n : Int) (L : List (List Int)) (g cap : Nat) (w : World)
    (hL : ∀ k, k < L.length → w.cell? ⟨g, k, none⟩ = some (.string (strOfNums (L.getD k []))) ∧ Byt (L.getD k []) ∧ (L.getD k []).length ≤ 140737488355328) (hg : g < w.heap.size) (hcap : L.length ≤ cap) (hm : cap ≤ maxLen) (hl : L.length ≤ 10) :
    Calls Try.prog 22 #[.int .u64 key, .int .i64 n, .slice (some ⟨g, 0, none⟩) L.length cap] w fun e w' => e = .returned (.string (strOfNums (lowB 8 (L.foldl tagP (wd n ^^^ mx key) : Nat)))) ∧ Below w.heap.size w w' := by
  have hwd : IntKind.u64.wrap n = (wd n : Int) := by rw [IntKind.wrap_u64]; unfold wd; omega
  have hxo : bits .xor .u64 (wd n : Int) (mx key : Int) = ((wd n ^^^ mx key : Nat) : Int) := bits_xor_u64_nat _ _ (wd_lt n) (mx_lt key)
  have hq : wd n ^^^ mx key < 18446744073709551616 := xor_lt (wd_lt n) (mx_lt key)
  have HMS : Hid (∀ w, Calls Try.prog 11 #[.int .u64 key] w fun e w' => e = .returned (.int .u64 (mx key)) ∧ Below w.heap.size w w') := Lib.hid (fun w => refMix_any key hk w)
  generalize wd n ^^^ mx key = t at *
  generalize wd n = a at *
  generalize mx key = m at *
  have HQ := Lib.hid hq
  have HL := Lib.hid hL
  have HG := Lib.hid hg
  clear hq hL hk hg
  go_enter Try.func22, Try.ntmps22
  go_wp2_with fail
  refine (HMS.out _).mono ?_
  rintro e w1 ⟨rfl, b1⟩
  have B1 := Lib.hid b1
  clear b1
  go_wp2_with fail
  clear hwd hxo
  go_loopw [7, 18] (fun h i wr => ∃ k : Nat, k ≤ L.length ∧ h = .int .u64 (((L.take k).foldl tagP t : Nat) : Int) ∧ i = .int .i64 k ∧ Below w.heap.size w wr) (fun _ i _ => L.length - (intOf i).toNat)
  case atStart => exact ⟨0, Nat.zero_le _, rfl, rfl, B1.out⟩
  case round =>
    obtain ⟨k, hkl, rfl, rfl, hb⟩ := hrel
    have BR := Lib.hid hb
    clear hb
    have hy := tags_lt t HQ.out (L.take k)
    by_cases hlt : k < L.length
    · have ST := Lib.hid (tags_snoc t L k hlt)
      obtain ⟨hc, hby, hbl⟩ := HL.out k hlt
      have hc' : wr.cell? ⟨g, k, none⟩ = some (.string (strOfNums (L.getD k []))) := (BR.out.cell HG.out).trans hc
      clear hc
      generalize (L.take k).foldl tagP t = y at *
      obtain ⟨zs, hz⟩ : ∃ zs, L.getD k [] = zs := ⟨_, rfl⟩
      rw [hz] at hc' hby hbl ST
      have hsz : (strOfNums zs).size = zs.length := strOfNums_size zs
      have hget := str_get hby
      obtain ⟨S, hS⟩ : ∃ S, strOfNums zs = S := ⟨_, rfl⟩
      rw [hS] at hc' hsz
      have HGET : Hid (∀ j (h : j < S.size), ((S[j]'h).toNat : Int) = zs.getD j 0) := Lib.hid (by subst hS; exact hget)
      have HBY := Lib.hid hby
      have HSZ := Lib.hid hsz
      have HY := Lib.hid hy
      have hs47 : S.size ≤ 140737488355328 := by omega
      clear hget hby hz hS hsz hbl hy
      obtain ⟨wq, hwq⟩ : ∃ q, q = wr := ⟨_, rfl⟩
      subst hwq
      go_wp2_with fail
      go_loopw [7, 10] (fun h i wr => ∃ j : Nat, j ≤ S.size ∧ h = .int .u64 ((tagB y (zs.take j) : Nat) : Int) ∧ i = .int .i64 j ∧ Below wq.heap.size wq wr) (fun _ i _ => S.size - (intOf i).toNat)
      case atStart => exact ⟨0, Nat.zero_le _, rfl, rfl, Below.refl _ _⟩
      case round =>
        obtain ⟨j, hj, rfl, rfl, hb2⟩ := hrel
        have B2 := Lib.hid hb2
        clear hb2
        have hv := tagB_lt y HY.out (zs.take j)
        by_cases hjt : j < S.size
        · have SB := Lib.hid (tagB_snoc y zs j (by rw [← HSZ.out]; exact hjt))
          have hx := HGET.out j hjt
          have hbz := HBY.out j
          generalize zs.getD j 0 = z at *
          generalize tagB y (zs.take j) = v at *
          have hxo : bits .xor .u64 z (v : Int) = ((z.toNat ^^^ v : Nat) : Int) := by
            have := bits_xor_u64_nat z.toNat v (by omega) hv
            rwa [show ((z.toNat : Nat) : Int) = z by omega] at this
          have HM := Lib.hid (fun w => refMix_any (z.toNat ^^^ v) (xor_lt (by omega) hv) w)
          generalize z.toNat ^^^ v = q at *
          generalize hmq : mx q = r at *
          clear hmq hv
          go_wp2_with fail
          refine (HM.out _).mono ?_
          rintro e w3 ⟨rfl, b3⟩
          go_wp2_with fail
          go_roundw
          case rel => exact ⟨j + 1, by omega, by rw [SB.out], by go_num, B2.out.trans (b3.mono B2.out.size)⟩
          case measure => simp [intOf]; omega
        · obtain rfl : j = S.size := by omega
          rw [List.take_of_length_le (by rw [HSZ.out]; exact Nat.le_refl _)] at hv
          have ht : tagB y (zs.take S.size) = tagB y zs := by rw [List.take_of_length_le (by rw [HSZ.out]; exact Nat.le_refl _)]
          have hTP : tagP y zs = mx (tagB y zs ^^^ (256 * zs.length) % 18446744073709551616) := by unfold tagP tagB; rw [Nat.mul_comm]
          rw [ht]
          have HP := Lib.hid hTP
          clear hTP ht
          have hw0 : IntKind.i64.wrap (256 * (S.size : Int)) = 256 * (S.size : Int) := by rw [IntKind.wrap_i64]; omega
          have hw1 : IntKind.u64.wrap (256 * (S.size : Int)) = 256 * (S.size : Int) := by rw [IntKind.wrap_u64]; omega
          have hmod : (256 * zs.length) % 18446744073709551616 = 256 * S.size := by have := HSZ.out; omega
          rw [hmod] at HP
          generalize tagB y zs = v at *
          have hxo : bits .xor .u64 (v : Int) (256 * (S.size : Int)) = ((v ^^^ (256 * S.size) : Nat) : Int) := by
            have := bits_xor_u64_nat v (256 * S.size) hv (by omega)
            rwa [show ((256 * S.size : Nat) : Int) = 256 * (S.size : Int) by omega] at this
          have HM := Lib.hid (fun w => refMix_any (v ^^^ (256 * S.size)) (xor_lt hv (by omega)) w)
          generalize v ^^^ (256 * S.size) = q at *
          generalize hmq : mx q = r at *
          clear hmq hv hmod
          go_wp2_with fail
          refine (HM.out _).mono ?_
          rintro e w3 ⟨rfl, b3⟩
          go_wp2_with fail
          go_roundw
          case rel => exact ⟨k + 1, by omega, by rw [ST.out, HP.out], by go_num, BR.out.trans ((B2.out.trans (b3.mono B2.out.size)).mono BR.out.size)⟩
          case measure => simp [intOf]; omega
    · obtain rfl : k = L.length := by omega
      have HB := Lib.hid (fun w => big_any ((L.foldl tagP t : Nat) : Int) 8 (by omega) (by rw [List.take_of_length_le (Nat.le_refl _)] at hy; omega) (by decide) w)
      rw [List.take_of_length_le (Nat.le_refl _)]
      go_wp2_with (go_at_call 24; refine (HB.out _).mono ?_; rintro e w' ⟨rfl, hb⟩)
      go_ret
      exact ⟨rfl, BR.out.trans (hb.mono BR.out.size)⟩
end Go.Proofs.Ytlmckklgmijapaa
