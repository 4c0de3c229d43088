/- The walk of HeadDecodes, over what is asked of the two readers. -/
import Derived.Test.YtaccedlpnngdhaaHdSameL
namespace Go.Proofs.Ytaccedlpnngdhaa
set_option linter.unusedVariables false
open Go.RowKit P

set_option maxRecDepth 100000 in
set_option maxHeartbeats 600000 in
theorem headDecodes_core (hDEC : ∀ (A : Option Addr) (n c : Nat) (zs : List Int) (w : World), BRow w w.heap.size A zs → zs.length = n → n ≤ c → c ≤ maxLen → (A = none → c = 0) → n ≤ 140737488355328 → Calls Try.prog 4 #[.slice A n c] w (HdDec zs w))
    (hREF : ∀ (zs : List Int) (hy : Byt zs) (w : World), Calls Try.prog 5 #[.string (strOfNums zs)] w (HdDec zs w)) (a0 : Option Addr) (len cap : Nat) (z0 : List Int) (W : World) (h : IsRow .u8 W a0 len cap z0) (hr : cap * 1 ≤ 140737488351232) :
    Calls Try.prog 3 #[.slice a0 len cap] W fun e w' => e = .returned (.bool true) ∧ Below W.heap.size W w' := by
  obtain ⟨hb, hl, hc, hm⟩ := InRow.brow h
  have hn : a0 = none → cap = 0 := by
    rcases h with ⟨_, _, h, _⟩ | ⟨x, h, _⟩
    · exact fun _ => h
    · intro e; rw [h] at e; cases e
  obtain ⟨zs, hz⟩ : ∃ zs, z0.take len = zs := ⟨_, rfl⟩
  rw [hz] at hb hl
  have HB := Lib.hid hb
  have HL := Lib.hid hl
  have HDEC := Lib.hid (hDEC a0 len cap zs W hb hl hc hm hn (by omega))
  have HREF := Lib.hid (hREF zs hb.1)
  obtain ⟨S, hS⟩ : ∃ S, strOfNums zs = S := ⟨_, rfl⟩
  rw [hS] at HREF
  have HSS := Lib.hid hS
  clear h hb hl hz hn hS hREF hDEC
  cases hd : decH zs with
  | error x =>
    have HD := Lib.hid hd
    clear hd
    go_enter Try.func3, Try.ntmps3
    go_wp2_with (first
      | (go_at_call 6; refine (lsameHd_eq _ _ hd0 _ (HdVal.zero _ _) (HdVal.zero _ _)).mono ?_; rintro e w3 ⟨rfl, b3⟩; have B3 := Lib.hid (B2.out.trans (b3.mono B2.out.size)); clear b3)
      | (go_at_call 5; refine (HREF.out _).mono ?_; rintro e w2 hD; obtain ⟨b2, hm2⟩ := hD; rw [HD.out] at hm2; obtain rfl := hm2; have b2z := b2.alloc b2.size (.cells #[.int .i64 0, .int .i64 0, .int .i64 0, .slice none 0 0, .int .i64 0, .int .i64 0] 24); have B2 := Lib.hid (B1.out.trans (b2z.mono B1.out.size)); have F1 := Lib.hid ((b2z.block _ (lt_of_block F0.out)).trans F0.out); have F2 := Lib.hid (heap_alloc_new w2 (.cells #[.int .i64 0, .int .i64 0, .int .i64 0, .slice none 0 0, .int .i64 0, .int .i64 0] 24)); obtain ⟨q0, q1, q2, q3, q4, q5, _⟩ := bk6 F1.out; obtain ⟨y0, y1, y2, y3, y4, y5, _⟩ := bk6 F2.out; clear b2 b2z s1)
      | (go_at_call 4; refine HDEC.out.mono ?_; rintro e w1 hD; obtain ⟨b1, hm1⟩ := hD; rw [HD.out] at hm1; obtain rfl := hm1; have B1 := Lib.hid (b1.alloc b1.size (.cells #[.int .i64 0, .int .i64 0, .int .i64 0, .slice none 0 0, .int .i64 0, .int .i64 0] 24)); have F0 := Lib.hid (heap_alloc_new w1 (.cells #[.int .i64 0, .int .i64 0, .int .i64 0, .slice none 0 0, .int .i64 0, .int .i64 0] 24)); have s1 := run_str (P := Try.prog) (HB.out.below B1.out) HL.out 22 9 5 cap Try.underlying22 Try.underlying5 Try.underlying9; rw [HSS.out] at s1; clear b1))
    go_ret
    exact ⟨by simp, B3.out⟩
  | ok p =>
    obtain ⟨h, t⟩ := p
    have HD := Lib.hid hd
    clear hd
    go_enter Try.func3, Try.ntmps3
    go_wp2_with (first
      | (go_at_call 6; refine (lsameHd_eq _ _ h _ V1.out V2.out).mono ?_; rintro e w3 ⟨rfl, b3⟩; have B3 := Lib.hid (B2.out.trans (b3.mono B2.out.size)); clear b3)
      | (go_at_call 5; refine (HREF.out _).mono ?_; rintro e w2 hD; obtain ⟨b2, hm2⟩ := hD; rw [HD.out] at hm2; obtain ⟨v2, rfl, hv2⟩ := hm2; obtain ⟨d2, rfl, hd2⟩ := hv2.ex; obtain ⟨Ad2, cd2, hda2, _, _, _, _⟩ := hd2.ex; subst hda2; have a2 := (Below.refl w2.heap.size w2).alloc (Nat.le_refl _) (.cells #[.int .i64 h.kind, .int .i64 h.to, .int .i64 h.frm, .slice Ad2 h.tok.length cd2, .int .i64 h.num, .int .i64 h.size] 24); have b2z := b2.alloc b2.size (.cells #[.int .i64 h.kind, .int .i64 h.to, .int .i64 h.frm, .slice Ad2 h.tok.length cd2, .int .i64 h.num, .int .i64 h.size] 24); have B2 := Lib.hid (B1.out.trans (b2z.mono B1.out.size)); have F1 := Lib.hid ((b2z.block _ (lt_of_block F0.out)).trans F0.out); have F2 := Lib.hid (heap_alloc_new w2 (.cells #[.int .i64 h.kind, .int .i64 h.to, .int .i64 h.frm, .slice Ad2 h.tok.length cd2, .int .i64 h.num, .int .i64 h.size] 24)); have V1 := Lib.hid (V0.out.on b2z); have V2 := Lib.hid (hv2.on a2); obtain ⟨q0, q1, q2, q3, q4, q5, _⟩ := bk6 F1.out; obtain ⟨y0, y1, y2, y3, y4, y5, _⟩ := bk6 F2.out; clear b2 b2z s1 a2 hv2 hd2)
      | (go_at_call 4; refine HDEC.out.mono ?_; rintro e w1 hD; obtain ⟨b1, hm1⟩ := hD; rw [HD.out] at hm1; obtain ⟨v1, rfl, ho1⟩ := hm1; obtain ⟨d1, rfl, hd1⟩ := ho1.ex; obtain ⟨Ad1, cd1, hda1, _, _, _, _⟩ := hd1.ex; subst hda1; have B1 := Lib.hid (b1.alloc b1.size (.cells #[.int .i64 h.kind, .int .i64 h.to, .int .i64 h.frm, .slice Ad1 h.tok.length cd1, .int .i64 h.num, .int .i64 h.size] 24)); have F0 := Lib.hid (heap_alloc_new w1 (.cells #[.int .i64 h.kind, .int .i64 h.to, .int .i64 h.frm, .slice Ad1 h.tok.length cd1, .int .i64 h.num, .int .i64 h.size] 24)); have V0 := Lib.hid (ho1.on ((Below.refl w1.heap.size w1).alloc (Nat.le_refl _) (.cells #[.int .i64 h.kind, .int .i64 h.to, .int .i64 h.frm, .slice Ad1 h.tok.length cd1, .int .i64 h.num, .int .i64 h.size] 24))); have s1 := run_str (P := Try.prog) (HB.out.below B1.out) HL.out 22 9 5 cap Try.underlying22 Try.underlying5 Try.underlying9; rw [HSS.out] at s1; clear b1 ho1 hd1))
    go_ret
    exact ⟨by simp, B3.out⟩
end Go.Proofs.Ytaccedlpnngdhaa
