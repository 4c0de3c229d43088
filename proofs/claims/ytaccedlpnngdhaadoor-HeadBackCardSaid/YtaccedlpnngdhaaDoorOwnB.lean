/- Rows of bytes of a function's own; what the type uint8 says of itself; contract of bytes.Clone. -/
import Derived.Test.YtaccedlpnngdhaaDoorRows
import Derived.WalkLawsBesides
import Derived.WalkSpells
import Derived.Outline
import Derived.Handy
import Derived.Test.YtaccedlpnngdhaaDoorFrVal
import Derived.Test.YtaccedlpnngdhaaDoorApp
import Derived.Lib.SliceRun
import Derived.OwnWalk
import Derived.Laws.OwnMore
namespace Go.Proofs.YtaccedlpnngdhaaDoor
set_option linter.unusedVariables false
open Go.RowKit P

theorem own_base {w : World} {base base' e size n : Nat} {v : Value} {xs : List Value} (h : w.ownsRow base e size v n xs) (hb : base' ≤ base) : w.ownsRow base' e size v n xs := by
  refine ⟨h.1, ?_⟩
  rcases h.2 with h2 | ⟨g, cap, cur, hv, hg, r⟩
  · exact .inl h2
  · exact .inr ⟨g, cap, cur, hv, Nat.le_trans hb hg, r⟩
theorem own_bsl {w : World} {base e n : Nat} {v : Value} {zs : List Int} (h : w.ownsRow base e 1 v n (zs.map (.int .u8))) (hb : Byt zs) : BSl w w.heap.size v zs := by
  have hl : zs.length = n := by simpa using h.1
  rcases h.2 with ⟨rfl, h0⟩ | ⟨g, cap, cur, rfl, _, hg, h1, h2, h3, h4⟩
  · have e0 : zs = [] := List.eq_nil_of_length_eq_zero (by omega)
    subst e0
    exact BSl.nil _ _
  · subst hl
    exact ⟨_, _, rfl, h1, h2, (fun e => by cases e), own_brow ⟨by simp, .inr ⟨g, cap, cur, rfl, by assumption, hg, h1, h2, h3, h4⟩⟩ hb⟩
theorem infoB1 : (Tryd.prog.info? 5).map (fun i => (i.zero, i.size, i.bytes)) = some (some (.int .u8 0), 1, 1) := by kernel_rfl
theorem own_mtB (w : World) (base : Nat) (t : TypeId) (hb : base ≤ w.heap.size) : (w.alloc (.cells #[] t)).ownsRow base t 1 (.slice (some ⟨w.heap.size, 0, none⟩) 0 0) 0 [] :=
  ⟨rfl, .inr ⟨w.heap.size, 0, #[], rfl, hb, heap_alloc_new w (.cells #[] t), Nat.le_refl _, by unfold maxLen; omega, rfl, rfl⟩⟩
theorem bclone_any (B : Nat) (v : Value) (zs : List Int) (w : World) (hB : B ≤ w.heap.size) (h : BSl w B v zs) (hm : zs.length ≤ 140737488355328) :
    Calls Tryd.prog 31 #[v] w fun e w' => ∃ u, e = .returned u ∧ w'.ownsRow w.heap.size 5 1 u zs.length (zs.map (.int .u8)) ∧ Below w.heap.size w w' := by
  obtain ⟨A, c, rfl, h1, h2, hn, h3⟩ := h.ex
  rcases A with _ | a
  · have e0 : zs = [] := by
      rcases Nat.eq_zero_or_pos zs.length with e | e
      · exact List.eq_nil_of_length_eq_zero e
      · obtain ⟨b, off, e, _⟩ := h3.2 e; cases e
    subst e0
    obtain rfl := hn rfl
    clear hn
    have hnil := fun w => Lib.run_eql_slice_nil (P := Tryd.prog) w 22 5 none 0 0 0 0 Tryd.underlying22
    go_enter Tryd.func31, Tryd.ntmps31
    go_wp2
    go_ret
    exact ⟨_, rfl, World.ownsRow_nil _ _ _ _, Below.refl _ _⟩
  · obtain ⟨i0, hi0, hz0, hz1, hz2⟩ := info_parts infoB1
    have HI := Lib.hid hi0
    have HZ := Lib.hid hz0
    have HZ1 := Lib.hid hz1
    have HZ2 := Lib.hid hz2
    have H3 := Lib.hid (h3.more hB)
    clear hi0 hz0 hz1 hz2 h3
    have hnil := fun w => Lib.run_eql_slice_nil (P := Tryd.prog) w 22 5 (some a) zs.length c 0 0 Tryd.underlying22
    go_enter Tryd.func31, Tryd.ntmps31
    go_wp2_with (first
      | (at_builtin
         refine wpList_app _ rfl (.tmp 5) (.tmp 6) _ rfl w.heap.size 5 i0 Tryd.underlying22 HI.out HZ.out HZ1.out HZ2.out (.slice (some ⟨w.heap.size, 0, none⟩) 0 0) 0 [] rfl (own_mtB w w.heap.size 5 (Nat.le_refl _)) w.heap.size (some a) zs.length c zs rfl (H3.out.below ((Below.refl w.heap.size w).alloc (Nat.le_refl _) (.cells #[] 5))) rfl (fun h => by cases h) (by omega) (by simp <;> omega) ?_
         intro v1 u1 own1 g1 _
         have O1 := Lib.hid own1
         have B1 := Lib.hid (((Below.refl w.heap.size w).alloc (Nat.le_refl _) (.cells #[] 5)).grown g1 (by simp <;> omega) (fun k hk => ((own_mtB w w.heap.size 5 (Nat.le_refl _)).lt k hk).1))
         clear own1 g1))
    go_ret
    exact ⟨_, rfl, by simpa using O1.out, B1.out⟩

end Go.Proofs.YtaccedlpnngdhaaDoor
