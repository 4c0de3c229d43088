/- The document's joined of no ranges. -/
import Derived.Test.YtkpkgegonfcgnaaRefJoin
import Derived.OwnWalk
namespace Go.Proofs.Ytkpkgegonfcgnaa
set_option linter.unusedVariables false
open Go.Shelf Go.Proofs Go.RowKit P

theorem sort_zero (p : Option Addr) (c Bs : Nat) (w : World) :
    Calls Try.prog 60 #[.iface 23 (.slice p 0 c), .func (.func 61) #[] #[.pointer (some ⟨Bs, 0, none⟩)]] w (fun e w' => e = .returned (.tuple #[]) ∧ ∃ os, w' = Sort.grow w os) := by
  obtain ⟨i, hi, hd⟩ := Option.map_eq_some_iff.1 sl_info
  obtain ⟨ie, hie, he⟩ := Option.map_eq_some_iff.1 el_info
  have hS := Any.sort_Slice_tiny sl6 23 61 i ie hi hd (by kernel_rfl) hie 25 (fun _ => by kernel_rfl) p 0 c (by omega) 68
    (by kernel_rfl) (.func 61) #[] #[.pointer (some ⟨Bs, 0, none⟩)] w
  exact hS

set_option maxRecDepth 100000 in
set_option maxHeartbeats 1600000 in
theorem joined_nil (A : Option Addr) (c : Nat) (w : World) (hA : A = none → c = 0) :
    Calls Try.prog 51 #[.slice A 0 c] w (JoinedPost [] w) := by
  have hbox := (Below.refl w.heap.size w).alloc (Nat.le_refl _) (.cells #[.slice A 0 c] 23)
  have HBX := Lib.hid hbox
  obtain ⟨i0, hi0, hz0, hz1, hz2⟩ := info_parts infoR
  have HI := Lib.hid hi0
  have HZ1 := Lib.hid hz1
  have HA := Lib.hid hA
  have own0 : ((w.alloc (.cells #[.slice A 0 c] 23)).alloc (.cells #[] 61)).ownsRow (w.heap.size + 1) 61 2 (.slice (some ⟨w.heap.size + 1, 0, none⟩) 0 0) 0 [] :=
    ⟨rfl, .inr ⟨w.heap.size + 1, 0, #[], rfl, Nat.le_refl _, by have := heap_alloc_new (w.alloc (.cells #[.slice A 0 c] 23)) (.cells #[] 61); simpa using this, Nat.le_refl _, by unfold maxLen; omega, rfl, rfl⟩⟩
  have O0 := Lib.hid own0
  have hx0 : ((w.alloc (.cells #[.slice A 0 c] 23)).alloc (.cells #[] 61)).heap[w.heap.size]? = some (.cells #[.slice A 0 c] 23 (0, 0)) := by
    show ((w.heap.push _).push _)[w.heap.size]? = _; rw [Array.getElem?_push]; simp
  have HX0 := Lib.hid hx0
  clear hA hbox hi0 hz0 hz1 hz2 own0 hx0
  go_enter Try.func51, Try.ntmps51
  go_wp2_with (first
    | (at_builtin
       refine wpList_append_fits_any _ rfl (.tmp 7) (.tmp 8) _ rfl (w.heap.size + 1) 61 i0 2 Try.underlying23 HI.out HZ1.out (w.heap.size + 1) 0 0 [] rfl O0.out A 0 c [] rfl rfl (fun e => ⟨rfl, HA.out e⟩) (by intro _ _ j u h; simp at h) (by simp) (Nat.le_refl _) ?_
       intro w1 own1 g1
       have hx1 := Lib.hid ((g1.block w.heap.size (by simp; omega) (by simp)).trans HX0.out)
       have HB1 := Lib.hid ((HBX.out.alloc (by simp) (.cells #[] 61)).grown g1 (by simp; omega) (fun k hk => by have := Option.some.inj hk; omega))
       have f0 := frozen_of_row' hx1.out 0
       have c1 : w1.cell? ⟨w.heap.size, 0, none⟩ = some (.slice A 0 c) := by rw [cell_of_row _ _ 0 _ _ _ hx1.out]; rfl
       have cs := cell_set hx1.out (.slice (some ⟨w.heap.size + 1, 0, none⟩) 0 0)
       have HBS := Lib.hid (HB1.out.setCell (p := ⟨w.heap.size, 0, none⟩) (Nat.le_refl _) (.slice (some ⟨w.heap.size + 1, 0, none⟩) 0 0))
       clear own1 g1)
    | (go_at_call 60
       refine (sort_zero (some ⟨w.heap.size + 1, 0, none⟩) 0 w.heap.size _).mono ?_
       rintro e w2 ⟨rfl, os, hw2⟩
       have c2 := (Sort.cell?_grow _ os _ (World.block_lt_of_cell? _ _ cs)).trans cs
       rw [← hw2] at c2
       have hb2 : Below w.heap.size w w2 := by
         have hs := HBS.out.size
         have e2 : Below w.heap.size (w1.setCell ⟨w.heap.size, 0, none⟩ (.slice (some ⟨w.heap.size + 1, 0, none⟩) 0 0)) w2 := by
           rw [hw2]
           exact ⟨rfl, rfl, rfl, by simp, fun k hk => Sort.heap_grow_old _ os (by omega)⟩
         exact HBS.out.trans e2
       have HB2 := Lib.hid hb2
       clear hb2 hw2))
  go_loopg [3, 16] 0 (fun gg v i wr => v = .slice none 0 0 ∧ i = .int .i64 0 ∧ wr = w2)
  case atStart => exact ⟨rfl, rfl, rfl⟩
  case round =>
    obtain ⟨rfl, rfl, rfl⟩ := hrel
    go_wp2_with fail
    go_ret
    exact ⟨_, [], rfl, OwnR.nil _ _ _, trivial, fun m => Iff.rfl, HB2.out⟩
theorem own_noneR {w : World} {base : Nat} {t : TypeId} {A : Option Addr} {n c : Nat} {ps : List (Int × Int)} (h : OwnR w base t (.slice A n c) ps) (hA : A = none) : c = 0 := by
  subst hA
  rcases h.2 with ⟨e, _⟩ | ⟨g, cap, cur, e, _⟩
  · injection e
  · injection e with e1
    cases e1
theorem joined_all (A : Option Addr) (n c : Nat) (D : List (Int × Int)) (w : World) (h : RRow w w.heap.size A D) (hl : D.length = n) (hok : ∀ x ∈ D, okR x) (hA : A = none → c = 0) (hm : n * 16 ≤ 140737488355328) :
    Calls Try.prog 51 #[.slice A n c] w (JoinedPost D w) := by
  by_cases h1 : 1 ≤ n
  · exact joined_any A n c D w h hl hok h1 hm
  · obtain rfl : n = 0 := by omega
    obtain rfl : D = [] := List.eq_nil_of_length_eq_zero hl
    exact joined_nil A c w hA
end Go.Proofs.Ytkpkgegonfcgnaa
