/- A writer of heads in the midst; contract of package head: first. -/
import Derived.Test.YtaccedlpnngdhaaDoorHdCheck
import Derived.Test.YtaccedlpnngdhaaDoorOwnB
namespace Go.Proofs.YtaccedlpnngdhaaDoor
set_option linter.unusedVariables false
open Go.RowKit P

/-- the head's variable lies in the call's first block, what is written in a row of its own behind it -/
structure WrAt (w : World) (T : TypeId) (cs : Array Value) (v : Value) (xs : List Int) (w' : World) : Prop where
  be : Below w.heap.size w w'
  f : w'.heap[w.heap.size]? = some (.cells cs T (0, 0))
  own : w'.ownsRow (w.heap.size + 1) 5 1 v xs.length (xs.map (.int .u8))
  byt : Byt xs
theorem WrAt.on {w w' w2 : World} {T : TypeId} {cs : Array Value} {v : Value} {xs : List Int} (h : WrAt w T cs v xs w') (hb : Below w'.heap.size w' w2) : WrAt w T cs v xs w2 :=
  ⟨h.be.trans (hb.mono h.be.size), (hb.block _ (lt_of_block h.f)).trans h.f, World.ownsRow.kept h.own (⟨hb.os, hb.tape, hb.output, hb.size, fun k hk _ => hb.block k hk⟩ : w'.grownBy w2 none) (by cases hv : v.ownBlock with | none => exact .inl rfl | some k => exact .inr (by simp)), h.byt⟩
theorem WrAt.alloc {w w' : World} {T : TypeId} {cs : Array Value} {v : Value} {xs : List Int} (h : WrAt w T cs v xs w') (o : Obj) : WrAt w T cs v xs (w'.alloc o) := h.on ((Below.refl _ _).alloc (Nat.le_refl _) o)
theorem WrAt.app {w w' w2 : World} {T : TypeId} {cs : Array Value} {v v2 : Value} {xs ys : List Int} (h : WrAt w T cs v xs w') (o2 : w2.ownsRow (w.heap.size + 1) 5 1 v2 (xs.length + ys.length) (xs.map (.int .u8) ++ ys.map (.int .u8))) (g : w'.grownBy w2 v.ownBlock) (hy : Byt ys) : WrAt w T cs v2 (xs ++ ys) w2 := by
  have hv : ∀ k, v.ownBlock = some k → w.heap.size + 1 ≤ k := fun k e => (World.ownsRow.lt h.own k e).1
  refine ⟨⟨g.os.trans h.be.os, g.tape.trans h.be.tape, g.output.trans h.be.output, Nat.le_trans h.be.size g.size, fun k hk => (g.block k (Nat.lt_of_lt_of_le hk h.be.size) (fun e => by have := hv k e.symm; omega)).trans (h.be.block k hk)⟩, (g.block _ (lt_of_block h.f) (fun e => by have := hv _ e.symm; omega)).trans h.f, ?_, h.byt.append hy⟩
  rw [List.length_append, List.map_append]
  exact o2
theorem WrAt.ownN {w w' : World} {T : TypeId} {cs : Array Value} {v : Value} {xs : List Int} (h : WrAt w T cs v xs w') {n : Nat} (e : xs.length = n) : w'.ownsRow (w.heap.size + 1) 5 1 v n (xs.map (.int .u8)) := e ▸ h.own
theorem WrAt.appN {w w' w2 : World} {T : TypeId} {cs : Array Value} {v v2 : Value} {xs ys : List Int} {n m : Nat} (h : WrAt w T cs v xs w') (e1 : xs.length = n) (e2 : ys.length = m) (o2 : w2.ownsRow (w.heap.size + 1) 5 1 v2 (n + m) (xs.map (.int .u8) ++ ys.map (.int .u8))) (g : w'.grownBy w2 v.ownBlock) (hy : Byt ys) : WrAt w T cs v2 (xs ++ ys) w2 := h.app (by rw [e1, e2]; exact o2) g hy
theorem WrAt.lt {w w' : World} {T : TypeId} {cs : Array Value} {v : Value} {xs : List Int} (h : WrAt w T cs v xs w') : w.heap.size + 1 ≤ w'.heap.size := lt_of_block h.f
theorem WrAt.base {w w' : World} {T : TypeId} {cs : Array Value} {v : Value} {xs : List Int} (h : WrAt w T cs v xs w') (o : Obj) : w.heap.size + 1 ≤ (w'.alloc o).heap.size := by have := h.lt; simp; omega
theorem wr_start {w w1 : World} {T : TypeId} {cs : Array Value} (hb : Below w.heap.size w w1) (hf : w1.heap[w.heap.size]? = some (.cells cs T (0, 0))) (o : Obj) (x y : Int) (hx : 0 ≤ x ∧ x ≤ 255) (hy : 0 ≤ y ∧ y ≤ 255) (v : Value) (W : World) (hv : v = .slice (some ⟨w1.heap.size + 1, 0, none⟩) 2 2) (hW : W = ((w1.alloc o).alloc (.cells #[.int .u8 x, .int .u8 y] 5)).drew) : WrAt w T cs v [x, y] W := by
  subst hv hW
  have hlt := lt_of_block hf
  have b1 : Below w1.heap.size w1 (w1.alloc o) := (Below.refl _ _).alloc (Nat.le_refl _) o
  have s1 : (w1.alloc o).heap.size = w1.heap.size + 1 := by simp
  have b2 : Below w1.heap.size w1 ((w1.alloc o).alloc (.cells #[.int .u8 x, .int .u8 y] 5)).drew := (b1.alloc (by rw [s1]; omega) _).drew
  refine ⟨hb.trans (b2.mono hb.size), (b2.block _ hlt).trans hf, ?_, byt_cons hx (byt1 hy)⟩
  refine ⟨rfl, .inr ⟨w1.heap.size + 1, 2, #[.int .u8 x, .int .u8 y], rfl, by omega, ?_, Nat.le_refl _, by unfold maxLen; omega, rfl, rfl⟩⟩
  have := heap_alloc_new (w1.alloc o) (.cells #[.int .u8 x, .int .u8 y] 5)
  rwa [s1] at this
theorem wr_one (w : World) (z : Int) (t : TypeId) (hz : 0 ≤ z ∧ z ≤ 255) : BRow (w.alloc (.cells #[.int .u8 z] t)) (w.heap.size + 1) (some ⟨w.heap.size, 0, none⟩) [z] :=
  ⟨byt1 hz, fun _ => ⟨_, 0, rfl, by omega, fun j hj => by
    obtain rfl : j = 0 := by simpa using hj
    simp⟩⟩
theorem wrap_u8 (x : Int) : IntKind.u8.wrap x = x % 256 := by
  first | rw [IntKind.wrap_u8] | (simp [IntKind.wrap]; rfl) | (unfold IntKind.wrap; simp [IntKind.bits, IntKind.signed])

theorem first_any (kd to fr num size z : Int) (d : Value) (k0 : 0 ≤ kd) (k2 : kd ≤ 2) (hs : kd ≠ 1 → 1 ≤ size ∧ size ≤ 4) (hz : (if kd = 2 then 63 + size else if kd = 0 then 191 + size else 240) = z) (w : World) :
    Calls Tryd.prog 17 #[.agg #[.int .i64 kd, .int .i64 to, .int .i64 fr, d, .int .i64 num, .int .i64 size]] w fun e w' => e = .returned (.int .u8 z) ∧ w' = w.alloc (.cells #[.int .i64 kd, .int .i64 to, .int .i64 fr, d, .int .i64 num, .int .i64 size] 24) := by
  subst hz
  rcases (show kd = 0 ∨ kd = 1 ∨ kd = 2 by omega) with rfl | rfl | rfl
  · rcases (show size = 1 ∨ size = 2 ∨ size = 3 ∨ size = 4 by have := hs (by omega); omega) with rfl | rfl | rfl | rfl
    all_goals
      clear hs
      go_enter Tryd.func17, Tryd.ntmps17
      go_wp2
      go_ret
      exact ⟨rfl, rfl⟩
  · clear hs
    go_enter Tryd.func17, Tryd.ntmps17
    go_wp2
    go_ret
    exact ⟨rfl, rfl⟩
  · rcases (show size = 1 ∨ size = 2 ∨ size = 3 ∨ size = 4 by have := hs (by omega); omega) with rfl | rfl | rfl | rfl
    all_goals
      clear hs
      go_enter Tryd.func17, Tryd.ntmps17
      go_wp2
      go_ret
      exact ⟨rfl, rfl⟩
end Go.Proofs.YtaccedlpnngdhaaDoor
