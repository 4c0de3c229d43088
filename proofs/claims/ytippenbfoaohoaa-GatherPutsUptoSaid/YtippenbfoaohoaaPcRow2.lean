/- Rows of pieces of the call's own: a piece with its bytes pushed; bytes appended to the last one. Nothing of the program's but the piece's shape. -/
import Derived.Test.YtippenbfoaohoaaPcRow
namespace Go.Proofs.Ytippenbfoaohoaa
set_option linter.unusedVariables false
open Go.RowKit P

/-- a piece with bytes of the call's own, appended -/
theorem RowP.pushC {w w' : World} {base : Nat} {v v' : Value} {cs : List PC} {p : PC} (h : RowP w base v cs) (hp : p.ok w base) (hap : ∀ q ∈ cs, q.val.ownBlock = none ∨ q.val.ownBlock ≠ p.val.ownBlock) (own : w'.ownsRow base 55 2 v' (cs.length + 1) (cellsP cs ++ cellsP [p])) (g : w.grownBy w' v.ownBlock) : RowP w' base v' (cs ++ [p]) := by
  have key : ∀ q : PC, q.ok w base → q.ok w' base := fun q hq => hq.kept g (by
    rcases own_apart hq.own h.own (by decide) with e | e
    · exact .inl e
    · exact .inr e)
  refine ⟨?_, fun q hq => ?_, List.pairwise_append.2 ⟨h.apart, List.pairwise_singleton _ _, fun q hq r hr => ?_⟩⟩
  · rw [List.length_append, cellsP_app]
    exact own
  · rcases List.mem_append.1 hq with hq | hq
    · exact key q (h.oks q hq)
    · obtain rfl : q = p := by simpa using hq
      exact key q hp
  · obtain rfl : r = p := by simpa using hr
    exact hap q hq
/-- more bytes on the last piece: appended, then laid into the row -/
theorem RowP.moreL {w w1 : World} {base g cap n : Nat} {cs : List PC} {p q : PC} {zs : List Int} (h : RowP w base (.slice (some ⟨g, 0, none⟩) n cap) (cs ++ [p])) (hz : Byt zs) (hq : q.off = p.off) (hqz : q.zs = p.zs ++ zs)
    (own : w1.ownsRow base 5 1 q.val q.zs.length (q.zs.map (.int .u8))) (gr : w.grownBy w1 p.val.ownBlock) (hd : q.val.ownBlock = p.val.ownBlock ∨ ∃ k, q.val.ownBlock = some k ∧ w.heap.size ≤ k) :
    RowP (w1.setCell ⟨g, cs.length * 2 + 1, none⟩ q.val) base (.slice (some ⟨g, 0, none⟩) n cap) (cs ++ [q]) ∧ w1.grownBy (w1.setCell ⟨g, cs.length * 2 + 1, none⟩ q.val) (some g) := by
  have hp := h.oks p (by simp)
  have hv : w1.ownsRow base 55 2 (.slice (some ⟨g, 0, none⟩) n cap) (cs ++ [p]).length (cellsP (cs ++ [p])) := World.ownsRow.kept h.own gr (own_apart h.own hp.own (by decide))
  have hn : n = (cs ++ [p]).length := by
    rcases h.own.2 with ⟨e, _⟩ | ⟨g', cap', cur, e, _⟩
    · cases e
    · injection e
  subst hn
  obtain ⟨s1, s2⟩ := hv.stored (cs.length * 2 + 1) q.val
  rw [cellsP_set cs p q hq] at s1
  have apq := List.pairwise_append.1 h.apart
  refine ⟨⟨by rw [show (cs ++ [q]).length = (cs ++ [p]).length by simp]; exact s1, fun c hc => ?_, List.pairwise_append.2 ⟨apq.1, List.pairwise_singleton _ _, fun c hc d hd' => ?_⟩⟩, s2⟩
  · rcases List.mem_append.1 hc with hc | hc
    · have k1 := (h.oks c (by simp [hc])).kept gr (apq.2.2 c hc p (by simp))
      exact k1.kept s2 (own_apart k1.own hv (by decide))
    · obtain rfl : c = q := by simpa using hc
      have k1 : c.ok w1 base := ⟨own, by rw [hqz]; exact hp.byt.append hz⟩
      exact k1.kept s2 (own_apart k1.own hv (by decide))
  · obtain rfl : d = q := by simpa using hd'
    rcases hd with e | ⟨k, e, hk⟩
    · rw [e]; exact apq.2.2 c hc p (by simp)
    · cases hcv : c.val.ownBlock with
      | none => exact .inl rfl
      | some j =>
        refine .inr fun e2 => ?_
        have := World.ownsRow.lt (h.oks c (by simp [hc])).own j hcv
        rw [e] at e2
        cases e2
        omega
/-- a row that was made in a world where some others lay already -/
theorem fresh_apart {w : World} {base : Nat} {v u : Value} {cs : List PC} (h : RowP w base v cs) (hu : ∀ g, u.ownBlock = some g → w.heap.size ≤ g) : ∀ q ∈ cs, q.val.ownBlock = none ∨ q.val.ownBlock ≠ u.ownBlock := fun q hq => by
  cases hcv : q.val.ownBlock with
  | none => exact .inl rfl
  | some j =>
    refine .inr fun e => ?_
    have h1 := World.ownsRow.lt (h.oks q hq).own j hcv
    have h2 := hu j e.symm
    omega
theorem RowP.below {w w' : World} {base : Nat} {v : Value} {cs : List PC} (h : RowP w base v cs) (hb : Below w.heap.size w w') : RowP w' base v cs :=
  h.grown ⟨hb.os, hb.tape, hb.output, hb.size, fun k hk _ => hb.block k hk⟩
theorem own_lt {w : World} {base e s n : Nat} {v : Value} {xs : List Value} (h : w.ownsRow base e s v n xs) : ∀ g, v.ownBlock = some g → base ≤ g := fun g hg => (World.ownsRow.lt h g hg).1
theorem RowP.own' {w : World} {base n : Nat} {v : Value} {cs : List PC} (h : RowP w base v cs) (hn : cs.length = n) : w.ownsRow base 55 2 v n (cellsP cs) := hn ▸ h.own
/-- an elder block turns -/
theorem RowP.keptB {w w' : World} {base k : Nat} {v : Value} {cs : List PC} (h : RowP w base v cs) (g : w.grownBy w' (some k)) (hk : k < base) : RowP w' base v cs := by
  refine h.kept g ?_ fun p hp => ?_
  · cases hv : v.ownBlock with
    | none => exact .inl rfl
    | some j => exact .inr (fun e => by cases e; have := (h.lt _ hv).1; omega)
  · cases hv : p.val.ownBlock with
    | none => exact .inl rfl
    | some j => exact .inr (fun e => by cases e; have := own_lt (h.oks p hp).own _ hv; omega)
end Go.Proofs.Ytippenbfoaohoaa
