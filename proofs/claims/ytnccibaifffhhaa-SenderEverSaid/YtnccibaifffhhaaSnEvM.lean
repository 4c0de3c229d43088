/- Whatever is lost is sent again: what SenderEver asks, over plain lists. Nothing of the program's. -/
import Derived.Test.YtnccibaifffhhaaGrpSb
namespace Go.Proofs.Ytnccibaifffhhaa.P
set_option linter.unusedVariables false

/-- so many numbers are in a set's ranges -/
def remL (l : List (Int × Int)) : Int := l.foldr (fun x n => x.2 - x.1 + 1 + n) 0
theorem remL_le : ∀ {l : List (Int × Int)} {a n : Int}, okFrom a l → belowS l n → a + 1 ≤ n → remL l ≤ n - a - 1
  | [], a, n, _, _, h => by show (0 : Int) ≤ _; omega
  | x :: l, a, n, h, hb, _ => by
    have b1 := hb x List.mem_cons_self
    have := remL_le (l := l) (a := x.2) (n := n) h.2.2 (fun y hy => hb y (List.mem_cons_of_mem _ hy)) (by omega)
    have c := h.2.1
    show x.2 - x.1 + 1 + remL l ≤ _
    omega
theorem remL_nn : ∀ {l : List (Int × Int)} {a : Int}, okFrom a l → 0 ≤ remL l
  | [], _, _ => Int.le_refl _
  | x :: l, a, h => by
    have := remL_nn (l := l) h.2.2
    have := h.1.2.1
    show 0 ≤ x.2 - x.1 + 1 + remL l
    omega
/-- nothing of a set lies in a range behind which all of it stands, or ahead -/
theorem cutL_far {l : List (Int × Int)} {a : Int} {r : Int × Int} (h : okFrom a l) (hr : okR r) (hn : ∀ m, mem l m → ¬ inR r m) : cutL r l = l := by
  have c := cut_ok hr h
  refine ok_ext c.1 h fun m => ?_
  rw [c.2 m]
  exact ⟨fun q => q.1, fun q => ⟨q, hn m q⟩⟩
/-- the first numbers of a set's first range are cut out -/
theorem cutL_head {x : Int × Int} {l : List (Int × Int)} {n : Int} (h : okL (x :: l)) (h0 : 0 < n) (h1 : n ≤ x.2 - x.1 + 1) : cutL (x.1, x.1 + n - 1) (x :: l) = sm (x.1 + n) x.2 ++ l := by
  have hx := h.1
  have hr : okR (x.1, x.1 + n - 1) := ⟨hx.1, by simp only; omega, by have := hx.2.2; simp only; omega⟩
  have e : cutL (x.1, x.1 + n - 1) (x :: l) = cutR x (x.1, x.1 + n - 1) ++ cutL (x.1, x.1 + n - 1) l := by simp [cutL]
  rw [e, cutL_far (a := x.2) h.2.2 hr (fun m hm q => by have := mem_above h.2.2 hm; have := q.2; simp only at this; omega)]
  congr 1
  unfold cutR sm
  simp only
  rw [if_neg (by omega), List.nil_append, show max x.1 (x.1 + n - 1 + 1) = x.1 + n by omega]
/-- one range goes to a set in which nothing of it is, whatever is acked -/
theorem addL_one {l : List (Int × Int)} {r : Int × Int} {a : List (Int × Int)} (ha : okL a) (hr : okR r) (hn : ∀ m, inR r m → ¬ mem a m) : addL (holesF r.2 r.1 a) l = insR r l := by
  have ho := holesL_ok ha hr
  have e : holesF r.2 r.1 a = [r] := ok_ext ho.1 (show okL [r] from ⟨hr, by have := hr.1; omega, trivial⟩) fun m => by
    rw [ho.2 m]
    simp only [mem, or_false]
    exact ⟨fun q => q.1, fun q => ⟨q, hn m q⟩⟩
  rw [e]
  rfl
structure EvI (b : List Int) (s : Sn) (m : Nat) : Prop where
  len : b.length ≤ 300
  ok : okSn s
  data : s.data = b
  fin : s.fin = true
  mx : s.mx = 300
  ended : s.ended = false
  acc : ∀ n, 0 ≤ n → n < s.next → mem s.lost n ∨ mem s.acked n
  cnt : s.lost.length ≤ m
/-- how much is left to do -/
def muS (s : Sn) : Int := 40 * (s.lost.length + (if s.next < s.data.length then 1 else 0) + (if s.over then 0 else 1)) + remL s.lost + (s.data.length - s.next)
theorem muS_le {b : List Int} {s : Sn} {m : Nat} (h : EvI b s m) : muS s ≤ 40 * m + 382 := by
  obtain ⟨k1, k2, k3, k4, k5, k6, k7, k8, k9, k10⟩ := h.ok
  have r := remL_le k4 k8 (by omega)
  have c := h.cnt
  have l := h.len
  rw [h.data] at k2
  unfold muS
  rw [h.data]
  split <;> split <;> omega
theorem muS_nn {b : List Int} {s : Sn} {m : Nat} (h : EvI b s m) : 0 ≤ muS s := by
  obtain ⟨k1, k2, k3, k4, k5, k6, k7, k8, k9, k10⟩ := h.ok
  have r := remL_nn k4
  unfold muS
  split <;> split <;> omega
theorem ev_begin {b : List Int} (hb : b.length ≤ 300) : wrS ⟨[], false, 0, 300, [], [], false, false⟩ b true = (⟨b, true, 0, 300, [], [], false, false⟩, 0) ∧ EvI b ⟨b, true, 0, 300, [], [], false, false⟩ 0 := by
  have o1 : okSn ⟨[], false, 0, 300, [], [], false, false⟩ := ⟨by decide, by decide, by decide, trivial, trivial, by simp, by simp, (fun x hx => by cases hx), (fun x hx => by cases hx), rfl⟩
  have e : wrS ⟨[], false, 0, 300, [], [], false, false⟩ b true = (⟨b, true, 0, 300, [], [], false, false⟩, 0) := by
    unfold wrS
    rw [if_neg (fun q => q ((fault_iff _).2 o1)), if_neg (by simp), if_neg (by simp only [List.length_nil]; omega)]
    rfl
  have o2 := wrS_ok (s := ⟨[], false, 0, 300, [], [], false, false⟩) (b := b) (fin := true) (by rw [e])
  rw [e] at o2
  exact ⟨e, hb, o2, rfl, rfl, rfl, rfl, (fun n h0 h1 => by dsimp only at h1; omega), Nat.le_refl _⟩
/-- no piece is left: all was heard of -/
theorem ev_done {b : List Int} {s : Sn} {m : Nat} (h : EvI b s m) {room : Int} (r0 : 1 ≤ room) (h1 : pcN s room 100 = 0) (h2 : pcFin s room 100 = false) : s.over = true ∧ s.lost = [] ∧ s.next = b.length ∧ overS s = (true, 0) ∧ ∀ n : Int, 0 ≤ n → n < b.length → mem s.acked n := by
  have ok := h.ok
  obtain ⟨k1, k2, k3, k4, k5, k6, k7, k8, k9, k10⟩ := h.ok
  have hl : s.lost = [] := by
    cases q : s.lost with
    | nil => rfl
    | cons x l =>
      rw [q] at k4
      have := k4.1.2.1
      unfold pcN at h1
      rw [q] at h1
      simp only at h1
      rw [if_pos (by omega)] at h1
      omega
  have hn : s.next = b.length := by
    unfold pcN at h1
    rw [hl] at h1
    simp only at h1
    rw [h.data, h.mx] at h1
    rw [h.data] at k2
    have := h.len
    omega
  have hlo : pcLo s room = s.next := by unfold pcLo; rw [hl]
  have ho : s.over = true := by
    unfold pcFin at h2
    rw [h.fin, h.ended, h1, hlo, hn, h.data] at h2
    cases q : s.over with
    | true => rfl
    | false => rw [q] at h2; simp at h2
  have ha : ∀ n : Int, 0 ≤ n → n < b.length → mem s.acked n := fun n n0 n1 => by
    rcases h.acc n n0 (by omega) with q | q
    · rw [hl] at q; exact q.elim
    · exact q
  refine ⟨ho, hl, hn, ?_, ha⟩
  unfold overS
  rw [if_neg (fun q => q ((fault_iff s).2 ok)), ho, (allA_iff ok).2 (by rw [h.data]; exact ha)]
  rfl
/-- a piece: what it is; lost, it is to be sent again; heard of, it is one less -/
structure EvP (b : List Int) (s : Sn) (m : Nat) (room lo n : Int) (fin : Bool) (s' : Sn) : Prop where
  eq : pieceS s room 100 = (s', ⟨8, 0, lo, fin, 0, [], (b.drop lo.toNat).take n.toNat⟩, true, 0)
  lo0 : 0 ≤ lo
  nn : 0 ≤ n
  nr : n ≤ room
  hi : lo + n ≤ b.length
  end' : fin = true → lo + n = b.length
  new : ∀ k, lo ≤ k → k < lo + n → ¬ mem s.acked k
  okp : okSn s'
  lose : ∃ sl, loseS s' lo n fin = (sl, 0) ∧ EvI b sl (m + 1) ∧ sl.over = s.over ∧ sl.acked = s.acked
  heard : ∃ sh, heardS s' lo n fin = (sh, 0) ∧ EvI b sh m ∧ sh.over = (s.over || fin) ∧ (∀ k, mem sh.acked k ↔ (lo ≤ k ∧ k < lo + n) ∨ mem s.acked k) ∧ (room = 40 → muS sh + 40 ≤ muS s)
theorem ev_piece {b : List Int} {s : Sn} {m : Nat} (h : EvI b s m) {room : Int} (r0 : 1 ≤ room) (r1 : room ≤ 100) :
    (pieceS s room 100 = (s, fr00, false, 0) ∧ s.over = true ∧ s.lost = [] ∧ s.next = b.length ∧ overS s = (true, 0) ∧ ∀ n : Int, 0 ≤ n → n < b.length → mem s.acked n) ∨ ∃ lo n fin s', EvP b s m room lo n fin s' := by
  by_cases c : pcN s room 100 = 0 ∧ pcFin s room 100 = false
  · refine .inl ⟨?_, ev_done h r0 c.1 c.2⟩
    unfold pieceS
    rw [if_neg (fun q => q ((fault_iff s).2 h.ok)), if_neg (fun q => q ⟨by omega, by omega, by omega⟩), if_pos c]
  · refine .inr ?_
    have hr : 0 ≤ room ∧ room ≤ 120 ∧ (0 : Int) ≤ 100 := ⟨by omega, by omega, by omega⟩
    have hp := piece_is h.ok hr
    have hw := fun hn => piece_new h.ok hr hn
    have e : pieceS s room 100 = ({ s with lost := if 0 < pcN s room 100 then cutL (pcLo s room, pcLo s room + pcN s room 100 - 1) s.lost else s.lost, next := max s.next (pcLo s room + pcN s room 100), ended := s.ended || pcFin s room 100 },
        ⟨8, 0, pcLo s room, pcFin s room 100, 0, [], (s.data.drop (pcLo s room).toNat).take (pcN s room 100).toNat⟩, true, 0) := by
      unfold pieceS
      rw [if_neg (fun q => q ((fault_iff s).2 h.ok)), if_neg (fun q => q hr), if_neg c]
    have ok' := pieceS_ok (s := s) (room := room) (credit := 100) (by rw [e])
    rw [e] at ok'
    have hfin : pcFin s room 100 = true → s.over = false ∧ pcLo s room + pcN s room 100 = b.length := by
      unfold pcFin
      simp only [Bool.and_eq_true, Bool.not_eq_true', decide_eq_true_iff]
      rintro ⟨⟨⟨a, b'⟩, c'⟩, d⟩
      exact ⟨c', by rw [d, h.data]⟩
    have hcase : (s.lost = [] ∧ pcLo s room = s.next ∧ pcN s room 100 = min room (b.length - s.next)) ∨ (∃ x l, s.lost = x :: l ∧ pcLo s room = x.1 ∧ pcN s room 100 = min room (x.2 - x.1 + 1)) := by
      cases q : s.lost with
      | nil =>
        refine .inl ⟨rfl, by unfold pcLo; rw [q], ?_⟩
        have := h.ok.2.1
        have hl := h.len
        rw [h.data] at this
        unfold pcN; rw [q]; simp only; rw [h.data, h.mx]; omega
      | cons x l => exact .inr ⟨x, l, rfl, by unfold pcLo; rw [q]; simp only; rw [if_pos (by omega)], by unfold pcN; rw [q]; simp only; rw [if_pos (by omega)]⟩
    have hz : pcN s room 100 = 0 → pcFin s room 100 = true := fun q => by
      cases g : pcFin s room 100 with
      | true => rfl
      | false => exact absurd ⟨q, g⟩ c
    rw [show s.data.drop (pcLo s room).toNat = b.drop (pcLo s room).toNat by rw [h.data]] at e
    obtain ⟨lo, hlo⟩ : ∃ x, pcLo s room = x := ⟨_, rfl⟩
    obtain ⟨n, hn⟩ : ∃ x, pcN s room 100 = x := ⟨_, rfl⟩
    obtain ⟨f, hf⟩ : ∃ x, pcFin s room 100 = x := ⟨_, rfl⟩
    rw [hlo, hn] at hp hw hcase
    rw [hlo, hn, hf] at e hfin ok'
    rw [hn, hf] at hz
    rw [h.data] at hp
    dsimp only at ok'
    obtain ⟨s', hs'⟩ : ∃ x, ({ s with lost := if 0 < n then cutL (lo, lo + n - 1) s.lost else s.lost, next := max s.next (lo + n), ended := s.ended || f } : Sn) = x := ⟨_, rfl⟩
    have sd : s'.data = b := by rw [← hs']; exact h.data
    have sf : s'.fin = true := by rw [← hs']; exact h.fin
    have sm' : s'.mx = 300 := by rw [← hs']; exact h.mx
    have se : s'.ended = f := by rw [← hs']; show (s.ended || f) = f; rw [h.ended]; rfl
    have so : s'.over = s.over := by rw [← hs']
    have sa : s'.acked = s.acked := by rw [← hs']
    have sn : s'.next = max s.next (lo + n) := by rw [← hs']
    have sl : s'.lost = if 0 < n then cutL (lo, lo + n - 1) s.lost else s.lost := by rw [← hs']
    have ok2 : okSn s' := by rw [← hs']; exact ok'
    rw [hs'] at e
    clear ok' hs'
    obtain ⟨k1, k2, k3, k4, k5, k6, k7, k8, k9, k10⟩ := h.ok
    rw [h.data] at k2
    have new : ∀ k, lo ≤ k → k < lo + n → ¬ mem s.acked k := fun k q1 q2 hm => by
      rcases hw (by omega) with ⟨w1, w2⟩ | ⟨w1, w2⟩
      · have := (below_mem k5).1 k9 k hm; omega
      · exact lap_no.1 k10 k (w2 k q1 (by omega)) hm
    have hpart : partF s' lo n f = 0 := by
      unfold partF
      rw [if_neg (fun q => q ((fault_iff _).2 ok2)), if_neg]
      rw [sn, sd, sf]
      rintro (q | ⟨q1, q⟩)
      · exact q ⟨by omega, by omega, by omega, by omega⟩
      · have := (hfin q1).2
        rcases q with q | q | q
        · cases q
        · apply q; omega
        · apply q; omega
    have okl := loseS_ok hpart
    have okh := heardS_ok hpart
    -- what is lost behind the piece
    have hlen1 : s'.lost.length ≤ s.lost.length := by
      rw [sl]
      by_cases q : 0 < n
      · rw [if_pos q]
        rcases hcase with ⟨w1, _, _⟩ | ⟨x, l, w1, w2, w3⟩
        · rw [w1]; simp [cutL]
        · rw [w1] at k4
          rw [w1, w2, cutL_head k4 q (by omega), List.length_append, List.length_cons]
          have := sm_len (x.1 + n) x.2
          omega
      · rw [if_neg q]; exact Nat.le_refl _
    have hmem1 : ∀ k, mem s'.lost k ↔ mem s.lost k ∧ ¬(lo ≤ k ∧ k < lo + n) := fun k => by
      rw [sl]
      by_cases q : 0 < n
      · rw [if_pos q, (cutL_ok k4 (r := (lo, lo + n - 1)) ⟨by simp only; omega, by simp only; omega, by have := h.len; simp only; omega⟩).2 k]
        simp only [inR]
        constructor
        · rintro ⟨a, g⟩; exact ⟨a, by omega⟩
        · rintro ⟨a, g⟩; exact ⟨a, by omega⟩
      · rw [if_neg q]
        exact ⟨fun a => ⟨a, by omega⟩, fun a => a.1⟩
    have acc1 : ∀ k, 0 ≤ k → k < s'.next → (lo ≤ k ∧ k < lo + n) ∨ mem s'.lost k ∨ mem s.acked k := fun k q0 q1 => by
      by_cases q : lo ≤ k ∧ k < lo + n
      · exact .inl q
      · refine .inr ?_
        have hk : k < s.next := by
          rcases hcase with ⟨w1, w2, w3⟩ | ⟨x, l, w1, w2, w3⟩
          · omega
          · have := k8 x (by rw [w1]; exact List.mem_cons_self); omega
        rcases h.acc k q0 hk with g | g
        · exact .inl ((hmem1 k).2 ⟨g, q⟩)
        · exact .inr g
    obtain ⟨g1, g2, g3, g4, g5, g6, g7, g8, g9, g10⟩ := ok2
    refine ⟨lo, n, f, s', ⟨e, by omega, by omega, by omega, by omega, fun q => (hfin q).2, new, ⟨g1, g2, g3, g4, g5, g6, g7, g8, g9, g10⟩, ?_, ?_⟩⟩
    · -- lost
      have el : loseS s' lo n f = ({ s' with lost := if 0 < n then addL (holesF (lo + n - 1) lo s'.acked) s'.lost else s'.lost, ended := s'.ended && !f }, 0) := by unfold loseS; rw [if_neg (fun q => q hpart)]
      rw [el] at okl
      dsimp only at okl
      refine ⟨_, el, ⟨h.len, okl, sd, sf, sm', ?_, ?_, ?_⟩, so, sa⟩
      · dsimp only; rw [se]; cases f <;> rfl
      · intro k q0 q1
        dsimp only at q1 ⊢
        rw [sa]
        by_cases q : 0 < n
        · have hro : okR (lo, lo + n - 1) := ⟨by simp only; omega, by simp only; omega, by have := h.len; simp only; omega⟩
          rw [if_pos q, addL_one (r := (lo, lo + n - 1)) k5 hro (fun j hj => new j hj.1 (by have := hj.2; simp only at this; omega)), (insL_ok g4 hro).2 k]
          rcases acc1 k q0 q1 with a | a | a
          · exact .inl (.inl ⟨a.1, by simp only; omega⟩)
          · exact .inl (.inr a)
          · exact .inr a
        · rw [if_neg q]
          rcases acc1 k q0 q1 with a | a | a
          · omega
          · exact .inl a
          · exact .inr a
      · dsimp only
        have hc := h.cnt
        by_cases q : 0 < n
        · have hro : okR (lo, lo + n - 1) := ⟨by simp only; omega, by simp only; omega, by have := h.len; simp only; omega⟩
          rw [if_pos q, sa, addL_one (r := (lo, lo + n - 1)) k5 hro (fun j hj => new j hj.1 (by have := hj.2; simp only at this; omega))]
          have := ins_len (lo, lo + n - 1) s'.lost
          omega
        · rw [if_neg q]; omega
    · -- heard of
      have eh : heardS s' lo n f = ({ s' with lost := if 0 < n then cutL (lo, lo + n - 1) s'.lost else s'.lost, acked := if 0 < n then insR (lo, lo + n - 1) s'.acked else s'.acked, ended := s'.ended && !f, over := s'.over || f }, 0) := by unfold heardS; rw [if_neg (fun q => q hpart)]
      have hsame : (if 0 < n then cutL (lo, lo + n - 1) s'.lost else s'.lost) = s'.lost := by
        by_cases q : 0 < n
        · rw [if_pos q]
          exact cutL_far g4 ⟨by simp only; omega, by simp only; omega, by have := h.len; simp only; omega⟩ fun j hj hi => ((hmem1 j).1 hj).2 ⟨hi.1, by have := hi.2; simp only at this; omega⟩
        · rw [if_neg q]
      rw [hsame] at eh
      rw [eh] at okh
      dsimp only at okh
      have hack : ∀ k, mem (if 0 < n then insR (lo, lo + n - 1) s'.acked else s'.acked) k ↔ (lo ≤ k ∧ k < lo + n) ∨ mem s.acked k := fun k => by
        rw [sa]
        by_cases q : 0 < n
        · rw [if_pos q, (insL_ok k5 (r := (lo, lo + n - 1)) ⟨by simp only; omega, by simp only; omega, by have := h.len; simp only; omega⟩).2 k]
          simp only [inR]
          exact or_congr_left ⟨fun a => ⟨a.1, by omega⟩, fun a => ⟨a.1, by omega⟩⟩
        · rw [if_neg q]
          exact ⟨.inr, fun a => a.elim (fun a => by omega) id⟩
      refine ⟨_, eh, ⟨h.len, okh, sd, sf, sm', by dsimp only; rw [se]; cases f <;> rfl, fun k q0 q1 => ?_, by dsimp only; have := h.cnt; omega⟩, by dsimp only; rw [so], hack, fun h40 => ?_⟩
      · dsimp only at q1 ⊢
        rw [hack k]
        rcases acc1 k q0 q1 with a | a | a
        · exact .inr (.inl a)
        · exact .inl a
        · exact .inr (.inr a)
      · unfold muS
        dsimp only
        rw [sd, sn, so, h.data]
        rcases hcase with ⟨w1, w2, w3⟩ | ⟨x, l, w1, w2, w3⟩
        · have z1 : s'.lost = [] := by rw [sl, w1]; split <;> simp [cutL]
          rw [z1, w1]
          by_cases q : 0 < n
          · have hov : (if (s.over || f) = true then (0 : Int) else 1) ≤ if s.over = true then 0 else 1 := by cases s.over <;> cases f <;> decide
            obtain ⟨M, hM⟩ : ∃ M, max s.next (lo + n) = M := ⟨_, rfl⟩
            rw [hM]
            by_cases q2 : s.next + n < b.length
            · rw [if_pos (by omega : M < (b.length : Int)), if_pos (by omega : s.next < (b.length : Int))]
              omega
            · rw [if_neg (by omega : ¬ M < (b.length : Int)), if_pos (by omega : s.next < (b.length : Int))]
              omega
          · have hff := hz (by omega)
            obtain ⟨f1, f2⟩ := hfin hff
            have n0 : n = 0 := by omega
            have e3 : s.next = b.length := by omega
            have e4 : max s.next (lo + n) = b.length := by omega
            rw [hff, f1, e4, e3]
            have hov : (if (false || true) = true then (0 : Int) else 1) = 0 := rfl
            have hov2 : (if false = true then (0 : Int) else 1) = 1 := rfl
            rw [hov, hov2]
            omega
        · rw [w1] at k4
          have xx := k4.1.2.1
          have x8 := k8 x (by rw [w1]; exact List.mem_cons_self)
          have q : 0 < n := by omega
          have z1 : s'.lost = sm (x.1 + n) x.2 ++ l := by rw [sl, if_pos q, w1, w2, cutL_head k4 q (by omega)]
          have hov : (if (s.over || f) = true then (0 : Int) else 1) ≤ if s.over = true then 0 else 1 := by cases s.over <;> cases f <;> decide
          have hmx : max s.next (lo + n) = s.next := by omega
          rw [z1, w1, hmx]
          by_cases q2 : x.1 + n ≤ x.2
          · have : sm (x.1 + n) x.2 = [(x.1 + n, x.2)] := if_pos q2
            rw [this]
            simp only [List.cons_append, List.nil_append, List.length_cons]
            have e1 : remL ((x.1 + n, x.2) :: l) = x.2 - (x.1 + n) + 1 + remL l := rfl
            have e2 : remL (x :: l) = x.2 - x.1 + 1 + remL l := rfl
            rw [e1, e2]
            omega
          · have : sm (x.1 + n) x.2 = [] := if_neg q2
            rw [this]
            simp only [List.nil_append, List.length_cons]
            have e2 : remL (x :: l) = x.2 - x.1 + 1 + remL l := rfl
            rw [e2]
            omega
end Go.Proofs.Ytnccibaifffhhaa.P
