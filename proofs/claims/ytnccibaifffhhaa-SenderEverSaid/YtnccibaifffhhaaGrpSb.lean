/- Several texts in one. -/
import Derived.Test.YtnccibaifffhhaaGrpA
import Derived.Test.YtnccibaifffhhaaGrpB
import Derived.Test.YtnccibaifffhhaaGrpSa
/- Senders: what P10 says, over plain lists. Nothing of the program's. -/
namespace Go.Proofs.Ytnccibaifffhhaa.P
set_option linter.unusedVariables false

/-- a sender as numbers and lists -/
structure Sn where
  data : List Int
  fin : Bool
  next : Int
  mx : Int
  lost : List (Int × Int)
  acked : List (Int × Int)
  ended : Bool
  over : Bool
def sn0 : Sn := ⟨[], false, 0, 0, [], [], false, false⟩
/-- a set lies below a number, range by range -/
def belowS (l : List (Int × Int)) (n : Int) : Prop := ∀ x ∈ l, x.2 < n
/-- two ranges have a number in common; two sets -/
def lapR (x y : Int × Int) : Bool := decide (max x.1 y.1 ≤ min x.2 y.2)
def lapL (a b : List (Int × Int)) : Bool := a.any fun x => b.any fun y => lapR x y
/-- a sender that may be, by P10.1 -/
def okSn (s : Sn) : Prop :=
  s.data.length ≤ 600 ∧ (0 ≤ s.next ∧ s.next ≤ s.data.length) ∧ (s.next ≤ s.mx ∧ s.mx ≤ 4611686018427387903) ∧ okL s.lost ∧ okL s.acked ∧
  ¬(s.ended = true ∧ s.over = true) ∧ (s.ended = true ∨ s.over = true → s.fin = true ∧ s.next = s.data.length) ∧ belowS s.lost s.next ∧ belowS s.acked s.next ∧ lapL s.lost s.acked = false
instance (s : Sn) : Decidable (okSn s) := by unfold okSn belowS; infer_instance
def faultSn (s : Sn) : Int := if okSn s then 0 else 9
/-- what Write says, by P10.2 -/
def wrS (s : Sn) (b : List Int) (fin : Bool) : Sn × Int :=
  if faultSn s ≠ 0 then (sn0, faultSn s) else if s.fin = true then (sn0, 17) else if 600 < s.data.length + b.length then (sn0, 8) else ({ s with data := s.data ++ b, fin := fin }, 0)
/-- what Grant says, by P10.3 -/
def grS (s : Sn) (m : Int) : Sn × Int :=
  if faultSn s ≠ 0 then (sn0, faultSn s) else if ¬(0 ≤ m ∧ m ≤ 4611686018427387903) then (sn0, 6) else ({ s with mx := max m s.mx }, 0)
/-- the piece of P10.4: from where, how many, with the end? -/
def pcLo (s : Sn) (room : Int) : Int := match s.lost with
  | x :: _ => if 0 < room then x.1 else s.next
  | [] => s.next
def pcN (s : Sn) (room credit : Int) : Int := match s.lost with
  | x :: _ => if 0 < room then min room (x.2 - x.1 + 1) else 0
  | [] => min (min room credit) (min (s.data.length - s.next) (s.mx - s.next))
def pcFin (s : Sn) (room credit : Int) : Bool := s.fin && !s.ended && !s.over && decide (pcLo s room + pcN s room credit = s.data.length)
def fr00 : Fr := ⟨0, 0, 0, false, 0, [], []⟩
def pieceS (s : Sn) (room credit : Int) : Sn × Fr × Bool × Int :=
  if faultSn s ≠ 0 then (sn0, fr00, false, faultSn s)
  else if ¬(0 ≤ room ∧ room ≤ 120 ∧ 0 ≤ credit) then (sn0, fr00, false, 6)
  else if pcN s room credit = 0 ∧ pcFin s room credit = false then (s, fr00, false, 0)
  else ({ s with lost := if 0 < pcN s room credit then cutL (pcLo s room, pcLo s room + pcN s room credit - 1) s.lost else s.lost, next := max s.next (pcLo s room + pcN s room credit), ended := s.ended || pcFin s room credit },
    ⟨8, 0, pcLo s room, pcFin s room credit, 0, [], (s.data.drop (pcLo s room).toNat).take (pcN s room credit).toNat⟩, true, 0)
/-- what P10.5 refuses -/
def partF (s : Sn) (off n : Int) (fin : Bool) : Int :=
  if faultSn s ≠ 0 then faultSn s
  else if ¬(0 ≤ off ∧ off ≤ s.next ∧ 0 ≤ n ∧ n ≤ s.next - off) ∨ fin = true ∧ (s.fin = false ∨ s.next ≠ s.data.length ∨ off + n ≠ s.next) then 13 else 0
def heardS (s : Sn) (off n : Int) (fin : Bool) : Sn × Int :=
  if partF s off n fin ≠ 0 then (sn0, partF s off n fin)
  else ({ s with lost := if 0 < n then cutL (off, off + n - 1) s.lost else s.lost, acked := if 0 < n then insR (off, off + n - 1) s.acked else s.acked, ended := s.ended && !fin, over := s.over || fin }, 0)
/-- ranges added one by one -/
def addL (hs l : List (Int × Int)) : List (Int × Int) := hs.foldl (fun l x => insR x l) l
def loseS (s : Sn) (off n : Int) (fin : Bool) : Sn × Int :=
  if partF s off n fin ≠ 0 then (sn0, partF s off n fin)
  else ({ s with lost := if 0 < n then addL (holesF (off + n - 1) off s.acked) s.lost else s.lost, ended := s.ended && !fin }, 0)
/-- all of the data was heard of -/
def allA (s : Sn) : Bool := decide (s.data = [] ∨ holesF (s.data.length - 1) 0 s.acked = [])
def overS (s : Sn) : Bool × Int := if faultSn s ≠ 0 then (false, faultSn s) else (s.over && allA s, 0)

theorem fault_iff (s : Sn) : faultSn s = 0 ↔ okSn s := by
  unfold faultSn
  split
  · simp [*]
  · simp [*]
theorem lapR_iff (x y : Int × Int) : lapR x y = true ↔ ∃ n, inR x n ∧ inR y n := by
  unfold lapR inR
  rw [decide_eq_true_iff]
  constructor
  · intro h
    exact ⟨max x.1 y.1, by omega⟩
  · rintro ⟨n, h⟩
    omega
theorem lapL_iff (a b : List (Int × Int)) : lapL a b = true ↔ ∃ n, mem a n ∧ mem b n := by
  unfold lapL
  rw [List.any_eq_true]
  constructor
  · rintro ⟨x, hx, h⟩
    obtain ⟨y, hy, h⟩ := List.any_eq_true.1 h
    obtain ⟨n, h1, h2⟩ := (lapR_iff x y).1 h
    exact ⟨n, mem_of hx h1, mem_of hy h2⟩
  · rintro ⟨n, h1, h2⟩
    obtain ⟨x, hx, k1⟩ := mem_iff.1 h1
    obtain ⟨y, hy, k2⟩ := mem_iff.1 h2
    exact ⟨x, hx, List.any_eq_true.2 ⟨y, hy, (lapR_iff x y).2 ⟨n, k1, k2⟩⟩⟩
theorem lap_no {a b : List (Int × Int)} : lapL a b = false ↔ ∀ n, mem a n → ¬ mem b n := by
  constructor
  · intro h n h1 h2
    have := (lapL_iff a b).2 ⟨n, h1, h2⟩
    rw [h] at this
    cases this
  · intro h
    cases e : lapL a b with
    | false => rfl
    | true =>
      obtain ⟨n, h1, h2⟩ := (lapL_iff a b).1 e
      exact absurd h2 (h n h1)
theorem below_mem {l : List (Int × Int)} {n : Int} (h : okL l) : belowS l n ↔ ∀ m, mem l m → m < n := by
  constructor
  · intro hb m hm
    obtain ⟨x, hx, h1⟩ := mem_iff.1 hm
    have := hb x hx
    have := h1.2
    omega
  · intro hb x hx
    have := (okFrom_all h hx).1
    exact hb x.2 (mem_of hx ⟨this.2.1, Int.le_refl _⟩)
theorem mem_zero {l : List (Int × Int)} {n : Int} (h : okL l) (hm : mem l n) : 0 ≤ n := by have := mem_above h hm; omega
theorem addL_ok : ∀ (hs : List (Int × Int)) {l : List (Int × Int)}, okL l → (∀ x ∈ hs, okR x) → okL (addL hs l) ∧ ∀ n, mem (addL hs l) n ↔ mem hs n ∨ mem l n
  | [], l, h, _ => ⟨h, fun n => by simp [addL, mem]⟩
  | x :: hs, l, h, hx => by
    have h1 := insL_ok h (hx x (List.mem_cons_self ..))
    have h2 := addL_ok hs h1.1 (fun y hy => hx y (List.mem_cons_of_mem _ hy))
    refine ⟨h2.1, fun n => ?_⟩
    show mem (addL hs (insR x l)) n ↔ _
    rw [h2.2 n, h1.2 n]
    simp only [mem]
    constructor
    · rintro (h | h | h)
      · exact .inl (.inr h)
      · exact .inl (.inl h)
      · exact .inr h
    · rintro ((h | h) | h)
      · exact .inr (.inl h)
      · exact .inl h
      · exact .inr (.inr h)
theorem holes_okR {l : List (Int × Int)} {r : Int × Int} (h : okL l) (hr : okR r) : ∀ x ∈ holesF r.2 r.1 l, okR x := fun x hx => (okFrom_all (holesL_ok h hr).1 hx).1

/-- WRITE keeps a sender one that may be -/
theorem wrS_ok {s : Sn} {b : List Int} {fin : Bool} (h : (wrS s b fin).2 = 0) : okSn (wrS s b fin).1 := by
  unfold wrS at h ⊢
  split
  · rename_i c; rw [if_pos c] at h; exact absurd h c
  · rename_i c
    rw [if_neg c] at h
    have ok := (fault_iff s).1 (Decidable.byContradiction c)
    split
    · rename_i c2; rw [if_pos c2] at h; simp at h
    · rename_i c2
      rw [if_neg c2] at h
      split
      · rename_i c3; rw [if_pos c3] at h; simp at h
      · rename_i c3
        obtain ⟨k1, k2, k3, k4, k5, k6, k7, k8, k9, k10⟩ := ok
        refine ⟨by simp only [List.length_append]; omega, by simp only [List.length_append]; omega, k3, k4, k5, k6, fun hq => absurd (k7 hq).1 c2, k8, k9, k10⟩
theorem grS_ok {s : Sn} {m : Int} (h : (grS s m).2 = 0) : okSn (grS s m).1 := by
  unfold grS at h ⊢
  split
  · rename_i c; rw [if_pos c] at h; exact absurd h c
  · rename_i c
    rw [if_neg c] at h
    have ok := (fault_iff s).1 (Decidable.byContradiction c)
    split
    · rename_i c2; rw [if_pos c2] at h; simp at h
    · rename_i c2
      obtain ⟨k1, k2, k3, k4, k5, k6, k7, k8, k9, k10⟩ := ok
      exact ⟨k1, k2, by simp only; omega, k4, k5, k6, k7, k8, k9, k10⟩
theorem part_ok {s : Sn} {off n : Int} {fin : Bool} (h : partF s off n fin = 0) : okSn s ∧ (0 ≤ off ∧ off ≤ s.next ∧ 0 ≤ n ∧ n ≤ s.next - off) ∧ (fin = true → s.fin = true ∧ s.next = s.data.length ∧ off + n = s.next) := by
  unfold partF at h
  by_cases c : faultSn s ≠ 0
  · rw [if_pos c] at h; exact absurd h c
  · rw [if_neg c] at h
    by_cases c2 : ¬(0 ≤ off ∧ off ≤ s.next ∧ 0 ≤ n ∧ n ≤ s.next - off) ∨ fin = true ∧ (s.fin = false ∨ s.next ≠ s.data.length ∨ off + n ≠ s.next)
    · rw [if_pos c2] at h; simp at h
    · refine ⟨(fault_iff s).1 (Decidable.byContradiction c), Decidable.byContradiction fun k => c2 (.inl k), fun hf => ⟨?_, ?_, ?_⟩⟩
      · cases q : s.fin with
        | true => rfl
        | false => exact absurd (.inr ⟨hf, .inl q⟩) c2
      · exact Decidable.byContradiction fun k => c2 (.inr ⟨hf, .inr (.inl k)⟩)
      · exact Decidable.byContradiction fun k => c2 (.inr ⟨hf, .inr (.inr k)⟩)
theorem part_r {s : Sn} {off n : Int} (ok : okSn s) (hb : 0 ≤ off ∧ off ≤ s.next ∧ 0 ≤ n ∧ n ≤ s.next - off) (hn : 0 < n) : okR (off, off + n - 1) := by
  obtain ⟨k1, k2, k3, _⟩ := ok
  exact ⟨hb.1, by simp only; omega, by simp only; omega⟩
theorem heardS_ok {s : Sn} {off n : Int} {fin : Bool} (h : partF s off n fin = 0) : okSn (heardS s off n fin).1 := by
  unfold heardS
  rw [if_neg (fun e => e h)]
  obtain ⟨ok, hb, hf⟩ := part_ok h
  have ok' := ok
  obtain ⟨k1, k2, k3, k4, k5, k6, k7, k8, k9, k10⟩ := ok
  have q6 : ¬((s.ended && !fin) = true ∧ (s.over || fin) = true) := by
    rintro ⟨a, b⟩
    simp only [Bool.and_eq_true, Bool.not_eq_true', Bool.or_eq_true] at a b
    rcases b with b | b
    · exact k6 ⟨a.1, b⟩
    · rw [a.2] at b; cases b
  have q7 : ((s.ended && !fin) = true ∨ (s.over || fin) = true) → s.fin = true ∧ s.next = s.data.length := by
    rintro (a | a)
    · simp only [Bool.and_eq_true] at a
      exact k7 (.inl a.1)
    · simp only [Bool.or_eq_true] at a
      rcases a with a | a
      · exact k7 (.inr a)
      · have := hf a; exact ⟨this.1, this.2.1⟩
  by_cases hn : 0 < n
  · have hr := part_r ok' hb hn
    have c1 := cutL_ok k4 hr
    have c2 := insL_ok k5 hr
    simp only [if_pos hn]
    refine ⟨k1, k2, k3, c1.1, c2.1, q6, q7, (below_mem c1.1).2 fun m hm => (below_mem k4).1 k8 m ((c1.2 m).1 hm).1, (below_mem c2.1).2 fun m hm => ?_, lap_no.2 fun m h1 h2 => ?_⟩
    · rcases (c2.2 m).1 hm with q | q
      · have := q.2; simp only at this ⊢; omega
      · exact (below_mem k5).1 k9 m q
    · have h1' := (c1.2 m).1 h1
      rcases (c2.2 m).1 h2 with q | q
      · exact h1'.2 q
      · exact lap_no.1 k10 m h1'.1 q
  · simp only [if_neg hn]
    exact ⟨k1, k2, k3, k4, k5, q6, q7, k8, k9, k10⟩
theorem loseS_ok {s : Sn} {off n : Int} {fin : Bool} (h : partF s off n fin = 0) : okSn (loseS s off n fin).1 := by
  unfold loseS
  rw [if_neg (fun e => e h)]
  obtain ⟨ok, hb, hf⟩ := part_ok h
  have ok' := ok
  obtain ⟨k1, k2, k3, k4, k5, k6, k7, k8, k9, k10⟩ := ok
  have q6 : ¬((s.ended && !fin) = true ∧ s.over = true) := by
    rintro ⟨a, b⟩
    simp only [Bool.and_eq_true] at a
    exact k6 ⟨a.1, b⟩
  have q7 : ((s.ended && !fin) = true ∨ s.over = true) → s.fin = true ∧ s.next = s.data.length := by
    rintro (a | a)
    · simp only [Bool.and_eq_true] at a
      exact k7 (.inl a.1)
    · exact k7 (.inr a)
  by_cases hn : 0 < n
  · have hr := part_r ok' hb hn
    have c0 := holesL_ok k5 hr
    have c1 := addL_ok _ k4 (holes_okR k5 hr)
    simp only [if_pos hn]
    refine ⟨k1, k2, k3, c1.1, k5, q6, q7, (below_mem c1.1).2 fun m hm => ?_, k9, lap_no.2 fun m h1 h2 => ?_⟩
    · rcases (c1.2 m).1 hm with q | q
      · have := ((c0.2 m).1 q).1.2; simp only at this ⊢; omega
      · exact (below_mem k4).1 k8 m q
    · rcases (c1.2 m).1 h1 with q | q
      · exact ((c0.2 m).1 q).2 h2
      · exact lap_no.1 k10 m q h2
  · simp only [if_neg hn]
    exact ⟨k1, k2, k3, k4, k5, q6, q7, k8, k9, k10⟩
/-- what a piece is like -/
theorem piece_is {s : Sn} {room credit : Int} (ok : okSn s) (hr : 0 ≤ room ∧ room ≤ 120 ∧ 0 ≤ credit) :
    0 ≤ pcN s room credit ∧ pcN s room credit ≤ room ∧ 0 ≤ pcLo s room ∧ pcLo s room ≤ s.next ∧ pcLo s room + pcN s room credit ≤ s.data.length ∧ pcLo s room + pcN s room credit ≤ s.mx := by
  obtain ⟨k1, k2, k3, k4, k5, k6, k7, k8, k9, k10⟩ := ok
  unfold pcN pcLo
  cases hl : s.lost with
  | nil => simp only; omega
  | cons x l =>
    rw [hl] at k4 k8
    have b1 := k8 x (List.mem_cons_self ..)
    have b2 := k4.1.1
    have b3 := k4.1.2.1
    simp only
    split <;> omega
/-- behind what was sent there is new, or what is sent is Lost -/
theorem piece_new {s : Sn} {room credit : Int} (ok : okSn s) (hr : 0 ≤ room ∧ room ≤ 120 ∧ 0 ≤ credit) (hn : 0 < pcN s room credit) :
    (s.lost = [] ∧ pcLo s room = s.next) ∨ (pcLo s room + pcN s room credit ≤ s.next ∧ ∀ m, pcLo s room ≤ m → m ≤ pcLo s room + pcN s room credit - 1 → mem s.lost m) := by
  obtain ⟨k1, k2, k3, k4, k5, k6, k7, k8, k9, k10⟩ := ok
  unfold pcN pcLo at *
  cases hl : s.lost with
  | nil => exact .inl ⟨rfl, rfl⟩
  | cons x l =>
    rw [hl] at hn k8
    have b1 := k8 x (List.mem_cons_self ..)
    simp only at hn ⊢
    by_cases h : 0 < room
    · rw [if_pos h] at hn
      rw [if_pos h, if_pos h]
      exact .inr ⟨by omega, fun m h1 h2 => .inl ⟨h1, by omega⟩⟩
    · rw [if_neg h] at hn
      omega
theorem pieceS_ok {s : Sn} {room credit : Int} (h : (pieceS s room credit).2.2.2 = 0) : okSn (pieceS s room credit).1 := by
  unfold pieceS at h ⊢
  by_cases c : faultSn s ≠ 0
  · rw [if_pos c] at h; exact absurd h c
  · rw [if_neg c] at h ⊢
    have ok := (fault_iff s).1 (Decidable.byContradiction c)
    by_cases c2 : ¬(0 ≤ room ∧ room ≤ 120 ∧ 0 ≤ credit)
    · rw [if_pos c2] at h; simp at h
    · rw [if_neg c2]
      have hr := Decidable.byContradiction c2
      by_cases c3 : pcN s room credit = 0 ∧ pcFin s room credit = false
      · rw [if_pos c3]; exact ok
      · rw [if_neg c3]
        have hp := piece_is ok hr
        have hw := fun hn => piece_new ok hr hn
        have ok' := ok
        have hfin : pcFin s room credit = true → s.fin = true ∧ s.ended = false ∧ s.over = false ∧ pcLo s room + pcN s room credit = s.data.length := by
          unfold pcFin
          simp only [Bool.and_eq_true, Bool.not_eq_true', decide_eq_true_iff]
          rintro ⟨⟨⟨a, b⟩, c⟩, d⟩
          exact ⟨a, b, c, d⟩
        obtain ⟨lo, hlo⟩ : ∃ x, pcLo s room = x := ⟨_, rfl⟩
        obtain ⟨n, hn⟩ : ∃ x, pcN s room credit = x := ⟨_, rfl⟩
        obtain ⟨f, hf⟩ : ∃ x, pcFin s room credit = x := ⟨_, rfl⟩
        rw [hlo, hn] at hp hw
        rw [hlo, hn, hf] at hfin
        rw [hlo, hn, hf]
        obtain ⟨k1, k2, k3, k4, k5, k6, k7, k8, k9, k10⟩ := ok
        have q6 : ¬((s.ended || f) = true ∧ s.over = true) := by
          rintro ⟨a, b⟩
          simp only [Bool.or_eq_true] at a
          rcases a with a | a
          · exact k6 ⟨a, b⟩
          · have := (hfin a).2.2.1; rw [b] at this; cases this
        have q7 : ((s.ended || f) = true ∨ s.over = true) → s.fin = true ∧ max s.next (lo + n) = s.data.length := by
          rintro (a | a)
          · simp only [Bool.or_eq_true] at a
            rcases a with a | a
            · have := k7 (.inl a); exact ⟨this.1, by omega⟩
            · have := hfin a; exact ⟨this.1, by omega⟩
          · have := k7 (.inr a); exact ⟨this.1, by omega⟩
        by_cases hn0 : 0 < n
        · have hrr : okR (lo, lo + n - 1) := ⟨by simp only; omega, by simp only; omega, by simp only; omega⟩
          have c1 := cutL_ok k4 hrr
          simp only [if_pos hn0]
          refine ⟨k1, by dsimp only; omega, by dsimp only; omega, c1.1, k5, q6, q7, (below_mem c1.1).2 fun m hm => ?_, fun x hx => ?_, lap_no.2 fun m h1 h2 => lap_no.1 k10 m ((c1.2 m).1 h1).1 h2⟩
          · have := (below_mem k4).1 k8 m ((c1.2 m).1 hm).1
            simp only; omega
          · have := k9 x hx
            simp only; omega
        · simp only [if_neg hn0]
          refine ⟨k1, by dsimp only; omega, by dsimp only; omega, k4, k5, q6, q7, fun x hx => ?_, fun x hx => ?_, k10⟩
          · have := k8 x hx; simp only; omega
          · have := k9 x hx; simp only; omega
/-- is all heard of -/
theorem allA_iff {s : Sn} (ok : okSn s) : allA s = true ↔ ∀ n : Int, 0 ≤ n → n < s.data.length → mem s.acked n := by
  obtain ⟨k1, k2, k3, k4, k5, k6, k7, k8, k9, k10⟩ := ok
  unfold allA
  rw [decide_eq_true_iff]
  by_cases hd : s.data = []
  · rw [hd]
    simp only [true_or, List.length_nil, true_iff]
    intro n h0 h1
    exfalso
    omega
  · have hl : 0 < s.data.length := List.length_pos_iff.2 hd
    have hr : okR (0, (s.data.length : Int) - 1) := ⟨Int.le_refl _, by simp only; omega, by simp only; omega⟩
    have ho := holesL_ok k5 hr
    simp only at ho
    constructor
    · rintro (h | h) n h0 h1
      · exact absurd h hd
      · rw [h] at ho
        exact Decidable.byContradiction fun k => (ho.2 n).2 ⟨⟨h0, by simp only; omega⟩, k⟩
    · intro h
      refine .inr (ok_ext ho.1 (show okL [] from trivial) fun n => ⟨fun hn => ?_, fun hn => hn.elim⟩)
      have := (ho.2 n).1 hn
      exact absurd (h n this.1.1 (by have := this.1.2; simp only at this; omega)) this.2
end Go.Proofs.Ytnccibaifffhhaa.P
/- A sender as a value: eight cells, three of them rows; what is asked of the functions of P10. -/
namespace Go.Proofs.Ytnccibaifffhhaa.P
set_option linter.unusedVariables false
open Go.RowKit

def snV (s : Sn) (d l a : Value) : Value := .agg #[d, .bool s.fin, .int .i64 s.next, .int .i64 s.mx, l, a, .bool s.ended, .bool s.over]
/-- v says the sender s; its rows lie below block B -/
structure SnVal (w : World) (B : Nat) (v : Value) (s : Sn) : Prop where
  ex : ∃ d l a, v = .agg #[d, .bool s.fin, .int .i64 s.next, .int .i64 s.mx, l, a, .bool s.ended, .bool s.over] ∧ BSl w B d s.data ∧ RSl w B l s.lost ∧ RSl w B a s.acked
theorem SnVal.below {w w' : World} {B : Nat} {v : Value} {s : Sn} (h : SnVal w B v s) (hb : Below B w w') : SnVal w' B v s := by
  obtain ⟨d, l, a, rfl, h1, h2, h3⟩ := h.ex
  exact ⟨d, l, a, rfl, h1.below hb, h2.below hb, h3.below hb⟩
theorem SnVal.more {w : World} {B B' : Nat} {v : Value} {s : Sn} (h : SnVal w B v s) (hB : B ≤ B') : SnVal w B' v s := by
  obtain ⟨d, l, a, rfl, h1, h2, h3⟩ := h.ex
  exact ⟨d, l, a, rfl, h1.more hB, h2.more hB, h3.more hB⟩
theorem SnVal.on {w w' : World} {v : Value} {s : Sn} (h : SnVal w w.heap.size v s) (hb : Below w.heap.size w w') : SnVal w' w'.heap.size v s := (h.below hb).more hb.size
theorem SnVal.nil (w : World) (B : Nat) : SnVal w B (.agg #[.slice none 0 0, .bool false, .int .i64 0, .int .i64 0, .slice none 0 0, .slice none 0 0, .bool false, .bool false]) sn0 :=
  ⟨_, _, _, rfl, BSl.nil _ _, RSl.nil _ _, RSl.nil _ _⟩
/-- its numbers fit, and it is no larger than so much -/
structure SnWf (s : Sn) : Prop where
  next : (Lit.int .i64 s.next).wf = true
  mx : (Lit.int .i64 s.mx).wf = true
  dl : s.data.length ≤ 1048576
  ll : s.lost.length ≤ 1048576
  al : s.acked.length ≤ 1048576
/-- an answer: a sender and an error -/
def SnRes (r : Sn × Int) (w : World) (e : Ending) (w' : World) : Prop := Below w.heap.size w w' ∧ ∃ v, e = .returned (.tuple #[v, .int .i64 r.2]) ∧ SnVal w' w'.heap.size v r.1
def SnPcRes (r : Sn × Fr × Bool × Int) (w : World) (e : Ending) (w' : World) : Prop := Below w.heap.size w w' ∧ ∃ v u, e = .returned (.tuple #[v, u, .bool r.2.2.1, .int .i64 r.2.2.2]) ∧ SnVal w' w'.heap.size v r.1 ∧ FrVal w' w'.heap.size u r.2.1
def SnChk (P : Program) (f : FuncId) : Prop := ∀ (v : Value) (s : Sn) (w : World), SnVal w w.heap.size v s → SnWf s → Calls P f #[v] w fun e w' => e = .returned (.int .i64 (faultSn s)) ∧ Below w.heap.size w w'
def SnOv (P : Program) (f : FuncId) : Prop := ∀ (v : Value) (s : Sn) (w : World), SnVal w w.heap.size v s → SnWf s → Calls P f #[v] w fun e w' => e = .returned (.tuple #[.bool (overS s).1, .int .i64 (overS s).2]) ∧ Below w.heap.size w w'
def SnWr (P : Program) (f : FuncId) : Prop := ∀ (v v2 : Value) (s : Sn) (b : List Int) (fin : Bool) (w : World), SnVal w w.heap.size v s → SnWf s → BSl w w.heap.size v2 b → b.length ≤ 1048576 → Calls P f #[v, v2, .bool fin] w (SnRes (wrS s b fin) w)
def SnGr (P : Program) (f : FuncId) : Prop := ∀ (v : Value) (s : Sn) (n : Int) (w : World), SnVal w w.heap.size v s → SnWf s → Calls P f #[v, .int .i64 n] w (SnRes (grS s n) w)
def SnPc (P : Program) (f : FuncId) : Prop := ∀ (v : Value) (s : Sn) (room credit : Int) (w : World), SnVal w w.heap.size v s → SnWf s → Calls P f #[v, .int .i64 room, .int .i64 credit] w (SnPcRes (pieceS s room credit) w)
def SnHd (P : Program) (f : FuncId) : Prop := ∀ (v : Value) (s : Sn) (off n : Int) (fin : Bool) (w : World), SnVal w w.heap.size v s → SnWf s → -9223372036854775808 ≤ n ∧ n ≤ 9223372036854775807 → Calls P f #[v, .int .i64 off, .int .i64 n, .bool fin] w (SnRes (heardS s off n fin) w)
def SnLs (P : Program) (f : FuncId) : Prop := ∀ (v : Value) (s : Sn) (off n : Int) (fin : Bool) (w : World), SnVal w w.heap.size v s → SnWf s → -9223372036854775808 ≤ n ∧ n ≤ 9223372036854775807 → Calls P f #[v, .int .i64 off, .int .i64 n, .bool fin] w (SnRes (loseS s off n fin) w)
end Go.Proofs.Ytnccibaifffhhaa.P
/- A block of eight cells (a sender's variable), of seven (a frame's). -/
namespace Go.Proofs.Ytnccibaifffhhaa.P
set_option linter.unusedVariables false
open Go.RowKit

theorem bkS {w : World} {b : Nat} {a0 a1 a2 a3 a4 a5 a6 a7 : Value} {T : TypeId} (h : w.heap[b]? = some (.cells #[a0, a1, a2, a3, a4, a5, a6, a7] T (0, 0))) :
    w.cell? ⟨b, 0, none⟩ = some a0 ∧ w.cell? ⟨b, 1, none⟩ = some a1 ∧ w.cell? ⟨b, 2, none⟩ = some a2 ∧ w.cell? ⟨b, 3, none⟩ = some a3 ∧ w.cell? ⟨b, 4, none⟩ = some a4 ∧ w.cell? ⟨b, 5, none⟩ = some a5 ∧ w.cell? ⟨b, 6, none⟩ = some a6 ∧ w.cell? ⟨b, 7, none⟩ = some a7 :=
  ⟨bk_cell h 0, bk_cell h 1, bk_cell h 2, bk_cell h 3, bk_cell h 4, bk_cell h 5, bk_cell h 6, bk_cell h 7⟩
theorem bkF {w : World} {b : Nat} {a0 a1 a2 a3 a4 a5 a6 : Value} {T : TypeId} (h : w.heap[b]? = some (.cells #[a0, a1, a2, a3, a4, a5, a6] T (0, 0))) :
    w.cell? ⟨b, 0, none⟩ = some a0 ∧ w.cell? ⟨b, 1, none⟩ = some a1 ∧ w.cell? ⟨b, 2, none⟩ = some a2 ∧ w.cell? ⟨b, 3, none⟩ = some a3 ∧ w.cell? ⟨b, 4, none⟩ = some a4 ∧ w.cell? ⟨b, 5, none⟩ = some a5 ∧ w.cell? ⟨b, 6, none⟩ = some a6 :=
  ⟨bk_cell h 0, bk_cell h 1, bk_cell h 2, bk_cell h 3, bk_cell h 4, bk_cell h 5, bk_cell h 6⟩
/-- a sender's block written whole -/
theorem bkS_put {w : World} {b : Nat} {a0 a1 a2 a3 a4 a5 a6 a7 : Value} {T : TypeId} (h : w.heap[b]? = some (.cells #[a0, a1, a2, a3, a4, a5, a6, a7] T (0, 0))) (v0 v1 v2 v3 v4 v5 v6 v7 : Value) :
    ((((((((w.setCell ⟨b, 0, none⟩ v0).setCell ⟨b, 1, none⟩ v1).setCell ⟨b, 2, none⟩ v2).setCell ⟨b, 3, none⟩ v3).setCell ⟨b, 4, none⟩ v4).setCell ⟨b, 5, none⟩ v5).setCell ⟨b, 6, none⟩ v6).setCell ⟨b, 7, none⟩ v7).heap[b]? = some (.cells #[v0, v1, v2, v3, v4, v5, v6, v7] T (0, 0)) ∧
    w.grownBy ((((((((w.setCell ⟨b, 0, none⟩ v0).setCell ⟨b, 1, none⟩ v1).setCell ⟨b, 2, none⟩ v2).setCell ⟨b, 3, none⟩ v3).setCell ⟨b, 4, none⟩ v4).setCell ⟨b, 5, none⟩ v5).setCell ⟨b, 6, none⟩ v6).setCell ⟨b, 7, none⟩ v7) (some b) :=
  let k := setAll_full h [v0, v1, v2, v3, v4, v5, v6, v7] rfl
  ⟨k.1, k.2.2⟩
/-- a frame's block written whole -/
theorem bkF_put {w : World} {b : Nat} {a0 a1 a2 a3 a4 a5 a6 : Value} {T : TypeId} (h : w.heap[b]? = some (.cells #[a0, a1, a2, a3, a4, a5, a6] T (0, 0))) (v0 v1 v2 v3 v4 v5 v6 : Value) :
    (((((((w.setCell ⟨b, 0, none⟩ v0).setCell ⟨b, 1, none⟩ v1).setCell ⟨b, 2, none⟩ v2).setCell ⟨b, 3, none⟩ v3).setCell ⟨b, 4, none⟩ v4).setCell ⟨b, 5, none⟩ v5).setCell ⟨b, 6, none⟩ v6).heap[b]? = some (.cells #[v0, v1, v2, v3, v4, v5, v6] T (0, 0)) ∧
    w.grownBy (((((((w.setCell ⟨b, 0, none⟩ v0).setCell ⟨b, 1, none⟩ v1).setCell ⟨b, 2, none⟩ v2).setCell ⟨b, 3, none⟩ v3).setCell ⟨b, 4, none⟩ v4).setCell ⟨b, 5, none⟩ v5).setCell ⟨b, 6, none⟩ v6) (some b) :=
  let k := setAll_full h [v0, v1, v2, v3, v4, v5, v6] rfl
  ⟨k.1, k.2.2⟩
/-- one cell written -/
theorem bkS_set {w : World} {b : Nat} {a0 a1 a2 a3 a4 a5 a6 a7 : Value} {T : TypeId} (h : w.heap[b]? = some (.cells #[a0, a1, a2, a3, a4, a5, a6, a7] T (0, 0))) (v : Value) :
    (w.setCell ⟨b, 0, none⟩ v).heap[b]? = some (.cells #[v, a1, a2, a3, a4, a5, a6, a7] T (0, 0)) ∧ (w.setCell ⟨b, 1, none⟩ v).heap[b]? = some (.cells #[a0, v, a2, a3, a4, a5, a6, a7] T (0, 0)) ∧ (w.setCell ⟨b, 2, none⟩ v).heap[b]? = some (.cells #[a0, a1, v, a3, a4, a5, a6, a7] T (0, 0)) ∧ (w.setCell ⟨b, 3, none⟩ v).heap[b]? = some (.cells #[a0, a1, a2, v, a4, a5, a6, a7] T (0, 0)) ∧
    (w.setCell ⟨b, 4, none⟩ v).heap[b]? = some (.cells #[a0, a1, a2, a3, v, a5, a6, a7] T (0, 0)) ∧ (w.setCell ⟨b, 5, none⟩ v).heap[b]? = some (.cells #[a0, a1, a2, a3, a4, v, a6, a7] T (0, 0)) ∧ (w.setCell ⟨b, 6, none⟩ v).heap[b]? = some (.cells #[a0, a1, a2, a3, a4, a5, v, a7] T (0, 0)) ∧ (w.setCell ⟨b, 7, none⟩ v).heap[b]? = some (.cells #[a0, a1, a2, a3, a4, a5, a6, v] T (0, 0)) :=
  ⟨by simpa using bk_set h 0 v, by simpa using bk_set h 1 v, by simpa using bk_set h 2 v, by simpa using bk_set h 3 v, by simpa using bk_set h 4 v, by simpa using bk_set h 5 v, by simpa using bk_set h 6 v, by simpa using bk_set h 7 v⟩
end Go.Proofs.Ytnccibaifffhhaa.P
