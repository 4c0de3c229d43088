/- Packets that were sent, heard of, lost: each once. What SpaceOnce, SpaceLies and SpaceLate ask, over plain lists. -/
import Derived.Test.YtnccibaifffhhaaGrpSa
namespace Go.Proofs.Ytnccibaifffhhaa.P
set_option linter.unusedVariables false

theorem spB_okM : okSp ⟨0, [], -1, [], []⟩ := by
  refine ⟨by decide, by decide, by decide, (fun p hp => by cases hp), trivial, by decide, trivial, by decide, trivial, by simp, (fun n hn => by cases hn)⟩
theorem rngF_lt : ∀ {l : List (Int × Int)} {next : Int}, rngF next l = 0 → ∀ r ∈ l, 0 ≤ r.1 ∧ r.1 ≤ r.2 ∧ r.2 < next
  | [], _, _, r, hr => by cases hr
  | x :: l, next, h, r, hr => by
    unfold rngF at h
    by_cases c : x.1 < 0 ∨ x.2 < x.1
    · rw [if_pos c] at h; cases h
    · rw [if_neg c] at h
      by_cases d : next ≤ x.2
      · rw [if_pos d] at h; cases h
      · rw [if_neg d] at h
        rcases List.mem_cons.1 hr with rfl | hr
        · omega
        · exact rngF_lt h r hr
theorem topOf_is : ∀ (t : Int) (l : List (Int × Int)), topOf t l = t ∨ ∃ r ∈ l, topOf t l = r.2
  | t, [] => .inl rfl
  | t, x :: l => by
    rcases topOf_is (max t x.2) l with h | ⟨r, hr, h⟩
    · by_cases q : t ≤ x.2
      · exact .inr ⟨x, List.mem_cons_self, by show topOf (max t x.2) l = x.2; omega⟩
      · exact .inl (by show topOf (max t x.2) l = t; omega)
    · exact .inr ⟨r, List.mem_cons_of_mem _ hr, h⟩
theorem memB_at {l : List (Int × Int)} {r : Int × Int} {n : Int} (hr : r ∈ l) (h1 : r.1 ≤ n) (h2 : n ≤ r.2) : memB l n = true := by
  unfold memB
  rw [List.any_eq_true]
  exact ⟨r, hr, by simp [h1, h2]⟩
/-- what keeps a space one that may be -/
theorem leap_ok {s : Sp} (ok : okSp s) (hn : s.next < 4611686018427387903) : ∃ k, leapSp s = ({ s with next := s.next + 1, skip := k }, 0) ∧ okSp { s with next := s.next + 1, skip := k } ∧ s.next ∈ k ∧ ∀ m ∈ k, m ≤ s.next := by
  have f := (faultSp_iff s).2 ok
  obtain ⟨k1, k2, k3, k4, k5, k6, k7, k8, k9, k10, k11⟩ := ok
  have hle : ∀ m ∈ (s.skip ++ [s.next]).drop (s.skip.length + 1 - 6), m ≤ s.next := fun m hm => by
    rcases List.mem_append.1 (List.mem_of_mem_drop hm) with q | q
    · have := riseF_bd k9 q; omega
    · obtain rfl : m = s.next := by simpa using q
      omega
  have hin : ∀ m ∈ (s.skip ++ [s.next]).drop (s.skip.length + 1 - 6), m ∈ s.skip ∨ m = s.next := fun m hm => by
    rcases List.mem_append.1 (List.mem_of_mem_drop hm) with q | q
    · exact .inl q
    · exact .inr (by simpa using q)
  refine ⟨(s.skip ++ [s.next]).drop (s.skip.length + 1 - 6), by unfold leapSp; rw [if_neg (fun q => q f), if_neg (by omega)], ⟨⟨by dsimp only; omega, by dsimp only; omega⟩, by dsimp only; omega, k3, k4, riseF_mono k5 (by dsimp only; omega), k6, k7, ?_, ?_, ?_, ?_⟩, ?_, hle⟩
  · dsimp only
    rw [List.length_drop, List.length_append, List.length_singleton]
    omega
  · dsimp only
    exact riseF_sub (List.drop_sublist _ _) (riseF_snoc (a := -1) (e := s.next) k9 (by omega))
  · intro q
    rcases hin _ q with q | q
    · exact k10 q
    · have := k2.2; dsimp only at q; omega
  · intro n hn' q
    rcases hin _ q with q | q
    · exact k11 n hn' q
    · have := riseF_bd k5 hn'; omega
  · rw [List.drop_append_of_le_length (by omega)]
    exact List.mem_append.2 (.inr (by simp))
theorem ack_ok {s : Sp} (ok : okSp s) {l : List (Int × Int)} (h : ackF s l = 0) : okSp (ackSp s l).1 := by
  have f := (faultSp_iff s).2 ok
  unfold ackSp
  rw [if_neg (fun q => q h)]
  unfold ackF at h
  rw [if_neg (fun q => q f)] at h
  by_cases r : rngF s.next l = 0
  · rw [if_neg (fun q => q r)] at h
    by_cases k : s.skip.any (memB l) = true
    · rw [if_pos k] at h; cases h
    · have ok' : okSp { s with sent := (s.sent.filter fun p => !memB l p.num).filter fun p => !decide (p.num ≤ topOf s.top l - 3) } := okSp_sub ok ((List.filter_sublist).trans List.filter_sublist)
      obtain ⟨k1, k2, k3, k4, k5, k6, k7, k8, k9, k10, k11⟩ := ok'
      dsimp only at k2 k10
      refine ⟨k1, ?_, k3, k4, k5, k6, k7, k8, k9, ?_, k11⟩
      · dsimp only
        refine ⟨Int.le_trans k2.1 (topOf_ge _ _), ?_⟩
        rcases topOf_is s.top l with q | ⟨x, hx, q⟩
        · rw [q]; exact k2.2
        · rw [q]; exact (rngF_lt r x hx).2.2
      · dsimp only
        intro q
        rcases topOf_is s.top l with e | ⟨x, hx, e⟩
        · rw [e] at q; exact k10 q
        · refine k (List.any_eq_true.2 ⟨_, q, ?_⟩)
          rw [e]
          exact memB_at hx (rngF_lt r x hx).2.1 (Int.le_refl _)
  · rw [if_pos r] at h; exact absurd h r
theorem rise_nodup : ∀ {l : List Int} {a e : Int}, riseF a l e → l.Nodup
  | [], _, _, _ => List.nodup_nil
  | n :: l, a, e, h => List.nodup_cons.2 ⟨fun q => by have := (riseF_bd h.2.2 q).1; omega, rise_nodup h.2.2⟩
theorem num_mem {l : List Pcl} {n : Int} : n ∈ nums l ↔ ∃ p ∈ l, p.num = n := by simp [nums]
/-- what is left, and what is gone -/
theorem nums_filter {l : List Pcl} {f : Int → Bool} {n : Int} : n ∈ nums (l.filter fun p => f p.num) ↔ n ∈ nums l ∧ f n = true := by
  rw [num_mem, num_mem]
  constructor
  · rintro ⟨p, hp, rfl⟩
    have := List.mem_filter.1 hp
    exact ⟨⟨p, this.1, rfl⟩, this.2⟩
  · rintro ⟨⟨p, hp, rfl⟩, h⟩
    exact ⟨p, List.mem_filter.2 ⟨hp, h⟩, rfl⟩

/-- how often each number ended: once more for each of these -/
def bumpE (E : Int → Option Int) (ns : List Int) : Int → Option Int := fun n => if n ∈ ns then some 2 else E n
theorem bumpE_nil (E : Int → Option Int) (n : Int) : bumpE E [] n = E n := by simp [bumpE]
theorem bumpE_step {E : Int → Option Int} {ns : List Int} (hd : ns.Nodup) (k : Nat) (hk : k < ns.length) (h1 : E ns[k] = some 1) : bumpE E (ns.take k) ns[k] = some 1 ∧ ∀ y, (if y = ns[k] then some 2 else bumpE E (ns.take k) y) = bumpE E (ns.take (k + 1)) y := by
  have hn : ns[k] ∉ ns.take k := fun q => by
    obtain ⟨i, hi, e⟩ := List.getElem_of_mem q
    rw [List.length_take] at hi
    rw [List.getElem_take] at e
    have := (List.getElem_inj hd).1 e
    omega
  refine ⟨by unfold bumpE; rw [if_neg hn]; exact h1, fun y => ?_⟩
  unfold bumpE
  rw [List.take_succ_eq_append_getElem hk]
  by_cases e : y = ns[k]
  · rw [if_pos e, if_pos (List.mem_append.2 (.inr (List.mem_singleton.2 e)))]
  · rw [if_neg e]
    by_cases m : y ∈ ns.take k
    · rw [if_pos m, if_pos (List.mem_append.2 (.inl m))]
    · rw [if_neg m, if_neg (fun q => (List.mem_append.1 q).elim m fun q => e (List.mem_singleton.1 q))]
/-- a space, and how often each number was sent or ended -/
structure OnI (s : Sp) (E : Int → Option Int) : Prop where
  ok : okSp s
  way : ∀ n ∈ nums s.sent, E n = some 1
  gone : ∀ n c, E n = some c → n ∉ nums s.sent → c = 2
theorem OnI.begin : OnI ⟨0, [], -1, [], []⟩ (fun _ => none) := ⟨spB_okM, (fun n hn => by cases hn), (fun n c h => by cases h)⟩
theorem OnI.send {s : Sp} {E : Int → Option Int} (h : OnI s E) {now size : Int} {l : List Fr} (h0 : (sendSp s now size l).2.2 = 0) : OnI (sendSp s now size l).1 (fun n => if n = s.next then some 1 else E n) ∧ (sendSp s now size l).2.1 = s.next ∧ (sendSp s now size l).1.next = s.next + 1 := by
  have ok := send_ok h0
  unfold sendSp at h0 ok ⊢
  rw [if_neg (fun q => q ((faultSp_iff s).2 h.ok))] at h0 ok ⊢
  by_cases r : (0 ≤ now ∧ now ≤ 1099511627776) ∧ 0 ≤ size ∧ size ≤ 400
  · rw [if_neg (fun q => q r)] at h0 ok ⊢
    by_cases c : s.sent.length = 24 ∨ s.next = 4611686018427387903
    · rw [if_pos c] at h0; cases h0
    · rw [if_neg c] at ok ⊢
      refine ⟨⟨ok, fun n hn => ?_, fun n c hE hn => ?_⟩, rfl, rfl⟩
      · dsimp only [nums] at hn
        rw [List.map_append] at hn
        by_cases e : n = s.next
        · rw [if_pos e]
        · rw [if_neg e]
          rcases List.mem_append.1 hn with hn | hn
          · exact h.way n hn
          · exact absurd (by simpa using hn) e
      · dsimp only [nums] at hn
        rw [List.map_append] at hn
        have hn1 : n ∉ nums s.sent := fun q => hn (List.mem_append.2 (.inl q))
        have hn2 : ¬ n = s.next := fun q => hn (List.mem_append.2 (.inr (by simp [q])))
        rw [if_neg hn2] at hE
        exact h.gone n c hE hn1
  · rw [if_pos r] at h0; cases h0
theorem OnI.leap {s s' : Sp} {E : Int → Option Int} (h : OnI s E) (ok : okSp s') (e : s'.sent = s.sent) : OnI s' E := ⟨ok, by rw [e]; exact h.way, by rw [e]; exact h.gone⟩
theorem OnI.ends {s s' : Sp} {E : Int → Option Int} (h : OnI s E) (ok : okSp s') (l : List Pcl) (hs : ∀ n, n ∈ nums s'.sent ↔ n ∈ nums s.sent ∧ n ∉ nums l) : OnI s' (bumpE E (nums l)) := by
  refine ⟨ok, fun n hn => ?_, fun n c hE hn => ?_⟩
  · have q := (hs n).1 hn
    unfold bumpE
    rw [if_neg q.2]
    exact h.way n q.1
  · unfold bumpE at hE
    by_cases m : n ∈ nums l
    · rw [if_pos m] at hE
      injection hE with e
      exact e.symm
    · rw [if_neg m] at hE
      exact h.gone n c hE (fun q => hn ((hs n).2 ⟨q, m⟩))
/-- what Acked tells: of a space that may be, nothing that is refused -/
theorem OnI.acked {s : Sp} {E : Int → Option Int} (h : OnI s E) {l : List (Int × Int)} (h0 : (ackSp s l).2.2.2 = 0) :
    OnI (ackSp s l).1 (bumpE E (nums ((ackSp s l).2.1 ++ (ackSp s l).2.2.1))) ∧ (nums ((ackSp s l).2.1 ++ (ackSp s l).2.2.1)).Nodup ∧ (∀ n ∈ nums ((ackSp s l).2.1 ++ (ackSp s l).2.2.1), E n = some 1) ∧ (ackSp s l).1.next = s.next := by
  have hf : ackF s l = 0 := by
    by_cases q : ackF s l = 0
    · exact q
    · unfold ackSp at h0; rw [if_pos q] at h0; exact h0
  have ok := ack_ok h.ok hf
  have nd := rise_nodup h.ok.2.2.2.2.1
  unfold ackSp at ok ⊢
  rw [if_neg (fun q => q hf)] at ok ⊢
  dsimp only at ok ⊢
  have e1 : ∀ n, n ∈ nums (s.sent.filter fun p => memB l p.num) ↔ n ∈ nums s.sent ∧ memB l n = true := fun n => nums_filter
  have e2 : ∀ n, n ∈ nums ((s.sent.filter fun p => !memB l p.num).filter fun p => decide (p.num ≤ topOf s.top l - 3)) ↔ (n ∈ nums s.sent ∧ (!memB l n) = true) ∧ decide (n ≤ topOf s.top l - 3) = true := fun n => by
    rw [nums_filter (f := fun n => decide (n ≤ topOf s.top l - 3)), nums_filter (f := fun n => !memB l n)]
  have e3 : ∀ n, n ∈ nums ((s.sent.filter fun p => !memB l p.num).filter fun p => !decide (p.num ≤ topOf s.top l - 3)) ↔ (n ∈ nums s.sent ∧ (!memB l n) = true) ∧ (!decide (n ≤ topOf s.top l - 3)) = true := fun n => by
    rw [nums_filter (f := fun n => !decide (n ≤ topOf s.top l - 3)), nums_filter (f := fun n => !memB l n)]
  have ea : ∀ n, n ∈ nums ((s.sent.filter fun p => memB l p.num) ++ ((s.sent.filter fun p => !memB l p.num).filter fun p => decide (p.num ≤ topOf s.top l - 3))) ↔ n ∈ nums (s.sent.filter fun p => memB l p.num) ∨ n ∈ nums ((s.sent.filter fun p => !memB l p.num).filter fun p => decide (p.num ≤ topOf s.top l - 3)) := fun n => by
    unfold nums; rw [List.map_append, List.mem_append]
  refine ⟨h.ends ok _ fun n => ?_, ?_, fun n hn => ?_, rfl⟩
  · rw [ea, e3 n, e1 n, e2 n]
    cases memB l n <;> cases decide (n ≤ topOf s.top l - 3) <;> simp
  · unfold nums
    rw [List.map_append]
    refine List.nodup_append.2 ⟨nd.sublist (List.filter_sublist.map _), nd.sublist ((List.filter_sublist.trans List.filter_sublist).map _), fun a ha b hb e => ?_⟩
    subst e
    have q1 := (e1 a).1 ha
    have q2 := (e2 a).1 hb
    rw [q1.2] at q2
    simp at q2
  · rcases (ea n).1 hn with q | q
    · exact h.way n ((e1 n).1 q).1
    · exact h.way n ((e2 n).1 q).1.1
theorem OnI.over {s : Sp} {E : Int → Option Int} (h : OnI s E) {now age : Int} (t0 : 0 ≤ now) (t1 : now ≤ 1099511627776) (a0 : 0 ≤ age) (a1 : age ≤ 1099511627776) :
    (overSp s now age).2.2 = 0 ∧ OnI (overSp s now age).1 (bumpE E (nums (overSp s now age).2.1)) ∧ (nums (overSp s now age).2.1).Nodup ∧ (∀ n ∈ nums (overSp s now age).2.1, E n = some 1) ∧ (overSp s now age).1.next = s.next := by
  have h0 : (overSp s now age).2.2 = 0 := by
    unfold overSp
    rw [if_neg (fun q => q ((faultSp_iff s).2 h.ok)), if_neg (fun q => q ⟨⟨t0, t1⟩, a0, a1⟩)]
  have ok := over_ok h0
  refine ⟨h0, ?_⟩
  have nd := rise_nodup h.ok.2.2.2.2.1
  unfold overSp at ok ⊢
  rw [if_neg (fun q => q ((faultSp_iff s).2 h.ok)), if_neg (fun q => q ⟨⟨t0, t1⟩, a0, a1⟩)] at ok ⊢
  dsimp only at ok ⊢
  refine ⟨h.ends ok _ fun n => ?_, nd.sublist (List.filter_sublist.map _), fun n hn => h.way n ((List.filter_sublist.map Pcl.num).subset hn), rfl⟩
  constructor
  · intro hn
    obtain ⟨p, hp, rfl⟩ := num_mem.1 hn
    obtain ⟨hp1, hp2⟩ := List.mem_filter.1 hp
    refine ⟨num_mem.2 ⟨p, hp1, rfl⟩, fun q => ?_⟩
    obtain ⟨p', hp', e⟩ := num_mem.1 q
    obtain ⟨hp1', hp2'⟩ := List.mem_filter.1 hp'
    -- two packets of one number are one
    obtain ⟨i, hi, rfl⟩ := List.getElem_of_mem hp1
    obtain ⟨j, hj, rfl⟩ := List.getElem_of_mem hp1'
    have : j = i := by
      have e' : (nums s.sent)[j]'(by simpa [nums] using hj) = (nums s.sent)[i]'(by simpa [nums] using hi) := by simpa [nums] using e
      exact (List.getElem_inj nd).1 e'
    subst this
    rw [hp2'] at hp2
    cases hp2
  · rintro ⟨hn, hq⟩
    obtain ⟨p, hp, rfl⟩ := num_mem.1 hn
    refine num_mem.2 ⟨p, List.mem_filter.2 ⟨hp, ?_⟩, rfl⟩
    cases c : decide (p.time ≤ now - age) with
    | false => rfl
    | true => exact absurd (num_mem.2 ⟨p, List.mem_filter.2 ⟨hp, c⟩, rfl⟩) hq

/-- no packet has frames -/
def NoFr (s : Sp) : Prop := ∀ p ∈ s.sent, p.frs = []
theorem NoFr.begin : NoFr ⟨0, [], -1, [], []⟩ := fun p hp => by cases hp
theorem NoFr.send {s : Sp} (h : NoFr s) (now size : Int) : NoFr (sendSp s now size []).1 := by
  unfold sendSp
  split
  · exact fun p hp => by cases hp
  · split
    · exact fun p hp => by cases hp
    · split
      · exact fun p hp => by cases hp
      · intro p hp
        rcases List.mem_append.1 hp with q | q
        · exact h p q
        · obtain rfl : p = ⟨s.next, now, size, []⟩ := by simpa using q
          rfl
theorem NoFr.acked {s : Sp} (h : NoFr s) (l : List (Int × Int)) : NoFr (ackSp s l).1 := by
  unfold ackSp
  split
  · exact fun p hp => by cases hp
  · exact fun p hp => h p (List.mem_filter.1 (List.mem_filter.1 hp).1).1
theorem NoFr.over {s : Sp} (h : NoFr s) (now age : Int) : NoFr (overSp s now age).1 := by
  unfold overSp
  split
  · exact fun p hp => by cases hp
  · split
    · exact fun p hp => by cases hp
    · exact fun p hp => h p (List.mem_filter.1 hp).1
theorem ack_lens {s : Sp} (ok : okSp s) (l : List (Int × Int)) : (ackSp s l).2.1.length ≤ 24 ∧ (ackSp s l).2.2.1.length ≤ 24 := by
  have := ok.2.2.1
  unfold ackSp
  split
  · exact ⟨by simp, by simp⟩
  · exact ⟨Nat.le_trans (List.length_filter_le _ _) this, Nat.le_trans (List.length_filter_le _ _) (Nat.le_trans (List.length_filter_le _ _) this)⟩
theorem over_lens {s : Sp} (ok : okSp s) (now age : Int) : (overSp s now age).2.1.length ≤ 24 := by
  have := ok.2.2.1
  unfold overSp
  split
  · simp
  · split
    · simp
    · exact Nat.le_trans (List.length_filter_le _ _) this

/- what SpaceLies asks -/
theorem lies_far {s : Sp} (ok : okSp s) {d : Int} (h0 : 0 ≤ d) : ackSp s [(s.next, s.next + d)] = (sp0, [], [], 13) := by
  have hf : ackF s [(s.next, s.next + d)] = 13 := by
    unfold ackF
    rw [if_neg (fun q => q ((faultSp_iff s).2 ok))]
    have : rngF s.next [(s.next, s.next + d)] = 13 := by
      unfold rngF
      rw [if_neg (by have := ok.1.1; dsimp only; omega), if_pos (by dsimp only; omega)]
    rw [this]
    rfl
  unfold ackSp
  rw [hf]
  rfl
theorem lies_leapt {s : Sp} {k : List Int} (ok : okSp { s with next := s.next + 1, skip := k }) (hk : s.next ∈ k) (h0 : 0 ≤ s.next) : ackSp { s with next := s.next + 1, skip := k } [(0, s.next)] = (sp0, [], [], 13) := by
  have hf : ackF { s with next := s.next + 1, skip := k } [(0, s.next)] = 13 := by
    unfold ackF
    rw [if_neg (fun q => q ((faultSp_iff _).2 ok))]
    have : rngF (s.next + 1) [(0, s.next)] = 0 := by
      unfold rngF
      rw [if_neg (by dsimp only; omega), if_neg (by dsimp only; omega)]
      rfl
    dsimp only
    rw [this]
    have : k.any (memB [(0, s.next)]) = true := List.any_eq_true.2 ⟨_, hk, memB_at List.mem_cons_self h0 (Int.le_refl _)⟩
    rw [if_neg (fun q => q rfl), this]
    rfl
  unfold ackSp
  rw [hf]
  rfl
theorem lies_quiet {s : Sp} (ok : okSp s) (hn : s.next < 4611686018427387903) : quietSp s = ({ s with next := s.next + 1 }, s.next, 0) ∧ okSp { s with next := s.next + 1 } := by
  have e : quietSp s = ({ s with next := s.next + 1 }, s.next, 0) := by
    unfold quietSp
    rw [if_neg (fun q => q ((faultSp_iff s).2 ok)), if_neg (by omega)]
  have := quiet_ok (s := s) (by rw [e])
  rw [e] at this
  exact ⟨e, this.1⟩
theorem lies_none {s : Sp} (ok : okSp s) (ok' : okSp { s with next := s.next + 1 }) : ∃ t lo, ackSp { s with next := s.next + 1 } [(s.next, s.next)] = (t, [], lo, 0) := by
  have hf : ackF { s with next := s.next + 1 } [(s.next, s.next)] = 0 := by
    unfold ackF
    rw [if_neg (fun q => q ((faultSp_iff _).2 ok'))]
    have : rngF (s.next + 1) [(s.next, s.next)] = 0 := by
      unfold rngF
      rw [if_neg (by have := ok.1.1; dsimp only; omega), if_neg (by dsimp only; omega)]
      rfl
    dsimp only
    rw [this, if_neg (fun q => q rfl)]
    have : ¬ s.skip.any (memB [(s.next, s.next)]) = true := fun q => by
      obtain ⟨n, hn, hb⟩ := List.any_eq_true.1 q
      have := riseF_bd ok.2.2.2.2.2.2.2.2.1 hn
      simp [memB] at hb
      omega
    rw [if_neg this]
  unfold ackSp
  rw [if_neg (fun q => q hf)]
  have : s.sent.filter (fun p => memB [(s.next, s.next)] p.num) = [] := List.filter_eq_nil_iff.2 fun p hp hb => by
    have := riseF_bd ok.2.2.2.2.1 (num_mem.2 ⟨p, hp, rfl⟩)
    simp [memB] at hb
    omega
  dsimp only
  rw [this]
  exact ⟨_, _, rfl⟩
end Go.Proofs.Ytnccibaifffhhaa.P
