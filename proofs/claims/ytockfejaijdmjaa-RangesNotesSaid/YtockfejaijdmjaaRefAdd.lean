/- The document's answers on ranges: RangeAdded. -/
import Derived.Test.YtockfejaijdmjaaRefJoin
import Derived.Deep.RegionHeld3
namespace Go.Proofs.Ytockfejaijdmjaa.P
set_option linter.unusedVariables false
open Go.RowKit

theorem step_appR {P : Program} (w : World) {ops : Array Oper} {o : Oper} {a : Act} {K : Act → World → Prop} {Q : Exit → Act → World → Prop} {E : Prop} (hgd : o.guard = none) (s x : Operand) (t : TypeId)
    (ho : o.op = .call { callee := .builtin .append, args := #[s, x], argTypes := #[t, t] })
    (base : Nat) (e : TypeId) (i : TypeInfo) (z : Value) (ht : P.underlying t = some (.slice e)) (hi : P.info? e = some i) (hz : i.zero = some z) (hsize : i.size = 2) (hby : i.bytes = 16) (hzs : z.cells.size = 2)
    (v : Value) (qs : List (Int × Int)) (hs : a.eval s = v) (hown : OwnR w base e v qs) (B : Nat) (A : Option Addr) (m c : Nat) (zs : List (Int × Int)) (hx : a.eval x = .slice A m c) (hr : RRow w B A zs) (hm : zs.length = m)
    (hbytes : (qs.length + m) * 16 ≤ 140737488355328) (hbase : base ≤ w.heap.size)
    (h : ∀ v' w', OwnR w' base e v' (qs ++ zs) → w.grownBy w' v.ownBlock → K (a.put o.dst v') w') :
    if Region.wanted o (yielded ops a.tmps) = true then Oper.wp P o a w K Q else E := by
  have hw : Region.wanted o (yielded ops a.tmps) = true := by simp [Region.wanted, hgd]
  rw [if_pos hw]
  obtain ⟨v', w', hrun, h2, h3⟩ := run_appR (P := P) w base t o.type e i z ht hi hz hsize hby hzs v qs hown B A m c zs hr hm hbytes hbase
  unfold Oper.wp execOp
  simp only [ho, resolve, invoke, builtin, Sem.run_bind, Sem.run_pure, Result.andThen_ok, List.map_toArray, List.map_cons, List.map_nil, hs, hx, hrun]
  exact h v' w' h2 h3
theorem own_empty (w : World) (base : Nat) (t : TypeId) (hb : base ≤ w.heap.size) : OwnR (w.alloc (.cells #[] t)) base t (.slice (some ⟨w.heap.size, 0, none⟩) 0 0) [] :=
  ⟨rfl, .inr ⟨w.heap.size, 0, #[], rfl, hb, heap_alloc_new w (.cells #[] t), Nat.le_refl _, by unfold maxLen; omega, rfl, rfl⟩⟩
theorem own_empty' (w : World) (base : Nat) (t : TypeId) (k : Nat) (hk : w.heap.size = k) (hb : base ≤ k) : OwnR (w.alloc (.cells #[] t)) base t (.slice (some ⟨k, 0, none⟩) 0 0) [] := by
  subst hk; exact own_empty w base t hb
theorem RRow.one' (w : World) (lo hi : Int) (t : TypeId) (k : Nat) (hk : w.heap.size = k) : RRow (w.alloc (.cells #[.int .i64 lo, .int .i64 hi] t)) (k + 1) (some ⟨k, 0, none⟩) [(lo, hi)] := by
  subst hk; exact RRow.one w lo hi t
theorem RRow.grown {w w' : World} {B b off : Nat} {ps : List (Int × Int)} {k : Option Nat} (h : RRow w B (some ⟨b, off, none⟩) ps) (g : w.grownBy w' k) (hk : some b ≠ k) : RRow w' B (some ⟨b, off, none⟩) ps := fun hn => by
  obtain ⟨b', off', e, hb, hc⟩ := h hn
  cases e
  exact ⟨b, off, rfl, hb, fun j hj => ⟨g.cell (hc j hj).1 hk, g.cell (hc j hj).2 hk⟩⟩
end Go.Proofs.Ytockfejaijdmjaa.P
namespace Go.Proofs.Ytockfejaijdmjaa
set_option linter.unusedVariables false
open Go.RowKit P

set_option maxHeartbeats 1600000 in
theorem radded_any (A : Option Addr) (len cap : Nat) (ps : List (Int × Int)) (lo hi : Int) (w : World) (h : RRow w w.heap.size A ps) (hl : ps.length = len) (hok : okL ps) (hr : okR (lo, hi)) (hm : (len + 2) * 16 ≤ 140737488355328) :
    Calls Try.prog 14 #[.slice A len cap, .agg #[.int .i64 lo, .int .i64 hi]] w (GivePost (insR (lo, hi) ps) w) := by
  have HW := Lib.hid ((Below.refl w.heap.size w).alloc (Nat.le_refl _) (.cells #[.int .i64 lo, .int .i64 hi] 29))
  have HR := Lib.hid (h.on HW.out)
  have HL := Lib.hid hl
  have c0 := Lib.hid (rf_ok hok hr)
  have HLD := Lib.hid (by simp [hl] : ([] ++ ps ++ [(lo, hi)]).length = len + 1)
  have HOK := Lib.hid (fun x hx => by
    rcases List.mem_append.1 hx with hx | hx
    · exact (okFrom_all hok hx).1
    · rw [List.mem_singleton.1 hx]; exact hr : ∀ x ∈ [] ++ ps ++ [(lo, hi)], okR x)
  have HE := Lib.hid (fun C hC hm => ok_ext hC (insL_ok hok hr).1 fun n => (hm n).trans ((mem_app _ _ n).trans ((Or.comm.trans ((insL_ok hok hr).2 n).symm |> fun h => by simpa [mem] using h))) : ∀ C, okL C → (∀ m, mem C m ↔ mem ([] ++ ps ++ [(lo, hi)]) m) → C = insR (lo, hi) ps)
  obtain ⟨i0, hi0, hz0, hz1, hz2⟩ := info_parts infoR
  have HI := Lib.hid hi0
  have HZ := Lib.hid hz0
  have HZ1 := Lib.hid hz1
  have HZ2 := Lib.hid hz2
  clear h hl hok hr hi0 hz0 hz1 hz2
  go_enter Try.func14, Try.ntmps14
  go_wp2_with (first
    | (go_at_call 32; refine (rfault_any _ _ _ _ _ _ _ HR.out HL.out (by omega)).mono ?_; rintro e w1 ⟨rfl, hb1⟩; have d0 := (hb1.cell (p := ⟨w.heap.size, 0, none⟩) (by simp)).trans (by simp : _ = some (.int .i64 lo)); have d1 := (hb1.cell (p := ⟨w.heap.size, 1, none⟩) (by simp)).trans (by simp : _ = some (.int .i64 hi)); have HB1 := Lib.hid (HW.out.trans (hb1.mono HW.out.size)); have R1 := Lib.hid (HR.out.on hb1); clear hb1; rw [c0.out]))
  have hww := World.block_lt_of_cell? w1 _ d0
  simp only at hww
  have k00 := World.new_ne w1 _ d0
  have k01 := World.new_ne w1 _ d1
  go_region_held3 (fun w' => w'.cell? ⟨w.heap.size, 0, none⟩ = some (.int .i64 lo) ∧ w'.cell? ⟨w.heap.size, 1, none⟩ = some (.int .i64 hi)) (go_keep)
      (first
        | ((refine step_appR _ (by rfl) (.tmp 13) (.tmp 14) _ (by rfl) w1.heap.size 29 i0 _ Try.underlying22 HI.out HZ.out HZ1.out HZ2.out rfl _ [] (by rfl) (own_empty w1.drew w1.heap.size 29 (Nat.le_refl _)) w1.heap.size A len cap ps (by rfl) (R1.out.below ((Below.refl w1.heap.size w1).drew.alloc (Nat.le_refl _) (.cells #[] 29))) HL.out (by rw [List.length_nil]; omega) (by simp <;> omega) ?_
            intro v1 u1 own1 g1
            have O1 := Lib.hid own1
            have B1 := Lib.hid (((Below.refl w1.heap.size w1).drew.alloc (Nat.le_refl _) (.cells #[] 29)).grown g1 (by simp <;> omega) (fun k hk => ((own_empty w1.drew w1.heap.size 29 (Nat.le_refl _)).lt k hk).1))
            have e0 := (B1.out.cell (p := ⟨w.heap.size, 0, none⟩) hww).trans d0
            have e1 := (B1.out.cell (p := ⟨w.heap.size, 1, none⟩) hww).trans d1
            
            clear own1 g1))
        | ((refine step_appR _ (by rfl) (.tmp 13) (.tmp 14) _ (by rfl) w1.heap.size 29 i0 _ Try.underlying22 HI.out HZ.out HZ1.out HZ2.out rfl _ [] (by rfl) ((own_empty w1.drew w1.heap.size 29 (Nat.le_refl _)).alloc (.cells #[.int .i64 lo, .int .i64 hi] 29)) w1.heap.size A len cap ps (by rfl) (R1.out.below (((Below.refl w1.heap.size w1).drew.alloc (Nat.le_refl _) (.cells #[] 29)).alloc (by simp) (.cells #[.int .i64 lo, .int .i64 hi] 29))) HL.out (by rw [List.length_nil]; omega) (by simp <;> omega) ?_
            intro v1 u1 own1 g1
            have O1 := Lib.hid own1
            have B1 := Lib.hid ((((Below.refl w1.heap.size w1).drew.alloc (Nat.le_refl _) (.cells #[] 29)).alloc (by simp) (.cells #[.int .i64 lo, .int .i64 hi] 29)).grown g1 (by simp <;> omega) (fun k hk => (((own_empty w1.drew w1.heap.size 29 (Nat.le_refl _)).alloc (.cells #[.int .i64 lo, .int .i64 hi] 29)).lt k hk).1))
            have e0 := (B1.out.cell (p := ⟨w.heap.size, 0, none⟩) hww).trans d0
            have e1 := (B1.out.cell (p := ⟨w.heap.size, 1, none⟩) hww).trans d1
            have RX := Lib.hid ((RRow.one' (w1.drew.alloc (.cells #[] 29)) lo hi 29 (w1.heap.size + 1) (by simp)).grown g1 (by simp [Value.ownBlock]))
            clear own1 g1))
        | ((refine step_appR _ (by rfl) (.tmp 13) (.tmp 14) _ (by rfl) w1.heap.size 29 i0 _ Try.underlying22 HI.out HZ.out HZ1.out HZ2.out rfl _ [] (by rfl) (own_empty' (w1.drew.alloc (.cells #[.int .i64 lo, .int .i64 hi] 29)) w1.heap.size 29 (w1.heap.size + 1) (by simp) (Nat.le_succ _)) w1.heap.size A len cap ps (by rfl) (R1.out.below (((Below.refl w1.heap.size w1).drew.alloc (Nat.le_refl _) (.cells #[.int .i64 lo, .int .i64 hi] 29)).alloc (by simp) (.cells #[] 29))) HL.out (by rw [List.length_nil]; omega) (by simp <;> omega) ?_
            intro v1 u1 own1 g1
            have O1 := Lib.hid own1
            have B1 := Lib.hid ((((Below.refl w1.heap.size w1).drew.alloc (Nat.le_refl _) (.cells #[.int .i64 lo, .int .i64 hi] 29)).alloc (by simp) (.cells #[] 29)).grown g1 (by simp <;> omega) (fun k hk => ((own_empty' (w1.drew.alloc (.cells #[.int .i64 lo, .int .i64 hi] 29)) w1.heap.size 29 (w1.heap.size + 1) (by simp) (Nat.le_succ _)).lt k hk).1))
            have e0 := (B1.out.cell (p := ⟨w.heap.size, 0, none⟩) hww).trans d0
            have e1 := (B1.out.cell (p := ⟨w.heap.size, 1, none⟩) hww).trans d1
            have RX := Lib.hid (((RRow.one' w1.drew lo hi 29 w1.heap.size rfl).below ((Below.refl _ _).alloc (by simp) (.cells #[] 29))).grown g1 (by simp [Value.ownBlock]))
            clear own1 g1))
        | ((refine step_appR _ (by rfl) (.tmp 15) (.tmp 17) _ (by rfl) w1.heap.size 29 i0 _ Try.underlying22 HI.out HZ.out HZ1.out HZ2.out rfl v1 ([] ++ ps) (by rfl) (O1.out.alloc (.cells #[.int .i64 lo, .int .i64 hi] 29)) _ _ 1 1 [(lo, hi)] (by rfl) (RRow.one u1 lo hi 29) rfl (by rw [List.nil_append, HL.out]; omega) (by have := B1.out.size; first | omega | (simp; omega)) ?_
            intro v2 u2 own2 g2
            have B2 := Lib.hid ((B1.out.alloc (B1.out.size) (.cells #[.int .i64 lo, .int .i64 hi] 29)).grown g2 (by have := B1.out.size; first | omega | (simp; omega)) (fun k hk => (O1.out.lt k hk).1))
            have f0 := (B2.out.cell (p := ⟨w.heap.size, 0, none⟩) hww).trans d0
            have f1 := (B2.out.cell (p := ⟨w.heap.size, 1, none⟩) hww).trans d1
            obtain ⟨A2, c2, hv2, _, _, r2⟩ := own2.slice
            rw [HLD.out] at hv2
            subst hv2
            have R2 := Lib.hid r2
            clear own2 g2 r2))
        | ((refine step_appR _ (by rfl) (.tmp 15) (.tmp 17) _ (by rfl) w1.heap.size 29 i0 _ Try.underlying22 HI.out HZ.out HZ1.out HZ2.out rfl v1 ([] ++ ps) (by rfl) (O1.out) _ _ 1 1 [(lo, hi)] (by rfl) (RX.out) rfl (by rw [List.nil_append, HL.out]; omega) (by have := B1.out.size; first | omega | (simp; omega)) ?_
            intro v2 u2 own2 g2
            have B2 := Lib.hid ((B1.out).grown g2 (by have := B1.out.size; first | omega | (simp; omega)) (fun k hk => (O1.out.lt k hk).1))
            have f0 := (B2.out.cell (p := ⟨w.heap.size, 0, none⟩) hww).trans d0
            have f1 := (B2.out.cell (p := ⟨w.heap.size, 1, none⟩) hww).trans d1
            obtain ⟨A2, c2, hv2, _, _, r2⟩ := own2.slice
            rw [HLD.out] at hv2
            subst hv2
            have R2 := Lib.hid r2
            clear own2 g2 r2))
        | ((go_at_call 33
            refine (joined_any A2 (len + 1) c2 ([] ++ ps ++ [(lo, hi)]) _ R2.out HLD.out HOK.out (by omega) (by omega)).mono ?_
            rintro e u3 ⟨v3, C, rfl, oC, okC, mC, hb3⟩
            have B3 := Lib.hid (bt HB1.out (bt B2.out hb3))
            have O3 := Lib.hid oC
            have q0 := (hb3.cell (p := ⟨w.heap.size, 0, none⟩) (Nat.lt_of_lt_of_le hww B2.out.size)).trans f0
            have q1 := (hb3.cell (p := ⟨w.heap.size, 1, none⟩) (Nat.lt_of_lt_of_le hww B2.out.size)).trans f1
            have HC := Lib.hid (HE.out C okC mC)
            clear oC okC mC hb3)))
  all_goals
    go_wp2
    go_ret2
    rw [HC.out] at O3
    obtain ⟨A9, c9, rfl, l9, m9, r9⟩ := O3.out.slice
    exact ⟨A9, c9, rfl, l9, m9, r9, B3.out⟩
theorem radded_bad (A : Option Addr) (len cap : Nat) (ps : List (Int × Int)) (lo hi : Int) (w : World) (h : RRow w w.heap.size A ps) (hl : ps.length = len) (hc : rfV ps (lo, hi) = 3 ∨ rfV ps (lo, hi) = 6) (hm : len ≤ 9223372036854775807) :
    Calls Try.prog 14 #[.slice A len cap, .agg #[.int .i64 lo, .int .i64 hi]] w (FaultPost (rfV ps (lo, hi)) w) := by
  have HW := Lib.hid ((Below.refl w.heap.size w).alloc (Nat.le_refl _) (.cells #[.int .i64 lo, .int .i64 hi] 29))
  have HR := Lib.hid (h.on HW.out)
  have HL := Lib.hid hl
  clear h hl
  rcases hc with hc | hc
  all_goals
    have c0 := Lib.hid hc
    clear hc
    go_enter Try.func14, Try.ntmps14
    go_wp2_with (first
      | (go_at_call 32; refine (rfault_any _ _ _ _ _ _ _ HR.out HL.out (by omega)).mono ?_; rintro e w1 ⟨rfl, hb1⟩; have HB1 := Lib.hid hb1; clear hb1; rw [c0.out]))
    go_ret2
    exact ⟨by rw [c0.out]; rfl, HW.out.trans (HB1.out.mono HW.out.size)⟩
end Go.Proofs.Ytockfejaijdmjaa
