/- PROVED HERE: FrameList: called with any input that can be read, spillway/spillwaykeep.FrameList returns true and does not panic, and its arguments read afterwards as they read before. Condition: the listed library tables (math/bits.deBruijn32tab, math/bits.deBruijn64tab) hold at the start what the program text lays; the card ties this to the text. -/
import Derived.Test.YtjeocggocloigabDoorQZ
import Derived.Test.YtjeocggocloigabDoorQL
import Derived.Test.YtjeocggocloigabDoorQS
import Derived.Test.YtjeocggocloigabDoorRows
import Derived.Test.YtjeocggocloigabDoorCards
import Derived.Test.YtjeocggocloigabDoorTie
import Derived.WalkKit
import Derived.ProofKit
import Derived.OpenShut
import Derived.ShutString
import Derived.ChangeOld
import Derived.Below
import Derived.SizedLaws
import Derived.LaidMore
import Derived.Lay
import Derived.SevenTiedAt
import Derived.Stop.Joined
/- The walk of FrameList. -/
namespace Go.Proofs.YtjeocggocloigabDoor
set_option linter.unusedVariables false
open Go.RowKit P

def fRaw (r : RawT) : Fr := fOf (r.kind % 14) r.a r.b ((numsOf r.text).take 40)
theorem fRaw_ok (r : RawT) : faultF (fRaw r) = 0 := fOf_ok _ _ _ _ (by rw [List.length_take]; omega)


theorem FC.ok.offNew {c : FC} {w : World} (h : c.ok w w.heap.size) : c.off (some w.heap.size) := by
  refine ⟨fun hn b o e e2 => ?_, fun hn b o e e2 => ?_⟩
  · injection e2 with e2
    obtain ⟨b1, o1, e1, hb1, _⟩ := h.rr hn
    rw [e] at e1
    cases e1
    omega
  · injection e2 with e2
    obtain ⟨b1, o1, e1, hb1, _⟩ := h.dr.2 hn
    rw [e] at e1
    cases e1
    omega
/-- what holds at the head of the loop -/
structure LInv (rs : List RawT) (W : World) (k : Nat) (fsv allv : Value) (cs : List FC) (zs : List Int) (wr : World) : Prop where
  below : Below W.heap.size W wr
  row : RowF wr W.heap.size fsv cs
  map : cs.map FC.f = (rs.take k).map fRaw
  own : wr.ownsRow W.heap.size 5 1 allv zs.length (zs.map (.int .u8))
  txt : zs = frTs (cs.map FC.f)
  byt : Byt zs
  sep : ∀ q, fsv.ownBlock = some q → allv.ownBlock ≠ some q
  off : ∀ c ∈ cs, c.off allv.ownBlock
  len : zs.length ≤ 608 * k
theorem LInv.start (rs : List RawT) (W : World) : LInv rs W 0 (.slice none 0 0) (.slice none 0 0) [] [] W :=
  ⟨Below.refl _ _, RowF.nil _ _, rfl, ⟨rfl, .inl ⟨rfl, rfl⟩⟩, rfl, Byt.nil, fun q e => (by cases e), fun c h => (by cases h), Nat.zero_le _⟩
theorem LInv.allLt {rs : List RawT} {W : World} {k : Nat} {fsv allv : Value} {cs : List FC} {zs : List Int} {wr : World} (H : LInv rs W k fsv allv cs zs wr) : ∀ q, allv.ownBlock = some q → W.heap.size ≤ q ∧ q < wr.heap.size := fun q hq => World.ownsRow.lt H.own q hq
theorem LInv.count {rs : List RawT} {W : World} {k : Nat} {fsv allv : Value} {cs : List FC} {zs : List Int} {wr : World} (H : LInv rs W k fsv allv cs zs wr) (hk : k ≤ rs.length) : cs.length = k := by
  have := congrArg List.length H.map
  rw [List.length_map, List.length_map, List.length_take] at this
  omega
/-- the bytes so far are as they were behind the append of a frame -/
theorem LInv.all6 {rs : List RawT} {W : World} {k : Nat} {fsv allv : Value} {cs : List FC} {zs : List Int} {wr u w6 : World} (H : LInv rs W k fsv allv cs zs wr) (hu : Below wr.heap.size wr u) (g6 : u.grownBy w6 fsv.ownBlock) : w6.ownsRow W.heap.size 5 1 allv zs.length (zs.map (.int .u8)) := by
  have h1 : u.ownsRow W.heap.size 5 1 allv zs.length (zs.map (.int .u8)) := World.ownsRow.kept H.own (grown_below none hu) (by cases hv : allv.ownBlock with | none => exact .inl rfl | some q => exact .inr (by simp))
  refine World.ownsRow.kept h1 g6 ?_
  cases hv : allv.ownBlock with
  | none => exact .inl rfl
  | some q => exact .inr (fun e => H.sep q e.symm hv)
theorem LInv.step {rs : List RawT} {W : World} {k : Nat} {fsv allv : Value} {cs : List FC} {zs X : List Int} {wr u w6 w7 : World} {v6 v7 : Value} {c : FC} (H : LInv rs W k fsv allv cs zs wr) (hu : Below wr.heap.size wr u) (hk : k < rs.length) (hcf : c.f = fRaw (rs.getD k raw0)) (hoff : ∀ r : Option Nat, (∀ q, r = some q → q < wr.heap.size) → c.off r)
    (h6 : RowF w6 W.heap.size v6 (cs ++ [c])) (g6 : u.grownBy w6 fsv.ownBlock) (e6 : v6.ownBlock = fsv.ownBlock ∨ v6.ownBlock = some u.heap.size)
    (o7 : w7.ownsRow W.heap.size 5 1 v7 (zs.length + X.length) (zs.map (.int .u8) ++ X.map (.int .u8))) (g7 : w6.grownBy w7 allv.ownBlock) (e7 : v7.ownBlock = allv.ownBlock ∨ v7.ownBlock = some w6.heap.size) (hX : frT (fRaw (rs.getD k raw0)) = X) (hy : Byt X) :
    LInv rs W (k + 1) v6 v7 (cs ++ [c]) (zs ++ X) w7 := by
  have offA : ∀ d ∈ cs ++ [c], d.off allv.ownBlock := fun d hd => by
    rcases List.mem_append.1 hd with hd | hd
    · exact H.off d hd
    · obtain rfl : d = c := by simpa using hd
      exact hoff _ fun q hq => (H.allLt q hq).2
  have sep6 : ∀ q, v6.ownBlock = some q → allv.ownBlock ≠ some q := fun q hq => by
    rcases e6 with e6 | e6
    · exact H.sep q (e6 ▸ hq)
    · intro h
      rw [e6] at hq
      injection hq with hq
      have := (H.allLt q h).2
      have := hu.size
      omega
  have b6 : Below W.heap.size W w6 := (H.below.trans (hu.mono H.below.size)).grown g6 (Nat.le_trans H.below.size hu.size) (fun q hq => (H.row.lt q hq).1)
  refine ⟨b6.grown g7 b6.size (fun q hq => (H.allLt q hq).1), ?_, ?_, ?_, ?_, H.byt.append hy, fun q hq => ?_, fun d hd => ?_, ?_⟩
  · refine h6.grown g7 ?_ offA
    cases hv : v6.ownBlock with
    | none => exact .inl rfl
    | some q => exact .inr (fun e => sep6 q hv e.symm)
  · rw [List.map_append, H.map, List.take_succ_eq_append_getElem hk, List.map_append]
    congr 1
    simp only [List.map_cons, List.map_nil, hcf]
    rw [List.getD_eq_getElem?_getD, List.getElem?_eq_getElem hk]
    rfl
  · rw [List.length_append, List.map_append]
    exact o7
  · rw [List.map_append]
    show zs ++ X = frTs (cs.map FC.f ++ [c.f])
    rw [frTs_snoc, ← H.txt, hcf, hX]
  · rcases e7 with e7 | e7
    · rw [e7]; exact sep6 q hq
    · rw [e7]
      intro h
      injection h with h
      have := (h6.lt q hq).2
      omega
  · rcases e7 with e7 | e7
    · rw [e7]; exact offA d hd
    · rw [e7]; exact (h6.oks d hd).offNew
  · have := frT_le (fRaw_ok (rs.getD k raw0))
    rw [hX] at this
    have := H.len
    rw [List.length_append]
    omega

theorem bytes6 {w2 u w6 : World} {B : Nat} {A3 : Option Addr} {c3 : Nat} {X : List Int} {r : Option Nat} (o3 : w2.ownsRow B 5 1 (.slice A3 X.length c3) X.length (X.map (.int .u8))) (y : Byt X) (hu : Below w2.heap.size w2 u) (g6 : u.grownBy w6 r) (hr : ∀ q, r = some q → q < B) :
    (A3 = none → c3 = 0) ∧ BRow w6 w6.heap.size A3 X := by
  have h1 := World.ownsRow.kept o3 (grown_below none hu) (by cases hv : (Value.slice A3 X.length c3).ownBlock with | none => exact .inl rfl | some q => exact .inr (by simp))
  have h2 := World.ownsRow.kept h1 g6 (by
    cases hv : (Value.slice A3 X.length c3).ownBlock with
    | none => exact .inl rfl
    | some q =>
      refine .inr (fun e => ?_)
      have := hr q e.symm
      have := (World.ownsRow.lt o3 q hv).1
      omega)
  obtain ⟨A', c', e, _, _, hn, hb⟩ := (own_bsl h2 y).ex
  cases e
  exact ⟨hn, hb⟩
theorem infoB : (Tryd.prog.info? 5).map (fun i => (i.zero, i.size, i.bytes)) = some (some (.int .u8 0), 1, 1) := by kernel_rfl

set_option maxRecDepth 100000 in
set_option maxHeartbeats 600000 in
theorem frameList_walk (A : Option Addr) (len cap : Nat) (rs : List RawT) (W : World) (T : Tab W) (h : RawRow W W.heap.size A rs) (hl : rs.length = len) (hc : len ≤ cap) (hm : cap ≤ maxLen) (hs : ∀ i, i < len → (rs.getD i raw0).text.size ≤ maxLen) :
    Calls Tryd.prog 3 #[.slice A len cap] W fun e w' => e = .returned (.bool true) ∧ Below W.heap.size W w' := by
  have HS := Lib.hid (some14 A len cap)
  obtain ⟨i0, hi0, hz0, hz1, hz2⟩ := info_parts infoB
  have HI := Lib.hid hi0
  have HZ := Lib.hid hz0
  have HZ1 := Lib.hid hz1
  have HZ2 := Lib.hid hz2
  have HR := Lib.hid h
  have HT := Lib.hid T
  have HSZ := Lib.hid hs
  clear h T hs hi0 hz0 hz1 hz2
  go_enter Tryd.func3, Tryd.ntmps3
  go_wp2_with (go_at_call 5; refine (HS.out _ hc hm).mono ?_; rintro e w' ⟨rfl, rfl⟩)
  obtain ⟨N, hN⟩ : ∃ N, min len 14 = N := ⟨_, rfl⟩
  have hN1 : N ≤ len := by omega
  have hN2 : N ≤ 14 := by omega
  rw [hN]
  have HNN := Lib.hid hN
  clear hN
  go_loopg [3, 4, 17] N (fun g fv av iv wr => ∃ (k : Nat) (cs : List FC) (zs : List Int), k + g = N ∧ iv = .int .i64 k ∧ Hid (LInv rs W k fv av cs zs wr))
  case atStart => exact ⟨0, [], [], by omega, rfl, Lib.hid (LInv.start rs W)⟩
  case round =>
    obtain ⟨k, cs, zs, hk, rfl, HH⟩ := hrel
    have HCNT := Lib.hid (HH.out.count (by omega))
    by_cases hlt : k < N
    · have hkl : k < rs.length := by omega
      obtain ⟨b, off', hA, hbb, hcell⟩ := HR.out (by omega)
      subst hA
      obtain ⟨c0, c1, c2, c3⟩ := hcell k hkl
      obtain ⟨⟨kk, x, y, s⟩, hrk⟩ : ∃ r, rs.getD k raw0 = r := ⟨_, rfl⟩
      have hss := HSZ.out k (by omega)
      rw [hrk] at c0 c1 c2 c3 hss
      simp only at c0 c1 c2 c3 hss
      have HRK := Lib.hid hrk
      obtain ⟨f, hfe⟩ : ∃ f, fRaw ⟨kk, x, y, s⟩ = f := ⟨_, rfl⟩
      have HFE := Lib.hid hfe
      have HF := Lib.hid (hfe ▸ fRaw_ok ⟨kk, x, y, s⟩)
      have HFN : Hid (∀ w, Calls Tryd.prog 7 #[.agg #[.int .i64 kk, .int .i64 x, .int .i64 y, .string s]] w (FrOutN f w)) := Lib.hid (fun w => hfe ▸ frameOf_new kk x y s hss w)
      obtain ⟨X, hX⟩ : ∃ X, frT f = X := ⟨_, rfl⟩
      have hX8 : X.length ≤ 608 := hX ▸ frT_le HF.out
      have HX := Lib.hid hX
      have HENC : Hid (∀ v w, FrVal w w.heap.size v f → Tab w → Calls Tryd.prog 6 #[v] w (EncFrPost X w)) := Lib.hid (fun v w h t => hX ▸ encodeFr_yes v f w h HF.out t)
      have e0 := (HH.out.below.cell (p := ⟨b, off' + k * 4, none⟩) hbb).trans c0
      have e1 := (HH.out.below.cell (p := ⟨b, off' + k * 4 + 1, none⟩) hbb).trans c1
      have e2 := (HH.out.below.cell (p := ⟨b, off' + k * 4 + 2, none⟩) hbb).trans c2
      have e3 := (HH.out.below.cell (p := ⟨b, off' + k * 4 + 3, none⟩) hbb).trans c3
      clear hcell c0 c1 c2 c3 hrk hfe hX hss
      go_wp2_with (first
        | (at_builtin; refine wpList_app _ rfl (.tmp 34) (.tmp 35) _ rfl W.heap.size 5 i0 Tryd.underlying25 HI.out HZ.out HZ1.out HZ2.out u4 zs.length (zs.map (.int .u8)) rfl A6.out w6.heap.size A3 X.length c3 X rfl R6.out rfl N6.out (by have := HH.out.len; omega) S6.out ?_; intro v7 w7 o7 g7 e7; have O7 := Lib.hid o7; have G7 := Lib.hid g7; have E7 := Lib.hid e7; clear o7 g7 e7)
        | (at_builtin; refine wpList_appF _ rfl (.tmp 29) (.tmp 32) rfl W.heap.size u3 cs rfl ROWU.out w3.heap.size 1 ⟨f, ra, rc, da, dc⟩ rfl 1 rfl NB.out OKU.out HOF.out (by have := HCNT.out; omega) (by have := BU.out.size; have := HH.out.below.size; omega) ?_; intro v6 w6 h6 g6 e6; have H6 := Lib.hid h6; have G6 := Lib.hid g6; have E6 := Lib.hid e6; have A6 := Lib.hid (HH.out.all6 BU.out g6); obtain ⟨hn6, hr6⟩ := bytes6 OB.out Y3.out B2U.out g6 (fun q hq => Nat.lt_of_lt_of_le (HH.out.row.lt q hq).2 B1.out.size); have N6 := Lib.hid hn6; have R6 := Lib.hid hr6; have S6 := Lib.hid (Nat.le_trans (Nat.le_trans HH.out.below.size BU.out.size) g6.size); clear h6 g6 e6 hn6 hr6)
        | (go_at_call 7; have g := OB.out; refine (HFN.out _).mono ?_; rintro e w3 hO; obtain ⟨⟨f', ra, rc, da, dc⟩, hf', rfl, hb3, hok3, hoff3⟩ := hO.fc; obtain rfl : f = f' := hf'.symm; simp only [FC.arr]; have B2U := Lib.hid (hb3.trans (((Below.refl w3.heap.size w3).alloc (Nat.le_refl _) (.cells #[.int .i64 f.kind, .int .i64 f.id, .int .i64 f.off, .bool f.fin, .int .i64 f.code, .slice ra f.rs.length rc, .slice da f.data.length dc] 33)).mono hb3.size)); have BU := Lib.hid (B2.out.trans (B2U.out.mono B2.out.size)); have ROWU := Lib.hid (HH.out.row.on BU.out); have OKU := Lib.hid (hok3.on ((Below.refl w3.heap.size w3).alloc (Nat.le_refl _) (.cells #[.int .i64 f.kind, .int .i64 f.id, .int .i64 f.off, .bool f.fin, .int .i64 f.code, .slice ra f.rs.length rc, .slice da f.data.length dc] 33))); have NB := Lib.hid (heap_alloc_new w3 (.cells #[.int .i64 f.kind, .int .i64 f.id, .int .i64 f.off, .bool f.fin, .int .i64 f.code, .slice ra f.rs.length rc, .slice da f.data.length dc] 33)); have HOFF : Hid (∀ r : Option Nat, (∀ q, r = some q → q < wr.heap.size) → FC.off ⟨f, ra, rc, da, dc⟩ r) := Lib.hid (fun r hr => hoff3 r (fun q hq => Nat.lt_of_lt_of_le (hr q hq) B2.out.size)); have HOF := Lib.hid (HOFF.out u3.ownBlock (fun q hq => (HH.out.row.lt q hq).2)); clear g hO hb3 hok3 hoff3 r0 r1 r2 r3)
        | (go_at_call 6; refine (HENC.out _ _ V1.out (HT.out.below (HH.out.below.trans (B1.out.mono HH.out.below.size)))).mono ?_; rintro e w2 ⟨A3, c3, rfl, o3, y3, b3⟩; have B2 := Lib.hid (B1.out.trans (b3.mono B1.out.size)); have OB := Lib.hid o3; have Y3 := Lib.hid y3; obtain ⟨r0, r1, r2, r3⟩ := blk4 ((b3.block _ (lt_of_block FR1.out)).trans FR1.out); clear o3 y3 b3)
        | (go_at_call 7; refine (HFN.out _).mono ?_; rintro e w1 hO; obtain ⟨⟨f', ra1, rc1, da1, dc1⟩, hf', rfl, hb1, hok1, _⟩ := hO.fc; obtain rfl : f = f' := hf'.symm; simp only [FC.arr]; have B1 := Lib.hid (((Below.refl wr.heap.size wr).alloc (Nat.le_refl _) (.cells #[.int .i64 kk, .int .i64 x, .int .i64 y, .string s] 27)).trans (hb1.mono (by simp))); have FR1 := Lib.hid ((hb1.block _ (by simp)).trans (heap_alloc_new wr (.cells #[.int .i64 kk, .int .i64 x, .int .i64 y, .string s] 27))); have V1 := Lib.hid hok1.val; clear hO hb1 hok1))
      go_roundg (gk - 1)
      case measure => omega
      case rel => exact ⟨k + 1, cs ++ [⟨f, ra, rc, da, dc⟩], zs ++ X, by omega, by go_num, Lib.hid (HH.out.step BU.out hkl (by rw [HRK.out]; exact HFE.out.symm) HOFF.out H6.out G6.out E6.out O7.out G7.out E7.out (by rw [HRK.out, HFE.out]; exact HX.out) Y3.out)⟩
    · have hkN : k = N := by omega
      subst hkN
      obtain ⟨A5, c5, hv5, hc5, hm5, hn5, hr5⟩ := (own_bsl HH.out.own HH.out.byt).ex
      subst hv5
      obtain ⟨A6, c6, hv6, _, _⟩ := HH.out.row.slice
      subst hv6
      have hok : ∀ f ∈ cs.map FC.f, faultF f = 0 := by
        intro f hf
        rw [HH.out.map] at hf
        obtain ⟨r, _, rfl⟩ := List.mem_map.1 hf
        exact fRaw_ok r
      have hfl : (cs.map FC.f).length = k := by rw [List.length_map]; exact HCNT.out
      have hzl : (frTs (cs.map FC.f)).length = zs.length := by rw [← HH.out.txt]
      have hz608 := HH.out.len
      have HALL : Hid (∀ w, BRow w w.heap.size A5 zs → Calls Tryd.prog 8 #[.slice A5 zs.length c5] w (AllPost (cs.map FC.f) w)) := Lib.hid (fun w hb => all_ok (cs.map FC.f) hok (by omega) A5 zs.length c5 w (HH.out.txt ▸ hb) hzl hc5 hm5 hn5 (by omega))
      have HD3 := Lib.hid (show decF [3] = .error 2 by kernel_rfl)
      have RB := Lib.hid hr5
      have RF := Lib.hid HH.out.row
      clear hok hzl hz608 hr5 hn5
      by_cases h12 : k ≤ 12
      · have HLE := Lib.hid (show (cs.map FC.f).length ≤ 12 by omega)
        clear hfl
        go_wp2_with (first
          | (go_at_call 9; refine (sameFs_eq _ _ _ _ _ _ _ _ cs2 cs _ (RG.out.on B89.out) (RF.out.on B9.out) HMG.out).mono ?_; rintro e w10 ⟨rfl, b10⟩; have B10 := Lib.hid (B9.out.trans (b10.mono B9.out.size)); clear b10)
          | (go_at_call 8; have g := B8.out; refine (all_first [3] 2 HD3.out (by decide) _ 1 1 _ ((brow_one w8 3 5 (by decide)).more (by simp)) rfl (by decide) (by unfold maxLen; decide) (fun e => by cases e) (by decide)).mono ?_; rintro e w9 ⟨rfl, b9⟩; have B9 := Lib.hid (B8.out.trans ((((Below.refl w8.heap.size w8).alloc (Nat.le_refl _) (.cells #[.int .u8 3] 5)).trans (b9.mono (by simp))).mono B8.out.size)); have B89 := Lib.hid (((Below.refl w8.heap.size w8).alloc (Nat.le_refl _) (.cells #[.int .u8 3] 5)).trans (b9.mono (by simp))); clear b9 g)
          | (go_at_call 8; refine (HALL.out _ RB.out).mono ?_; rintro e w8 ⟨b8, hp8⟩; rw [if_pos HLE.out] at hp8; obtain ⟨vg, cs2, rfl, hrg, hmg⟩ := hp8; obtain ⟨Ag, cg, hvg, _, _⟩ := hrg.slice; subst hvg; have B8 := Lib.hid b8; have RG := Lib.hid hrg; have HMG := Lib.hid hmg; clear b8 hrg hmg))
        go_ret
        exact ⟨rfl, HH.out.below.trans (B10.out.mono HH.out.below.size)⟩
      · have HLE := Lib.hid (show ¬ (cs.map FC.f).length ≤ 12 by omega)
        clear hfl
        go_wp2_with (first
          | (go_at_call 8; have g := B8.out; refine (all_first [3] 2 HD3.out (by decide) _ 1 1 _ ((brow_one w8 3 5 (by decide)).more (by simp)) rfl (by decide) (by unfold maxLen; decide) (fun e => by cases e) (by decide)).mono ?_; rintro e w9 ⟨rfl, b9⟩; have B9 := Lib.hid (B8.out.trans ((((Below.refl w8.heap.size w8).alloc (Nat.le_refl _) (.cells #[.int .u8 3] 5)).trans (b9.mono (by simp))).mono B8.out.size)); have B89 := Lib.hid (((Below.refl w8.heap.size w8).alloc (Nat.le_refl _) (.cells #[.int .u8 3] 5)).trans (b9.mono (by simp))); clear b9 g)
          | (go_at_call 8; refine (HALL.out _ RB.out).mono ?_; rintro e w8 ⟨b8, hp8⟩; rw [if_neg HLE.out] at hp8; obtain rfl := hp8; have B8 := Lib.hid b8; clear b8))
        go_ret
        exact ⟨rfl, HH.out.below.trans (B9.out.mono HH.out.below.size)⟩
end Go.Proofs.YtjeocggocloigabDoor
namespace Go.Proofs.YtjeocggocloigabDoor.frameList
open Go.ChangeShapes Go.WideShapes Go.ChangeAt Go.RowKit P
open Go.ChangeMaps (open_string shut_string)
set_option linter.unusedVariables false

theorem own : ownKnob Tryd.prog.godebug = none := by kernel_rfl
theorem laidOut : laidOutB Tryd.prog = true := by kernel_rfl

/-- the cells of the listed table that the four sizes lead to -/
theorem tabOf {W : World} (h : laidMetH Tryd.prog [("math/bits.deBruijn32tab", Rows.laid_math_bits_deBruijn32tab), ("math/bits.deBruijn64tab", Rows.laid_math_bits_deBruijn64tab)] W) : Tab W := by
  rw [MakeChecks.laidMetH_plain _ _ _ (by kernel_rfl)] at h
  obtain ⟨ps, ⟨_, _, _, _, _, _, _, _, _, _, ⟨g, t, cs, fuel, p, q, hg, ht, hv, hd, _, _⟩, _⟩, _, _⟩ := h
  have hG : Tryd.prog.globalNamed "math/bits.deBruijn64tab" = some 1 := by kernel_rfl
  have hTy : (Tryd.prog.globals[1]?).map (·.type) = some 94 := by kernel_rfl
  obtain rfl := Option.some.inj (hG.symm.trans hg)
  obtain rfl := Option.some.inj (hTy.symm.trans ht)
  obtain ⟨xs, m, _, ex, _, hl, hel⟩ := DataW.trod_array Tryd.underlying94 hd
  have c5 : Tryd.prog.cellsOf 5 = 1 := by kernel_rfl
  have e3 := (DataW.agg.inj (Prod.mk.inj ex).1).symm
  have cell : ∀ (r : Nat) (v : Int), r < 64 → (xs.map (·.1))[r]? = some (.lit (.int .u8 v)) → W.cell? ⟨1, r, none⟩ = some (.int .u8 v) := by
    intro r v hr e4
    have hE := hel r hr
    rw [c5, Nat.mul_one, List.getElem?_eq_getElem (by omega)] at hE
    obtain ⟨z, e1, e2, _⟩ := DataW.trod_int Tryd.underlying5 hE
    rw [List.getElem?_map, List.getElem?_eq_getElem (by omega : r < xs.length), e2] at e4
    have hz : z = v := by simpa using e4
    subst hz
    rw [World.var?_cell hg hv r]
    have : cs.toList[r]? = some (.int .u8 z) := by
      have h0 : ((cs.toList.drop r).take 1)[0]? = some (.int .u8 z) := by rw [e1]; rfl
      simpa using h0
    simpa using this
  have k0 := cell 0 0 (by decide) (by rw [e3]; rfl)
  exact ⟨k0, cell 1 1 (by decide) (by rw [e3]; rfl), cell 3 2 (by decide) (by rw [e3]; rfl), cell 7 3 (by decide) (by rw [e3]; rfl), cell_lt k0⟩


set_option maxRecDepth 100000 in
theorem lifted (os : Os) (started : os.Started) (H : Type) (enc : TypeId × Value → H) :
    ReturnsInHanded {} Tryd.checked os 3 .any (fun w args => (Rows.frameListSpec.pre enc Tryd.prog Tryd.f3 Rows.frameListRow.domain false w args ∧ laidMetH Tryd.prog [("math/bits.deBruijn32tab", Rows.laid_math_bits_deBruijn32tab), ("math/bits.deBruijn64tab", Rows.laid_math_bits_deBruijn64tab)] w) ∧ sizedMet enc Tryd.prog Tryd.f3 (OpenSpec.ofChange Rows.frameListSpec) false w args) (Rows.frameListSpec.post enc Tryd.prog Tryd.f3 false true false false) := by
  refine returnsInHanded_of_change_and (C := Tryd.checked) (X := fun w _ => laidMetH Tryd.prog [("math/bits.deBruijn32tab", Rows.laid_math_bits_deBruijn32tab), ("math/bits.deBruijn64tab", Rows.laid_math_bits_deBruijn64tab)] w) (fun _ _ _ hh h => h.of_heap hh) own started (by kernel_rfl) Tryd.func3
    (ChangeSpec.witness_shaped (enc := enc) (C := Tryd.checked) (os := os) (X := fun w _ => laidMetH Tryd.prog [("math/bits.deBruijn32tab", Rows.laid_math_bits_deBruijn32tab), ("math/bits.deBruijn64tab", Rows.laid_math_bits_deBruijn64tab)] w) false (World.laidAll Tryd.prog os [("math/bits.deBruijn32tab", Rows.laid_math_bits_deBruijn32tab), ("math/bits.deBruijn64tab", Rows.laid_math_bits_deBruijn64tab)]) #[.slice none 0 0] 8 (World.laidAll_os _ _ _)
      (World.shaped_of_ZipB (by kernel_rfl) (by kernel_rfl)) (by kernel_rfl) (by kernel_rfl) (by kernel_rfl)
      (by rw [MakeChecks.laidMetH_plain _ _ _ (by kernel_rfl)]; exact laidMet_laidAll _ (by kernel_rfl) (by kernel_rfl))) ?_
  intro W base args ds gs before hval0 hW hcnd hsz0 hL _
  have T := tabOf hL
  have hsz : (DataW.weightsEach Tryd.prog (Tryd.f3.params.toList ++ Rows.frameListSpec.plain.varTypes Tryd.prog) (ds ++ gs)).all (· ≤ reachBytes) = true := hsz0
  have hval : ∀ (j : Nat) t v, Tryd.f3.params[j]? = some t → args[j]? = some v → Value.okWide Tryd.prog W .any base t v := hval0
  have hW' := hW
  obtain ⟨p, q, hA0, hV, rfl, hfz, hnd⟩ := hW
  have hA : DataW.TrodAll enc Tryd.prog W 0 (fun _ => true) true Tryd.f3.params.toList args.toList ds p := hA0
  rw [Tryd.params3] at hA hval hsz
  obtain ⟨v0, vs0, d0, ds0, p0, q0, hargs, rfl, rfl, h0, tr0⟩ := trodAll_cons hA
  obtain ⟨rfl, rfl, rfl⟩ := trodAll_nil tr0
  obtain rfl : args = #[v0] := by cases args; simp_all
  obtain ⟨rfl, rfl⟩ := trodVars_none hV
  obtain ⟨a0, len0, cap0, rfl⟩ := okWide_slice Tryd.underlying22 (hval 0 22 v0 rfl rfl)
  have k0 := h0
  have lt0 : ∀ x ∈ p0, x.block < W.heap.size := by obtain ⟨m, hm⟩ := k0; exact DataW.trod_lt m _ _ _ hm
  obtain ⟨fl0, hf0⟩ := h0
  obtain ⟨z0, zl0, w0, lc0, cm0, hd0, zw0⟩ := open_raws Tryd.underlying22 Tryd.underlying27 (by kernel_rfl) (by kernel_rfl) Tryd.underlying3 Tryd.underlying3 Tryd.underlying3 Tryd.underlying9 hf0
  have r0 : cap0 * Tryd.prog.bytesOf 27 ≤ 140737488351232 := by
    rcases hd0 with ⟨_, rfl⟩ | ⟨xs, ys, e, hxy⟩
    · omega
    · have := sized_slice hsz (j := 0) (t := 22) (e := 27) (elems := xs) (spare := ys) rfl (by rw [← e]; rfl) Tryd.underlying22
      simp only [reachBytes] at this
      rw [hxy] at this
      exact this
  rw [show Tryd.prog.bytesOf 27 = 40 by kernel_rfl] at r0
  clear hA0 hval0
  refine (show Calls Tryd.prog 3 _ W fun e w' => e = .returned (.bool true) ∧ Below W.heap.size W w' from frameList_walk a0 len0 cap0 z0 W T w0 zl0 lc0 cm0 (fun i hi => (zw0 i hi).2.2.2)).mono fun e W' ⟨he, bel⟩ => ?_
  subst he
  exact ⟨_, rfl, _, _, _, [], _, [], hW', trodAll_mk1 (shut_bool Tryd.underlying4 _), (trodAll_cons_mk (Below.trod laidOut (by kernel_rfl) (of_decide_eq_true (by kernel_rfl)) k0 bel lt0) trodAll_mk0), rfl, bel.frame _, fun h => by cases h⟩

theorem over : Rows.frameListRow.holds Tryd.pinned (OpenSpec.ofChange Rows.frameListSpec) :=
  OpenClaim.holds_of_wide 3 Tryd.f3 rfl rfl rfl rfl rfl rfl rfl ⟨rfl, rfl, rfl, rfl, rfl⟩ rfl rfl rfl rfl rfl (by kernel_rfl) Tryd.func3 (by kernel_rfl)
    (of_decide_eq_true (by kernel_rfl)) (by unfold Func.isWrapper; first | (rw [if_pos (by decide +kernel)]; kernel_rfl) | (rw [if_neg (by decide +kernel)]; exact ⟨rfl, rfl⟩))
    (fun os started H enc _ => lifted os started H enc)

theorem proved : Rows.FrameListCardSaid :=
  Claim7.holds_tied_plain_at .later [] [.data, .data] true (true, "51c279c40e358a57a48e817c9216460bd2b89171b475ad31556b204e1d748b7d") false
    over (fun _ h => by cases h) (by kernel_rfl) (fun _ h => by cases h) frameList_row_tie rfl ⟨rfl, rfl⟩ (by kernel_rfl) rfl
    (fun f fn hf hfn => by
      obtain rfl : f = 3 := Option.some.inj ((show Tryd.prog.funcNamed "spillway/spillwaykeep.FrameList" = some 3 by kernel_rfl).symm.trans hf) |>.symm
      obtain rfl : fn = Tryd.f3 := (Option.some.inj (Tryd.func3.symm.trans hfn)).symm
      exact ⟨by kernel_rfl, fun j t ht => by
        rw [Tryd.params3] at ht
        have hm : t ∈ [22] := by simpa using Array.mem_of_getElem? ht
        have hall : ([22].all fun u => !Tryd.prog.wantsStandIn u) = true := by kernel_rfl
        exact (show Tryd.prog.wantsStandIn t = false by simpa using List.all_eq_true.1 hall t hm)⟩)
    (by kernel_rfl)
#print axioms proved
end Go.Proofs.YtjeocggocloigabDoor.frameList
