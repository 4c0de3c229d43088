/- The walk of SenderGood. -/
import Derived.Test.YtkmkcpjmhcpjpaaSnGoodV
import Derived.Test.YtkmkcpjmhcpjpaaSnLose
import Derived.Test.YtkmkcpjmhcpjpaaSnHeard
import Derived.Test.YtkmkcpjmhcpjpaaGrpZd
import Derived.Test.YtkmkcpjmhcpjpaaSomeK
import Derived.Test.YtkmkcpjmhcpjpaaGrpC
import Derived.Test.YtkmkcpjmhcpjpaaStoreR
import Derived.Test.YtkmkcpjmhcpjpaaGrpD
import Derived.Deep.CutRange
import Derived.Deep.CutBlock
namespace Go.Proofs.Ytkmkcpjmhcpjpaa
set_option linter.unusedVariables false
open Go.RowKit P

theorem bk4r {w : World} {b : Nat} {a0 a1 a2 a3 : Value} {T : TypeId} (h : w.heap[b]? = some (.cells #[a0, a1, a2, a3] T (0, 0))) :
    w.cell? ⟨b, 0, none⟩ = some a0 ∧ w.cell? ⟨b, 1, none⟩ = some a1 ∧ w.cell? ⟨b, 2, none⟩ = some a2 ∧ w.cell? ⟨b, 3, none⟩ = some a3 := ⟨bk_cell h 0, bk_cell h 1, bk_cell h 2, bk_cell h 3⟩
structure SgA (w0 : World) (Ad Al Aa : Option Addr) (cAd cAl cAa : Nat) (s g : Sn) (R : Nat) (ra a : Int) (V0 V1 V2 V3 V7 V10 : Value) (sb0 sb1 sb2 sb3 sb4 sb5 sb6 sb7 sb8 sb9 sb10 : Bool) (sx0 sx1 sx2 sx3 sx4 sx5 sx6 sx7 sx8 sx9 sx10 : Value) (w : World) : Prop where
  be : Below w0.heap.size w0 w
  d2 : sb2 = true → sb1 = true
  d3 : sb3 = true → sb2 = true
  d4 : sb4 = true → sb0 = true ∧ sb3 = true
  d5 : sb5 = true → sb4 = true
  d6 : sb6 = true → sb5 = true
  d7 : sb7 = true → sb5 = true
  d9 : sb9 = true → sb0 = true ∧ sb1 = true ∧ sb2 = true ∧ sb3 = true ∧ sb4 = true ∧ sb5 = true ∧ sb6 = true ∧ sb8 = true
  d10 : sb10 = true → sb0 = true ∧ sb1 = true ∧ sb2 = true ∧ sb3 = true ∧ sb4 = true ∧ sb5 = true ∧ sb6 = true ∧ sb7 = true ∧ sb8 = true ∧ sb9 = true
  t5 : sb4 = true → ∃ u, sx4 = .tuple #[u, .int .i64 0]
  t6 : sb5 = true → ∃ u, sx5 = .tuple #[u, .int .i64 0]
  h0 : sb0 = true → sx0 = V0
  h1 : sb1 = true → sx1 = V1
  h2 : sb2 = true → sx2 = V2
  h3 : sb3 = true → sx3 = V3
  h4 : sb4 = true → sb9 = false → ∃ u, sx4 = .tuple #[u, .int .i64 0] ∧ StS w (SXv w0 sb8 sx8) (fun wv => SnVal wv wv.heap.size u g)
  h5 : sb5 = true → sb9 = false → ∃ u, sx5 = .tuple #[u, .int .i64 0] ∧ StS w (SXv w0 sb8 sx8) (fun wv => SnVal wv wv.heap.size u g)
  h6 : sb6 = true → sb9 = false → StS w (SXv w0 sb8 sx8) (fun wv => SnVal wv wv.heap.size sx6 g)
  h7 : sb7 = true → sx7 = V7
  h8 : sb8 = true → sb9 = false → ∃ k, sx8 = .pointer (some ⟨k, 0, none⟩) ∧ w0.heap.size ≤ k ∧ w.heap[k]? = some (.cells #[.slice none 0 0, .bool false, .int .i64 0, .int .i64 0, .slice none 0 0, .slice none 0 0, .bool false, .bool false] 27 (0, 0))
  h9 : sb9 = true → ∃ k Nd cNd Nl cNl Na cNa, sx8 = .pointer (some ⟨k, 0, none⟩) ∧ w0.heap.size ≤ k ∧ w.heap[k]? = some (.cells #[.slice Nd g.data.length cNd, .bool g.fin, .int .i64 g.next, .int .i64 g.mx, .slice Nl g.lost.length cNl, .slice Na g.acked.length cNa, .bool g.ended, .bool g.over] 27 (0, 0)) ∧ StS w (fun j => j < w0.heap.size) (fun wv => SnVal wv wv.heap.size (.agg #[.slice Nd g.data.length cNd, .bool g.fin, .int .i64 g.next, .int .i64 g.mx, .slice Nl g.lost.length cNl, .slice Na g.acked.length cNa, .bool g.ended, .bool g.over]) g) ∧ Below w0.heap.size w0 w
  h10 : sb10 = true → sx10 = V10
structure SgB (w0 : World) (X : World) (Ad Al Aa : Option Addr) (cAd cAl cAa : Nat) (s g2 : Sn) (R M : Nat) (rb bz ec : Int) (rt : ByteArray) (zz : List Int) (fb : Bool) (V0 V1 V2 V3 V5 V6 V7 V8 V12 V14 : Value) (tb0 tb1 tb2 tb3 tb4 tb5 tb6 tb7 tb8 tb9 tb10 tb11 tb12 tb13 tb14 : Bool) (tx0 tx1 tx2 tx3 tx4 tx5 tx6 tx7 tx8 tx9 tx10 tx11 tx12 tx13 tx14 : Value) (w : World) : Prop where
  be : tb13 = false → Below w0.heap.size w0 w
  d2 : tb2 = true → tb1 = true
  d3 : tb3 = true → tb2 = true
  d4 : tb4 = true → tb3 = true
  d6 : tb6 = true → tb5 = true
  d7 : tb7 = true → tb3 = true ∧ tb6 = true
  d8 : tb8 = true → tb7 = true
  d9 : tb9 = true → tb0 = true ∧ tb4 = true ∧ tb7 = true ∧ tb8 = true
  d10 : tb10 = true → tb9 = true
  d11 : tb11 = true → tb10 = true
  d12 : tb12 = true → tb10 = true
  d13 : tb13 = true → tb0 = true ∧ tb1 = true ∧ tb2 = true ∧ tb3 = true ∧ tb4 = true ∧ tb5 = true ∧ tb6 = true ∧ tb7 = true ∧ tb8 = true ∧ tb9 = true ∧ tb10 = true ∧ tb11 = true
  d14 : tb14 = true → tb0 = true ∧ tb1 = true ∧ tb2 = true ∧ tb3 = true ∧ tb4 = true ∧ tb5 = true ∧ tb6 = true ∧ tb7 = true ∧ tb8 = true ∧ tb9 = true ∧ tb10 = true ∧ tb11 = true ∧ tb12 = true ∧ tb13 = true
  t5 : tb9 = true → ∃ u, tx9 = .tuple #[u, .int .i64 ec]
  t6 : tb10 = true → ∃ u, tx10 = .tuple #[u, .int .i64 ec]
  h0 : tb0 = true → tx0 = V0
  h1 : tb1 = true → tx1 = V1
  h2 : tb2 = true → tx2 = V2
  h3 : tb3 = true → tx3 = V3
  h4 : tb4 = true → tb13 = false → BSl w w.heap.size tx4 zz
  h5 : tb5 = true → tx5 = V5
  h6 : tb6 = true → tx6 = V6
  h7 : tb7 = true → tx7 = V7
  h8 : tb8 = true → tx8 = V8
  h9 : tb9 = true → tb13 = false → ∃ u, tx9 = .tuple #[u, .int .i64 ec] ∧ StS w (fun j => j < w0.heap.size) (fun wv => SnVal wv wv.heap.size u g2)
  h10 : tb10 = true → tb13 = false → ∃ u, tx10 = .tuple #[u, .int .i64 ec] ∧ StS w (fun j => j < w0.heap.size) (fun wv => SnVal wv wv.heap.size u g2)
  h11 : tb11 = true → tb13 = false → StS w (fun j => j < w0.heap.size) (fun wv => SnVal wv wv.heap.size tx11 g2)
  h12 : tb12 = true → tx12 = V12
  h13 : tb13 = true → ∃ Od cOd Ol cOl Oa cOa, w.heap[M]? = some (.cells #[.slice Od g2.data.length cOd, .bool g2.fin, .int .i64 g2.next, .int .i64 g2.mx, .slice Ol g2.lost.length cOl, .slice Oa g2.acked.length cOa, .bool g2.ended, .bool g2.over] 27 (0, 0)) ∧ StS w (fun j => j < w0.heap.size) (fun wv => SnVal wv wv.heap.size (.agg #[.slice Od g2.data.length cOd, .bool g2.fin, .int .i64 g2.next, .int .i64 g2.mx, .slice Ol g2.lost.length cOl, .slice Oa g2.acked.length cOa, .bool g2.ended, .bool g2.over]) g2) ∧ Below X.heap.size X w
  h14 : tb14 = true → tx14 = V14
structure SgC (w0 : World) (X : World) (Ad Al Aa : Option Addr) (cAd cAl cAa : Nat) (s g2 : Sn) (f2 : Fr) (R M F : Nat) (ra rb pa pb : Int) (ob : Bool) (V0 V1 V2 V3 V4 V5 V6 V11 V12 V15 V16 : Value) (ub0 ub1 ub2 ub3 ub4 ub5 ub6 ub7 ub8 ub9 ub10 ub11 ub12 ub13 ub14 ub15 ub16 : Bool) (ux0 ux1 ux2 ux3 ux4 ux5 ux6 ux7 ux8 ux9 ux10 ux11 ux12 ux13 ux14 ux15 ux16 : Value) (w : World) : Prop where
  be : ub13 = false → Below w0.heap.size w0 w
  d2 : ub2 = true → ub1 = true
  d3 : ub3 = true → ub2 = true
  d5 : ub5 = true → ub4 = true
  d6 : ub6 = true → ub3 = true ∧ ub5 = true
  d7 : ub7 = true → ub0 = true ∧ ub3 = true ∧ ub6 = true
  d8 : ub8 = true → ub7 = true
  d9 : ub9 = true → ub8 = true
  d10 : ub10 = true → ub8 = true
  d11 : ub11 = true → ub8 = true
  d12 : ub12 = true → ub8 = true
  d13 : ub13 = true → ub0 = true ∧ ub1 = true ∧ ub2 = true ∧ ub3 = true ∧ ub4 = true ∧ ub5 = true ∧ ub6 = true ∧ ub7 = true ∧ ub8 = true ∧ ub9 = true
  d14 : ub14 = true → ub0 = true ∧ ub1 = true ∧ ub2 = true ∧ ub3 = true ∧ ub4 = true ∧ ub5 = true ∧ ub6 = true ∧ ub7 = true ∧ ub8 = true ∧ ub9 = true ∧ ub10 = true ∧ ub13 = true
  d15 : ub15 = true → ub0 = true ∧ ub1 = true ∧ ub2 = true ∧ ub3 = true ∧ ub4 = true ∧ ub5 = true ∧ ub6 = true ∧ ub7 = true ∧ ub8 = true ∧ ub9 = true ∧ ub10 = true ∧ ub11 = true ∧ ub13 = true ∧ ub14 = true
  d16 : ub16 = true → ub0 = true ∧ ub1 = true ∧ ub2 = true ∧ ub3 = true ∧ ub4 = true ∧ ub5 = true ∧ ub6 = true ∧ ub7 = true ∧ ub8 = true ∧ ub9 = true ∧ ub10 = true ∧ ub11 = true ∧ ub12 = true ∧ ub13 = true ∧ ub14 = true ∧ ub15 = true
  t5 : ub7 = true → ∃ u t, ux7 = .tuple #[u, t, .bool ob, .int .i64 0]
  t6 : ub8 = true → ∃ u t, ux8 = .tuple #[u, t, .bool ob, .int .i64 0]
  h0 : ub0 = true → ux0 = V0
  h1 : ub1 = true → ux1 = V1
  h2 : ub2 = true → ux2 = V2
  h3 : ub3 = true → ux3 = V3
  h4 : ub4 = true → ux4 = V4
  h5 : ub5 = true → ux5 = V5
  h6 : ub6 = true → ux6 = V6
  h7 : ub7 = true → ub14 = false → TupP w0 w ux7 g2 f2 ob
  h8 : ub8 = true → ub14 = false → TupP w0 w ux8 g2 f2 ob
  h9 : ub9 = true → ub13 = false → SnU w0 w ux9 g2
  h10 : ub10 = true → ub14 = false → FrU w0 w ux10 f2
  h11 : ub11 = true → ux11 = V11
  h12 : ub12 = true → ux12 = V12
  h13 : ub13 = true → ub14 = false → PutNF w0 X w M F g2
  h14 : ub14 = true → PutF w0 X w M F g2 f2
  h15 : ub15 = true → ux15 = V15
  h16 : ub16 = true → ux16 = V16
set_option maxRecDepth 100000 in
set_option maxHeartbeats 40000000 in
theorem senderGood_walk (A : Option Addr) (len cap : Nat) (rs : List RawT) (W : World) (hr : RawRow W W.heap.size A rs) (hl : rs.length = len) (hlc : len ≤ cap) (hcm : cap ≤ maxLen) (hst : ∀ i, i < rs.length → (rs.getD i raw0).text.size ≤ maxLen) :
    Calls Try.prog 4 #[.slice A len cap] W fun e w' => e = .returned (.bool true) ∧ Below W.heap.size W w' := by
  have HR := Lib.hid hr
  have HLN := Lib.hid hl
  have HST := Lib.hid hst
  obtain ⟨N, hN⟩ : ∃ N, min len 25 = N := ⟨_, rfl⟩
  have n1 : N ≤ 25 := by omega
  have n2 : N ≤ len := by omega
  have HSM := Lib.hid (fun w => smK_any 25 (by decide) A len cap w hlc hcm)
  rw [hN] at HSM
  have hcm' := hcm
  unfold maxLen at hcm'
  have HTL := Lib.hid (fun w => senderTells_any w)
  obtain ⟨i0, hi0, hz0, hz1, hz2⟩ := info_partsE infoFE
  have HI := Lib.hid hi0
  have HZ := Lib.hid hz0
  have HZ1 := Lib.hid hz1
  have HZ2 := Lib.hid hz2
  have V0 := Lib.hid (heap_alloc_new W (.cells #[.slice none 0 0, .bool false, .int .i64 0, .int .i64 0, .slice none 0 0, .slice none 0 0, .bool false, .bool false] 27))
  have B0 := Lib.hid ((Below.refl W.heap.size W).alloc (Nat.le_refl _) (.cells #[.slice none 0 0, .bool false, .int .i64 0, .int .i64 0, .slice none 0 0, .slice none 0 0, .bool false, .bool false] 27))
  clear hr hl hN hcm hst hi0 hz0 hz1 hz2
  go_enter Try.func4, Try.ntmps4
  go_wp2_with (go_at_call 25; refine (HSM.out _).mono ?_; rintro e w' ⟨rfl, rfl⟩)
  obtain ⟨W1, hW1⟩ : ∃ w, W.alloc (.cells #[.slice none 0 0, .bool false, .int .i64 0, .int .i64 0, .slice none 0 0, .slice none 0 0, .bool false, .bool false] 27) = w := ⟨_, rfl⟩
  rw [hW1] at V0 B0 ⊢
  clear hW1
  have G0 := Lib.hid (show SG W W1 none none none 0 0 0 sn0 (.slice none 0 0) [] from ⟨B0.out, V0.out, (fun w _ => SnVal.nil _ _), snG0, by decide, OwnE.nil W1 _ _, (fun c hc => by cases hc)⟩)
  have T0 := Lib.hid (show SntAll sn0 [] from fun c hc => by cases hc)
  go_loopg [18, 4] N (fun gq iv sv wr => ∃ (kk : Nat) (Ad Al Aa : Option Addr) (cAd cAl cAa : Nat) (s : Sn) (cs : List FE), iv = .int .i64 kk ∧ kk + gq = N ∧ cs.length ≤ kk ∧ Hid (SG W wr Ad Al Aa cAd cAl cAa s sv cs) ∧ Hid (SntAll s cs))
  case atStart => exact ⟨0, none, none, none, 0, 0, 0, sn0, [], rfl, by omega, by simp, G0, T0⟩
  case round =>
    obtain ⟨kk, Ad, Al, Aa, cAd, cAl, cAa, s, cs, rfl, hkg, hcs, GK, TK⟩ := hrel
    clear G0 V0 B0 T0
    obtain ⟨X0, hX0⟩ : ∃ X, X = wr := ⟨_, rfl⟩
    subst hX0
    obtain ⟨sv, hsv0⟩ : ∃ x, x = u4 := ⟨_, rfl⟩
    subst hsv0
    by_cases hlt : kk < N
    · obtain ⟨b, off, hA, hbb, hc⟩ := HR.out (by rw [HLN.out]; omega)
      subst hA
      obtain ⟨c0, c1, c2, c3⟩ := hc kk (by rw [HLN.out]; omega)
      have hts := HST.out kk (by rw [HLN.out]; omega)
      generalize rs.getD kk raw0 = r at c0 c1 c2 c3 hts
      obtain ⟨kd, ra, rb, rt⟩ := r
      simp only at c0 c1 c2 c3 hts
      have BK := GK.out.b
      have x0 := (BK.cell (p := ⟨b, off + kk * 4, none⟩) hbb).trans c0
      have x1 := (BK.cell (p := ⟨b, off + kk * 4 + 1, none⟩) hbb).trans c1
      have x2 := (BK.cell (p := ⟨b, off + kk * 4 + 2, none⟩) hbb).trans c2
      have x3 := (BK.cell (p := ⟨b, off + kk * 4 + 3, none⟩) hbb).trans c3
      clear c0 c1 c2 c3 hc BK
      have hkN : (kk : Int) < (N : Int) := by omega
      obtain ⟨a, ha⟩ : ∃ a, ra % 200 = a := ⟨_, rfl⟩
      have ha0 : 0 ≤ a := by omega
      have ha1 : a < 200 := by omega
      have HPA := Lib.hid (fun w => ha ▸ picked_any ra 200 (by decide) (by decide) w)
      obtain ⟨K, hK⟩ : ∃ K, kd % 6 = K := ⟨_, rfl⟩
      have hK0 : 0 ≤ K := by omega
      have hK1 : K < 6 := by omega
      have HPK := Lib.hid (fun w => hK ▸ picked_any kd 6 (by decide) (by decide) w)
      have XR := Lib.hid ((Below.refl X0.heap.size X0).alloc (Nat.le_refl _) (.cells #[.int .i64 kd, .int .i64 ra, .int .i64 rb, .string rt] 33))
      have R6 := Lib.hid (heap_alloc_new X0 (.cells #[.int .i64 kd, .int .i64 ra, .int .i64 rb, .string rt] 33))
      have G6 := Lib.hid (GK.out.on XR.out)
      obtain ⟨gg1, gg2, gg3, gg4⟩ := good_gr GK.out.ok ha0 ha1
      obtain ⟨g, hg⟩ : ∃ g, grS s a = (g, 0) := ⟨(grS s a).1, by rw [← gg1]⟩
      rw [hg] at gg2 gg3 gg4
      have HGE := Lib.hid hg
      have HGG := Lib.hid (show okSn g ∧ Grew s g ∧ g.mx ≤ 200 from ⟨gg2, gg3, by have := GK.out.mx; dsimp only at gg4; omega⟩)
      clear hg gg1 gg2 gg3 gg4 ha hK
      go_upto_region 6 with fail
      clear x0 x1 x2 x3
      obtain ⟨X, hX⟩ : ∃ w, X0.alloc (.cells #[.int .i64 kd, .int .i64 ra, .int .i64 rb, .string rt] 33) = w := ⟨_, rfl⟩
      obtain ⟨R, hR⟩ : ∃ R, X0.heap.size = R := ⟨_, rfl⟩
      rw [hX] at XR R6 G6
      rw [hR] at R6
      try rw [hX]
      try rw [hR]
      clear hX hR
      refine wp_region_inv (fun lis_ act_ wld_ => ∃ (sb0 sb1 sb2 sb3 sb4 sb5 sb6 sb7 sb8 sb9 sb10 : Bool) (sx0 sx1 sx2 sx3 sx4 sx5 sx6 sx7 sx8 sx9 sx10 : Value), lis_ = #[sb0, sb1, sb2, sb3, sb4, sb5, sb6, sb7, sb8, sb9, sb10] ∧ act_ = { tmps := #[Value.slice (some { block := b, off := off }) len cap, undef, u2, Value.pointer (some { block := W.heap.size, off := 0 }), sv, undef, Value.pointer (some { block := R, off := 0 }), sx8, sx10, u9, u10, u11, u12, undef, undef, Value.slice (some { block := b, off := off }) len cap, Value.slice (some { block := b, off := off }) N cap, Value.int IntKind.i64 ↑N, Value.int IntKind.i64 ↑kk, Value.bool true, Value.pointer (some { block := b, off := off + kk * 4 }), Value.agg #[Value.int IntKind.i64 kd, Value.int IntKind.i64 ra, Value.int IntKind.i64 rb, Value.string rt], sx5, sx0, sx1, sx2, sx3, sx4, sx6, sx7, u30, u31, u32, u33, u34, u35, u36, u37, u38, u39, u40, u41, u42, u43, u44, u45, u46, u47, u48, u49, u50, u51, u52, u53, u54, u55, u56, u57, u58, u59, u60, u61, u62, u63, u64, u65, u66, u67, u68, u69, u70, u71, u72, u73, u74, u75, u76, u77, u78, u79, u80, u81, u82, u83, u84, u85, u86, u87, u88, u89, u90, u91, u92, u93, u94, u95, u96, u97, u98, u99, u100, u101, u102, u103, u104, u105, u106, u107, u108, u109, u110, u111, u112, u113, u114, u115, u116, u117, u118, u119, u120, u121, u122, u123, u124, u125, u126, u127, u128, u129, u130, u131, u132, u133, u134, u135, u136, u137, u138, u139, u140, u141, u142, u143, u144, u145, undef, undef, undef, undef, undef, undef, undef, undef, undef, undef, undef, undef], defers := [] } ∧ SgA X Ad Al Aa cAd cAl cAa s g R ra a (.agg #[.slice Ad s.data.length cAd, .bool s.fin, .int .i64 s.next, .int .i64 s.mx, .slice Al s.lost.length cAl, .slice Aa s.acked.length cAa, .bool s.ended, .bool s.over]) (.pointer (some ⟨R, 1, none⟩)) (.int .i64 ra) (.int .i64 a) (.int .i64 0) (.int .i64 0) sb0 sb1 sb2 sb3 sb4 sb5 sb6 sb7 sb8 sb9 sb10 sx0 sx1 sx2 sx3 sx4 sx5 sx6 sx7 sx8 sx9 sx10 wld_) (by kernel_rfl) ?h0 ?hfin ?hI
      case h0 => exact ⟨_, _, _, _, _, _, _, _, _, _, _, _, _, _, _, _, _, _, _, _, undef, _, rfl, rfl, ⟨(Below.refl _ _).drew, (fun h => by cases h), (fun h => by cases h), (fun h => by cases h), (fun h => by cases h), (fun h => by cases h), (fun h => by cases h), (fun h => by cases h), (fun h => by cases h), (fun h => by cases h), (fun h => by cases h), (fun h => by cases h), (fun h => by cases h), (fun h => by cases h), (fun h => by cases h), (fun h => by cases h), (fun h => by cases h), (fun h => by cases h), (fun h => by cases h), (fun h => by cases h), (fun h => by cases h), (fun h => by cases h)⟩⟩
      case hI =>
        rintro listed a w ⟨sb0, sb1, sb2, sb3, sb4, sb5, sb6, sb7, sb8, sb9, sb10, sx0, sx1, sx2, sx3, sx4, sx5, sx6, sx7, sx8, sx9, sx10, rfl, rfl, H⟩ i hi
        obtain ⟨hun, oj, hoj, hall⟩ := mem_ready.1 hi
        clear hi
        rcases i with _ | _ | _ | _ | _ | _ | _ | _ | _ | _ | _ | i
        · have ho := hoj
          simp only [List.getElem?_toArray, List.getElem?_cons_zero, Option.some.injEq] at hoj
          subst hoj
          obtain rfl : sb0 = false := hun
          clear hall
          obtain rfl : sb4 = false := Bool.eq_false_iff.2 fun h => Bool.false_ne_true (H.d4 h).1
          obtain rfl : sb5 = false := Bool.eq_false_iff.2 fun h => Bool.false_ne_true (H.d5 h)
          obtain rfl : sb6 = false := Bool.eq_false_iff.2 fun h => Bool.false_ne_true (H.d6 h)
          obtain rfl : sb7 = false := Bool.eq_false_iff.2 fun h => Bool.false_ne_true (H.d7 h)
          obtain rfl : sb9 = false := Bool.eq_false_iff.2 fun h => Bool.false_ne_true (H.d9 h).1
          obtain rfl : sb10 = false := Bool.eq_false_iff.2 fun h => Bool.false_ne_true (H.d10 h).1
          have hbe := H.be
          have hx_t5 := H.t5
          have hx_t6 := H.t6
          obtain ⟨q0, q1, q2, q3, q4, q5, q6, q7⟩ := bkS ((hbe.block _ (lt_of_block G6.out.blk)).trans G6.out.blk)
          refine wpOp_step ho (fun K' hK => ?_)
          have HK := Lib.hid hK
          clear hK ho
          go_simp
          exact HK.out _ _ ⟨_, _, _, _, _, _, _, _, _, _, _, _, _, _, _, _, _, _, _, _, sx9, _, rfl, rfl, ⟨hbe, H.d2, H.d3, (fun h => by cases h), H.d5, H.d6, H.d7, (fun h => by cases h), (fun h => by cases h), H.t5, H.t6, (fun _ => rfl), H.h1, H.h2, H.h3, (fun h => by cases h), (fun h => by cases h), (fun h => by cases h), H.h7, H.h8, (fun h => by cases h), H.h10⟩⟩
        · have ho := hoj
          simp only [List.getElem?_toArray, List.getElem?_cons_succ, List.getElem?_cons_zero, Option.some.injEq] at hoj
          subst hoj
          obtain rfl : sb1 = false := hun
          clear hall
          obtain rfl : sb2 = false := Bool.eq_false_iff.2 fun h => Bool.false_ne_true (H.d2 h)
          obtain rfl : sb3 = false := Bool.eq_false_iff.2 fun h => Bool.false_ne_true (H.d3 h)
          obtain rfl : sb4 = false := Bool.eq_false_iff.2 fun h => Bool.false_ne_true (H.d4 h).2
          obtain rfl : sb5 = false := Bool.eq_false_iff.2 fun h => Bool.false_ne_true (H.d5 h)
          obtain rfl : sb6 = false := Bool.eq_false_iff.2 fun h => Bool.false_ne_true (H.d6 h)
          obtain rfl : sb7 = false := Bool.eq_false_iff.2 fun h => Bool.false_ne_true (H.d7 h)
          obtain rfl : sb9 = false := Bool.eq_false_iff.2 fun h => Bool.false_ne_true (H.d9 h).2.1
          obtain rfl : sb10 = false := Bool.eq_false_iff.2 fun h => Bool.false_ne_true (H.d10 h).2.1
          have hbe := H.be
          have hx_t5 := H.t5
          have hx_t6 := H.t6
          refine wpOp_step ho (fun K' hK => ?_)
          have HK := Lib.hid hK
          clear hK ho
          go_simp
          exact HK.out _ _ ⟨_, _, _, _, _, _, _, _, _, _, _, _, _, _, _, _, _, _, _, _, sx9, _, rfl, rfl, ⟨hbe, (fun h => by cases h), H.d3, H.d4, H.d5, H.d6, H.d7, (fun h => by cases h), (fun h => by cases h), H.t5, H.t6, H.h0, (fun _ => rfl), H.h2, H.h3, (fun h => by cases h), (fun h => by cases h), (fun h => by cases h), H.h7, H.h8, (fun h => by cases h), H.h10⟩⟩
        · have ho := hoj
          simp only [List.getElem?_toArray, List.getElem?_cons_succ, List.getElem?_cons_zero, Option.some.injEq] at hoj
          subst hoj
          obtain rfl : sb2 = false := hun
          obtain rfl : sb1 = true := hall ⟨1, .data⟩ (by simp) (by kernel_rfl)
          clear hall
          obtain rfl : sb3 = false := Bool.eq_false_iff.2 fun h => Bool.false_ne_true (H.d3 h)
          obtain rfl : sb4 = false := Bool.eq_false_iff.2 fun h => Bool.false_ne_true (H.d4 h).2
          obtain rfl : sb5 = false := Bool.eq_false_iff.2 fun h => Bool.false_ne_true (H.d5 h)
          obtain rfl : sb6 = false := Bool.eq_false_iff.2 fun h => Bool.false_ne_true (H.d6 h)
          obtain rfl : sb7 = false := Bool.eq_false_iff.2 fun h => Bool.false_ne_true (H.d7 h)
          obtain rfl : sb9 = false := Bool.eq_false_iff.2 fun h => Bool.false_ne_true (H.d9 h).2.2.1
          obtain rfl : sb10 = false := Bool.eq_false_iff.2 fun h => Bool.false_ne_true (H.d10 h).2.2.1
          have hbe := H.be
          have hx_t5 := H.t5
          have hx_t6 := H.t6
          obtain rfl := H.h1 rfl
          obtain ⟨z0, z1, z2, z3⟩ := bk4r ((hbe.block _ (lt_of_block R6.out)).trans R6.out)
          refine wpOp_step ho (fun K' hK => ?_)
          have HK := Lib.hid hK
          clear hK ho
          go_simp
          exact HK.out _ _ ⟨_, _, _, _, _, _, _, _, _, _, _, _, _, _, _, _, _, _, _, _, sx9, _, rfl, rfl, ⟨hbe, (fun _ => rfl), (fun h => by cases h), H.d4, H.d5, H.d6, H.d7, (fun h => by cases h), (fun h => by cases h), H.t5, H.t6, H.h0, H.h1, (fun _ => rfl), H.h3, (fun h => by cases h), (fun h => by cases h), (fun h => by cases h), H.h7, H.h8, (fun h => by cases h), H.h10⟩⟩
        · have ho := hoj
          simp only [List.getElem?_toArray, List.getElem?_cons_succ, List.getElem?_cons_zero, Option.some.injEq] at hoj
          subst hoj
          obtain rfl : sb3 = false := hun
          obtain rfl : sb2 = true := hall ⟨2, .data⟩ (by simp) (by kernel_rfl)
          obtain rfl : sb1 = true := (H.d2 rfl)
          clear hall
          obtain rfl : sb4 = false := Bool.eq_false_iff.2 fun h => Bool.false_ne_true (H.d4 h).2
          obtain rfl : sb5 = false := Bool.eq_false_iff.2 fun h => Bool.false_ne_true (H.d5 h)
          obtain rfl : sb6 = false := Bool.eq_false_iff.2 fun h => Bool.false_ne_true (H.d6 h)
          obtain rfl : sb7 = false := Bool.eq_false_iff.2 fun h => Bool.false_ne_true (H.d7 h)
          obtain rfl : sb9 = false := Bool.eq_false_iff.2 fun h => Bool.false_ne_true (H.d9 h).2.2.2.1
          obtain rfl : sb10 = false := Bool.eq_false_iff.2 fun h => Bool.false_ne_true (H.d10 h).2.2.2.1
          have hbe := H.be
          have hx_t5 := H.t5
          have hx_t6 := H.t6
          obtain rfl := H.h1 rfl
          obtain rfl := H.h2 rfl
          refine wpOp_step ho (fun K' hK => ?_)
          have HK := Lib.hid hK
          clear hK ho
          go_wp2_with (go_at_call 19; refine (HPA.out _).mono ?_; rintro e w' ⟨rfl, rfl⟩)
          exact HK.out _ _ ⟨_, _, _, _, _, _, _, _, _, _, _, _, _, _, _, _, _, _, _, _, sx9, _, rfl, rfl, ⟨hbe, H.d2, (fun _ => rfl), (fun h => by cases h), H.d5, H.d6, H.d7, (fun h => by cases h), (fun h => by cases h), H.t5, H.t6, H.h0, H.h1, H.h2, (fun _ => rfl), (fun h => by cases h), (fun h => by cases h), (fun h => by cases h), H.h7, H.h8, (fun h => by cases h), H.h10⟩⟩
        · have ho := hoj
          simp only [List.getElem?_toArray, List.getElem?_cons_succ, List.getElem?_cons_zero, Option.some.injEq] at hoj
          subst hoj
          obtain rfl : sb4 = false := hun
          obtain rfl : sb0 = true := hall ⟨0, .data⟩ (by simp) (by kernel_rfl)
          obtain rfl : sb3 = true := hall ⟨3, .data⟩ (by simp) (by kernel_rfl)
          obtain rfl : sb2 = true := (H.d3 rfl)
          obtain rfl : sb1 = true := (H.d2 rfl)
          clear hall
          obtain rfl : sb5 = false := Bool.eq_false_iff.2 fun h => Bool.false_ne_true (H.d5 h)
          obtain rfl : sb6 = false := Bool.eq_false_iff.2 fun h => Bool.false_ne_true (H.d6 h)
          obtain rfl : sb7 = false := Bool.eq_false_iff.2 fun h => Bool.false_ne_true (H.d7 h)
          obtain rfl : sb9 = false := Bool.eq_false_iff.2 fun h => Bool.false_ne_true (H.d9 h).2.2.2.2.1
          obtain rfl : sb10 = false := Bool.eq_false_iff.2 fun h => Bool.false_ne_true (H.d10 h).2.2.2.2.1
          have hbe := H.be
          have hx_t5 := H.t5
          have hx_t6 := H.t6
          obtain rfl := H.h0 rfl
          obtain rfl := H.h1 rfl
          obtain rfl := H.h2 rfl
          obtain rfl := H.h3 rfl
          refine wpOp_step ho (fun K' hK => ?_)
          have HK := Lib.hid hK
          clear hK ho
          go_wp2_with fail
          refine (snGrant_F _ s a w (G6.out.on hbe).val.now (snwfG G6.out.ok G6.out.mx)).mono ?_
          rintro e w1 hr
          have BC := Lib.hid hr.be
          obtain ⟨u1, rfl, hu1⟩ := hr.ex
          rw [HGE.out] at hu1 ⊢
          have UC := Lib.hid (hu1.toSt.toX (w0 := X) hbe.size (fun hb => let ⟨k, e1, _, e3⟩ := H.h8 hb rfl; ⟨k, e1, lt_of_block e3⟩))
          clear hr hu1
          go_wp2_with fail
          exact HK.out _ _ ⟨_, _, _, _, _, _, _, _, _, _, _, _, _, _, _, _, _, _, _, _, sx9, _, rfl, rfl, ⟨hbe.trans (BC.out.mono hbe.size), H.d2, H.d3, (fun _ => ⟨rfl, rfl⟩), (fun h => by cases h), H.d6, H.d7, (fun h => by cases h), (fun h => by cases h), fun _ => ⟨_, rfl⟩, hx_t6, H.h0, H.h1, H.h2, H.h3, (fun _ _ => ⟨_, rfl, UC.out⟩), (fun h => by cases h), (fun h => by cases h), H.h7, (fun e f => let ⟨k, e1, e2, e3⟩ := (H.h8 e f); ⟨k, e1, e2, (BC.out.block _ (lt_of_block e3)).trans e3⟩), (fun h => by cases h), H.h10⟩⟩
        · have ho := hoj
          simp only [List.getElem?_toArray, List.getElem?_cons_succ, List.getElem?_cons_zero, Option.some.injEq] at hoj
          subst hoj
          obtain rfl : sb5 = false := hun
          obtain rfl : sb4 = true := hall ⟨4, .data⟩ (by simp) (by kernel_rfl)
          obtain rfl : sb0 = true := (H.d4 rfl).1
          obtain rfl : sb3 = true := (H.d4 rfl).2
          obtain rfl : sb2 = true := (H.d3 rfl)
          obtain rfl : sb1 = true := (H.d2 rfl)
          clear hall
          obtain rfl : sb6 = false := Bool.eq_false_iff.2 fun h => Bool.false_ne_true (H.d6 h)
          obtain rfl : sb7 = false := Bool.eq_false_iff.2 fun h => Bool.false_ne_true (H.d7 h)
          obtain rfl : sb9 = false := Bool.eq_false_iff.2 fun h => Bool.false_ne_true (H.d9 h).2.2.2.2.2.1
          obtain rfl : sb10 = false := Bool.eq_false_iff.2 fun h => Bool.false_ne_true (H.d10 h).2.2.2.2.2.1
          have hbe := H.be
          have hx_t5 := H.t5
          have hx_t6 := H.t6
          obtain rfl := H.h0 rfl
          obtain rfl := H.h1 rfl
          obtain rfl := H.h2 rfl
          obtain rfl := H.h3 rfl
          have P4 := H.h4 rfl rfl
          have PT := Lib.hid P4
          have TT := Lib.hid (H.t5 rfl)
          clear P4
          refine wpOp_step ho (fun K' hK => ?_)
          have HK := Lib.hid hK
          clear hK ho
          go_simp
          exact HK.out _ _ ⟨_, _, _, _, _, _, _, _, _, _, _, _, _, _, _, _, _, _, _, _, sx9, _, rfl, rfl, ⟨hbe, H.d2, H.d3, H.d4, (fun _ => rfl), (fun h => by cases h), (fun h => by cases h), (fun h => by cases h), (fun h => by cases h), H.t5, fun _ => TT.out, H.h0, H.h1, H.h2, H.h3, H.h4, (fun _ _ => PT.out), (fun h => by cases h), H.h7, H.h8, (fun h => by cases h), H.h10⟩⟩
        · have ho := hoj
          simp only [List.getElem?_toArray, List.getElem?_cons_succ, List.getElem?_cons_zero, Option.some.injEq] at hoj
          subst hoj
          obtain rfl : sb6 = false := hun
          obtain rfl : sb5 = true := hall ⟨5, .data⟩ (by simp) (by kernel_rfl)
          obtain rfl : sb4 = true := (H.d5 rfl)
          obtain rfl : sb0 = true := (H.d4 rfl).1
          obtain rfl : sb3 = true := (H.d4 rfl).2
          obtain rfl : sb2 = true := (H.d3 rfl)
          obtain rfl : sb1 = true := (H.d2 rfl)
          clear hall
          obtain rfl : sb9 = false := Bool.eq_false_iff.2 fun h => Bool.false_ne_true (H.d9 h).2.2.2.2.2.2.1
          obtain rfl : sb10 = false := Bool.eq_false_iff.2 fun h => Bool.false_ne_true (H.d10 h).2.2.2.2.2.2.1
          have hbe := H.be
          have hx_t5 := H.t5
          have hx_t6 := H.t6
          obtain rfl := H.h0 rfl
          obtain rfl := H.h1 rfl
          obtain rfl := H.h2 rfl
          obtain rfl := H.h3 rfl
          have P4 := H.h4 rfl rfl
          have P5 := H.h5 rfl rfl
          obtain ⟨u, rfl, hu⟩ := P5
          have HU := Lib.hid hu
          clear hu
          refine wpOp_step ho (fun K' hK => ?_)
          have HK := Lib.hid hK
          clear hK ho
          go_simp
          exact HK.out _ _ ⟨_, _, _, _, _, _, _, _, _, _, _, _, _, _, _, _, _, _, _, _, sx9, _, rfl, rfl, ⟨hbe, H.d2, H.d3, H.d4, H.d5, (fun _ => rfl), H.d7, (fun h => by cases h), (fun h => by cases h), H.t5, H.t6, H.h0, H.h1, H.h2, H.h3, H.h4, H.h5, (fun _ _ => HU.out), H.h7, H.h8, (fun h => by cases h), H.h10⟩⟩
        · have ho := hoj
          simp only [List.getElem?_toArray, List.getElem?_cons_succ, List.getElem?_cons_zero, Option.some.injEq] at hoj
          subst hoj
          obtain rfl : sb7 = false := hun
          obtain rfl : sb5 = true := hall ⟨5, .data⟩ (by simp) (by kernel_rfl)
          obtain rfl : sb4 = true := (H.d5 rfl)
          obtain rfl : sb0 = true := (H.d4 rfl).1
          obtain rfl : sb3 = true := (H.d4 rfl).2
          obtain rfl : sb2 = true := (H.d3 rfl)
          obtain rfl : sb1 = true := (H.d2 rfl)
          clear hall
          obtain rfl : sb10 = false := Bool.eq_false_iff.2 fun h => Bool.false_ne_true (H.d10 h).2.2.2.2.2.2.2.1
          have hbe := H.be
          have hx_t5 := H.t5
          have hx_t6 := H.t6
          obtain rfl := H.h0 rfl
          obtain rfl := H.h1 rfl
          obtain rfl := H.h2 rfl
          obtain rfl := H.h3 rfl
          obtain ⟨u, rfl⟩ := H.t6 rfl
          refine wpOp_step ho (fun K' hK => ?_)
          have HK := Lib.hid hK
          clear hK ho
          go_simp
          exact HK.out _ _ ⟨_, _, _, _, _, _, _, _, _, _, _, _, _, _, _, _, _, _, _, _, sx9, _, rfl, rfl, ⟨hbe, H.d2, H.d3, H.d4, H.d5, H.d6, (fun _ => rfl), H.d9, (fun h => by cases h), H.t5, H.t6, H.h0, H.h1, H.h2, H.h3, H.h4, H.h5, H.h6, (fun _ => rfl), H.h8, H.h9, H.h10⟩⟩
        · have ho := hoj
          simp only [List.getElem?_toArray, List.getElem?_cons_succ, List.getElem?_cons_zero, Option.some.injEq] at hoj
          subst hoj
          obtain rfl : sb8 = false := hun
          clear hall
          obtain rfl : sb9 = false := Bool.eq_false_iff.2 fun h => Bool.false_ne_true (H.d9 h).2.2.2.2.2.2.2
          obtain rfl : sb10 = false := Bool.eq_false_iff.2 fun h => Bool.false_ne_true (H.d10 h).2.2.2.2.2.2.2.2.1
          have hbe := H.be
          have hx_t5 := H.t5
          have hx_t6 := H.t6
          have BA := Lib.hid ((Below.refl w.heap.size w).alloc (Nat.le_refl _) (.cells #[.slice none 0 0, .bool false, .int .i64 0, .int .i64 0, .slice none 0 0, .slice none 0 0, .bool false, .bool false] 27))
          have NA := Lib.hid (heap_alloc_new w (.cells #[.slice none 0 0, .bool false, .int .i64 0, .int .i64 0, .slice none 0 0, .slice none 0 0, .bool false, .bool false] 27))
          have hsz := hbe.size
          refine wpOp_step ho (fun K' hK => ?_)
          have HK := Lib.hid hK
          clear hK ho
          go_simp
          exact HK.out _ _ ⟨_, _, _, _, _, _, _, _, _, _, _, _, _, _, _, _, _, _, _, _, sx9, _, rfl, rfl, ⟨hbe.trans (BA.out.mono hbe.size), H.d2, H.d3, H.d4, H.d5, H.d6, H.d7, (fun h => by cases h), (fun h => by cases h), hx_t5, hx_t6, H.h0, H.h1, H.h2, H.h3, (fun e f => let ⟨u, e1, e2⟩ := (H.h4 e f); ⟨u, e1, e2.made BA.out⟩), (fun e f => let ⟨u, e1, e2⟩ := (H.h5 e f); ⟨u, e1, e2.made BA.out⟩), (fun e f => (H.h6 e f).made BA.out), H.h7, (fun _ _ => ⟨_, rfl, hsz, NA.out⟩), (fun h => by cases h), H.h10⟩⟩
        · have ho := hoj
          simp only [List.getElem?_toArray, List.getElem?_cons_succ, List.getElem?_cons_zero, Option.some.injEq] at hoj
          subst hoj
          obtain rfl : sb9 = false := hun
          obtain rfl : sb0 = true := hall ⟨0, .phase⟩ (by simp) (by kernel_rfl)
          obtain rfl : sb1 = true := hall ⟨1, .phase⟩ (by simp) (by kernel_rfl)
          obtain rfl : sb2 = true := hall ⟨2, .phase⟩ (by simp) (by kernel_rfl)
          obtain rfl : sb3 = true := hall ⟨3, .phase⟩ (by simp) (by kernel_rfl)
          obtain rfl : sb4 = true := hall ⟨4, .chain⟩ (by simp) (by kernel_rfl)
          obtain rfl : sb5 = true := hall ⟨5, .phase⟩ (by simp) (by kernel_rfl)
          obtain rfl : sb6 = true := hall ⟨6, .data⟩ (by simp) (by kernel_rfl)
          obtain rfl : sb8 = true := hall ⟨8, .data⟩ (by simp) (by kernel_rfl)
          clear hall
          obtain rfl : sb10 = false := Bool.eq_false_iff.2 fun h => Bool.false_ne_true (H.d10 h).2.2.2.2.2.2.2.2.2
          have hbe := H.be
          have hx_t5 := H.t5
          have hx_t6 := H.t6
          obtain rfl := H.h0 rfl
          obtain rfl := H.h1 rfl
          obtain rfl := H.h2 rfl
          obtain rfl := H.h3 rfl
          have P4 := H.h4 rfl rfl
          have P5 := H.h5 rfl rfl
          have P6 := H.h6 rfl rfl
          have P8 := H.h8 rfl rfl
          obtain ⟨k, rfl, hk0, hk⟩ := P8
          have hu := Lib.hid P6
          obtain ⟨Nd, cNd, Nl, cNl, Na, cNa, rfl⟩ := sn_slices P6.now
          obtain ⟨k1, gp⟩ := bkS_put hk (.slice Nd g.data.length cNd) (.bool g.fin) (.int .i64 g.next) (.int .i64 g.mx) (.slice Nl g.lost.length cNl) (.slice Na g.acked.length cNa) (.bool g.ended) (.bool g.over)
          have KK := Lib.hid k1
          have NV := Lib.hid ((hu.out.on (KpS.gr gp (.inr ⟨rfl, rfl⟩))).anti (S' := fun j => j < X.heap.size) fun j hj => .inl hj)
          have BV := Lib.hid (gr_from hbe hbe.size hk0 gp)
          have hK0 := Lib.hid hk0
          obtain ⟨q0, q1, q2, q3, q4, q5, q6, q7⟩ := bkS hk
          have qf := fun i => bk_frz hk i
          clear hk k1 gp hu hk0
          refine wpOp_step ho (fun K' hK => ?_)
          have HK := Lib.hid hK
          clear hK ho
          go_simp
          exact HK.out _ _ ⟨_, _, _, _, _, _, _, _, _, _, _, _, _, _, _, _, _, _, _, _, sx9, _, rfl, rfl, ⟨BV.out, H.d2, H.d3, H.d4, H.d5, H.d6, H.d7, (fun _ => ⟨rfl, rfl, rfl, rfl, rfl, rfl, rfl, rfl⟩), (fun h => by cases h), H.t5, H.t6, H.h0, H.h1, H.h2, H.h3, (fun _ h => by cases h), (fun _ h => by cases h), (fun _ h => by cases h), H.h7, (fun _ h => by cases h), (fun _ => ⟨_, _, _, _, _, _, _, rfl, hK0.out, KK.out, NV.out, BV.out⟩), H.h10⟩⟩
        · have ho := hoj
          simp only [List.getElem?_toArray, List.getElem?_cons_succ, List.getElem?_cons_zero, Option.some.injEq] at hoj
          subst hoj
          obtain rfl : sb10 = false := hun
          obtain rfl : sb0 = true := hall ⟨0, .phase⟩ (by simp) (by kernel_rfl)
          obtain rfl : sb1 = true := hall ⟨1, .phase⟩ (by simp) (by kernel_rfl)
          obtain rfl : sb2 = true := hall ⟨2, .phase⟩ (by simp) (by kernel_rfl)
          obtain rfl : sb3 = true := hall ⟨3, .phase⟩ (by simp) (by kernel_rfl)
          obtain rfl : sb4 = true := hall ⟨4, .phase⟩ (by simp) (by kernel_rfl)
          obtain rfl : sb5 = true := hall ⟨5, .phase⟩ (by simp) (by kernel_rfl)
          obtain rfl : sb6 = true := hall ⟨6, .phase⟩ (by simp) (by kernel_rfl)
          obtain rfl : sb7 = true := hall ⟨7, .data⟩ (by simp) (by kernel_rfl)
          obtain rfl : sb8 = true := hall ⟨8, .phase⟩ (by simp) (by kernel_rfl)
          obtain rfl : sb9 = true := hall ⟨9, .chain⟩ (by simp) (by kernel_rfl)
          clear hall
          have hbe := H.be
          have hx_t5 := H.t5
          have hx_t6 := H.t6
          obtain rfl := H.h0 rfl
          obtain rfl := H.h1 rfl
          obtain rfl := H.h2 rfl
          obtain rfl := H.h3 rfl
          obtain rfl := H.h7 rfl
          have P9 := H.h9 rfl
          refine wpOp_step ho (fun K' hK => ?_)
          have HK := Lib.hid hK
          clear hK ho
          go_simp
          exact HK.out _ _ ⟨_, _, _, _, _, _, _, _, _, _, _, _, _, _, _, _, _, _, _, _, sx9, _, rfl, rfl, ⟨hbe, H.d2, H.d3, H.d4, H.d5, H.d6, H.d7, H.d9, (fun _ => ⟨rfl, rfl, rfl, rfl, rfl, rfl, rfl, rfl, rfl, rfl⟩), H.t5, H.t6, H.h0, H.h1, H.h2, H.h3, (fun _ h => by cases h), (fun _ h => by cases h), (fun _ h => by cases h), H.h7, (fun _ h => by cases h), H.h9, (fun _ => rfl)⟩⟩
        · have ho := hoj
          simp at ho
      case hfin =>
        rintro listed a w ⟨sb0, sb1, sb2, sb3, sb4, sb5, sb6, sb7, sb8, sb9, sb10, sx0, sx1, sx2, sx3, sx4, sx5, sx6, sx7, sx8, sx9, sx10, rfl, rfl, H⟩ hr
        have hb : sb10 = true := by
          clear H
          revert sb0 sb1 sb2 sb3 sb4 sb5 sb6 sb7 sb8 sb9 sb10
          decide +kernel
        subst hb
        clear hr
        obtain rfl : sb0 = true := (H.d10 rfl).1
        obtain rfl : sb1 = true := (H.d10 rfl).2.1
        obtain rfl : sb2 = true := (H.d10 rfl).2.2.1
        obtain rfl : sb3 = true := (H.d10 rfl).2.2.2.1
        obtain rfl : sb4 = true := (H.d10 rfl).2.2.2.2.1
        obtain rfl : sb5 = true := (H.d10 rfl).2.2.2.2.2.1
        obtain rfl : sb6 = true := (H.d10 rfl).2.2.2.2.2.2.1
        obtain rfl : sb7 = true := (H.d10 rfl).2.2.2.2.2.2.2.1
        obtain rfl : sb8 = true := (H.d10 rfl).2.2.2.2.2.2.2.2.1
        obtain rfl : sb9 = true := (H.d10 rfl).2.2.2.2.2.2.2.2.2
        obtain ⟨M, Nd, cNd, Nl, cNl, Na, cNa, e8, hn0, hn1, hn2, hnb⟩ := H.h9 rfl
        have e10 := H.h10 rfl
        have N7 := Lib.hid hn1
        have NV7 := Lib.hid hn2
        have NX7 := Lib.hid hn0
        have B7 := Lib.hid hnb
        clear H hn0 hn1 hn2 hnb
        obtain ⟨Y, hY⟩ : ∃ Y, Y = w := ⟨_, rfl⟩
        subst w
        subst e8 e10
        have G7 := Lib.hid (G6.out.on B7.out)
        have R7 := Lib.hid ((B7.out.block _ (lt_of_block R6.out)).trans R6.out)
        have HXM := NX7
        have BX := B7
        have HM := N7
        obtain ⟨z0, z1, z2, z3⟩ := bk4r R7.out
        go_upto_region 7 with fail
        go_cut [9] from 30 to 32 (fun kv wx => kv = .int .i64 K ∧ wx = Y)
        case first =>
          go_wp2_with fail
          refine (HPK.out _).mono ?_
          rintro e w' ⟨rfl, rfl⟩
          go_wp2_with fail
          go_meet
          exact ⟨rfl, rfl⟩
        case rest =>
        obtain ⟨rfl, hwc⟩ := hcut
        subst wc
        clear z0 z1 z2 z3
        go_upto_block 2 with fail
        go_cut [4, 8, 10, 11, 12] from 33 to 111 (fun sv ev _ _ _ wx => ∃ (ec : Int) (s' : Sn) (Od Ol Oa : Option Addr) (cOd cOl cOa : Nat) (cs' : List FE), ev = .int .i64 ec ∧ cs'.length ≤ kk + 1 ∧ Hid (SG W wx Ad Al Aa cAd cAl cAa s sv cs') ∧ Hid (SNx X wx M Od Ol Oa cOd cOl cOa s' sv) ∧ Hid (RndOk s s' ec cs'))
        case first =>
          have SVG := Lib.hid (fun j (e : sv.ownBlock = some j) => (G6.out.own.lt j e).2)
          by_cases k0 : K = 0
          · have gk0 : (K == 0) = true := by simp [k0]
            clear k0
            obtain ⟨zz, hzz⟩ : ∃ zz, (numsOf rt).take 30 = zz := ⟨_, rfl⟩
            have HCU := Lib.hid (fun w => hzz ▸ cut_any rt 30 (by decide) hts w)
            have HZB := Lib.hid (show Byt zz from hzz ▸ Byt.take (numsOf_byt rt) 30)
            have HZL := Lib.hid (show zz.length ≤ 30 by rw [← hzz, List.length_take]; omega)
            obtain ⟨bz, hbz⟩ : ∃ a, rb % 5 = a := ⟨_, rfl⟩
            have HPB := Lib.hid (fun w => hbz ▸ picked_any rb 5 (by decide) (by decide) w)
            obtain ⟨fb, hfb⟩ : ∃ x, (bz == 0) = x := ⟨_, rfl⟩
            have HFB := Lib.hid hfb
            have hgw := good_wr GK.out.ok zz fb
            obtain ⟨⟨g2, ec⟩, hg2⟩ : ∃ p, wrS s zz fb = p := ⟨_, rfl⟩
            rw [hg2] at hgw
            have HGE2 := Lib.hid hg2
            have HGW := Lib.hid hgw
            clear hzz hbz hfb hg2 hgw
            go_upto_region 9 with fail
            refine wp_region_inv (fun lis_ act_ wld_ => ∃ (tb0 tb1 tb2 tb3 tb4 tb5 tb6 tb7 tb8 tb9 tb10 tb11 tb12 tb13 tb14 : Bool) (tx0 tx1 tx2 tx3 tx4 tx5 tx6 tx7 tx8 tx9 tx10 tx11 tx12 tx13 tx14 : Value), lis_ = #[tb0, tb1, tb2, tb3, tb4, tb5, tb6, tb7, tb8, tb9, tb10, tb11, tb12, tb13, tb14] ∧ act_ = { tmps := #[Value.slice (some { block := b, off := off }) len cap, undef, u2, Value.pointer (some { block := W.heap.size, off := 0 }), sv, undef, Value.pointer (some { block := R, off := 0 }), Value.pointer (some { block := M, off := 0 }), tx14, Value.int IntKind.i64 K, u10, u11, u12, undef, undef, Value.slice (some { block := b, off := off }) len cap, Value.slice (some { block := b, off := off }) N cap, Value.int IntKind.i64 ↑N, Value.int IntKind.i64 ↑kk, Value.bool true, Value.pointer (some { block := b, off := off + kk * 4 }), Value.agg #[Value.int IntKind.i64 kd, Value.int IntKind.i64 ra, Value.int IntKind.i64 rb, Value.string rt], sx5, sx0, sx1, sx2, sx3, sx4, sx6, sx7, u30, u31, u32, Value.bool true, Value.int IntKind.i64 K, Value.bool true, tx10, tx0, tx1, tx2, tx3, tx4, tx5, tx6, tx7, tx8, tx9, tx11, tx12, u49, u50, u51, u52, u53, u54, u55, u56, u57, u58, u59, u60, u61, u62, u63, u64, u65, u66, u67, u68, u69, u70, u71, u72, u73, u74, u75, u76, u77, u78, u79, u80, u81, u82, u83, u84, u85, u86, u87, u88, u89, u90, u91, u92, u93, u94, u95, u96, u97, u98, u99, u100, u101, u102, u103, u104, u105, u106, u107, u108, u109, u110, u111, u112, u113, u114, u115, u116, u117, u118, u119, u120, u121, u122, u123, u124, u125, u126, u127, u128, u129, u130, u131, u132, u133, u134, u135, u136, u137, u138, u139, u140, u141, u142, u143, u144, u145, undef, undef, undef, undef, undef, undef, undef, undef, undef, undef, undef, undef], defers := [] } ∧ SgB Y X Ad Al Aa cAd cAl cAa s g2 R M rb bz ec rt zz fb (.agg #[.slice Ad s.data.length cAd, .bool s.fin, .int .i64 s.next, .int .i64 s.mx, .slice Al s.lost.length cAl, .slice Aa s.acked.length cAa, .bool s.ended, .bool s.over]) (.pointer (some ⟨R, 3, none⟩)) (.string rt) (.string (strOfNums zz)) (.pointer (some ⟨R, 2, none⟩)) (.int .i64 rb) (.int .i64 bz) (.bool fb) (.int .i64 ec) (.int .i64 ec) tb0 tb1 tb2 tb3 tb4 tb5 tb6 tb7 tb8 tb9 tb10 tb11 tb12 tb13 tb14 tx0 tx1 tx2 tx3 tx4 tx5 tx6 tx7 tx8 tx9 tx10 tx11 tx12 tx13 tx14 wld_) (by kernel_rfl) ?h0 ?hfin ?hI
            case h0 => exact ⟨_, _, _, _, _, _, _, _, _, _, _, _, _, _, _, _, _, _, _, _, _, _, _, _, _, _, _, _, undef, _, rfl, rfl, ⟨(fun _ => (Below.refl _ _).drew), (fun h => by cases h), (fun h => by cases h), (fun h => by cases h), (fun h => by cases h), (fun h => by cases h), (fun h => by cases h), (fun h => by cases h), (fun h => by cases h), (fun h => by cases h), (fun h => by cases h), (fun h => by cases h), (fun h => by cases h), (fun h => by cases h), (fun h => by cases h), (fun h => by cases h), (fun h => by cases h), (fun h => by cases h), (fun h => by cases h), (fun h => by cases h), (fun h => by cases h), (fun h => by cases h), (fun h => by cases h), (fun h => by cases h), (fun h => by cases h), (fun h => by cases h), (fun h => by cases h), (fun h => by cases h), (fun h => by cases h), (fun h => by cases h)⟩⟩
            case hI =>
              rintro listed a w ⟨tb0, tb1, tb2, tb3, tb4, tb5, tb6, tb7, tb8, tb9, tb10, tb11, tb12, tb13, tb14, tx0, tx1, tx2, tx3, tx4, tx5, tx6, tx7, tx8, tx9, tx10, tx11, tx12, tx13, tx14, rfl, rfl, H⟩ i hi
              obtain ⟨hun, oj, hoj, hall⟩ := mem_ready.1 hi
              clear hi
              rcases i with _ | _ | _ | _ | _ | _ | _ | _ | _ | _ | _ | _ | _ | _ | _ | i
              · have ho := hoj
                simp only [List.getElem?_toArray, List.getElem?_cons_zero, Option.some.injEq] at hoj
                subst hoj
                obtain rfl : tb0 = false := hun
                clear hall
                obtain rfl : tb9 = false := Bool.eq_false_iff.2 fun h => Bool.false_ne_true (H.d9 h).1
                obtain rfl : tb10 = false := Bool.eq_false_iff.2 fun h => Bool.false_ne_true (H.d10 h)
                obtain rfl : tb11 = false := Bool.eq_false_iff.2 fun h => Bool.false_ne_true (H.d11 h)
                obtain rfl : tb12 = false := Bool.eq_false_iff.2 fun h => Bool.false_ne_true (H.d12 h)
                obtain rfl : tb13 = false := Bool.eq_false_iff.2 fun h => Bool.false_ne_true (H.d13 h).1
                obtain rfl : tb14 = false := Bool.eq_false_iff.2 fun h => Bool.false_ne_true (H.d14 h).1
                have hbe := H.be rfl
                have hx_t5 := H.t5
                have hx_t6 := H.t6
                obtain ⟨q0, q1, q2, q3, q4, q5, q6, q7⟩ := bkS ((hbe.block _ (lt_of_block G7.out.blk)).trans G7.out.blk)
                refine wpOp_step ho (fun K' hK => ?_)
                have HK := Lib.hid hK
                clear hK ho
                go_simp
                exact HK.out _ _ ⟨_, _, _, _, _, _, _, _, _, _, _, _, _, _, _, _, _, _, _, _, _, _, _, _, _, _, _, _, tx13, _, rfl, rfl, ⟨(fun _ => hbe), H.d2, H.d3, H.d4, H.d6, H.d7, H.d8, (fun h => by cases h), H.d10, H.d11, H.d12, (fun h => by cases h), (fun h => by cases h), H.t5, H.t6, (fun _ => rfl), H.h1, H.h2, H.h3, H.h4, H.h5, H.h6, H.h7, H.h8, (fun h => by cases h), (fun h => by cases h), (fun h => by cases h), H.h12, (fun h => by cases h), H.h14⟩⟩
              · have ho := hoj
                simp only [List.getElem?_toArray, List.getElem?_cons_succ, List.getElem?_cons_zero, Option.some.injEq] at hoj
                subst hoj
                obtain rfl : tb1 = false := hun
                clear hall
                obtain rfl : tb2 = false := Bool.eq_false_iff.2 fun h => Bool.false_ne_true (H.d2 h)
                obtain rfl : tb3 = false := Bool.eq_false_iff.2 fun h => Bool.false_ne_true (H.d3 h)
                obtain rfl : tb4 = false := Bool.eq_false_iff.2 fun h => Bool.false_ne_true (H.d4 h)
                obtain rfl : tb7 = false := Bool.eq_false_iff.2 fun h => Bool.false_ne_true (H.d7 h).1
                obtain rfl : tb8 = false := Bool.eq_false_iff.2 fun h => Bool.false_ne_true (H.d8 h)
                obtain rfl : tb9 = false := Bool.eq_false_iff.2 fun h => Bool.false_ne_true (H.d9 h).2.1
                obtain rfl : tb10 = false := Bool.eq_false_iff.2 fun h => Bool.false_ne_true (H.d10 h)
                obtain rfl : tb11 = false := Bool.eq_false_iff.2 fun h => Bool.false_ne_true (H.d11 h)
                obtain rfl : tb12 = false := Bool.eq_false_iff.2 fun h => Bool.false_ne_true (H.d12 h)
                obtain rfl : tb13 = false := Bool.eq_false_iff.2 fun h => Bool.false_ne_true (H.d13 h).2.1
                obtain rfl : tb14 = false := Bool.eq_false_iff.2 fun h => Bool.false_ne_true (H.d14 h).2.1
                have hbe := H.be rfl
                have hx_t5 := H.t5
                have hx_t6 := H.t6
                refine wpOp_step ho (fun K' hK => ?_)
                have HK := Lib.hid hK
                clear hK ho
                go_simp
                exact HK.out _ _ ⟨_, _, _, _, _, _, _, _, _, _, _, _, _, _, _, _, _, _, _, _, _, _, _, _, _, _, _, _, tx13, _, rfl, rfl, ⟨(fun _ => hbe), (fun h => by cases h), H.d3, H.d4, H.d6, H.d7, H.d8, H.d9, H.d10, H.d11, H.d12, (fun h => by cases h), (fun h => by cases h), H.t5, H.t6, H.h0, (fun _ => rfl), H.h2, H.h3, (fun h => by cases h), H.h5, H.h6, H.h7, H.h8, (fun h => by cases h), (fun h => by cases h), (fun h => by cases h), H.h12, (fun h => by cases h), H.h14⟩⟩
              · have ho := hoj
                simp only [List.getElem?_toArray, List.getElem?_cons_succ, List.getElem?_cons_zero, Option.some.injEq] at hoj
                subst hoj
                obtain rfl : tb2 = false := hun
                obtain rfl : tb1 = true := hall ⟨1, .data⟩ (by simp) (by kernel_rfl)
                clear hall
                obtain rfl : tb3 = false := Bool.eq_false_iff.2 fun h => Bool.false_ne_true (H.d3 h)
                obtain rfl : tb4 = false := Bool.eq_false_iff.2 fun h => Bool.false_ne_true (H.d4 h)
                obtain rfl : tb7 = false := Bool.eq_false_iff.2 fun h => Bool.false_ne_true (H.d7 h).1
                obtain rfl : tb8 = false := Bool.eq_false_iff.2 fun h => Bool.false_ne_true (H.d8 h)
                obtain rfl : tb9 = false := Bool.eq_false_iff.2 fun h => Bool.false_ne_true (H.d9 h).2.1
                obtain rfl : tb10 = false := Bool.eq_false_iff.2 fun h => Bool.false_ne_true (H.d10 h)
                obtain rfl : tb11 = false := Bool.eq_false_iff.2 fun h => Bool.false_ne_true (H.d11 h)
                obtain rfl : tb12 = false := Bool.eq_false_iff.2 fun h => Bool.false_ne_true (H.d12 h)
                obtain rfl : tb13 = false := Bool.eq_false_iff.2 fun h => Bool.false_ne_true (H.d13 h).2.2.1
                obtain rfl : tb14 = false := Bool.eq_false_iff.2 fun h => Bool.false_ne_true (H.d14 h).2.2.1
                have hbe := H.be rfl
                have hx_t5 := H.t5
                have hx_t6 := H.t6
                obtain rfl := H.h1 rfl
                obtain ⟨z0, z1, z2, z3⟩ := bk4r ((hbe.block _ (lt_of_block R7.out)).trans R7.out)
                refine wpOp_step ho (fun K' hK => ?_)
                have HK := Lib.hid hK
                clear hK ho
                go_simp
                exact HK.out _ _ ⟨_, _, _, _, _, _, _, _, _, _, _, _, _, _, _, _, _, _, _, _, _, _, _, _, _, _, _, _, tx13, _, rfl, rfl, ⟨(fun _ => hbe), (fun _ => rfl), (fun h => by cases h), H.d4, H.d6, H.d7, H.d8, H.d9, H.d10, H.d11, H.d12, (fun h => by cases h), (fun h => by cases h), H.t5, H.t6, H.h0, H.h1, (fun _ => rfl), H.h3, (fun h => by cases h), H.h5, H.h6, H.h7, H.h8, (fun h => by cases h), (fun h => by cases h), (fun h => by cases h), H.h12, (fun h => by cases h), H.h14⟩⟩
              · have ho := hoj
                simp only [List.getElem?_toArray, List.getElem?_cons_succ, List.getElem?_cons_zero, Option.some.injEq] at hoj
                subst hoj
                obtain rfl : tb3 = false := hun
                obtain rfl : tb2 = true := hall ⟨2, .data⟩ (by simp) (by kernel_rfl)
                obtain rfl : tb1 = true := (H.d2 rfl)
                clear hall
                obtain rfl : tb4 = false := Bool.eq_false_iff.2 fun h => Bool.false_ne_true (H.d4 h)
                obtain rfl : tb7 = false := Bool.eq_false_iff.2 fun h => Bool.false_ne_true (H.d7 h).1
                obtain rfl : tb8 = false := Bool.eq_false_iff.2 fun h => Bool.false_ne_true (H.d8 h)
                obtain rfl : tb9 = false := Bool.eq_false_iff.2 fun h => Bool.false_ne_true (H.d9 h).2.1
                obtain rfl : tb10 = false := Bool.eq_false_iff.2 fun h => Bool.false_ne_true (H.d10 h)
                obtain rfl : tb11 = false := Bool.eq_false_iff.2 fun h => Bool.false_ne_true (H.d11 h)
                obtain rfl : tb12 = false := Bool.eq_false_iff.2 fun h => Bool.false_ne_true (H.d12 h)
                obtain rfl : tb13 = false := Bool.eq_false_iff.2 fun h => Bool.false_ne_true (H.d13 h).2.2.2.1
                obtain rfl : tb14 = false := Bool.eq_false_iff.2 fun h => Bool.false_ne_true (H.d14 h).2.2.2.1
                have hbe := H.be rfl
                have hx_t5 := H.t5
                have hx_t6 := H.t6
                obtain rfl := H.h1 rfl
                obtain rfl := H.h2 rfl
                refine wpOp_step ho (fun K' hK => ?_)
                have HK := Lib.hid hK
                clear hK ho
                go_wp2_with (go_at_call 27; refine (HCU.out _).mono ?_; rintro e w' ⟨rfl, rfl⟩)
                exact HK.out _ _ ⟨_, _, _, _, _, _, _, _, _, _, _, _, _, _, _, _, _, _, _, _, _, _, _, _, _, _, _, _, tx13, _, rfl, rfl, ⟨(fun _ => hbe), H.d2, (fun _ => rfl), (fun h => by cases h), H.d6, (fun h => by cases h), H.d8, H.d9, H.d10, H.d11, H.d12, (fun h => by cases h), (fun h => by cases h), H.t5, H.t6, H.h0, H.h1, H.h2, (fun _ => rfl), (fun h => by cases h), H.h5, H.h6, H.h7, H.h8, (fun h => by cases h), (fun h => by cases h), (fun h => by cases h), H.h12, (fun h => by cases h), H.h14⟩⟩
              · have ho := hoj
                simp only [List.getElem?_toArray, List.getElem?_cons_succ, List.getElem?_cons_zero, Option.some.injEq] at hoj
                subst hoj
                obtain rfl : tb4 = false := hun
                obtain rfl : tb3 = true := hall ⟨3, .data⟩ (by simp) (by kernel_rfl)
                obtain rfl : tb2 = true := (H.d3 rfl)
                obtain rfl : tb1 = true := (H.d2 rfl)
                clear hall
                obtain rfl : tb9 = false := Bool.eq_false_iff.2 fun h => Bool.false_ne_true (H.d9 h).2.1
                obtain rfl : tb10 = false := Bool.eq_false_iff.2 fun h => Bool.false_ne_true (H.d10 h)
                obtain rfl : tb11 = false := Bool.eq_false_iff.2 fun h => Bool.false_ne_true (H.d11 h)
                obtain rfl : tb12 = false := Bool.eq_false_iff.2 fun h => Bool.false_ne_true (H.d12 h)
                obtain rfl : tb13 = false := Bool.eq_false_iff.2 fun h => Bool.false_ne_true (H.d13 h).2.2.2.2.1
                obtain rfl : tb14 = false := Bool.eq_false_iff.2 fun h => Bool.false_ne_true (H.d14 h).2.2.2.2.1
                have hbe := H.be rfl
                have hx_t5 := H.t5
                have hx_t6 := H.t6
                obtain rfl := H.h1 rfl
                obtain rfl := H.h2 rfl
                obtain rfl := H.h3 rfl
                obtain ⟨C, W1, hrun, hb1, hlt1, hbs1⟩ := conv_str zz HZB.out (by have := HZL.out; omega) w
                have BA := Lib.hid hb1
                have NA := Lib.hid hbs1
                clear hb1 hlt1 hbs1
                refine wpOp_step ho (fun K' hK => ?_)
                have HK := Lib.hid hK
                clear hK ho
                go_simp
                exact HK.out _ _ ⟨_, _, _, _, _, _, _, _, _, _, _, _, _, _, _, _, _, _, _, _, _, _, _, _, _, _, _, _, tx13, _, rfl, rfl, ⟨(fun _ => hbe.trans (BA.out.mono hbe.size)), H.d2, H.d3, (fun _ => rfl), H.d6, H.d7, H.d8, (fun h => by cases h), H.d10, H.d11, H.d12, (fun h => by cases h), (fun h => by cases h), hx_t5, hx_t6, H.h0, H.h1, H.h2, H.h3, (fun _ _ => NA.out), H.h5, H.h6, H.h7, H.h8, (fun h => by cases h), (fun h => by cases h), (fun h => by cases h), H.h12, (fun h => by cases h), H.h14⟩⟩
              · have ho := hoj
                simp only [List.getElem?_toArray, List.getElem?_cons_succ, List.getElem?_cons_zero, Option.some.injEq] at hoj
                subst hoj
                obtain rfl : tb5 = false := hun
                clear hall
                obtain rfl : tb6 = false := Bool.eq_false_iff.2 fun h => Bool.false_ne_true (H.d6 h)
                obtain rfl : tb7 = false := Bool.eq_false_iff.2 fun h => Bool.false_ne_true (H.d7 h).2
                obtain rfl : tb8 = false := Bool.eq_false_iff.2 fun h => Bool.false_ne_true (H.d8 h)
                obtain rfl : tb9 = false := Bool.eq_false_iff.2 fun h => Bool.false_ne_true (H.d9 h).2.2.1
                obtain rfl : tb10 = false := Bool.eq_false_iff.2 fun h => Bool.false_ne_true (H.d10 h)
                obtain rfl : tb11 = false := Bool.eq_false_iff.2 fun h => Bool.false_ne_true (H.d11 h)
                obtain rfl : tb12 = false := Bool.eq_false_iff.2 fun h => Bool.false_ne_true (H.d12 h)
                obtain rfl : tb13 = false := Bool.eq_false_iff.2 fun h => Bool.false_ne_true (H.d13 h).2.2.2.2.2.1
                obtain rfl : tb14 = false := Bool.eq_false_iff.2 fun h => Bool.false_ne_true (H.d14 h).2.2.2.2.2.1
                have hbe := H.be rfl
                have hx_t5 := H.t5
                have hx_t6 := H.t6
                refine wpOp_step ho (fun K' hK => ?_)
                have HK := Lib.hid hK
                clear hK ho
                go_simp
                exact HK.out _ _ ⟨_, _, _, _, _, _, _, _, _, _, _, _, _, _, _, _, _, _, _, _, _, _, _, _, _, _, _, _, tx13, _, rfl, rfl, ⟨(fun _ => hbe), H.d2, H.d3, H.d4, (fun h => by cases h), H.d7, H.d8, H.d9, H.d10, H.d11, H.d12, (fun h => by cases h), (fun h => by cases h), H.t5, H.t6, H.h0, H.h1, H.h2, H.h3, H.h4, (fun _ => rfl), H.h6, H.h7, H.h8, (fun h => by cases h), (fun h => by cases h), (fun h => by cases h), H.h12, (fun h => by cases h), H.h14⟩⟩
              · have ho := hoj
                simp only [List.getElem?_toArray, List.getElem?_cons_succ, List.getElem?_cons_zero, Option.some.injEq] at hoj
                subst hoj
                obtain rfl : tb6 = false := hun
                obtain rfl : tb5 = true := hall ⟨5, .data⟩ (by simp) (by kernel_rfl)
                clear hall
                obtain rfl : tb7 = false := Bool.eq_false_iff.2 fun h => Bool.false_ne_true (H.d7 h).2
                obtain rfl : tb8 = false := Bool.eq_false_iff.2 fun h => Bool.false_ne_true (H.d8 h)
                obtain rfl : tb9 = false := Bool.eq_false_iff.2 fun h => Bool.false_ne_true (H.d9 h).2.2.1
                obtain rfl : tb10 = false := Bool.eq_false_iff.2 fun h => Bool.false_ne_true (H.d10 h)
                obtain rfl : tb11 = false := Bool.eq_false_iff.2 fun h => Bool.false_ne_true (H.d11 h)
                obtain rfl : tb12 = false := Bool.eq_false_iff.2 fun h => Bool.false_ne_true (H.d12 h)
                obtain rfl : tb13 = false := Bool.eq_false_iff.2 fun h => Bool.false_ne_true (H.d13 h).2.2.2.2.2.2.1
                obtain rfl : tb14 = false := Bool.eq_false_iff.2 fun h => Bool.false_ne_true (H.d14 h).2.2.2.2.2.2.1
                have hbe := H.be rfl
                have hx_t5 := H.t5
                have hx_t6 := H.t6
                obtain rfl := H.h5 rfl
                obtain ⟨z0, z1, z2, z3⟩ := bk4r ((hbe.block _ (lt_of_block R7.out)).trans R7.out)
                refine wpOp_step ho (fun K' hK => ?_)
                have HK := Lib.hid hK
                clear hK ho
                go_simp
                exact HK.out _ _ ⟨_, _, _, _, _, _, _, _, _, _, _, _, _, _, _, _, _, _, _, _, _, _, _, _, _, _, _, _, tx13, _, rfl, rfl, ⟨(fun _ => hbe), H.d2, H.d3, H.d4, (fun _ => rfl), (fun h => by cases h), H.d8, H.d9, H.d10, H.d11, H.d12, (fun h => by cases h), (fun h => by cases h), H.t5, H.t6, H.h0, H.h1, H.h2, H.h3, H.h4, H.h5, (fun _ => rfl), H.h7, H.h8, (fun h => by cases h), (fun h => by cases h), (fun h => by cases h), H.h12, (fun h => by cases h), H.h14⟩⟩
              · have ho := hoj
                simp only [List.getElem?_toArray, List.getElem?_cons_succ, List.getElem?_cons_zero, Option.some.injEq] at hoj
                subst hoj
                obtain rfl : tb7 = false := hun
                obtain rfl : tb3 = true := hall ⟨3, .chain⟩ (by simp) (by kernel_rfl)
                obtain rfl : tb6 = true := hall ⟨6, .data⟩ (by simp) (by kernel_rfl)
                obtain rfl : tb2 = true := (H.d3 rfl)
                obtain rfl : tb5 = true := (H.d6 rfl)
                obtain rfl : tb1 = true := (H.d2 rfl)
                clear hall
                obtain rfl : tb8 = false := Bool.eq_false_iff.2 fun h => Bool.false_ne_true (H.d8 h)
                obtain rfl : tb9 = false := Bool.eq_false_iff.2 fun h => Bool.false_ne_true (H.d9 h).2.2.1
                obtain rfl : tb10 = false := Bool.eq_false_iff.2 fun h => Bool.false_ne_true (H.d10 h)
                obtain rfl : tb11 = false := Bool.eq_false_iff.2 fun h => Bool.false_ne_true (H.d11 h)
                obtain rfl : tb12 = false := Bool.eq_false_iff.2 fun h => Bool.false_ne_true (H.d12 h)
                obtain rfl : tb13 = false := Bool.eq_false_iff.2 fun h => Bool.false_ne_true (H.d13 h).2.2.2.2.2.2.2.1
                obtain rfl : tb14 = false := Bool.eq_false_iff.2 fun h => Bool.false_ne_true (H.d14 h).2.2.2.2.2.2.2.1
                have hbe := H.be rfl
                have hx_t5 := H.t5
                have hx_t6 := H.t6
                obtain rfl := H.h1 rfl
                obtain rfl := H.h2 rfl
                obtain rfl := H.h3 rfl
                obtain rfl := H.h5 rfl
                obtain rfl := H.h6 rfl
                refine wpOp_step ho (fun K' hK => ?_)
                have HK := Lib.hid hK
                clear hK ho
                go_wp2_with (go_at_call 19; refine (HPB.out _).mono ?_; rintro e w' ⟨rfl, rfl⟩)
                exact HK.out _ _ ⟨_, _, _, _, _, _, _, _, _, _, _, _, _, _, _, _, _, _, _, _, _, _, _, _, _, _, _, _, tx13, _, rfl, rfl, ⟨(fun _ => hbe), H.d2, H.d3, H.d4, H.d6, (fun _ => ⟨rfl, rfl⟩), (fun h => by cases h), (fun h => by cases h), H.d10, H.d11, H.d12, (fun h => by cases h), (fun h => by cases h), H.t5, H.t6, H.h0, H.h1, H.h2, H.h3, H.h4, H.h5, H.h6, (fun _ => rfl), H.h8, (fun h => by cases h), (fun h => by cases h), (fun h => by cases h), H.h12, (fun h => by cases h), H.h14⟩⟩
              · have ho := hoj
                simp only [List.getElem?_toArray, List.getElem?_cons_succ, List.getElem?_cons_zero, Option.some.injEq] at hoj
                subst hoj
                obtain rfl : tb8 = false := hun
                obtain rfl : tb7 = true := hall ⟨7, .data⟩ (by simp) (by kernel_rfl)
                obtain rfl : tb3 = true := (H.d7 rfl).1
                obtain rfl : tb6 = true := (H.d7 rfl).2
                obtain rfl : tb2 = true := (H.d3 rfl)
                obtain rfl : tb5 = true := (H.d6 rfl)
                obtain rfl : tb1 = true := (H.d2 rfl)
                clear hall
                obtain rfl : tb9 = false := Bool.eq_false_iff.2 fun h => Bool.false_ne_true (H.d9 h).2.2.2
                obtain rfl : tb10 = false := Bool.eq_false_iff.2 fun h => Bool.false_ne_true (H.d10 h)
                obtain rfl : tb11 = false := Bool.eq_false_iff.2 fun h => Bool.false_ne_true (H.d11 h)
                obtain rfl : tb12 = false := Bool.eq_false_iff.2 fun h => Bool.false_ne_true (H.d12 h)
                obtain rfl : tb13 = false := Bool.eq_false_iff.2 fun h => Bool.false_ne_true (H.d13 h).2.2.2.2.2.2.2.2.1
                obtain rfl : tb14 = false := Bool.eq_false_iff.2 fun h => Bool.false_ne_true (H.d14 h).2.2.2.2.2.2.2.2.1
                have hbe := H.be rfl
                have hx_t5 := H.t5
                have hx_t6 := H.t6
                obtain rfl := H.h1 rfl
                obtain rfl := H.h2 rfl
                obtain rfl := H.h3 rfl
                obtain rfl := H.h5 rfl
                obtain rfl := H.h6 rfl
                obtain rfl := H.h7 rfl
                have hfb := HFB.out
                refine wpOp_step ho (fun K' hK => ?_)
                have HK := Lib.hid hK
                clear hK ho
                go_simp
                exact HK.out _ _ ⟨_, _, _, _, _, _, _, _, _, _, _, _, _, _, _, _, _, _, _, _, _, _, _, _, _, _, _, _, tx13, _, rfl, rfl, ⟨(fun _ => hbe), H.d2, H.d3, H.d4, H.d6, H.d7, (fun _ => rfl), (fun h => by cases h), H.d10, H.d11, H.d12, (fun h => by cases h), (fun h => by cases h), H.t5, H.t6, H.h0, H.h1, H.h2, H.h3, H.h4, H.h5, H.h6, H.h7, (fun _ => rfl), (fun h => by cases h), (fun h => by cases h), (fun h => by cases h), H.h12, (fun h => by cases h), H.h14⟩⟩
              · have ho := hoj
                simp only [List.getElem?_toArray, List.getElem?_cons_succ, List.getElem?_cons_zero, Option.some.injEq] at hoj
                subst hoj
                obtain rfl : tb9 = false := hun
                obtain rfl : tb0 = true := hall ⟨0, .data⟩ (by simp) (by kernel_rfl)
                obtain rfl : tb4 = true := hall ⟨4, .data⟩ (by simp) (by kernel_rfl)
                obtain rfl : tb7 = true := hall ⟨7, .chain⟩ (by simp) (by kernel_rfl)
                obtain rfl : tb8 = true := hall ⟨8, .data⟩ (by simp) (by kernel_rfl)
                obtain rfl : tb3 = true := (H.d4 rfl)
                obtain rfl : tb6 = true := (H.d7 rfl).2
                obtain rfl : tb2 = true := (H.d3 rfl)
                obtain rfl : tb5 = true := (H.d6 rfl)
                obtain rfl : tb1 = true := (H.d2 rfl)
                clear hall
                obtain rfl : tb10 = false := Bool.eq_false_iff.2 fun h => Bool.false_ne_true (H.d10 h)
                obtain rfl : tb11 = false := Bool.eq_false_iff.2 fun h => Bool.false_ne_true (H.d11 h)
                obtain rfl : tb12 = false := Bool.eq_false_iff.2 fun h => Bool.false_ne_true (H.d12 h)
                obtain rfl : tb13 = false := Bool.eq_false_iff.2 fun h => Bool.false_ne_true (H.d13 h).2.2.2.2.2.2.2.2.2.1
                obtain rfl : tb14 = false := Bool.eq_false_iff.2 fun h => Bool.false_ne_true (H.d14 h).2.2.2.2.2.2.2.2.2.1
                have hbe := H.be rfl
                have hx_t5 := H.t5
                have hx_t6 := H.t6
                obtain rfl := H.h0 rfl
                obtain rfl := H.h1 rfl
                obtain rfl := H.h2 rfl
                obtain rfl := H.h3 rfl
                have P4 := H.h4 rfl rfl
                obtain rfl := H.h5 rfl
                obtain rfl := H.h6 rfl
                obtain rfl := H.h7 rfl
                obtain rfl := H.h8 rfl
                refine wpOp_step ho (fun K' hK => ?_)
                have HK := Lib.hid hK
                clear hK ho
                go_wp2_with fail
                refine (snWrite_F _ _ s zz fb w (G7.out.on hbe).val.now (snwfG G7.out.ok G7.out.mx) P4 (by have := HZL.out; omega)).mono ?_
                rintro e w1 hr
                have BC := Lib.hid hr.be
                obtain ⟨u1, rfl, hu1⟩ := hr.ex
                rw [HGE2.out] at hu1 ⊢
                have UC := Lib.hid (hu1.toSt.anti (S' := fun j => j < Y.heap.size) (fun j hj => Nat.lt_of_lt_of_le hj hbe.size))
                clear hr hu1
                go_wp2_with fail
                exact HK.out _ _ ⟨_, _, _, _, _, _, _, _, _, _, _, _, _, _, _, _, _, _, _, _, _, _, _, _, _, _, _, _, tx13, _, rfl, rfl, ⟨(fun _ => hbe.trans (BC.out.mono hbe.size)), H.d2, H.d3, H.d4, H.d6, H.d7, H.d8, (fun _ => ⟨rfl, rfl, rfl, rfl⟩), (fun h => by cases h), H.d11, H.d12, (fun h => by cases h), (fun h => by cases h), fun _ => ⟨_, rfl⟩, hx_t6, H.h0, H.h1, H.h2, H.h3, (fun e f => ((H.h4 e f).below BC.out).more (BC.out).size), H.h5, H.h6, H.h7, H.h8, (fun _ _ => ⟨_, rfl, UC.out⟩), (fun h => by cases h), (fun h => by cases h), H.h12, (fun h => by cases h), H.h14⟩⟩
              · have ho := hoj
                simp only [List.getElem?_toArray, List.getElem?_cons_succ, List.getElem?_cons_zero, Option.some.injEq] at hoj
                subst hoj
                obtain rfl : tb10 = false := hun
                obtain rfl : tb9 = true := hall ⟨9, .data⟩ (by simp) (by kernel_rfl)
                obtain rfl : tb0 = true := (H.d9 rfl).1
                obtain rfl : tb4 = true := (H.d9 rfl).2.1
                obtain rfl : tb7 = true := (H.d9 rfl).2.2.1
                obtain rfl : tb8 = true := (H.d9 rfl).2.2.2
                obtain rfl : tb3 = true := (H.d4 rfl)
                obtain rfl : tb6 = true := (H.d7 rfl).2
                obtain rfl : tb2 = true := (H.d3 rfl)
                obtain rfl : tb5 = true := (H.d6 rfl)
                obtain rfl : tb1 = true := (H.d2 rfl)
                clear hall
                obtain rfl : tb11 = false := Bool.eq_false_iff.2 fun h => Bool.false_ne_true (H.d11 h)
                obtain rfl : tb12 = false := Bool.eq_false_iff.2 fun h => Bool.false_ne_true (H.d12 h)
                obtain rfl : tb13 = false := Bool.eq_false_iff.2 fun h => Bool.false_ne_true (H.d13 h).2.2.2.2.2.2.2.2.2.2.1
                obtain rfl : tb14 = false := Bool.eq_false_iff.2 fun h => Bool.false_ne_true (H.d14 h).2.2.2.2.2.2.2.2.2.2.1
                have hbe := H.be rfl
                have hx_t5 := H.t5
                have hx_t6 := H.t6
                obtain rfl := H.h0 rfl
                obtain rfl := H.h1 rfl
                obtain rfl := H.h2 rfl
                obtain rfl := H.h3 rfl
                have P4 := H.h4 rfl rfl
                obtain rfl := H.h5 rfl
                obtain rfl := H.h6 rfl
                obtain rfl := H.h7 rfl
                obtain rfl := H.h8 rfl
                have P9 := H.h9 rfl rfl
                have PT := Lib.hid P9
                have TT := Lib.hid (H.t5 rfl)
                clear P9
                refine wpOp_step ho (fun K' hK => ?_)
                have HK := Lib.hid hK
                clear hK ho
                go_simp
                exact HK.out _ _ ⟨_, _, _, _, _, _, _, _, _, _, _, _, _, _, _, _, _, _, _, _, _, _, _, _, _, _, _, _, tx13, _, rfl, rfl, ⟨(fun _ => hbe), H.d2, H.d3, H.d4, H.d6, H.d7, H.d8, H.d9, (fun _ => rfl), (fun h => by cases h), (fun h => by cases h), (fun h => by cases h), (fun h => by cases h), H.t5, fun _ => TT.out, H.h0, H.h1, H.h2, H.h3, H.h4, H.h5, H.h6, H.h7, H.h8, H.h9, (fun _ _ => PT.out), (fun h => by cases h), H.h12, (fun h => by cases h), H.h14⟩⟩
              · have ho := hoj
                simp only [List.getElem?_toArray, List.getElem?_cons_succ, List.getElem?_cons_zero, Option.some.injEq] at hoj
                subst hoj
                obtain rfl : tb11 = false := hun
                obtain rfl : tb10 = true := hall ⟨10, .data⟩ (by simp) (by kernel_rfl)
                obtain rfl : tb9 = true := (H.d10 rfl)
                obtain rfl : tb0 = true := (H.d9 rfl).1
                obtain rfl : tb4 = true := (H.d9 rfl).2.1
                obtain rfl : tb7 = true := (H.d9 rfl).2.2.1
                obtain rfl : tb8 = true := (H.d9 rfl).2.2.2
                obtain rfl : tb3 = true := (H.d4 rfl)
                obtain rfl : tb6 = true := (H.d7 rfl).2
                obtain rfl : tb2 = true := (H.d3 rfl)
                obtain rfl : tb5 = true := (H.d6 rfl)
                obtain rfl : tb1 = true := (H.d2 rfl)
                clear hall
                obtain rfl : tb13 = false := Bool.eq_false_iff.2 fun h => Bool.false_ne_true (H.d13 h).2.2.2.2.2.2.2.2.2.2.2
                obtain rfl : tb14 = false := Bool.eq_false_iff.2 fun h => Bool.false_ne_true (H.d14 h).2.2.2.2.2.2.2.2.2.2.2.1
                have hbe := H.be rfl
                have hx_t5 := H.t5
                have hx_t6 := H.t6
                obtain rfl := H.h0 rfl
                obtain rfl := H.h1 rfl
                obtain rfl := H.h2 rfl
                obtain rfl := H.h3 rfl
                have P4 := H.h4 rfl rfl
                obtain rfl := H.h5 rfl
                obtain rfl := H.h6 rfl
                obtain rfl := H.h7 rfl
                obtain rfl := H.h8 rfl
                have P9 := H.h9 rfl rfl
                have P10 := H.h10 rfl rfl
                obtain ⟨u, rfl, hu⟩ := P10
                have HU := Lib.hid hu
                clear hu
                refine wpOp_step ho (fun K' hK => ?_)
                have HK := Lib.hid hK
                clear hK ho
                go_simp
                exact HK.out _ _ ⟨_, _, _, _, _, _, _, _, _, _, _, _, _, _, _, _, _, _, _, _, _, _, _, _, _, _, _, _, tx13, _, rfl, rfl, ⟨(fun _ => hbe), H.d2, H.d3, H.d4, H.d6, H.d7, H.d8, H.d9, H.d10, (fun _ => rfl), H.d12, (fun h => by cases h), (fun h => by cases h), H.t5, H.t6, H.h0, H.h1, H.h2, H.h3, H.h4, H.h5, H.h6, H.h7, H.h8, H.h9, H.h10, (fun _ _ => HU.out), H.h12, (fun h => by cases h), H.h14⟩⟩
              · have ho := hoj
                simp only [List.getElem?_toArray, List.getElem?_cons_succ, List.getElem?_cons_zero, Option.some.injEq] at hoj
                subst hoj
                obtain rfl : tb12 = false := hun
                obtain rfl : tb10 = true := hall ⟨10, .data⟩ (by simp) (by kernel_rfl)
                obtain rfl : tb9 = true := (H.d10 rfl)
                obtain rfl : tb0 = true := (H.d9 rfl).1
                obtain rfl : tb4 = true := (H.d9 rfl).2.1
                obtain rfl : tb7 = true := (H.d9 rfl).2.2.1
                obtain rfl : tb8 = true := (H.d9 rfl).2.2.2
                obtain rfl : tb3 = true := (H.d4 rfl)
                obtain rfl : tb6 = true := (H.d7 rfl).2
                obtain rfl : tb2 = true := (H.d3 rfl)
                obtain rfl : tb5 = true := (H.d6 rfl)
                obtain rfl : tb1 = true := (H.d2 rfl)
                clear hall
                obtain rfl : tb14 = false := Bool.eq_false_iff.2 fun h => Bool.false_ne_true (H.d14 h).2.2.2.2.2.2.2.2.2.2.2.2.1
                have hx_t5 := H.t5
                have hx_t6 := H.t6
                obtain rfl := H.h0 rfl
                obtain rfl := H.h1 rfl
                obtain rfl := H.h2 rfl
                obtain rfl := H.h3 rfl
                obtain rfl := H.h5 rfl
                obtain rfl := H.h6 rfl
                obtain rfl := H.h7 rfl
                obtain rfl := H.h8 rfl
                obtain ⟨u, rfl⟩ := H.t6 rfl
                refine wpOp_step ho (fun K' hK => ?_)
                have HK := Lib.hid hK
                clear hK ho
                go_simp
                exact HK.out _ _ ⟨_, _, _, _, _, _, _, _, _, _, _, _, _, _, _, _, _, _, _, _, _, _, _, _, _, _, _, _, tx13, _, rfl, rfl, ⟨H.be, H.d2, H.d3, H.d4, H.d6, H.d7, H.d8, H.d9, H.d10, H.d11, (fun _ => rfl), H.d13, (fun h => by cases h), H.t5, H.t6, H.h0, H.h1, H.h2, H.h3, H.h4, H.h5, H.h6, H.h7, H.h8, H.h9, H.h10, H.h11, (fun _ => rfl), H.h13, H.h14⟩⟩
              · have ho := hoj
                simp only [List.getElem?_toArray, List.getElem?_cons_succ, List.getElem?_cons_zero, Option.some.injEq] at hoj
                subst hoj
                obtain rfl : tb13 = false := hun
                obtain rfl : tb0 = true := hall ⟨0, .phase⟩ (by simp) (by kernel_rfl)
                obtain rfl : tb1 = true := hall ⟨1, .phase⟩ (by simp) (by kernel_rfl)
                obtain rfl : tb2 = true := hall ⟨2, .phase⟩ (by simp) (by kernel_rfl)
                obtain rfl : tb3 = true := hall ⟨3, .phase⟩ (by simp) (by kernel_rfl)
                obtain rfl : tb4 = true := hall ⟨4, .phase⟩ (by simp) (by kernel_rfl)
                obtain rfl : tb5 = true := hall ⟨5, .phase⟩ (by simp) (by kernel_rfl)
                obtain rfl : tb6 = true := hall ⟨6, .phase⟩ (by simp) (by kernel_rfl)
                obtain rfl : tb7 = true := hall ⟨7, .phase⟩ (by simp) (by kernel_rfl)
                obtain rfl : tb8 = true := hall ⟨8, .phase⟩ (by simp) (by kernel_rfl)
                obtain rfl : tb9 = true := hall ⟨9, .chain⟩ (by simp) (by kernel_rfl)
                obtain rfl : tb10 = true := hall ⟨10, .phase⟩ (by simp) (by kernel_rfl)
                obtain rfl : tb11 = true := hall ⟨11, .data⟩ (by simp) (by kernel_rfl)
                clear hall
                obtain rfl : tb14 = false := Bool.eq_false_iff.2 fun h => Bool.false_ne_true (H.d14 h).2.2.2.2.2.2.2.2.2.2.2.2.2
                have hbe := H.be rfl
                have hx_t5 := H.t5
                have hx_t6 := H.t6
                obtain rfl := H.h0 rfl
                obtain rfl := H.h1 rfl
                obtain rfl := H.h2 rfl
                obtain rfl := H.h3 rfl
                have P4 := H.h4 rfl rfl
                obtain rfl := H.h5 rfl
                obtain rfl := H.h6 rfl
                obtain rfl := H.h7 rfl
                obtain rfl := H.h8 rfl
                have P9 := H.h9 rfl rfl
                have P10 := H.h10 rfl rfl
                have P11 := H.h11 rfl rfl
                have hu := Lib.hid P11
                obtain ⟨Od, cOd, Ol, cOl, Oa, cOa, rfl⟩ := sn_slices P11.now
                have hM := (hbe.block _ (lt_of_block HM.out)).trans HM.out
                obtain ⟨k1, gp⟩ := bkS_put hM (.slice Od g2.data.length cOd) (.bool g2.fin) (.int .i64 g2.next) (.int .i64 g2.mx) (.slice Ol g2.lost.length cOl) (.slice Oa g2.acked.length cOa) (.bool g2.ended) (.bool g2.over)
                have KK := Lib.hid k1
                have NV := Lib.hid (hu.out.on (KpS.gr gp (lt_of_block HM.out)))
                have BV := Lib.hid (gr_from (BX.out.trans (hbe.mono BX.out.size)) (Nat.le_trans BX.out.size hbe.size) HXM.out gp)
                obtain ⟨q0, q1, q2, q3, q4, q5, q6, q7⟩ := bkS hM
                have qf := fun i => bk_frz hM i
                clear hM k1 gp hu
                refine wpOp_step ho (fun K' hK => ?_)
                have HK := Lib.hid hK
                clear hK ho
                go_simp
                exact HK.out _ _ ⟨_, _, _, _, _, _, _, _, _, _, _, _, _, _, _, _, _, _, _, _, _, _, _, _, _, _, _, _, tx13, _, rfl, rfl, ⟨(fun h => by cases h), H.d2, H.d3, H.d4, H.d6, H.d7, H.d8, H.d9, H.d10, H.d11, H.d12, (fun _ => ⟨rfl, rfl, rfl, rfl, rfl, rfl, rfl, rfl, rfl, rfl, rfl, rfl⟩), (fun h => by cases h), H.t5, H.t6, H.h0, H.h1, H.h2, H.h3, (fun _ h => by cases h), H.h5, H.h6, H.h7, H.h8, (fun _ h => by cases h), (fun _ h => by cases h), (fun _ h => by cases h), H.h12, (fun _ => ⟨_, _, _, _, _, _, KK.out, NV.out, BV.out⟩), H.h14⟩⟩
              · have ho := hoj
                simp only [List.getElem?_toArray, List.getElem?_cons_succ, List.getElem?_cons_zero, Option.some.injEq] at hoj
                subst hoj
                obtain rfl : tb14 = false := hun
                obtain rfl : tb0 = true := hall ⟨0, .phase⟩ (by simp) (by kernel_rfl)
                obtain rfl : tb1 = true := hall ⟨1, .phase⟩ (by simp) (by kernel_rfl)
                obtain rfl : tb2 = true := hall ⟨2, .phase⟩ (by simp) (by kernel_rfl)
                obtain rfl : tb3 = true := hall ⟨3, .phase⟩ (by simp) (by kernel_rfl)
                obtain rfl : tb4 = true := hall ⟨4, .phase⟩ (by simp) (by kernel_rfl)
                obtain rfl : tb5 = true := hall ⟨5, .phase⟩ (by simp) (by kernel_rfl)
                obtain rfl : tb6 = true := hall ⟨6, .phase⟩ (by simp) (by kernel_rfl)
                obtain rfl : tb7 = true := hall ⟨7, .phase⟩ (by simp) (by kernel_rfl)
                obtain rfl : tb8 = true := hall ⟨8, .phase⟩ (by simp) (by kernel_rfl)
                obtain rfl : tb9 = true := hall ⟨9, .phase⟩ (by simp) (by kernel_rfl)
                obtain rfl : tb10 = true := hall ⟨10, .phase⟩ (by simp) (by kernel_rfl)
                obtain rfl : tb11 = true := hall ⟨11, .phase⟩ (by simp) (by kernel_rfl)
                obtain rfl : tb12 = true := hall ⟨12, .data⟩ (by simp) (by kernel_rfl)
                obtain rfl : tb13 = true := hall ⟨13, .chain⟩ (by simp) (by kernel_rfl)
                clear hall
                have hx_t5 := H.t5
                have hx_t6 := H.t6
                obtain rfl := H.h0 rfl
                obtain rfl := H.h1 rfl
                obtain rfl := H.h2 rfl
                obtain rfl := H.h3 rfl
                obtain rfl := H.h5 rfl
                obtain rfl := H.h6 rfl
                obtain rfl := H.h7 rfl
                obtain rfl := H.h8 rfl
                obtain rfl := H.h12 rfl
                have P13 := H.h13 rfl
                refine wpOp_step ho (fun K' hK => ?_)
                have HK := Lib.hid hK
                clear hK ho
                go_simp
                exact HK.out _ _ ⟨_, _, _, _, _, _, _, _, _, _, _, _, _, _, _, _, _, _, _, _, _, _, _, _, _, _, _, _, tx13, _, rfl, rfl, ⟨(fun h => by cases h), H.d2, H.d3, H.d4, H.d6, H.d7, H.d8, H.d9, H.d10, H.d11, H.d12, H.d13, (fun _ => ⟨rfl, rfl, rfl, rfl, rfl, rfl, rfl, rfl, rfl, rfl, rfl, rfl, rfl, rfl⟩), H.t5, H.t6, H.h0, H.h1, H.h2, H.h3, (fun _ h => by cases h), H.h5, H.h6, H.h7, H.h8, (fun _ h => by cases h), (fun _ h => by cases h), (fun _ h => by cases h), H.h12, H.h13, (fun _ => rfl)⟩⟩
              · have ho := hoj
                simp at ho
            case hfin =>
              rintro listed a w ⟨tb0, tb1, tb2, tb3, tb4, tb5, tb6, tb7, tb8, tb9, tb10, tb11, tb12, tb13, tb14, tx0, tx1, tx2, tx3, tx4, tx5, tx6, tx7, tx8, tx9, tx10, tx11, tx12, tx13, tx14, rfl, rfl, H⟩ hr
              have hb : tb14 = true := by
                clear H
                obtain rfl : tb0 = true := by
                  cases tb0
                  · exact absurd hr (ready_ne (by kernel_rfl))
                  · rfl
                obtain rfl : tb1 = true := by
                  cases tb1
                  · exact absurd hr (ready_ne (by kernel_rfl))
                  · rfl
                obtain rfl : tb2 = true := by
                  cases tb2
                  · exact absurd hr (ready_ne (by kernel_rfl))
                  · rfl
                obtain rfl : tb3 = true := by
                  cases tb3
                  · exact absurd hr (ready_ne (by kernel_rfl))
                  · rfl
                obtain rfl : tb4 = true := by
                  cases tb4
                  · exact absurd hr (ready_ne (by kernel_rfl))
                  · rfl
                obtain rfl : tb5 = true := by
                  cases tb5
                  · exact absurd hr (ready_ne (by kernel_rfl))
                  · rfl
                obtain rfl : tb6 = true := by
                  cases tb6
                  · exact absurd hr (ready_ne (by kernel_rfl))
                  · rfl
                obtain rfl : tb7 = true := by
                  cases tb7
                  · exact absurd hr (ready_ne (by kernel_rfl))
                  · rfl
                obtain rfl : tb8 = true := by
                  cases tb8
                  · exact absurd hr (ready_ne (by kernel_rfl))
                  · rfl
                obtain rfl : tb9 = true := by
                  cases tb9
                  · exact absurd hr (ready_ne (by kernel_rfl))
                  · rfl
                obtain rfl : tb10 = true := by
                  cases tb10
                  · exact absurd hr (ready_ne (by kernel_rfl))
                  · rfl
                obtain rfl : tb11 = true := by
                  cases tb11
                  · exact absurd hr (ready_ne (by kernel_rfl))
                  · rfl
                obtain rfl : tb12 = true := by
                  cases tb12
                  · exact absurd hr (ready_ne (by kernel_rfl))
                  · rfl
                obtain rfl : tb13 = true := by
                  cases tb13
                  · exact absurd hr (ready_ne (by kernel_rfl))
                  · rfl
                obtain rfl : tb14 = true := by
                  cases tb14
                  · exact absurd hr (ready_ne (by kernel_rfl))
                  · rfl
                rfl
              subst hb
              clear hr
              obtain rfl : tb0 = true := (H.d14 rfl).1
              obtain rfl : tb1 = true := (H.d14 rfl).2.1
              obtain rfl : tb2 = true := (H.d14 rfl).2.2.1
              obtain rfl : tb3 = true := (H.d14 rfl).2.2.2.1
              obtain rfl : tb4 = true := (H.d14 rfl).2.2.2.2.1
              obtain rfl : tb5 = true := (H.d14 rfl).2.2.2.2.2.1
              obtain rfl : tb6 = true := (H.d14 rfl).2.2.2.2.2.2.1
              obtain rfl : tb7 = true := (H.d14 rfl).2.2.2.2.2.2.2.1
              obtain rfl : tb8 = true := (H.d14 rfl).2.2.2.2.2.2.2.2.1
              obtain rfl : tb9 = true := (H.d14 rfl).2.2.2.2.2.2.2.2.2.1
              obtain rfl : tb10 = true := (H.d14 rfl).2.2.2.2.2.2.2.2.2.2.1
              obtain rfl : tb11 = true := (H.d14 rfl).2.2.2.2.2.2.2.2.2.2.2.1
              obtain rfl : tb12 = true := (H.d14 rfl).2.2.2.2.2.2.2.2.2.2.2.2.1
              obtain rfl : tb13 = true := (H.d14 rfl).2.2.2.2.2.2.2.2.2.2.2.2.2
              obtain ⟨Od, cOd, Ol, cOl, Oa, cOa, hn1, hn2, hnb⟩ := H.h13 rfl
              have e10 := H.h14 rfl
              have HN1 := Lib.hid hn1
              have HN2 := Lib.hid hn2
              have HNB := Lib.hid hnb
              clear H hn1 hn2 hnb
              obtain ⟨Z, hZ⟩ : ∃ Y, Y = w := ⟨_, rfl⟩
              subst w
              subst e10
              go_wp2_with fail
              go_meet
              refine ⟨ec, g2, Od, Ol, Oa, cOd, cOl, cOa, cs, rfl, by omega, Lib.hid (G6.out.on HNB.out), Lib.hid ⟨HN1.out, HN2.out.anti fun j hj => ?_⟩, Lib.hid ?_⟩
              · rcases hj with hj | hj
                · exact Nat.lt_of_lt_of_le hj BX.out.size
                · exact Nat.lt_of_lt_of_le (SVG.out j hj) BX.out.size
              · rcases HGW.out with h | ⟨h1, h2, h3, h4⟩
                · exact .inr ⟨h, TK.out⟩
                · exact .inl ⟨h1, h2, (by have := GK.out.mx; have h4' : g2.mx = s.mx := h4; omega), TK.out.grew h3⟩
          · have gk0 : (K == 0) = false := by simp [k0]
            by_cases k3 : K < 3
            · clear k0
              have gk3 : decide (K < 3) = true := by simp [k3]
              obtain ⟨pa, hpa⟩ : ∃ a, ra % 50 = a := ⟨_, rfl⟩
              have HP1 := Lib.hid (fun w => hpa ▸ picked_any ra 50 (by decide) (by decide) w)
              obtain ⟨pb, hpb⟩ : ∃ a, rb % 50 = a := ⟨_, rfl⟩
              have HP2 := Lib.hid (fun w => hpb ▸ picked_any rb 50 (by decide) (by decide) w)
              have hgw := good_pc GK.out.ok (room := pa) (credit := pb) (by omega)
              obtain ⟨⟨g2, f2, ob, ec⟩, hg2⟩ : ∃ p, pieceS s pa pb = p := ⟨_, rfl⟩
              rw [hg2] at hgw
              dsimp only at hgw
              obtain ⟨hec, hgw⟩ := hgw
              subst hec
              have HGE2 := Lib.hid hg2
              have HGW := Lib.hid hgw
              have FZ := Lib.hid (heap_alloc_new Y (.cells #[.int .i64 0, .int .i64 0, .int .i64 0, .bool false, .int .i64 0, .slice none 0 0, .slice none 0 0] 35))
              have FB := Lib.hid ((Below.refl Y.heap.size Y).alloc (Nat.le_refl _) (.cells #[.int .i64 0, .int .i64 0, .int .i64 0, .bool false, .int .i64 0, .slice none 0 0, .slice none 0 0] 35))
              clear hpa hpb hg2 hgw
              go_upto_region 13 with fail
              obtain ⟨Y1, hY1⟩ : ∃ w, Y.alloc (.cells #[.int .i64 0, .int .i64 0, .int .i64 0, .bool false, .int .i64 0, .slice none 0 0, .slice none 0 0] 35) = w := ⟨_, rfl⟩
              obtain ⟨F, hF⟩ : ∃ F, Y.heap.size = F := ⟨_, rfl⟩
              rw [hY1] at FZ FB
              rw [hF] at FZ
              try rw [hY1]
              try rw [hF]
              have HFM := Lib.hid (show M ≠ F by have := lt_of_block HM.out; omega)
              have HFM2 := Lib.hid (show (some F : Option Nat) ≠ some M by have := lt_of_block HM.out; intro e; injection e; omega)
              have HXF := Lib.hid (show X.heap.size ≤ F by have := BX.out.size; omega)
              have BX' := Lib.hid (BX.out.trans (FB.out.mono BX.out.size))
              have HM' := Lib.hid ((FB.out.block _ (lt_of_block HM.out)).trans HM.out)
              have G7' := Lib.hid (G7.out.on FB.out)
              have R7' := Lib.hid ((FB.out.block _ (lt_of_block R7.out)).trans R7.out)
              clear hY1 hF BX HM G7 R7 NX7 B7 N7 NV7 FB
              obtain ⟨Y0, hY0⟩ : ∃ Y0, Y0 = Y := ⟨_, rfl⟩
              subst Y
              obtain ⟨Y, hY⟩ : ∃ Y, Y = Y1 := ⟨_, rfl⟩
              subst Y1
              have BX := BX'
              have HM := HM'
              have G7 := G7'
              have R7 := R7'
              have HF := FZ
              clear BX' HM' G7' R7' FZ
              refine wp_region_inv (fun lis_ act_ wld_ => ∃ (ub0 ub1 ub2 ub3 ub4 ub5 ub6 ub7 ub8 ub9 ub10 ub11 ub12 ub13 ub14 ub15 ub16 : Bool) (ux0 ux1 ux2 ux3 ux4 ux5 ux6 ux7 ux8 ux9 ux10 ux11 ux12 ux13 ux14 ux15 ux16 : Value), lis_ = #[ub0, ub1, ub2, ub3, ub4, ub5, ub6, ub7, ub8, ub9, ub10, ub11, ub12, ub13, ub14, ub15, ub16] ∧ act_ = { tmps := #[Value.slice (some { block := b, off := off }) len cap, undef, u2, Value.pointer (some { block := W.heap.size, off := 0 }), sv, undef, Value.pointer (some { block := R, off := 0 }), Value.pointer (some { block := M, off := 0 }), ux16, Value.int IntKind.i64 K, Value.pointer (some { block := F, off := 0 }), ux15, u12, undef, undef, Value.slice (some { block := b, off := off }) len cap, Value.slice (some { block := b, off := off }) N cap, Value.int IntKind.i64 ↑N, Value.int IntKind.i64 ↑kk, Value.bool true, Value.pointer (some { block := b, off := off + kk * 4 }), Value.agg #[Value.int IntKind.i64 kd, Value.int IntKind.i64 ra, Value.int IntKind.i64 rb, Value.string rt], sx5, sx0, sx1, sx2, sx3, sx4, sx6, sx7, u30, u31, u32, Value.bool false, Value.int IntKind.i64 K, Value.bool false, u36, u37, u38, u39, u40, u41, u42, u43, u44, u45, u46, u47, u48, Value.bool true, Value.int IntKind.i64 K, Value.bool true, ux8, ux0, ux1, ux2, ux3, ux4, ux5, ux6, ux7, ux9, ux10, ux11, ux12, u65, u66, u67, u68, u69, u70, u71, u72, u73, u74, u75, u76, u77, u78, u79, u80, u81, u82, u83, u84, u85, u86, u87, u88, u89, u90, u91, u92, u93, u94, u95, u96, u97, u98, u99, u100, u101, u102, u103, u104, u105, u106, u107, u108, u109, u110, u111, u112, u113, u114, u115, u116, u117, u118, u119, u120, u121, u122, u123, u124, u125, u126, u127, u128, u129, u130, u131, u132, u133, u134, u135, u136, u137, u138, u139, u140, u141, u142, u143, u144, u145, undef, undef, undef, undef, undef, undef, undef, undef, undef, undef, undef, undef], defers := [] } ∧ SgC Y X Ad Al Aa cAd cAl cAa s g2 f2 R M F ra rb pa pb ob (.agg #[.slice Ad s.data.length cAd, .bool s.fin, .int .i64 s.next, .int .i64 s.mx, .slice Al s.lost.length cAl, .slice Aa s.acked.length cAa, .bool s.ended, .bool s.over]) (.pointer (some ⟨R, 1, none⟩)) (.int .i64 ra) (.int .i64 pa) (.pointer (some ⟨R, 2, none⟩)) (.int .i64 rb) (.int .i64 pb) (.bool ob) (.int .i64 0) (.bool ob) (.int .i64 0) ub0 ub1 ub2 ub3 ub4 ub5 ub6 ub7 ub8 ub9 ub10 ub11 ub12 ub13 ub14 ub15 ub16 ux0 ux1 ux2 ux3 ux4 ux5 ux6 ux7 ux8 ux9 ux10 ux11 ux12 ux13 ux14 ux15 ux16 wld_) (by kernel_rfl) ?h0 ?hfin ?hI
              case h0 => exact ⟨_, _, _, _, _, _, _, _, _, _, _, _, _, _, _, _, _, _, _, _, _, _, _, _, _, _, _, _, _, _, undef, undef, _, _, rfl, rfl, ⟨(fun _ => (Below.refl _ _).drew), (fun h => by cases h), (fun h => by cases h), (fun h => by cases h), (fun h => by cases h), (fun h => by cases h), (fun h => by cases h), (fun h => by cases h), (fun h => by cases h), (fun h => by cases h), (fun h => by cases h), (fun h => by cases h), (fun h => by cases h), (fun h => by cases h), (fun h => by cases h), (fun h => by cases h), (fun h => by cases h), (fun h => by cases h), (fun h => by cases h), (fun h => by cases h), (fun h => by cases h), (fun h => by cases h), (fun h => by cases h), (fun h => by cases h), (fun h => by cases h), (fun h => by cases h), (fun h => by cases h), (fun h => by cases h), (fun h => by cases h), (fun h => by cases h), (fun h => by cases h), (fun h => by cases h), (fun h => by cases h), (fun h => by cases h)⟩⟩
              case hI =>
                rintro listed a w ⟨ub0, ub1, ub2, ub3, ub4, ub5, ub6, ub7, ub8, ub9, ub10, ub11, ub12, ub13, ub14, ub15, ub16, ux0, ux1, ux2, ux3, ux4, ux5, ux6, ux7, ux8, ux9, ux10, ux11, ux12, ux13, ux14, ux15, ux16, rfl, rfl, H⟩ i hi
                obtain ⟨hun, oj, hoj, hall⟩ := mem_ready.1 hi
                clear hi
                rcases i with _ | _ | _ | _ | _ | _ | _ | _ | _ | _ | _ | _ | _ | _ | _ | _ | _ | i
                · have ho := hoj
                  simp only [List.getElem?_toArray, List.getElem?_cons_zero, Option.some.injEq] at hoj
                  subst hoj
                  obtain rfl : ub0 = false := hun
                  clear hall
                  obtain rfl : ub7 = false := Bool.eq_false_iff.2 fun h => Bool.false_ne_true (H.d7 h).1
                  obtain rfl : ub8 = false := Bool.eq_false_iff.2 fun h => Bool.false_ne_true (H.d8 h)
                  obtain rfl : ub9 = false := Bool.eq_false_iff.2 fun h => Bool.false_ne_true (H.d9 h)
                  obtain rfl : ub10 = false := Bool.eq_false_iff.2 fun h => Bool.false_ne_true (H.d10 h)
                  obtain rfl : ub11 = false := Bool.eq_false_iff.2 fun h => Bool.false_ne_true (H.d11 h)
                  obtain rfl : ub12 = false := Bool.eq_false_iff.2 fun h => Bool.false_ne_true (H.d12 h)
                  obtain rfl : ub13 = false := Bool.eq_false_iff.2 fun h => Bool.false_ne_true (H.d13 h).1
                  obtain rfl : ub14 = false := Bool.eq_false_iff.2 fun h => Bool.false_ne_true (H.d14 h).1
                  obtain rfl : ub15 = false := Bool.eq_false_iff.2 fun h => Bool.false_ne_true (H.d15 h).1
                  obtain rfl : ub16 = false := Bool.eq_false_iff.2 fun h => Bool.false_ne_true (H.d16 h).1
                  have hbe := H.be rfl
                  have hx_t5 := H.t5
                  have hx_t6 := H.t6
                  obtain ⟨q0, q1, q2, q3, q4, q5, q6, q7⟩ := bkS ((hbe.block _ (lt_of_block G7.out.blk)).trans G7.out.blk)
                  refine wpOp_step ho (fun K' hK => ?_)
                  have HK := Lib.hid hK
                  clear hK ho
                  go_simp
                  exact HK.out _ _ ⟨_, _, _, _, _, _, _, _, _, _, _, _, _, _, _, _, _, _, _, _, _, _, _, _, _, _, _, _, _, _, ux13, ux14, _, _, rfl, rfl, ⟨(fun _ => hbe), H.d2, H.d3, H.d5, H.d6, (fun h => by cases h), H.d8, H.d9, H.d10, H.d11, H.d12, (fun h => by cases h), (fun h => by cases h), (fun h => by cases h), (fun h => by cases h), H.t5, H.t6, (fun _ => rfl), H.h1, H.h2, H.h3, H.h4, H.h5, H.h6, (fun h => by cases h), (fun h => by cases h), (fun h => by cases h), (fun h => by cases h), H.h11, H.h12, (fun h => by cases h), (fun h => by cases h), H.h15, H.h16⟩⟩
                · have ho := hoj
                  simp only [List.getElem?_toArray, List.getElem?_cons_succ, List.getElem?_cons_zero, Option.some.injEq] at hoj
                  subst hoj
                  obtain rfl : ub1 = false := hun
                  clear hall
                  obtain rfl : ub2 = false := Bool.eq_false_iff.2 fun h => Bool.false_ne_true (H.d2 h)
                  obtain rfl : ub3 = false := Bool.eq_false_iff.2 fun h => Bool.false_ne_true (H.d3 h)
                  obtain rfl : ub6 = false := Bool.eq_false_iff.2 fun h => Bool.false_ne_true (H.d6 h).1
                  obtain rfl : ub7 = false := Bool.eq_false_iff.2 fun h => Bool.false_ne_true (H.d7 h).2.1
                  obtain rfl : ub8 = false := Bool.eq_false_iff.2 fun h => Bool.false_ne_true (H.d8 h)
                  obtain rfl : ub9 = false := Bool.eq_false_iff.2 fun h => Bool.false_ne_true (H.d9 h)
                  obtain rfl : ub10 = false := Bool.eq_false_iff.2 fun h => Bool.false_ne_true (H.d10 h)
                  obtain rfl : ub11 = false := Bool.eq_false_iff.2 fun h => Bool.false_ne_true (H.d11 h)
                  obtain rfl : ub12 = false := Bool.eq_false_iff.2 fun h => Bool.false_ne_true (H.d12 h)
                  obtain rfl : ub13 = false := Bool.eq_false_iff.2 fun h => Bool.false_ne_true (H.d13 h).2.1
                  obtain rfl : ub14 = false := Bool.eq_false_iff.2 fun h => Bool.false_ne_true (H.d14 h).2.1
                  obtain rfl : ub15 = false := Bool.eq_false_iff.2 fun h => Bool.false_ne_true (H.d15 h).2.1
                  obtain rfl : ub16 = false := Bool.eq_false_iff.2 fun h => Bool.false_ne_true (H.d16 h).2.1
                  have hbe := H.be rfl
                  have hx_t5 := H.t5
                  have hx_t6 := H.t6
                  refine wpOp_step ho (fun K' hK => ?_)
                  have HK := Lib.hid hK
                  clear hK ho
                  go_simp
                  exact HK.out _ _ ⟨_, _, _, _, _, _, _, _, _, _, _, _, _, _, _, _, _, _, _, _, _, _, _, _, _, _, _, _, _, _, ux13, ux14, _, _, rfl, rfl, ⟨(fun _ => hbe), (fun h => by cases h), H.d3, H.d5, H.d6, H.d7, H.d8, H.d9, H.d10, H.d11, H.d12, (fun h => by cases h), (fun h => by cases h), (fun h => by cases h), (fun h => by cases h), H.t5, H.t6, H.h0, (fun _ => rfl), H.h2, H.h3, H.h4, H.h5, H.h6, (fun h => by cases h), (fun h => by cases h), (fun h => by cases h), (fun h => by cases h), H.h11, H.h12, (fun h => by cases h), (fun h => by cases h), H.h15, H.h16⟩⟩
                · have ho := hoj
                  simp only [List.getElem?_toArray, List.getElem?_cons_succ, List.getElem?_cons_zero, Option.some.injEq] at hoj
                  subst hoj
                  obtain rfl : ub2 = false := hun
                  obtain rfl : ub1 = true := hall ⟨1, .data⟩ (by simp) (by kernel_rfl)
                  clear hall
                  obtain rfl : ub3 = false := Bool.eq_false_iff.2 fun h => Bool.false_ne_true (H.d3 h)
                  obtain rfl : ub6 = false := Bool.eq_false_iff.2 fun h => Bool.false_ne_true (H.d6 h).1
                  obtain rfl : ub7 = false := Bool.eq_false_iff.2 fun h => Bool.false_ne_true (H.d7 h).2.1
                  obtain rfl : ub8 = false := Bool.eq_false_iff.2 fun h => Bool.false_ne_true (H.d8 h)
                  obtain rfl : ub9 = false := Bool.eq_false_iff.2 fun h => Bool.false_ne_true (H.d9 h)
                  obtain rfl : ub10 = false := Bool.eq_false_iff.2 fun h => Bool.false_ne_true (H.d10 h)
                  obtain rfl : ub11 = false := Bool.eq_false_iff.2 fun h => Bool.false_ne_true (H.d11 h)
                  obtain rfl : ub12 = false := Bool.eq_false_iff.2 fun h => Bool.false_ne_true (H.d12 h)
                  obtain rfl : ub13 = false := Bool.eq_false_iff.2 fun h => Bool.false_ne_true (H.d13 h).2.2.1
                  obtain rfl : ub14 = false := Bool.eq_false_iff.2 fun h => Bool.false_ne_true (H.d14 h).2.2.1
                  obtain rfl : ub15 = false := Bool.eq_false_iff.2 fun h => Bool.false_ne_true (H.d15 h).2.2.1
                  obtain rfl : ub16 = false := Bool.eq_false_iff.2 fun h => Bool.false_ne_true (H.d16 h).2.2.1
                  have hbe := H.be rfl
                  have hx_t5 := H.t5
                  have hx_t6 := H.t6
                  obtain rfl := H.h1 rfl
                  obtain ⟨z0, z1, z2, z3⟩ := bk4r ((hbe.block _ (lt_of_block R7.out)).trans R7.out)
                  refine wpOp_step ho (fun K' hK => ?_)
                  have HK := Lib.hid hK
                  clear hK ho
                  go_simp
                  exact HK.out _ _ ⟨_, _, _, _, _, _, _, _, _, _, _, _, _, _, _, _, _, _, _, _, _, _, _, _, _, _, _, _, _, _, ux13, ux14, _, _, rfl, rfl, ⟨(fun _ => hbe), (fun _ => rfl), (fun h => by cases h), H.d5, H.d6, H.d7, H.d8, H.d9, H.d10, H.d11, H.d12, (fun h => by cases h), (fun h => by cases h), (fun h => by cases h), (fun h => by cases h), H.t5, H.t6, H.h0, H.h1, (fun _ => rfl), H.h3, H.h4, H.h5, H.h6, (fun h => by cases h), (fun h => by cases h), (fun h => by cases h), (fun h => by cases h), H.h11, H.h12, (fun h => by cases h), (fun h => by cases h), H.h15, H.h16⟩⟩
                · have ho := hoj
                  simp only [List.getElem?_toArray, List.getElem?_cons_succ, List.getElem?_cons_zero, Option.some.injEq] at hoj
                  subst hoj
                  obtain rfl : ub3 = false := hun
                  obtain rfl : ub2 = true := hall ⟨2, .data⟩ (by simp) (by kernel_rfl)
                  obtain rfl : ub1 = true := (H.d2 rfl)
                  clear hall
                  obtain rfl : ub6 = false := Bool.eq_false_iff.2 fun h => Bool.false_ne_true (H.d6 h).1
                  obtain rfl : ub7 = false := Bool.eq_false_iff.2 fun h => Bool.false_ne_true (H.d7 h).2.1
                  obtain rfl : ub8 = false := Bool.eq_false_iff.2 fun h => Bool.false_ne_true (H.d8 h)
                  obtain rfl : ub9 = false := Bool.eq_false_iff.2 fun h => Bool.false_ne_true (H.d9 h)
                  obtain rfl : ub10 = false := Bool.eq_false_iff.2 fun h => Bool.false_ne_true (H.d10 h)
                  obtain rfl : ub11 = false := Bool.eq_false_iff.2 fun h => Bool.false_ne_true (H.d11 h)
                  obtain rfl : ub12 = false := Bool.eq_false_iff.2 fun h => Bool.false_ne_true (H.d12 h)
                  obtain rfl : ub13 = false := Bool.eq_false_iff.2 fun h => Bool.false_ne_true (H.d13 h).2.2.2.1
                  obtain rfl : ub14 = false := Bool.eq_false_iff.2 fun h => Bool.false_ne_true (H.d14 h).2.2.2.1
                  obtain rfl : ub15 = false := Bool.eq_false_iff.2 fun h => Bool.false_ne_true (H.d15 h).2.2.2.1
                  obtain rfl : ub16 = false := Bool.eq_false_iff.2 fun h => Bool.false_ne_true (H.d16 h).2.2.2.1
                  have hbe := H.be rfl
                  have hx_t5 := H.t5
                  have hx_t6 := H.t6
                  obtain rfl := H.h1 rfl
                  obtain rfl := H.h2 rfl
                  refine wpOp_step ho (fun K' hK => ?_)
                  have HK := Lib.hid hK
                  clear hK ho
                  go_wp2_with (go_at_call 19; refine (HP1.out _).mono ?_; rintro e w' ⟨rfl, rfl⟩)
                  exact HK.out _ _ ⟨_, _, _, _, _, _, _, _, _, _, _, _, _, _, _, _, _, _, _, _, _, _, _, _, _, _, _, _, _, _, ux13, ux14, _, _, rfl, rfl, ⟨(fun _ => hbe), H.d2, (fun _ => rfl), H.d5, (fun h => by cases h), (fun h => by cases h), H.d8, H.d9, H.d10, H.d11, H.d12, (fun h => by cases h), (fun h => by cases h), (fun h => by cases h), (fun h => by cases h), H.t5, H.t6, H.h0, H.h1, H.h2, (fun _ => rfl), H.h4, H.h5, H.h6, (fun h => by cases h), (fun h => by cases h), (fun h => by cases h), (fun h => by cases h), H.h11, H.h12, (fun h => by cases h), (fun h => by cases h), H.h15, H.h16⟩⟩
                · have ho := hoj
                  simp only [List.getElem?_toArray, List.getElem?_cons_succ, List.getElem?_cons_zero, Option.some.injEq] at hoj
                  subst hoj
                  obtain rfl : ub4 = false := hun
                  clear hall
                  obtain rfl : ub5 = false := Bool.eq_false_iff.2 fun h => Bool.false_ne_true (H.d5 h)
                  obtain rfl : ub6 = false := Bool.eq_false_iff.2 fun h => Bool.false_ne_true (H.d6 h).2
                  obtain rfl : ub7 = false := Bool.eq_false_iff.2 fun h => Bool.false_ne_true (H.d7 h).2.2
                  obtain rfl : ub8 = false := Bool.eq_false_iff.2 fun h => Bool.false_ne_true (H.d8 h)
                  obtain rfl : ub9 = false := Bool.eq_false_iff.2 fun h => Bool.false_ne_true (H.d9 h)
                  obtain rfl : ub10 = false := Bool.eq_false_iff.2 fun h => Bool.false_ne_true (H.d10 h)
                  obtain rfl : ub11 = false := Bool.eq_false_iff.2 fun h => Bool.false_ne_true (H.d11 h)
                  obtain rfl : ub12 = false := Bool.eq_false_iff.2 fun h => Bool.false_ne_true (H.d12 h)
                  obtain rfl : ub13 = false := Bool.eq_false_iff.2 fun h => Bool.false_ne_true (H.d13 h).2.2.2.2.1
                  obtain rfl : ub14 = false := Bool.eq_false_iff.2 fun h => Bool.false_ne_true (H.d14 h).2.2.2.2.1
                  obtain rfl : ub15 = false := Bool.eq_false_iff.2 fun h => Bool.false_ne_true (H.d15 h).2.2.2.2.1
                  obtain rfl : ub16 = false := Bool.eq_false_iff.2 fun h => Bool.false_ne_true (H.d16 h).2.2.2.2.1
                  have hbe := H.be rfl
                  have hx_t5 := H.t5
                  have hx_t6 := H.t6
                  refine wpOp_step ho (fun K' hK => ?_)
                  have HK := Lib.hid hK
                  clear hK ho
                  go_simp
                  exact HK.out _ _ ⟨_, _, _, _, _, _, _, _, _, _, _, _, _, _, _, _, _, _, _, _, _, _, _, _, _, _, _, _, _, _, ux13, ux14, _, _, rfl, rfl, ⟨(fun _ => hbe), H.d2, H.d3, (fun h => by cases h), H.d6, H.d7, H.d8, H.d9, H.d10, H.d11, H.d12, (fun h => by cases h), (fun h => by cases h), (fun h => by cases h), (fun h => by cases h), H.t5, H.t6, H.h0, H.h1, H.h2, H.h3, (fun _ => rfl), H.h5, H.h6, (fun h => by cases h), (fun h => by cases h), (fun h => by cases h), (fun h => by cases h), H.h11, H.h12, (fun h => by cases h), (fun h => by cases h), H.h15, H.h16⟩⟩
                · have ho := hoj
                  simp only [List.getElem?_toArray, List.getElem?_cons_succ, List.getElem?_cons_zero, Option.some.injEq] at hoj
                  subst hoj
                  obtain rfl : ub5 = false := hun
                  obtain rfl : ub4 = true := hall ⟨4, .data⟩ (by simp) (by kernel_rfl)
                  clear hall
                  obtain rfl : ub6 = false := Bool.eq_false_iff.2 fun h => Bool.false_ne_true (H.d6 h).2
                  obtain rfl : ub7 = false := Bool.eq_false_iff.2 fun h => Bool.false_ne_true (H.d7 h).2.2
                  obtain rfl : ub8 = false := Bool.eq_false_iff.2 fun h => Bool.false_ne_true (H.d8 h)
                  obtain rfl : ub9 = false := Bool.eq_false_iff.2 fun h => Bool.false_ne_true (H.d9 h)
                  obtain rfl : ub10 = false := Bool.eq_false_iff.2 fun h => Bool.false_ne_true (H.d10 h)
                  obtain rfl : ub11 = false := Bool.eq_false_iff.2 fun h => Bool.false_ne_true (H.d11 h)
                  obtain rfl : ub12 = false := Bool.eq_false_iff.2 fun h => Bool.false_ne_true (H.d12 h)
                  obtain rfl : ub13 = false := Bool.eq_false_iff.2 fun h => Bool.false_ne_true (H.d13 h).2.2.2.2.2.1
                  obtain rfl : ub14 = false := Bool.eq_false_iff.2 fun h => Bool.false_ne_true (H.d14 h).2.2.2.2.2.1
                  obtain rfl : ub15 = false := Bool.eq_false_iff.2 fun h => Bool.false_ne_true (H.d15 h).2.2.2.2.2.1
                  obtain rfl : ub16 = false := Bool.eq_false_iff.2 fun h => Bool.false_ne_true (H.d16 h).2.2.2.2.2.1
                  have hbe := H.be rfl
                  have hx_t5 := H.t5
                  have hx_t6 := H.t6
                  obtain rfl := H.h4 rfl
                  obtain ⟨z0, z1, z2, z3⟩ := bk4r ((hbe.block _ (lt_of_block R7.out)).trans R7.out)
                  refine wpOp_step ho (fun K' hK => ?_)
                  have HK := Lib.hid hK
                  clear hK ho
                  go_simp
                  exact HK.out _ _ ⟨_, _, _, _, _, _, _, _, _, _, _, _, _, _, _, _, _, _, _, _, _, _, _, _, _, _, _, _, _, _, ux13, ux14, _, _, rfl, rfl, ⟨(fun _ => hbe), H.d2, H.d3, (fun _ => rfl), (fun h => by cases h), H.d7, H.d8, H.d9, H.d10, H.d11, H.d12, (fun h => by cases h), (fun h => by cases h), (fun h => by cases h), (fun h => by cases h), H.t5, H.t6, H.h0, H.h1, H.h2, H.h3, H.h4, (fun _ => rfl), H.h6, (fun h => by cases h), (fun h => by cases h), (fun h => by cases h), (fun h => by cases h), H.h11, H.h12, (fun h => by cases h), (fun h => by cases h), H.h15, H.h16⟩⟩
                · have ho := hoj
                  simp only [List.getElem?_toArray, List.getElem?_cons_succ, List.getElem?_cons_zero, Option.some.injEq] at hoj
                  subst hoj
                  obtain rfl : ub6 = false := hun
                  obtain rfl : ub3 = true := hall ⟨3, .chain⟩ (by simp) (by kernel_rfl)
                  obtain rfl : ub5 = true := hall ⟨5, .data⟩ (by simp) (by kernel_rfl)
                  obtain rfl : ub2 = true := (H.d3 rfl)
                  obtain rfl : ub4 = true := (H.d5 rfl)
                  obtain rfl : ub1 = true := (H.d2 rfl)
                  clear hall
                  obtain rfl : ub7 = false := Bool.eq_false_iff.2 fun h => Bool.false_ne_true (H.d7 h).2.2
                  obtain rfl : ub8 = false := Bool.eq_false_iff.2 fun h => Bool.false_ne_true (H.d8 h)
                  obtain rfl : ub9 = false := Bool.eq_false_iff.2 fun h => Bool.false_ne_true (H.d9 h)
                  obtain rfl : ub10 = false := Bool.eq_false_iff.2 fun h => Bool.false_ne_true (H.d10 h)
                  obtain rfl : ub11 = false := Bool.eq_false_iff.2 fun h => Bool.false_ne_true (H.d11 h)
                  obtain rfl : ub12 = false := Bool.eq_false_iff.2 fun h => Bool.false_ne_true (H.d12 h)
                  obtain rfl : ub13 = false := Bool.eq_false_iff.2 fun h => Bool.false_ne_true (H.d13 h).2.2.2.2.2.2.1
                  obtain rfl : ub14 = false := Bool.eq_false_iff.2 fun h => Bool.false_ne_true (H.d14 h).2.2.2.2.2.2.1
                  obtain rfl : ub15 = false := Bool.eq_false_iff.2 fun h => Bool.false_ne_true (H.d15 h).2.2.2.2.2.2.1
                  obtain rfl : ub16 = false := Bool.eq_false_iff.2 fun h => Bool.false_ne_true (H.d16 h).2.2.2.2.2.2.1
                  have hbe := H.be rfl
                  have hx_t5 := H.t5
                  have hx_t6 := H.t6
                  obtain rfl := H.h1 rfl
                  obtain rfl := H.h2 rfl
                  obtain rfl := H.h3 rfl
                  obtain rfl := H.h4 rfl
                  obtain rfl := H.h5 rfl
                  refine wpOp_step ho (fun K' hK => ?_)
                  have HK := Lib.hid hK
                  clear hK ho
                  go_wp2_with (go_at_call 19; refine (HP2.out _).mono ?_; rintro e w' ⟨rfl, rfl⟩)
                  exact HK.out _ _ ⟨_, _, _, _, _, _, _, _, _, _, _, _, _, _, _, _, _, _, _, _, _, _, _, _, _, _, _, _, _, _, ux13, ux14, _, _, rfl, rfl, ⟨(fun _ => hbe), H.d2, H.d3, H.d5, (fun _ => ⟨rfl, rfl⟩), (fun h => by cases h), H.d8, H.d9, H.d10, H.d11, H.d12, (fun h => by cases h), (fun h => by cases h), (fun h => by cases h), (fun h => by cases h), H.t5, H.t6, H.h0, H.h1, H.h2, H.h3, H.h4, H.h5, (fun _ => rfl), (fun h => by cases h), (fun h => by cases h), (fun h => by cases h), (fun h => by cases h), H.h11, H.h12, (fun h => by cases h), (fun h => by cases h), H.h15, H.h16⟩⟩
                · have ho := hoj
                  simp only [List.getElem?_toArray, List.getElem?_cons_succ, List.getElem?_cons_zero, Option.some.injEq] at hoj
                  subst hoj
                  obtain rfl : ub7 = false := hun
                  obtain rfl : ub0 = true := hall ⟨0, .data⟩ (by simp) (by kernel_rfl)
                  obtain rfl : ub3 = true := hall ⟨3, .data⟩ (by simp) (by kernel_rfl)
                  obtain rfl : ub6 = true := hall ⟨6, .data⟩ (by simp) (by kernel_rfl)
                  obtain rfl : ub2 = true := (H.d3 rfl)
                  obtain rfl : ub5 = true := (H.d6 rfl).2
                  obtain rfl : ub1 = true := (H.d2 rfl)
                  obtain rfl : ub4 = true := (H.d5 rfl)
                  clear hall
                  obtain rfl : ub8 = false := Bool.eq_false_iff.2 fun h => Bool.false_ne_true (H.d8 h)
                  obtain rfl : ub9 = false := Bool.eq_false_iff.2 fun h => Bool.false_ne_true (H.d9 h)
                  obtain rfl : ub10 = false := Bool.eq_false_iff.2 fun h => Bool.false_ne_true (H.d10 h)
                  obtain rfl : ub11 = false := Bool.eq_false_iff.2 fun h => Bool.false_ne_true (H.d11 h)
                  obtain rfl : ub12 = false := Bool.eq_false_iff.2 fun h => Bool.false_ne_true (H.d12 h)
                  obtain rfl : ub13 = false := Bool.eq_false_iff.2 fun h => Bool.false_ne_true (H.d13 h).2.2.2.2.2.2.2.1
                  obtain rfl : ub14 = false := Bool.eq_false_iff.2 fun h => Bool.false_ne_true (H.d14 h).2.2.2.2.2.2.2.1
                  obtain rfl : ub15 = false := Bool.eq_false_iff.2 fun h => Bool.false_ne_true (H.d15 h).2.2.2.2.2.2.2.1
                  obtain rfl : ub16 = false := Bool.eq_false_iff.2 fun h => Bool.false_ne_true (H.d16 h).2.2.2.2.2.2.2.1
                  have hbe := H.be rfl
                  have hx_t5 := H.t5
                  have hx_t6 := H.t6
                  obtain rfl := H.h0 rfl
                  obtain rfl := H.h1 rfl
                  obtain rfl := H.h2 rfl
                  obtain rfl := H.h3 rfl
                  obtain rfl := H.h4 rfl
                  obtain rfl := H.h5 rfl
                  obtain rfl := H.h6 rfl
                  refine wpOp_step ho (fun K' hK => ?_)
                  have HK := Lib.hid hK
                  clear hK ho
                  go_wp2_with fail
                  refine (snPiece_F _ s pa pb w (G7.out.on hbe).val.now (snwfG G7.out.ok G7.out.mx)).mono ?_
                  rintro e w1 hr
                  have BC := Lib.hid hr.be
                  obtain ⟨u1, t1, rfl, hu1, ht1⟩ := hr.ex
                  rw [HGE2.out] at hu1 ht1 ⊢
                  have UC := Lib.hid (show TupP Y w1 (.tuple #[u1, t1, .bool ob, .int .i64 0]) g2 f2 ob from ⟨_, _, rfl, hu1.toSt.anti (S' := fun j => j < Y.heap.size) (fun j hj => Nat.lt_of_lt_of_le hj hbe.size), ht1.toSt.anti (S' := fun j => j < Y.heap.size) (fun j hj => Nat.lt_of_lt_of_le hj hbe.size)⟩)
                  clear hr hu1 ht1
                  go_wp2_with fail
                  exact HK.out _ _ ⟨_, _, _, _, _, _, _, _, _, _, _, _, _, _, _, _, _, _, _, _, _, _, _, _, _, _, _, _, _, _, ux13, ux14, _, _, rfl, rfl, ⟨(fun _ => hbe.trans (BC.out.mono hbe.size)), H.d2, H.d3, H.d5, H.d6, (fun _ => ⟨rfl, rfl, rfl⟩), (fun h => by cases h), H.d9, H.d10, H.d11, H.d12, (fun h => by cases h), (fun h => by cases h), (fun h => by cases h), (fun h => by cases h), fun _ => ⟨_, _, rfl⟩, hx_t6, H.h0, H.h1, H.h2, H.h3, H.h4, H.h5, H.h6, (fun _ _ => UC.out), (fun h => by cases h), (fun h => by cases h), (fun h => by cases h), H.h11, H.h12, (fun h => by cases h), (fun h => by cases h), H.h15, H.h16⟩⟩
                · have ho := hoj
                  simp only [List.getElem?_toArray, List.getElem?_cons_succ, List.getElem?_cons_zero, Option.some.injEq] at hoj
                  subst hoj
                  obtain rfl : ub8 = false := hun
                  obtain rfl : ub7 = true := hall ⟨7, .data⟩ (by simp) (by kernel_rfl)
                  obtain rfl : ub0 = true := (H.d7 rfl).1
                  obtain rfl : ub3 = true := (H.d7 rfl).2.1
                  obtain rfl : ub6 = true := (H.d7 rfl).2.2
                  obtain rfl : ub2 = true := (H.d3 rfl)
                  obtain rfl : ub5 = true := (H.d6 rfl).2
                  obtain rfl : ub1 = true := (H.d2 rfl)
                  obtain rfl : ub4 = true := (H.d5 rfl)
                  clear hall
                  obtain rfl : ub9 = false := Bool.eq_false_iff.2 fun h => Bool.false_ne_true (H.d9 h)
                  obtain rfl : ub10 = false := Bool.eq_false_iff.2 fun h => Bool.false_ne_true (H.d10 h)
                  obtain rfl : ub11 = false := Bool.eq_false_iff.2 fun h => Bool.false_ne_true (H.d11 h)
                  obtain rfl : ub12 = false := Bool.eq_false_iff.2 fun h => Bool.false_ne_true (H.d12 h)
                  obtain rfl : ub13 = false := Bool.eq_false_iff.2 fun h => Bool.false_ne_true (H.d13 h).2.2.2.2.2.2.2.2.1
                  obtain rfl : ub14 = false := Bool.eq_false_iff.2 fun h => Bool.false_ne_true (H.d14 h).2.2.2.2.2.2.2.2.1
                  obtain rfl : ub15 = false := Bool.eq_false_iff.2 fun h => Bool.false_ne_true (H.d15 h).2.2.2.2.2.2.2.2.1
                  obtain rfl : ub16 = false := Bool.eq_false_iff.2 fun h => Bool.false_ne_true (H.d16 h).2.2.2.2.2.2.2.2.1
                  have hbe := H.be rfl
                  have hx_t5 := H.t5
                  have hx_t6 := H.t6
                  obtain rfl := H.h0 rfl
                  obtain rfl := H.h1 rfl
                  obtain rfl := H.h2 rfl
                  obtain rfl := H.h3 rfl
                  obtain rfl := H.h4 rfl
                  obtain rfl := H.h5 rfl
                  obtain rfl := H.h6 rfl
                  have P7 := H.h7 rfl rfl
                  have PT := Lib.hid P7
                  have TT := Lib.hid (H.t5 rfl)
                  clear P7
                  refine wpOp_step ho (fun K' hK => ?_)
                  have HK := Lib.hid hK
                  clear hK ho
                  go_simp
                  exact HK.out _ _ ⟨_, _, _, _, _, _, _, _, _, _, _, _, _, _, _, _, _, _, _, _, _, _, _, _, _, _, _, _, _, _, ux13, ux14, _, _, rfl, rfl, ⟨(fun _ => hbe), H.d2, H.d3, H.d5, H.d6, H.d7, (fun _ => rfl), (fun h => by cases h), (fun h => by cases h), (fun h => by cases h), (fun h => by cases h), (fun h => by cases h), (fun h => by cases h), (fun h => by cases h), (fun h => by cases h), H.t5, fun _ => TT.out, H.h0, H.h1, H.h2, H.h3, H.h4, H.h5, H.h6, H.h7, (fun _ _ => PT.out), (fun h => by cases h), (fun h => by cases h), H.h11, H.h12, (fun h => by cases h), (fun h => by cases h), H.h15, H.h16⟩⟩
                · have ho := hoj
                  simp only [List.getElem?_toArray, List.getElem?_cons_succ, List.getElem?_cons_zero, Option.some.injEq] at hoj
                  subst hoj
                  obtain rfl : ub9 = false := hun
                  obtain rfl : ub8 = true := hall ⟨8, .data⟩ (by simp) (by kernel_rfl)
                  obtain rfl : ub7 = true := (H.d8 rfl)
                  obtain rfl : ub0 = true := (H.d7 rfl).1
                  obtain rfl : ub3 = true := (H.d7 rfl).2.1
                  obtain rfl : ub6 = true := (H.d7 rfl).2.2
                  obtain rfl : ub2 = true := (H.d3 rfl)
                  obtain rfl : ub5 = true := (H.d6 rfl).2
                  obtain rfl : ub1 = true := (H.d2 rfl)
                  obtain rfl : ub4 = true := (H.d5 rfl)
                  clear hall
                  obtain rfl : ub13 = false := Bool.eq_false_iff.2 fun h => Bool.false_ne_true (H.d13 h).2.2.2.2.2.2.2.2.2
                  obtain rfl : ub14 = false := Bool.eq_false_iff.2 fun h => Bool.false_ne_true (H.d14 h).2.2.2.2.2.2.2.2.2.1
                  obtain rfl : ub15 = false := Bool.eq_false_iff.2 fun h => Bool.false_ne_true (H.d15 h).2.2.2.2.2.2.2.2.2.1
                  obtain rfl : ub16 = false := Bool.eq_false_iff.2 fun h => Bool.false_ne_true (H.d16 h).2.2.2.2.2.2.2.2.2.1
                  have hbe := H.be rfl
                  have hx_t5 := H.t5
                  have hx_t6 := H.t6
                  obtain rfl := H.h0 rfl
                  obtain rfl := H.h1 rfl
                  obtain rfl := H.h2 rfl
                  obtain rfl := H.h3 rfl
                  obtain rfl := H.h4 rfl
                  obtain rfl := H.h5 rfl
                  obtain rfl := H.h6 rfl
                  have P7 := H.h7 rfl rfl
                  have P8 := H.h8 rfl rfl
                  obtain ⟨u, t, rfl, hu, ht⟩ := P8.ex
                  have HU := Lib.hid hu
                  clear hu ht
                  refine wpOp_step ho (fun K' hK => ?_)
                  have HK := Lib.hid hK
                  clear hK ho
                  go_simp
                  exact HK.out _ _ ⟨_, _, _, _, _, _, _, _, _, _, _, _, _, _, _, _, _, _, _, _, _, _, _, _, _, _, _, _, _, _, ux13, ux14, _, _, rfl, rfl, ⟨(fun _ => hbe), H.d2, H.d3, H.d5, H.d6, H.d7, H.d8, (fun _ => rfl), H.d10, H.d11, H.d12, (fun h => by cases h), (fun h => by cases h), (fun h => by cases h), (fun h => by cases h), H.t5, H.t6, H.h0, H.h1, H.h2, H.h3, H.h4, H.h5, H.h6, H.h7, H.h8, (fun _ _ => HU.out), H.h10, H.h11, H.h12, (fun h => by cases h), (fun h => by cases h), H.h15, H.h16⟩⟩
                · have ho := hoj
                  simp only [List.getElem?_toArray, List.getElem?_cons_succ, List.getElem?_cons_zero, Option.some.injEq] at hoj
                  subst hoj
                  obtain rfl : ub10 = false := hun
                  obtain rfl : ub8 = true := hall ⟨8, .data⟩ (by simp) (by kernel_rfl)
                  obtain rfl : ub7 = true := (H.d8 rfl)
                  obtain rfl : ub0 = true := (H.d7 rfl).1
                  obtain rfl : ub3 = true := (H.d7 rfl).2.1
                  obtain rfl : ub6 = true := (H.d7 rfl).2.2
                  obtain rfl : ub2 = true := (H.d3 rfl)
                  obtain rfl : ub5 = true := (H.d6 rfl).2
                  obtain rfl : ub1 = true := (H.d2 rfl)
                  obtain rfl : ub4 = true := (H.d5 rfl)
                  clear hall
                  obtain rfl : ub14 = false := Bool.eq_false_iff.2 fun h => Bool.false_ne_true (H.d14 h).2.2.2.2.2.2.2.2.2.2.1
                  obtain rfl : ub15 = false := Bool.eq_false_iff.2 fun h => Bool.false_ne_true (H.d15 h).2.2.2.2.2.2.2.2.2.2.1
                  obtain rfl : ub16 = false := Bool.eq_false_iff.2 fun h => Bool.false_ne_true (H.d16 h).2.2.2.2.2.2.2.2.2.2.1
                  have hx_t5 := H.t5
                  have hx_t6 := H.t6
                  obtain rfl := H.h0 rfl
                  obtain rfl := H.h1 rfl
                  obtain rfl := H.h2 rfl
                  obtain rfl := H.h3 rfl
                  obtain rfl := H.h4 rfl
                  obtain rfl := H.h5 rfl
                  obtain rfl := H.h6 rfl
                  have P7 := H.h7 rfl rfl
                  have P8 := H.h8 rfl rfl
                  obtain ⟨u, t, rfl, hu, ht⟩ := P8.ex
                  have HU := Lib.hid ht
                  clear hu ht
                  refine wpOp_step ho (fun K' hK => ?_)
                  have HK := Lib.hid hK
                  clear hK ho
                  go_simp
                  exact HK.out _ _ ⟨_, _, _, _, _, _, _, _, _, _, _, _, _, _, _, _, _, _, _, _, _, _, _, _, _, _, _, _, _, _, ux13, ux14, _, _, rfl, rfl, ⟨H.be, H.d2, H.d3, H.d5, H.d6, H.d7, H.d8, H.d9, (fun _ => rfl), H.d11, H.d12, H.d13, (fun h => by cases h), (fun h => by cases h), (fun h => by cases h), H.t5, H.t6, H.h0, H.h1, H.h2, H.h3, H.h4, H.h5, H.h6, H.h7, H.h8, H.h9, (fun _ _ => HU.out), H.h11, H.h12, H.h13, (fun h => by cases h), H.h15, H.h16⟩⟩
                · have ho := hoj
                  simp only [List.getElem?_toArray, List.getElem?_cons_succ, List.getElem?_cons_zero, Option.some.injEq] at hoj
                  subst hoj
                  obtain rfl : ub11 = false := hun
                  obtain rfl : ub8 = true := hall ⟨8, .data⟩ (by simp) (by kernel_rfl)
                  obtain rfl : ub7 = true := (H.d8 rfl)
                  obtain rfl : ub0 = true := (H.d7 rfl).1
                  obtain rfl : ub3 = true := (H.d7 rfl).2.1
                  obtain rfl : ub6 = true := (H.d7 rfl).2.2
                  obtain rfl : ub2 = true := (H.d3 rfl)
                  obtain rfl : ub5 = true := (H.d6 rfl).2
                  obtain rfl : ub1 = true := (H.d2 rfl)
                  obtain rfl : ub4 = true := (H.d5 rfl)
                  clear hall
                  obtain rfl : ub15 = false := Bool.eq_false_iff.2 fun h => Bool.false_ne_true (H.d15 h).2.2.2.2.2.2.2.2.2.2.2.1
                  obtain rfl : ub16 = false := Bool.eq_false_iff.2 fun h => Bool.false_ne_true (H.d16 h).2.2.2.2.2.2.2.2.2.2.2.1
                  have hx_t5 := H.t5
                  have hx_t6 := H.t6
                  obtain rfl := H.h0 rfl
                  obtain rfl := H.h1 rfl
                  obtain rfl := H.h2 rfl
                  obtain rfl := H.h3 rfl
                  obtain rfl := H.h4 rfl
                  obtain rfl := H.h5 rfl
                  obtain rfl := H.h6 rfl
                  obtain ⟨u, t, rfl⟩ := H.t6 rfl
                  refine wpOp_step ho (fun K' hK => ?_)
                  have HK := Lib.hid hK
                  clear hK ho
                  go_simp
                  exact HK.out _ _ ⟨_, _, _, _, _, _, _, _, _, _, _, _, _, _, _, _, _, _, _, _, _, _, _, _, _, _, _, _, _, _, ux13, ux14, _, _, rfl, rfl, ⟨H.be, H.d2, H.d3, H.d5, H.d6, H.d7, H.d8, H.d9, H.d10, (fun _ => rfl), H.d12, H.d13, H.d14, (fun h => by cases h), (fun h => by cases h), H.t5, H.t6, H.h0, H.h1, H.h2, H.h3, H.h4, H.h5, H.h6, H.h7, H.h8, H.h9, H.h10, (fun _ => rfl), H.h12, H.h13, H.h14, H.h15, H.h16⟩⟩
                · have ho := hoj
                  simp only [List.getElem?_toArray, List.getElem?_cons_succ, List.getElem?_cons_zero, Option.some.injEq] at hoj
                  subst hoj
                  obtain rfl : ub12 = false := hun
                  obtain rfl : ub8 = true := hall ⟨8, .data⟩ (by simp) (by kernel_rfl)
                  obtain rfl : ub7 = true := (H.d8 rfl)
                  obtain rfl : ub0 = true := (H.d7 rfl).1
                  obtain rfl : ub3 = true := (H.d7 rfl).2.1
                  obtain rfl : ub6 = true := (H.d7 rfl).2.2
                  obtain rfl : ub2 = true := (H.d3 rfl)
                  obtain rfl : ub5 = true := (H.d6 rfl).2
                  obtain rfl : ub1 = true := (H.d2 rfl)
                  obtain rfl : ub4 = true := (H.d5 rfl)
                  clear hall
                  obtain rfl : ub16 = false := Bool.eq_false_iff.2 fun h => Bool.false_ne_true (H.d16 h).2.2.2.2.2.2.2.2.2.2.2.2.1
                  have hx_t5 := H.t5
                  have hx_t6 := H.t6
                  obtain rfl := H.h0 rfl
                  obtain rfl := H.h1 rfl
                  obtain rfl := H.h2 rfl
                  obtain rfl := H.h3 rfl
                  obtain rfl := H.h4 rfl
                  obtain rfl := H.h5 rfl
                  obtain rfl := H.h6 rfl
                  obtain ⟨u, t, rfl⟩ := H.t6 rfl
                  refine wpOp_step ho (fun K' hK => ?_)
                  have HK := Lib.hid hK
                  clear hK ho
                  go_simp
                  exact HK.out _ _ ⟨_, _, _, _, _, _, _, _, _, _, _, _, _, _, _, _, _, _, _, _, _, _, _, _, _, _, _, _, _, _, ux13, ux14, _, _, rfl, rfl, ⟨H.be, H.d2, H.d3, H.d5, H.d6, H.d7, H.d8, H.d9, H.d10, H.d11, (fun _ => rfl), H.d13, H.d14, H.d15, (fun h => by cases h), H.t5, H.t6, H.h0, H.h1, H.h2, H.h3, H.h4, H.h5, H.h6, H.h7, H.h8, H.h9, H.h10, H.h11, (fun _ => rfl), H.h13, H.h14, H.h15, H.h16⟩⟩
                · have ho := hoj
                  simp only [List.getElem?_toArray, List.getElem?_cons_succ, List.getElem?_cons_zero, Option.some.injEq] at hoj
                  subst hoj
                  obtain rfl : ub13 = false := hun
                  obtain rfl : ub0 = true := hall ⟨0, .phase⟩ (by simp) (by kernel_rfl)
                  obtain rfl : ub1 = true := hall ⟨1, .phase⟩ (by simp) (by kernel_rfl)
                  obtain rfl : ub2 = true := hall ⟨2, .phase⟩ (by simp) (by kernel_rfl)
                  obtain rfl : ub3 = true := hall ⟨3, .phase⟩ (by simp) (by kernel_rfl)
                  obtain rfl : ub4 = true := hall ⟨4, .phase⟩ (by simp) (by kernel_rfl)
                  obtain rfl : ub5 = true := hall ⟨5, .phase⟩ (by simp) (by kernel_rfl)
                  obtain rfl : ub6 = true := hall ⟨6, .phase⟩ (by simp) (by kernel_rfl)
                  obtain rfl : ub7 = true := hall ⟨7, .chain⟩ (by simp) (by kernel_rfl)
                  obtain rfl : ub8 = true := hall ⟨8, .phase⟩ (by simp) (by kernel_rfl)
                  obtain rfl : ub9 = true := hall ⟨9, .data⟩ (by simp) (by kernel_rfl)
                  clear hall
                  obtain rfl : ub14 = false := Bool.eq_false_iff.2 fun h => Bool.false_ne_true (H.d14 h).2.2.2.2.2.2.2.2.2.2.2
                  obtain rfl : ub15 = false := Bool.eq_false_iff.2 fun h => Bool.false_ne_true (H.d15 h).2.2.2.2.2.2.2.2.2.2.2.2.1
                  obtain rfl : ub16 = false := Bool.eq_false_iff.2 fun h => Bool.false_ne_true (H.d16 h).2.2.2.2.2.2.2.2.2.2.2.2.2.1
                  have hbe := H.be rfl
                  have hx_t5 := H.t5
                  have hx_t6 := H.t6
                  obtain rfl := H.h0 rfl
                  obtain rfl := H.h1 rfl
                  obtain rfl := H.h2 rfl
                  obtain rfl := H.h3 rfl
                  obtain rfl := H.h4 rfl
                  obtain rfl := H.h5 rfl
                  obtain rfl := H.h6 rfl
                  have P7 := H.h7 rfl rfl
                  have P8 := H.h8 rfl rfl
                  have P9 := H.h9 rfl rfl
                  have hu := Lib.hid P9
                  obtain ⟨Od, cOd, Ol, cOl, Oa, cOa, rfl⟩ := sn_slices P9.now
                  have hM := (hbe.block _ (lt_of_block HM.out)).trans HM.out
                  obtain ⟨k1, gp⟩ := bkS_put hM (.slice Od g2.data.length cOd) (.bool g2.fin) (.int .i64 g2.next) (.int .i64 g2.mx) (.slice Ol g2.lost.length cOl) (.slice Oa g2.acked.length cOa) (.bool g2.ended) (.bool g2.over)
                  have HKP := Lib.hid (KpS.gr (S := fun j => j < Y.heap.size) gp (lt_of_block HM.out))
                  have PN := Lib.hid (show PutNF Y X _ M F g2 from ⟨⟨Od, cOd, Ol, cOl, Oa, cOa, k1, hu.out.kp HKP.out, gr_from (BX.out.trans (hbe.mono BX.out.size)) (Nat.le_trans BX.out.size hbe.size) HXM.out gp⟩, (gp.block F (Nat.lt_of_lt_of_le (lt_of_block HF.out) hbe.size) HFM2.out).trans ((hbe.block F (lt_of_block HF.out)).trans HF.out)⟩)
                  obtain ⟨q0, q1, q2, q3, q4, q5, q6, q7⟩ := bkS hM
                  have qf := fun i => bk_frz hM i
                  clear hM k1 gp hu
                  refine wpOp_step ho (fun K' hK => ?_)
                  have HK := Lib.hid hK
                  clear hK ho
                  go_simp
                  exact HK.out _ _ ⟨_, _, _, _, _, _, _, _, _, _, _, _, _, _, _, _, _, _, _, _, _, _, _, _, _, _, _, _, _, _, ux13, ux14, _, _, rfl, rfl, ⟨(fun h => by cases h), H.d2, H.d3, H.d5, H.d6, H.d7, H.d8, H.d9, H.d10, H.d11, H.d12, (fun _ => ⟨rfl, rfl, rfl, rfl, rfl, rfl, rfl, rfl, rfl, rfl⟩), (fun h => by cases h), (fun h => by cases h), (fun h => by cases h), H.t5, H.t6, H.h0, H.h1, H.h2, H.h3, H.h4, H.h5, H.h6, (fun e f => (H.h7 e f).kp HKP.out), (fun e f => (H.h8 e f).kp HKP.out), (fun _ h => by cases h), (fun e f => (H.h10 e f).kp HKP.out), H.h11, H.h12, (fun _ _ => PN.out), (fun h => by cases h), H.h15, H.h16⟩⟩
                · have ho := hoj
                  simp only [List.getElem?_toArray, List.getElem?_cons_succ, List.getElem?_cons_zero, Option.some.injEq] at hoj
                  subst hoj
                  obtain rfl : ub14 = false := hun
                  obtain rfl : ub0 = true := hall ⟨0, .phase⟩ (by simp) (by kernel_rfl)
                  obtain rfl : ub1 = true := hall ⟨1, .phase⟩ (by simp) (by kernel_rfl)
                  obtain rfl : ub2 = true := hall ⟨2, .phase⟩ (by simp) (by kernel_rfl)
                  obtain rfl : ub3 = true := hall ⟨3, .phase⟩ (by simp) (by kernel_rfl)
                  obtain rfl : ub4 = true := hall ⟨4, .phase⟩ (by simp) (by kernel_rfl)
                  obtain rfl : ub5 = true := hall ⟨5, .phase⟩ (by simp) (by kernel_rfl)
                  obtain rfl : ub6 = true := hall ⟨6, .phase⟩ (by simp) (by kernel_rfl)
                  obtain rfl : ub7 = true := hall ⟨7, .phase⟩ (by simp) (by kernel_rfl)
                  obtain rfl : ub8 = true := hall ⟨8, .phase⟩ (by simp) (by kernel_rfl)
                  obtain rfl : ub9 = true := hall ⟨9, .phase⟩ (by simp) (by kernel_rfl)
                  obtain rfl : ub10 = true := hall ⟨10, .data⟩ (by simp) (by kernel_rfl)
                  obtain rfl : ub13 = true := hall ⟨13, .chain⟩ (by simp) (by kernel_rfl)
                  clear hall
                  obtain rfl : ub15 = false := Bool.eq_false_iff.2 fun h => Bool.false_ne_true (H.d15 h).2.2.2.2.2.2.2.2.2.2.2.2.2
                  obtain rfl : ub16 = false := Bool.eq_false_iff.2 fun h => Bool.false_ne_true (H.d16 h).2.2.2.2.2.2.2.2.2.2.2.2.2.2.1
                  have hx_t5 := H.t5
                  have hx_t6 := H.t6
                  obtain rfl := H.h0 rfl
                  obtain rfl := H.h1 rfl
                  obtain rfl := H.h2 rfl
                  obtain rfl := H.h3 rfl
                  obtain rfl := H.h4 rfl
                  obtain rfl := H.h5 rfl
                  obtain rfl := H.h6 rfl
                  have P7 := H.h7 rfl rfl
                  have P8 := H.h8 rfl rfl
                  have P10 := H.h10 rfl rfl
                  have P13 := H.h13 rfl rfl
                  have hnf := Lib.hid P13
                  obtain ⟨c, hc1, hc2⟩ := fr_fe P10.now
                  have ht := Lib.hid P10
                  subst hc2
                  have hf := hnf.out.f
                  obtain ⟨k1, gp⟩ := bkF_put hf (.int .i64 c.f.kind) (.int .i64 c.f.id) (.int .i64 c.f.off) (.bool c.f.fin) (.int .i64 c.f.code) (.slice c.ra c.f.rs.length c.rc) (.slice c.da c.f.data.length c.dc)
                  have PN := Lib.hid (show PutF Y X _ M F g2 f2 from ⟨hnf.out.n.gr gp (lt_of_block HF.out) HXF.out HFM.out, c, hc1, k1, ht.out.kp (KpS.gr gp (lt_of_block HF.out))⟩)
                  obtain ⟨z0, z1, z2, z3, z4, z5, z6⟩ := bkF hf
                  have zf := fun i => bk_frz hf i
                  clear hf ht k1 gp hc1 hnf
                  unfold FE.v
                  refine wpOp_step ho (fun K' hK => ?_)
                  have HK := Lib.hid hK
                  clear hK ho
                  go_simp
                  exact HK.out _ _ ⟨_, _, _, _, _, _, _, _, _, _, _, _, _, _, _, _, _, _, _, _, _, _, _, _, _, _, _, _, _, _, ux13, ux14, _, _, rfl, rfl, ⟨(fun h => by cases h), H.d2, H.d3, H.d5, H.d6, H.d7, H.d8, H.d9, H.d10, H.d11, H.d12, H.d13, (fun _ => ⟨rfl, rfl, rfl, rfl, rfl, rfl, rfl, rfl, rfl, rfl, rfl, rfl⟩), (fun h => by cases h), (fun h => by cases h), H.t5, H.t6, H.h0, H.h1, H.h2, H.h3, H.h4, H.h5, H.h6, (fun _ h => by cases h), (fun _ h => by cases h), (fun _ h => by cases h), (fun _ h => by cases h), H.h11, H.h12, (fun _ h => by cases h), (fun _ => PN.out), H.h15, H.h16⟩⟩
                · have ho := hoj
                  simp only [List.getElem?_toArray, List.getElem?_cons_succ, List.getElem?_cons_zero, Option.some.injEq] at hoj
                  subst hoj
                  obtain rfl : ub15 = false := hun
                  obtain rfl : ub0 = true := hall ⟨0, .phase⟩ (by simp) (by kernel_rfl)
                  obtain rfl : ub1 = true := hall ⟨1, .phase⟩ (by simp) (by kernel_rfl)
                  obtain rfl : ub2 = true := hall ⟨2, .phase⟩ (by simp) (by kernel_rfl)
                  obtain rfl : ub3 = true := hall ⟨3, .phase⟩ (by simp) (by kernel_rfl)
                  obtain rfl : ub4 = true := hall ⟨4, .phase⟩ (by simp) (by kernel_rfl)
                  obtain rfl : ub5 = true := hall ⟨5, .phase⟩ (by simp) (by kernel_rfl)
                  obtain rfl : ub6 = true := hall ⟨6, .phase⟩ (by simp) (by kernel_rfl)
                  obtain rfl : ub7 = true := hall ⟨7, .phase⟩ (by simp) (by kernel_rfl)
                  obtain rfl : ub8 = true := hall ⟨8, .phase⟩ (by simp) (by kernel_rfl)
                  obtain rfl : ub9 = true := hall ⟨9, .phase⟩ (by simp) (by kernel_rfl)
                  obtain rfl : ub10 = true := hall ⟨10, .phase⟩ (by simp) (by kernel_rfl)
                  obtain rfl : ub11 = true := hall ⟨11, .data⟩ (by simp) (by kernel_rfl)
                  obtain rfl : ub13 = true := hall ⟨13, .phase⟩ (by simp) (by kernel_rfl)
                  obtain rfl : ub14 = true := hall ⟨14, .chain⟩ (by simp) (by kernel_rfl)
                  clear hall
                  obtain rfl : ub16 = false := Bool.eq_false_iff.2 fun h => Bool.false_ne_true (H.d16 h).2.2.2.2.2.2.2.2.2.2.2.2.2.2.2
                  have hx_t5 := H.t5
                  have hx_t6 := H.t6
                  obtain rfl := H.h0 rfl
                  obtain rfl := H.h1 rfl
                  obtain rfl := H.h2 rfl
                  obtain rfl := H.h3 rfl
                  obtain rfl := H.h4 rfl
                  obtain rfl := H.h5 rfl
                  obtain rfl := H.h6 rfl
                  obtain rfl := H.h11 rfl
                  have P14 := H.h14 rfl
                  refine wpOp_step ho (fun K' hK => ?_)
                  have HK := Lib.hid hK
                  clear hK ho
                  go_simp
                  exact HK.out _ _ ⟨_, _, _, _, _, _, _, _, _, _, _, _, _, _, _, _, _, _, _, _, _, _, _, _, _, _, _, _, _, _, ux13, ux14, _, _, rfl, rfl, ⟨(fun h => by cases h), H.d2, H.d3, H.d5, H.d6, H.d7, H.d8, H.d9, H.d10, H.d11, H.d12, H.d13, H.d14, (fun _ => ⟨rfl, rfl, rfl, rfl, rfl, rfl, rfl, rfl, rfl, rfl, rfl, rfl, rfl, rfl⟩), (fun h => by cases h), H.t5, H.t6, H.h0, H.h1, H.h2, H.h3, H.h4, H.h5, H.h6, (fun _ h => by cases h), (fun _ h => by cases h), (fun _ h => by cases h), (fun _ h => by cases h), H.h11, H.h12, (fun _ h => by cases h), H.h14, (fun _ => rfl), H.h16⟩⟩
                · have ho := hoj
                  simp only [List.getElem?_toArray, List.getElem?_cons_succ, List.getElem?_cons_zero, Option.some.injEq] at hoj
                  subst hoj
                  obtain rfl : ub16 = false := hun
                  obtain rfl : ub0 = true := hall ⟨0, .phase⟩ (by simp) (by kernel_rfl)
                  obtain rfl : ub1 = true := hall ⟨1, .phase⟩ (by simp) (by kernel_rfl)
                  obtain rfl : ub2 = true := hall ⟨2, .phase⟩ (by simp) (by kernel_rfl)
                  obtain rfl : ub3 = true := hall ⟨3, .phase⟩ (by simp) (by kernel_rfl)
                  obtain rfl : ub4 = true := hall ⟨4, .phase⟩ (by simp) (by kernel_rfl)
                  obtain rfl : ub5 = true := hall ⟨5, .phase⟩ (by simp) (by kernel_rfl)
                  obtain rfl : ub6 = true := hall ⟨6, .phase⟩ (by simp) (by kernel_rfl)
                  obtain rfl : ub7 = true := hall ⟨7, .phase⟩ (by simp) (by kernel_rfl)
                  obtain rfl : ub8 = true := hall ⟨8, .phase⟩ (by simp) (by kernel_rfl)
                  obtain rfl : ub9 = true := hall ⟨9, .phase⟩ (by simp) (by kernel_rfl)
                  obtain rfl : ub10 = true := hall ⟨10, .phase⟩ (by simp) (by kernel_rfl)
                  obtain rfl : ub11 = true := hall ⟨11, .phase⟩ (by simp) (by kernel_rfl)
                  obtain rfl : ub12 = true := hall ⟨12, .data⟩ (by simp) (by kernel_rfl)
                  obtain rfl : ub13 = true := hall ⟨13, .phase⟩ (by simp) (by kernel_rfl)
                  obtain rfl : ub14 = true := hall ⟨14, .phase⟩ (by simp) (by kernel_rfl)
                  obtain rfl : ub15 = true := hall ⟨15, .chain⟩ (by simp) (by kernel_rfl)
                  clear hall
                  have hx_t5 := H.t5
                  have hx_t6 := H.t6
                  obtain rfl := H.h0 rfl
                  obtain rfl := H.h1 rfl
                  obtain rfl := H.h2 rfl
                  obtain rfl := H.h3 rfl
                  obtain rfl := H.h4 rfl
                  obtain rfl := H.h5 rfl
                  obtain rfl := H.h6 rfl
                  obtain rfl := H.h11 rfl
                  obtain rfl := H.h12 rfl
                  have P14 := H.h14 rfl
                  obtain rfl := H.h15 rfl
                  refine wpOp_step ho (fun K' hK => ?_)
                  have HK := Lib.hid hK
                  clear hK ho
                  go_simp
                  exact HK.out _ _ ⟨_, _, _, _, _, _, _, _, _, _, _, _, _, _, _, _, _, _, _, _, _, _, _, _, _, _, _, _, _, _, ux13, ux14, _, _, rfl, rfl, ⟨(fun h => by cases h), H.d2, H.d3, H.d5, H.d6, H.d7, H.d8, H.d9, H.d10, H.d11, H.d12, H.d13, H.d14, H.d15, (fun _ => ⟨rfl, rfl, rfl, rfl, rfl, rfl, rfl, rfl, rfl, rfl, rfl, rfl, rfl, rfl, rfl, rfl⟩), H.t5, H.t6, H.h0, H.h1, H.h2, H.h3, H.h4, H.h5, H.h6, (fun _ h => by cases h), (fun _ h => by cases h), (fun _ h => by cases h), (fun _ h => by cases h), H.h11, H.h12, (fun _ h => by cases h), H.h14, H.h15, (fun _ => rfl)⟩⟩
                · have ho := hoj
                  simp at ho
              case hfin =>
                rintro listed a w ⟨ub0, ub1, ub2, ub3, ub4, ub5, ub6, ub7, ub8, ub9, ub10, ub11, ub12, ub13, ub14, ub15, ub16, ux0, ux1, ux2, ux3, ux4, ux5, ux6, ux7, ux8, ux9, ux10, ux11, ux12, ux13, ux14, ux15, ux16, rfl, rfl, H⟩ hr
                have hb : ub16 = true := by
                  clear H
                  obtain rfl : ub0 = true := by
                    cases ub0
                    · exact absurd hr (ready_ne (by kernel_rfl))
                    · rfl
                  obtain rfl : ub1 = true := by
                    cases ub1
                    · exact absurd hr (ready_ne (by kernel_rfl))
                    · rfl
                  obtain rfl : ub2 = true := by
                    cases ub2
                    · exact absurd hr (ready_ne (by kernel_rfl))
                    · rfl
                  obtain rfl : ub3 = true := by
                    cases ub3
                    · exact absurd hr (ready_ne (by kernel_rfl))
                    · rfl
                  obtain rfl : ub4 = true := by
                    cases ub4
                    · exact absurd hr (ready_ne (by kernel_rfl))
                    · rfl
                  obtain rfl : ub5 = true := by
                    cases ub5
                    · exact absurd hr (ready_ne (by kernel_rfl))
                    · rfl
                  obtain rfl : ub6 = true := by
                    cases ub6
                    · exact absurd hr (ready_ne (by kernel_rfl))
                    · rfl
                  obtain rfl : ub7 = true := by
                    cases ub7
                    · exact absurd hr (ready_ne (by kernel_rfl))
                    · rfl
                  obtain rfl : ub8 = true := by
                    cases ub8
                    · exact absurd hr (ready_ne (by kernel_rfl))
                    · rfl
                  obtain rfl : ub9 = true := by
                    cases ub9
                    · exact absurd hr (ready_ne (by kernel_rfl))
                    · rfl
                  obtain rfl : ub10 = true := by
                    cases ub10
                    · exact absurd hr (ready_ne (by kernel_rfl))
                    · rfl
                  obtain rfl : ub11 = true := by
                    cases ub11
                    · exact absurd hr (ready_ne (by kernel_rfl))
                    · rfl
                  obtain rfl : ub12 = true := by
                    cases ub12
                    · exact absurd hr (ready_ne (by kernel_rfl))
                    · rfl
                  obtain rfl : ub13 = true := by
                    cases ub13
                    · exact absurd hr (ready_ne (by kernel_rfl))
                    · rfl
                  obtain rfl : ub14 = true := by
                    cases ub14
                    · exact absurd hr (ready_ne (by kernel_rfl))
                    · rfl
                  obtain rfl : ub15 = true := by
                    cases ub15
                    · exact absurd hr (ready_ne (by kernel_rfl))
                    · rfl
                  obtain rfl : ub16 = true := by
                    cases ub16
                    · exact absurd hr (ready_ne (by kernel_rfl))
                    · rfl
                  rfl
                subst hb
                clear hr
                obtain rfl : ub0 = true := (H.d16 rfl).1
                obtain rfl : ub1 = true := (H.d16 rfl).2.1
                obtain rfl : ub2 = true := (H.d16 rfl).2.2.1
                obtain rfl : ub3 = true := (H.d16 rfl).2.2.2.1
                obtain rfl : ub4 = true := (H.d16 rfl).2.2.2.2.1
                obtain rfl : ub5 = true := (H.d16 rfl).2.2.2.2.2.1
                obtain rfl : ub6 = true := (H.d16 rfl).2.2.2.2.2.2.1
                obtain rfl : ub7 = true := (H.d16 rfl).2.2.2.2.2.2.2.1
                obtain rfl : ub8 = true := (H.d16 rfl).2.2.2.2.2.2.2.2.1
                obtain rfl : ub9 = true := (H.d16 rfl).2.2.2.2.2.2.2.2.2.1
                obtain rfl : ub10 = true := (H.d16 rfl).2.2.2.2.2.2.2.2.2.2.1
                obtain rfl : ub11 = true := (H.d16 rfl).2.2.2.2.2.2.2.2.2.2.2.1
                obtain rfl : ub12 = true := (H.d16 rfl).2.2.2.2.2.2.2.2.2.2.2.2.1
                obtain rfl : ub13 = true := (H.d16 rfl).2.2.2.2.2.2.2.2.2.2.2.2.2.1
                obtain rfl : ub14 = true := (H.d16 rfl).2.2.2.2.2.2.2.2.2.2.2.2.2.2.1
                obtain rfl : ub15 = true := (H.d16 rfl).2.2.2.2.2.2.2.2.2.2.2.2.2.2.2
                have pf := H.h14 rfl
                have e11 := H.h15 rfl
                have e12 := H.h16 rfl
                obtain ⟨Od, cOd, Ol, cOl, Oa, cOa, hn1, hn2, hnb⟩ := pf.n.ex
                obtain ⟨c2, hc2, hf2, ht2⟩ := pf.ex
                have HN1 := Lib.hid hn1
                have HN2 := Lib.hid hn2
                have HNB := Lib.hid hnb
                have HC2 := Lib.hid hc2
                have HF2 := Lib.hid hf2
                have HT2 := Lib.hid ht2
                clear H hn1 hn2 hnb hc2 hf2 ht2 pf
                obtain ⟨Z, hZ⟩ : ∃ Y, Y = w := ⟨_, rfl⟩
                subst w
                subst e11 e12
                have GZ := Lib.hid (G6.out.on HNB.out)
                have HNX := Lib.hid (show ∀ j, (j < X.heap.size ∨ sv.ownBlock = some j) → j < Y.heap.size from fun j hj => by
                  rcases hj with hj | hj
                  · exact Nat.lt_of_lt_of_le hj BX.out.size
                  · exact Nat.lt_of_lt_of_le (SVG.out j hj) BX.out.size)
                cases ob with
                | false =>
                  go_wp2_with fail
                  go_meet
                  refine ⟨0, g2, Od, Ol, Oa, cOd, cOl, cOa, cs, rfl, by omega, GZ, Lib.hid ⟨HN1.out, StS.anti HN2.out HNX.out⟩, Lib.hid (.inl ⟨rfl, HGW.out.1, (by have := GK.out.mx; have := HGW.out.2.2.1; omega), TK.out.grew HGW.out.2.1⟩)⟩
                | true =>
                  obtain ⟨z0, z1, z2, z3, z4, z5, z6⟩ := bkF HF2.out
                  obtain ⟨Asv, csv, hsv, hs1, hs2, _⟩ := GZ.out.own.slice
                  obtain ⟨ncs, hncs⟩ : ∃ n, cs.length = n := ⟨_, rfl⟩
                  have HNCS := Lib.hid hncs
                  rw [hncs] at hsv hcs
                  subst hsv
                  clear hncs hs1 hs2
                  have NB := Lib.hid (RowE.one (E := feE) Z c2 #[.int .i64 c2.f.kind, .int .i64 c2.f.id, .int .i64 c2.f.off, .bool c2.f.fin, .int .i64 c2.f.code, .slice c2.ra c2.f.rs.length c2.rc, .slice c2.da c2.f.data.length c2.dc] 35 Z.heap.size rfl rfl)
                  have BN := Lib.hid ((Below.refl Z.heap.size Z).alloc (Nat.le_refl _) (.cells #[.int .i64 c2.f.kind, .int .i64 c2.f.id, .int .i64 c2.f.off, .bool c2.f.fin, .int .i64 c2.f.code, .slice c2.ra c2.f.rs.length c2.rc, .slice c2.da c2.f.data.length c2.dc] 35))
                  have GN := Lib.hid (GZ.out.on BN.out)
                  have HN3 := Lib.hid (StS.later HN2.out BN.out)
                  have HN4 := Lib.hid ((BN.out.block _ (lt_of_block HN1.out)).trans HN1.out)
                  have HT3 := Lib.hid (StS.later HT2.out BN.out)
                  obtain ⟨Zn, hZn⟩ : ∃ w, Z.alloc (.cells #[.int .i64 c2.f.kind, .int .i64 c2.f.id, .int .i64 c2.f.off, .bool c2.f.fin, .int .i64 c2.f.code, .slice c2.ra c2.f.rs.length c2.rc, .slice c2.da c2.f.data.length c2.dc] 35) = w := ⟨_, rfl⟩
                  have HZN := Lib.hid hZn
                  rw [hZn] at NB GN HN3 HN4 HT3
                  clear hZn
                  go_wp2_with (at_builtin; rw [HZN.out]; refine wpList_appE2 _ rfl (.tmp 66) (.tmp 68) _ rfl (W.heap.size + 1) 35 i0 _ 88 Try.underlying45 HI.out HZ.out HZ1.out HZ2.out rfl (by decide) (.slice Asv ncs csv) cs rfl GN.out.own _ (some ⟨Z.heap.size, 0, none⟩) 1 1 [c2] rfl NB.out rfl (by rw [HNCS.out]; omega) (lt_of_block GN.out.blk) ?_; intro v9 w9 own9 gr9 hs9; have O9 := Lib.hid own9; have G9 := Lib.hid gr9; have S9 := Lib.hid hs9; clear own9 gr9 hs9)
                  go_meet
                  have hlo : ∀ j, (Value.slice Asv ncs csv).ownBlock = some j → j < X.heap.size := SVG.out
                  have hc2 := HC2.out
                  have hM9 : (Value.slice Asv ncs csv).ownBlock ≠ some M := fun e => by have := hlo M e; have := HXM.out; omega
                  have kp : KpS (fun j => j < Y.heap.size) Zn w9 := KpS.grO G9.out (fun y e => Nat.lt_of_lt_of_le (hlo y e) BX.out.size)
                  have hW : W.heap.size < X.heap.size := lt_of_block G6.out.blk
                  have hYX := BX.out.size
                  refine ⟨0, g2, Od, Ol, Oa, cOd, cOl, cOa, cs ++ [c2], rfl, by rw [List.length_append, HNCS.out, List.length_singleton]; omega, Lib.hid (GN.out.push O9.out G9.out S9.out ?_), Lib.hid ⟨(G9.out.block _ (lt_of_block HN4.out) (Ne.symm hM9)).trans HN4.out, ?_⟩, Lib.hid (.inl ⟨rfl, HGW.out.1, (by have := GK.out.mx; have := HGW.out.2.2.1; omega), (TK.out.grew HGW.out.2.1).push (by rw [hc2]; exact HGW.out.2.2.2.1 (by first | trivial | rfl)) (by rw [hc2]; exact HGW.out.2.2.2.2.1)⟩)⟩
                  · rw [hc2]
                    exact HT3.out.anti fun j hj => by
                      rcases hj with hj | hj
                      · show j < Y.heap.size; omega
                      · exact Nat.lt_of_lt_of_le (hlo j hj) hYX
                  · intro w'' k
                    refine HN3.out w'' ⟨Nat.le_trans G9.out.size k.size, fun q h1 h2 => (k.block q (fun h3 => ?_) (Nat.lt_of_lt_of_le h2 G9.out.size)).trans (kp.block q h1 h2)⟩
                    rcases h3 with h3 | h3
                    · exact h1 (Nat.lt_of_lt_of_le h3 hYX)
                    · rcases S9.out with e | e
                      · rw [e] at h3; exact h1 (Nat.lt_of_lt_of_le (hlo q h3) hYX)
                      · rw [e] at h3; cases h3; omega
            · have gk3 : decide (K < 3) = false := by simp [k3]
              clear k0
              obtain ⟨Asv, csv, hsv, hs1, hs2, _⟩ := G7.out.own.slice
              obtain ⟨ncs, hncs⟩ : ∃ n, cs.length = n := ⟨_, rfl⟩
              have HNCS := Lib.hid hncs
              rw [hncs] at hsv hcs hs1
              subst hsv
              unfold maxLen at hs2
              by_cases kn : K < 5 ∧ 0 < ncs
              · obtain ⟨k5, hnp⟩ := kn
                have gk5 : decide (K < 5) = true := by simp [k5]
                have gkn : decide ((0 : Int) < (ncs : Int)) = true := by simp; omega
                obtain ⟨ii, hii⟩ : ∃ ii : Nat, ra % (ncs : Int) = ii := ⟨(ra % (ncs : Int)).toNat, by have := Int.emod_nonneg ra (show (ncs : Int) ≠ 0 by omega); omega⟩
                have hin : ii < ncs := by have := Int.emod_lt_of_pos ra (show (0 : Int) < ncs by omega); omega
                have HPI := Lib.hid (fun w => hii ▸ picked_any ra ncs (by omega) (by omega) w)
                have hil : ii < cs.length := by omega
                obtain ⟨gs, hgs, hx1, hx2, hgl, a0, a1, a2, a3, a4, a5, a6⟩ := own_fe G7.out.own ii hil
                obtain ⟨c, hc⟩ : ∃ c, cs[ii] = c := ⟨_, rfl⟩
                have HTC := Lib.hid (TK.out c (hc ▸ List.getElem_mem hil))
                rw [hc] at a0 a1 a2 a3 a4 a5 a6
                subst hgs
                obtain ⟨g2l, h2l⟩ : ∃ p, loseS s c.f.off (c.f.data.length : Int) c.f.fin = (p, 0) := ⟨_, by rw [← (good_ls GK.out.ok HTC.out.1).1]⟩
                obtain ⟨g2h, h2h⟩ : ∃ p, heardS s c.f.off (c.f.data.length : Int) c.f.fin = (p, 0) := ⟨_, by rw [← (good_hd GK.out.ok HTC.out.1).1]⟩
                have hgl2 := good_ls GK.out.ok HTC.out.1
                have hgh2 := good_hd GK.out.ok HTC.out.1
                rw [h2l] at hgl2
                rw [h2h] at hgh2
                have HLE := Lib.hid h2l
                have HHE := Lib.hid h2h
                have HLG := Lib.hid hgl2.2
                have HHG := Lib.hid hgh2.2
                have hdl : (c.f.data.length : Int) ≤ 120 := by have := HTC.out.2; omega
                obtain ⟨z0, z1, z2, z3⟩ := bk4r R7.out
                have hinI : (ii : Int) < (ncs : Int) := by omega
                have FB := Lib.hid ((Below.refl Y.heap.size Y).alloc (Nat.le_refl _) (.cells #[.int .i64 c.f.kind, .int .i64 c.f.id, .int .i64 c.f.off, .bool c.f.fin, .int .i64 c.f.code, .slice c.ra c.f.rs.length c.rc, .slice c.da c.f.data.length c.dc] 35))
                have FN := Lib.hid (heap_alloc_new Y (.cells #[.int .i64 c.f.kind, .int .i64 c.f.id, .int .i64 c.f.off, .bool c.f.fin, .int .i64 c.f.code, .slice c.ra c.f.rs.length c.rc, .slice c.da c.f.data.length c.dc] 35))
                clear hii hc h2l h2h hgl2 hgh2 hncs hx1
                go_upto_region 18 with (go_at_call 19; refine (HPI.out _).mono ?_; rintro e w' ⟨rfl, rfl⟩)
                clear a0 a1 a2 a3 a4 a5 a6 z0 z1 z2 z3
                obtain ⟨Y1, hY1⟩ : ∃ w, Y.alloc (.cells #[.int .i64 c.f.kind, .int .i64 c.f.id, .int .i64 c.f.off, .bool c.f.fin, .int .i64 c.f.code, .slice c.ra c.f.rs.length c.rc, .slice c.da c.f.data.length c.dc] 35) = w := ⟨_, rfl⟩
                obtain ⟨F, hF⟩ : ∃ F, Y.heap.size = F := ⟨_, rfl⟩
                rw [hY1] at FB FN
                rw [hF] at FN
                try rw [hY1]
                try rw [hF]
                have HFM := Lib.hid (show M ≠ F by have := lt_of_block HM.out; omega)
                have BX1 := Lib.hid (BX.out.trans (FB.out.mono BX.out.size))
                have HM1 := Lib.hid ((FB.out.block _ (lt_of_block HM.out)).trans HM.out)
                have G71 := Lib.hid (G7.out.on FB.out)
                clear hY1 hF BX HM G7 R7 NX7 B7 N7 NV7 FB
                obtain ⟨q0, q1, q2, q3, q4, q5, q6, q7⟩ := bkS G71.out.blk
                obtain ⟨z0, z1, z2, z3, z4, z5, z6⟩ := bkF FN.out
                go_wp2_with fail
                refine (snLose_F _ s c.f.off (c.f.data.length : Int) c.f.fin Y1 G71.out.val.now (snwfG G71.out.ok G71.out.mx) (by omega)).mono ?_
                clear q0 q1 q2 q3 q4 q5 q6 q7 z0 z1 z2 z3 z4 z5 z6
                rintro e w5 hr5
                have b5 := hr5.be
                obtain ⟨u5, rfl, hu5⟩ := hr5.ex
                rw [HLE.out] at hu5 ⊢
                obtain ⟨Nd', cNd', Nl', cNl', Na', cNa', rfl⟩ := sn_slices hu5.now
                have U5 := Lib.hid (hu5.toSt)
                have BX2 := Lib.hid (BX1.out.trans (b5.mono BX1.out.size))
                have HM2 := Lib.hid ((b5.block _ (lt_of_block HM1.out)).trans HM1.out)
                have FN2 := Lib.hid ((b5.block _ (lt_of_block FN.out)).trans FN.out)
                have HSZ := Lib.hid b5.size
                clear hr5 hu5 b5
                dsimp only
                have BXW := Lib.hid (lt_of_block HM1.out)
                go_upto_region 19 with (refine wpList_store_blk rfl 27 (.tmp 7) (.tmp 96) rfl M HM2.out rfl rfl rfl (by kernel_rfl) (by simp [Value.oneCell']) ?_; intro W9 k9 gp; have KM := Lib.hid k9; have GP := Lib.hid gp; clear k9 gp)
                have BX3 := Lib.hid (gr_from BX2.out BX2.out.size HXM.out GP.out)
                have FN3 := Lib.hid ((GP.out.block _ (lt_of_block FN2.out) (fun e => HFM.out (by injection e with e; exact e.symm))).trans FN2.out)
                have U6 := Lib.hid (U5.out.on (KpS.gr GP.out BXW.out))
                have G6W := Lib.hid (G6.out.on BX3.out)
                have HJ := Lib.hid (show ∀ j, (j < X.heap.size ∨ (Value.slice (some ⟨gs, 0, none⟩) ncs csv).ownBlock = some j) → j < X.heap.size from fun j hj => hj.elim id (SVG.out j))
                have HY1 := Lib.hid (show X.heap.size ≤ Y1.heap.size from BX1.out.size)
                clear U5 BX2 HM2 FN2 GP HM1 FN G71 BX1
                by_cases k4 : K = 3
                · have gk43 : (K == 3) = true := by simp [k4]
                  clear k4
                  obtain ⟨q0, q1, q2, q3, q4, q5, q6, q7⟩ := bkS G6W.out.blk
                  obtain ⟨z0, z1, z2, z3, z4, z5, z6⟩ := bkF FN3.out
                  go_wp2_with fail
                  refine (snHeard_F _ s c.f.off (c.f.data.length : Int) c.f.fin W9 G6W.out.val.now (snwfG G6W.out.ok G6W.out.mx) (by omega)).mono ?_
                  clear q0 q1 q2 q3 q4 q5 q6 q7 z0 z1 z2 z3 z4 z5 z6
                  rintro e w6 hr6
                  have b6 := hr6.be
                  obtain ⟨u6, rfl, hu6⟩ := hr6.ex
                  rw [HHE.out] at hu6 ⊢
                  obtain ⟨Pd, cPd, Pl, cPl, Pa, cPa, rfl⟩ := sn_slices hu6.now
                  have V5 := Lib.hid (hu6.toSt)
                  have BX4 := Lib.hid (BX3.out.trans (b6.mono BX3.out.size))
                  have HM4 := Lib.hid ((b6.block _ (lt_of_block KM.out)).trans KM.out)
                  have BXW9 := Lib.hid (lt_of_block KM.out)
                  clear hr6 hu6 b6 KM U6 G6W FN3
                  dsimp only
                  go_wp2_with (refine wpList_store_blk rfl 27 (.tmp 7) (.tmp 110) rfl M HM4.out rfl rfl rfl (by kernel_rfl) (by simp [Value.oneCell']) ?_; intro WA k9 gp; have KM := Lib.hid k9; have GP := Lib.hid gp; clear k9 gp)
                  have BX5 := Lib.hid (gr_from BX4.out BX4.out.size HXM.out GP.out)
                  have V6 := Lib.hid (V5.out.on (KpS.gr GP.out BXW9.out))
                  have hz := BX3.out.size
                  go_meet
                  exact ⟨0, g2h, Pd, Pl, Pa, cPd, cPl, cPa, cs, rfl, by rw [HNCS.out]; omega, Lib.hid (G6.out.on BX5.out), Lib.hid ⟨KM.out, V6.out.anti fun j hj => Nat.lt_of_lt_of_le (HJ.out j hj) hz⟩, Lib.hid (.inl ⟨rfl, HHG.out.1, (by have := GK.out.mx; have h4 : g2h.mx = s.mx := HHG.out.2.2; omega), TK.out.grew HHG.out.2.1⟩)⟩
                · have gk43 : (K == 3) = false := by simp [k4]
                  clear k4
                  go_wp2_with fail
                  go_meet
                  exact ⟨0, g2l, Nd', Nl', Na', cNd', cNl', cNa', cs, rfl, by rw [HNCS.out]; omega, Lib.hid (G6.out.on BX3.out), Lib.hid ⟨KM.out, U6.out.anti fun j hj => Nat.lt_of_lt_of_le (HJ.out j hj) HY1.out⟩, Lib.hid (.inl ⟨rfl, HLG.out.1, (by have := GK.out.mx; have h4 : g2l.mx = s.mx := HLG.out.2.2; omega), TK.out.grew HLG.out.2.1⟩)⟩
              · have HJ := Lib.hid (show ∀ j, (j < X.heap.size ∨ (Value.slice Asv ncs csv).ownBlock = some j) → j < X.heap.size from fun j hj => hj.elim id (SVG.out j))
                have FIN := Lib.hid (show ∀ wx, wx = Y → ∃ (ec : Int) (s' : Sn) (Od Ol Oa : Option Addr) (cOd cOl cOa : Nat) (cs' : List FE), Value.int .i64 0 = .int .i64 ec ∧ cs'.length ≤ kk + 1 ∧ Hid (SG W wx Ad Al Aa cAd cAl cAa s (.slice Asv ncs csv) cs') ∧ Hid (SNx X wx M Od Ol Oa cOd cOl cOa s' (.slice Asv ncs csv)) ∧ Hid (RndOk s s' ec cs') from fun wx e => by
                  subst e
                  exact ⟨0, g, Nd, Nl, Na, cNd, cNl, cNa, cs, rfl, by rw [HNCS.out]; omega, G7, Lib.hid ⟨N7.out, NV7.out.anti HJ.out⟩, Lib.hid (.inl ⟨rfl, HGG.out.1, HGG.out.2.2, TK.out.grew HGG.out.2.1⟩)⟩)
                by_cases k5 : K < 5
                · have gk5 : decide (K < 5) = true := by simp [k5]
                  have gkn : decide ((0 : Int) < (ncs : Int)) = false := by simp; omega
                  clear hncs
                  go_wp2_with fail
                  go_meet
                  exact FIN.out _ rfl
                · have gk5 : decide (K < 5) = false := by simp [k5]
                  clear hncs
                  go_wp2_with fail
                  go_meet
                  exact FIN.out _ rfl
        case rest =>
          obtain ⟨ec, s', Od, Ol, Oa, cOd, cOl, cOa, cs', rfl, hcs', GC, NC, RC⟩ := hcut
          clear G7 R7 HM BX N7 NV7 B7
          have HVX := Lib.hid (lt_of_block G6.out.blk)
          rcases RC.out with ⟨rfl, ok', mx', snt'⟩ | ⟨hec, snt⟩
          · have S9 := Lib.hid snt'
            have O9 := Lib.hid ok'
            have M9 := Lib.hid mx'
            clear ok' mx' snt' RC
            obtain ⟨q0, q1, q2, q3, q4, q5, q6, q7⟩ := bkS NC.out.blk
            go_upto_region 23 with (refine wpList_store_blk rfl 27 (.tmp 3) (.tmp 114) rfl W.heap.size GC.out.blk rfl rfl rfl (by kernel_rfl) (by simp [Value.oneCell']) ?_; intro W9 k9 gp; have KM := Lib.hid k9; have GP := Lib.hid gp; clear k9 gp)
            have GD := Lib.hid (GC.out.put GP.out KM.out (NC.out.val.anti fun j hj => hj.elim (fun e => .inl (e ▸ HVX.out)) .inr) O9.out M9.out)
            clear q0 q1 q2 q3 q4 q5 q6 q7 KM GP GC NC
            have hft := (fault_iff s').2 O9.out
            have hnx := O9.out.2.1
            have hnm := O9.out.2.2.1
            have HCK := Lib.hid (fun w hb => snChk_any _ s' w (GD.out.val.now.on hb) (snwfG O9.out M9.out))
            rw [hft] at HCK
            have c1 : decide (s'.mx < s'.next) = false := by simp; omega
            have c2 : decide ((s'.data.length : Int) < s'.next) = false := by simp; omega
            clear hft hnx hnm
            obtain ⟨q0, q1, q2, q3, q4, q5, q6, q7⟩ := bkS GD.out.blk
            go_wp2_with fail
            refine (HCK.out _ (Below.refl _ _)).mono ?_
            clear q0 q1 q2 q3 q4 q5 q6 q7
            rintro e wD ⟨rfl, bD⟩
            have GE := Lib.hid (GD.out.on bD)
            clear bD GD HCK
            obtain ⟨q0, q1, q2, q3, q4, q5, q6, q7⟩ := bkS GE.out.blk
            go_wp2_with fail
            go_roundg (gk - 1)
            case measure => omega
            case rel => exact ⟨kk + 1, Od, Ol, Oa, cOd, cOl, cOa, s', cs', by first | rfl | go_num, by omega, hcs', GE, S9⟩
          · have S9 := Lib.hid snt
            have O9 := Lib.hid GC.out.ok
            have M9 := Lib.hid GC.out.mx
            clear snt RC
            have hft := (fault_iff s).2 O9.out
            have hnx := O9.out.2.1
            have hnm := O9.out.2.2.1
            have HCK := Lib.hid (fun w hb => snChk_any _ s w (GC.out.val.now.on hb) (snwfG O9.out M9.out))
            rw [hft] at HCK
            have c1 : decide (s.mx < s.next) = false := by simp; omega
            have c2 : decide ((s.data.length : Int) < s.next) = false := by simp; omega
            clear hft hnx hnm
            obtain ⟨q0, q1, q2, q3, q4, q5, q6, q7⟩ := bkS GC.out.blk
            rcases hec with rfl | rfl
            all_goals
              go_wp2_with fail
              refine (HCK.out _ (Below.refl _ _)).mono ?_
              clear q0 q1 q2 q3 q4 q5 q6 q7
              rintro e wD ⟨rfl, bD⟩
              have GE := Lib.hid (GC.out.on bD)
              clear bD HCK
              obtain ⟨q0, q1, q2, q3, q4, q5, q6, q7⟩ := bkS GE.out.blk
              go_wp2_with fail
              go_roundg (gk - 1)
              case measure => omega
              case rel => exact ⟨kk + 1, Ad, Al, Aa, cAd, cAl, cAa, s, cs', by first | rfl | go_num, by omega, hcs', GE, S9⟩
    · skip
      obtain rfl : kk = N := by omega
      obtain rfl : gk = 0 := by omega
      have HE := Lib.hid (snHeard_F _ s s.next 1 false X0 GK.out.val.now (snwfG GK.out.ok GK.out.mx) (by decide))
      rw [good_end GK.out.ok] at HE
      obtain ⟨q0, q1, q2, q3, q4, q5, q6, q7⟩ := bkS GK.out.blk
      go_wp2_with fail
      refine HE.out.mono ?_
      clear q0 q1 q2 q3 q4 q5 q6 q7
      rintro e w6 hr6
      have b6 := hr6.be
      obtain ⟨u6, rfl, hu6⟩ := hr6.ex
      obtain ⟨Pd, cPd, Pl, cPl, Pa, cPa, rfl⟩ := sn_slices hu6.now
      have B6 := Lib.hid ((GK.out.b.trans (b6.mono GK.out.b.size)).alloc (Nat.le_trans GK.out.b.size b6.size) (.cells #[.slice Pd sn0.data.length cPd, .bool sn0.fin, .int .i64 sn0.next, .int .i64 sn0.mx, .slice Pl sn0.lost.length cPl, .slice Pa sn0.acked.length cPa, .bool sn0.ended, .bool sn0.over] 27))
      clear hr6 hu6 b6 HE
      go_wp2_with fail
      refine (HTL.out _).mono ?_
      rintro e w7 ⟨rfl, b7⟩
      have B7 := Lib.hid (B6.out.trans (b7.mono B6.out.size))
      clear b7
      go_wp2_with fail
      go_ret
      exact ⟨by first | rfl | simp, B7.out⟩
end Go.Proofs.Ytkmkcpjmhcpjpaa
