/- The walk of keep's 'spaced': a space to which raw things happened. -/
import Derived.Test.YtnccibaifffhhaaSpdV
import Derived.Test.YtnccibaifffhhaaSpAcked
import Derived.Test.YtnccibaifffhhaaSpOver
import Derived.Test.YtnccibaifffhhaaGrpSj
import Derived.Test.YtnccibaifffhhaaSomeK
import Derived.Test.YtnccibaifffhhaaGrpC
import Derived.Test.YtnccibaifffhhaaGrpD
import Derived.Deep.CutRange
import Derived.Deep.LoopGhost
namespace Go.Proofs.Ytnccibaifffhhaa
set_option linter.unusedVariables false
open Go.RowKit P

theorem on_num {s : Sp} {E : Int → Option Int} (h : OnI s E) {n : Int} (hn : E n = some 1) : i64N n := by
  by_cases q : n ∈ nums s.sent
  · have := riseF_bd h.ok.2.2.2.2.1 q
    have := h.ok.1
    unfold i64N
    omega
  · have := h.gone n 1 hn q
    cases this
structure SdA0 (w0 : World) (Aa Ah Ak : Option Addr) (ca ch ck : Nat) (s s' : Sp) (R : Nat) (T ra a n ec : Int) (V0 V1 V2 V3 V4 V8 V9 V12 V13 : Value) (sb0 sb1 sb2 sb3 sb4 sb5 sb6 sb7 sb8 sb9 sb10 sb11 sb12 sb13 : Bool) (sx0 sx1 sx2 sx3 sx4 sx5 sx6 sx7 sx8 sx9 sx10 sx11 sx12 sx13 : Value) (w : World) : Prop where
  be : Below w0.heap.size w0 w
  d3 : sb3 = true → sb2 = true
  d4 : sb4 = true → sb3 = true
  d5 : sb5 = true → sb0 = true ∧ sb1 = true ∧ sb4 = true
  d6 : sb6 = true → sb5 = true
  d7 : sb7 = true → sb6 = true
  d8 : sb8 = true → sb6 = true
  d9 : sb9 = true → sb6 = true
  d11 : sb11 = true → sb0 = true ∧ sb1 = true ∧ sb2 = true ∧ sb3 = true ∧ sb4 = true ∧ sb5 = true ∧ sb6 = true ∧ sb7 = true ∧ sb10 = true
  d12 : sb12 = true → sb0 = true ∧ sb1 = true ∧ sb2 = true ∧ sb3 = true ∧ sb4 = true ∧ sb5 = true ∧ sb6 = true ∧ sb7 = true ∧ sb8 = true ∧ sb10 = true ∧ sb11 = true
  d13 : sb13 = true → sb0 = true ∧ sb1 = true ∧ sb2 = true ∧ sb3 = true ∧ sb4 = true ∧ sb5 = true ∧ sb6 = true ∧ sb7 = true ∧ sb8 = true ∧ sb9 = true ∧ sb10 = true ∧ sb11 = true ∧ sb12 = true
  t5 : sb5 = true → ∃ u, sx5 = .tuple #[u, .int .i64 n, .int .i64 ec]
  t6 : sb6 = true → ∃ u, sx6 = .tuple #[u, .int .i64 n, .int .i64 ec]
  h0 : sb0 = true → sx0 = V0
  h1 : sb1 = true → sx1 = V1
  h2 : sb2 = true → sx2 = V2
  h3 : sb3 = true → sx3 = V3
  h4 : sb4 = true → sx4 = V4
  h5 : sb5 = true → TupN w0 sb10 sx10 w sx5 s' n ec
  h6 : sb6 = true → TupN w0 sb10 sx10 w sx6 s' n ec
  h7 : sb7 = true → SpdS (SXv w0 sb10 sx10) w sx7 s'
  h8 : sb8 = true → sx8 = V8
  h9 : sb9 = true → sx9 = V9
  h10 : sb10 = true → sb11 = false → ∃ k, sx10 = .pointer (some ⟨k, 0, none⟩) ∧ w0.heap.size ≤ k ∧ w.heap[k]? = some (.cells #[.int .i64 0, .slice none 0 0, .int .i64 0, .slice none 0 0, .slice none 0 0] 48 (0, 0))
  h11 : sb11 = true → SpNew w0 w sx10 s'
  h12 : sb12 = true → sx12 = V12
  h13 : sb13 = true → sx13 = V13
structure SdA1 (w0 : World) (Aa Ah Ak : Option Addr) (ca ch ck : Nat) (s s' : Sp) (R : Nat) (T ra a n ec : Int) (V0 V1 V2 V3 V4 V8 V9 V12 V13 : Value) (vb0 vb1 vb2 vb3 vb4 vb5 vb6 vb7 vb8 vb9 vb10 vb11 vb12 vb13 : Bool) (vx0 vx1 vx2 vx3 vx4 vx5 vx6 vx7 vx8 vx9 vx10 vx11 vx12 vx13 : Value) (w : World) : Prop where
  be : Below w0.heap.size w0 w
  d3 : vb3 = true → vb2 = true
  d4 : vb4 = true → vb3 = true
  d5 : vb5 = true → vb0 = true ∧ vb1 = true ∧ vb4 = true
  d6 : vb6 = true → vb5 = true
  d7 : vb7 = true → vb6 = true
  d8 : vb8 = true → vb6 = true
  d9 : vb9 = true → vb6 = true
  d11 : vb11 = true → vb0 = true ∧ vb1 = true ∧ vb2 = true ∧ vb3 = true ∧ vb4 = true ∧ vb5 = true ∧ vb6 = true ∧ vb7 = true ∧ vb10 = true
  d12 : vb12 = true → vb0 = true ∧ vb1 = true ∧ vb2 = true ∧ vb3 = true ∧ vb4 = true ∧ vb5 = true ∧ vb6 = true ∧ vb7 = true ∧ vb8 = true ∧ vb10 = true ∧ vb11 = true
  d13 : vb13 = true → vb0 = true ∧ vb1 = true ∧ vb2 = true ∧ vb3 = true ∧ vb4 = true ∧ vb5 = true ∧ vb6 = true ∧ vb7 = true ∧ vb8 = true ∧ vb9 = true ∧ vb10 = true ∧ vb11 = true ∧ vb12 = true
  t5 : vb5 = true → ∃ u, vx5 = .tuple #[u, .int .i64 n, .int .i64 ec]
  t6 : vb6 = true → ∃ u, vx6 = .tuple #[u, .int .i64 n, .int .i64 ec]
  h0 : vb0 = true → vx0 = V0
  h1 : vb1 = true → vx1 = V1
  h2 : vb2 = true → vx2 = V2
  h3 : vb3 = true → vx3 = V3
  h4 : vb4 = true → vx4 = V4
  h5 : vb5 = true → TupN w0 vb10 vx10 w vx5 s' n ec
  h6 : vb6 = true → TupN w0 vb10 vx10 w vx6 s' n ec
  h7 : vb7 = true → SpdS (SXv w0 vb10 vx10) w vx7 s'
  h8 : vb8 = true → vx8 = V8
  h9 : vb9 = true → vx9 = V9
  h10 : vb10 = true → vb11 = false → ∃ k, vx10 = .pointer (some ⟨k, 0, none⟩) ∧ w0.heap.size ≤ k ∧ w.heap[k]? = some (.cells #[.int .i64 0, .slice none 0 0, .int .i64 0, .slice none 0 0, .slice none 0 0] 48 (0, 0))
  h11 : vb11 = true → SpNew w0 w vx10 s'
  h12 : vb12 = true → vx12 = V12
  h13 : vb13 = true → vx13 = V13
structure SdA2 (w0 : World) (Aa Ah Ak : Option Addr) (ca ch ck : Nat) (s s' : Sp) (R : Nat) (T ra a n ec : Int) (V0 V1 V2 V3 V4 V8 V9 V12 V13 : Value) (yb0 yb1 yb2 yb3 yb4 yb5 yb6 yb7 yb8 yb9 yb10 yb11 yb12 yb13 : Bool) (yx0 yx1 yx2 yx3 yx4 yx5 yx6 yx7 yx8 yx9 yx10 yx11 yx12 yx13 : Value) (w : World) : Prop where
  be : Below w0.heap.size w0 w
  d3 : yb3 = true → yb2 = true
  d4 : yb4 = true → yb3 = true
  d5 : yb5 = true → yb0 = true ∧ yb1 = true ∧ yb4 = true
  d6 : yb6 = true → yb5 = true
  d7 : yb7 = true → yb6 = true
  d8 : yb8 = true → yb6 = true
  d9 : yb9 = true → yb6 = true
  d11 : yb11 = true → yb0 = true ∧ yb1 = true ∧ yb2 = true ∧ yb3 = true ∧ yb4 = true ∧ yb5 = true ∧ yb6 = true ∧ yb7 = true ∧ yb10 = true
  d12 : yb12 = true → yb0 = true ∧ yb1 = true ∧ yb2 = true ∧ yb3 = true ∧ yb4 = true ∧ yb5 = true ∧ yb6 = true ∧ yb7 = true ∧ yb8 = true ∧ yb10 = true ∧ yb11 = true
  d13 : yb13 = true → yb0 = true ∧ yb1 = true ∧ yb2 = true ∧ yb3 = true ∧ yb4 = true ∧ yb5 = true ∧ yb6 = true ∧ yb7 = true ∧ yb8 = true ∧ yb9 = true ∧ yb10 = true ∧ yb11 = true ∧ yb12 = true
  t5 : yb5 = true → ∃ u, yx5 = .tuple #[u, .int .i64 n, .int .i64 ec]
  t6 : yb6 = true → ∃ u, yx6 = .tuple #[u, .int .i64 n, .int .i64 ec]
  h0 : yb0 = true → yx0 = V0
  h1 : yb1 = true → yx1 = V1
  h2 : yb2 = true → yx2 = V2
  h3 : yb3 = true → yx3 = V3
  h4 : yb4 = true → yx4 = V4
  h5 : yb5 = true → TupN w0 yb10 yx10 w yx5 s' n ec
  h6 : yb6 = true → TupN w0 yb10 yx10 w yx6 s' n ec
  h7 : yb7 = true → SpdS (SXv w0 yb10 yx10) w yx7 s'
  h8 : yb8 = true → yx8 = V8
  h9 : yb9 = true → yx9 = V9
  h10 : yb10 = true → yb11 = false → ∃ k, yx10 = .pointer (some ⟨k, 0, none⟩) ∧ w0.heap.size ≤ k ∧ w.heap[k]? = some (.cells #[.int .i64 0, .slice none 0 0, .int .i64 0, .slice none 0 0, .slice none 0 0] 48 (0, 0))
  h11 : yb11 = true → SpNew w0 w yx10 s'
  h12 : yb12 = true → yx12 = V12
  h13 : yb13 = true → yx13 = V13
structure SdK (w0 : World) (Aa Ah Ak : Option Addr) (ca ch ck : Nat) (s s' : Sp) (R : Nat) (lo0 rb a ec : Int) (hl ll : List Pcl) (V0 V1 V2 V3 V4 V5 V6 V7 V14 V19 : Value) (ub0 ub1 ub2 ub3 ub4 ub5 ub6 ub7 ub8 ub9 ub10 ub11 ub12 ub13 ub14 ub15 ub16 ub17 ub18 ub19 : Bool) (ux0 ux1 ux2 ux3 ux4 ux5 ux6 ux7 ux8 ux9 ux10 ux11 ux12 ux13 ux14 ux15 ux16 ux17 ux18 ux19 : Value) (w : World) : Prop where
  be : Below w0.heap.size w0 w
  d4 : ub4 = true → ub3 = true
  d5 : ub5 = true → ub4 = true
  d6 : ub6 = true → ub2 = true ∧ ub5 = true
  d7 : ub7 = true → ub1 = true ∧ ub6 = true
  d8 : ub8 = true → ub7 = true
  d9 : ub9 = true → ub0 = true ∧ ub5 = true ∧ ub8 = true
  d10 : ub10 = true → ub9 = true
  d11 : ub11 = true → ub10 = true
  d12 : ub12 = true → ub10 = true
  d13 : ub13 = true → ub10 = true
  d14 : ub14 = true → ub10 = true
  d16 : ub16 = true → ub0 = true ∧ ub1 = true ∧ ub2 = true ∧ ub3 = true ∧ ub4 = true ∧ ub5 = true ∧ ub6 = true ∧ ub7 = true ∧ ub8 = true ∧ ub9 = true ∧ ub10 = true ∧ ub11 = true ∧ ub15 = true
  d17 : ub17 = true → ub0 = true ∧ ub1 = true ∧ ub2 = true ∧ ub3 = true ∧ ub4 = true ∧ ub5 = true ∧ ub6 = true ∧ ub7 = true ∧ ub8 = true ∧ ub9 = true ∧ ub10 = true ∧ ub11 = true ∧ ub12 = true ∧ ub15 = true ∧ ub16 = true
  d18 : ub18 = true → ub0 = true ∧ ub1 = true ∧ ub2 = true ∧ ub3 = true ∧ ub4 = true ∧ ub5 = true ∧ ub6 = true ∧ ub7 = true ∧ ub8 = true ∧ ub9 = true ∧ ub10 = true ∧ ub11 = true ∧ ub12 = true ∧ ub13 = true ∧ ub15 = true ∧ ub16 = true ∧ ub17 = true
  d19 : ub19 = true → ub0 = true ∧ ub1 = true ∧ ub2 = true ∧ ub3 = true ∧ ub4 = true ∧ ub5 = true ∧ ub6 = true ∧ ub7 = true ∧ ub8 = true ∧ ub9 = true ∧ ub10 = true ∧ ub11 = true ∧ ub12 = true ∧ ub13 = true ∧ ub14 = true ∧ ub15 = true ∧ ub16 = true ∧ ub17 = true ∧ ub18 = true
  t5 : ub9 = true → ∃ u v q, ux9 = .tuple #[u, v, q, .int .i64 ec]
  t6 : ub10 = true → ∃ u v q, ux10 = .tuple #[u, v, q, .int .i64 ec]
  h0 : ub0 = true → ux0 = V0
  h1 : ub1 = true → ux1 = V1
  h2 : ub2 = true → ux2 = V2
  h3 : ub3 = true → ux3 = V3
  h4 : ub4 = true → ux4 = V4
  h5 : ub5 = true → ux5 = V5
  h6 : ub6 = true → ux6 = V6
  h7 : ub7 = true → ux7 = V7
  h8 : ub8 = true → ub16 = false → RSl w w.heap.size ux8 [(lo0, lo0 + a)]
  h9 : ub9 = true → TupA w0 ub15 ux15 w ux9 s' hl ll ec
  h10 : ub10 = true → TupA w0 ub15 ux15 w ux10 s' hl ll ec
  h11 : ub11 = true → SpdS (SXv w0 ub15 ux15) w ux11 s'
  h12 : ub12 = true → PldS (SXv w0 ub15 ux15) w ux12 hl
  h13 : ub13 = true → PldS (SXv w0 ub15 ux15) w ux13 ll
  h14 : ub14 = true → ux14 = V14
  h15 : ub15 = true → ub16 = false → ∃ k, ux15 = .pointer (some ⟨k, 0, none⟩) ∧ w0.heap.size ≤ k ∧ w.heap[k]? = some (.cells #[.int .i64 0, .slice none 0 0, .int .i64 0, .slice none 0 0, .slice none 0 0] 48 (0, 0))
  h16 : ub16 = true → SpNew w0 w ux15 s'
  h17 : ub17 = true → PldS (SXv w0 ub15 ux15) w ux17 hl
  h18 : ub18 = true → PldS (SXv w0 ub15 ux15) w ux18 ll
  h19 : ub19 = true → ux19 = V19
structure SdO (w0 : World) (Aa Ah Ak : Option Addr) (ca ch ck : Nat) (s s' : Sp) (R : Nat) (T ra a : Int) (lo : List Pcl) (V0 V1 V2 V3 V4 V5 V10 V14 : Value) (tb0 tb1 tb2 tb3 tb4 tb5 tb6 tb7 tb8 tb9 tb10 tb11 tb12 tb13 tb14 : Bool) (tx0 tx1 tx2 tx3 tx4 tx5 tx6 tx7 tx8 tx9 tx10 tx11 tx12 tx13 tx14 : Value) (w : World) : Prop where
  be : Below w0.heap.size w0 w
  d3 : tb3 = true → tb2 = true
  d4 : tb4 = true → tb3 = true
  d5 : tb5 = true → tb4 = true
  d6 : tb6 = true → tb0 = true ∧ tb1 = true ∧ tb4 = true ∧ tb5 = true
  d7 : tb7 = true → tb6 = true
  d8 : tb8 = true → tb7 = true
  d9 : tb9 = true → tb7 = true
  d10 : tb10 = true → tb7 = true
  d12 : tb12 = true → tb0 = true ∧ tb1 = true ∧ tb2 = true ∧ tb3 = true ∧ tb4 = true ∧ tb5 = true ∧ tb6 = true ∧ tb7 = true ∧ tb8 = true ∧ tb11 = true
  d13 : tb13 = true → tb0 = true ∧ tb1 = true ∧ tb2 = true ∧ tb3 = true ∧ tb4 = true ∧ tb5 = true ∧ tb6 = true ∧ tb7 = true ∧ tb8 = true ∧ tb9 = true ∧ tb11 = true ∧ tb12 = true
  d14 : tb14 = true → tb0 = true ∧ tb1 = true ∧ tb2 = true ∧ tb3 = true ∧ tb4 = true ∧ tb5 = true ∧ tb6 = true ∧ tb7 = true ∧ tb8 = true ∧ tb9 = true ∧ tb10 = true ∧ tb11 = true ∧ tb12 = true ∧ tb13 = true
  t5 : tb6 = true → ∃ u v, tx6 = .tuple #[u, v, .int .i64 0]
  t6 : tb7 = true → ∃ u v, tx7 = .tuple #[u, v, .int .i64 0]
  h0 : tb0 = true → tx0 = V0
  h1 : tb1 = true → tx1 = V1
  h2 : tb2 = true → tx2 = V2
  h3 : tb3 = true → tx3 = V3
  h4 : tb4 = true → tx4 = V4
  h5 : tb5 = true → tx5 = V5
  h6 : tb6 = true → TupO w0 tb11 tx11 w tx6 s' lo 0
  h7 : tb7 = true → TupO w0 tb11 tx11 w tx7 s' lo 0
  h8 : tb8 = true → SpdS (SXv w0 tb11 tx11) w tx8 s'
  h9 : tb9 = true → PldS (SXv w0 tb11 tx11) w tx9 lo
  h10 : tb10 = true → tx10 = V10
  h11 : tb11 = true → tb12 = false → ∃ k, tx11 = .pointer (some ⟨k, 0, none⟩) ∧ w0.heap.size ≤ k ∧ w.heap[k]? = some (.cells #[.int .i64 0, .slice none 0 0, .int .i64 0, .slice none 0 0, .slice none 0 0] 48 (0, 0))
  h12 : tb12 = true → SpNew w0 w tx11 s'
  h13 : tb13 = true → PldS (SXv w0 tb11 tx11) w tx13 lo
  h14 : tb14 = true → tx14 = V14
/-- what 'spaced' answers -/
structure SpacedPost (w : World) (e : Ending) (w' : World) : Prop where
  be : Below w.heap.size w w'
  ex : ∃ (s : Sp) (E : Int → Option Int) (M n : Nat) (Aa Ah Ak : Option Addr) (ca ch ck : Nat) (D : DataW Unit), e = .returned (.tuple #[.agg #[.int .i64 s.next, .slice Aa s.sent.length ca, .int .i64 s.top, .slice Ah s.heard.length ch, .slice Ak s.skip.length ck], .map (some M), .bool true]) ∧ SpU (M + 1) w' (.agg #[.int .i64 s.next, .slice Aa s.sent.length ca, .int .i64 s.top, .slice Ah s.heard.length ch, .slice Ak s.skip.length ck]) s ∧ w'.ownsMap Try.prog 3 (plainElem Try.prog 3) M n D ∧ MapI D E ∧ OnI s E ∧ NoFr s ∧ s.next ≤ 30 ∧ w.heap.size ≤ M
set_option maxRecDepth 100000 in
set_option maxHeartbeats 60000000 in
theorem spaced_any (A : Option Addr) (len cap : Nat) (rs : List RawT) (W : World) (hr : RawRow W W.heap.size A rs) (hl : rs.length = len) (hlc : len ≤ cap) (hcm : cap ≤ maxLen) :
    Calls Try.prog 17 #[.slice A len cap] W (SpacedPost W) := by
  have HR := Lib.hid hr
  have HLN := Lib.hid hl
  obtain ⟨N, hN⟩ : ∃ N, min len 30 = N := ⟨_, rfl⟩
  have n1 : N ≤ 30 := by omega
  have n2 : N ≤ len := by omega
  have HSM := Lib.hid (fun w => smK_any 30 (by decide) A len cap w hlc hcm)
  rw [hN] at HSM
  have hcm' := hcm
  unfold maxLen at hcm'
  have Z0 := Lib.hid (heap_alloc_new W (.cells #[.int .i64 0, .slice none 0 0, .int .i64 0, .slice none 0 0, .slice none 0 0] 48))
  have B0 := Lib.hid ((Below.refl W.heap.size W).alloc (Nat.le_refl _) (.cells #[.int .i64 0, .slice none 0 0, .int .i64 0, .slice none 0 0, .slice none 0 0] 48))
  clear hr hl hN hcm
  have hmm := @run_makeMap Try.prog
  go_enter Try.func17, Try.ntmps17
  go_wp2_with fail
  refine (spBegin_any _).mono ?_
  rintro e w1 ⟨rfl, b1⟩
  have C1 := (Below.refl w1.heap.size w1).alloc (Nat.le_refl _) (.cells #[.int .i64 0, .slice none 0 0, .int .i64 (-1), .slice none 0 0, .slice none 0 0] 48)
  have X1 := heap_alloc_new w1 (.cells #[.int .i64 0, .slice none 0 0, .int .i64 (-1), .slice none 0 0, .slice none 0 0] 48)
  have D1 := b1.trans (C1.mono b1.size)
  have hw1 : W.heap.size + 1 ≤ w1.heap.size := by have := b1.size; simpa using this
  go_upto_region 4 with fail
  obtain ⟨V, hV⟩ : ∃ V, w1.heap.size = V := ⟨_, rfl⟩
  obtain ⟨W1, hW1⟩ : ∃ x, w1.alloc (.cells #[.int .i64 0, .slice none 0 0, .int .i64 (-1), .slice none 0 0, .slice none 0 0] 48) = x := ⟨_, rfl⟩
  have hM : W1.heap.size = V + 1 := by rw [← hW1, ← hV]; simp
  rw [hW1] at D1 X1
  rw [hV] at X1 hw1
  try rw [hW1]
  try rw [hV]
  have C2 := (Below.refl W1.heap.size W1).alloc (Nat.le_refl _) (.map #[] 0)
  have G0 : Hid (SpdK W W.heap.size V (V + 1) 0 ⟨0, [], -1, [], []⟩ (fun _ => none) none none none 0 0 0 (W1.alloc (.map #[] 0))) := Lib.hid ⟨(B0.out.trans (D1.mono B0.out.size)).trans (C2.mono (Nat.le_trans B0.out.size D1.size)), (C2.block _ (by rw [hM]; omega)).trans ((D1.block _ (by simp)).trans Z0.out), (C2.block _ (by rw [hM]; omega)).trans X1, (fun _ _ => ⟨_, _, _, rfl, PlSl.nil _ _, RSl.nil _ _, ISl.nil _ _⟩), _, (hM ▸ World.ownsMap_made W1 Try.prog 3 (plainElem Try.prog 3)), MapI.empty⟩
  have O0 := Lib.hid OnI.begin
  have F0 := Lib.hid NoFr.begin
  have HKV := Lib.hid (show W.heap.size < V from hw1)
  have HVM := Lib.hid (show V < V + 1 by omega)
  have HWV := Lib.hid (show W.heap.size ≤ V from Nat.le_of_lt hw1)
  obtain ⟨K0, hK0⟩ : ∃ K0, W.heap.size = K0 := ⟨_, rfl⟩
  obtain ⟨M, hMM⟩ : ∃ M, V + 1 = M := ⟨_, rfl⟩
  obtain ⟨W2, hW2⟩ : ∃ x, W1.alloc (.map #[] 0) = x := ⟨_, rfl⟩
  try simp only [hM]
  try rw [hW2]
  rw [hW2] at G0
  have HWM := Lib.hid (show W.heap.size ≤ V + 1 by have := HWV.out; omega)
  have HK0 := Lib.hid hK0
  rw [hK0] at G0 HKV
  rw [hMM] at G0 HVM HWM
  try rw [hMM]
  clear b1 C1 X1 D1 hW1 hM C2 hW2 hV hw1 hMM
  clear hmm
  go_wp2_with fail
  refine (HSM.out _).mono ?_
  rintro e w' ⟨rfl, rfl⟩
  go_wp2_with fail
  go_loopg [7, 32] N (fun gq tv iv wr => ∃ (kk : Nat) (now : Int) (s : Sp) (E : Int → Option Int) (n0 : Nat) (Aa Ah Ak : Option Addr) (ca ch ck : Nat), tv = .int .i64 now ∧ iv = .int .i64 (kk : Int) ∧ kk + gq = N ∧ 0 ≤ now ∧ now ≤ 2 * kk ∧ s.next ≤ kk ∧ n0 ≤ 100 * kk ∧ Hid (OnI s E) ∧ Hid (NoFr s) ∧ Hid (SpdK W K0 V M n0 s E Aa Ah Ak ca ch ck wr))
  case atStart => exact ⟨0, 0, _, _, 0, none, none, none, 0, 0, 0, rfl, rfl, by omega, by omega, by omega, by decide, by omega, O0, F0, G0⟩
  case round =>
    obtain ⟨kk, now, s, E, n0, Aa, Ah, Ak, ca, ch, ck, rfl, rfl, hkg, w0, w2, hnx, hn0, ON, NF, GK⟩ := hrel
    clear G0 O0 F0 Z0 B0
    obtain ⟨X0, hX0⟩ : ∃ X, X = wr := ⟨_, rfl⟩
    subst hX0
    by_cases hlt : kk < N
    · obtain ⟨b, off, hA, hbb, hc⟩ := HR.out (by rw [HLN.out]; omega)
      subst hA
      obtain ⟨c0, c1, c2, c3⟩ := hc kk (by rw [HLN.out]; omega)
      generalize rs.getD kk raw0 = r at c0 c1 c2 c3
      obtain ⟨kd, ra, rb, rt⟩ := r
      simp only at c0 c1 c2 c3
      have BK := GK.out.b
      have x0 := (BK.cell (p := ⟨b, off + kk * 4, none⟩) hbb).trans c0
      have x1 := (BK.cell (p := ⟨b, off + kk * 4 + 1, none⟩) hbb).trans c1
      have x2 := (BK.cell (p := ⟨b, off + kk * 4 + 2, none⟩) hbb).trans c2
      have x3 := (BK.cell (p := ⟨b, off + kk * 4 + 3, none⟩) hbb).trans c3
      clear c0 c1 c2 c3 hc BK
      have hkN : (kk : Int) < (N : Int) := by omega
      obtain ⟨T3, hT3⟩ : ∃ a, rb % 3 = a := ⟨_, rfl⟩
      have ht30 : 0 ≤ T3 := by omega
      have ht31 : T3 < 3 := by omega
      have HPT := Lib.hid (fun w => hT3 ▸ picked_any rb 3 (by decide) (by decide) w)
      obtain ⟨T, hT⟩ : ∃ T, now + T3 = T := ⟨_, rfl⟩
      have HTT := Lib.hid hT
      have hwT : IntKind.i64.wrap (now + T3) = T := by rw [IntKind.wrap_i64]; omega
      have t0 : 0 ≤ T := by omega
      have t1 : T ≤ 2 * (kk + 1 : Nat) := by omega
      obtain ⟨K, hK⟩ : ∃ K, kd % 6 = K := ⟨_, rfl⟩
      have hK0' : 0 ≤ K := by omega
      have hK1 : K < 6 := by omega
      have HPK := Lib.hid (fun w => hK ▸ picked_any kd 6 (by decide) (by decide) w)
      have XR := Lib.hid ((Below.refl X0.heap.size X0).alloc (Nat.le_refl _) (.cells #[.int .i64 kd, .int .i64 ra, .int .i64 rb, .string rt] 33))
      have RX := Lib.hid (heap_alloc_new X0 (.cells #[.int .i64 kd, .int .i64 ra, .int .i64 rb, .string rt] 33))
      have GX := Lib.hid (GK.out.on XR.out)
      have HWF := Lib.hid (spwf_of ON.out.ok NF.out)
      clear hK hT3 hT
      go_upto_region 7 with fail
      clear x0 x1 x2 x3
      obtain ⟨X, hX⟩ : ∃ w, X0.alloc (.cells #[.int .i64 kd, .int .i64 ra, .int .i64 rb, .string rt] 33) = w := ⟨_, rfl⟩
      obtain ⟨R, hR⟩ : ∃ R, X0.heap.size = R := ⟨_, rfl⟩
      rw [hX] at XR RX GX
      rw [hR] at RX
      try rw [hX]
      try rw [hR]
      clear hX hR GK XR
      obtain ⟨z0, z1, z2, z3⟩ := bk4R RX.out
      go_wp2_with fail
      refine (HPT.out _).mono ?_
      rintro e w' ⟨rfl, rfl⟩
      go_wp2_with fail
      refine (HPK.out _).mono ?_
      rintro e w' ⟨rfl, rfl⟩
      clear HPT HPK hwT z0 z1 z2 z3
      by_cases hK3 : K < 3
      · have h3 : K = 0 ∨ K = 1 ∨ K = 2 := by omega
        clear hK3 hK0' hK1
        rcases h3 with rfl | rfl | rfl
        · as_aux_lemma =>
            obtain ⟨a, ha⟩ : ∃ a, ra % 100 = a := ⟨_, rfl⟩
            have a0 : 0 ≤ a := by omega
            have a1 : a < 100 := by omega
            have HPA := Lib.hid (fun w => ha ▸ picked_any ra 100 (by decide) (by decide) w)
            obtain ⟨⟨s', n, ec⟩, hq⟩ : ∃ r, sendSp s T a [] = r := ⟨_, rfl⟩
            have HEQ := Lib.hid hq
            clear ha hq
            go_upto_region 21 with fail
            refine wp_region_inv (fun lis_ act_ wld_ => ∃ (sb0 sb1 sb2 sb3 sb4 sb5 sb6 sb7 sb8 sb9 sb10 sb11 sb12 sb13 : Bool) (sx0 sx1 sx2 sx3 sx4 sx5 sx6 sx7 sx8 sx9 sx10 sx11 sx12 sx13 : Value), lis_ = #[sb0, sb1, sb2, sb3, sb4, sb5, sb6, sb7, sb8, sb9, sb10, sb11, sb12, sb13] ∧ act_ = { tmps := #[Value.slice (some { block := b, off := off }) len cap, undef, Value.pointer (some { block := K0, off := 0 }), u3, u4, Value.pointer (some { block := V, off := 0 }), Value.map (some M), Value.int IntKind.i64 T, undef, Value.pointer (some { block := R, off := 0 }), sx10, sx12, sx13, u13, u14, u15, u16, u17, u18, u19, undef, u21, u22, u23, u24, undef, u26, Value.agg #[Value.int IntKind.i64 0, Value.slice none 0 0, Value.int IntKind.i64 (-1), Value.slice none 0 0, Value.slice none 0 0], Value.map (some M), Value.slice (some { block := b, off := off }) len cap, Value.slice (some { block := b, off := off }) N cap, Value.int IntKind.i64 ↑N, Value.int IntKind.i64 ↑kk, Value.bool true, Value.pointer (some { block := b, off := off + kk * 4 }), Value.agg #[Value.int IntKind.i64 kd, Value.int IntKind.i64 ra, Value.int IntKind.i64 rb, Value.string rt], Value.int IntKind.i64 now, Value.pointer (some { block := R, off := 2 }), Value.int IntKind.i64 rb, Value.int IntKind.i64 T3, Value.int IntKind.i64 T, Value.pointer (some { block := R, off := 0 }), Value.int IntKind.i64 kd, Value.int IntKind.i64 0, u44, u45, u46, u47, u48, u49, u50, u51, u52, u53, u54, u55, u56, u57, u58, u59, u60, u61, u62, u63, u64, u65, u66, u67, u68, u69, u70, u71, Value.bool true, Value.bool true, u74, u75, sx6, sx0, sx1, sx2, sx3, sx4, sx5, sx7, sx8, sx9, u86, u87, u88, u89, u90, u91, u92, u93, u94, u95, u96, u97, u98, u99, u100, u101, u102, u103, u104, u105, u106, u107, u108, u109, u110, u111, u112, u113, u114, u115, u116, u117, u118, u119, u120, u121, u122, u123, u124, u125, u126, u127, u128, u129, u130, u131, u132, u133, u134, u135, u136, u137, u138, u139, u140, u141, u142, undef, undef], defers := [] } ∧ SdA0 X Aa Ah Ak ca ch ck s s' R T ra a n ec (.agg #[.int .i64 s.next, .slice Aa s.sent.length ca, .int .i64 s.top, .slice Ah s.heard.length ch, .slice Ak s.skip.length ck]) (.int .i64 T) (.pointer (some ⟨R, 1, none⟩)) (.int .i64 ra) (.int .i64 a) (.int .i64 n) (.int .i64 ec) (.int .i64 n) (.int .i64 ec) sb0 sb1 sb2 sb3 sb4 sb5 sb6 sb7 sb8 sb9 sb10 sb11 sb12 sb13 sx0 sx1 sx2 sx3 sx4 sx5 sx6 sx7 sx8 sx9 sx10 sx11 sx12 sx13 wld_) (by kernel_rfl) ?h0 ?hfin ?hI
            case h0 => exact ⟨_, _, _, _, _, _, _, _, _, _, _, _, _, _, _, _, _, _, _, _, _, _, _, _, _, undef, _, _, rfl, rfl, ⟨(Below.refl _ _).drew, (fun h => by cases h), (fun h => by cases h), (fun h => by cases h), (fun h => by cases h), (fun h => by cases h), (fun h => by cases h), (fun h => by cases h), (fun h => by cases h), (fun h => by cases h), (fun h => by cases h), (fun h => by cases h), (fun h => by cases h), (fun h => by cases h), (fun h => by cases h), (fun h => by cases h), (fun h => by cases h), (fun h => by cases h), (fun h => by cases h), (fun h => by cases h), (fun h => by cases h), (fun h => by cases h), (fun h => by cases h), (fun h => by cases h), (fun h => by cases h), (fun h => by cases h), (fun h => by cases h)⟩⟩
            case hI =>
              rintro listed a w ⟨sb0, sb1, sb2, sb3, sb4, sb5, sb6, sb7, sb8, sb9, sb10, sb11, sb12, sb13, sx0, sx1, sx2, sx3, sx4, sx5, sx6, sx7, sx8, sx9, sx10, sx11, sx12, sx13, rfl, rfl, H⟩ i hi
              obtain ⟨hun, oj, hoj, hall⟩ := mem_ready.1 hi
              clear hi
              rcases i with _ | _ | _ | _ | _ | _ | _ | _ | _ | _ | _ | _ | _ | _ | i
              · have ho := hoj
                simp only [List.getElem?_toArray, List.getElem?_cons_zero, Option.some.injEq] at hoj
                subst hoj
                obtain rfl : sb0 = false := hun
                clear hall
                obtain rfl : sb5 = false := Bool.eq_false_iff.2 fun h => Bool.false_ne_true (H.d5 h).1
                obtain rfl : sb6 = false := Bool.eq_false_iff.2 fun h => Bool.false_ne_true (H.d6 h)
                obtain rfl : sb7 = false := Bool.eq_false_iff.2 fun h => Bool.false_ne_true (H.d7 h)
                obtain rfl : sb8 = false := Bool.eq_false_iff.2 fun h => Bool.false_ne_true (H.d8 h)
                obtain rfl : sb9 = false := Bool.eq_false_iff.2 fun h => Bool.false_ne_true (H.d9 h)
                obtain rfl : sb11 = false := Bool.eq_false_iff.2 fun h => Bool.false_ne_true (H.d11 h).1
                obtain rfl : sb12 = false := Bool.eq_false_iff.2 fun h => Bool.false_ne_true (H.d12 h).1
                obtain rfl : sb13 = false := Bool.eq_false_iff.2 fun h => Bool.false_ne_true (H.d13 h).1
                have hbe := H.be
                have hx_t5 := H.t5
                have hx_t6 := H.t6
                obtain ⟨q0, q1, q2, q3, q4⟩ := sp5 ((hbe.block _ (lt_of_block GX.out.x)).trans GX.out.x)
                refine wpOp_step ho (fun K' hK => ?_)
                have HK := Lib.hid hK
                clear hK ho
                go_simp
                exact HK.out _ _ ⟨_, _, _, _, _, _, _, _, _, _, _, _, _, _, _, _, _, _, _, _, _, _, _, _, _, sx11, _, _, rfl, rfl, ⟨hbe, H.d3, H.d4, (fun h => by cases h), H.d6, H.d7, H.d8, H.d9, (fun h => by cases h), (fun h => by cases h), (fun h => by cases h), H.t5, H.t6, (fun _ => rfl), H.h1, H.h2, H.h3, H.h4, (fun h => by cases h), (fun h => by cases h), (fun h => by cases h), H.h8, H.h9, H.h10, (fun h => by cases h), H.h12, H.h13⟩⟩
              · have ho := hoj
                simp only [List.getElem?_toArray, List.getElem?_cons_succ, List.getElem?_cons_zero, Option.some.injEq] at hoj
                subst hoj
                obtain rfl : sb1 = false := hun
                clear hall
                obtain rfl : sb5 = false := Bool.eq_false_iff.2 fun h => Bool.false_ne_true (H.d5 h).2.1
                obtain rfl : sb6 = false := Bool.eq_false_iff.2 fun h => Bool.false_ne_true (H.d6 h)
                obtain rfl : sb7 = false := Bool.eq_false_iff.2 fun h => Bool.false_ne_true (H.d7 h)
                obtain rfl : sb8 = false := Bool.eq_false_iff.2 fun h => Bool.false_ne_true (H.d8 h)
                obtain rfl : sb9 = false := Bool.eq_false_iff.2 fun h => Bool.false_ne_true (H.d9 h)
                obtain rfl : sb11 = false := Bool.eq_false_iff.2 fun h => Bool.false_ne_true (H.d11 h).2.1
                obtain rfl : sb12 = false := Bool.eq_false_iff.2 fun h => Bool.false_ne_true (H.d12 h).2.1
                obtain rfl : sb13 = false := Bool.eq_false_iff.2 fun h => Bool.false_ne_true (H.d13 h).2.1
                have hbe := H.be
                have hx_t5 := H.t5
                have hx_t6 := H.t6
                refine wpOp_step ho (fun K' hK => ?_)
                have HK := Lib.hid hK
                clear hK ho
                go_simp
                exact HK.out _ _ ⟨_, _, _, _, _, _, _, _, _, _, _, _, _, _, _, _, _, _, _, _, _, _, _, _, _, sx11, _, _, rfl, rfl, ⟨hbe, H.d3, H.d4, (fun h => by cases h), H.d6, H.d7, H.d8, H.d9, (fun h => by cases h), (fun h => by cases h), (fun h => by cases h), H.t5, H.t6, H.h0, (fun _ => rfl), H.h2, H.h3, H.h4, (fun h => by cases h), (fun h => by cases h), (fun h => by cases h), H.h8, H.h9, H.h10, (fun h => by cases h), H.h12, H.h13⟩⟩
              · have ho := hoj
                simp only [List.getElem?_toArray, List.getElem?_cons_succ, List.getElem?_cons_zero, Option.some.injEq] at hoj
                subst hoj
                obtain rfl : sb2 = false := hun
                clear hall
                obtain rfl : sb3 = false := Bool.eq_false_iff.2 fun h => Bool.false_ne_true (H.d3 h)
                obtain rfl : sb4 = false := Bool.eq_false_iff.2 fun h => Bool.false_ne_true (H.d4 h)
                obtain rfl : sb5 = false := Bool.eq_false_iff.2 fun h => Bool.false_ne_true (H.d5 h).2.2
                obtain rfl : sb6 = false := Bool.eq_false_iff.2 fun h => Bool.false_ne_true (H.d6 h)
                obtain rfl : sb7 = false := Bool.eq_false_iff.2 fun h => Bool.false_ne_true (H.d7 h)
                obtain rfl : sb8 = false := Bool.eq_false_iff.2 fun h => Bool.false_ne_true (H.d8 h)
                obtain rfl : sb9 = false := Bool.eq_false_iff.2 fun h => Bool.false_ne_true (H.d9 h)
                obtain rfl : sb11 = false := Bool.eq_false_iff.2 fun h => Bool.false_ne_true (H.d11 h).2.2.1
                obtain rfl : sb12 = false := Bool.eq_false_iff.2 fun h => Bool.false_ne_true (H.d12 h).2.2.1
                obtain rfl : sb13 = false := Bool.eq_false_iff.2 fun h => Bool.false_ne_true (H.d13 h).2.2.1
                have hbe := H.be
                have hx_t5 := H.t5
                have hx_t6 := H.t6
                refine wpOp_step ho (fun K' hK => ?_)
                have HK := Lib.hid hK
                clear hK ho
                go_simp
                exact HK.out _ _ ⟨_, _, _, _, _, _, _, _, _, _, _, _, _, _, _, _, _, _, _, _, _, _, _, _, _, sx11, _, _, rfl, rfl, ⟨hbe, (fun h => by cases h), H.d4, H.d5, H.d6, H.d7, H.d8, H.d9, (fun h => by cases h), (fun h => by cases h), (fun h => by cases h), H.t5, H.t6, H.h0, H.h1, (fun _ => rfl), H.h3, H.h4, (fun h => by cases h), (fun h => by cases h), (fun h => by cases h), H.h8, H.h9, H.h10, (fun h => by cases h), H.h12, H.h13⟩⟩
              · have ho := hoj
                simp only [List.getElem?_toArray, List.getElem?_cons_succ, List.getElem?_cons_zero, Option.some.injEq] at hoj
                subst hoj
                obtain rfl : sb3 = false := hun
                obtain rfl : sb2 = true := hall ⟨2, .data⟩ (by simp) (by kernel_rfl)
                clear hall
                obtain rfl : sb4 = false := Bool.eq_false_iff.2 fun h => Bool.false_ne_true (H.d4 h)
                obtain rfl : sb5 = false := Bool.eq_false_iff.2 fun h => Bool.false_ne_true (H.d5 h).2.2
                obtain rfl : sb6 = false := Bool.eq_false_iff.2 fun h => Bool.false_ne_true (H.d6 h)
                obtain rfl : sb7 = false := Bool.eq_false_iff.2 fun h => Bool.false_ne_true (H.d7 h)
                obtain rfl : sb8 = false := Bool.eq_false_iff.2 fun h => Bool.false_ne_true (H.d8 h)
                obtain rfl : sb9 = false := Bool.eq_false_iff.2 fun h => Bool.false_ne_true (H.d9 h)
                obtain rfl : sb11 = false := Bool.eq_false_iff.2 fun h => Bool.false_ne_true (H.d11 h).2.2.2.1
                obtain rfl : sb12 = false := Bool.eq_false_iff.2 fun h => Bool.false_ne_true (H.d12 h).2.2.2.1
                obtain rfl : sb13 = false := Bool.eq_false_iff.2 fun h => Bool.false_ne_true (H.d13 h).2.2.2.1
                have hbe := H.be
                have hx_t5 := H.t5
                have hx_t6 := H.t6
                obtain rfl := H.h2 rfl
                obtain ⟨z0, z1, z2, z3⟩ := bk4R ((hbe.block _ (lt_of_block RX.out)).trans RX.out)
                refine wpOp_step ho (fun K' hK => ?_)
                have HK := Lib.hid hK
                clear hK ho
                go_simp
                exact HK.out _ _ ⟨_, _, _, _, _, _, _, _, _, _, _, _, _, _, _, _, _, _, _, _, _, _, _, _, _, sx11, _, _, rfl, rfl, ⟨hbe, (fun _ => rfl), (fun h => by cases h), H.d5, H.d6, H.d7, H.d8, H.d9, (fun h => by cases h), (fun h => by cases h), (fun h => by cases h), H.t5, H.t6, H.h0, H.h1, H.h2, (fun _ => rfl), H.h4, (fun h => by cases h), (fun h => by cases h), (fun h => by cases h), H.h8, H.h9, H.h10, (fun h => by cases h), H.h12, H.h13⟩⟩
              · have ho := hoj
                simp only [List.getElem?_toArray, List.getElem?_cons_succ, List.getElem?_cons_zero, Option.some.injEq] at hoj
                subst hoj
                obtain rfl : sb4 = false := hun
                obtain rfl : sb3 = true := hall ⟨3, .data⟩ (by simp) (by kernel_rfl)
                obtain rfl : sb2 = true := (H.d3 rfl)
                clear hall
                obtain rfl : sb5 = false := Bool.eq_false_iff.2 fun h => Bool.false_ne_true (H.d5 h).2.2
                obtain rfl : sb6 = false := Bool.eq_false_iff.2 fun h => Bool.false_ne_true (H.d6 h)
                obtain rfl : sb7 = false := Bool.eq_false_iff.2 fun h => Bool.false_ne_true (H.d7 h)
                obtain rfl : sb8 = false := Bool.eq_false_iff.2 fun h => Bool.false_ne_true (H.d8 h)
                obtain rfl : sb9 = false := Bool.eq_false_iff.2 fun h => Bool.false_ne_true (H.d9 h)
                obtain rfl : sb11 = false := Bool.eq_false_iff.2 fun h => Bool.false_ne_true (H.d11 h).2.2.2.2.1
                obtain rfl : sb12 = false := Bool.eq_false_iff.2 fun h => Bool.false_ne_true (H.d12 h).2.2.2.2.1
                obtain rfl : sb13 = false := Bool.eq_false_iff.2 fun h => Bool.false_ne_true (H.d13 h).2.2.2.2.1
                have hbe := H.be
                have hx_t5 := H.t5
                have hx_t6 := H.t6
                obtain rfl := H.h2 rfl
                obtain rfl := H.h3 rfl
                refine wpOp_step ho (fun K' hK => ?_)
                have HK := Lib.hid hK
                clear hK ho
                go_wp2_with (go_at_call 11; refine (HPA.out _).mono ?_; rintro e w' ⟨rfl, rfl⟩)
                exact HK.out _ _ ⟨_, _, _, _, _, _, _, _, _, _, _, _, _, _, _, _, _, _, _, _, _, _, _, _, _, sx11, _, _, rfl, rfl, ⟨hbe, H.d3, (fun _ => rfl), (fun h => by cases h), H.d6, H.d7, H.d8, H.d9, (fun h => by cases h), (fun h => by cases h), (fun h => by cases h), H.t5, H.t6, H.h0, H.h1, H.h2, H.h3, (fun _ => rfl), (fun h => by cases h), (fun h => by cases h), (fun h => by cases h), H.h8, H.h9, H.h10, (fun h => by cases h), H.h12, H.h13⟩⟩
              · have ho := hoj
                simp only [List.getElem?_toArray, List.getElem?_cons_succ, List.getElem?_cons_zero, Option.some.injEq] at hoj
                subst hoj
                obtain rfl : sb5 = false := hun
                obtain rfl : sb0 = true := hall ⟨0, .data⟩ (by simp) (by kernel_rfl)
                obtain rfl : sb1 = true := hall ⟨1, .data⟩ (by simp) (by kernel_rfl)
                obtain rfl : sb4 = true := hall ⟨4, .data⟩ (by simp) (by kernel_rfl)
                obtain rfl : sb3 = true := (H.d4 rfl)
                obtain rfl : sb2 = true := (H.d3 rfl)
                clear hall
                obtain rfl : sb6 = false := Bool.eq_false_iff.2 fun h => Bool.false_ne_true (H.d6 h)
                obtain rfl : sb7 = false := Bool.eq_false_iff.2 fun h => Bool.false_ne_true (H.d7 h)
                obtain rfl : sb8 = false := Bool.eq_false_iff.2 fun h => Bool.false_ne_true (H.d8 h)
                obtain rfl : sb9 = false := Bool.eq_false_iff.2 fun h => Bool.false_ne_true (H.d9 h)
                obtain rfl : sb11 = false := Bool.eq_false_iff.2 fun h => Bool.false_ne_true (H.d11 h).2.2.2.2.2.1
                obtain rfl : sb12 = false := Bool.eq_false_iff.2 fun h => Bool.false_ne_true (H.d12 h).2.2.2.2.2.1
                obtain rfl : sb13 = false := Bool.eq_false_iff.2 fun h => Bool.false_ne_true (H.d13 h).2.2.2.2.2.1
                have hbe := H.be
                have hx_t5 := H.t5
                have hx_t6 := H.t6
                obtain rfl := H.h0 rfl
                obtain rfl := H.h1 rfl
                obtain rfl := H.h2 rfl
                obtain rfl := H.h3 rfl
                obtain rfl := H.h4 rfl
                refine wpOp_step ho (fun K' hK => ?_)
                have HK := Lib.hid hK
                clear hK ho
                go_wp2_with fail
                refine (spSend_any _ (.slice none 0 0) s T a [] w (StS.on GX.out.v (KpS.below hbe)).now HWF.out (FsSl.nil _ _) frs0_wf).mono ?_
                rintro e w1 hr
                have BC := Lib.hid hr.be
                obtain ⟨u1, rfl, hu1⟩ := hr.ex
                rw [HEQ.out] at hu1 ⊢
                have UC := Lib.hid (show TupN X sb10 sx10 w1 _ s' n ec from ⟨u1, rfl, hu1.toX hbe.size (fun hb => let ⟨k, e1, _, e3⟩ := H.h10 hb rfl; ⟨k, e1, lt_of_block e3⟩)⟩)
                clear hr hu1
                go_wp2_with fail
                exact HK.out _ _ ⟨_, _, _, _, _, _, _, _, _, _, _, _, _, _, _, _, _, _, _, _, _, _, _, _, _, sx11, _, _, rfl, rfl, ⟨hbe.trans (BC.out.mono hbe.size), H.d3, H.d4, (fun _ => ⟨rfl, rfl, rfl⟩), (fun h => by cases h), H.d7, H.d8, H.d9, (fun h => by cases h), (fun h => by cases h), (fun h => by cases h), fun _ => ⟨_, rfl⟩, hx_t6, H.h0, H.h1, H.h2, H.h3, H.h4, (fun _ => UC.out), (fun h => by cases h), (fun h => by cases h), H.h8, H.h9, (fun e f => let ⟨k, e1, e2, e3⟩ := (H.h10 e f); ⟨k, e1, e2, (BC.out.block _ (lt_of_block e3)).trans e3⟩), (fun h => by cases h), H.h12, H.h13⟩⟩
              · have ho := hoj
                simp only [List.getElem?_toArray, List.getElem?_cons_succ, List.getElem?_cons_zero, Option.some.injEq] at hoj
                subst hoj
                obtain rfl : sb6 = false := hun
                obtain rfl : sb5 = true := hall ⟨5, .data⟩ (by simp) (by kernel_rfl)
                obtain rfl : sb0 = true := (H.d5 rfl).1
                obtain rfl : sb1 = true := (H.d5 rfl).2.1
                obtain rfl : sb4 = true := (H.d5 rfl).2.2
                obtain rfl : sb3 = true := (H.d4 rfl)
                obtain rfl : sb2 = true := (H.d3 rfl)
                clear hall
                obtain rfl : sb7 = false := Bool.eq_false_iff.2 fun h => Bool.false_ne_true (H.d7 h)
                obtain rfl : sb8 = false := Bool.eq_false_iff.2 fun h => Bool.false_ne_true (H.d8 h)
                obtain rfl : sb9 = false := Bool.eq_false_iff.2 fun h => Bool.false_ne_true (H.d9 h)
                obtain rfl : sb11 = false := Bool.eq_false_iff.2 fun h => Bool.false_ne_true (H.d11 h).2.2.2.2.2.2.1
                obtain rfl : sb12 = false := Bool.eq_false_iff.2 fun h => Bool.false_ne_true (H.d12 h).2.2.2.2.2.2.1
                obtain rfl : sb13 = false := Bool.eq_false_iff.2 fun h => Bool.false_ne_true (H.d13 h).2.2.2.2.2.2.1
                have hbe := H.be
                have hx_t5 := H.t5
                have hx_t6 := H.t6
                obtain rfl := H.h0 rfl
                obtain rfl := H.h1 rfl
                obtain rfl := H.h2 rfl
                obtain rfl := H.h3 rfl
                obtain rfl := H.h4 rfl
                have P5 := H.h5 rfl
                have PT := Lib.hid P5
                have TT := Lib.hid (H.t5 rfl)
                clear P5
                refine wpOp_step ho (fun K' hK => ?_)
                have HK := Lib.hid hK
                clear hK ho
                go_simp
                exact HK.out _ _ ⟨_, _, _, _, _, _, _, _, _, _, _, _, _, _, _, _, _, _, _, _, _, _, _, _, _, sx11, _, _, rfl, rfl, ⟨hbe, H.d3, H.d4, H.d5, (fun _ => rfl), (fun h => by cases h), (fun h => by cases h), (fun h => by cases h), (fun h => by cases h), (fun h => by cases h), (fun h => by cases h), H.t5, fun _ => TT.out, H.h0, H.h1, H.h2, H.h3, H.h4, H.h5, (fun _ => PT.out), (fun h => by cases h), H.h8, H.h9, H.h10, (fun h => by cases h), H.h12, H.h13⟩⟩
              · have ho := hoj
                simp only [List.getElem?_toArray, List.getElem?_cons_succ, List.getElem?_cons_zero, Option.some.injEq] at hoj
                subst hoj
                obtain rfl : sb7 = false := hun
                obtain rfl : sb6 = true := hall ⟨6, .data⟩ (by simp) (by kernel_rfl)
                obtain rfl : sb5 = true := (H.d6 rfl)
                obtain rfl : sb0 = true := (H.d5 rfl).1
                obtain rfl : sb1 = true := (H.d5 rfl).2.1
                obtain rfl : sb4 = true := (H.d5 rfl).2.2
                obtain rfl : sb3 = true := (H.d4 rfl)
                obtain rfl : sb2 = true := (H.d3 rfl)
                clear hall
                obtain rfl : sb11 = false := Bool.eq_false_iff.2 fun h => Bool.false_ne_true (H.d11 h).2.2.2.2.2.2.2.1
                obtain rfl : sb12 = false := Bool.eq_false_iff.2 fun h => Bool.false_ne_true (H.d12 h).2.2.2.2.2.2.2.1
                obtain rfl : sb13 = false := Bool.eq_false_iff.2 fun h => Bool.false_ne_true (H.d13 h).2.2.2.2.2.2.2.1
                have hbe := H.be
                have hx_t5 := H.t5
                have hx_t6 := H.t6
                obtain rfl := H.h0 rfl
                obtain rfl := H.h1 rfl
                obtain rfl := H.h2 rfl
                obtain rfl := H.h3 rfl
                obtain rfl := H.h4 rfl
                have P5 := H.h5 rfl
                have P6 := H.h6 rfl
                obtain ⟨u, rfl, hu⟩ := P6.ex
                have HU := Lib.hid hu
                clear hu
                refine wpOp_step ho (fun K' hK => ?_)
                have HK := Lib.hid hK
                clear hK ho
                go_simp
                exact HK.out _ _ ⟨_, _, _, _, _, _, _, _, _, _, _, _, _, _, _, _, _, _, _, _, _, _, _, _, _, sx11, _, _, rfl, rfl, ⟨hbe, H.d3, H.d4, H.d5, H.d6, (fun _ => rfl), H.d8, H.d9, (fun h => by cases h), (fun h => by cases h), (fun h => by cases h), H.t5, H.t6, H.h0, H.h1, H.h2, H.h3, H.h4, H.h5, H.h6, (fun _ => HU.out), H.h8, H.h9, H.h10, (fun h => by cases h), H.h12, H.h13⟩⟩
              · have ho := hoj
                simp only [List.getElem?_toArray, List.getElem?_cons_succ, List.getElem?_cons_zero, Option.some.injEq] at hoj
                subst hoj
                obtain rfl : sb8 = false := hun
                obtain rfl : sb6 = true := hall ⟨6, .data⟩ (by simp) (by kernel_rfl)
                obtain rfl : sb5 = true := (H.d6 rfl)
                obtain rfl : sb0 = true := (H.d5 rfl).1
                obtain rfl : sb1 = true := (H.d5 rfl).2.1
                obtain rfl : sb4 = true := (H.d5 rfl).2.2
                obtain rfl : sb3 = true := (H.d4 rfl)
                obtain rfl : sb2 = true := (H.d3 rfl)
                clear hall
                obtain rfl : sb12 = false := Bool.eq_false_iff.2 fun h => Bool.false_ne_true (H.d12 h).2.2.2.2.2.2.2.2.1
                obtain rfl : sb13 = false := Bool.eq_false_iff.2 fun h => Bool.false_ne_true (H.d13 h).2.2.2.2.2.2.2.2.1
                have hbe := H.be
                have hx_t5 := H.t5
                have hx_t6 := H.t6
                obtain rfl := H.h0 rfl
                obtain rfl := H.h1 rfl
                obtain rfl := H.h2 rfl
                obtain rfl := H.h3 rfl
                obtain rfl := H.h4 rfl
                have P5 := H.h5 rfl
                have P6 := H.h6 rfl
                obtain ⟨u, rfl⟩ := H.t6 rfl
                refine wpOp_step ho (fun K' hK => ?_)
                have HK := Lib.hid hK
                clear hK ho
                go_simp
                exact HK.out _ _ ⟨_, _, _, _, _, _, _, _, _, _, _, _, _, _, _, _, _, _, _, _, _, _, _, _, _, sx11, _, _, rfl, rfl, ⟨hbe, H.d3, H.d4, H.d5, H.d6, H.d7, (fun _ => rfl), H.d9, H.d11, (fun h => by cases h), (fun h => by cases h), H.t5, H.t6, H.h0, H.h1, H.h2, H.h3, H.h4, H.h5, H.h6, H.h7, (fun _ => rfl), H.h9, H.h10, H.h11, H.h12, H.h13⟩⟩
              · have ho := hoj
                simp only [List.getElem?_toArray, List.getElem?_cons_succ, List.getElem?_cons_zero, Option.some.injEq] at hoj
                subst hoj
                obtain rfl : sb9 = false := hun
                obtain rfl : sb6 = true := hall ⟨6, .data⟩ (by simp) (by kernel_rfl)
                obtain rfl : sb5 = true := (H.d6 rfl)
                obtain rfl : sb0 = true := (H.d5 rfl).1
                obtain rfl : sb1 = true := (H.d5 rfl).2.1
                obtain rfl : sb4 = true := (H.d5 rfl).2.2
                obtain rfl : sb3 = true := (H.d4 rfl)
                obtain rfl : sb2 = true := (H.d3 rfl)
                clear hall
                obtain rfl : sb13 = false := Bool.eq_false_iff.2 fun h => Bool.false_ne_true (H.d13 h).2.2.2.2.2.2.2.2.2.1
                have hbe := H.be
                have hx_t5 := H.t5
                have hx_t6 := H.t6
                obtain rfl := H.h0 rfl
                obtain rfl := H.h1 rfl
                obtain rfl := H.h2 rfl
                obtain rfl := H.h3 rfl
                obtain rfl := H.h4 rfl
                have P5 := H.h5 rfl
                have P6 := H.h6 rfl
                obtain ⟨u, rfl⟩ := H.t6 rfl
                refine wpOp_step ho (fun K' hK => ?_)
                have HK := Lib.hid hK
                clear hK ho
                go_simp
                exact HK.out _ _ ⟨_, _, _, _, _, _, _, _, _, _, _, _, _, _, _, _, _, _, _, _, _, _, _, _, _, sx11, _, _, rfl, rfl, ⟨hbe, H.d3, H.d4, H.d5, H.d6, H.d7, H.d8, (fun _ => rfl), H.d11, H.d12, (fun h => by cases h), H.t5, H.t6, H.h0, H.h1, H.h2, H.h3, H.h4, H.h5, H.h6, H.h7, H.h8, (fun _ => rfl), H.h10, H.h11, H.h12, H.h13⟩⟩
              · have ho := hoj
                simp only [List.getElem?_toArray, List.getElem?_cons_succ, List.getElem?_cons_zero, Option.some.injEq] at hoj
                subst hoj
                obtain rfl : sb10 = false := hun
                clear hall
                obtain rfl : sb11 = false := Bool.eq_false_iff.2 fun h => Bool.false_ne_true (H.d11 h).2.2.2.2.2.2.2.2
                obtain rfl : sb12 = false := Bool.eq_false_iff.2 fun h => Bool.false_ne_true (H.d12 h).2.2.2.2.2.2.2.2.2.1
                obtain rfl : sb13 = false := Bool.eq_false_iff.2 fun h => Bool.false_ne_true (H.d13 h).2.2.2.2.2.2.2.2.2.2.1
                have hbe := H.be
                have hx_t5 := H.t5
                have hx_t6 := H.t6
                have BA := Lib.hid ((Below.refl w.heap.size w).alloc (Nat.le_refl _) (.cells #[.int .i64 0, .slice none 0 0, .int .i64 0, .slice none 0 0, .slice none 0 0] 48))
                have NA := Lib.hid (heap_alloc_new w (.cells #[.int .i64 0, .slice none 0 0, .int .i64 0, .slice none 0 0, .slice none 0 0] 48))
                have hsz := hbe.size
                refine wpOp_step ho (fun K' hK => ?_)
                have HK := Lib.hid hK
                clear hK ho
                go_simp
                exact HK.out _ _ ⟨_, _, _, _, _, _, _, _, _, _, _, _, _, _, _, _, _, _, _, _, _, _, _, _, _, sx11, _, _, rfl, rfl, ⟨hbe.trans (BA.out.mono hbe.size), H.d3, H.d4, H.d5, H.d6, H.d7, H.d8, H.d9, (fun h => by cases h), (fun h => by cases h), (fun h => by cases h), hx_t5, hx_t6, H.h0, H.h1, H.h2, H.h3, H.h4, (fun e => (H.h5 e).made BA.out), (fun e => (H.h6 e).made BA.out), (fun e => StS.made (H.h7 e) BA.out), H.h8, H.h9, (fun _ _ => ⟨_, rfl, hsz, NA.out⟩), (fun h => by cases h), H.h12, H.h13⟩⟩
              · have ho := hoj
                simp only [List.getElem?_toArray, List.getElem?_cons_succ, List.getElem?_cons_zero, Option.some.injEq] at hoj
                subst hoj
                obtain rfl : sb11 = false := hun
                obtain rfl : sb0 = true := hall ⟨0, .phase⟩ (by simp) (by kernel_rfl)
                obtain rfl : sb1 = true := hall ⟨1, .phase⟩ (by simp) (by kernel_rfl)
                obtain rfl : sb2 = true := hall ⟨2, .phase⟩ (by simp) (by kernel_rfl)
                obtain rfl : sb3 = true := hall ⟨3, .phase⟩ (by simp) (by kernel_rfl)
                obtain rfl : sb4 = true := hall ⟨4, .phase⟩ (by simp) (by kernel_rfl)
                obtain rfl : sb5 = true := hall ⟨5, .chain⟩ (by simp) (by kernel_rfl)
                obtain rfl : sb6 = true := hall ⟨6, .phase⟩ (by simp) (by kernel_rfl)
                obtain rfl : sb7 = true := hall ⟨7, .data⟩ (by simp) (by kernel_rfl)
                obtain rfl : sb10 = true := hall ⟨10, .data⟩ (by simp) (by kernel_rfl)
                clear hall
                obtain rfl : sb12 = false := Bool.eq_false_iff.2 fun h => Bool.false_ne_true (H.d12 h).2.2.2.2.2.2.2.2.2.2
                obtain rfl : sb13 = false := Bool.eq_false_iff.2 fun h => Bool.false_ne_true (H.d13 h).2.2.2.2.2.2.2.2.2.2.2.1
                have hbe := H.be
                have hx_t5 := H.t5
                have hx_t6 := H.t6
                obtain rfl := H.h0 rfl
                obtain rfl := H.h1 rfl
                obtain rfl := H.h2 rfl
                obtain rfl := H.h3 rfl
                obtain rfl := H.h4 rfl
                have P5 := H.h5 rfl
                have P6 := H.h6 rfl
                have P7 := H.h7 rfl
                have P10 := H.h10 rfl rfl
                obtain ⟨k, rfl, hk0, hk⟩ := P10
                have hu := Lib.hid P7
                obtain ⟨Na, Nh, Nk, na, nh, nk, rfl⟩ := SpdS.slices P7
                obtain ⟨n1, n2⟩ := spnew_put hk hk0 hbe hu.out
                have NV := Lib.hid n1
                have HKP := Lib.hid n2
                have BV := Lib.hid (show Below X.heap.size X _ from let ⟨_, _, _, _, _, _, _, _, _, _, _, e⟩ := n1.ex; e)
                obtain ⟨q0, q1, q2, q3, q4⟩ := sp5 hk
                have qf := fun i => bk_frz hk i
                clear hk n1 n2
                refine wpOp_step ho (fun K' hK => ?_)
                have HK := Lib.hid hK
                clear hK ho
                go_simp
                exact HK.out _ _ ⟨_, _, _, _, _, _, _, _, _, _, _, _, _, _, _, _, _, _, _, _, _, _, _, _, _, sx11, _, _, rfl, rfl, ⟨BV.out, H.d3, H.d4, H.d5, H.d6, H.d7, H.d8, H.d9, (fun _ => ⟨rfl, rfl, rfl, rfl, rfl, rfl, rfl, rfl, rfl⟩), (fun h => by cases h), (fun h => by cases h), H.t5, H.t6, H.h0, H.h1, H.h2, H.h3, H.h4, (fun e => (H.h5 e).kp HKP.out), (fun e => (H.h6 e).kp HKP.out), (fun e => StS.on (H.h7 e) HKP.out), H.h8, H.h9, (fun _ h => by cases h), (fun _ => NV.out), H.h12, H.h13⟩⟩
              · have ho := hoj
                simp only [List.getElem?_toArray, List.getElem?_cons_succ, List.getElem?_cons_zero, Option.some.injEq] at hoj
                subst hoj
                obtain rfl : sb12 = false := hun
                obtain rfl : sb0 = true := hall ⟨0, .phase⟩ (by simp) (by kernel_rfl)
                obtain rfl : sb1 = true := hall ⟨1, .phase⟩ (by simp) (by kernel_rfl)
                obtain rfl : sb2 = true := hall ⟨2, .phase⟩ (by simp) (by kernel_rfl)
                obtain rfl : sb3 = true := hall ⟨3, .phase⟩ (by simp) (by kernel_rfl)
                obtain rfl : sb4 = true := hall ⟨4, .phase⟩ (by simp) (by kernel_rfl)
                obtain rfl : sb5 = true := hall ⟨5, .phase⟩ (by simp) (by kernel_rfl)
                obtain rfl : sb6 = true := hall ⟨6, .phase⟩ (by simp) (by kernel_rfl)
                obtain rfl : sb7 = true := hall ⟨7, .phase⟩ (by simp) (by kernel_rfl)
                obtain rfl : sb8 = true := hall ⟨8, .data⟩ (by simp) (by kernel_rfl)
                obtain rfl : sb10 = true := hall ⟨10, .phase⟩ (by simp) (by kernel_rfl)
                obtain rfl : sb11 = true := hall ⟨11, .chain⟩ (by simp) (by kernel_rfl)
                clear hall
                obtain rfl : sb13 = false := Bool.eq_false_iff.2 fun h => Bool.false_ne_true (H.d13 h).2.2.2.2.2.2.2.2.2.2.2.2
                have hbe := H.be
                have hx_t5 := H.t5
                have hx_t6 := H.t6
                obtain rfl := H.h0 rfl
                obtain rfl := H.h1 rfl
                obtain rfl := H.h2 rfl
                obtain rfl := H.h3 rfl
                obtain rfl := H.h4 rfl
                have P5 := H.h5 rfl
                have P6 := H.h6 rfl
                have P7 := H.h7 rfl
                obtain rfl := H.h8 rfl
                have P11 := H.h11 rfl
                refine wpOp_step ho (fun K' hK => ?_)
                have HK := Lib.hid hK
                clear hK ho
                go_simp
                exact HK.out _ _ ⟨_, _, _, _, _, _, _, _, _, _, _, _, _, _, _, _, _, _, _, _, _, _, _, _, _, sx11, _, _, rfl, rfl, ⟨hbe, H.d3, H.d4, H.d5, H.d6, H.d7, H.d8, H.d9, H.d11, (fun _ => ⟨rfl, rfl, rfl, rfl, rfl, rfl, rfl, rfl, rfl, rfl, rfl⟩), (fun h => by cases h), H.t5, H.t6, H.h0, H.h1, H.h2, H.h3, H.h4, H.h5, H.h6, H.h7, H.h8, H.h9, (fun _ h => by cases h), H.h11, (fun _ => rfl), H.h13⟩⟩
              · have ho := hoj
                simp only [List.getElem?_toArray, List.getElem?_cons_succ, List.getElem?_cons_zero, Option.some.injEq] at hoj
                subst hoj
                obtain rfl : sb13 = false := hun
                obtain rfl : sb0 = true := hall ⟨0, .phase⟩ (by simp) (by kernel_rfl)
                obtain rfl : sb1 = true := hall ⟨1, .phase⟩ (by simp) (by kernel_rfl)
                obtain rfl : sb2 = true := hall ⟨2, .phase⟩ (by simp) (by kernel_rfl)
                obtain rfl : sb3 = true := hall ⟨3, .phase⟩ (by simp) (by kernel_rfl)
                obtain rfl : sb4 = true := hall ⟨4, .phase⟩ (by simp) (by kernel_rfl)
                obtain rfl : sb5 = true := hall ⟨5, .phase⟩ (by simp) (by kernel_rfl)
                obtain rfl : sb6 = true := hall ⟨6, .phase⟩ (by simp) (by kernel_rfl)
                obtain rfl : sb7 = true := hall ⟨7, .phase⟩ (by simp) (by kernel_rfl)
                obtain rfl : sb8 = true := hall ⟨8, .phase⟩ (by simp) (by kernel_rfl)
                obtain rfl : sb9 = true := hall ⟨9, .data⟩ (by simp) (by kernel_rfl)
                obtain rfl : sb10 = true := hall ⟨10, .phase⟩ (by simp) (by kernel_rfl)
                obtain rfl : sb11 = true := hall ⟨11, .phase⟩ (by simp) (by kernel_rfl)
                obtain rfl : sb12 = true := hall ⟨12, .chain⟩ (by simp) (by kernel_rfl)
                clear hall
                have hbe := H.be
                have hx_t5 := H.t5
                have hx_t6 := H.t6
                obtain rfl := H.h0 rfl
                obtain rfl := H.h1 rfl
                obtain rfl := H.h2 rfl
                obtain rfl := H.h3 rfl
                obtain rfl := H.h4 rfl
                have P5 := H.h5 rfl
                have P6 := H.h6 rfl
                have P7 := H.h7 rfl
                obtain rfl := H.h8 rfl
                obtain rfl := H.h9 rfl
                have P11 := H.h11 rfl
                obtain rfl := H.h12 rfl
                refine wpOp_step ho (fun K' hK => ?_)
                have HK := Lib.hid hK
                clear hK ho
                go_simp
                exact HK.out _ _ ⟨_, _, _, _, _, _, _, _, _, _, _, _, _, _, _, _, _, _, _, _, _, _, _, _, _, sx11, _, _, rfl, rfl, ⟨hbe, H.d3, H.d4, H.d5, H.d6, H.d7, H.d8, H.d9, H.d11, H.d12, (fun _ => ⟨rfl, rfl, rfl, rfl, rfl, rfl, rfl, rfl, rfl, rfl, rfl, rfl, rfl⟩), H.t5, H.t6, H.h0, H.h1, H.h2, H.h3, H.h4, H.h5, H.h6, H.h7, H.h8, H.h9, (fun _ h => by cases h), H.h11, H.h12, (fun _ => rfl)⟩⟩
              · have ho := hoj
                simp at ho
            case hfin =>
              rintro listed a w ⟨sb0, sb1, sb2, sb3, sb4, sb5, sb6, sb7, sb8, sb9, sb10, sb11, sb12, sb13, sx0, sx1, sx2, sx3, sx4, sx5, sx6, sx7, sx8, sx9, sx10, sx11, sx12, sx13, rfl, rfl, H⟩ hr
              have hb : sb13 = true := by
                clear H
                obtain rfl : sb0 = true := by
                  cases sb0
                  · exact absurd hr (ready_neC (by kernel_rfl))
                  · rfl
                obtain rfl : sb1 = true := by
                  cases sb1
                  · exact absurd hr (ready_neC (by kernel_rfl))
                  · rfl
                obtain rfl : sb2 = true := by
                  cases sb2
                  · exact absurd hr (ready_neC (by kernel_rfl))
                  · rfl
                obtain rfl : sb3 = true := by
                  cases sb3
                  · exact absurd hr (ready_neC (by kernel_rfl))
                  · rfl
                obtain rfl : sb4 = true := by
                  cases sb4
                  · exact absurd hr (ready_neC (by kernel_rfl))
                  · rfl
                obtain rfl : sb5 = true := by
                  cases sb5
                  · exact absurd hr (ready_neC (by kernel_rfl))
                  · rfl
                obtain rfl : sb6 = true := by
                  cases sb6
                  · exact absurd hr (ready_neC (by kernel_rfl))
                  · rfl
                obtain rfl : sb7 = true := by
                  cases sb7
                  · exact absurd hr (ready_neC (by kernel_rfl))
                  · rfl
                obtain rfl : sb8 = true := by
                  cases sb8
                  · exact absurd hr (ready_neC (by kernel_rfl))
                  · rfl
                obtain rfl : sb9 = true := by
                  cases sb9
                  · exact absurd hr (ready_neC (by kernel_rfl))
                  · rfl
                obtain rfl : sb10 = true := by
                  cases sb10
                  · exact absurd hr (ready_neC (by kernel_rfl))
                  · rfl
                obtain rfl : sb11 = true := by
                  cases sb11
                  · exact absurd hr (ready_neC (by kernel_rfl))
                  · rfl
                obtain rfl : sb12 = true := by
                  cases sb12
                  · exact absurd hr (ready_neC (by kernel_rfl))
                  · rfl
                obtain rfl : sb13 = true := by
                  cases sb13
                  · exact absurd hr (ready_neC (by kernel_rfl))
                  · rfl
                rfl
              subst hb
              clear hr
              obtain rfl : sb0 = true := (H.d13 rfl).1
              obtain rfl : sb1 = true := (H.d13 rfl).2.1
              obtain rfl : sb2 = true := (H.d13 rfl).2.2.1
              obtain rfl : sb3 = true := (H.d13 rfl).2.2.2.1
              obtain rfl : sb4 = true := (H.d13 rfl).2.2.2.2.1
              obtain rfl : sb5 = true := (H.d13 rfl).2.2.2.2.2.1
              obtain rfl : sb6 = true := (H.d13 rfl).2.2.2.2.2.2.1
              obtain rfl : sb7 = true := (H.d13 rfl).2.2.2.2.2.2.2.1
              obtain rfl : sb8 = true := (H.d13 rfl).2.2.2.2.2.2.2.2.1
              obtain rfl : sb9 = true := (H.d13 rfl).2.2.2.2.2.2.2.2.2.1
              obtain rfl : sb10 = true := (H.d13 rfl).2.2.2.2.2.2.2.2.2.2.1
              obtain rfl : sb11 = true := (H.d13 rfl).2.2.2.2.2.2.2.2.2.2.2.1
              obtain rfl : sb12 = true := (H.d13 rfl).2.2.2.2.2.2.2.2.2.2.2.2
              have hnw := Lib.hid (H.h11 rfl)
              have e0 := H.h12 rfl
              have e1 := H.h13 rfl
              clear H
              obtain ⟨Y, hY⟩ : ∃ Y, Y = w := ⟨_, rfl⟩
              subst w
              obtain ⟨MV, Ba, Bh, Bk, da, dh, dk, rfl, hn0, hn1, hn2, hnb⟩ := hnw.out.ex
              have N7 := Lib.hid hn1
              have NV7 := Lib.hid hn2
              have NX7 := Lib.hid hn0
              have B7 := Lib.hid hnb
              clear hnw hn0 hn1 hn2 hnb
              subst e0
              subst e1
              have G7 := Lib.hid (GX.out.on B7.out)
              have HMX2 := Lib.hid (GX.out.mlt)
              have HMX := Lib.hid (show M + 1 ≤ X.heap.size from GX.out.mlt)
              by_cases hec : ec = 0
              · have hs0 : (sendSp s T a []).2.2 = 0 := by rw [HEQ.out]; exact hec
                obtain ⟨on1, nn, nx⟩ := ON.out.send hs0
                rw [HEQ.out] at on1 nn nx
                dsimp only at on1 nn nx
                have nf1 : NoFr s' := by have := NF.out.send T a; rw [HEQ.out] at this; exact this
                have ON1 := Lib.hid on1
                have NF1 := Lib.hid nf1
                have NX1 := Lib.hid nx
                have NN1 := Lib.hid nn
                subst hec
                clear on1 nn nx nf1 hs0
                obtain ⟨y0, y1, y2, y3, y4⟩ := sp5 N7.out
                obtain ⟨q0, q1, q2, q3, q4⟩ := sp5 G7.out.x
                have qf := fun i => bk_frz G7.out.x i
                obtain ⟨fx, gx⟩ := sp5_put G7.out.x (.int .i64 s'.next) (.slice Ba s'.sent.length da) (.int .i64 s'.top) (.slice Bh s'.heard.length dh) (.slice Bk s'.skip.length dk)
                obtain ⟨Z8, hZ8⟩ : ∃ x, (((((Y.setCell ⟨V, 0, none⟩ (.int .i64 s'.next)).setCell ⟨V, 1, none⟩ (.slice Ba s'.sent.length da)).setCell ⟨V, 2, none⟩ (.int .i64 s'.top)).setCell ⟨V, 3, none⟩ (.slice Bh s'.heard.length dh)).setCell ⟨V, 4, none⟩ (.slice Bk s'.skip.length dk)) = x := ⟨_, rfl⟩
                rw [hZ8] at fx gx
                have G8 := Lib.hid (G7.out.put gx fx (SpU.low NV7.out HMX.out) HKV.out HVM.out HWV.out)
                go_upto_region 24 with fail
                clear y0 y1 y2 y3 y4 q0 q1 q2 q3 q4 qf fx gx
                try rw [hZ8]
                clear hZ8
                have hnb : i64N n := by have := NN1.out; have := ON.out.ok.1.1; unfold i64N; omega
                have hwf : (Lit.int .i64 n).wf = true := i64_wf hnb
                obtain ⟨D, OO, MM⟩ := G8.out.m
                have HOO := Lib.hid OO
                have HMM := Lib.hid MM
                clear OO MM
                go_upto_region 40 with (at_mapUpdate; refine wpList_mapUpdate_own _ rfl _ _ _ 49 rfl 3 3 (Maps.int_keyed Try.underlying3) Try.underlying49 _ M n0 D rfl HOO.out (by unfold maxLen; omega) _ _ (kyI n) rfl rfl (Maps.keyOf_int_mk Try.underlying3 hwf) _ _ (plainElem_int Try.underlying3 (by decide)) ?_; intro WU hou hgu; have OU := Lib.hid hou; have GU := Lib.hid hgu; clear hou hgu)
                have GN := Lib.hid (G8.out.store GU.out OU.out (E' := fun y => if y = s.next then some 1 else E y) ((HMM.out.put n 1).congr (fun y => by rw [NN1.out])) HKV.out HVM.out HWV.out)
                go_wp2_with fail
                go_roundg (gk - 1)
                case measure => omega
                case rel => exact ⟨kk + 1, T, s', _, n0 + 1, Ba, Bh, Bk, da, dh, dk, by first | rfl | (rw [HTT.out]) | go_num, by first | rfl | go_num, by omega, t0, by omega, by have := NX1.out; omega, by omega, ON1, NF1, GN⟩
              · have gec : (ec == 0) = false := by simp [hec]
                clear hec
                go_wp2_with fail
                go_roundg (gk - 1)
                case measure => omega
                case rel => exact ⟨kk + 1, T, s, _, n0, Aa, Ah, Ak, ca, ch, ck, by first | rfl | (rw [HTT.out]) | go_num, by first | rfl | go_num, by omega, t0, by omega, by omega, by omega, ON, NF, G7⟩
        · as_aux_lemma =>
            obtain ⟨a, ha⟩ : ∃ a, ra % 100 = a := ⟨_, rfl⟩
            have a0 : 0 ≤ a := by omega
            have a1 : a < 100 := by omega
            have HPA := Lib.hid (fun w => ha ▸ picked_any ra 100 (by decide) (by decide) w)
            obtain ⟨⟨s', n, ec⟩, hq⟩ : ∃ r, sendSp s T a [] = r := ⟨_, rfl⟩
            have HEQ := Lib.hid hq
            clear ha hq
            go_upto_region 21 with fail
            refine wp_region_inv (fun lis_ act_ wld_ => ∃ (vb0 vb1 vb2 vb3 vb4 vb5 vb6 vb7 vb8 vb9 vb10 vb11 vb12 vb13 : Bool) (vx0 vx1 vx2 vx3 vx4 vx5 vx6 vx7 vx8 vx9 vx10 vx11 vx12 vx13 : Value), lis_ = #[vb0, vb1, vb2, vb3, vb4, vb5, vb6, vb7, vb8, vb9, vb10, vb11, vb12, vb13] ∧ act_ = { tmps := #[Value.slice (some { block := b, off := off }) len cap, undef, Value.pointer (some { block := K0, off := 0 }), u3, u4, Value.pointer (some { block := V, off := 0 }), Value.map (some M), Value.int IntKind.i64 T, undef, Value.pointer (some { block := R, off := 0 }), vx10, vx12, vx13, u13, u14, u15, u16, u17, u18, u19, undef, u21, u22, u23, u24, undef, u26, Value.agg #[Value.int IntKind.i64 0, Value.slice none 0 0, Value.int IntKind.i64 (-1), Value.slice none 0 0, Value.slice none 0 0], Value.map (some M), Value.slice (some { block := b, off := off }) len cap, Value.slice (some { block := b, off := off }) N cap, Value.int IntKind.i64 ↑N, Value.int IntKind.i64 ↑kk, Value.bool true, Value.pointer (some { block := b, off := off + kk * 4 }), Value.agg #[Value.int IntKind.i64 kd, Value.int IntKind.i64 ra, Value.int IntKind.i64 rb, Value.string rt], Value.int IntKind.i64 now, Value.pointer (some { block := R, off := 2 }), Value.int IntKind.i64 rb, Value.int IntKind.i64 T3, Value.int IntKind.i64 T, Value.pointer (some { block := R, off := 0 }), Value.int IntKind.i64 kd, Value.int IntKind.i64 1, u44, u45, u46, u47, u48, u49, u50, u51, u52, u53, u54, u55, u56, u57, u58, u59, u60, u61, u62, u63, u64, u65, u66, u67, u68, u69, u70, u71, Value.bool true, Value.bool false, Value.bool true, u75, vx6, vx0, vx1, vx2, vx3, vx4, vx5, vx7, vx8, vx9, u86, u87, u88, u89, u90, u91, u92, u93, u94, u95, u96, u97, u98, u99, u100, u101, u102, u103, u104, u105, u106, u107, u108, u109, u110, u111, u112, u113, u114, u115, u116, u117, u118, u119, u120, u121, u122, u123, u124, u125, u126, u127, u128, u129, u130, u131, u132, u133, u134, u135, u136, u137, u138, u139, u140, u141, u142, undef, undef], defers := [] } ∧ SdA1 X Aa Ah Ak ca ch ck s s' R T ra a n ec (.agg #[.int .i64 s.next, .slice Aa s.sent.length ca, .int .i64 s.top, .slice Ah s.heard.length ch, .slice Ak s.skip.length ck]) (.int .i64 T) (.pointer (some ⟨R, 1, none⟩)) (.int .i64 ra) (.int .i64 a) (.int .i64 n) (.int .i64 ec) (.int .i64 n) (.int .i64 ec) vb0 vb1 vb2 vb3 vb4 vb5 vb6 vb7 vb8 vb9 vb10 vb11 vb12 vb13 vx0 vx1 vx2 vx3 vx4 vx5 vx6 vx7 vx8 vx9 vx10 vx11 vx12 vx13 wld_) (by kernel_rfl) ?h0 ?hfin ?hI
            case h0 => exact ⟨_, _, _, _, _, _, _, _, _, _, _, _, _, _, _, _, _, _, _, _, _, _, _, _, _, undef, _, _, rfl, rfl, ⟨(Below.refl _ _).drew, (fun h => by cases h), (fun h => by cases h), (fun h => by cases h), (fun h => by cases h), (fun h => by cases h), (fun h => by cases h), (fun h => by cases h), (fun h => by cases h), (fun h => by cases h), (fun h => by cases h), (fun h => by cases h), (fun h => by cases h), (fun h => by cases h), (fun h => by cases h), (fun h => by cases h), (fun h => by cases h), (fun h => by cases h), (fun h => by cases h), (fun h => by cases h), (fun h => by cases h), (fun h => by cases h), (fun h => by cases h), (fun h => by cases h), (fun h => by cases h), (fun h => by cases h), (fun h => by cases h)⟩⟩
            case hI =>
              rintro listed a w ⟨vb0, vb1, vb2, vb3, vb4, vb5, vb6, vb7, vb8, vb9, vb10, vb11, vb12, vb13, vx0, vx1, vx2, vx3, vx4, vx5, vx6, vx7, vx8, vx9, vx10, vx11, vx12, vx13, rfl, rfl, H⟩ i hi
              obtain ⟨hun, oj, hoj, hall⟩ := mem_ready.1 hi
              clear hi
              rcases i with _ | _ | _ | _ | _ | _ | _ | _ | _ | _ | _ | _ | _ | _ | i
              · have ho := hoj
                simp only [List.getElem?_toArray, List.getElem?_cons_zero, Option.some.injEq] at hoj
                subst hoj
                obtain rfl : vb0 = false := hun
                clear hall
                obtain rfl : vb5 = false := Bool.eq_false_iff.2 fun h => Bool.false_ne_true (H.d5 h).1
                obtain rfl : vb6 = false := Bool.eq_false_iff.2 fun h => Bool.false_ne_true (H.d6 h)
                obtain rfl : vb7 = false := Bool.eq_false_iff.2 fun h => Bool.false_ne_true (H.d7 h)
                obtain rfl : vb8 = false := Bool.eq_false_iff.2 fun h => Bool.false_ne_true (H.d8 h)
                obtain rfl : vb9 = false := Bool.eq_false_iff.2 fun h => Bool.false_ne_true (H.d9 h)
                obtain rfl : vb11 = false := Bool.eq_false_iff.2 fun h => Bool.false_ne_true (H.d11 h).1
                obtain rfl : vb12 = false := Bool.eq_false_iff.2 fun h => Bool.false_ne_true (H.d12 h).1
                obtain rfl : vb13 = false := Bool.eq_false_iff.2 fun h => Bool.false_ne_true (H.d13 h).1
                have hbe := H.be
                have hx_t5 := H.t5
                have hx_t6 := H.t6
                obtain ⟨q0, q1, q2, q3, q4⟩ := sp5 ((hbe.block _ (lt_of_block GX.out.x)).trans GX.out.x)
                refine wpOp_step ho (fun K' hK => ?_)
                have HK := Lib.hid hK
                clear hK ho
                go_simp
                exact HK.out _ _ ⟨_, _, _, _, _, _, _, _, _, _, _, _, _, _, _, _, _, _, _, _, _, _, _, _, _, vx11, _, _, rfl, rfl, ⟨hbe, H.d3, H.d4, (fun h => by cases h), H.d6, H.d7, H.d8, H.d9, (fun h => by cases h), (fun h => by cases h), (fun h => by cases h), H.t5, H.t6, (fun _ => rfl), H.h1, H.h2, H.h3, H.h4, (fun h => by cases h), (fun h => by cases h), (fun h => by cases h), H.h8, H.h9, H.h10, (fun h => by cases h), H.h12, H.h13⟩⟩
              · have ho := hoj
                simp only [List.getElem?_toArray, List.getElem?_cons_succ, List.getElem?_cons_zero, Option.some.injEq] at hoj
                subst hoj
                obtain rfl : vb1 = false := hun
                clear hall
                obtain rfl : vb5 = false := Bool.eq_false_iff.2 fun h => Bool.false_ne_true (H.d5 h).2.1
                obtain rfl : vb6 = false := Bool.eq_false_iff.2 fun h => Bool.false_ne_true (H.d6 h)
                obtain rfl : vb7 = false := Bool.eq_false_iff.2 fun h => Bool.false_ne_true (H.d7 h)
                obtain rfl : vb8 = false := Bool.eq_false_iff.2 fun h => Bool.false_ne_true (H.d8 h)
                obtain rfl : vb9 = false := Bool.eq_false_iff.2 fun h => Bool.false_ne_true (H.d9 h)
                obtain rfl : vb11 = false := Bool.eq_false_iff.2 fun h => Bool.false_ne_true (H.d11 h).2.1
                obtain rfl : vb12 = false := Bool.eq_false_iff.2 fun h => Bool.false_ne_true (H.d12 h).2.1
                obtain rfl : vb13 = false := Bool.eq_false_iff.2 fun h => Bool.false_ne_true (H.d13 h).2.1
                have hbe := H.be
                have hx_t5 := H.t5
                have hx_t6 := H.t6
                refine wpOp_step ho (fun K' hK => ?_)
                have HK := Lib.hid hK
                clear hK ho
                go_simp
                exact HK.out _ _ ⟨_, _, _, _, _, _, _, _, _, _, _, _, _, _, _, _, _, _, _, _, _, _, _, _, _, vx11, _, _, rfl, rfl, ⟨hbe, H.d3, H.d4, (fun h => by cases h), H.d6, H.d7, H.d8, H.d9, (fun h => by cases h), (fun h => by cases h), (fun h => by cases h), H.t5, H.t6, H.h0, (fun _ => rfl), H.h2, H.h3, H.h4, (fun h => by cases h), (fun h => by cases h), (fun h => by cases h), H.h8, H.h9, H.h10, (fun h => by cases h), H.h12, H.h13⟩⟩
              · have ho := hoj
                simp only [List.getElem?_toArray, List.getElem?_cons_succ, List.getElem?_cons_zero, Option.some.injEq] at hoj
                subst hoj
                obtain rfl : vb2 = false := hun
                clear hall
                obtain rfl : vb3 = false := Bool.eq_false_iff.2 fun h => Bool.false_ne_true (H.d3 h)
                obtain rfl : vb4 = false := Bool.eq_false_iff.2 fun h => Bool.false_ne_true (H.d4 h)
                obtain rfl : vb5 = false := Bool.eq_false_iff.2 fun h => Bool.false_ne_true (H.d5 h).2.2
                obtain rfl : vb6 = false := Bool.eq_false_iff.2 fun h => Bool.false_ne_true (H.d6 h)
                obtain rfl : vb7 = false := Bool.eq_false_iff.2 fun h => Bool.false_ne_true (H.d7 h)
                obtain rfl : vb8 = false := Bool.eq_false_iff.2 fun h => Bool.false_ne_true (H.d8 h)
                obtain rfl : vb9 = false := Bool.eq_false_iff.2 fun h => Bool.false_ne_true (H.d9 h)
                obtain rfl : vb11 = false := Bool.eq_false_iff.2 fun h => Bool.false_ne_true (H.d11 h).2.2.1
                obtain rfl : vb12 = false := Bool.eq_false_iff.2 fun h => Bool.false_ne_true (H.d12 h).2.2.1
                obtain rfl : vb13 = false := Bool.eq_false_iff.2 fun h => Bool.false_ne_true (H.d13 h).2.2.1
                have hbe := H.be
                have hx_t5 := H.t5
                have hx_t6 := H.t6
                refine wpOp_step ho (fun K' hK => ?_)
                have HK := Lib.hid hK
                clear hK ho
                go_simp
                exact HK.out _ _ ⟨_, _, _, _, _, _, _, _, _, _, _, _, _, _, _, _, _, _, _, _, _, _, _, _, _, vx11, _, _, rfl, rfl, ⟨hbe, (fun h => by cases h), H.d4, H.d5, H.d6, H.d7, H.d8, H.d9, (fun h => by cases h), (fun h => by cases h), (fun h => by cases h), H.t5, H.t6, H.h0, H.h1, (fun _ => rfl), H.h3, H.h4, (fun h => by cases h), (fun h => by cases h), (fun h => by cases h), H.h8, H.h9, H.h10, (fun h => by cases h), H.h12, H.h13⟩⟩
              · have ho := hoj
                simp only [List.getElem?_toArray, List.getElem?_cons_succ, List.getElem?_cons_zero, Option.some.injEq] at hoj
                subst hoj
                obtain rfl : vb3 = false := hun
                obtain rfl : vb2 = true := hall ⟨2, .data⟩ (by simp) (by kernel_rfl)
                clear hall
                obtain rfl : vb4 = false := Bool.eq_false_iff.2 fun h => Bool.false_ne_true (H.d4 h)
                obtain rfl : vb5 = false := Bool.eq_false_iff.2 fun h => Bool.false_ne_true (H.d5 h).2.2
                obtain rfl : vb6 = false := Bool.eq_false_iff.2 fun h => Bool.false_ne_true (H.d6 h)
                obtain rfl : vb7 = false := Bool.eq_false_iff.2 fun h => Bool.false_ne_true (H.d7 h)
                obtain rfl : vb8 = false := Bool.eq_false_iff.2 fun h => Bool.false_ne_true (H.d8 h)
                obtain rfl : vb9 = false := Bool.eq_false_iff.2 fun h => Bool.false_ne_true (H.d9 h)
                obtain rfl : vb11 = false := Bool.eq_false_iff.2 fun h => Bool.false_ne_true (H.d11 h).2.2.2.1
                obtain rfl : vb12 = false := Bool.eq_false_iff.2 fun h => Bool.false_ne_true (H.d12 h).2.2.2.1
                obtain rfl : vb13 = false := Bool.eq_false_iff.2 fun h => Bool.false_ne_true (H.d13 h).2.2.2.1
                have hbe := H.be
                have hx_t5 := H.t5
                have hx_t6 := H.t6
                obtain rfl := H.h2 rfl
                obtain ⟨z0, z1, z2, z3⟩ := bk4R ((hbe.block _ (lt_of_block RX.out)).trans RX.out)
                refine wpOp_step ho (fun K' hK => ?_)
                have HK := Lib.hid hK
                clear hK ho
                go_simp
                exact HK.out _ _ ⟨_, _, _, _, _, _, _, _, _, _, _, _, _, _, _, _, _, _, _, _, _, _, _, _, _, vx11, _, _, rfl, rfl, ⟨hbe, (fun _ => rfl), (fun h => by cases h), H.d5, H.d6, H.d7, H.d8, H.d9, (fun h => by cases h), (fun h => by cases h), (fun h => by cases h), H.t5, H.t6, H.h0, H.h1, H.h2, (fun _ => rfl), H.h4, (fun h => by cases h), (fun h => by cases h), (fun h => by cases h), H.h8, H.h9, H.h10, (fun h => by cases h), H.h12, H.h13⟩⟩
              · have ho := hoj
                simp only [List.getElem?_toArray, List.getElem?_cons_succ, List.getElem?_cons_zero, Option.some.injEq] at hoj
                subst hoj
                obtain rfl : vb4 = false := hun
                obtain rfl : vb3 = true := hall ⟨3, .data⟩ (by simp) (by kernel_rfl)
                obtain rfl : vb2 = true := (H.d3 rfl)
                clear hall
                obtain rfl : vb5 = false := Bool.eq_false_iff.2 fun h => Bool.false_ne_true (H.d5 h).2.2
                obtain rfl : vb6 = false := Bool.eq_false_iff.2 fun h => Bool.false_ne_true (H.d6 h)
                obtain rfl : vb7 = false := Bool.eq_false_iff.2 fun h => Bool.false_ne_true (H.d7 h)
                obtain rfl : vb8 = false := Bool.eq_false_iff.2 fun h => Bool.false_ne_true (H.d8 h)
                obtain rfl : vb9 = false := Bool.eq_false_iff.2 fun h => Bool.false_ne_true (H.d9 h)
                obtain rfl : vb11 = false := Bool.eq_false_iff.2 fun h => Bool.false_ne_true (H.d11 h).2.2.2.2.1
                obtain rfl : vb12 = false := Bool.eq_false_iff.2 fun h => Bool.false_ne_true (H.d12 h).2.2.2.2.1
                obtain rfl : vb13 = false := Bool.eq_false_iff.2 fun h => Bool.false_ne_true (H.d13 h).2.2.2.2.1
                have hbe := H.be
                have hx_t5 := H.t5
                have hx_t6 := H.t6
                obtain rfl := H.h2 rfl
                obtain rfl := H.h3 rfl
                refine wpOp_step ho (fun K' hK => ?_)
                have HK := Lib.hid hK
                clear hK ho
                go_wp2_with (go_at_call 11; refine (HPA.out _).mono ?_; rintro e w' ⟨rfl, rfl⟩)
                exact HK.out _ _ ⟨_, _, _, _, _, _, _, _, _, _, _, _, _, _, _, _, _, _, _, _, _, _, _, _, _, vx11, _, _, rfl, rfl, ⟨hbe, H.d3, (fun _ => rfl), (fun h => by cases h), H.d6, H.d7, H.d8, H.d9, (fun h => by cases h), (fun h => by cases h), (fun h => by cases h), H.t5, H.t6, H.h0, H.h1, H.h2, H.h3, (fun _ => rfl), (fun h => by cases h), (fun h => by cases h), (fun h => by cases h), H.h8, H.h9, H.h10, (fun h => by cases h), H.h12, H.h13⟩⟩
              · have ho := hoj
                simp only [List.getElem?_toArray, List.getElem?_cons_succ, List.getElem?_cons_zero, Option.some.injEq] at hoj
                subst hoj
                obtain rfl : vb5 = false := hun
                obtain rfl : vb0 = true := hall ⟨0, .data⟩ (by simp) (by kernel_rfl)
                obtain rfl : vb1 = true := hall ⟨1, .data⟩ (by simp) (by kernel_rfl)
                obtain rfl : vb4 = true := hall ⟨4, .data⟩ (by simp) (by kernel_rfl)
                obtain rfl : vb3 = true := (H.d4 rfl)
                obtain rfl : vb2 = true := (H.d3 rfl)
                clear hall
                obtain rfl : vb6 = false := Bool.eq_false_iff.2 fun h => Bool.false_ne_true (H.d6 h)
                obtain rfl : vb7 = false := Bool.eq_false_iff.2 fun h => Bool.false_ne_true (H.d7 h)
                obtain rfl : vb8 = false := Bool.eq_false_iff.2 fun h => Bool.false_ne_true (H.d8 h)
                obtain rfl : vb9 = false := Bool.eq_false_iff.2 fun h => Bool.false_ne_true (H.d9 h)
                obtain rfl : vb11 = false := Bool.eq_false_iff.2 fun h => Bool.false_ne_true (H.d11 h).2.2.2.2.2.1
                obtain rfl : vb12 = false := Bool.eq_false_iff.2 fun h => Bool.false_ne_true (H.d12 h).2.2.2.2.2.1
                obtain rfl : vb13 = false := Bool.eq_false_iff.2 fun h => Bool.false_ne_true (H.d13 h).2.2.2.2.2.1
                have hbe := H.be
                have hx_t5 := H.t5
                have hx_t6 := H.t6
                obtain rfl := H.h0 rfl
                obtain rfl := H.h1 rfl
                obtain rfl := H.h2 rfl
                obtain rfl := H.h3 rfl
                obtain rfl := H.h4 rfl
                refine wpOp_step ho (fun K' hK => ?_)
                have HK := Lib.hid hK
                clear hK ho
                go_wp2_with fail
                refine (spSend_any _ (.slice none 0 0) s T a [] w (StS.on GX.out.v (KpS.below hbe)).now HWF.out (FsSl.nil _ _) frs0_wf).mono ?_
                rintro e w1 hr
                have BC := Lib.hid hr.be
                obtain ⟨u1, rfl, hu1⟩ := hr.ex
                rw [HEQ.out] at hu1 ⊢
                have UC := Lib.hid (show TupN X vb10 vx10 w1 _ s' n ec from ⟨u1, rfl, hu1.toX hbe.size (fun hb => let ⟨k, e1, _, e3⟩ := H.h10 hb rfl; ⟨k, e1, lt_of_block e3⟩)⟩)
                clear hr hu1
                go_wp2_with fail
                exact HK.out _ _ ⟨_, _, _, _, _, _, _, _, _, _, _, _, _, _, _, _, _, _, _, _, _, _, _, _, _, vx11, _, _, rfl, rfl, ⟨hbe.trans (BC.out.mono hbe.size), H.d3, H.d4, (fun _ => ⟨rfl, rfl, rfl⟩), (fun h => by cases h), H.d7, H.d8, H.d9, (fun h => by cases h), (fun h => by cases h), (fun h => by cases h), fun _ => ⟨_, rfl⟩, hx_t6, H.h0, H.h1, H.h2, H.h3, H.h4, (fun _ => UC.out), (fun h => by cases h), (fun h => by cases h), H.h8, H.h9, (fun e f => let ⟨k, e1, e2, e3⟩ := (H.h10 e f); ⟨k, e1, e2, (BC.out.block _ (lt_of_block e3)).trans e3⟩), (fun h => by cases h), H.h12, H.h13⟩⟩
              · have ho := hoj
                simp only [List.getElem?_toArray, List.getElem?_cons_succ, List.getElem?_cons_zero, Option.some.injEq] at hoj
                subst hoj
                obtain rfl : vb6 = false := hun
                obtain rfl : vb5 = true := hall ⟨5, .data⟩ (by simp) (by kernel_rfl)
                obtain rfl : vb0 = true := (H.d5 rfl).1
                obtain rfl : vb1 = true := (H.d5 rfl).2.1
                obtain rfl : vb4 = true := (H.d5 rfl).2.2
                obtain rfl : vb3 = true := (H.d4 rfl)
                obtain rfl : vb2 = true := (H.d3 rfl)
                clear hall
                obtain rfl : vb7 = false := Bool.eq_false_iff.2 fun h => Bool.false_ne_true (H.d7 h)
                obtain rfl : vb8 = false := Bool.eq_false_iff.2 fun h => Bool.false_ne_true (H.d8 h)
                obtain rfl : vb9 = false := Bool.eq_false_iff.2 fun h => Bool.false_ne_true (H.d9 h)
                obtain rfl : vb11 = false := Bool.eq_false_iff.2 fun h => Bool.false_ne_true (H.d11 h).2.2.2.2.2.2.1
                obtain rfl : vb12 = false := Bool.eq_false_iff.2 fun h => Bool.false_ne_true (H.d12 h).2.2.2.2.2.2.1
                obtain rfl : vb13 = false := Bool.eq_false_iff.2 fun h => Bool.false_ne_true (H.d13 h).2.2.2.2.2.2.1
                have hbe := H.be
                have hx_t5 := H.t5
                have hx_t6 := H.t6
                obtain rfl := H.h0 rfl
                obtain rfl := H.h1 rfl
                obtain rfl := H.h2 rfl
                obtain rfl := H.h3 rfl
                obtain rfl := H.h4 rfl
                have P5 := H.h5 rfl
                have PT := Lib.hid P5
                have TT := Lib.hid (H.t5 rfl)
                clear P5
                refine wpOp_step ho (fun K' hK => ?_)
                have HK := Lib.hid hK
                clear hK ho
                go_simp
                exact HK.out _ _ ⟨_, _, _, _, _, _, _, _, _, _, _, _, _, _, _, _, _, _, _, _, _, _, _, _, _, vx11, _, _, rfl, rfl, ⟨hbe, H.d3, H.d4, H.d5, (fun _ => rfl), (fun h => by cases h), (fun h => by cases h), (fun h => by cases h), (fun h => by cases h), (fun h => by cases h), (fun h => by cases h), H.t5, fun _ => TT.out, H.h0, H.h1, H.h2, H.h3, H.h4, H.h5, (fun _ => PT.out), (fun h => by cases h), H.h8, H.h9, H.h10, (fun h => by cases h), H.h12, H.h13⟩⟩
              · have ho := hoj
                simp only [List.getElem?_toArray, List.getElem?_cons_succ, List.getElem?_cons_zero, Option.some.injEq] at hoj
                subst hoj
                obtain rfl : vb7 = false := hun
                obtain rfl : vb6 = true := hall ⟨6, .data⟩ (by simp) (by kernel_rfl)
                obtain rfl : vb5 = true := (H.d6 rfl)
                obtain rfl : vb0 = true := (H.d5 rfl).1
                obtain rfl : vb1 = true := (H.d5 rfl).2.1
                obtain rfl : vb4 = true := (H.d5 rfl).2.2
                obtain rfl : vb3 = true := (H.d4 rfl)
                obtain rfl : vb2 = true := (H.d3 rfl)
                clear hall
                obtain rfl : vb11 = false := Bool.eq_false_iff.2 fun h => Bool.false_ne_true (H.d11 h).2.2.2.2.2.2.2.1
                obtain rfl : vb12 = false := Bool.eq_false_iff.2 fun h => Bool.false_ne_true (H.d12 h).2.2.2.2.2.2.2.1
                obtain rfl : vb13 = false := Bool.eq_false_iff.2 fun h => Bool.false_ne_true (H.d13 h).2.2.2.2.2.2.2.1
                have hbe := H.be
                have hx_t5 := H.t5
                have hx_t6 := H.t6
                obtain rfl := H.h0 rfl
                obtain rfl := H.h1 rfl
                obtain rfl := H.h2 rfl
                obtain rfl := H.h3 rfl
                obtain rfl := H.h4 rfl
                have P5 := H.h5 rfl
                have P6 := H.h6 rfl
                obtain ⟨u, rfl, hu⟩ := P6.ex
                have HU := Lib.hid hu
                clear hu
                refine wpOp_step ho (fun K' hK => ?_)
                have HK := Lib.hid hK
                clear hK ho
                go_simp
                exact HK.out _ _ ⟨_, _, _, _, _, _, _, _, _, _, _, _, _, _, _, _, _, _, _, _, _, _, _, _, _, vx11, _, _, rfl, rfl, ⟨hbe, H.d3, H.d4, H.d5, H.d6, (fun _ => rfl), H.d8, H.d9, (fun h => by cases h), (fun h => by cases h), (fun h => by cases h), H.t5, H.t6, H.h0, H.h1, H.h2, H.h3, H.h4, H.h5, H.h6, (fun _ => HU.out), H.h8, H.h9, H.h10, (fun h => by cases h), H.h12, H.h13⟩⟩
              · have ho := hoj
                simp only [List.getElem?_toArray, List.getElem?_cons_succ, List.getElem?_cons_zero, Option.some.injEq] at hoj
                subst hoj
                obtain rfl : vb8 = false := hun
                obtain rfl : vb6 = true := hall ⟨6, .data⟩ (by simp) (by kernel_rfl)
                obtain rfl : vb5 = true := (H.d6 rfl)
                obtain rfl : vb0 = true := (H.d5 rfl).1
                obtain rfl : vb1 = true := (H.d5 rfl).2.1
                obtain rfl : vb4 = true := (H.d5 rfl).2.2
                obtain rfl : vb3 = true := (H.d4 rfl)
                obtain rfl : vb2 = true := (H.d3 rfl)
                clear hall
                obtain rfl : vb12 = false := Bool.eq_false_iff.2 fun h => Bool.false_ne_true (H.d12 h).2.2.2.2.2.2.2.2.1
                obtain rfl : vb13 = false := Bool.eq_false_iff.2 fun h => Bool.false_ne_true (H.d13 h).2.2.2.2.2.2.2.2.1
                have hbe := H.be
                have hx_t5 := H.t5
                have hx_t6 := H.t6
                obtain rfl := H.h0 rfl
                obtain rfl := H.h1 rfl
                obtain rfl := H.h2 rfl
                obtain rfl := H.h3 rfl
                obtain rfl := H.h4 rfl
                have P5 := H.h5 rfl
                have P6 := H.h6 rfl
                obtain ⟨u, rfl⟩ := H.t6 rfl
                refine wpOp_step ho (fun K' hK => ?_)
                have HK := Lib.hid hK
                clear hK ho
                go_simp
                exact HK.out _ _ ⟨_, _, _, _, _, _, _, _, _, _, _, _, _, _, _, _, _, _, _, _, _, _, _, _, _, vx11, _, _, rfl, rfl, ⟨hbe, H.d3, H.d4, H.d5, H.d6, H.d7, (fun _ => rfl), H.d9, H.d11, (fun h => by cases h), (fun h => by cases h), H.t5, H.t6, H.h0, H.h1, H.h2, H.h3, H.h4, H.h5, H.h6, H.h7, (fun _ => rfl), H.h9, H.h10, H.h11, H.h12, H.h13⟩⟩
              · have ho := hoj
                simp only [List.getElem?_toArray, List.getElem?_cons_succ, List.getElem?_cons_zero, Option.some.injEq] at hoj
                subst hoj
                obtain rfl : vb9 = false := hun
                obtain rfl : vb6 = true := hall ⟨6, .data⟩ (by simp) (by kernel_rfl)
                obtain rfl : vb5 = true := (H.d6 rfl)
                obtain rfl : vb0 = true := (H.d5 rfl).1
                obtain rfl : vb1 = true := (H.d5 rfl).2.1
                obtain rfl : vb4 = true := (H.d5 rfl).2.2
                obtain rfl : vb3 = true := (H.d4 rfl)
                obtain rfl : vb2 = true := (H.d3 rfl)
                clear hall
                obtain rfl : vb13 = false := Bool.eq_false_iff.2 fun h => Bool.false_ne_true (H.d13 h).2.2.2.2.2.2.2.2.2.1
                have hbe := H.be
                have hx_t5 := H.t5
                have hx_t6 := H.t6
                obtain rfl := H.h0 rfl
                obtain rfl := H.h1 rfl
                obtain rfl := H.h2 rfl
                obtain rfl := H.h3 rfl
                obtain rfl := H.h4 rfl
                have P5 := H.h5 rfl
                have P6 := H.h6 rfl
                obtain ⟨u, rfl⟩ := H.t6 rfl
                refine wpOp_step ho (fun K' hK => ?_)
                have HK := Lib.hid hK
                clear hK ho
                go_simp
                exact HK.out _ _ ⟨_, _, _, _, _, _, _, _, _, _, _, _, _, _, _, _, _, _, _, _, _, _, _, _, _, vx11, _, _, rfl, rfl, ⟨hbe, H.d3, H.d4, H.d5, H.d6, H.d7, H.d8, (fun _ => rfl), H.d11, H.d12, (fun h => by cases h), H.t5, H.t6, H.h0, H.h1, H.h2, H.h3, H.h4, H.h5, H.h6, H.h7, H.h8, (fun _ => rfl), H.h10, H.h11, H.h12, H.h13⟩⟩
              · have ho := hoj
                simp only [List.getElem?_toArray, List.getElem?_cons_succ, List.getElem?_cons_zero, Option.some.injEq] at hoj
                subst hoj
                obtain rfl : vb10 = false := hun
                clear hall
                obtain rfl : vb11 = false := Bool.eq_false_iff.2 fun h => Bool.false_ne_true (H.d11 h).2.2.2.2.2.2.2.2
                obtain rfl : vb12 = false := Bool.eq_false_iff.2 fun h => Bool.false_ne_true (H.d12 h).2.2.2.2.2.2.2.2.2.1
                obtain rfl : vb13 = false := Bool.eq_false_iff.2 fun h => Bool.false_ne_true (H.d13 h).2.2.2.2.2.2.2.2.2.2.1
                have hbe := H.be
                have hx_t5 := H.t5
                have hx_t6 := H.t6
                have BA := Lib.hid ((Below.refl w.heap.size w).alloc (Nat.le_refl _) (.cells #[.int .i64 0, .slice none 0 0, .int .i64 0, .slice none 0 0, .slice none 0 0] 48))
                have NA := Lib.hid (heap_alloc_new w (.cells #[.int .i64 0, .slice none 0 0, .int .i64 0, .slice none 0 0, .slice none 0 0] 48))
                have hsz := hbe.size
                refine wpOp_step ho (fun K' hK => ?_)
                have HK := Lib.hid hK
                clear hK ho
                go_simp
                exact HK.out _ _ ⟨_, _, _, _, _, _, _, _, _, _, _, _, _, _, _, _, _, _, _, _, _, _, _, _, _, vx11, _, _, rfl, rfl, ⟨hbe.trans (BA.out.mono hbe.size), H.d3, H.d4, H.d5, H.d6, H.d7, H.d8, H.d9, (fun h => by cases h), (fun h => by cases h), (fun h => by cases h), hx_t5, hx_t6, H.h0, H.h1, H.h2, H.h3, H.h4, (fun e => (H.h5 e).made BA.out), (fun e => (H.h6 e).made BA.out), (fun e => StS.made (H.h7 e) BA.out), H.h8, H.h9, (fun _ _ => ⟨_, rfl, hsz, NA.out⟩), (fun h => by cases h), H.h12, H.h13⟩⟩
              · have ho := hoj
                simp only [List.getElem?_toArray, List.getElem?_cons_succ, List.getElem?_cons_zero, Option.some.injEq] at hoj
                subst hoj
                obtain rfl : vb11 = false := hun
                obtain rfl : vb0 = true := hall ⟨0, .phase⟩ (by simp) (by kernel_rfl)
                obtain rfl : vb1 = true := hall ⟨1, .phase⟩ (by simp) (by kernel_rfl)
                obtain rfl : vb2 = true := hall ⟨2, .phase⟩ (by simp) (by kernel_rfl)
                obtain rfl : vb3 = true := hall ⟨3, .phase⟩ (by simp) (by kernel_rfl)
                obtain rfl : vb4 = true := hall ⟨4, .phase⟩ (by simp) (by kernel_rfl)
                obtain rfl : vb5 = true := hall ⟨5, .chain⟩ (by simp) (by kernel_rfl)
                obtain rfl : vb6 = true := hall ⟨6, .phase⟩ (by simp) (by kernel_rfl)
                obtain rfl : vb7 = true := hall ⟨7, .data⟩ (by simp) (by kernel_rfl)
                obtain rfl : vb10 = true := hall ⟨10, .data⟩ (by simp) (by kernel_rfl)
                clear hall
                obtain rfl : vb12 = false := Bool.eq_false_iff.2 fun h => Bool.false_ne_true (H.d12 h).2.2.2.2.2.2.2.2.2.2
                obtain rfl : vb13 = false := Bool.eq_false_iff.2 fun h => Bool.false_ne_true (H.d13 h).2.2.2.2.2.2.2.2.2.2.2.1
                have hbe := H.be
                have hx_t5 := H.t5
                have hx_t6 := H.t6
                obtain rfl := H.h0 rfl
                obtain rfl := H.h1 rfl
                obtain rfl := H.h2 rfl
                obtain rfl := H.h3 rfl
                obtain rfl := H.h4 rfl
                have P5 := H.h5 rfl
                have P6 := H.h6 rfl
                have P7 := H.h7 rfl
                have P10 := H.h10 rfl rfl
                obtain ⟨k, rfl, hk0, hk⟩ := P10
                have hu := Lib.hid P7
                obtain ⟨Na, Nh, Nk, na, nh, nk, rfl⟩ := SpdS.slices P7
                obtain ⟨n1, n2⟩ := spnew_put hk hk0 hbe hu.out
                have NV := Lib.hid n1
                have HKP := Lib.hid n2
                have BV := Lib.hid (show Below X.heap.size X _ from let ⟨_, _, _, _, _, _, _, _, _, _, _, e⟩ := n1.ex; e)
                obtain ⟨q0, q1, q2, q3, q4⟩ := sp5 hk
                have qf := fun i => bk_frz hk i
                clear hk n1 n2
                refine wpOp_step ho (fun K' hK => ?_)
                have HK := Lib.hid hK
                clear hK ho
                go_simp
                exact HK.out _ _ ⟨_, _, _, _, _, _, _, _, _, _, _, _, _, _, _, _, _, _, _, _, _, _, _, _, _, vx11, _, _, rfl, rfl, ⟨BV.out, H.d3, H.d4, H.d5, H.d6, H.d7, H.d8, H.d9, (fun _ => ⟨rfl, rfl, rfl, rfl, rfl, rfl, rfl, rfl, rfl⟩), (fun h => by cases h), (fun h => by cases h), H.t5, H.t6, H.h0, H.h1, H.h2, H.h3, H.h4, (fun e => (H.h5 e).kp HKP.out), (fun e => (H.h6 e).kp HKP.out), (fun e => StS.on (H.h7 e) HKP.out), H.h8, H.h9, (fun _ h => by cases h), (fun _ => NV.out), H.h12, H.h13⟩⟩
              · have ho := hoj
                simp only [List.getElem?_toArray, List.getElem?_cons_succ, List.getElem?_cons_zero, Option.some.injEq] at hoj
                subst hoj
                obtain rfl : vb12 = false := hun
                obtain rfl : vb0 = true := hall ⟨0, .phase⟩ (by simp) (by kernel_rfl)
                obtain rfl : vb1 = true := hall ⟨1, .phase⟩ (by simp) (by kernel_rfl)
                obtain rfl : vb2 = true := hall ⟨2, .phase⟩ (by simp) (by kernel_rfl)
                obtain rfl : vb3 = true := hall ⟨3, .phase⟩ (by simp) (by kernel_rfl)
                obtain rfl : vb4 = true := hall ⟨4, .phase⟩ (by simp) (by kernel_rfl)
                obtain rfl : vb5 = true := hall ⟨5, .phase⟩ (by simp) (by kernel_rfl)
                obtain rfl : vb6 = true := hall ⟨6, .phase⟩ (by simp) (by kernel_rfl)
                obtain rfl : vb7 = true := hall ⟨7, .phase⟩ (by simp) (by kernel_rfl)
                obtain rfl : vb8 = true := hall ⟨8, .data⟩ (by simp) (by kernel_rfl)
                obtain rfl : vb10 = true := hall ⟨10, .phase⟩ (by simp) (by kernel_rfl)
                obtain rfl : vb11 = true := hall ⟨11, .chain⟩ (by simp) (by kernel_rfl)
                clear hall
                obtain rfl : vb13 = false := Bool.eq_false_iff.2 fun h => Bool.false_ne_true (H.d13 h).2.2.2.2.2.2.2.2.2.2.2.2
                have hbe := H.be
                have hx_t5 := H.t5
                have hx_t6 := H.t6
                obtain rfl := H.h0 rfl
                obtain rfl := H.h1 rfl
                obtain rfl := H.h2 rfl
                obtain rfl := H.h3 rfl
                obtain rfl := H.h4 rfl
                have P5 := H.h5 rfl
                have P6 := H.h6 rfl
                have P7 := H.h7 rfl
                obtain rfl := H.h8 rfl
                have P11 := H.h11 rfl
                refine wpOp_step ho (fun K' hK => ?_)
                have HK := Lib.hid hK
                clear hK ho
                go_simp
                exact HK.out _ _ ⟨_, _, _, _, _, _, _, _, _, _, _, _, _, _, _, _, _, _, _, _, _, _, _, _, _, vx11, _, _, rfl, rfl, ⟨hbe, H.d3, H.d4, H.d5, H.d6, H.d7, H.d8, H.d9, H.d11, (fun _ => ⟨rfl, rfl, rfl, rfl, rfl, rfl, rfl, rfl, rfl, rfl, rfl⟩), (fun h => by cases h), H.t5, H.t6, H.h0, H.h1, H.h2, H.h3, H.h4, H.h5, H.h6, H.h7, H.h8, H.h9, (fun _ h => by cases h), H.h11, (fun _ => rfl), H.h13⟩⟩
              · have ho := hoj
                simp only [List.getElem?_toArray, List.getElem?_cons_succ, List.getElem?_cons_zero, Option.some.injEq] at hoj
                subst hoj
                obtain rfl : vb13 = false := hun
                obtain rfl : vb0 = true := hall ⟨0, .phase⟩ (by simp) (by kernel_rfl)
                obtain rfl : vb1 = true := hall ⟨1, .phase⟩ (by simp) (by kernel_rfl)
                obtain rfl : vb2 = true := hall ⟨2, .phase⟩ (by simp) (by kernel_rfl)
                obtain rfl : vb3 = true := hall ⟨3, .phase⟩ (by simp) (by kernel_rfl)
                obtain rfl : vb4 = true := hall ⟨4, .phase⟩ (by simp) (by kernel_rfl)
                obtain rfl : vb5 = true := hall ⟨5, .phase⟩ (by simp) (by kernel_rfl)
                obtain rfl : vb6 = true := hall ⟨6, .phase⟩ (by simp) (by kernel_rfl)
                obtain rfl : vb7 = true := hall ⟨7, .phase⟩ (by simp) (by kernel_rfl)
                obtain rfl : vb8 = true := hall ⟨8, .phase⟩ (by simp) (by kernel_rfl)
                obtain rfl : vb9 = true := hall ⟨9, .data⟩ (by simp) (by kernel_rfl)
                obtain rfl : vb10 = true := hall ⟨10, .phase⟩ (by simp) (by kernel_rfl)
                obtain rfl : vb11 = true := hall ⟨11, .phase⟩ (by simp) (by kernel_rfl)
                obtain rfl : vb12 = true := hall ⟨12, .chain⟩ (by simp) (by kernel_rfl)
                clear hall
                have hbe := H.be
                have hx_t5 := H.t5
                have hx_t6 := H.t6
                obtain rfl := H.h0 rfl
                obtain rfl := H.h1 rfl
                obtain rfl := H.h2 rfl
                obtain rfl := H.h3 rfl
                obtain rfl := H.h4 rfl
                have P5 := H.h5 rfl
                have P6 := H.h6 rfl
                have P7 := H.h7 rfl
                obtain rfl := H.h8 rfl
                obtain rfl := H.h9 rfl
                have P11 := H.h11 rfl
                obtain rfl := H.h12 rfl
                refine wpOp_step ho (fun K' hK => ?_)
                have HK := Lib.hid hK
                clear hK ho
                go_simp
                exact HK.out _ _ ⟨_, _, _, _, _, _, _, _, _, _, _, _, _, _, _, _, _, _, _, _, _, _, _, _, _, vx11, _, _, rfl, rfl, ⟨hbe, H.d3, H.d4, H.d5, H.d6, H.d7, H.d8, H.d9, H.d11, H.d12, (fun _ => ⟨rfl, rfl, rfl, rfl, rfl, rfl, rfl, rfl, rfl, rfl, rfl, rfl, rfl⟩), H.t5, H.t6, H.h0, H.h1, H.h2, H.h3, H.h4, H.h5, H.h6, H.h7, H.h8, H.h9, (fun _ h => by cases h), H.h11, H.h12, (fun _ => rfl)⟩⟩
              · have ho := hoj
                simp at ho
            case hfin =>
              rintro listed a w ⟨vb0, vb1, vb2, vb3, vb4, vb5, vb6, vb7, vb8, vb9, vb10, vb11, vb12, vb13, vx0, vx1, vx2, vx3, vx4, vx5, vx6, vx7, vx8, vx9, vx10, vx11, vx12, vx13, rfl, rfl, H⟩ hr
              have hb : vb13 = true := by
                clear H
                obtain rfl : vb0 = true := by
                  cases vb0
                  · exact absurd hr (ready_neC (by kernel_rfl))
                  · rfl
                obtain rfl : vb1 = true := by
                  cases vb1
                  · exact absurd hr (ready_neC (by kernel_rfl))
                  · rfl
                obtain rfl : vb2 = true := by
                  cases vb2
                  · exact absurd hr (ready_neC (by kernel_rfl))
                  · rfl
                obtain rfl : vb3 = true := by
                  cases vb3
                  · exact absurd hr (ready_neC (by kernel_rfl))
                  · rfl
                obtain rfl : vb4 = true := by
                  cases vb4
                  · exact absurd hr (ready_neC (by kernel_rfl))
                  · rfl
                obtain rfl : vb5 = true := by
                  cases vb5
                  · exact absurd hr (ready_neC (by kernel_rfl))
                  · rfl
                obtain rfl : vb6 = true := by
                  cases vb6
                  · exact absurd hr (ready_neC (by kernel_rfl))
                  · rfl
                obtain rfl : vb7 = true := by
                  cases vb7
                  · exact absurd hr (ready_neC (by kernel_rfl))
                  · rfl
                obtain rfl : vb8 = true := by
                  cases vb8
                  · exact absurd hr (ready_neC (by kernel_rfl))
                  · rfl
                obtain rfl : vb9 = true := by
                  cases vb9
                  · exact absurd hr (ready_neC (by kernel_rfl))
                  · rfl
                obtain rfl : vb10 = true := by
                  cases vb10
                  · exact absurd hr (ready_neC (by kernel_rfl))
                  · rfl
                obtain rfl : vb11 = true := by
                  cases vb11
                  · exact absurd hr (ready_neC (by kernel_rfl))
                  · rfl
                obtain rfl : vb12 = true := by
                  cases vb12
                  · exact absurd hr (ready_neC (by kernel_rfl))
                  · rfl
                obtain rfl : vb13 = true := by
                  cases vb13
                  · exact absurd hr (ready_neC (by kernel_rfl))
                  · rfl
                rfl
              subst hb
              clear hr
              obtain rfl : vb0 = true := (H.d13 rfl).1
              obtain rfl : vb1 = true := (H.d13 rfl).2.1
              obtain rfl : vb2 = true := (H.d13 rfl).2.2.1
              obtain rfl : vb3 = true := (H.d13 rfl).2.2.2.1
              obtain rfl : vb4 = true := (H.d13 rfl).2.2.2.2.1
              obtain rfl : vb5 = true := (H.d13 rfl).2.2.2.2.2.1
              obtain rfl : vb6 = true := (H.d13 rfl).2.2.2.2.2.2.1
              obtain rfl : vb7 = true := (H.d13 rfl).2.2.2.2.2.2.2.1
              obtain rfl : vb8 = true := (H.d13 rfl).2.2.2.2.2.2.2.2.1
              obtain rfl : vb9 = true := (H.d13 rfl).2.2.2.2.2.2.2.2.2.1
              obtain rfl : vb10 = true := (H.d13 rfl).2.2.2.2.2.2.2.2.2.2.1
              obtain rfl : vb11 = true := (H.d13 rfl).2.2.2.2.2.2.2.2.2.2.2.1
              obtain rfl : vb12 = true := (H.d13 rfl).2.2.2.2.2.2.2.2.2.2.2.2
              have hnw := Lib.hid (H.h11 rfl)
              have e0 := H.h12 rfl
              have e1 := H.h13 rfl
              clear H
              obtain ⟨Y, hY⟩ : ∃ Y, Y = w := ⟨_, rfl⟩
              subst w
              obtain ⟨MV, Ba, Bh, Bk, da, dh, dk, rfl, hn0, hn1, hn2, hnb⟩ := hnw.out.ex
              have N7 := Lib.hid hn1
              have NV7 := Lib.hid hn2
              have NX7 := Lib.hid hn0
              have B7 := Lib.hid hnb
              clear hnw hn0 hn1 hn2 hnb
              subst e0
              subst e1
              have G7 := Lib.hid (GX.out.on B7.out)
              have HMX2 := Lib.hid (GX.out.mlt)
              have HMX := Lib.hid (show M + 1 ≤ X.heap.size from GX.out.mlt)
              by_cases hec : ec = 0
              · have hs0 : (sendSp s T a []).2.2 = 0 := by rw [HEQ.out]; exact hec
                obtain ⟨on1, nn, nx⟩ := ON.out.send hs0
                rw [HEQ.out] at on1 nn nx
                dsimp only at on1 nn nx
                have nf1 : NoFr s' := by have := NF.out.send T a; rw [HEQ.out] at this; exact this
                have ON1 := Lib.hid on1
                have NF1 := Lib.hid nf1
                have NX1 := Lib.hid nx
                have NN1 := Lib.hid nn
                subst hec
                clear on1 nn nx nf1 hs0
                obtain ⟨y0, y1, y2, y3, y4⟩ := sp5 N7.out
                obtain ⟨q0, q1, q2, q3, q4⟩ := sp5 G7.out.x
                have qf := fun i => bk_frz G7.out.x i
                obtain ⟨fx, gx⟩ := sp5_put G7.out.x (.int .i64 s'.next) (.slice Ba s'.sent.length da) (.int .i64 s'.top) (.slice Bh s'.heard.length dh) (.slice Bk s'.skip.length dk)
                obtain ⟨Z8, hZ8⟩ : ∃ x, (((((Y.setCell ⟨V, 0, none⟩ (.int .i64 s'.next)).setCell ⟨V, 1, none⟩ (.slice Ba s'.sent.length da)).setCell ⟨V, 2, none⟩ (.int .i64 s'.top)).setCell ⟨V, 3, none⟩ (.slice Bh s'.heard.length dh)).setCell ⟨V, 4, none⟩ (.slice Bk s'.skip.length dk)) = x := ⟨_, rfl⟩
                rw [hZ8] at fx gx
                have G8 := Lib.hid (G7.out.put gx fx (SpU.low NV7.out HMX.out) HKV.out HVM.out HWV.out)
                go_upto_region 24 with fail
                clear y0 y1 y2 y3 y4 q0 q1 q2 q3 q4 qf fx gx
                try rw [hZ8]
                clear hZ8
                have hnb : i64N n := by have := NN1.out; have := ON.out.ok.1.1; unfold i64N; omega
                have hwf : (Lit.int .i64 n).wf = true := i64_wf hnb
                obtain ⟨D, OO, MM⟩ := G8.out.m
                have HOO := Lib.hid OO
                have HMM := Lib.hid MM
                clear OO MM
                go_upto_region 40 with (at_mapUpdate; refine wpList_mapUpdate_own _ rfl _ _ _ 49 rfl 3 3 (Maps.int_keyed Try.underlying3) Try.underlying49 _ M n0 D rfl HOO.out (by unfold maxLen; omega) _ _ (kyI n) rfl rfl (Maps.keyOf_int_mk Try.underlying3 hwf) _ _ (plainElem_int Try.underlying3 (by decide)) ?_; intro WU hou hgu; have OU := Lib.hid hou; have GU := Lib.hid hgu; clear hou hgu)
                have GN := Lib.hid (G8.out.store GU.out OU.out (E' := fun y => if y = s.next then some 1 else E y) ((HMM.out.put n 1).congr (fun y => by rw [NN1.out])) HKV.out HVM.out HWV.out)
                go_wp2_with fail
                go_roundg (gk - 1)
                case measure => omega
                case rel => exact ⟨kk + 1, T, s', _, n0 + 1, Ba, Bh, Bk, da, dh, dk, by first | rfl | (rw [HTT.out]) | go_num, by first | rfl | go_num, by omega, t0, by omega, by have := NX1.out; omega, by omega, ON1, NF1, GN⟩
              · have gec : (ec == 0) = false := by simp [hec]
                clear hec
                go_wp2_with fail
                go_roundg (gk - 1)
                case measure => omega
                case rel => exact ⟨kk + 1, T, s, _, n0, Aa, Ah, Ak, ca, ch, ck, by first | rfl | (rw [HTT.out]) | go_num, by first | rfl | go_num, by omega, t0, by omega, by omega, by omega, ON, NF, G7⟩
        · as_aux_lemma =>
            obtain ⟨a, ha⟩ : ∃ a, ra % 100 = a := ⟨_, rfl⟩
            have a0 : 0 ≤ a := by omega
            have a1 : a < 100 := by omega
            have HPA := Lib.hid (fun w => ha ▸ picked_any ra 100 (by decide) (by decide) w)
            obtain ⟨⟨s', n, ec⟩, hq⟩ : ∃ r, sendSp s T a [] = r := ⟨_, rfl⟩
            have HEQ := Lib.hid hq
            clear ha hq
            go_upto_region 21 with fail
            refine wp_region_inv (fun lis_ act_ wld_ => ∃ (yb0 yb1 yb2 yb3 yb4 yb5 yb6 yb7 yb8 yb9 yb10 yb11 yb12 yb13 : Bool) (yx0 yx1 yx2 yx3 yx4 yx5 yx6 yx7 yx8 yx9 yx10 yx11 yx12 yx13 : Value), lis_ = #[yb0, yb1, yb2, yb3, yb4, yb5, yb6, yb7, yb8, yb9, yb10, yb11, yb12, yb13] ∧ act_ = { tmps := #[Value.slice (some { block := b, off := off }) len cap, undef, Value.pointer (some { block := K0, off := 0 }), u3, u4, Value.pointer (some { block := V, off := 0 }), Value.map (some M), Value.int IntKind.i64 T, undef, Value.pointer (some { block := R, off := 0 }), yx10, yx12, yx13, u13, u14, u15, u16, u17, u18, u19, undef, u21, u22, u23, u24, undef, u26, Value.agg #[Value.int IntKind.i64 0, Value.slice none 0 0, Value.int IntKind.i64 (-1), Value.slice none 0 0, Value.slice none 0 0], Value.map (some M), Value.slice (some { block := b, off := off }) len cap, Value.slice (some { block := b, off := off }) N cap, Value.int IntKind.i64 ↑N, Value.int IntKind.i64 ↑kk, Value.bool true, Value.pointer (some { block := b, off := off + kk * 4 }), Value.agg #[Value.int IntKind.i64 kd, Value.int IntKind.i64 ra, Value.int IntKind.i64 rb, Value.string rt], Value.int IntKind.i64 now, Value.pointer (some { block := R, off := 2 }), Value.int IntKind.i64 rb, Value.int IntKind.i64 T3, Value.int IntKind.i64 T, Value.pointer (some { block := R, off := 0 }), Value.int IntKind.i64 kd, Value.int IntKind.i64 2, u44, u45, u46, u47, u48, u49, u50, u51, u52, u53, u54, u55, u56, u57, u58, u59, u60, u61, u62, u63, u64, u65, u66, u67, u68, u69, u70, u71, Value.bool true, Value.bool false, Value.bool false, Value.bool true, yx6, yx0, yx1, yx2, yx3, yx4, yx5, yx7, yx8, yx9, u86, u87, u88, u89, u90, u91, u92, u93, u94, u95, u96, u97, u98, u99, u100, u101, u102, u103, u104, u105, u106, u107, u108, u109, u110, u111, u112, u113, u114, u115, u116, u117, u118, u119, u120, u121, u122, u123, u124, u125, u126, u127, u128, u129, u130, u131, u132, u133, u134, u135, u136, u137, u138, u139, u140, u141, u142, undef, undef], defers := [] } ∧ SdA2 X Aa Ah Ak ca ch ck s s' R T ra a n ec (.agg #[.int .i64 s.next, .slice Aa s.sent.length ca, .int .i64 s.top, .slice Ah s.heard.length ch, .slice Ak s.skip.length ck]) (.int .i64 T) (.pointer (some ⟨R, 1, none⟩)) (.int .i64 ra) (.int .i64 a) (.int .i64 n) (.int .i64 ec) (.int .i64 n) (.int .i64 ec) yb0 yb1 yb2 yb3 yb4 yb5 yb6 yb7 yb8 yb9 yb10 yb11 yb12 yb13 yx0 yx1 yx2 yx3 yx4 yx5 yx6 yx7 yx8 yx9 yx10 yx11 yx12 yx13 wld_) (by kernel_rfl) ?h0 ?hfin ?hI
            case h0 => exact ⟨_, _, _, _, _, _, _, _, _, _, _, _, _, _, _, _, _, _, _, _, _, _, _, _, _, undef, _, _, rfl, rfl, ⟨(Below.refl _ _).drew, (fun h => by cases h), (fun h => by cases h), (fun h => by cases h), (fun h => by cases h), (fun h => by cases h), (fun h => by cases h), (fun h => by cases h), (fun h => by cases h), (fun h => by cases h), (fun h => by cases h), (fun h => by cases h), (fun h => by cases h), (fun h => by cases h), (fun h => by cases h), (fun h => by cases h), (fun h => by cases h), (fun h => by cases h), (fun h => by cases h), (fun h => by cases h), (fun h => by cases h), (fun h => by cases h), (fun h => by cases h), (fun h => by cases h), (fun h => by cases h), (fun h => by cases h), (fun h => by cases h)⟩⟩
            case hI =>
              rintro listed a w ⟨yb0, yb1, yb2, yb3, yb4, yb5, yb6, yb7, yb8, yb9, yb10, yb11, yb12, yb13, yx0, yx1, yx2, yx3, yx4, yx5, yx6, yx7, yx8, yx9, yx10, yx11, yx12, yx13, rfl, rfl, H⟩ i hi
              obtain ⟨hun, oj, hoj, hall⟩ := mem_ready.1 hi
              clear hi
              rcases i with _ | _ | _ | _ | _ | _ | _ | _ | _ | _ | _ | _ | _ | _ | i
              · have ho := hoj
                simp only [List.getElem?_toArray, List.getElem?_cons_zero, Option.some.injEq] at hoj
                subst hoj
                obtain rfl : yb0 = false := hun
                clear hall
                obtain rfl : yb5 = false := Bool.eq_false_iff.2 fun h => Bool.false_ne_true (H.d5 h).1
                obtain rfl : yb6 = false := Bool.eq_false_iff.2 fun h => Bool.false_ne_true (H.d6 h)
                obtain rfl : yb7 = false := Bool.eq_false_iff.2 fun h => Bool.false_ne_true (H.d7 h)
                obtain rfl : yb8 = false := Bool.eq_false_iff.2 fun h => Bool.false_ne_true (H.d8 h)
                obtain rfl : yb9 = false := Bool.eq_false_iff.2 fun h => Bool.false_ne_true (H.d9 h)
                obtain rfl : yb11 = false := Bool.eq_false_iff.2 fun h => Bool.false_ne_true (H.d11 h).1
                obtain rfl : yb12 = false := Bool.eq_false_iff.2 fun h => Bool.false_ne_true (H.d12 h).1
                obtain rfl : yb13 = false := Bool.eq_false_iff.2 fun h => Bool.false_ne_true (H.d13 h).1
                have hbe := H.be
                have hx_t5 := H.t5
                have hx_t6 := H.t6
                obtain ⟨q0, q1, q2, q3, q4⟩ := sp5 ((hbe.block _ (lt_of_block GX.out.x)).trans GX.out.x)
                refine wpOp_step ho (fun K' hK => ?_)
                have HK := Lib.hid hK
                clear hK ho
                go_simp
                exact HK.out _ _ ⟨_, _, _, _, _, _, _, _, _, _, _, _, _, _, _, _, _, _, _, _, _, _, _, _, _, yx11, _, _, rfl, rfl, ⟨hbe, H.d3, H.d4, (fun h => by cases h), H.d6, H.d7, H.d8, H.d9, (fun h => by cases h), (fun h => by cases h), (fun h => by cases h), H.t5, H.t6, (fun _ => rfl), H.h1, H.h2, H.h3, H.h4, (fun h => by cases h), (fun h => by cases h), (fun h => by cases h), H.h8, H.h9, H.h10, (fun h => by cases h), H.h12, H.h13⟩⟩
              · have ho := hoj
                simp only [List.getElem?_toArray, List.getElem?_cons_succ, List.getElem?_cons_zero, Option.some.injEq] at hoj
                subst hoj
                obtain rfl : yb1 = false := hun
                clear hall
                obtain rfl : yb5 = false := Bool.eq_false_iff.2 fun h => Bool.false_ne_true (H.d5 h).2.1
                obtain rfl : yb6 = false := Bool.eq_false_iff.2 fun h => Bool.false_ne_true (H.d6 h)
                obtain rfl : yb7 = false := Bool.eq_false_iff.2 fun h => Bool.false_ne_true (H.d7 h)
                obtain rfl : yb8 = false := Bool.eq_false_iff.2 fun h => Bool.false_ne_true (H.d8 h)
                obtain rfl : yb9 = false := Bool.eq_false_iff.2 fun h => Bool.false_ne_true (H.d9 h)
                obtain rfl : yb11 = false := Bool.eq_false_iff.2 fun h => Bool.false_ne_true (H.d11 h).2.1
                obtain rfl : yb12 = false := Bool.eq_false_iff.2 fun h => Bool.false_ne_true (H.d12 h).2.1
                obtain rfl : yb13 = false := Bool.eq_false_iff.2 fun h => Bool.false_ne_true (H.d13 h).2.1
                have hbe := H.be
                have hx_t5 := H.t5
                have hx_t6 := H.t6
                refine wpOp_step ho (fun K' hK => ?_)
                have HK := Lib.hid hK
                clear hK ho
                go_simp
                exact HK.out _ _ ⟨_, _, _, _, _, _, _, _, _, _, _, _, _, _, _, _, _, _, _, _, _, _, _, _, _, yx11, _, _, rfl, rfl, ⟨hbe, H.d3, H.d4, (fun h => by cases h), H.d6, H.d7, H.d8, H.d9, (fun h => by cases h), (fun h => by cases h), (fun h => by cases h), H.t5, H.t6, H.h0, (fun _ => rfl), H.h2, H.h3, H.h4, (fun h => by cases h), (fun h => by cases h), (fun h => by cases h), H.h8, H.h9, H.h10, (fun h => by cases h), H.h12, H.h13⟩⟩
              · have ho := hoj
                simp only [List.getElem?_toArray, List.getElem?_cons_succ, List.getElem?_cons_zero, Option.some.injEq] at hoj
                subst hoj
                obtain rfl : yb2 = false := hun
                clear hall
                obtain rfl : yb3 = false := Bool.eq_false_iff.2 fun h => Bool.false_ne_true (H.d3 h)
                obtain rfl : yb4 = false := Bool.eq_false_iff.2 fun h => Bool.false_ne_true (H.d4 h)
                obtain rfl : yb5 = false := Bool.eq_false_iff.2 fun h => Bool.false_ne_true (H.d5 h).2.2
                obtain rfl : yb6 = false := Bool.eq_false_iff.2 fun h => Bool.false_ne_true (H.d6 h)
                obtain rfl : yb7 = false := Bool.eq_false_iff.2 fun h => Bool.false_ne_true (H.d7 h)
                obtain rfl : yb8 = false := Bool.eq_false_iff.2 fun h => Bool.false_ne_true (H.d8 h)
                obtain rfl : yb9 = false := Bool.eq_false_iff.2 fun h => Bool.false_ne_true (H.d9 h)
                obtain rfl : yb11 = false := Bool.eq_false_iff.2 fun h => Bool.false_ne_true (H.d11 h).2.2.1
                obtain rfl : yb12 = false := Bool.eq_false_iff.2 fun h => Bool.false_ne_true (H.d12 h).2.2.1
                obtain rfl : yb13 = false := Bool.eq_false_iff.2 fun h => Bool.false_ne_true (H.d13 h).2.2.1
                have hbe := H.be
                have hx_t5 := H.t5
                have hx_t6 := H.t6
                refine wpOp_step ho (fun K' hK => ?_)
                have HK := Lib.hid hK
                clear hK ho
                go_simp
                exact HK.out _ _ ⟨_, _, _, _, _, _, _, _, _, _, _, _, _, _, _, _, _, _, _, _, _, _, _, _, _, yx11, _, _, rfl, rfl, ⟨hbe, (fun h => by cases h), H.d4, H.d5, H.d6, H.d7, H.d8, H.d9, (fun h => by cases h), (fun h => by cases h), (fun h => by cases h), H.t5, H.t6, H.h0, H.h1, (fun _ => rfl), H.h3, H.h4, (fun h => by cases h), (fun h => by cases h), (fun h => by cases h), H.h8, H.h9, H.h10, (fun h => by cases h), H.h12, H.h13⟩⟩
              · have ho := hoj
                simp only [List.getElem?_toArray, List.getElem?_cons_succ, List.getElem?_cons_zero, Option.some.injEq] at hoj
                subst hoj
                obtain rfl : yb3 = false := hun
                obtain rfl : yb2 = true := hall ⟨2, .data⟩ (by simp) (by kernel_rfl)
                clear hall
                obtain rfl : yb4 = false := Bool.eq_false_iff.2 fun h => Bool.false_ne_true (H.d4 h)
                obtain rfl : yb5 = false := Bool.eq_false_iff.2 fun h => Bool.false_ne_true (H.d5 h).2.2
                obtain rfl : yb6 = false := Bool.eq_false_iff.2 fun h => Bool.false_ne_true (H.d6 h)
                obtain rfl : yb7 = false := Bool.eq_false_iff.2 fun h => Bool.false_ne_true (H.d7 h)
                obtain rfl : yb8 = false := Bool.eq_false_iff.2 fun h => Bool.false_ne_true (H.d8 h)
                obtain rfl : yb9 = false := Bool.eq_false_iff.2 fun h => Bool.false_ne_true (H.d9 h)
                obtain rfl : yb11 = false := Bool.eq_false_iff.2 fun h => Bool.false_ne_true (H.d11 h).2.2.2.1
                obtain rfl : yb12 = false := Bool.eq_false_iff.2 fun h => Bool.false_ne_true (H.d12 h).2.2.2.1
                obtain rfl : yb13 = false := Bool.eq_false_iff.2 fun h => Bool.false_ne_true (H.d13 h).2.2.2.1
                have hbe := H.be
                have hx_t5 := H.t5
                have hx_t6 := H.t6
                obtain rfl := H.h2 rfl
                obtain ⟨z0, z1, z2, z3⟩ := bk4R ((hbe.block _ (lt_of_block RX.out)).trans RX.out)
                refine wpOp_step ho (fun K' hK => ?_)
                have HK := Lib.hid hK
                clear hK ho
                go_simp
                exact HK.out _ _ ⟨_, _, _, _, _, _, _, _, _, _, _, _, _, _, _, _, _, _, _, _, _, _, _, _, _, yx11, _, _, rfl, rfl, ⟨hbe, (fun _ => rfl), (fun h => by cases h), H.d5, H.d6, H.d7, H.d8, H.d9, (fun h => by cases h), (fun h => by cases h), (fun h => by cases h), H.t5, H.t6, H.h0, H.h1, H.h2, (fun _ => rfl), H.h4, (fun h => by cases h), (fun h => by cases h), (fun h => by cases h), H.h8, H.h9, H.h10, (fun h => by cases h), H.h12, H.h13⟩⟩
              · have ho := hoj
                simp only [List.getElem?_toArray, List.getElem?_cons_succ, List.getElem?_cons_zero, Option.some.injEq] at hoj
                subst hoj
                obtain rfl : yb4 = false := hun
                obtain rfl : yb3 = true := hall ⟨3, .data⟩ (by simp) (by kernel_rfl)
                obtain rfl : yb2 = true := (H.d3 rfl)
                clear hall
                obtain rfl : yb5 = false := Bool.eq_false_iff.2 fun h => Bool.false_ne_true (H.d5 h).2.2
                obtain rfl : yb6 = false := Bool.eq_false_iff.2 fun h => Bool.false_ne_true (H.d6 h)
                obtain rfl : yb7 = false := Bool.eq_false_iff.2 fun h => Bool.false_ne_true (H.d7 h)
                obtain rfl : yb8 = false := Bool.eq_false_iff.2 fun h => Bool.false_ne_true (H.d8 h)
                obtain rfl : yb9 = false := Bool.eq_false_iff.2 fun h => Bool.false_ne_true (H.d9 h)
                obtain rfl : yb11 = false := Bool.eq_false_iff.2 fun h => Bool.false_ne_true (H.d11 h).2.2.2.2.1
                obtain rfl : yb12 = false := Bool.eq_false_iff.2 fun h => Bool.false_ne_true (H.d12 h).2.2.2.2.1
                obtain rfl : yb13 = false := Bool.eq_false_iff.2 fun h => Bool.false_ne_true (H.d13 h).2.2.2.2.1
                have hbe := H.be
                have hx_t5 := H.t5
                have hx_t6 := H.t6
                obtain rfl := H.h2 rfl
                obtain rfl := H.h3 rfl
                refine wpOp_step ho (fun K' hK => ?_)
                have HK := Lib.hid hK
                clear hK ho
                go_wp2_with (go_at_call 11; refine (HPA.out _).mono ?_; rintro e w' ⟨rfl, rfl⟩)
                exact HK.out _ _ ⟨_, _, _, _, _, _, _, _, _, _, _, _, _, _, _, _, _, _, _, _, _, _, _, _, _, yx11, _, _, rfl, rfl, ⟨hbe, H.d3, (fun _ => rfl), (fun h => by cases h), H.d6, H.d7, H.d8, H.d9, (fun h => by cases h), (fun h => by cases h), (fun h => by cases h), H.t5, H.t6, H.h0, H.h1, H.h2, H.h3, (fun _ => rfl), (fun h => by cases h), (fun h => by cases h), (fun h => by cases h), H.h8, H.h9, H.h10, (fun h => by cases h), H.h12, H.h13⟩⟩
              · have ho := hoj
                simp only [List.getElem?_toArray, List.getElem?_cons_succ, List.getElem?_cons_zero, Option.some.injEq] at hoj
                subst hoj
                obtain rfl : yb5 = false := hun
                obtain rfl : yb0 = true := hall ⟨0, .data⟩ (by simp) (by kernel_rfl)
                obtain rfl : yb1 = true := hall ⟨1, .data⟩ (by simp) (by kernel_rfl)
                obtain rfl : yb4 = true := hall ⟨4, .data⟩ (by simp) (by kernel_rfl)
                obtain rfl : yb3 = true := (H.d4 rfl)
                obtain rfl : yb2 = true := (H.d3 rfl)
                clear hall
                obtain rfl : yb6 = false := Bool.eq_false_iff.2 fun h => Bool.false_ne_true (H.d6 h)
                obtain rfl : yb7 = false := Bool.eq_false_iff.2 fun h => Bool.false_ne_true (H.d7 h)
                obtain rfl : yb8 = false := Bool.eq_false_iff.2 fun h => Bool.false_ne_true (H.d8 h)
                obtain rfl : yb9 = false := Bool.eq_false_iff.2 fun h => Bool.false_ne_true (H.d9 h)
                obtain rfl : yb11 = false := Bool.eq_false_iff.2 fun h => Bool.false_ne_true (H.d11 h).2.2.2.2.2.1
                obtain rfl : yb12 = false := Bool.eq_false_iff.2 fun h => Bool.false_ne_true (H.d12 h).2.2.2.2.2.1
                obtain rfl : yb13 = false := Bool.eq_false_iff.2 fun h => Bool.false_ne_true (H.d13 h).2.2.2.2.2.1
                have hbe := H.be
                have hx_t5 := H.t5
                have hx_t6 := H.t6
                obtain rfl := H.h0 rfl
                obtain rfl := H.h1 rfl
                obtain rfl := H.h2 rfl
                obtain rfl := H.h3 rfl
                obtain rfl := H.h4 rfl
                refine wpOp_step ho (fun K' hK => ?_)
                have HK := Lib.hid hK
                clear hK ho
                go_wp2_with fail
                refine (spSend_any _ (.slice none 0 0) s T a [] w (StS.on GX.out.v (KpS.below hbe)).now HWF.out (FsSl.nil _ _) frs0_wf).mono ?_
                rintro e w1 hr
                have BC := Lib.hid hr.be
                obtain ⟨u1, rfl, hu1⟩ := hr.ex
                rw [HEQ.out] at hu1 ⊢
                have UC := Lib.hid (show TupN X yb10 yx10 w1 _ s' n ec from ⟨u1, rfl, hu1.toX hbe.size (fun hb => let ⟨k, e1, _, e3⟩ := H.h10 hb rfl; ⟨k, e1, lt_of_block e3⟩)⟩)
                clear hr hu1
                go_wp2_with fail
                exact HK.out _ _ ⟨_, _, _, _, _, _, _, _, _, _, _, _, _, _, _, _, _, _, _, _, _, _, _, _, _, yx11, _, _, rfl, rfl, ⟨hbe.trans (BC.out.mono hbe.size), H.d3, H.d4, (fun _ => ⟨rfl, rfl, rfl⟩), (fun h => by cases h), H.d7, H.d8, H.d9, (fun h => by cases h), (fun h => by cases h), (fun h => by cases h), fun _ => ⟨_, rfl⟩, hx_t6, H.h0, H.h1, H.h2, H.h3, H.h4, (fun _ => UC.out), (fun h => by cases h), (fun h => by cases h), H.h8, H.h9, (fun e f => let ⟨k, e1, e2, e3⟩ := (H.h10 e f); ⟨k, e1, e2, (BC.out.block _ (lt_of_block e3)).trans e3⟩), (fun h => by cases h), H.h12, H.h13⟩⟩
              · have ho := hoj
                simp only [List.getElem?_toArray, List.getElem?_cons_succ, List.getElem?_cons_zero, Option.some.injEq] at hoj
                subst hoj
                obtain rfl : yb6 = false := hun
                obtain rfl : yb5 = true := hall ⟨5, .data⟩ (by simp) (by kernel_rfl)
                obtain rfl : yb0 = true := (H.d5 rfl).1
                obtain rfl : yb1 = true := (H.d5 rfl).2.1
                obtain rfl : yb4 = true := (H.d5 rfl).2.2
                obtain rfl : yb3 = true := (H.d4 rfl)
                obtain rfl : yb2 = true := (H.d3 rfl)
                clear hall
                obtain rfl : yb7 = false := Bool.eq_false_iff.2 fun h => Bool.false_ne_true (H.d7 h)
                obtain rfl : yb8 = false := Bool.eq_false_iff.2 fun h => Bool.false_ne_true (H.d8 h)
                obtain rfl : yb9 = false := Bool.eq_false_iff.2 fun h => Bool.false_ne_true (H.d9 h)
                obtain rfl : yb11 = false := Bool.eq_false_iff.2 fun h => Bool.false_ne_true (H.d11 h).2.2.2.2.2.2.1
                obtain rfl : yb12 = false := Bool.eq_false_iff.2 fun h => Bool.false_ne_true (H.d12 h).2.2.2.2.2.2.1
                obtain rfl : yb13 = false := Bool.eq_false_iff.2 fun h => Bool.false_ne_true (H.d13 h).2.2.2.2.2.2.1
                have hbe := H.be
                have hx_t5 := H.t5
                have hx_t6 := H.t6
                obtain rfl := H.h0 rfl
                obtain rfl := H.h1 rfl
                obtain rfl := H.h2 rfl
                obtain rfl := H.h3 rfl
                obtain rfl := H.h4 rfl
                have P5 := H.h5 rfl
                have PT := Lib.hid P5
                have TT := Lib.hid (H.t5 rfl)
                clear P5
                refine wpOp_step ho (fun K' hK => ?_)
                have HK := Lib.hid hK
                clear hK ho
                go_simp
                exact HK.out _ _ ⟨_, _, _, _, _, _, _, _, _, _, _, _, _, _, _, _, _, _, _, _, _, _, _, _, _, yx11, _, _, rfl, rfl, ⟨hbe, H.d3, H.d4, H.d5, (fun _ => rfl), (fun h => by cases h), (fun h => by cases h), (fun h => by cases h), (fun h => by cases h), (fun h => by cases h), (fun h => by cases h), H.t5, fun _ => TT.out, H.h0, H.h1, H.h2, H.h3, H.h4, H.h5, (fun _ => PT.out), (fun h => by cases h), H.h8, H.h9, H.h10, (fun h => by cases h), H.h12, H.h13⟩⟩
              · have ho := hoj
                simp only [List.getElem?_toArray, List.getElem?_cons_succ, List.getElem?_cons_zero, Option.some.injEq] at hoj
                subst hoj
                obtain rfl : yb7 = false := hun
                obtain rfl : yb6 = true := hall ⟨6, .data⟩ (by simp) (by kernel_rfl)
                obtain rfl : yb5 = true := (H.d6 rfl)
                obtain rfl : yb0 = true := (H.d5 rfl).1
                obtain rfl : yb1 = true := (H.d5 rfl).2.1
                obtain rfl : yb4 = true := (H.d5 rfl).2.2
                obtain rfl : yb3 = true := (H.d4 rfl)
                obtain rfl : yb2 = true := (H.d3 rfl)
                clear hall
                obtain rfl : yb11 = false := Bool.eq_false_iff.2 fun h => Bool.false_ne_true (H.d11 h).2.2.2.2.2.2.2.1
                obtain rfl : yb12 = false := Bool.eq_false_iff.2 fun h => Bool.false_ne_true (H.d12 h).2.2.2.2.2.2.2.1
                obtain rfl : yb13 = false := Bool.eq_false_iff.2 fun h => Bool.false_ne_true (H.d13 h).2.2.2.2.2.2.2.1
                have hbe := H.be
                have hx_t5 := H.t5
                have hx_t6 := H.t6
                obtain rfl := H.h0 rfl
                obtain rfl := H.h1 rfl
                obtain rfl := H.h2 rfl
                obtain rfl := H.h3 rfl
                obtain rfl := H.h4 rfl
                have P5 := H.h5 rfl
                have P6 := H.h6 rfl
                obtain ⟨u, rfl, hu⟩ := P6.ex
                have HU := Lib.hid hu
                clear hu
                refine wpOp_step ho (fun K' hK => ?_)
                have HK := Lib.hid hK
                clear hK ho
                go_simp
                exact HK.out _ _ ⟨_, _, _, _, _, _, _, _, _, _, _, _, _, _, _, _, _, _, _, _, _, _, _, _, _, yx11, _, _, rfl, rfl, ⟨hbe, H.d3, H.d4, H.d5, H.d6, (fun _ => rfl), H.d8, H.d9, (fun h => by cases h), (fun h => by cases h), (fun h => by cases h), H.t5, H.t6, H.h0, H.h1, H.h2, H.h3, H.h4, H.h5, H.h6, (fun _ => HU.out), H.h8, H.h9, H.h10, (fun h => by cases h), H.h12, H.h13⟩⟩
              · have ho := hoj
                simp only [List.getElem?_toArray, List.getElem?_cons_succ, List.getElem?_cons_zero, Option.some.injEq] at hoj
                subst hoj
                obtain rfl : yb8 = false := hun
                obtain rfl : yb6 = true := hall ⟨6, .data⟩ (by simp) (by kernel_rfl)
                obtain rfl : yb5 = true := (H.d6 rfl)
                obtain rfl : yb0 = true := (H.d5 rfl).1
                obtain rfl : yb1 = true := (H.d5 rfl).2.1
                obtain rfl : yb4 = true := (H.d5 rfl).2.2
                obtain rfl : yb3 = true := (H.d4 rfl)
                obtain rfl : yb2 = true := (H.d3 rfl)
                clear hall
                obtain rfl : yb12 = false := Bool.eq_false_iff.2 fun h => Bool.false_ne_true (H.d12 h).2.2.2.2.2.2.2.2.1
                obtain rfl : yb13 = false := Bool.eq_false_iff.2 fun h => Bool.false_ne_true (H.d13 h).2.2.2.2.2.2.2.2.1
                have hbe := H.be
                have hx_t5 := H.t5
                have hx_t6 := H.t6
                obtain rfl := H.h0 rfl
                obtain rfl := H.h1 rfl
                obtain rfl := H.h2 rfl
                obtain rfl := H.h3 rfl
                obtain rfl := H.h4 rfl
                have P5 := H.h5 rfl
                have P6 := H.h6 rfl
                obtain ⟨u, rfl⟩ := H.t6 rfl
                refine wpOp_step ho (fun K' hK => ?_)
                have HK := Lib.hid hK
                clear hK ho
                go_simp
                exact HK.out _ _ ⟨_, _, _, _, _, _, _, _, _, _, _, _, _, _, _, _, _, _, _, _, _, _, _, _, _, yx11, _, _, rfl, rfl, ⟨hbe, H.d3, H.d4, H.d5, H.d6, H.d7, (fun _ => rfl), H.d9, H.d11, (fun h => by cases h), (fun h => by cases h), H.t5, H.t6, H.h0, H.h1, H.h2, H.h3, H.h4, H.h5, H.h6, H.h7, (fun _ => rfl), H.h9, H.h10, H.h11, H.h12, H.h13⟩⟩
              · have ho := hoj
                simp only [List.getElem?_toArray, List.getElem?_cons_succ, List.getElem?_cons_zero, Option.some.injEq] at hoj
                subst hoj
                obtain rfl : yb9 = false := hun
                obtain rfl : yb6 = true := hall ⟨6, .data⟩ (by simp) (by kernel_rfl)
                obtain rfl : yb5 = true := (H.d6 rfl)
                obtain rfl : yb0 = true := (H.d5 rfl).1
                obtain rfl : yb1 = true := (H.d5 rfl).2.1
                obtain rfl : yb4 = true := (H.d5 rfl).2.2
                obtain rfl : yb3 = true := (H.d4 rfl)
                obtain rfl : yb2 = true := (H.d3 rfl)
                clear hall
                obtain rfl : yb13 = false := Bool.eq_false_iff.2 fun h => Bool.false_ne_true (H.d13 h).2.2.2.2.2.2.2.2.2.1
                have hbe := H.be
                have hx_t5 := H.t5
                have hx_t6 := H.t6
                obtain rfl := H.h0 rfl
                obtain rfl := H.h1 rfl
                obtain rfl := H.h2 rfl
                obtain rfl := H.h3 rfl
                obtain rfl := H.h4 rfl
                have P5 := H.h5 rfl
                have P6 := H.h6 rfl
                obtain ⟨u, rfl⟩ := H.t6 rfl
                refine wpOp_step ho (fun K' hK => ?_)
                have HK := Lib.hid hK
                clear hK ho
                go_simp
                exact HK.out _ _ ⟨_, _, _, _, _, _, _, _, _, _, _, _, _, _, _, _, _, _, _, _, _, _, _, _, _, yx11, _, _, rfl, rfl, ⟨hbe, H.d3, H.d4, H.d5, H.d6, H.d7, H.d8, (fun _ => rfl), H.d11, H.d12, (fun h => by cases h), H.t5, H.t6, H.h0, H.h1, H.h2, H.h3, H.h4, H.h5, H.h6, H.h7, H.h8, (fun _ => rfl), H.h10, H.h11, H.h12, H.h13⟩⟩
              · have ho := hoj
                simp only [List.getElem?_toArray, List.getElem?_cons_succ, List.getElem?_cons_zero, Option.some.injEq] at hoj
                subst hoj
                obtain rfl : yb10 = false := hun
                clear hall
                obtain rfl : yb11 = false := Bool.eq_false_iff.2 fun h => Bool.false_ne_true (H.d11 h).2.2.2.2.2.2.2.2
                obtain rfl : yb12 = false := Bool.eq_false_iff.2 fun h => Bool.false_ne_true (H.d12 h).2.2.2.2.2.2.2.2.2.1
                obtain rfl : yb13 = false := Bool.eq_false_iff.2 fun h => Bool.false_ne_true (H.d13 h).2.2.2.2.2.2.2.2.2.2.1
                have hbe := H.be
                have hx_t5 := H.t5
                have hx_t6 := H.t6
                have BA := Lib.hid ((Below.refl w.heap.size w).alloc (Nat.le_refl _) (.cells #[.int .i64 0, .slice none 0 0, .int .i64 0, .slice none 0 0, .slice none 0 0] 48))
                have NA := Lib.hid (heap_alloc_new w (.cells #[.int .i64 0, .slice none 0 0, .int .i64 0, .slice none 0 0, .slice none 0 0] 48))
                have hsz := hbe.size
                refine wpOp_step ho (fun K' hK => ?_)
                have HK := Lib.hid hK
                clear hK ho
                go_simp
                exact HK.out _ _ ⟨_, _, _, _, _, _, _, _, _, _, _, _, _, _, _, _, _, _, _, _, _, _, _, _, _, yx11, _, _, rfl, rfl, ⟨hbe.trans (BA.out.mono hbe.size), H.d3, H.d4, H.d5, H.d6, H.d7, H.d8, H.d9, (fun h => by cases h), (fun h => by cases h), (fun h => by cases h), hx_t5, hx_t6, H.h0, H.h1, H.h2, H.h3, H.h4, (fun e => (H.h5 e).made BA.out), (fun e => (H.h6 e).made BA.out), (fun e => StS.made (H.h7 e) BA.out), H.h8, H.h9, (fun _ _ => ⟨_, rfl, hsz, NA.out⟩), (fun h => by cases h), H.h12, H.h13⟩⟩
              · have ho := hoj
                simp only [List.getElem?_toArray, List.getElem?_cons_succ, List.getElem?_cons_zero, Option.some.injEq] at hoj
                subst hoj
                obtain rfl : yb11 = false := hun
                obtain rfl : yb0 = true := hall ⟨0, .phase⟩ (by simp) (by kernel_rfl)
                obtain rfl : yb1 = true := hall ⟨1, .phase⟩ (by simp) (by kernel_rfl)
                obtain rfl : yb2 = true := hall ⟨2, .phase⟩ (by simp) (by kernel_rfl)
                obtain rfl : yb3 = true := hall ⟨3, .phase⟩ (by simp) (by kernel_rfl)
                obtain rfl : yb4 = true := hall ⟨4, .phase⟩ (by simp) (by kernel_rfl)
                obtain rfl : yb5 = true := hall ⟨5, .chain⟩ (by simp) (by kernel_rfl)
                obtain rfl : yb6 = true := hall ⟨6, .phase⟩ (by simp) (by kernel_rfl)
                obtain rfl : yb7 = true := hall ⟨7, .data⟩ (by simp) (by kernel_rfl)
                obtain rfl : yb10 = true := hall ⟨10, .data⟩ (by simp) (by kernel_rfl)
                clear hall
                obtain rfl : yb12 = false := Bool.eq_false_iff.2 fun h => Bool.false_ne_true (H.d12 h).2.2.2.2.2.2.2.2.2.2
                obtain rfl : yb13 = false := Bool.eq_false_iff.2 fun h => Bool.false_ne_true (H.d13 h).2.2.2.2.2.2.2.2.2.2.2.1
                have hbe := H.be
                have hx_t5 := H.t5
                have hx_t6 := H.t6
                obtain rfl := H.h0 rfl
                obtain rfl := H.h1 rfl
                obtain rfl := H.h2 rfl
                obtain rfl := H.h3 rfl
                obtain rfl := H.h4 rfl
                have P5 := H.h5 rfl
                have P6 := H.h6 rfl
                have P7 := H.h7 rfl
                have P10 := H.h10 rfl rfl
                obtain ⟨k, rfl, hk0, hk⟩ := P10
                have hu := Lib.hid P7
                obtain ⟨Na, Nh, Nk, na, nh, nk, rfl⟩ := SpdS.slices P7
                obtain ⟨n1, n2⟩ := spnew_put hk hk0 hbe hu.out
                have NV := Lib.hid n1
                have HKP := Lib.hid n2
                have BV := Lib.hid (show Below X.heap.size X _ from let ⟨_, _, _, _, _, _, _, _, _, _, _, e⟩ := n1.ex; e)
                obtain ⟨q0, q1, q2, q3, q4⟩ := sp5 hk
                have qf := fun i => bk_frz hk i
                clear hk n1 n2
                refine wpOp_step ho (fun K' hK => ?_)
                have HK := Lib.hid hK
                clear hK ho
                go_simp
                exact HK.out _ _ ⟨_, _, _, _, _, _, _, _, _, _, _, _, _, _, _, _, _, _, _, _, _, _, _, _, _, yx11, _, _, rfl, rfl, ⟨BV.out, H.d3, H.d4, H.d5, H.d6, H.d7, H.d8, H.d9, (fun _ => ⟨rfl, rfl, rfl, rfl, rfl, rfl, rfl, rfl, rfl⟩), (fun h => by cases h), (fun h => by cases h), H.t5, H.t6, H.h0, H.h1, H.h2, H.h3, H.h4, (fun e => (H.h5 e).kp HKP.out), (fun e => (H.h6 e).kp HKP.out), (fun e => StS.on (H.h7 e) HKP.out), H.h8, H.h9, (fun _ h => by cases h), (fun _ => NV.out), H.h12, H.h13⟩⟩
              · have ho := hoj
                simp only [List.getElem?_toArray, List.getElem?_cons_succ, List.getElem?_cons_zero, Option.some.injEq] at hoj
                subst hoj
                obtain rfl : yb12 = false := hun
                obtain rfl : yb0 = true := hall ⟨0, .phase⟩ (by simp) (by kernel_rfl)
                obtain rfl : yb1 = true := hall ⟨1, .phase⟩ (by simp) (by kernel_rfl)
                obtain rfl : yb2 = true := hall ⟨2, .phase⟩ (by simp) (by kernel_rfl)
                obtain rfl : yb3 = true := hall ⟨3, .phase⟩ (by simp) (by kernel_rfl)
                obtain rfl : yb4 = true := hall ⟨4, .phase⟩ (by simp) (by kernel_rfl)
                obtain rfl : yb5 = true := hall ⟨5, .phase⟩ (by simp) (by kernel_rfl)
                obtain rfl : yb6 = true := hall ⟨6, .phase⟩ (by simp) (by kernel_rfl)
                obtain rfl : yb7 = true := hall ⟨7, .phase⟩ (by simp) (by kernel_rfl)
                obtain rfl : yb8 = true := hall ⟨8, .data⟩ (by simp) (by kernel_rfl)
                obtain rfl : yb10 = true := hall ⟨10, .phase⟩ (by simp) (by kernel_rfl)
                obtain rfl : yb11 = true := hall ⟨11, .chain⟩ (by simp) (by kernel_rfl)
                clear hall
                obtain rfl : yb13 = false := Bool.eq_false_iff.2 fun h => Bool.false_ne_true (H.d13 h).2.2.2.2.2.2.2.2.2.2.2.2
                have hbe := H.be
                have hx_t5 := H.t5
                have hx_t6 := H.t6
                obtain rfl := H.h0 rfl
                obtain rfl := H.h1 rfl
                obtain rfl := H.h2 rfl
                obtain rfl := H.h3 rfl
                obtain rfl := H.h4 rfl
                have P5 := H.h5 rfl
                have P6 := H.h6 rfl
                have P7 := H.h7 rfl
                obtain rfl := H.h8 rfl
                have P11 := H.h11 rfl
                refine wpOp_step ho (fun K' hK => ?_)
                have HK := Lib.hid hK
                clear hK ho
                go_simp
                exact HK.out _ _ ⟨_, _, _, _, _, _, _, _, _, _, _, _, _, _, _, _, _, _, _, _, _, _, _, _, _, yx11, _, _, rfl, rfl, ⟨hbe, H.d3, H.d4, H.d5, H.d6, H.d7, H.d8, H.d9, H.d11, (fun _ => ⟨rfl, rfl, rfl, rfl, rfl, rfl, rfl, rfl, rfl, rfl, rfl⟩), (fun h => by cases h), H.t5, H.t6, H.h0, H.h1, H.h2, H.h3, H.h4, H.h5, H.h6, H.h7, H.h8, H.h9, (fun _ h => by cases h), H.h11, (fun _ => rfl), H.h13⟩⟩
              · have ho := hoj
                simp only [List.getElem?_toArray, List.getElem?_cons_succ, List.getElem?_cons_zero, Option.some.injEq] at hoj
                subst hoj
                obtain rfl : yb13 = false := hun
                obtain rfl : yb0 = true := hall ⟨0, .phase⟩ (by simp) (by kernel_rfl)
                obtain rfl : yb1 = true := hall ⟨1, .phase⟩ (by simp) (by kernel_rfl)
                obtain rfl : yb2 = true := hall ⟨2, .phase⟩ (by simp) (by kernel_rfl)
                obtain rfl : yb3 = true := hall ⟨3, .phase⟩ (by simp) (by kernel_rfl)
                obtain rfl : yb4 = true := hall ⟨4, .phase⟩ (by simp) (by kernel_rfl)
                obtain rfl : yb5 = true := hall ⟨5, .phase⟩ (by simp) (by kernel_rfl)
                obtain rfl : yb6 = true := hall ⟨6, .phase⟩ (by simp) (by kernel_rfl)
                obtain rfl : yb7 = true := hall ⟨7, .phase⟩ (by simp) (by kernel_rfl)
                obtain rfl : yb8 = true := hall ⟨8, .phase⟩ (by simp) (by kernel_rfl)
                obtain rfl : yb9 = true := hall ⟨9, .data⟩ (by simp) (by kernel_rfl)
                obtain rfl : yb10 = true := hall ⟨10, .phase⟩ (by simp) (by kernel_rfl)
                obtain rfl : yb11 = true := hall ⟨11, .phase⟩ (by simp) (by kernel_rfl)
                obtain rfl : yb12 = true := hall ⟨12, .chain⟩ (by simp) (by kernel_rfl)
                clear hall
                have hbe := H.be
                have hx_t5 := H.t5
                have hx_t6 := H.t6
                obtain rfl := H.h0 rfl
                obtain rfl := H.h1 rfl
                obtain rfl := H.h2 rfl
                obtain rfl := H.h3 rfl
                obtain rfl := H.h4 rfl
                have P5 := H.h5 rfl
                have P6 := H.h6 rfl
                have P7 := H.h7 rfl
                obtain rfl := H.h8 rfl
                obtain rfl := H.h9 rfl
                have P11 := H.h11 rfl
                obtain rfl := H.h12 rfl
                refine wpOp_step ho (fun K' hK => ?_)
                have HK := Lib.hid hK
                clear hK ho
                go_simp
                exact HK.out _ _ ⟨_, _, _, _, _, _, _, _, _, _, _, _, _, _, _, _, _, _, _, _, _, _, _, _, _, yx11, _, _, rfl, rfl, ⟨hbe, H.d3, H.d4, H.d5, H.d6, H.d7, H.d8, H.d9, H.d11, H.d12, (fun _ => ⟨rfl, rfl, rfl, rfl, rfl, rfl, rfl, rfl, rfl, rfl, rfl, rfl, rfl⟩), H.t5, H.t6, H.h0, H.h1, H.h2, H.h3, H.h4, H.h5, H.h6, H.h7, H.h8, H.h9, (fun _ h => by cases h), H.h11, H.h12, (fun _ => rfl)⟩⟩
              · have ho := hoj
                simp at ho
            case hfin =>
              rintro listed a w ⟨yb0, yb1, yb2, yb3, yb4, yb5, yb6, yb7, yb8, yb9, yb10, yb11, yb12, yb13, yx0, yx1, yx2, yx3, yx4, yx5, yx6, yx7, yx8, yx9, yx10, yx11, yx12, yx13, rfl, rfl, H⟩ hr
              have hb : yb13 = true := by
                clear H
                obtain rfl : yb0 = true := by
                  cases yb0
                  · exact absurd hr (ready_neC (by kernel_rfl))
                  · rfl
                obtain rfl : yb1 = true := by
                  cases yb1
                  · exact absurd hr (ready_neC (by kernel_rfl))
                  · rfl
                obtain rfl : yb2 = true := by
                  cases yb2
                  · exact absurd hr (ready_neC (by kernel_rfl))
                  · rfl
                obtain rfl : yb3 = true := by
                  cases yb3
                  · exact absurd hr (ready_neC (by kernel_rfl))
                  · rfl
                obtain rfl : yb4 = true := by
                  cases yb4
                  · exact absurd hr (ready_neC (by kernel_rfl))
                  · rfl
                obtain rfl : yb5 = true := by
                  cases yb5
                  · exact absurd hr (ready_neC (by kernel_rfl))
                  · rfl
                obtain rfl : yb6 = true := by
                  cases yb6
                  · exact absurd hr (ready_neC (by kernel_rfl))
                  · rfl
                obtain rfl : yb7 = true := by
                  cases yb7
                  · exact absurd hr (ready_neC (by kernel_rfl))
                  · rfl
                obtain rfl : yb8 = true := by
                  cases yb8
                  · exact absurd hr (ready_neC (by kernel_rfl))
                  · rfl
                obtain rfl : yb9 = true := by
                  cases yb9
                  · exact absurd hr (ready_neC (by kernel_rfl))
                  · rfl
                obtain rfl : yb10 = true := by
                  cases yb10
                  · exact absurd hr (ready_neC (by kernel_rfl))
                  · rfl
                obtain rfl : yb11 = true := by
                  cases yb11
                  · exact absurd hr (ready_neC (by kernel_rfl))
                  · rfl
                obtain rfl : yb12 = true := by
                  cases yb12
                  · exact absurd hr (ready_neC (by kernel_rfl))
                  · rfl
                obtain rfl : yb13 = true := by
                  cases yb13
                  · exact absurd hr (ready_neC (by kernel_rfl))
                  · rfl
                rfl
              subst hb
              clear hr
              obtain rfl : yb0 = true := (H.d13 rfl).1
              obtain rfl : yb1 = true := (H.d13 rfl).2.1
              obtain rfl : yb2 = true := (H.d13 rfl).2.2.1
              obtain rfl : yb3 = true := (H.d13 rfl).2.2.2.1
              obtain rfl : yb4 = true := (H.d13 rfl).2.2.2.2.1
              obtain rfl : yb5 = true := (H.d13 rfl).2.2.2.2.2.1
              obtain rfl : yb6 = true := (H.d13 rfl).2.2.2.2.2.2.1
              obtain rfl : yb7 = true := (H.d13 rfl).2.2.2.2.2.2.2.1
              obtain rfl : yb8 = true := (H.d13 rfl).2.2.2.2.2.2.2.2.1
              obtain rfl : yb9 = true := (H.d13 rfl).2.2.2.2.2.2.2.2.2.1
              obtain rfl : yb10 = true := (H.d13 rfl).2.2.2.2.2.2.2.2.2.2.1
              obtain rfl : yb11 = true := (H.d13 rfl).2.2.2.2.2.2.2.2.2.2.2.1
              obtain rfl : yb12 = true := (H.d13 rfl).2.2.2.2.2.2.2.2.2.2.2.2
              have hnw := Lib.hid (H.h11 rfl)
              have e0 := H.h12 rfl
              have e1 := H.h13 rfl
              clear H
              obtain ⟨Y, hY⟩ : ∃ Y, Y = w := ⟨_, rfl⟩
              subst w
              obtain ⟨MV, Ba, Bh, Bk, da, dh, dk, rfl, hn0, hn1, hn2, hnb⟩ := hnw.out.ex
              have N7 := Lib.hid hn1
              have NV7 := Lib.hid hn2
              have NX7 := Lib.hid hn0
              have B7 := Lib.hid hnb
              clear hnw hn0 hn1 hn2 hnb
              subst e0
              subst e1
              have G7 := Lib.hid (GX.out.on B7.out)
              have HMX2 := Lib.hid (GX.out.mlt)
              have HMX := Lib.hid (show M + 1 ≤ X.heap.size from GX.out.mlt)
              by_cases hec : ec = 0
              · have hs0 : (sendSp s T a []).2.2 = 0 := by rw [HEQ.out]; exact hec
                obtain ⟨on1, nn, nx⟩ := ON.out.send hs0
                rw [HEQ.out] at on1 nn nx
                dsimp only at on1 nn nx
                have nf1 : NoFr s' := by have := NF.out.send T a; rw [HEQ.out] at this; exact this
                have ON1 := Lib.hid on1
                have NF1 := Lib.hid nf1
                have NX1 := Lib.hid nx
                have NN1 := Lib.hid nn
                subst hec
                clear on1 nn nx nf1 hs0
                obtain ⟨y0, y1, y2, y3, y4⟩ := sp5 N7.out
                obtain ⟨q0, q1, q2, q3, q4⟩ := sp5 G7.out.x
                have qf := fun i => bk_frz G7.out.x i
                obtain ⟨fx, gx⟩ := sp5_put G7.out.x (.int .i64 s'.next) (.slice Ba s'.sent.length da) (.int .i64 s'.top) (.slice Bh s'.heard.length dh) (.slice Bk s'.skip.length dk)
                obtain ⟨Z8, hZ8⟩ : ∃ x, (((((Y.setCell ⟨V, 0, none⟩ (.int .i64 s'.next)).setCell ⟨V, 1, none⟩ (.slice Ba s'.sent.length da)).setCell ⟨V, 2, none⟩ (.int .i64 s'.top)).setCell ⟨V, 3, none⟩ (.slice Bh s'.heard.length dh)).setCell ⟨V, 4, none⟩ (.slice Bk s'.skip.length dk)) = x := ⟨_, rfl⟩
                rw [hZ8] at fx gx
                have G8 := Lib.hid (G7.out.put gx fx (SpU.low NV7.out HMX.out) HKV.out HVM.out HWV.out)
                go_upto_region 24 with fail
                clear y0 y1 y2 y3 y4 q0 q1 q2 q3 q4 qf fx gx
                try rw [hZ8]
                clear hZ8
                have hnb : i64N n := by have := NN1.out; have := ON.out.ok.1.1; unfold i64N; omega
                have hwf : (Lit.int .i64 n).wf = true := i64_wf hnb
                obtain ⟨D, OO, MM⟩ := G8.out.m
                have HOO := Lib.hid OO
                have HMM := Lib.hid MM
                clear OO MM
                go_upto_region 40 with (at_mapUpdate; refine wpList_mapUpdate_own _ rfl _ _ _ 49 rfl 3 3 (Maps.int_keyed Try.underlying3) Try.underlying49 _ M n0 D rfl HOO.out (by unfold maxLen; omega) _ _ (kyI n) rfl rfl (Maps.keyOf_int_mk Try.underlying3 hwf) _ _ (plainElem_int Try.underlying3 (by decide)) ?_; intro WU hou hgu; have OU := Lib.hid hou; have GU := Lib.hid hgu; clear hou hgu)
                have GN := Lib.hid (G8.out.store GU.out OU.out (E' := fun y => if y = s.next then some 1 else E y) ((HMM.out.put n 1).congr (fun y => by rw [NN1.out])) HKV.out HVM.out HWV.out)
                go_wp2_with fail
                go_roundg (gk - 1)
                case measure => omega
                case rel => exact ⟨kk + 1, T, s', _, n0 + 1, Ba, Bh, Bk, da, dh, dk, by first | rfl | (rw [HTT.out]) | go_num, by first | rfl | go_num, by omega, t0, by omega, by have := NX1.out; omega, by omega, ON1, NF1, GN⟩
              · have gec : (ec == 0) = false := by simp [hec]
                clear hec
                go_wp2_with fail
                go_roundg (gk - 1)
                case measure => omega
                case rel => exact ⟨kk + 1, T, s, _, n0, Aa, Ah, Ak, ca, ch, ck, by first | rfl | (rw [HTT.out]) | go_num, by first | rfl | go_num, by omega, t0, by omega, by omega, by omega, ON, NF, G7⟩
      · have gK0 : (K == 0) = false := by simp; omega
        have gK1 : (K == 1) = false := by simp; omega
        have gK2 : (K == 2) = false := by simp; omega
        clear hK3 hK0'
        by_cases hK3 : K = 3
        · subst hK3
          clear hK1 gK0 gK1 gK2
          as_aux_lemma =>
            obtain ⟨kL, hl1, hl2, _, _⟩ := leap_ok ON.out.ok (by omega)
            obtain ⟨s', hs'⟩ : ∃ x, ({ s with next := s.next + 1, skip := kL } : Sp) = x := ⟨_, rfl⟩
            rw [hs'] at hl1 hl2
            have hns : s'.next = s.next + 1 := by rw [← hs']
            have hss : s'.sent = s.sent := by rw [← hs']
            have ON1 := Lib.hid (ON.out.leap hl2 hss)
            have NF1 := Lib.hid (show NoFr s' from fun p hp => NF.out p (hss ▸ hp))
            have NX1 := Lib.hid hns
            have HLP := Lib.hid (fun (w : World) (h : SpVal w w.heap.size (.agg #[.int .i64 s.next, .slice Aa s.sent.length ca, .int .i64 s.top, .slice Ah s.heard.length ch, .slice Ak s.skip.length ck]) s) => hl1 ▸ spLeap_any _ s w h HWF.out)
            clear hl1 hl2 hs' hns hss
            obtain ⟨q0, q1, q2, q3, q4⟩ := sp5 GX.out.x
            go_wp2_with fail
            refine (HLP.out _ GX.out.v.now).mono ?_
            rintro e w2 ⟨b2, u2, rfl, hu2⟩
            dsimp only at hu2 ⊢
            obtain ⟨Ba, Bh, Bk, da, dh, dk, rfl⟩ := SpdS.slices hu2
            have C2 := (Below.refl w2.heap.size w2).alloc (Nat.le_refl _) (.cells #[.int .i64 s'.next, .slice Ba s'.sent.length da, .int .i64 s'.top, .slice Bh s'.heard.length dh, .slice Bk s'.skip.length dk] 48)
            have N7 := Lib.hid (heap_alloc_new w2 (.cells #[.int .i64 s'.next, .slice Ba s'.sent.length da, .int .i64 s'.top, .slice Bh s'.heard.length dh, .slice Bk s'.skip.length dk] 48))
            have HMX := Lib.hid (show M + 1 ≤ X.heap.size from GX.out.mlt)
            have G7 := Lib.hid ((GX.out.on b2).on C2)
            have NV7 := Lib.hid (show SpU X.heap.size _ _ s' from StS.on hu2 (KpS.below C2))
            clear b2 hu2 C2 q0 q1 q2 q3 q4
            go_upto_region 29 with fail
            obtain ⟨MV, hMV⟩ : ∃ v, w2.heap.size = v := ⟨_, rfl⟩
            obtain ⟨Y, hY⟩ : ∃ x, w2.alloc (.cells #[.int .i64 s'.next, .slice Ba s'.sent.length da, .int .i64 s'.top, .slice Bh s'.heard.length dh, .slice Bk s'.skip.length dk] 48) = x := ⟨_, rfl⟩
            rw [hMV] at N7
            rw [hY] at N7 G7 NV7
            try rw [hY]
            try rw [hMV]
            clear hMV hY
            obtain ⟨y0, y1, y2, y3, y4⟩ := sp5 N7.out
            obtain ⟨q0, q1, q2, q3, q4⟩ := sp5 G7.out.x
            have qf := fun i => bk_frz G7.out.x i
            obtain ⟨fx, gx⟩ := sp5_put G7.out.x (.int .i64 s'.next) (.slice Ba s'.sent.length da) (.int .i64 s'.top) (.slice Bh s'.heard.length dh) (.slice Bk s'.skip.length dk)
            obtain ⟨Z8, hZ8⟩ : ∃ x, (((((Y.setCell ⟨V, 0, none⟩ (.int .i64 s'.next)).setCell ⟨V, 1, none⟩ (.slice Ba s'.sent.length da)).setCell ⟨V, 2, none⟩ (.int .i64 s'.top)).setCell ⟨V, 3, none⟩ (.slice Bh s'.heard.length dh)).setCell ⟨V, 4, none⟩ (.slice Bk s'.skip.length dk)) = x := ⟨_, rfl⟩
            rw [hZ8] at fx gx
            have G8 := Lib.hid (G7.out.put gx fx (SpU.low NV7.out HMX.out) HKV.out HVM.out HWV.out)
            clear fx gx
            go_upto_region 40 with fail
            clear y0 y1 y2 y3 y4 q0 q1 q2 q3 q4 qf
            try rw [hZ8]
            clear hZ8
            go_wp2_with fail
            go_roundg (gk - 1)
            case measure => omega
            case rel => exact ⟨kk + 1, T, s', _, n0, Ba, Bh, Bk, da, dh, dk, by first | rfl | (rw [HTT.out]) | go_num, by first | rfl | go_num, by omega, t0, by omega, by have := NX1.out; omega, by omega, ON1, NF1, G8⟩
        · have gK3 : (K == 3) = false := by simp [hK3]
          by_cases hK4 : K = 4
          · subst hK4
            clear hK1 gK0 gK1 gK2 hK3 gK3
            as_aux_lemma =>
              obtain ⟨i0, hi0, hz0, hz1, hz2⟩ := info_partsE infoP4
              have HI := Lib.hid hi0
              have HZ := Lib.hid hz0
              have HZ1 := Lib.hid hz1
              have HZ2 := Lib.hid hz2
              clear hi0 hz0 hz1 hz2
              obtain ⟨lo0, hlo⟩ : ∃ a, ra % 30 = a := ⟨_, rfl⟩
              have l0 : 0 ≤ lo0 := by omega
              have l1 : lo0 < 30 := by omega
              have HPL := Lib.hid (fun w => hlo ▸ picked_any ra 30 (by decide) (by decide) w)
              obtain ⟨a, ha⟩ : ∃ a, rb % 5 = a := ⟨_, rfl⟩
              have a0 : 0 ≤ a := by omega
              have a1 : a < 5 := by omega
              have HPA := Lib.hid (fun w => ha ▸ picked_any rb 5 (by decide) (by decide) w)
              have HWA := Lib.hid (show IntKind.i64.wrap (lo0 + a) = lo0 + a by rw [IntKind.wrap_i64]; omega)
              obtain ⟨⟨s', hl, ll, ec⟩, hq⟩ : ∃ r, ackSp s [(lo0, lo0 + a)] = r := ⟨_, rfl⟩
              have hlens := ack_lens ON.out.ok [(lo0, lo0 + a)]
              rw [hq] at hlens
              dsimp only at hlens
              have HEQ := Lib.hid hq
              clear hlo ha hq
              obtain ⟨z0, z1, z2, z3⟩ := bk4R RX.out
              go_upto_region 32 with (go_at_call 11; refine (HPL.out _).mono ?_; rintro e w' ⟨rfl, rfl⟩)
              clear z0 z1 z2 z3
              refine wp_region_inv (fun lis_ act_ wld_ => ∃ (ub0 ub1 ub2 ub3 ub4 ub5 ub6 ub7 ub8 ub9 ub10 ub11 ub12 ub13 ub14 ub15 ub16 ub17 ub18 ub19 : Bool) (ux0 ux1 ux2 ux3 ux4 ux5 ux6 ux7 ux8 ux9 ux10 ux11 ux12 ux13 ux14 ux15 ux16 ux17 ux18 ux19 : Value), lis_ = #[ub0, ub1, ub2, ub3, ub4, ub5, ub6, ub7, ub8, ub9, ub10, ub11, ub12, ub13, ub14, ub15, ub16, ub17, ub18, ub19] ∧ act_ = { tmps := #[Value.slice (some { block := b, off := off }) len cap, undef, Value.pointer (some { block := K0, off := 0 }), u3, u4, Value.pointer (some { block := V, off := 0 }), Value.map (some M), Value.int IntKind.i64 T, undef, Value.pointer (some { block := R, off := 0 }), u10, u11, u12, u13, u14, Value.int IntKind.i64 lo0, ux15, ux17, ux18, ux19, undef, u21, u22, u23, u24, undef, u26, Value.agg #[Value.int IntKind.i64 0, Value.slice none 0 0, Value.int IntKind.i64 (-1), Value.slice none 0 0, Value.slice none 0 0], Value.map (some M), Value.slice (some { block := b, off := off }) len cap, Value.slice (some { block := b, off := off }) N cap, Value.int IntKind.i64 ↑N, Value.int IntKind.i64 ↑kk, Value.bool true, Value.pointer (some { block := b, off := off + kk * 4 }), Value.agg #[Value.int IntKind.i64 kd, Value.int IntKind.i64 ra, Value.int IntKind.i64 rb, Value.string rt], Value.int IntKind.i64 now, Value.pointer (some { block := R, off := 2 }), Value.int IntKind.i64 rb, Value.int IntKind.i64 T3, Value.int IntKind.i64 T, Value.pointer (some { block := R, off := 0 }), Value.int IntKind.i64 kd, Value.int IntKind.i64 4, u44, u45, u46, u47, u48, u49, u50, u51, u52, u53, u54, u55, u56, u57, u58, u59, u60, u61, u62, u63, u64, u65, u66, u67, u68, u69, u70, u71, Value.bool false, Value.bool false, Value.bool false, Value.bool false, u76, u77, u78, u79, u80, u81, u82, u83, u84, u85, u86, u87, u88, u89, u90, Value.bool false, Value.bool false, u93, u94, u95, u96, u97, u98, u99, u100, u101, u102, Value.bool true, Value.bool true, Value.pointer (some { block := R, off := 1 }), Value.int IntKind.i64 ra, Value.int IntKind.i64 lo0, ux10, ux0, ux1, ux2, ux3, ux4, ux5, ux6, ux7, ux8, ux9, ux11, ux12, ux13, ux14, u123, u124, u125, u126, u127, u128, u129, u130, u131, u132, u133, u134, u135, u136, u137, u138, u139, u140, u141, u142, undef, undef], defers := [] } ∧ SdK X Aa Ah Ak ca ch ck s s' R lo0 rb a ec hl ll (.agg #[.int .i64 s.next, .slice Aa s.sent.length ca, .int .i64 s.top, .slice Ah s.heard.length ch, .slice Ak s.skip.length ck]) (.int .i64 lo0) (.int .i64 lo0) (.pointer (some ⟨R, 2, none⟩)) (.int .i64 rb) (.int .i64 a) (.int .i64 (lo0 + a)) (.agg #[.int .i64 lo0, .int .i64 (lo0 + a)]) (.int .i64 ec) (.int .i64 ec) ub0 ub1 ub2 ub3 ub4 ub5 ub6 ub7 ub8 ub9 ub10 ub11 ub12 ub13 ub14 ub15 ub16 ub17 ub18 ub19 ux0 ux1 ux2 ux3 ux4 ux5 ux6 ux7 ux8 ux9 ux10 ux11 ux12 ux13 ux14 ux15 ux16 ux17 ux18 ux19 wld_) (by kernel_rfl) ?h0 ?hfin ?hI
              case h0 => exact ⟨_, _, _, _, _, _, _, _, _, _, _, _, _, _, _, _, _, _, _, _, _, _, _, _, _, _, _, _, _, _, _, _, _, _, _, _, undef, _, _, _, rfl, rfl, ⟨(Below.refl _ _).drew, (fun h => by cases h), (fun h => by cases h), (fun h => by cases h), (fun h => by cases h), (fun h => by cases h), (fun h => by cases h), (fun h => by cases h), (fun h => by cases h), (fun h => by cases h), (fun h => by cases h), (fun h => by cases h), (fun h => by cases h), (fun h => by cases h), (fun h => by cases h), (fun h => by cases h), (fun h => by cases h), (fun h => by cases h), (fun h => by cases h), (fun h => by cases h), (fun h => by cases h), (fun h => by cases h), (fun h => by cases h), (fun h => by cases h), (fun h => by cases h), (fun h => by cases h), (fun h => by cases h), (fun h => by cases h), (fun h => by cases h), (fun h => by cases h), (fun h => by cases h), (fun h => by cases h), (fun h => by cases h), (fun h => by cases h), (fun h => by cases h), (fun h => by cases h), (fun h => by cases h), (fun h => by cases h)⟩⟩
              case hI =>
                rintro listed a w ⟨ub0, ub1, ub2, ub3, ub4, ub5, ub6, ub7, ub8, ub9, ub10, ub11, ub12, ub13, ub14, ub15, ub16, ub17, ub18, ub19, ux0, ux1, ux2, ux3, ux4, ux5, ux6, ux7, ux8, ux9, ux10, ux11, ux12, ux13, ux14, ux15, ux16, ux17, ux18, ux19, rfl, rfl, H⟩ i hi
                obtain ⟨hun, oj, hoj, hall⟩ := mem_ready.1 hi
                clear hi
                rcases i with _ | _ | _ | _ | _ | _ | _ | _ | _ | _ | _ | _ | _ | _ | _ | _ | _ | _ | _ | _ | i
                · have ho := hoj
                  simp only [List.getElem?_toArray, List.getElem?_cons_zero, Option.some.injEq] at hoj
                  subst hoj
                  obtain rfl : ub0 = false := hun
                  clear hall
                  obtain rfl : ub9 = false := Bool.eq_false_iff.2 fun h => Bool.false_ne_true (H.d9 h).1
                  obtain rfl : ub10 = false := Bool.eq_false_iff.2 fun h => Bool.false_ne_true (H.d10 h)
                  obtain rfl : ub11 = false := Bool.eq_false_iff.2 fun h => Bool.false_ne_true (H.d11 h)
                  obtain rfl : ub12 = false := Bool.eq_false_iff.2 fun h => Bool.false_ne_true (H.d12 h)
                  obtain rfl : ub13 = false := Bool.eq_false_iff.2 fun h => Bool.false_ne_true (H.d13 h)
                  obtain rfl : ub14 = false := Bool.eq_false_iff.2 fun h => Bool.false_ne_true (H.d14 h)
                  obtain rfl : ub16 = false := Bool.eq_false_iff.2 fun h => Bool.false_ne_true (H.d16 h).1
                  obtain rfl : ub17 = false := Bool.eq_false_iff.2 fun h => Bool.false_ne_true (H.d17 h).1
                  obtain rfl : ub18 = false := Bool.eq_false_iff.2 fun h => Bool.false_ne_true (H.d18 h).1
                  obtain rfl : ub19 = false := Bool.eq_false_iff.2 fun h => Bool.false_ne_true (H.d19 h).1
                  have hbe := H.be
                  have hx_t5 := H.t5
                  have hx_t6 := H.t6
                  obtain ⟨q0, q1, q2, q3, q4⟩ := sp5 ((hbe.block _ (lt_of_block GX.out.x)).trans GX.out.x)
                  refine wpOp_step ho (fun K' hK => ?_)
                  have HK := Lib.hid hK
                  clear hK ho
                  go_simp
                  exact HK.out _ _ ⟨_, _, _, _, _, _, _, _, _, _, _, _, _, _, _, _, _, _, _, _, _, _, _, _, _, _, _, _, _, _, _, _, _, _, _, _, ux16, _, _, _, rfl, rfl, ⟨hbe, H.d4, H.d5, H.d6, H.d7, H.d8, (fun h => by cases h), H.d10, H.d11, H.d12, H.d13, H.d14, (fun h => by cases h), (fun h => by cases h), (fun h => by cases h), (fun h => by cases h), H.t5, H.t6, (fun _ => rfl), H.h1, H.h2, H.h3, H.h4, H.h5, H.h6, H.h7, H.h8, (fun h => by cases h), (fun h => by cases h), (fun h => by cases h), (fun h => by cases h), (fun h => by cases h), H.h14, H.h15, (fun h => by cases h), (fun h => by cases h), (fun h => by cases h), H.h19⟩⟩
                · have ho := hoj
                  simp only [List.getElem?_toArray, List.getElem?_cons_succ, List.getElem?_cons_zero, Option.some.injEq] at hoj
                  subst hoj
                  obtain rfl : ub1 = false := hun
                  clear hall
                  obtain rfl : ub7 = false := Bool.eq_false_iff.2 fun h => Bool.false_ne_true (H.d7 h).1
                  obtain rfl : ub8 = false := Bool.eq_false_iff.2 fun h => Bool.false_ne_true (H.d8 h)
                  obtain rfl : ub9 = false := Bool.eq_false_iff.2 fun h => Bool.false_ne_true (H.d9 h).2.2
                  obtain rfl : ub10 = false := Bool.eq_false_iff.2 fun h => Bool.false_ne_true (H.d10 h)
                  obtain rfl : ub11 = false := Bool.eq_false_iff.2 fun h => Bool.false_ne_true (H.d11 h)
                  obtain rfl : ub12 = false := Bool.eq_false_iff.2 fun h => Bool.false_ne_true (H.d12 h)
                  obtain rfl : ub13 = false := Bool.eq_false_iff.2 fun h => Bool.false_ne_true (H.d13 h)
                  obtain rfl : ub14 = false := Bool.eq_false_iff.2 fun h => Bool.false_ne_true (H.d14 h)
                  obtain rfl : ub16 = false := Bool.eq_false_iff.2 fun h => Bool.false_ne_true (H.d16 h).2.1
                  obtain rfl : ub17 = false := Bool.eq_false_iff.2 fun h => Bool.false_ne_true (H.d17 h).2.1
                  obtain rfl : ub18 = false := Bool.eq_false_iff.2 fun h => Bool.false_ne_true (H.d18 h).2.1
                  obtain rfl : ub19 = false := Bool.eq_false_iff.2 fun h => Bool.false_ne_true (H.d19 h).2.1
                  have hbe := H.be
                  have hx_t5 := H.t5
                  have hx_t6 := H.t6
                  refine wpOp_step ho (fun K' hK => ?_)
                  have HK := Lib.hid hK
                  clear hK ho
                  go_simp
                  exact HK.out _ _ ⟨_, _, _, _, _, _, _, _, _, _, _, _, _, _, _, _, _, _, _, _, _, _, _, _, _, _, _, _, _, _, _, _, _, _, _, _, ux16, _, _, _, rfl, rfl, ⟨hbe, H.d4, H.d5, H.d6, (fun h => by cases h), H.d8, H.d9, H.d10, H.d11, H.d12, H.d13, H.d14, (fun h => by cases h), (fun h => by cases h), (fun h => by cases h), (fun h => by cases h), H.t5, H.t6, H.h0, (fun _ => rfl), H.h2, H.h3, H.h4, H.h5, H.h6, H.h7, (fun h => by cases h), (fun h => by cases h), (fun h => by cases h), (fun h => by cases h), (fun h => by cases h), (fun h => by cases h), H.h14, H.h15, (fun h => by cases h), (fun h => by cases h), (fun h => by cases h), H.h19⟩⟩
                · have ho := hoj
                  simp only [List.getElem?_toArray, List.getElem?_cons_succ, List.getElem?_cons_zero, Option.some.injEq] at hoj
                  subst hoj
                  obtain rfl : ub2 = false := hun
                  clear hall
                  obtain rfl : ub6 = false := Bool.eq_false_iff.2 fun h => Bool.false_ne_true (H.d6 h).1
                  obtain rfl : ub7 = false := Bool.eq_false_iff.2 fun h => Bool.false_ne_true (H.d7 h).2
                  obtain rfl : ub8 = false := Bool.eq_false_iff.2 fun h => Bool.false_ne_true (H.d8 h)
                  obtain rfl : ub9 = false := Bool.eq_false_iff.2 fun h => Bool.false_ne_true (H.d9 h).2.2
                  obtain rfl : ub10 = false := Bool.eq_false_iff.2 fun h => Bool.false_ne_true (H.d10 h)
                  obtain rfl : ub11 = false := Bool.eq_false_iff.2 fun h => Bool.false_ne_true (H.d11 h)
                  obtain rfl : ub12 = false := Bool.eq_false_iff.2 fun h => Bool.false_ne_true (H.d12 h)
                  obtain rfl : ub13 = false := Bool.eq_false_iff.2 fun h => Bool.false_ne_true (H.d13 h)
                  obtain rfl : ub14 = false := Bool.eq_false_iff.2 fun h => Bool.false_ne_true (H.d14 h)
                  obtain rfl : ub16 = false := Bool.eq_false_iff.2 fun h => Bool.false_ne_true (H.d16 h).2.2.1
                  obtain rfl : ub17 = false := Bool.eq_false_iff.2 fun h => Bool.false_ne_true (H.d17 h).2.2.1
                  obtain rfl : ub18 = false := Bool.eq_false_iff.2 fun h => Bool.false_ne_true (H.d18 h).2.2.1
                  obtain rfl : ub19 = false := Bool.eq_false_iff.2 fun h => Bool.false_ne_true (H.d19 h).2.2.1
                  have hbe := H.be
                  have hx_t5 := H.t5
                  have hx_t6 := H.t6
                  refine wpOp_step ho (fun K' hK => ?_)
                  have HK := Lib.hid hK
                  clear hK ho
                  go_simp
                  exact HK.out _ _ ⟨_, _, _, _, _, _, _, _, _, _, _, _, _, _, _, _, _, _, _, _, _, _, _, _, _, _, _, _, _, _, _, _, _, _, _, _, ux16, _, _, _, rfl, rfl, ⟨hbe, H.d4, H.d5, (fun h => by cases h), H.d7, H.d8, H.d9, H.d10, H.d11, H.d12, H.d13, H.d14, (fun h => by cases h), (fun h => by cases h), (fun h => by cases h), (fun h => by cases h), H.t5, H.t6, H.h0, H.h1, (fun _ => rfl), H.h3, H.h4, H.h5, H.h6, H.h7, (fun h => by cases h), (fun h => by cases h), (fun h => by cases h), (fun h => by cases h), (fun h => by cases h), (fun h => by cases h), H.h14, H.h15, (fun h => by cases h), (fun h => by cases h), (fun h => by cases h), H.h19⟩⟩
                · have ho := hoj
                  simp only [List.getElem?_toArray, List.getElem?_cons_succ, List.getElem?_cons_zero, Option.some.injEq] at hoj
                  subst hoj
                  obtain rfl : ub3 = false := hun
                  clear hall
                  obtain rfl : ub4 = false := Bool.eq_false_iff.2 fun h => Bool.false_ne_true (H.d4 h)
                  obtain rfl : ub5 = false := Bool.eq_false_iff.2 fun h => Bool.false_ne_true (H.d5 h)
                  obtain rfl : ub6 = false := Bool.eq_false_iff.2 fun h => Bool.false_ne_true (H.d6 h).2
                  obtain rfl : ub7 = false := Bool.eq_false_iff.2 fun h => Bool.false_ne_true (H.d7 h).2
                  obtain rfl : ub8 = false := Bool.eq_false_iff.2 fun h => Bool.false_ne_true (H.d8 h)
                  obtain rfl : ub9 = false := Bool.eq_false_iff.2 fun h => Bool.false_ne_true (H.d9 h).2.1
                  obtain rfl : ub10 = false := Bool.eq_false_iff.2 fun h => Bool.false_ne_true (H.d10 h)
                  obtain rfl : ub11 = false := Bool.eq_false_iff.2 fun h => Bool.false_ne_true (H.d11 h)
                  obtain rfl : ub12 = false := Bool.eq_false_iff.2 fun h => Bool.false_ne_true (H.d12 h)
                  obtain rfl : ub13 = false := Bool.eq_false_iff.2 fun h => Bool.false_ne_true (H.d13 h)
                  obtain rfl : ub14 = false := Bool.eq_false_iff.2 fun h => Bool.false_ne_true (H.d14 h)
                  obtain rfl : ub16 = false := Bool.eq_false_iff.2 fun h => Bool.false_ne_true (H.d16 h).2.2.2.1
                  obtain rfl : ub17 = false := Bool.eq_false_iff.2 fun h => Bool.false_ne_true (H.d17 h).2.2.2.1
                  obtain rfl : ub18 = false := Bool.eq_false_iff.2 fun h => Bool.false_ne_true (H.d18 h).2.2.2.1
                  obtain rfl : ub19 = false := Bool.eq_false_iff.2 fun h => Bool.false_ne_true (H.d19 h).2.2.2.1
                  have hbe := H.be
                  have hx_t5 := H.t5
                  have hx_t6 := H.t6
                  refine wpOp_step ho (fun K' hK => ?_)
                  have HK := Lib.hid hK
                  clear hK ho
                  go_simp
                  exact HK.out _ _ ⟨_, _, _, _, _, _, _, _, _, _, _, _, _, _, _, _, _, _, _, _, _, _, _, _, _, _, _, _, _, _, _, _, _, _, _, _, ux16, _, _, _, rfl, rfl, ⟨hbe, (fun h => by cases h), H.d5, H.d6, H.d7, H.d8, H.d9, H.d10, H.d11, H.d12, H.d13, H.d14, (fun h => by cases h), (fun h => by cases h), (fun h => by cases h), (fun h => by cases h), H.t5, H.t6, H.h0, H.h1, H.h2, (fun _ => rfl), H.h4, H.h5, H.h6, H.h7, (fun h => by cases h), (fun h => by cases h), (fun h => by cases h), (fun h => by cases h), (fun h => by cases h), (fun h => by cases h), H.h14, H.h15, (fun h => by cases h), (fun h => by cases h), (fun h => by cases h), H.h19⟩⟩
                · have ho := hoj
                  simp only [List.getElem?_toArray, List.getElem?_cons_succ, List.getElem?_cons_zero, Option.some.injEq] at hoj
                  subst hoj
                  obtain rfl : ub4 = false := hun
                  obtain rfl : ub3 = true := hall ⟨3, .data⟩ (by simp) (by kernel_rfl)
                  clear hall
                  obtain rfl : ub5 = false := Bool.eq_false_iff.2 fun h => Bool.false_ne_true (H.d5 h)
                  obtain rfl : ub6 = false := Bool.eq_false_iff.2 fun h => Bool.false_ne_true (H.d6 h).2
                  obtain rfl : ub7 = false := Bool.eq_false_iff.2 fun h => Bool.false_ne_true (H.d7 h).2
                  obtain rfl : ub8 = false := Bool.eq_false_iff.2 fun h => Bool.false_ne_true (H.d8 h)
                  obtain rfl : ub9 = false := Bool.eq_false_iff.2 fun h => Bool.false_ne_true (H.d9 h).2.1
                  obtain rfl : ub10 = false := Bool.eq_false_iff.2 fun h => Bool.false_ne_true (H.d10 h)
                  obtain rfl : ub11 = false := Bool.eq_false_iff.2 fun h => Bool.false_ne_true (H.d11 h)
                  obtain rfl : ub12 = false := Bool.eq_false_iff.2 fun h => Bool.false_ne_true (H.d12 h)
                  obtain rfl : ub13 = false := Bool.eq_false_iff.2 fun h => Bool.false_ne_true (H.d13 h)
                  obtain rfl : ub14 = false := Bool.eq_false_iff.2 fun h => Bool.false_ne_true (H.d14 h)
                  obtain rfl : ub16 = false := Bool.eq_false_iff.2 fun h => Bool.false_ne_true (H.d16 h).2.2.2.2.1
                  obtain rfl : ub17 = false := Bool.eq_false_iff.2 fun h => Bool.false_ne_true (H.d17 h).2.2.2.2.1
                  obtain rfl : ub18 = false := Bool.eq_false_iff.2 fun h => Bool.false_ne_true (H.d18 h).2.2.2.2.1
                  obtain rfl : ub19 = false := Bool.eq_false_iff.2 fun h => Bool.false_ne_true (H.d19 h).2.2.2.2.1
                  have hbe := H.be
                  have hx_t5 := H.t5
                  have hx_t6 := H.t6
                  obtain rfl := H.h3 rfl
                  obtain ⟨z0, z1, z2, z3⟩ := bk4R ((hbe.block _ (lt_of_block RX.out)).trans RX.out)
                  refine wpOp_step ho (fun K' hK => ?_)
                  have HK := Lib.hid hK
                  clear hK ho
                  go_simp
                  exact HK.out _ _ ⟨_, _, _, _, _, _, _, _, _, _, _, _, _, _, _, _, _, _, _, _, _, _, _, _, _, _, _, _, _, _, _, _, _, _, _, _, ux16, _, _, _, rfl, rfl, ⟨hbe, (fun _ => rfl), (fun h => by cases h), H.d6, H.d7, H.d8, H.d9, H.d10, H.d11, H.d12, H.d13, H.d14, (fun h => by cases h), (fun h => by cases h), (fun h => by cases h), (fun h => by cases h), H.t5, H.t6, H.h0, H.h1, H.h2, H.h3, (fun _ => rfl), H.h5, H.h6, H.h7, (fun h => by cases h), (fun h => by cases h), (fun h => by cases h), (fun h => by cases h), (fun h => by cases h), (fun h => by cases h), H.h14, H.h15, (fun h => by cases h), (fun h => by cases h), (fun h => by cases h), H.h19⟩⟩
                · have ho := hoj
                  simp only [List.getElem?_toArray, List.getElem?_cons_succ, List.getElem?_cons_zero, Option.some.injEq] at hoj
                  subst hoj
                  obtain rfl : ub5 = false := hun
                  obtain rfl : ub4 = true := hall ⟨4, .data⟩ (by simp) (by kernel_rfl)
                  obtain rfl : ub3 = true := (H.d4 rfl)
                  clear hall
                  obtain rfl : ub6 = false := Bool.eq_false_iff.2 fun h => Bool.false_ne_true (H.d6 h).2
                  obtain rfl : ub7 = false := Bool.eq_false_iff.2 fun h => Bool.false_ne_true (H.d7 h).2
                  obtain rfl : ub8 = false := Bool.eq_false_iff.2 fun h => Bool.false_ne_true (H.d8 h)
                  obtain rfl : ub9 = false := Bool.eq_false_iff.2 fun h => Bool.false_ne_true (H.d9 h).2.1
                  obtain rfl : ub10 = false := Bool.eq_false_iff.2 fun h => Bool.false_ne_true (H.d10 h)
                  obtain rfl : ub11 = false := Bool.eq_false_iff.2 fun h => Bool.false_ne_true (H.d11 h)
                  obtain rfl : ub12 = false := Bool.eq_false_iff.2 fun h => Bool.false_ne_true (H.d12 h)
                  obtain rfl : ub13 = false := Bool.eq_false_iff.2 fun h => Bool.false_ne_true (H.d13 h)
                  obtain rfl : ub14 = false := Bool.eq_false_iff.2 fun h => Bool.false_ne_true (H.d14 h)
                  obtain rfl : ub16 = false := Bool.eq_false_iff.2 fun h => Bool.false_ne_true (H.d16 h).2.2.2.2.2.1
                  obtain rfl : ub17 = false := Bool.eq_false_iff.2 fun h => Bool.false_ne_true (H.d17 h).2.2.2.2.2.1
                  obtain rfl : ub18 = false := Bool.eq_false_iff.2 fun h => Bool.false_ne_true (H.d18 h).2.2.2.2.2.1
                  obtain rfl : ub19 = false := Bool.eq_false_iff.2 fun h => Bool.false_ne_true (H.d19 h).2.2.2.2.2.1
                  have hbe := H.be
                  have hx_t5 := H.t5
                  have hx_t6 := H.t6
                  obtain rfl := H.h3 rfl
                  obtain rfl := H.h4 rfl
                  refine wpOp_step ho (fun K' hK => ?_)
                  have HK := Lib.hid hK
                  clear hK ho
                  go_wp2_with (go_at_call 11; refine (HPA.out _).mono ?_; rintro e w' ⟨rfl, rfl⟩)
                  exact HK.out _ _ ⟨_, _, _, _, _, _, _, _, _, _, _, _, _, _, _, _, _, _, _, _, _, _, _, _, _, _, _, _, _, _, _, _, _, _, _, _, ux16, _, _, _, rfl, rfl, ⟨hbe, H.d4, (fun _ => rfl), (fun h => by cases h), H.d7, H.d8, (fun h => by cases h), H.d10, H.d11, H.d12, H.d13, H.d14, (fun h => by cases h), (fun h => by cases h), (fun h => by cases h), (fun h => by cases h), H.t5, H.t6, H.h0, H.h1, H.h2, H.h3, H.h4, (fun _ => rfl), H.h6, H.h7, (fun h => by cases h), (fun h => by cases h), (fun h => by cases h), (fun h => by cases h), (fun h => by cases h), (fun h => by cases h), H.h14, H.h15, (fun h => by cases h), (fun h => by cases h), (fun h => by cases h), H.h19⟩⟩
                · have ho := hoj
                  simp only [List.getElem?_toArray, List.getElem?_cons_succ, List.getElem?_cons_zero, Option.some.injEq] at hoj
                  subst hoj
                  obtain rfl : ub6 = false := hun
                  obtain rfl : ub2 = true := hall ⟨2, .data⟩ (by simp) (by kernel_rfl)
                  obtain rfl : ub5 = true := hall ⟨5, .data⟩ (by simp) (by kernel_rfl)
                  obtain rfl : ub4 = true := (H.d5 rfl)
                  obtain rfl : ub3 = true := (H.d4 rfl)
                  clear hall
                  obtain rfl : ub7 = false := Bool.eq_false_iff.2 fun h => Bool.false_ne_true (H.d7 h).2
                  obtain rfl : ub8 = false := Bool.eq_false_iff.2 fun h => Bool.false_ne_true (H.d8 h)
                  obtain rfl : ub9 = false := Bool.eq_false_iff.2 fun h => Bool.false_ne_true (H.d9 h).2.2
                  obtain rfl : ub10 = false := Bool.eq_false_iff.2 fun h => Bool.false_ne_true (H.d10 h)
                  obtain rfl : ub11 = false := Bool.eq_false_iff.2 fun h => Bool.false_ne_true (H.d11 h)
                  obtain rfl : ub12 = false := Bool.eq_false_iff.2 fun h => Bool.false_ne_true (H.d12 h)
                  obtain rfl : ub13 = false := Bool.eq_false_iff.2 fun h => Bool.false_ne_true (H.d13 h)
                  obtain rfl : ub14 = false := Bool.eq_false_iff.2 fun h => Bool.false_ne_true (H.d14 h)
                  obtain rfl : ub16 = false := Bool.eq_false_iff.2 fun h => Bool.false_ne_true (H.d16 h).2.2.2.2.2.2.1
                  obtain rfl : ub17 = false := Bool.eq_false_iff.2 fun h => Bool.false_ne_true (H.d17 h).2.2.2.2.2.2.1
                  obtain rfl : ub18 = false := Bool.eq_false_iff.2 fun h => Bool.false_ne_true (H.d18 h).2.2.2.2.2.2.1
                  obtain rfl : ub19 = false := Bool.eq_false_iff.2 fun h => Bool.false_ne_true (H.d19 h).2.2.2.2.2.2.1
                  have hbe := H.be
                  have hx_t5 := H.t5
                  have hx_t6 := H.t6
                  obtain rfl := H.h2 rfl
                  obtain rfl := H.h3 rfl
                  obtain rfl := H.h4 rfl
                  obtain rfl := H.h5 rfl
                  have hwa := HWA.out
                  refine wpOp_step ho (fun K' hK => ?_)
                  have HK := Lib.hid hK
                  clear hK ho
                  go_simp
                  exact HK.out _ _ ⟨_, _, _, _, _, _, _, _, _, _, _, _, _, _, _, _, _, _, _, _, _, _, _, _, _, _, _, _, _, _, _, _, _, _, _, _, ux16, _, _, _, rfl, rfl, ⟨hbe, H.d4, H.d5, (fun _ => ⟨rfl, rfl⟩), (fun h => by cases h), H.d8, H.d9, H.d10, H.d11, H.d12, H.d13, H.d14, (fun h => by cases h), (fun h => by cases h), (fun h => by cases h), (fun h => by cases h), H.t5, H.t6, H.h0, H.h1, H.h2, H.h3, H.h4, H.h5, (fun _ => rfl), H.h7, (fun h => by cases h), (fun h => by cases h), (fun h => by cases h), (fun h => by cases h), (fun h => by cases h), (fun h => by cases h), H.h14, H.h15, (fun h => by cases h), (fun h => by cases h), (fun h => by cases h), H.h19⟩⟩
                · have ho := hoj
                  simp only [List.getElem?_toArray, List.getElem?_cons_succ, List.getElem?_cons_zero, Option.some.injEq] at hoj
                  subst hoj
                  obtain rfl : ub7 = false := hun
                  obtain rfl : ub1 = true := hall ⟨1, .data⟩ (by simp) (by kernel_rfl)
                  obtain rfl : ub6 = true := hall ⟨6, .data⟩ (by simp) (by kernel_rfl)
                  obtain rfl : ub2 = true := (H.d6 rfl).1
                  obtain rfl : ub5 = true := (H.d6 rfl).2
                  obtain rfl : ub4 = true := (H.d5 rfl)
                  obtain rfl : ub3 = true := (H.d4 rfl)
                  clear hall
                  obtain rfl : ub8 = false := Bool.eq_false_iff.2 fun h => Bool.false_ne_true (H.d8 h)
                  obtain rfl : ub9 = false := Bool.eq_false_iff.2 fun h => Bool.false_ne_true (H.d9 h).2.2
                  obtain rfl : ub10 = false := Bool.eq_false_iff.2 fun h => Bool.false_ne_true (H.d10 h)
                  obtain rfl : ub11 = false := Bool.eq_false_iff.2 fun h => Bool.false_ne_true (H.d11 h)
                  obtain rfl : ub12 = false := Bool.eq_false_iff.2 fun h => Bool.false_ne_true (H.d12 h)
                  obtain rfl : ub13 = false := Bool.eq_false_iff.2 fun h => Bool.false_ne_true (H.d13 h)
                  obtain rfl : ub14 = false := Bool.eq_false_iff.2 fun h => Bool.false_ne_true (H.d14 h)
                  obtain rfl : ub16 = false := Bool.eq_false_iff.2 fun h => Bool.false_ne_true (H.d16 h).2.2.2.2.2.2.2.1
                  obtain rfl : ub17 = false := Bool.eq_false_iff.2 fun h => Bool.false_ne_true (H.d17 h).2.2.2.2.2.2.2.1
                  obtain rfl : ub18 = false := Bool.eq_false_iff.2 fun h => Bool.false_ne_true (H.d18 h).2.2.2.2.2.2.2.1
                  obtain rfl : ub19 = false := Bool.eq_false_iff.2 fun h => Bool.false_ne_true (H.d19 h).2.2.2.2.2.2.2.1
                  have hbe := H.be
                  have hx_t5 := H.t5
                  have hx_t6 := H.t6
                  obtain rfl := H.h1 rfl
                  obtain rfl := H.h2 rfl
                  obtain rfl := H.h3 rfl
                  obtain rfl := H.h4 rfl
                  obtain rfl := H.h5 rfl
                  obtain rfl := H.h6 rfl
                  refine wpOp_step ho (fun K' hK => ?_)
                  have HK := Lib.hid hK
                  clear hK ho
                  go_simp
                  exact HK.out _ _ ⟨_, _, _, _, _, _, _, _, _, _, _, _, _, _, _, _, _, _, _, _, _, _, _, _, _, _, _, _, _, _, _, _, _, _, _, _, ux16, _, _, _, rfl, rfl, ⟨hbe, H.d4, H.d5, H.d6, (fun _ => ⟨rfl, rfl⟩), (fun h => by cases h), H.d9, H.d10, H.d11, H.d12, H.d13, H.d14, (fun h => by cases h), (fun h => by cases h), (fun h => by cases h), (fun h => by cases h), H.t5, H.t6, H.h0, H.h1, H.h2, H.h3, H.h4, H.h5, H.h6, (fun _ => rfl), (fun h => by cases h), (fun h => by cases h), (fun h => by cases h), (fun h => by cases h), (fun h => by cases h), (fun h => by cases h), H.h14, H.h15, (fun h => by cases h), (fun h => by cases h), (fun h => by cases h), H.h19⟩⟩
                · have ho := hoj
                  simp only [List.getElem?_toArray, List.getElem?_cons_succ, List.getElem?_cons_zero, Option.some.injEq] at hoj
                  subst hoj
                  obtain rfl : ub8 = false := hun
                  obtain rfl : ub7 = true := hall ⟨7, .data⟩ (by simp) (by kernel_rfl)
                  obtain rfl : ub1 = true := (H.d7 rfl).1
                  obtain rfl : ub6 = true := (H.d7 rfl).2
                  obtain rfl : ub2 = true := (H.d6 rfl).1
                  obtain rfl : ub5 = true := (H.d6 rfl).2
                  obtain rfl : ub4 = true := (H.d5 rfl)
                  obtain rfl : ub3 = true := (H.d4 rfl)
                  clear hall
                  obtain rfl : ub9 = false := Bool.eq_false_iff.2 fun h => Bool.false_ne_true (H.d9 h).2.2
                  obtain rfl : ub10 = false := Bool.eq_false_iff.2 fun h => Bool.false_ne_true (H.d10 h)
                  obtain rfl : ub11 = false := Bool.eq_false_iff.2 fun h => Bool.false_ne_true (H.d11 h)
                  obtain rfl : ub12 = false := Bool.eq_false_iff.2 fun h => Bool.false_ne_true (H.d12 h)
                  obtain rfl : ub13 = false := Bool.eq_false_iff.2 fun h => Bool.false_ne_true (H.d13 h)
                  obtain rfl : ub14 = false := Bool.eq_false_iff.2 fun h => Bool.false_ne_true (H.d14 h)
                  obtain rfl : ub16 = false := Bool.eq_false_iff.2 fun h => Bool.false_ne_true (H.d16 h).2.2.2.2.2.2.2.2.1
                  obtain rfl : ub17 = false := Bool.eq_false_iff.2 fun h => Bool.false_ne_true (H.d17 h).2.2.2.2.2.2.2.2.1
                  obtain rfl : ub18 = false := Bool.eq_false_iff.2 fun h => Bool.false_ne_true (H.d18 h).2.2.2.2.2.2.2.2.1
                  obtain rfl : ub19 = false := Bool.eq_false_iff.2 fun h => Bool.false_ne_true (H.d19 h).2.2.2.2.2.2.2.2.1
                  have hbe := H.be
                  have hx_t5 := H.t5
                  have hx_t6 := H.t6
                  obtain rfl := H.h1 rfl
                  obtain rfl := H.h2 rfl
                  obtain rfl := H.h3 rfl
                  obtain rfl := H.h4 rfl
                  obtain rfl := H.h5 rfl
                  obtain rfl := H.h6 rfl
                  obtain rfl := H.h7 rfl
                  have BA := Lib.hid ((Below.refl w.heap.size w).alloc (Nat.le_refl _) (.cells #[.int .i64 lo0, .int .i64 (lo0 + a)] 63))
                  have NA := Lib.hid (rsl_ownT (own_oneR (w := w) (base := 0) lo0 (lo0 + a) (Nat.zero_le _)))
                  refine wpOp_step ho (fun K' hK => ?_)
                  have HK := Lib.hid hK
                  clear hK ho
                  go_simp
                  exact HK.out _ _ ⟨_, _, _, _, _, _, _, _, _, _, _, _, _, _, _, _, _, _, _, _, _, _, _, _, _, _, _, _, _, _, _, _, _, _, _, _, ux16, _, _, _, rfl, rfl, ⟨hbe.trans (BA.out.mono hbe.size), H.d4, H.d5, H.d6, H.d7, (fun _ => rfl), (fun h => by cases h), H.d10, H.d11, H.d12, H.d13, H.d14, (fun h => by cases h), (fun h => by cases h), (fun h => by cases h), (fun h => by cases h), hx_t5, hx_t6, H.h0, H.h1, H.h2, H.h3, H.h4, H.h5, H.h6, H.h7, (fun _ _ => NA.out), (fun h => by cases h), (fun h => by cases h), (fun h => by cases h), (fun h => by cases h), (fun h => by cases h), H.h14, (fun e f => let ⟨k, e1, e2, e3⟩ := (H.h15 e f); ⟨k, e1, e2, (BA.out.block _ (lt_of_block e3)).trans e3⟩), (fun h => by cases h), (fun h => by cases h), (fun h => by cases h), H.h19⟩⟩
                · have ho := hoj
                  simp only [List.getElem?_toArray, List.getElem?_cons_succ, List.getElem?_cons_zero, Option.some.injEq] at hoj
                  subst hoj
                  obtain rfl : ub9 = false := hun
                  obtain rfl : ub0 = true := hall ⟨0, .data⟩ (by simp) (by kernel_rfl)
                  obtain rfl : ub5 = true := hall ⟨5, .chain⟩ (by simp) (by kernel_rfl)
                  obtain rfl : ub8 = true := hall ⟨8, .data⟩ (by simp) (by kernel_rfl)
                  obtain rfl : ub4 = true := (H.d5 rfl)
                  obtain rfl : ub7 = true := (H.d8 rfl)
                  obtain rfl : ub3 = true := (H.d4 rfl)
                  obtain rfl : ub1 = true := (H.d7 rfl).1
                  obtain rfl : ub6 = true := (H.d7 rfl).2
                  obtain rfl : ub2 = true := (H.d6 rfl).1
                  clear hall
                  obtain rfl : ub10 = false := Bool.eq_false_iff.2 fun h => Bool.false_ne_true (H.d10 h)
                  obtain rfl : ub11 = false := Bool.eq_false_iff.2 fun h => Bool.false_ne_true (H.d11 h)
                  obtain rfl : ub12 = false := Bool.eq_false_iff.2 fun h => Bool.false_ne_true (H.d12 h)
                  obtain rfl : ub13 = false := Bool.eq_false_iff.2 fun h => Bool.false_ne_true (H.d13 h)
                  obtain rfl : ub14 = false := Bool.eq_false_iff.2 fun h => Bool.false_ne_true (H.d14 h)
                  obtain rfl : ub16 = false := Bool.eq_false_iff.2 fun h => Bool.false_ne_true (H.d16 h).2.2.2.2.2.2.2.2.2.1
                  obtain rfl : ub17 = false := Bool.eq_false_iff.2 fun h => Bool.false_ne_true (H.d17 h).2.2.2.2.2.2.2.2.2.1
                  obtain rfl : ub18 = false := Bool.eq_false_iff.2 fun h => Bool.false_ne_true (H.d18 h).2.2.2.2.2.2.2.2.2.1
                  obtain rfl : ub19 = false := Bool.eq_false_iff.2 fun h => Bool.false_ne_true (H.d19 h).2.2.2.2.2.2.2.2.2.1
                  have hbe := H.be
                  have hx_t5 := H.t5
                  have hx_t6 := H.t6
                  obtain rfl := H.h0 rfl
                  obtain rfl := H.h1 rfl
                  obtain rfl := H.h2 rfl
                  obtain rfl := H.h3 rfl
                  obtain rfl := H.h4 rfl
                  obtain rfl := H.h5 rfl
                  obtain rfl := H.h6 rfl
                  obtain rfl := H.h7 rfl
                  have P8 := H.h8 rfl rfl
                  refine wpOp_step ho (fun K' hK => ?_)
                  have HK := Lib.hid hK
                  clear hK ho
                  go_wp2_with fail
                  refine (spAck_any _ _ s [(lo0, lo0 + a)] w (StS.on GX.out.v (KpS.below hbe)).now HWF.out P8 (by simp)).mono ?_
                  rintro e w1 hr
                  have BC := Lib.hid hr.be
                  obtain ⟨u1, v1, q1, rfl, hu1, hv1, hq1⟩ := hr.ex
                  rw [HEQ.out] at hu1 hv1 hq1 ⊢
                  have UC := Lib.hid (show TupA X ub15 ux15 w1 _ s' hl ll ec from ⟨u1, v1, q1, rfl, hu1.toX hbe.size (fun hb => let ⟨k, e1, _, e3⟩ := H.h15 hb rfl; ⟨k, e1, lt_of_block e3⟩), hv1.toX hbe.size (fun hb => let ⟨k, e1, _, e3⟩ := H.h15 hb rfl; ⟨k, e1, lt_of_block e3⟩), hq1.toX hbe.size (fun hb => let ⟨k, e1, _, e3⟩ := H.h15 hb rfl; ⟨k, e1, lt_of_block e3⟩)⟩)
                  clear hr hu1 hv1 hq1
                  go_wp2_with fail
                  exact HK.out _ _ ⟨_, _, _, _, _, _, _, _, _, _, _, _, _, _, _, _, _, _, _, _, _, _, _, _, _, _, _, _, _, _, _, _, _, _, _, _, ux16, _, _, _, rfl, rfl, ⟨hbe.trans (BC.out.mono hbe.size), H.d4, H.d5, H.d6, H.d7, H.d8, (fun _ => ⟨rfl, rfl, rfl⟩), (fun h => by cases h), H.d11, H.d12, H.d13, H.d14, (fun h => by cases h), (fun h => by cases h), (fun h => by cases h), (fun h => by cases h), fun _ => ⟨_, _, _, rfl⟩, hx_t6, H.h0, H.h1, H.h2, H.h3, H.h4, H.h5, H.h6, H.h7, (fun e f => ((H.h8 e f).below BC.out).more (BC.out).size), (fun _ => UC.out), (fun h => by cases h), (fun h => by cases h), (fun h => by cases h), (fun h => by cases h), H.h14, (fun e f => let ⟨k, e1, e2, e3⟩ := (H.h15 e f); ⟨k, e1, e2, (BC.out.block _ (lt_of_block e3)).trans e3⟩), (fun h => by cases h), (fun h => by cases h), (fun h => by cases h), H.h19⟩⟩
                · have ho := hoj
                  simp only [List.getElem?_toArray, List.getElem?_cons_succ, List.getElem?_cons_zero, Option.some.injEq] at hoj
                  subst hoj
                  obtain rfl : ub10 = false := hun
                  obtain rfl : ub9 = true := hall ⟨9, .data⟩ (by simp) (by kernel_rfl)
                  obtain rfl : ub0 = true := (H.d9 rfl).1
                  obtain rfl : ub5 = true := (H.d9 rfl).2.1
                  obtain rfl : ub8 = true := (H.d9 rfl).2.2
                  obtain rfl : ub4 = true := (H.d5 rfl)
                  obtain rfl : ub7 = true := (H.d8 rfl)
                  obtain rfl : ub3 = true := (H.d4 rfl)
                  obtain rfl : ub1 = true := (H.d7 rfl).1
                  obtain rfl : ub6 = true := (H.d7 rfl).2
                  obtain rfl : ub2 = true := (H.d6 rfl).1
                  clear hall
                  obtain rfl : ub11 = false := Bool.eq_false_iff.2 fun h => Bool.false_ne_true (H.d11 h)
                  obtain rfl : ub12 = false := Bool.eq_false_iff.2 fun h => Bool.false_ne_true (H.d12 h)
                  obtain rfl : ub13 = false := Bool.eq_false_iff.2 fun h => Bool.false_ne_true (H.d13 h)
                  obtain rfl : ub14 = false := Bool.eq_false_iff.2 fun h => Bool.false_ne_true (H.d14 h)
                  obtain rfl : ub16 = false := Bool.eq_false_iff.2 fun h => Bool.false_ne_true (H.d16 h).2.2.2.2.2.2.2.2.2.2.1
                  obtain rfl : ub17 = false := Bool.eq_false_iff.2 fun h => Bool.false_ne_true (H.d17 h).2.2.2.2.2.2.2.2.2.2.1
                  obtain rfl : ub18 = false := Bool.eq_false_iff.2 fun h => Bool.false_ne_true (H.d18 h).2.2.2.2.2.2.2.2.2.2.1
                  obtain rfl : ub19 = false := Bool.eq_false_iff.2 fun h => Bool.false_ne_true (H.d19 h).2.2.2.2.2.2.2.2.2.2.1
                  have hbe := H.be
                  have hx_t5 := H.t5
                  have hx_t6 := H.t6
                  obtain rfl := H.h0 rfl
                  obtain rfl := H.h1 rfl
                  obtain rfl := H.h2 rfl
                  obtain rfl := H.h3 rfl
                  obtain rfl := H.h4 rfl
                  obtain rfl := H.h5 rfl
                  obtain rfl := H.h6 rfl
                  obtain rfl := H.h7 rfl
                  have P8 := H.h8 rfl rfl
                  have P9 := H.h9 rfl
                  have PT := Lib.hid P9
                  have TT := Lib.hid (H.t5 rfl)
                  clear P9
                  refine wpOp_step ho (fun K' hK => ?_)
                  have HK := Lib.hid hK
                  clear hK ho
                  go_simp
                  exact HK.out _ _ ⟨_, _, _, _, _, _, _, _, _, _, _, _, _, _, _, _, _, _, _, _, _, _, _, _, _, _, _, _, _, _, _, _, _, _, _, _, ux16, _, _, _, rfl, rfl, ⟨hbe, H.d4, H.d5, H.d6, H.d7, H.d8, H.d9, (fun _ => rfl), (fun h => by cases h), (fun h => by cases h), (fun h => by cases h), (fun h => by cases h), (fun h => by cases h), (fun h => by cases h), (fun h => by cases h), (fun h => by cases h), H.t5, fun _ => TT.out, H.h0, H.h1, H.h2, H.h3, H.h4, H.h5, H.h6, H.h7, H.h8, H.h9, (fun _ => PT.out), (fun h => by cases h), (fun h => by cases h), (fun h => by cases h), H.h14, H.h15, (fun h => by cases h), (fun h => by cases h), (fun h => by cases h), H.h19⟩⟩
                · have ho := hoj
                  simp only [List.getElem?_toArray, List.getElem?_cons_succ, List.getElem?_cons_zero, Option.some.injEq] at hoj
                  subst hoj
                  obtain rfl : ub11 = false := hun
                  obtain rfl : ub10 = true := hall ⟨10, .data⟩ (by simp) (by kernel_rfl)
                  obtain rfl : ub9 = true := (H.d10 rfl)
                  obtain rfl : ub0 = true := (H.d9 rfl).1
                  obtain rfl : ub5 = true := (H.d9 rfl).2.1
                  obtain rfl : ub8 = true := (H.d9 rfl).2.2
                  obtain rfl : ub4 = true := (H.d5 rfl)
                  obtain rfl : ub7 = true := (H.d8 rfl)
                  obtain rfl : ub3 = true := (H.d4 rfl)
                  obtain rfl : ub1 = true := (H.d7 rfl).1
                  obtain rfl : ub6 = true := (H.d7 rfl).2
                  obtain rfl : ub2 = true := (H.d6 rfl).1
                  clear hall
                  obtain rfl : ub16 = false := Bool.eq_false_iff.2 fun h => Bool.false_ne_true (H.d16 h).2.2.2.2.2.2.2.2.2.2.2.1
                  obtain rfl : ub17 = false := Bool.eq_false_iff.2 fun h => Bool.false_ne_true (H.d17 h).2.2.2.2.2.2.2.2.2.2.2.1
                  obtain rfl : ub18 = false := Bool.eq_false_iff.2 fun h => Bool.false_ne_true (H.d18 h).2.2.2.2.2.2.2.2.2.2.2.1
                  obtain rfl : ub19 = false := Bool.eq_false_iff.2 fun h => Bool.false_ne_true (H.d19 h).2.2.2.2.2.2.2.2.2.2.2.1
                  have hbe := H.be
                  have hx_t5 := H.t5
                  have hx_t6 := H.t6
                  obtain rfl := H.h0 rfl
                  obtain rfl := H.h1 rfl
                  obtain rfl := H.h2 rfl
                  obtain rfl := H.h3 rfl
                  obtain rfl := H.h4 rfl
                  obtain rfl := H.h5 rfl
                  obtain rfl := H.h6 rfl
                  obtain rfl := H.h7 rfl
                  have P8 := H.h8 rfl rfl
                  have P9 := H.h9 rfl
                  have P10 := H.h10 rfl
                  obtain ⟨u, v, q, rfl, hu, hv, hq⟩ := P10.ex
                  have HU := Lib.hid hu
                  clear hu hv hq
                  refine wpOp_step ho (fun K' hK => ?_)
                  have HK := Lib.hid hK
                  clear hK ho
                  go_simp
                  exact HK.out _ _ ⟨_, _, _, _, _, _, _, _, _, _, _, _, _, _, _, _, _, _, _, _, _, _, _, _, _, _, _, _, _, _, _, _, _, _, _, _, ux16, _, _, _, rfl, rfl, ⟨hbe, H.d4, H.d5, H.d6, H.d7, H.d8, H.d9, H.d10, (fun _ => rfl), H.d12, H.d13, H.d14, (fun h => by cases h), (fun h => by cases h), (fun h => by cases h), (fun h => by cases h), H.t5, H.t6, H.h0, H.h1, H.h2, H.h3, H.h4, H.h5, H.h6, H.h7, H.h8, H.h9, H.h10, (fun _ => HU.out), H.h12, H.h13, H.h14, H.h15, (fun h => by cases h), (fun h => by cases h), (fun h => by cases h), H.h19⟩⟩
                · have ho := hoj
                  simp only [List.getElem?_toArray, List.getElem?_cons_succ, List.getElem?_cons_zero, Option.some.injEq] at hoj
                  subst hoj
                  obtain rfl : ub12 = false := hun
                  obtain rfl : ub10 = true := hall ⟨10, .data⟩ (by simp) (by kernel_rfl)
                  obtain rfl : ub9 = true := (H.d10 rfl)
                  obtain rfl : ub0 = true := (H.d9 rfl).1
                  obtain rfl : ub5 = true := (H.d9 rfl).2.1
                  obtain rfl : ub8 = true := (H.d9 rfl).2.2
                  obtain rfl : ub4 = true := (H.d5 rfl)
                  obtain rfl : ub7 = true := (H.d8 rfl)
                  obtain rfl : ub3 = true := (H.d4 rfl)
                  obtain rfl : ub1 = true := (H.d7 rfl).1
                  obtain rfl : ub6 = true := (H.d7 rfl).2
                  obtain rfl : ub2 = true := (H.d6 rfl).1
                  clear hall
                  obtain rfl : ub17 = false := Bool.eq_false_iff.2 fun h => Bool.false_ne_true (H.d17 h).2.2.2.2.2.2.2.2.2.2.2.2.1
                  obtain rfl : ub18 = false := Bool.eq_false_iff.2 fun h => Bool.false_ne_true (H.d18 h).2.2.2.2.2.2.2.2.2.2.2.2.1
                  obtain rfl : ub19 = false := Bool.eq_false_iff.2 fun h => Bool.false_ne_true (H.d19 h).2.2.2.2.2.2.2.2.2.2.2.2.1
                  have hbe := H.be
                  have hx_t5 := H.t5
                  have hx_t6 := H.t6
                  obtain rfl := H.h0 rfl
                  obtain rfl := H.h1 rfl
                  obtain rfl := H.h2 rfl
                  obtain rfl := H.h3 rfl
                  obtain rfl := H.h4 rfl
                  obtain rfl := H.h5 rfl
                  obtain rfl := H.h6 rfl
                  obtain rfl := H.h7 rfl
                  have P9 := H.h9 rfl
                  have P10 := H.h10 rfl
                  obtain ⟨u, v, q, rfl, hu, hv, hq⟩ := P10.ex
                  have HU := Lib.hid hv
                  clear hu hv hq
                  refine wpOp_step ho (fun K' hK => ?_)
                  have HK := Lib.hid hK
                  clear hK ho
                  go_simp
                  exact HK.out _ _ ⟨_, _, _, _, _, _, _, _, _, _, _, _, _, _, _, _, _, _, _, _, _, _, _, _, _, _, _, _, _, _, _, _, _, _, _, _, ux16, _, _, _, rfl, rfl, ⟨hbe, H.d4, H.d5, H.d6, H.d7, H.d8, H.d9, H.d10, H.d11, (fun _ => rfl), H.d13, H.d14, H.d16, (fun h => by cases h), (fun h => by cases h), (fun h => by cases h), H.t5, H.t6, H.h0, H.h1, H.h2, H.h3, H.h4, H.h5, H.h6, H.h7, H.h8, H.h9, H.h10, H.h11, (fun _ => HU.out), H.h13, H.h14, H.h15, H.h16, (fun h => by cases h), (fun h => by cases h), H.h19⟩⟩
                · have ho := hoj
                  simp only [List.getElem?_toArray, List.getElem?_cons_succ, List.getElem?_cons_zero, Option.some.injEq] at hoj
                  subst hoj
                  obtain rfl : ub13 = false := hun
                  obtain rfl : ub10 = true := hall ⟨10, .data⟩ (by simp) (by kernel_rfl)
                  obtain rfl : ub9 = true := (H.d10 rfl)
                  obtain rfl : ub0 = true := (H.d9 rfl).1
                  obtain rfl : ub5 = true := (H.d9 rfl).2.1
                  obtain rfl : ub8 = true := (H.d9 rfl).2.2
                  obtain rfl : ub4 = true := (H.d5 rfl)
                  obtain rfl : ub7 = true := (H.d8 rfl)
                  obtain rfl : ub3 = true := (H.d4 rfl)
                  obtain rfl : ub1 = true := (H.d7 rfl).1
                  obtain rfl : ub6 = true := (H.d7 rfl).2
                  obtain rfl : ub2 = true := (H.d6 rfl).1
                  clear hall
                  obtain rfl : ub18 = false := Bool.eq_false_iff.2 fun h => Bool.false_ne_true (H.d18 h).2.2.2.2.2.2.2.2.2.2.2.2.2.1
                  obtain rfl : ub19 = false := Bool.eq_false_iff.2 fun h => Bool.false_ne_true (H.d19 h).2.2.2.2.2.2.2.2.2.2.2.2.2.1
                  have hbe := H.be
                  have hx_t5 := H.t5
                  have hx_t6 := H.t6
                  obtain rfl := H.h0 rfl
                  obtain rfl := H.h1 rfl
                  obtain rfl := H.h2 rfl
                  obtain rfl := H.h3 rfl
                  obtain rfl := H.h4 rfl
                  obtain rfl := H.h5 rfl
                  obtain rfl := H.h6 rfl
                  obtain rfl := H.h7 rfl
                  have P9 := H.h9 rfl
                  have P10 := H.h10 rfl
                  obtain ⟨u, v, q, rfl, hu, hv, hq⟩ := P10.ex
                  have HU := Lib.hid hq
                  clear hu hv hq
                  refine wpOp_step ho (fun K' hK => ?_)
                  have HK := Lib.hid hK
                  clear hK ho
                  go_simp
                  exact HK.out _ _ ⟨_, _, _, _, _, _, _, _, _, _, _, _, _, _, _, _, _, _, _, _, _, _, _, _, _, _, _, _, _, _, _, _, _, _, _, _, ux16, _, _, _, rfl, rfl, ⟨hbe, H.d4, H.d5, H.d6, H.d7, H.d8, H.d9, H.d10, H.d11, H.d12, (fun _ => rfl), H.d14, H.d16, H.d17, (fun h => by cases h), (fun h => by cases h), H.t5, H.t6, H.h0, H.h1, H.h2, H.h3, H.h4, H.h5, H.h6, H.h7, H.h8, H.h9, H.h10, H.h11, H.h12, (fun _ => HU.out), H.h14, H.h15, H.h16, H.h17, (fun h => by cases h), H.h19⟩⟩
                · have ho := hoj
                  simp only [List.getElem?_toArray, List.getElem?_cons_succ, List.getElem?_cons_zero, Option.some.injEq] at hoj
                  subst hoj
                  obtain rfl : ub14 = false := hun
                  obtain rfl : ub10 = true := hall ⟨10, .data⟩ (by simp) (by kernel_rfl)
                  obtain rfl : ub9 = true := (H.d10 rfl)
                  obtain rfl : ub0 = true := (H.d9 rfl).1
                  obtain rfl : ub5 = true := (H.d9 rfl).2.1
                  obtain rfl : ub8 = true := (H.d9 rfl).2.2
                  obtain rfl : ub4 = true := (H.d5 rfl)
                  obtain rfl : ub7 = true := (H.d8 rfl)
                  obtain rfl : ub3 = true := (H.d4 rfl)
                  obtain rfl : ub1 = true := (H.d7 rfl).1
                  obtain rfl : ub6 = true := (H.d7 rfl).2
                  obtain rfl : ub2 = true := (H.d6 rfl).1
                  clear hall
                  obtain rfl : ub19 = false := Bool.eq_false_iff.2 fun h => Bool.false_ne_true (H.d19 h).2.2.2.2.2.2.2.2.2.2.2.2.2.2.1
                  have hbe := H.be
                  have hx_t5 := H.t5
                  have hx_t6 := H.t6
                  obtain rfl := H.h0 rfl
                  obtain rfl := H.h1 rfl
                  obtain rfl := H.h2 rfl
                  obtain rfl := H.h3 rfl
                  obtain rfl := H.h4 rfl
                  obtain rfl := H.h5 rfl
                  obtain rfl := H.h6 rfl
                  obtain rfl := H.h7 rfl
                  have P9 := H.h9 rfl
                  have P10 := H.h10 rfl
                  obtain ⟨u, v, q, rfl⟩ := H.t6 rfl
                  refine wpOp_step ho (fun K' hK => ?_)
                  have HK := Lib.hid hK
                  clear hK ho
                  go_simp
                  exact HK.out _ _ ⟨_, _, _, _, _, _, _, _, _, _, _, _, _, _, _, _, _, _, _, _, _, _, _, _, _, _, _, _, _, _, _, _, _, _, _, _, ux16, _, _, _, rfl, rfl, ⟨hbe, H.d4, H.d5, H.d6, H.d7, H.d8, H.d9, H.d10, H.d11, H.d12, H.d13, (fun _ => rfl), H.d16, H.d17, H.d18, (fun h => by cases h), H.t5, H.t6, H.h0, H.h1, H.h2, H.h3, H.h4, H.h5, H.h6, H.h7, H.h8, H.h9, H.h10, H.h11, H.h12, H.h13, (fun _ => rfl), H.h15, H.h16, H.h17, H.h18, H.h19⟩⟩
                · have ho := hoj
                  simp only [List.getElem?_toArray, List.getElem?_cons_succ, List.getElem?_cons_zero, Option.some.injEq] at hoj
                  subst hoj
                  obtain rfl : ub15 = false := hun
                  clear hall
                  obtain rfl : ub16 = false := Bool.eq_false_iff.2 fun h => Bool.false_ne_true (H.d16 h).2.2.2.2.2.2.2.2.2.2.2.2
                  obtain rfl : ub17 = false := Bool.eq_false_iff.2 fun h => Bool.false_ne_true (H.d17 h).2.2.2.2.2.2.2.2.2.2.2.2.2.1
                  obtain rfl : ub18 = false := Bool.eq_false_iff.2 fun h => Bool.false_ne_true (H.d18 h).2.2.2.2.2.2.2.2.2.2.2.2.2.2.1
                  obtain rfl : ub19 = false := Bool.eq_false_iff.2 fun h => Bool.false_ne_true (H.d19 h).2.2.2.2.2.2.2.2.2.2.2.2.2.2.2.1
                  have hbe := H.be
                  have hx_t5 := H.t5
                  have hx_t6 := H.t6
                  have BA := Lib.hid ((Below.refl w.heap.size w).alloc (Nat.le_refl _) (.cells #[.int .i64 0, .slice none 0 0, .int .i64 0, .slice none 0 0, .slice none 0 0] 48))
                  have NA := Lib.hid (heap_alloc_new w (.cells #[.int .i64 0, .slice none 0 0, .int .i64 0, .slice none 0 0, .slice none 0 0] 48))
                  have hsz := hbe.size
                  refine wpOp_step ho (fun K' hK => ?_)
                  have HK := Lib.hid hK
                  clear hK ho
                  go_simp
                  exact HK.out _ _ ⟨_, _, _, _, _, _, _, _, _, _, _, _, _, _, _, _, _, _, _, _, _, _, _, _, _, _, _, _, _, _, _, _, _, _, _, _, ux16, _, _, _, rfl, rfl, ⟨hbe.trans (BA.out.mono hbe.size), H.d4, H.d5, H.d6, H.d7, H.d8, H.d9, H.d10, H.d11, H.d12, H.d13, H.d14, (fun h => by cases h), (fun h => by cases h), (fun h => by cases h), (fun h => by cases h), hx_t5, hx_t6, H.h0, H.h1, H.h2, H.h3, H.h4, H.h5, H.h6, H.h7, (fun e f => ((H.h8 e f).below BA.out).more (BA.out).size), (fun e => (H.h9 e).made BA.out), (fun e => (H.h10 e).made BA.out), (fun e => StS.made (H.h11 e) BA.out), (fun e => StS.made (H.h12 e) BA.out), (fun e => StS.made (H.h13 e) BA.out), H.h14, (fun _ _ => ⟨_, rfl, hsz, NA.out⟩), (fun h => by cases h), (fun h => by cases h), (fun h => by cases h), H.h19⟩⟩
                · have ho := hoj
                  simp only [List.getElem?_toArray, List.getElem?_cons_succ, List.getElem?_cons_zero, Option.some.injEq] at hoj
                  subst hoj
                  obtain rfl : ub16 = false := hun
                  obtain rfl : ub0 = true := hall ⟨0, .phase⟩ (by simp) (by kernel_rfl)
                  obtain rfl : ub1 = true := hall ⟨1, .phase⟩ (by simp) (by kernel_rfl)
                  obtain rfl : ub2 = true := hall ⟨2, .phase⟩ (by simp) (by kernel_rfl)
                  obtain rfl : ub3 = true := hall ⟨3, .phase⟩ (by simp) (by kernel_rfl)
                  obtain rfl : ub4 = true := hall ⟨4, .phase⟩ (by simp) (by kernel_rfl)
                  obtain rfl : ub5 = true := hall ⟨5, .phase⟩ (by simp) (by kernel_rfl)
                  obtain rfl : ub6 = true := hall ⟨6, .phase⟩ (by simp) (by kernel_rfl)
                  obtain rfl : ub7 = true := hall ⟨7, .phase⟩ (by simp) (by kernel_rfl)
                  obtain rfl : ub8 = true := hall ⟨8, .phase⟩ (by simp) (by kernel_rfl)
                  obtain rfl : ub9 = true := hall ⟨9, .chain⟩ (by simp) (by kernel_rfl)
                  obtain rfl : ub10 = true := hall ⟨10, .phase⟩ (by simp) (by kernel_rfl)
                  obtain rfl : ub11 = true := hall ⟨11, .data⟩ (by simp) (by kernel_rfl)
                  obtain rfl : ub15 = true := hall ⟨15, .data⟩ (by simp) (by kernel_rfl)
                  clear hall
                  obtain rfl : ub17 = false := Bool.eq_false_iff.2 fun h => Bool.false_ne_true (H.d17 h).2.2.2.2.2.2.2.2.2.2.2.2.2.2
                  obtain rfl : ub18 = false := Bool.eq_false_iff.2 fun h => Bool.false_ne_true (H.d18 h).2.2.2.2.2.2.2.2.2.2.2.2.2.2.2.1
                  obtain rfl : ub19 = false := Bool.eq_false_iff.2 fun h => Bool.false_ne_true (H.d19 h).2.2.2.2.2.2.2.2.2.2.2.2.2.2.2.2.1
                  have hbe := H.be
                  have hx_t5 := H.t5
                  have hx_t6 := H.t6
                  obtain rfl := H.h0 rfl
                  obtain rfl := H.h1 rfl
                  obtain rfl := H.h2 rfl
                  obtain rfl := H.h3 rfl
                  obtain rfl := H.h4 rfl
                  obtain rfl := H.h5 rfl
                  obtain rfl := H.h6 rfl
                  obtain rfl := H.h7 rfl
                  have P8 := H.h8 rfl rfl
                  have P9 := H.h9 rfl
                  have P10 := H.h10 rfl
                  have P11 := H.h11 rfl
                  have P15 := H.h15 rfl rfl
                  obtain ⟨k, rfl, hk0, hk⟩ := P15
                  have hu := Lib.hid P11
                  obtain ⟨Na, Nh, Nk, na, nh, nk, rfl⟩ := SpdS.slices P11
                  obtain ⟨n1, n2⟩ := spnew_put hk hk0 hbe hu.out
                  have NV := Lib.hid n1
                  have HKP := Lib.hid n2
                  have BV := Lib.hid (show Below X.heap.size X _ from let ⟨_, _, _, _, _, _, _, _, _, _, _, e⟩ := n1.ex; e)
                  obtain ⟨q0, q1, q2, q3, q4⟩ := sp5 hk
                  have qf := fun i => bk_frz hk i
                  clear hk n1 n2
                  refine wpOp_step ho (fun K' hK => ?_)
                  have HK := Lib.hid hK
                  clear hK ho
                  go_simp
                  exact HK.out _ _ ⟨_, _, _, _, _, _, _, _, _, _, _, _, _, _, _, _, _, _, _, _, _, _, _, _, _, _, _, _, _, _, _, _, _, _, _, _, ux16, _, _, _, rfl, rfl, ⟨BV.out, H.d4, H.d5, H.d6, H.d7, H.d8, H.d9, H.d10, H.d11, H.d12, H.d13, H.d14, (fun _ => ⟨rfl, rfl, rfl, rfl, rfl, rfl, rfl, rfl, rfl, rfl, rfl, rfl, rfl⟩), (fun h => by cases h), (fun h => by cases h), (fun h => by cases h), H.t5, H.t6, H.h0, H.h1, H.h2, H.h3, H.h4, H.h5, H.h6, H.h7, (fun _ h => by cases h), (fun e => (H.h9 e).kp HKP.out), (fun e => (H.h10 e).kp HKP.out), (fun e => StS.on (H.h11 e) HKP.out), (fun e => StS.on (H.h12 e) HKP.out), (fun e => StS.on (H.h13 e) HKP.out), H.h14, (fun _ h => by cases h), (fun _ => NV.out), (fun h => by cases h), (fun h => by cases h), H.h19⟩⟩
                · have ho := hoj
                  simp only [List.getElem?_toArray, List.getElem?_cons_succ, List.getElem?_cons_zero, Option.some.injEq] at hoj
                  subst hoj
                  obtain rfl : ub17 = false := hun
                  obtain rfl : ub0 = true := hall ⟨0, .phase⟩ (by simp) (by kernel_rfl)
                  obtain rfl : ub1 = true := hall ⟨1, .phase⟩ (by simp) (by kernel_rfl)
                  obtain rfl : ub2 = true := hall ⟨2, .phase⟩ (by simp) (by kernel_rfl)
                  obtain rfl : ub3 = true := hall ⟨3, .phase⟩ (by simp) (by kernel_rfl)
                  obtain rfl : ub4 = true := hall ⟨4, .phase⟩ (by simp) (by kernel_rfl)
                  obtain rfl : ub5 = true := hall ⟨5, .phase⟩ (by simp) (by kernel_rfl)
                  obtain rfl : ub6 = true := hall ⟨6, .phase⟩ (by simp) (by kernel_rfl)
                  obtain rfl : ub7 = true := hall ⟨7, .phase⟩ (by simp) (by kernel_rfl)
                  obtain rfl : ub8 = true := hall ⟨8, .phase⟩ (by simp) (by kernel_rfl)
                  obtain rfl : ub9 = true := hall ⟨9, .phase⟩ (by simp) (by kernel_rfl)
                  obtain rfl : ub10 = true := hall ⟨10, .phase⟩ (by simp) (by kernel_rfl)
                  obtain rfl : ub11 = true := hall ⟨11, .phase⟩ (by simp) (by kernel_rfl)
                  obtain rfl : ub12 = true := hall ⟨12, .data⟩ (by simp) (by kernel_rfl)
                  obtain rfl : ub15 = true := hall ⟨15, .phase⟩ (by simp) (by kernel_rfl)
                  obtain rfl : ub16 = true := hall ⟨16, .chain⟩ (by simp) (by kernel_rfl)
                  clear hall
                  obtain rfl : ub18 = false := Bool.eq_false_iff.2 fun h => Bool.false_ne_true (H.d18 h).2.2.2.2.2.2.2.2.2.2.2.2.2.2.2.2
                  obtain rfl : ub19 = false := Bool.eq_false_iff.2 fun h => Bool.false_ne_true (H.d19 h).2.2.2.2.2.2.2.2.2.2.2.2.2.2.2.2.2.1
                  have hbe := H.be
                  have hx_t5 := H.t5
                  have hx_t6 := H.t6
                  obtain rfl := H.h0 rfl
                  obtain rfl := H.h1 rfl
                  obtain rfl := H.h2 rfl
                  obtain rfl := H.h3 rfl
                  obtain rfl := H.h4 rfl
                  obtain rfl := H.h5 rfl
                  obtain rfl := H.h6 rfl
                  obtain rfl := H.h7 rfl
                  have P9 := H.h9 rfl
                  have P10 := H.h10 rfl
                  have P11 := H.h11 rfl
                  have P12 := H.h12 rfl
                  have P16 := H.h16 rfl
                  have HU := Lib.hid P12
                  refine wpOp_step ho (fun K' hK => ?_)
                  have HK := Lib.hid hK
                  clear hK ho
                  go_simp
                  exact HK.out _ _ ⟨_, _, _, _, _, _, _, _, _, _, _, _, _, _, _, _, _, _, _, _, _, _, _, _, _, _, _, _, _, _, _, _, _, _, _, _, ux16, _, _, _, rfl, rfl, ⟨hbe, H.d4, H.d5, H.d6, H.d7, H.d8, H.d9, H.d10, H.d11, H.d12, H.d13, H.d14, H.d16, (fun _ => ⟨rfl, rfl, rfl, rfl, rfl, rfl, rfl, rfl, rfl, rfl, rfl, rfl, rfl, rfl, rfl⟩), (fun h => by cases h), (fun h => by cases h), H.t5, H.t6, H.h0, H.h1, H.h2, H.h3, H.h4, H.h5, H.h6, H.h7, (fun _ h => by cases h), H.h9, H.h10, H.h11, H.h12, H.h13, H.h14, (fun _ h => by cases h), H.h16, (fun _ => HU.out), (fun h => by cases h), H.h19⟩⟩
                · have ho := hoj
                  simp only [List.getElem?_toArray, List.getElem?_cons_succ, List.getElem?_cons_zero, Option.some.injEq] at hoj
                  subst hoj
                  obtain rfl : ub18 = false := hun
                  obtain rfl : ub0 = true := hall ⟨0, .phase⟩ (by simp) (by kernel_rfl)
                  obtain rfl : ub1 = true := hall ⟨1, .phase⟩ (by simp) (by kernel_rfl)
                  obtain rfl : ub2 = true := hall ⟨2, .phase⟩ (by simp) (by kernel_rfl)
                  obtain rfl : ub3 = true := hall ⟨3, .phase⟩ (by simp) (by kernel_rfl)
                  obtain rfl : ub4 = true := hall ⟨4, .phase⟩ (by simp) (by kernel_rfl)
                  obtain rfl : ub5 = true := hall ⟨5, .phase⟩ (by simp) (by kernel_rfl)
                  obtain rfl : ub6 = true := hall ⟨6, .phase⟩ (by simp) (by kernel_rfl)
                  obtain rfl : ub7 = true := hall ⟨7, .phase⟩ (by simp) (by kernel_rfl)
                  obtain rfl : ub8 = true := hall ⟨8, .phase⟩ (by simp) (by kernel_rfl)
                  obtain rfl : ub9 = true := hall ⟨9, .phase⟩ (by simp) (by kernel_rfl)
                  obtain rfl : ub10 = true := hall ⟨10, .phase⟩ (by simp) (by kernel_rfl)
                  obtain rfl : ub11 = true := hall ⟨11, .phase⟩ (by simp) (by kernel_rfl)
                  obtain rfl : ub12 = true := hall ⟨12, .phase⟩ (by simp) (by kernel_rfl)
                  obtain rfl : ub13 = true := hall ⟨13, .data⟩ (by simp) (by kernel_rfl)
                  obtain rfl : ub15 = true := hall ⟨15, .phase⟩ (by simp) (by kernel_rfl)
                  obtain rfl : ub16 = true := hall ⟨16, .phase⟩ (by simp) (by kernel_rfl)
                  obtain rfl : ub17 = true := hall ⟨17, .chain⟩ (by simp) (by kernel_rfl)
                  clear hall
                  obtain rfl : ub19 = false := Bool.eq_false_iff.2 fun h => Bool.false_ne_true (H.d19 h).2.2.2.2.2.2.2.2.2.2.2.2.2.2.2.2.2.2
                  have hbe := H.be
                  have hx_t5 := H.t5
                  have hx_t6 := H.t6
                  obtain rfl := H.h0 rfl
                  obtain rfl := H.h1 rfl
                  obtain rfl := H.h2 rfl
                  obtain rfl := H.h3 rfl
                  obtain rfl := H.h4 rfl
                  obtain rfl := H.h5 rfl
                  obtain rfl := H.h6 rfl
                  obtain rfl := H.h7 rfl
                  have P9 := H.h9 rfl
                  have P10 := H.h10 rfl
                  have P11 := H.h11 rfl
                  have P12 := H.h12 rfl
                  have P13 := H.h13 rfl
                  have P16 := H.h16 rfl
                  have P17 := H.h17 rfl
                  have HU := Lib.hid P13
                  refine wpOp_step ho (fun K' hK => ?_)
                  have HK := Lib.hid hK
                  clear hK ho
                  go_simp
                  exact HK.out _ _ ⟨_, _, _, _, _, _, _, _, _, _, _, _, _, _, _, _, _, _, _, _, _, _, _, _, _, _, _, _, _, _, _, _, _, _, _, _, ux16, _, _, _, rfl, rfl, ⟨hbe, H.d4, H.d5, H.d6, H.d7, H.d8, H.d9, H.d10, H.d11, H.d12, H.d13, H.d14, H.d16, H.d17, (fun _ => ⟨rfl, rfl, rfl, rfl, rfl, rfl, rfl, rfl, rfl, rfl, rfl, rfl, rfl, rfl, rfl, rfl, rfl⟩), (fun h => by cases h), H.t5, H.t6, H.h0, H.h1, H.h2, H.h3, H.h4, H.h5, H.h6, H.h7, (fun _ h => by cases h), H.h9, H.h10, H.h11, H.h12, H.h13, H.h14, (fun _ h => by cases h), H.h16, H.h17, (fun _ => HU.out), H.h19⟩⟩
                · have ho := hoj
                  simp only [List.getElem?_toArray, List.getElem?_cons_succ, List.getElem?_cons_zero, Option.some.injEq] at hoj
                  subst hoj
                  obtain rfl : ub19 = false := hun
                  obtain rfl : ub0 = true := hall ⟨0, .phase⟩ (by simp) (by kernel_rfl)
                  obtain rfl : ub1 = true := hall ⟨1, .phase⟩ (by simp) (by kernel_rfl)
                  obtain rfl : ub2 = true := hall ⟨2, .phase⟩ (by simp) (by kernel_rfl)
                  obtain rfl : ub3 = true := hall ⟨3, .phase⟩ (by simp) (by kernel_rfl)
                  obtain rfl : ub4 = true := hall ⟨4, .phase⟩ (by simp) (by kernel_rfl)
                  obtain rfl : ub5 = true := hall ⟨5, .phase⟩ (by simp) (by kernel_rfl)
                  obtain rfl : ub6 = true := hall ⟨6, .phase⟩ (by simp) (by kernel_rfl)
                  obtain rfl : ub7 = true := hall ⟨7, .phase⟩ (by simp) (by kernel_rfl)
                  obtain rfl : ub8 = true := hall ⟨8, .phase⟩ (by simp) (by kernel_rfl)
                  obtain rfl : ub9 = true := hall ⟨9, .phase⟩ (by simp) (by kernel_rfl)
                  obtain rfl : ub10 = true := hall ⟨10, .phase⟩ (by simp) (by kernel_rfl)
                  obtain rfl : ub11 = true := hall ⟨11, .phase⟩ (by simp) (by kernel_rfl)
                  obtain rfl : ub12 = true := hall ⟨12, .phase⟩ (by simp) (by kernel_rfl)
                  obtain rfl : ub13 = true := hall ⟨13, .phase⟩ (by simp) (by kernel_rfl)
                  obtain rfl : ub14 = true := hall ⟨14, .data⟩ (by simp) (by kernel_rfl)
                  obtain rfl : ub15 = true := hall ⟨15, .phase⟩ (by simp) (by kernel_rfl)
                  obtain rfl : ub16 = true := hall ⟨16, .phase⟩ (by simp) (by kernel_rfl)
                  obtain rfl : ub17 = true := hall ⟨17, .phase⟩ (by simp) (by kernel_rfl)
                  obtain rfl : ub18 = true := hall ⟨18, .chain⟩ (by simp) (by kernel_rfl)
                  clear hall
                  have hbe := H.be
                  have hx_t5 := H.t5
                  have hx_t6 := H.t6
                  obtain rfl := H.h0 rfl
                  obtain rfl := H.h1 rfl
                  obtain rfl := H.h2 rfl
                  obtain rfl := H.h3 rfl
                  obtain rfl := H.h4 rfl
                  obtain rfl := H.h5 rfl
                  obtain rfl := H.h6 rfl
                  obtain rfl := H.h7 rfl
                  have P9 := H.h9 rfl
                  have P10 := H.h10 rfl
                  have P11 := H.h11 rfl
                  have P12 := H.h12 rfl
                  have P13 := H.h13 rfl
                  obtain rfl := H.h14 rfl
                  have P16 := H.h16 rfl
                  have P17 := H.h17 rfl
                  have P18 := H.h18 rfl
                  refine wpOp_step ho (fun K' hK => ?_)
                  have HK := Lib.hid hK
                  clear hK ho
                  go_simp
                  exact HK.out _ _ ⟨_, _, _, _, _, _, _, _, _, _, _, _, _, _, _, _, _, _, _, _, _, _, _, _, _, _, _, _, _, _, _, _, _, _, _, _, ux16, _, _, _, rfl, rfl, ⟨hbe, H.d4, H.d5, H.d6, H.d7, H.d8, H.d9, H.d10, H.d11, H.d12, H.d13, H.d14, H.d16, H.d17, H.d18, (fun _ => ⟨rfl, rfl, rfl, rfl, rfl, rfl, rfl, rfl, rfl, rfl, rfl, rfl, rfl, rfl, rfl, rfl, rfl, rfl, rfl⟩), H.t5, H.t6, H.h0, H.h1, H.h2, H.h3, H.h4, H.h5, H.h6, H.h7, (fun _ h => by cases h), H.h9, H.h10, H.h11, H.h12, H.h13, H.h14, (fun _ h => by cases h), H.h16, H.h17, H.h18, (fun _ => rfl)⟩⟩
                · have ho := hoj
                  simp at ho
              case hfin =>
                rintro listed a w ⟨ub0, ub1, ub2, ub3, ub4, ub5, ub6, ub7, ub8, ub9, ub10, ub11, ub12, ub13, ub14, ub15, ub16, ub17, ub18, ub19, ux0, ux1, ux2, ux3, ux4, ux5, ux6, ux7, ux8, ux9, ux10, ux11, ux12, ux13, ux14, ux15, ux16, ux17, ux18, ux19, rfl, rfl, H⟩ hr
                have hb : ub19 = true := by
                  clear H
                  obtain rfl : ub0 = true := by
                    cases ub0
                    · exact absurd hr (ready_neC (by kernel_rfl))
                    · rfl
                  obtain rfl : ub1 = true := by
                    cases ub1
                    · exact absurd hr (ready_neC (by kernel_rfl))
                    · rfl
                  obtain rfl : ub2 = true := by
                    cases ub2
                    · exact absurd hr (ready_neC (by kernel_rfl))
                    · rfl
                  obtain rfl : ub3 = true := by
                    cases ub3
                    · exact absurd hr (ready_neC (by kernel_rfl))
                    · rfl
                  obtain rfl : ub4 = true := by
                    cases ub4
                    · exact absurd hr (ready_neC (by kernel_rfl))
                    · rfl
                  obtain rfl : ub5 = true := by
                    cases ub5
                    · exact absurd hr (ready_neC (by kernel_rfl))
                    · rfl
                  obtain rfl : ub6 = true := by
                    cases ub6
                    · exact absurd hr (ready_neC (by kernel_rfl))
                    · rfl
                  obtain rfl : ub7 = true := by
                    cases ub7
                    · exact absurd hr (ready_neC (by kernel_rfl))
                    · rfl
                  obtain rfl : ub8 = true := by
                    cases ub8
                    · exact absurd hr (ready_neC (by kernel_rfl))
                    · rfl
                  obtain rfl : ub9 = true := by
                    cases ub9
                    · exact absurd hr (ready_neC (by kernel_rfl))
                    · rfl
                  obtain rfl : ub10 = true := by
                    cases ub10
                    · exact absurd hr (ready_neC (by kernel_rfl))
                    · rfl
                  obtain rfl : ub11 = true := by
                    cases ub11
                    · exact absurd hr (ready_neC (by kernel_rfl))
                    · rfl
                  obtain rfl : ub12 = true := by
                    cases ub12
                    · exact absurd hr (ready_neC (by kernel_rfl))
                    · rfl
                  obtain rfl : ub13 = true := by
                    cases ub13
                    · exact absurd hr (ready_neC (by kernel_rfl))
                    · rfl
                  obtain rfl : ub14 = true := by
                    cases ub14
                    · exact absurd hr (ready_neC (by kernel_rfl))
                    · rfl
                  obtain rfl : ub15 = true := by
                    cases ub15
                    · exact absurd hr (ready_neC (by kernel_rfl))
                    · rfl
                  obtain rfl : ub16 = true := by
                    cases ub16
                    · exact absurd hr (ready_neC (by kernel_rfl))
                    · rfl
                  obtain rfl : ub17 = true := by
                    cases ub17
                    · exact absurd hr (ready_neC (by kernel_rfl))
                    · rfl
                  obtain rfl : ub18 = true := by
                    cases ub18
                    · exact absurd hr (ready_neC (by kernel_rfl))
                    · rfl
                  obtain rfl : ub19 = true := by
                    cases ub19
                    · exact absurd hr (ready_neC (by kernel_rfl))
                    · rfl
                  rfl
                subst hb
                clear hr
                obtain rfl : ub0 = true := (H.d19 rfl).1
                obtain rfl : ub1 = true := (H.d19 rfl).2.1
                obtain rfl : ub2 = true := (H.d19 rfl).2.2.1
                obtain rfl : ub3 = true := (H.d19 rfl).2.2.2.1
                obtain rfl : ub4 = true := (H.d19 rfl).2.2.2.2.1
                obtain rfl : ub5 = true := (H.d19 rfl).2.2.2.2.2.1
                obtain rfl : ub6 = true := (H.d19 rfl).2.2.2.2.2.2.1
                obtain rfl : ub7 = true := (H.d19 rfl).2.2.2.2.2.2.2.1
                obtain rfl : ub8 = true := (H.d19 rfl).2.2.2.2.2.2.2.2.1
                obtain rfl : ub9 = true := (H.d19 rfl).2.2.2.2.2.2.2.2.2.1
                obtain rfl : ub10 = true := (H.d19 rfl).2.2.2.2.2.2.2.2.2.2.1
                obtain rfl : ub11 = true := (H.d19 rfl).2.2.2.2.2.2.2.2.2.2.2.1
                obtain rfl : ub12 = true := (H.d19 rfl).2.2.2.2.2.2.2.2.2.2.2.2.1
                obtain rfl : ub13 = true := (H.d19 rfl).2.2.2.2.2.2.2.2.2.2.2.2.2.1
                obtain rfl : ub14 = true := (H.d19 rfl).2.2.2.2.2.2.2.2.2.2.2.2.2.2.1
                obtain rfl : ub15 = true := (H.d19 rfl).2.2.2.2.2.2.2.2.2.2.2.2.2.2.2.1
                obtain rfl : ub16 = true := (H.d19 rfl).2.2.2.2.2.2.2.2.2.2.2.2.2.2.2.2.1
                obtain rfl : ub17 = true := (H.d19 rfl).2.2.2.2.2.2.2.2.2.2.2.2.2.2.2.2.2.1
                obtain rfl : ub18 = true := (H.d19 rfl).2.2.2.2.2.2.2.2.2.2.2.2.2.2.2.2.2.2
                have hnw := Lib.hid (H.h16 rfl)
                have hl0 := Lib.hid (PldS.toU (H.h17 rfl))
                have hl1 := Lib.hid (PldS.toU (H.h18 rfl))
                have e2 := H.h19 rfl
                clear H
                obtain ⟨Y, hY⟩ : ∃ Y, Y = w := ⟨_, rfl⟩
                subst w
                obtain ⟨MV, Ba, Bh, Bk, da, dh, dk, rfl, hn0, hn1, hn2, hnb⟩ := hnw.out.ex
                have N7 := Lib.hid hn1
                have NV7 := Lib.hid hn2
                have NX7 := Lib.hid hn0
                have B7 := Lib.hid hnb
                clear hnw hn0 hn1 hn2 hnb
                subst e2
                have G7 := Lib.hid (GX.out.on B7.out)
                have HMX2 := Lib.hid (GX.out.mlt)
                have HMX := Lib.hid (show M + 1 ≤ X.heap.size from GX.out.mlt)
                by_cases hec : ec = 0
                · have hs0 : (ackSp s [(lo0, lo0 + a)]).2.2.2 = 0 := by rw [HEQ.out]; exact hec
                  obtain ⟨on1, nd, ev, nx⟩ := ON.out.acked hs0
                  have nf1 := NF.out.acked [(lo0, lo0 + a)]
                  rw [HEQ.out] at on1 nd ev nx nf1
                  dsimp only at on1 nd ev nx nf1
                  have ON1 := Lib.hid on1
                  have NF1 := Lib.hid nf1
                  have NX1 := Lib.hid nx
                  have HND := Lib.hid nd
                  have HE1 := Lib.hid ev
                  have HPN := Lib.hid (show ∀ m ∈ nums (hl ++ ll), i64N m from fun m hm => on_num ON.out (ev m hm))
                  subst hec
                  clear on1 nd ev nx nf1 hs0
                  obtain ⟨y0, y1, y2, y3, y4⟩ := sp5 N7.out
                  obtain ⟨q0, q1, q2, q3, q4⟩ := sp5 G7.out.x
                  have qf := fun i => bk_frz G7.out.x i
                  obtain ⟨fx, gx⟩ := sp5_put G7.out.x (.int .i64 s'.next) (.slice Ba s'.sent.length da) (.int .i64 s'.top) (.slice Bh s'.heard.length dh) (.slice Bk s'.skip.length dk)
                  obtain ⟨Z8, hZ8⟩ : ∃ x, (((((Y.setCell ⟨V, 0, none⟩ (.int .i64 s'.next)).setCell ⟨V, 1, none⟩ (.slice Ba s'.sent.length da)).setCell ⟨V, 2, none⟩ (.int .i64 s'.top)).setCell ⟨V, 3, none⟩ (.slice Bh s'.heard.length dh)).setCell ⟨V, 4, none⟩ (.slice Bk s'.skip.length dk)) = x := ⟨_, rfl⟩
                  rw [hZ8] at fx gx
                  have G8 := Lib.hid (G7.out.put gx fx (SpU.low NV7.out HMX.out) HKV.out HVM.out HWV.out)
                  have RH := Lib.hid (PlU.on hl0.out (KpS.gr gx (show V < X.heap.size by have := HVM.out; have := HMX2.out; omega)))
                  have RM := Lib.hid (PlU.on hl1.out (KpS.gr gx (show V < X.heap.size by have := HVM.out; have := HMX2.out; omega)))
                  clear hl0 hl1
                  obtain ⟨nh, hnh⟩ : ∃ n, hl.length = n := ⟨_, rfl⟩
                  obtain ⟨nm, hnm⟩ : ∃ n, ll.length = n := ⟨_, rfl⟩
                  obtain ⟨AH, cH, csH, rfl, hhc, hhm, rowH, allH⟩ := RH.out.now.ex
                  obtain ⟨AM, cM, csM, rfl, hmc, hmm, rowM, allM⟩ := RM.out.now.ex
                  have lenH := allH.len
                  have lenM := allM.len
                  rw [hnh] at hhc hlens RH lenH ⊢
                  rw [hnm] at hmc hlens RM lenM ⊢
                  have hZX : X.heap.size ≤ Z8.heap.size := Nat.le_trans B7.out.size gx.size
                  go_upto_region 35 with fail
                  clear y0 y1 y2 y3 y4 q0 q1 q2 q3 q4 qf fx gx
                  try rw [hZ8]
                  clear hZ8
                  obtain ⟨qk, hqk⟩ : ∃ q, q = gk := ⟨_, rfl⟩
                  subst hqk
                  have E0 := Lib.hid (OwnE.empty (E := pc4) Z8 Z8.heap.size 54 Z8.heap.size rfl (Nat.le_refl _))
                  have BE := Lib.hid ((Below.refl Z8.heap.size Z8).alloc (Nat.le_refl _) (.cells #[] 54))
                  have WH := Lib.hid (All2.imp (fun _ _ q => PcC.toW q) allH)
                  have WM := Lib.hid (All2.imp (fun _ _ q => PcC.toW q) allM)
                  have RHR := Lib.hid rowH
                  have RMR := Lib.hid rowM
                  have HLH := Lib.hid lenH
                  have HLM := Lib.hid lenM
                  have HLS := Lib.hid hlens
                  have HL1 := Lib.hid hnh
                  have HL2 := Lib.hid hnm
                  clear allH allM rowH rowM RH RM lenH lenM hlens hnh hnm
                  go_upto_region 36 with (at_builtin; first
                    | (refine wpList_appE3 _ rfl (.tmp 126) (.tmp 127) _ rfl Z8.heap.size 54 i0 _ 48 Try.underlying45 HI.out HZ.out HZ1.out HZ2.out rfl (by decide) _ [] rfl E0.out _ AH nh cH csH rfl (RHR.out.below BE.out) (by rw [HLH.out]) (by have := HLS.out; simp only [List.length_nil]; omega) (by simp) ?_; intro v1 wA own1 gr1 nb1; have O1 := Lib.hid own1; have BA := Lib.hid (BE.out.grown gr1 (by simp) (fun k hk => by cases hk; exact Nat.le_refl _)); clear own1 gr1 nb1)
                    | (refine wpList_appE3 _ rfl (.tmp 128) (.tmp 129) _ rfl Z8.heap.size 54 i0 _ 48 Try.underlying45 HI.out HZ.out HZ1.out HZ2.out rfl (by decide) _ ([] ++ csH) rfl O1.out _ AM nm cM csM rfl (RMR.out.below BA.out) (by rw [HLM.out]) (by have := HLS.out; have := HLH.out; rw [List.nil_append]; omega) BA.out.size ?_; intro v2 wB own2 gr2 nb2; have O2 := Lib.hid own2; have BB := Lib.hid (BA.out.grown gr2 BA.out.size (fun k hk => (O1.out.lt k hk).1)); clear own2 gr2 nb2; obtain ⟨AL, cL, hv2, hlc2, hlm2, hrr2⟩ := O2.out.slice; obtain ⟨nl, hnl⟩ : ∃ n, ([] ++ csH ++ csM).length = n := ⟨_, rfl⟩; rw [hnl] at hv2 hlc2; subst hv2; have HNLL := Lib.hid hnl; clear hnl hrr2))
                  have hnl := HNLL.out
                  have hnl2 : nh + nm = nl := by rw [← hnl, List.length_append, List.length_append, HLH.out, HLM.out]; simp
                  have HNL := Lib.hid (show (hl ++ ll).length = nl by rw [List.length_append, HL1.out, HL2.out]; exact hnl2)
                  have RL := Lib.hid (show PlWU X.heap.size _ (.slice AL nl cL) (hl ++ ll) from by
                    exact plw_own O2.out hZX (by rw [List.nil_append]; exact All2.app WH.out WM.out))
                  have hln : nl ≤ 48 := by have := HLS.out; omega
                  have G9 := Lib.hid (G8.out.on BB.out)
                  unfold maxLen at hlm2
                  clear hnl hnl2 HNLL BE BA O1 E0 WH WM RHR RMR HLH HLM HLS HL1 HL2
                  have hG8 := G8
                  clear G8 hG8
                  have G8 := G9
                  clear G9
                  go_loopg [132] nl (fun gq iv wx => ∃ (i : Nat), iv = .int .i64 (i : Int) ∧ i + gq = nl ∧ Hid (PlWU X.heap.size wx (.slice AL nl cL) (hl ++ ll)) ∧ Hid (SpdK W K0 V M (n0 + i) s' (bumpE E ((nums (hl ++ ll)).take i)) Ba Bh Bk da dh dk wx))
                  case atStart => exact ⟨0, rfl, by omega, RL, Lib.hid (G8.out.same (fun x => (bumpE_nil E x).symm))⟩
                  case round =>
                    obtain ⟨i, rfl, hig, RI, GI⟩ := hrel
                    obtain ⟨XI, hXI⟩ : ∃ X, X = wr := ⟨_, rfl⟩
                    subst hXI
                    by_cases hi : i < nl
                    · have hiN : (i : Int) < (nl : Int) := by omega
                      obtain ⟨bL, oL, AF, nF, cF, hAL, hbL, x0, x1, x2, x3⟩ := pl_at (StS.now RI.out) i (by rw [HNL.out]; omega)
                      subst hAL
                      have hin : i < (nums (hl ++ ll)).length := by unfold nums; rw [List.length_map, HNL.out]; omega
                      obtain ⟨p, hp⟩ : ∃ p, ((hl ++ ll))[i]'(by rw [HNL.out]; omega) = p := ⟨_, rfl⟩
                      rw [hp] at x0 x1 x2
                      have hpn : (nums (hl ++ ll))[i] = p.num := by rw [nums_at _ i hin (by rw [HNL.out]; omega), hp]
                      obtain ⟨hb1, hb2⟩ := bumpE_step HND.out i hin (HE1.out _ (List.getElem_mem hin))
                      rw [hpn] at hb1 hb2
                      have HB2 := Lib.hid hb2
                      have hpb : i64N p.num := HPN.out _ (hpn ▸ List.getElem_mem hin)
                      have hwf : (Lit.int .i64 p.num).wf = true := i64_wf hpb
                      have BP := (Below.refl XI.heap.size XI).alloc (Nat.le_refl _) (.cells #[.int .i64 p.num, .int .i64 p.time, .int .i64 p.size, .slice AF nF cF] 54)
                      have NP := Lib.hid (heap_alloc_new XI (.cells #[.int .i64 p.num, .int .i64 p.time, .int .i64 p.size, .slice AF nF cF] 54))
                      have GP := Lib.hid (GI.out.on BP)
                      have RP := Lib.hid (show PlWU X.heap.size _ _ _ from StS.on RI.out (KpS.below BP))
                      clear hp hpn hb2 BP
                      go_upto_region 38 with fail
                      clear x0 x1 x2 x3
                      obtain ⟨XP, hXP⟩ : ∃ X, XI.alloc (.cells #[.int .i64 p.num, .int .i64 p.time, .int .i64 p.size, .slice AF nF cF] 54) = X := ⟨_, rfl⟩
                      obtain ⟨PB, hPB⟩ : ∃ b, XI.heap.size = b := ⟨_, rfl⟩
                      rw [hXP] at NP GP RP
                      rw [hPB] at NP
                      try rw [hXP]
                      try rw [hPB]
                      clear hXP hPB
                      obtain ⟨D, OO, MM⟩ := GP.out.m
                      have hlook := lookI OO MM hb1 hwf
                      have HOO := Lib.hid OO
                      have HMM := Lib.hid MM
                      clear OO MM hb1
                      obtain ⟨z0, z1, z2, z3⟩ := bk4R NP.out
                      go_wp2_with (at_mapUpdate; refine wpList_mapUpdate_own _ rfl _ _ _ 49 rfl 3 3 (Maps.int_keyed Try.underlying3) Try.underlying49 _ M (n0 + i) D rfl HOO.out (by unfold maxLen; omega) _ _ (kyI p.num) rfl rfl (Maps.keyOf_int_mk Try.underlying3 hwf) _ _ (plainElem_int Try.underlying3 (by decide)) ?_; intro WU hou hgu; have OU := Lib.hid hou; have GU := Lib.hid hgu; clear hou hgu)
                      have GN := Lib.hid (GP.out.store GU.out OU.out ((HMM.out.put p.num 2).congr HB2.out) HKV.out HVM.out HWV.out)
                      have RN := Lib.hid (show PlWU X.heap.size _ _ _ from StS.on RP.out (KpS.gr GU.out (HMX2.out)))
                      clear z0 z1 z2 z3
                      go_roundg (gk - 1)
                      case measure => omega
                      case rel => exact ⟨i + 1, by first | rfl | go_num, by omega, RN, GN⟩
                    · obtain rfl : i = nl := by omega
                      have GE := Lib.hid (GI.out.same (fun x => by rw [List.take_of_length_le (by unfold nums; rw [List.length_map, HNL.out]; omega)]))
                      go_upto_region 40 with fail
                      go_wp2_with fail
                      go_roundg (qk - 1)
                      case measure => omega
                      case rel => exact ⟨kk + 1, T, s', _, n0 + i, Ba, Bh, Bk, da, dh, dk, by first | rfl | (rw [HTT.out]) | go_num, by first | rfl | go_num, by omega, t0, by omega, by have := NX1.out; omega, by omega, ON1, NF1, GE⟩
                · have gec : (ec == 0) = false := by simp [hec]
                  clear hec
                  go_wp2_with fail
                  go_roundg (gk - 1)
                  case measure => omega
                  case rel => exact ⟨kk + 1, T, s, _, n0, Aa, Ah, Ak, ca, ch, ck, by first | rfl | (rw [HTT.out]) | go_num, by first | rfl | go_num, by omega, t0, by omega, by omega, by omega, ON, NF, G7⟩
          · have gK4 : (K == 4) = false := by simp [hK4]
            clear hK3 hK4 hK1
            as_aux_lemma =>
              obtain ⟨a, ha⟩ : ∃ a, ra % 9 = a := ⟨_, rfl⟩
              have a0 : 0 ≤ a := by omega
              have a1 : a < 9 := by omega
              have HPA := Lib.hid (fun w => ha ▸ picked_any ra 9 (by decide) (by decide) w)
              have HWA := Lib.hid (show IntKind.i64.wrap (5 + a) = 5 + a by rw [IntKind.wrap_i64]; omega)
              obtain ⟨ov0, on1, nd, ev, nx⟩ := ON.out.over (now := T) (age := 5 + a) t0 (by omega) (by omega) (by omega)
              have nf1 := NF.out.over T (5 + a)
              have hln := over_lens ON.out.ok T (5 + a)
              obtain ⟨⟨s', lo, ec⟩, hq⟩ : ∃ r, overSp s T (5 + a) = r := ⟨_, rfl⟩
              rw [hq] at ov0 on1 nd ev nx nf1 hln
              dsimp only at ov0 on1 nd ev nx nf1 hln
              subst ov0
              have HEQ := Lib.hid hq
              have ON1 := Lib.hid on1
              have NF1 := Lib.hid nf1
              have NX1 := Lib.hid nx
              have HND := Lib.hid nd
              have HE1 := Lib.hid ev
              have HPN := Lib.hid (show ∀ m ∈ nums lo, i64N m from fun m hm => on_num ON.out (ev m hm))
              clear ha hq on1 nd ev nx nf1
              go_upto_region 9 with fail
              refine wp_region_inv (fun lis_ act_ wld_ => ∃ (tb0 tb1 tb2 tb3 tb4 tb5 tb6 tb7 tb8 tb9 tb10 tb11 tb12 tb13 tb14 : Bool) (tx0 tx1 tx2 tx3 tx4 tx5 tx6 tx7 tx8 tx9 tx10 tx11 tx12 tx13 tx14 : Value), lis_ = #[tb0, tb1, tb2, tb3, tb4, tb5, tb6, tb7, tb8, tb9, tb10, tb11, tb12, tb13, tb14] ∧ act_ = { tmps := #[Value.slice (some { block := b, off := off }) len cap, undef, Value.pointer (some { block := K0, off := 0 }), u3, u4, Value.pointer (some { block := V, off := 0 }), Value.map (some M), Value.int IntKind.i64 T, undef, Value.pointer (some { block := R, off := 0 }), u10, u11, u12, u13, u14, u15, u16, u17, u18, u19, undef, u21, tx11, tx13, tx14, undef, u26, Value.agg #[Value.int IntKind.i64 0, Value.slice none 0 0, Value.int IntKind.i64 (-1), Value.slice none 0 0, Value.slice none 0 0], Value.map (some M), Value.slice (some { block := b, off := off }) len cap, Value.slice (some { block := b, off := off }) N cap, Value.int IntKind.i64 ↑N, Value.int IntKind.i64 ↑kk, Value.bool true, Value.pointer (some { block := b, off := off + kk * 4 }), Value.agg #[Value.int IntKind.i64 kd, Value.int IntKind.i64 ra, Value.int IntKind.i64 rb, Value.string rt], Value.int IntKind.i64 now, Value.pointer (some { block := R, off := 2 }), Value.int IntKind.i64 rb, Value.int IntKind.i64 T3, Value.int IntKind.i64 T, Value.pointer (some { block := R, off := 0 }), Value.int IntKind.i64 kd, Value.int IntKind.i64 K, tx7, tx0, tx1, tx2, tx3, tx4, tx5, tx6, tx8, tx9, tx10, u55, u56, u57, u58, u59, u60, u61, u62, u63, u64, u65, u66, u67, u68, u69, u70, u71, Value.bool false, Value.bool false, Value.bool false, Value.bool false, u76, u77, u78, u79, u80, u81, u82, u83, u84, u85, u86, u87, u88, u89, u90, Value.bool false, Value.bool false, u93, u94, u95, u96, u97, u98, u99, u100, u101, u102, Value.bool false, Value.bool false, u105, u106, u107, u108, u109, u110, u111, u112, u113, u114, u115, u116, u117, u118, u119, u120, u121, u122, u123, u124, u125, u126, u127, u128, u129, u130, u131, u132, u133, u134, u135, u136, u137, u138, u139, u140, u141, u142, undef, undef], defers := [] } ∧ SdO X Aa Ah Ak ca ch ck s s' R T ra a lo (.agg #[.int .i64 s.next, .slice Aa s.sent.length ca, .int .i64 s.top, .slice Ah s.heard.length ch, .slice Ak s.skip.length ck]) (.int .i64 T) (.pointer (some ⟨R, 1, none⟩)) (.int .i64 ra) (.int .i64 a) (.int .i64 (5 + a)) (.int .i64 0) (.int .i64 0) tb0 tb1 tb2 tb3 tb4 tb5 tb6 tb7 tb8 tb9 tb10 tb11 tb12 tb13 tb14 tx0 tx1 tx2 tx3 tx4 tx5 tx6 tx7 tx8 tx9 tx10 tx11 tx12 tx13 tx14 wld_) (by kernel_rfl) ?h0 ?hfin ?hI
              case h0 => exact ⟨_, _, _, _, _, _, _, _, _, _, _, _, _, _, _, _, _, _, _, _, _, _, _, _, _, _, _, undef, _, _, rfl, rfl, ⟨(Below.refl _ _).drew, (fun h => by cases h), (fun h => by cases h), (fun h => by cases h), (fun h => by cases h), (fun h => by cases h), (fun h => by cases h), (fun h => by cases h), (fun h => by cases h), (fun h => by cases h), (fun h => by cases h), (fun h => by cases h), (fun h => by cases h), (fun h => by cases h), (fun h => by cases h), (fun h => by cases h), (fun h => by cases h), (fun h => by cases h), (fun h => by cases h), (fun h => by cases h), (fun h => by cases h), (fun h => by cases h), (fun h => by cases h), (fun h => by cases h), (fun h => by cases h), (fun h => by cases h), (fun h => by cases h), (fun h => by cases h), (fun h => by cases h)⟩⟩
              case hI =>
                rintro listed a w ⟨tb0, tb1, tb2, tb3, tb4, tb5, tb6, tb7, tb8, tb9, tb10, tb11, tb12, tb13, tb14, tx0, tx1, tx2, tx3, tx4, tx5, tx6, tx7, tx8, tx9, tx10, tx11, tx12, tx13, tx14, rfl, rfl, H⟩ i hi
                obtain ⟨hun, oj, hoj, hall⟩ := mem_ready.1 hi
                clear hi
                rcases i with _ | _ | _ | _ | _ | _ | _ | _ | _ | _ | _ | _ | _ | _ | _ | i
                · have ho := hoj
                  simp only [List.getElem?_toArray, List.getElem?_cons_zero, Option.some.injEq] at hoj
                  subst hoj
                  obtain rfl : tb0 = false := hun
                  clear hall
                  obtain rfl : tb6 = false := Bool.eq_false_iff.2 fun h => Bool.false_ne_true (H.d6 h).1
                  obtain rfl : tb7 = false := Bool.eq_false_iff.2 fun h => Bool.false_ne_true (H.d7 h)
                  obtain rfl : tb8 = false := Bool.eq_false_iff.2 fun h => Bool.false_ne_true (H.d8 h)
                  obtain rfl : tb9 = false := Bool.eq_false_iff.2 fun h => Bool.false_ne_true (H.d9 h)
                  obtain rfl : tb10 = false := Bool.eq_false_iff.2 fun h => Bool.false_ne_true (H.d10 h)
                  obtain rfl : tb12 = false := Bool.eq_false_iff.2 fun h => Bool.false_ne_true (H.d12 h).1
                  obtain rfl : tb13 = false := Bool.eq_false_iff.2 fun h => Bool.false_ne_true (H.d13 h).1
                  obtain rfl : tb14 = false := Bool.eq_false_iff.2 fun h => Bool.false_ne_true (H.d14 h).1
                  have hbe := H.be
                  have hx_t5 := H.t5
                  have hx_t6 := H.t6
                  obtain ⟨q0, q1, q2, q3, q4⟩ := sp5 ((hbe.block _ (lt_of_block GX.out.x)).trans GX.out.x)
                  refine wpOp_step ho (fun K' hK => ?_)
                  have HK := Lib.hid hK
                  clear hK ho
                  go_simp
                  exact HK.out _ _ ⟨_, _, _, _, _, _, _, _, _, _, _, _, _, _, _, _, _, _, _, _, _, _, _, _, _, _, _, tx12, _, _, rfl, rfl, ⟨hbe, H.d3, H.d4, H.d5, (fun h => by cases h), H.d7, H.d8, H.d9, H.d10, (fun h => by cases h), (fun h => by cases h), (fun h => by cases h), H.t5, H.t6, (fun _ => rfl), H.h1, H.h2, H.h3, H.h4, H.h5, (fun h => by cases h), (fun h => by cases h), (fun h => by cases h), (fun h => by cases h), H.h10, H.h11, (fun h => by cases h), (fun h => by cases h), H.h14⟩⟩
                · have ho := hoj
                  simp only [List.getElem?_toArray, List.getElem?_cons_succ, List.getElem?_cons_zero, Option.some.injEq] at hoj
                  subst hoj
                  obtain rfl : tb1 = false := hun
                  clear hall
                  obtain rfl : tb6 = false := Bool.eq_false_iff.2 fun h => Bool.false_ne_true (H.d6 h).2.1
                  obtain rfl : tb7 = false := Bool.eq_false_iff.2 fun h => Bool.false_ne_true (H.d7 h)
                  obtain rfl : tb8 = false := Bool.eq_false_iff.2 fun h => Bool.false_ne_true (H.d8 h)
                  obtain rfl : tb9 = false := Bool.eq_false_iff.2 fun h => Bool.false_ne_true (H.d9 h)
                  obtain rfl : tb10 = false := Bool.eq_false_iff.2 fun h => Bool.false_ne_true (H.d10 h)
                  obtain rfl : tb12 = false := Bool.eq_false_iff.2 fun h => Bool.false_ne_true (H.d12 h).2.1
                  obtain rfl : tb13 = false := Bool.eq_false_iff.2 fun h => Bool.false_ne_true (H.d13 h).2.1
                  obtain rfl : tb14 = false := Bool.eq_false_iff.2 fun h => Bool.false_ne_true (H.d14 h).2.1
                  have hbe := H.be
                  have hx_t5 := H.t5
                  have hx_t6 := H.t6
                  refine wpOp_step ho (fun K' hK => ?_)
                  have HK := Lib.hid hK
                  clear hK ho
                  go_simp
                  exact HK.out _ _ ⟨_, _, _, _, _, _, _, _, _, _, _, _, _, _, _, _, _, _, _, _, _, _, _, _, _, _, _, tx12, _, _, rfl, rfl, ⟨hbe, H.d3, H.d4, H.d5, (fun h => by cases h), H.d7, H.d8, H.d9, H.d10, (fun h => by cases h), (fun h => by cases h), (fun h => by cases h), H.t5, H.t6, H.h0, (fun _ => rfl), H.h2, H.h3, H.h4, H.h5, (fun h => by cases h), (fun h => by cases h), (fun h => by cases h), (fun h => by cases h), H.h10, H.h11, (fun h => by cases h), (fun h => by cases h), H.h14⟩⟩
                · have ho := hoj
                  simp only [List.getElem?_toArray, List.getElem?_cons_succ, List.getElem?_cons_zero, Option.some.injEq] at hoj
                  subst hoj
                  obtain rfl : tb2 = false := hun
                  clear hall
                  obtain rfl : tb3 = false := Bool.eq_false_iff.2 fun h => Bool.false_ne_true (H.d3 h)
                  obtain rfl : tb4 = false := Bool.eq_false_iff.2 fun h => Bool.false_ne_true (H.d4 h)
                  obtain rfl : tb5 = false := Bool.eq_false_iff.2 fun h => Bool.false_ne_true (H.d5 h)
                  obtain rfl : tb6 = false := Bool.eq_false_iff.2 fun h => Bool.false_ne_true (H.d6 h).2.2.1
                  obtain rfl : tb7 = false := Bool.eq_false_iff.2 fun h => Bool.false_ne_true (H.d7 h)
                  obtain rfl : tb8 = false := Bool.eq_false_iff.2 fun h => Bool.false_ne_true (H.d8 h)
                  obtain rfl : tb9 = false := Bool.eq_false_iff.2 fun h => Bool.false_ne_true (H.d9 h)
                  obtain rfl : tb10 = false := Bool.eq_false_iff.2 fun h => Bool.false_ne_true (H.d10 h)
                  obtain rfl : tb12 = false := Bool.eq_false_iff.2 fun h => Bool.false_ne_true (H.d12 h).2.2.1
                  obtain rfl : tb13 = false := Bool.eq_false_iff.2 fun h => Bool.false_ne_true (H.d13 h).2.2.1
                  obtain rfl : tb14 = false := Bool.eq_false_iff.2 fun h => Bool.false_ne_true (H.d14 h).2.2.1
                  have hbe := H.be
                  have hx_t5 := H.t5
                  have hx_t6 := H.t6
                  refine wpOp_step ho (fun K' hK => ?_)
                  have HK := Lib.hid hK
                  clear hK ho
                  go_simp
                  exact HK.out _ _ ⟨_, _, _, _, _, _, _, _, _, _, _, _, _, _, _, _, _, _, _, _, _, _, _, _, _, _, _, tx12, _, _, rfl, rfl, ⟨hbe, (fun h => by cases h), H.d4, H.d5, H.d6, H.d7, H.d8, H.d9, H.d10, (fun h => by cases h), (fun h => by cases h), (fun h => by cases h), H.t5, H.t6, H.h0, H.h1, (fun _ => rfl), H.h3, H.h4, H.h5, (fun h => by cases h), (fun h => by cases h), (fun h => by cases h), (fun h => by cases h), H.h10, H.h11, (fun h => by cases h), (fun h => by cases h), H.h14⟩⟩
                · have ho := hoj
                  simp only [List.getElem?_toArray, List.getElem?_cons_succ, List.getElem?_cons_zero, Option.some.injEq] at hoj
                  subst hoj
                  obtain rfl : tb3 = false := hun
                  obtain rfl : tb2 = true := hall ⟨2, .data⟩ (by simp) (by kernel_rfl)
                  clear hall
                  obtain rfl : tb4 = false := Bool.eq_false_iff.2 fun h => Bool.false_ne_true (H.d4 h)
                  obtain rfl : tb5 = false := Bool.eq_false_iff.2 fun h => Bool.false_ne_true (H.d5 h)
                  obtain rfl : tb6 = false := Bool.eq_false_iff.2 fun h => Bool.false_ne_true (H.d6 h).2.2.1
                  obtain rfl : tb7 = false := Bool.eq_false_iff.2 fun h => Bool.false_ne_true (H.d7 h)
                  obtain rfl : tb8 = false := Bool.eq_false_iff.2 fun h => Bool.false_ne_true (H.d8 h)
                  obtain rfl : tb9 = false := Bool.eq_false_iff.2 fun h => Bool.false_ne_true (H.d9 h)
                  obtain rfl : tb10 = false := Bool.eq_false_iff.2 fun h => Bool.false_ne_true (H.d10 h)
                  obtain rfl : tb12 = false := Bool.eq_false_iff.2 fun h => Bool.false_ne_true (H.d12 h).2.2.2.1
                  obtain rfl : tb13 = false := Bool.eq_false_iff.2 fun h => Bool.false_ne_true (H.d13 h).2.2.2.1
                  obtain rfl : tb14 = false := Bool.eq_false_iff.2 fun h => Bool.false_ne_true (H.d14 h).2.2.2.1
                  have hbe := H.be
                  have hx_t5 := H.t5
                  have hx_t6 := H.t6
                  obtain rfl := H.h2 rfl
                  obtain ⟨z0, z1, z2, z3⟩ := bk4R ((hbe.block _ (lt_of_block RX.out)).trans RX.out)
                  refine wpOp_step ho (fun K' hK => ?_)
                  have HK := Lib.hid hK
                  clear hK ho
                  go_simp
                  exact HK.out _ _ ⟨_, _, _, _, _, _, _, _, _, _, _, _, _, _, _, _, _, _, _, _, _, _, _, _, _, _, _, tx12, _, _, rfl, rfl, ⟨hbe, (fun _ => rfl), (fun h => by cases h), H.d5, H.d6, H.d7, H.d8, H.d9, H.d10, (fun h => by cases h), (fun h => by cases h), (fun h => by cases h), H.t5, H.t6, H.h0, H.h1, H.h2, (fun _ => rfl), H.h4, H.h5, (fun h => by cases h), (fun h => by cases h), (fun h => by cases h), (fun h => by cases h), H.h10, H.h11, (fun h => by cases h), (fun h => by cases h), H.h14⟩⟩
                · have ho := hoj
                  simp only [List.getElem?_toArray, List.getElem?_cons_succ, List.getElem?_cons_zero, Option.some.injEq] at hoj
                  subst hoj
                  obtain rfl : tb4 = false := hun
                  obtain rfl : tb3 = true := hall ⟨3, .data⟩ (by simp) (by kernel_rfl)
                  obtain rfl : tb2 = true := (H.d3 rfl)
                  clear hall
                  obtain rfl : tb5 = false := Bool.eq_false_iff.2 fun h => Bool.false_ne_true (H.d5 h)
                  obtain rfl : tb6 = false := Bool.eq_false_iff.2 fun h => Bool.false_ne_true (H.d6 h).2.2.1
                  obtain rfl : tb7 = false := Bool.eq_false_iff.2 fun h => Bool.false_ne_true (H.d7 h)
                  obtain rfl : tb8 = false := Bool.eq_false_iff.2 fun h => Bool.false_ne_true (H.d8 h)
                  obtain rfl : tb9 = false := Bool.eq_false_iff.2 fun h => Bool.false_ne_true (H.d9 h)
                  obtain rfl : tb10 = false := Bool.eq_false_iff.2 fun h => Bool.false_ne_true (H.d10 h)
                  obtain rfl : tb12 = false := Bool.eq_false_iff.2 fun h => Bool.false_ne_true (H.d12 h).2.2.2.2.1
                  obtain rfl : tb13 = false := Bool.eq_false_iff.2 fun h => Bool.false_ne_true (H.d13 h).2.2.2.2.1
                  obtain rfl : tb14 = false := Bool.eq_false_iff.2 fun h => Bool.false_ne_true (H.d14 h).2.2.2.2.1
                  have hbe := H.be
                  have hx_t5 := H.t5
                  have hx_t6 := H.t6
                  obtain rfl := H.h2 rfl
                  obtain rfl := H.h3 rfl
                  refine wpOp_step ho (fun K' hK => ?_)
                  have HK := Lib.hid hK
                  clear hK ho
                  go_wp2_with (go_at_call 11; refine (HPA.out _).mono ?_; rintro e w' ⟨rfl, rfl⟩)
                  exact HK.out _ _ ⟨_, _, _, _, _, _, _, _, _, _, _, _, _, _, _, _, _, _, _, _, _, _, _, _, _, _, _, tx12, _, _, rfl, rfl, ⟨hbe, H.d3, (fun _ => rfl), (fun h => by cases h), (fun h => by cases h), H.d7, H.d8, H.d9, H.d10, (fun h => by cases h), (fun h => by cases h), (fun h => by cases h), H.t5, H.t6, H.h0, H.h1, H.h2, H.h3, (fun _ => rfl), H.h5, (fun h => by cases h), (fun h => by cases h), (fun h => by cases h), (fun h => by cases h), H.h10, H.h11, (fun h => by cases h), (fun h => by cases h), H.h14⟩⟩
                · have ho := hoj
                  simp only [List.getElem?_toArray, List.getElem?_cons_succ, List.getElem?_cons_zero, Option.some.injEq] at hoj
                  subst hoj
                  obtain rfl : tb5 = false := hun
                  obtain rfl : tb4 = true := hall ⟨4, .data⟩ (by simp) (by kernel_rfl)
                  obtain rfl : tb3 = true := (H.d4 rfl)
                  obtain rfl : tb2 = true := (H.d3 rfl)
                  clear hall
                  obtain rfl : tb6 = false := Bool.eq_false_iff.2 fun h => Bool.false_ne_true (H.d6 h).2.2.2
                  obtain rfl : tb7 = false := Bool.eq_false_iff.2 fun h => Bool.false_ne_true (H.d7 h)
                  obtain rfl : tb8 = false := Bool.eq_false_iff.2 fun h => Bool.false_ne_true (H.d8 h)
                  obtain rfl : tb9 = false := Bool.eq_false_iff.2 fun h => Bool.false_ne_true (H.d9 h)
                  obtain rfl : tb10 = false := Bool.eq_false_iff.2 fun h => Bool.false_ne_true (H.d10 h)
                  obtain rfl : tb12 = false := Bool.eq_false_iff.2 fun h => Bool.false_ne_true (H.d12 h).2.2.2.2.2.1
                  obtain rfl : tb13 = false := Bool.eq_false_iff.2 fun h => Bool.false_ne_true (H.d13 h).2.2.2.2.2.1
                  obtain rfl : tb14 = false := Bool.eq_false_iff.2 fun h => Bool.false_ne_true (H.d14 h).2.2.2.2.2.1
                  have hbe := H.be
                  have hx_t5 := H.t5
                  have hx_t6 := H.t6
                  obtain rfl := H.h2 rfl
                  obtain rfl := H.h3 rfl
                  obtain rfl := H.h4 rfl
                  have hwa := HWA.out
                  refine wpOp_step ho (fun K' hK => ?_)
                  have HK := Lib.hid hK
                  clear hK ho
                  go_simp
                  exact HK.out _ _ ⟨_, _, _, _, _, _, _, _, _, _, _, _, _, _, _, _, _, _, _, _, _, _, _, _, _, _, _, tx12, _, _, rfl, rfl, ⟨hbe, H.d3, H.d4, (fun _ => rfl), (fun h => by cases h), H.d7, H.d8, H.d9, H.d10, (fun h => by cases h), (fun h => by cases h), (fun h => by cases h), H.t5, H.t6, H.h0, H.h1, H.h2, H.h3, H.h4, (fun _ => rfl), (fun h => by cases h), (fun h => by cases h), (fun h => by cases h), (fun h => by cases h), H.h10, H.h11, (fun h => by cases h), (fun h => by cases h), H.h14⟩⟩
                · have ho := hoj
                  simp only [List.getElem?_toArray, List.getElem?_cons_succ, List.getElem?_cons_zero, Option.some.injEq] at hoj
                  subst hoj
                  obtain rfl : tb6 = false := hun
                  obtain rfl : tb0 = true := hall ⟨0, .data⟩ (by simp) (by kernel_rfl)
                  obtain rfl : tb1 = true := hall ⟨1, .data⟩ (by simp) (by kernel_rfl)
                  obtain rfl : tb4 = true := hall ⟨4, .chain⟩ (by simp) (by kernel_rfl)
                  obtain rfl : tb5 = true := hall ⟨5, .data⟩ (by simp) (by kernel_rfl)
                  obtain rfl : tb3 = true := (H.d4 rfl)
                  obtain rfl : tb2 = true := (H.d3 rfl)
                  clear hall
                  obtain rfl : tb7 = false := Bool.eq_false_iff.2 fun h => Bool.false_ne_true (H.d7 h)
                  obtain rfl : tb8 = false := Bool.eq_false_iff.2 fun h => Bool.false_ne_true (H.d8 h)
                  obtain rfl : tb9 = false := Bool.eq_false_iff.2 fun h => Bool.false_ne_true (H.d9 h)
                  obtain rfl : tb10 = false := Bool.eq_false_iff.2 fun h => Bool.false_ne_true (H.d10 h)
                  obtain rfl : tb12 = false := Bool.eq_false_iff.2 fun h => Bool.false_ne_true (H.d12 h).2.2.2.2.2.2.1
                  obtain rfl : tb13 = false := Bool.eq_false_iff.2 fun h => Bool.false_ne_true (H.d13 h).2.2.2.2.2.2.1
                  obtain rfl : tb14 = false := Bool.eq_false_iff.2 fun h => Bool.false_ne_true (H.d14 h).2.2.2.2.2.2.1
                  have hbe := H.be
                  have hx_t5 := H.t5
                  have hx_t6 := H.t6
                  obtain rfl := H.h0 rfl
                  obtain rfl := H.h1 rfl
                  obtain rfl := H.h2 rfl
                  obtain rfl := H.h3 rfl
                  obtain rfl := H.h4 rfl
                  obtain rfl := H.h5 rfl
                  refine wpOp_step ho (fun K' hK => ?_)
                  have HK := Lib.hid hK
                  clear hK ho
                  go_wp2_with fail
                  refine (spOver_any _ s T (5 + a) w (StS.on GX.out.v (KpS.below hbe)).now HWF.out).mono ?_
                  rintro e w1 hr
                  have BC := Lib.hid hr.be
                  obtain ⟨u1, v1, rfl, hu1, hv1⟩ := hr.ex
                  rw [HEQ.out] at hu1 hv1 ⊢
                  have UC := Lib.hid (show TupO X tb11 tx11 w1 _ s' lo 0 from ⟨u1, v1, rfl, hu1.toX hbe.size (fun hb => let ⟨k, e1, _, e3⟩ := H.h11 hb rfl; ⟨k, e1, lt_of_block e3⟩), hv1.toX hbe.size (fun hb => let ⟨k, e1, _, e3⟩ := H.h11 hb rfl; ⟨k, e1, lt_of_block e3⟩)⟩)
                  clear hr hu1 hv1
                  go_wp2_with fail
                  exact HK.out _ _ ⟨_, _, _, _, _, _, _, _, _, _, _, _, _, _, _, _, _, _, _, _, _, _, _, _, _, _, _, tx12, _, _, rfl, rfl, ⟨hbe.trans (BC.out.mono hbe.size), H.d3, H.d4, H.d5, (fun _ => ⟨rfl, rfl, rfl, rfl⟩), (fun h => by cases h), H.d8, H.d9, H.d10, (fun h => by cases h), (fun h => by cases h), (fun h => by cases h), fun _ => ⟨_, _, rfl⟩, hx_t6, H.h0, H.h1, H.h2, H.h3, H.h4, H.h5, (fun _ => UC.out), (fun h => by cases h), (fun h => by cases h), (fun h => by cases h), H.h10, (fun e f => let ⟨k, e1, e2, e3⟩ := (H.h11 e f); ⟨k, e1, e2, (BC.out.block _ (lt_of_block e3)).trans e3⟩), (fun h => by cases h), (fun h => by cases h), H.h14⟩⟩
                · have ho := hoj
                  simp only [List.getElem?_toArray, List.getElem?_cons_succ, List.getElem?_cons_zero, Option.some.injEq] at hoj
                  subst hoj
                  obtain rfl : tb7 = false := hun
                  obtain rfl : tb6 = true := hall ⟨6, .data⟩ (by simp) (by kernel_rfl)
                  obtain rfl : tb0 = true := (H.d6 rfl).1
                  obtain rfl : tb1 = true := (H.d6 rfl).2.1
                  obtain rfl : tb4 = true := (H.d6 rfl).2.2.1
                  obtain rfl : tb5 = true := (H.d6 rfl).2.2.2
                  obtain rfl : tb3 = true := (H.d4 rfl)
                  obtain rfl : tb2 = true := (H.d3 rfl)
                  clear hall
                  obtain rfl : tb8 = false := Bool.eq_false_iff.2 fun h => Bool.false_ne_true (H.d8 h)
                  obtain rfl : tb9 = false := Bool.eq_false_iff.2 fun h => Bool.false_ne_true (H.d9 h)
                  obtain rfl : tb10 = false := Bool.eq_false_iff.2 fun h => Bool.false_ne_true (H.d10 h)
                  obtain rfl : tb12 = false := Bool.eq_false_iff.2 fun h => Bool.false_ne_true (H.d12 h).2.2.2.2.2.2.2.1
                  obtain rfl : tb13 = false := Bool.eq_false_iff.2 fun h => Bool.false_ne_true (H.d13 h).2.2.2.2.2.2.2.1
                  obtain rfl : tb14 = false := Bool.eq_false_iff.2 fun h => Bool.false_ne_true (H.d14 h).2.2.2.2.2.2.2.1
                  have hbe := H.be
                  have hx_t5 := H.t5
                  have hx_t6 := H.t6
                  obtain rfl := H.h0 rfl
                  obtain rfl := H.h1 rfl
                  obtain rfl := H.h2 rfl
                  obtain rfl := H.h3 rfl
                  obtain rfl := H.h4 rfl
                  obtain rfl := H.h5 rfl
                  have P6 := H.h6 rfl
                  have PT := Lib.hid P6
                  have TT := Lib.hid (H.t5 rfl)
                  clear P6
                  refine wpOp_step ho (fun K' hK => ?_)
                  have HK := Lib.hid hK
                  clear hK ho
                  go_simp
                  exact HK.out _ _ ⟨_, _, _, _, _, _, _, _, _, _, _, _, _, _, _, _, _, _, _, _, _, _, _, _, _, _, _, tx12, _, _, rfl, rfl, ⟨hbe, H.d3, H.d4, H.d5, H.d6, (fun _ => rfl), (fun h => by cases h), (fun h => by cases h), (fun h => by cases h), (fun h => by cases h), (fun h => by cases h), (fun h => by cases h), H.t5, fun _ => TT.out, H.h0, H.h1, H.h2, H.h3, H.h4, H.h5, H.h6, (fun _ => PT.out), (fun h => by cases h), (fun h => by cases h), H.h10, H.h11, (fun h => by cases h), (fun h => by cases h), H.h14⟩⟩
                · have ho := hoj
                  simp only [List.getElem?_toArray, List.getElem?_cons_succ, List.getElem?_cons_zero, Option.some.injEq] at hoj
                  subst hoj
                  obtain rfl : tb8 = false := hun
                  obtain rfl : tb7 = true := hall ⟨7, .data⟩ (by simp) (by kernel_rfl)
                  obtain rfl : tb6 = true := (H.d7 rfl)
                  obtain rfl : tb0 = true := (H.d6 rfl).1
                  obtain rfl : tb1 = true := (H.d6 rfl).2.1
                  obtain rfl : tb4 = true := (H.d6 rfl).2.2.1
                  obtain rfl : tb5 = true := (H.d6 rfl).2.2.2
                  obtain rfl : tb3 = true := (H.d4 rfl)
                  obtain rfl : tb2 = true := (H.d3 rfl)
                  clear hall
                  obtain rfl : tb12 = false := Bool.eq_false_iff.2 fun h => Bool.false_ne_true (H.d12 h).2.2.2.2.2.2.2.2.1
                  obtain rfl : tb13 = false := Bool.eq_false_iff.2 fun h => Bool.false_ne_true (H.d13 h).2.2.2.2.2.2.2.2.1
                  obtain rfl : tb14 = false := Bool.eq_false_iff.2 fun h => Bool.false_ne_true (H.d14 h).2.2.2.2.2.2.2.2.1
                  have hbe := H.be
                  have hx_t5 := H.t5
                  have hx_t6 := H.t6
                  obtain rfl := H.h0 rfl
                  obtain rfl := H.h1 rfl
                  obtain rfl := H.h2 rfl
                  obtain rfl := H.h3 rfl
                  obtain rfl := H.h4 rfl
                  obtain rfl := H.h5 rfl
                  have P6 := H.h6 rfl
                  have P7 := H.h7 rfl
                  obtain ⟨u, v, rfl, hu, hv⟩ := P7.ex
                  have HU := Lib.hid hu
                  clear hu hv
                  refine wpOp_step ho (fun K' hK => ?_)
                  have HK := Lib.hid hK
                  clear hK ho
                  go_simp
                  exact HK.out _ _ ⟨_, _, _, _, _, _, _, _, _, _, _, _, _, _, _, _, _, _, _, _, _, _, _, _, _, _, _, tx12, _, _, rfl, rfl, ⟨hbe, H.d3, H.d4, H.d5, H.d6, H.d7, (fun _ => rfl), H.d9, H.d10, (fun h => by cases h), (fun h => by cases h), (fun h => by cases h), H.t5, H.t6, H.h0, H.h1, H.h2, H.h3, H.h4, H.h5, H.h6, H.h7, (fun _ => HU.out), H.h9, H.h10, H.h11, (fun h => by cases h), (fun h => by cases h), H.h14⟩⟩
                · have ho := hoj
                  simp only [List.getElem?_toArray, List.getElem?_cons_succ, List.getElem?_cons_zero, Option.some.injEq] at hoj
                  subst hoj
                  obtain rfl : tb9 = false := hun
                  obtain rfl : tb7 = true := hall ⟨7, .data⟩ (by simp) (by kernel_rfl)
                  obtain rfl : tb6 = true := (H.d7 rfl)
                  obtain rfl : tb0 = true := (H.d6 rfl).1
                  obtain rfl : tb1 = true := (H.d6 rfl).2.1
                  obtain rfl : tb4 = true := (H.d6 rfl).2.2.1
                  obtain rfl : tb5 = true := (H.d6 rfl).2.2.2
                  obtain rfl : tb3 = true := (H.d4 rfl)
                  obtain rfl : tb2 = true := (H.d3 rfl)
                  clear hall
                  obtain rfl : tb13 = false := Bool.eq_false_iff.2 fun h => Bool.false_ne_true (H.d13 h).2.2.2.2.2.2.2.2.2.1
                  obtain rfl : tb14 = false := Bool.eq_false_iff.2 fun h => Bool.false_ne_true (H.d14 h).2.2.2.2.2.2.2.2.2.1
                  have hbe := H.be
                  have hx_t5 := H.t5
                  have hx_t6 := H.t6
                  obtain rfl := H.h0 rfl
                  obtain rfl := H.h1 rfl
                  obtain rfl := H.h2 rfl
                  obtain rfl := H.h3 rfl
                  obtain rfl := H.h4 rfl
                  obtain rfl := H.h5 rfl
                  have P6 := H.h6 rfl
                  have P7 := H.h7 rfl
                  obtain ⟨u, v, rfl, hu, hv⟩ := P7.ex
                  have HU := Lib.hid hv
                  clear hu hv
                  refine wpOp_step ho (fun K' hK => ?_)
                  have HK := Lib.hid hK
                  clear hK ho
                  go_simp
                  exact HK.out _ _ ⟨_, _, _, _, _, _, _, _, _, _, _, _, _, _, _, _, _, _, _, _, _, _, _, _, _, _, _, tx12, _, _, rfl, rfl, ⟨hbe, H.d3, H.d4, H.d5, H.d6, H.d7, H.d8, (fun _ => rfl), H.d10, H.d12, (fun h => by cases h), (fun h => by cases h), H.t5, H.t6, H.h0, H.h1, H.h2, H.h3, H.h4, H.h5, H.h6, H.h7, H.h8, (fun _ => HU.out), H.h10, H.h11, H.h12, (fun h => by cases h), H.h14⟩⟩
                · have ho := hoj
                  simp only [List.getElem?_toArray, List.getElem?_cons_succ, List.getElem?_cons_zero, Option.some.injEq] at hoj
                  subst hoj
                  obtain rfl : tb10 = false := hun
                  obtain rfl : tb7 = true := hall ⟨7, .data⟩ (by simp) (by kernel_rfl)
                  obtain rfl : tb6 = true := (H.d7 rfl)
                  obtain rfl : tb0 = true := (H.d6 rfl).1
                  obtain rfl : tb1 = true := (H.d6 rfl).2.1
                  obtain rfl : tb4 = true := (H.d6 rfl).2.2.1
                  obtain rfl : tb5 = true := (H.d6 rfl).2.2.2
                  obtain rfl : tb3 = true := (H.d4 rfl)
                  obtain rfl : tb2 = true := (H.d3 rfl)
                  clear hall
                  obtain rfl : tb14 = false := Bool.eq_false_iff.2 fun h => Bool.false_ne_true (H.d14 h).2.2.2.2.2.2.2.2.2.2.1
                  have hbe := H.be
                  have hx_t5 := H.t5
                  have hx_t6 := H.t6
                  obtain rfl := H.h0 rfl
                  obtain rfl := H.h1 rfl
                  obtain rfl := H.h2 rfl
                  obtain rfl := H.h3 rfl
                  obtain rfl := H.h4 rfl
                  obtain rfl := H.h5 rfl
                  have P6 := H.h6 rfl
                  have P7 := H.h7 rfl
                  obtain ⟨u, v, rfl⟩ := H.t6 rfl
                  refine wpOp_step ho (fun K' hK => ?_)
                  have HK := Lib.hid hK
                  clear hK ho
                  go_simp
                  exact HK.out _ _ ⟨_, _, _, _, _, _, _, _, _, _, _, _, _, _, _, _, _, _, _, _, _, _, _, _, _, _, _, tx12, _, _, rfl, rfl, ⟨hbe, H.d3, H.d4, H.d5, H.d6, H.d7, H.d8, H.d9, (fun _ => rfl), H.d12, H.d13, (fun h => by cases h), H.t5, H.t6, H.h0, H.h1, H.h2, H.h3, H.h4, H.h5, H.h6, H.h7, H.h8, H.h9, (fun _ => rfl), H.h11, H.h12, H.h13, H.h14⟩⟩
                · have ho := hoj
                  simp only [List.getElem?_toArray, List.getElem?_cons_succ, List.getElem?_cons_zero, Option.some.injEq] at hoj
                  subst hoj
                  obtain rfl : tb11 = false := hun
                  clear hall
                  obtain rfl : tb12 = false := Bool.eq_false_iff.2 fun h => Bool.false_ne_true (H.d12 h).2.2.2.2.2.2.2.2.2
                  obtain rfl : tb13 = false := Bool.eq_false_iff.2 fun h => Bool.false_ne_true (H.d13 h).2.2.2.2.2.2.2.2.2.2.1
                  obtain rfl : tb14 = false := Bool.eq_false_iff.2 fun h => Bool.false_ne_true (H.d14 h).2.2.2.2.2.2.2.2.2.2.2.1
                  have hbe := H.be
                  have hx_t5 := H.t5
                  have hx_t6 := H.t6
                  have BA := Lib.hid ((Below.refl w.heap.size w).alloc (Nat.le_refl _) (.cells #[.int .i64 0, .slice none 0 0, .int .i64 0, .slice none 0 0, .slice none 0 0] 48))
                  have NA := Lib.hid (heap_alloc_new w (.cells #[.int .i64 0, .slice none 0 0, .int .i64 0, .slice none 0 0, .slice none 0 0] 48))
                  have hsz := hbe.size
                  refine wpOp_step ho (fun K' hK => ?_)
                  have HK := Lib.hid hK
                  clear hK ho
                  go_simp
                  exact HK.out _ _ ⟨_, _, _, _, _, _, _, _, _, _, _, _, _, _, _, _, _, _, _, _, _, _, _, _, _, _, _, tx12, _, _, rfl, rfl, ⟨hbe.trans (BA.out.mono hbe.size), H.d3, H.d4, H.d5, H.d6, H.d7, H.d8, H.d9, H.d10, (fun h => by cases h), (fun h => by cases h), (fun h => by cases h), hx_t5, hx_t6, H.h0, H.h1, H.h2, H.h3, H.h4, H.h5, (fun e => (H.h6 e).made BA.out), (fun e => (H.h7 e).made BA.out), (fun e => StS.made (H.h8 e) BA.out), (fun e => StS.made (H.h9 e) BA.out), H.h10, (fun _ _ => ⟨_, rfl, hsz, NA.out⟩), (fun h => by cases h), (fun h => by cases h), H.h14⟩⟩
                · have ho := hoj
                  simp only [List.getElem?_toArray, List.getElem?_cons_succ, List.getElem?_cons_zero, Option.some.injEq] at hoj
                  subst hoj
                  obtain rfl : tb12 = false := hun
                  obtain rfl : tb0 = true := hall ⟨0, .phase⟩ (by simp) (by kernel_rfl)
                  obtain rfl : tb1 = true := hall ⟨1, .phase⟩ (by simp) (by kernel_rfl)
                  obtain rfl : tb2 = true := hall ⟨2, .phase⟩ (by simp) (by kernel_rfl)
                  obtain rfl : tb3 = true := hall ⟨3, .phase⟩ (by simp) (by kernel_rfl)
                  obtain rfl : tb4 = true := hall ⟨4, .phase⟩ (by simp) (by kernel_rfl)
                  obtain rfl : tb5 = true := hall ⟨5, .phase⟩ (by simp) (by kernel_rfl)
                  obtain rfl : tb6 = true := hall ⟨6, .chain⟩ (by simp) (by kernel_rfl)
                  obtain rfl : tb7 = true := hall ⟨7, .phase⟩ (by simp) (by kernel_rfl)
                  obtain rfl : tb8 = true := hall ⟨8, .data⟩ (by simp) (by kernel_rfl)
                  obtain rfl : tb11 = true := hall ⟨11, .data⟩ (by simp) (by kernel_rfl)
                  clear hall
                  obtain rfl : tb13 = false := Bool.eq_false_iff.2 fun h => Bool.false_ne_true (H.d13 h).2.2.2.2.2.2.2.2.2.2.2
                  obtain rfl : tb14 = false := Bool.eq_false_iff.2 fun h => Bool.false_ne_true (H.d14 h).2.2.2.2.2.2.2.2.2.2.2.2.1
                  have hbe := H.be
                  have hx_t5 := H.t5
                  have hx_t6 := H.t6
                  obtain rfl := H.h0 rfl
                  obtain rfl := H.h1 rfl
                  obtain rfl := H.h2 rfl
                  obtain rfl := H.h3 rfl
                  obtain rfl := H.h4 rfl
                  obtain rfl := H.h5 rfl
                  have P6 := H.h6 rfl
                  have P7 := H.h7 rfl
                  have P8 := H.h8 rfl
                  have P11 := H.h11 rfl rfl
                  obtain ⟨k, rfl, hk0, hk⟩ := P11
                  have hu := Lib.hid P8
                  obtain ⟨Na, Nh, Nk, na, nh, nk, rfl⟩ := SpdS.slices P8
                  obtain ⟨n1, n2⟩ := spnew_put hk hk0 hbe hu.out
                  have NV := Lib.hid n1
                  have HKP := Lib.hid n2
                  have BV := Lib.hid (show Below X.heap.size X _ from let ⟨_, _, _, _, _, _, _, _, _, _, _, e⟩ := n1.ex; e)
                  obtain ⟨q0, q1, q2, q3, q4⟩ := sp5 hk
                  have qf := fun i => bk_frz hk i
                  clear hk n1 n2
                  refine wpOp_step ho (fun K' hK => ?_)
                  have HK := Lib.hid hK
                  clear hK ho
                  go_simp
                  exact HK.out _ _ ⟨_, _, _, _, _, _, _, _, _, _, _, _, _, _, _, _, _, _, _, _, _, _, _, _, _, _, _, tx12, _, _, rfl, rfl, ⟨BV.out, H.d3, H.d4, H.d5, H.d6, H.d7, H.d8, H.d9, H.d10, (fun _ => ⟨rfl, rfl, rfl, rfl, rfl, rfl, rfl, rfl, rfl, rfl⟩), (fun h => by cases h), (fun h => by cases h), H.t5, H.t6, H.h0, H.h1, H.h2, H.h3, H.h4, H.h5, (fun e => (H.h6 e).kp HKP.out), (fun e => (H.h7 e).kp HKP.out), (fun e => StS.on (H.h8 e) HKP.out), (fun e => StS.on (H.h9 e) HKP.out), H.h10, (fun _ h => by cases h), (fun _ => NV.out), (fun h => by cases h), H.h14⟩⟩
                · have ho := hoj
                  simp only [List.getElem?_toArray, List.getElem?_cons_succ, List.getElem?_cons_zero, Option.some.injEq] at hoj
                  subst hoj
                  obtain rfl : tb13 = false := hun
                  obtain rfl : tb0 = true := hall ⟨0, .phase⟩ (by simp) (by kernel_rfl)
                  obtain rfl : tb1 = true := hall ⟨1, .phase⟩ (by simp) (by kernel_rfl)
                  obtain rfl : tb2 = true := hall ⟨2, .phase⟩ (by simp) (by kernel_rfl)
                  obtain rfl : tb3 = true := hall ⟨3, .phase⟩ (by simp) (by kernel_rfl)
                  obtain rfl : tb4 = true := hall ⟨4, .phase⟩ (by simp) (by kernel_rfl)
                  obtain rfl : tb5 = true := hall ⟨5, .phase⟩ (by simp) (by kernel_rfl)
                  obtain rfl : tb6 = true := hall ⟨6, .phase⟩ (by simp) (by kernel_rfl)
                  obtain rfl : tb7 = true := hall ⟨7, .phase⟩ (by simp) (by kernel_rfl)
                  obtain rfl : tb8 = true := hall ⟨8, .phase⟩ (by simp) (by kernel_rfl)
                  obtain rfl : tb9 = true := hall ⟨9, .data⟩ (by simp) (by kernel_rfl)
                  obtain rfl : tb11 = true := hall ⟨11, .phase⟩ (by simp) (by kernel_rfl)
                  obtain rfl : tb12 = true := hall ⟨12, .chain⟩ (by simp) (by kernel_rfl)
                  clear hall
                  obtain rfl : tb14 = false := Bool.eq_false_iff.2 fun h => Bool.false_ne_true (H.d14 h).2.2.2.2.2.2.2.2.2.2.2.2.2
                  have hbe := H.be
                  have hx_t5 := H.t5
                  have hx_t6 := H.t6
                  obtain rfl := H.h0 rfl
                  obtain rfl := H.h1 rfl
                  obtain rfl := H.h2 rfl
                  obtain rfl := H.h3 rfl
                  obtain rfl := H.h4 rfl
                  obtain rfl := H.h5 rfl
                  have P6 := H.h6 rfl
                  have P7 := H.h7 rfl
                  have P8 := H.h8 rfl
                  have P9 := H.h9 rfl
                  have P12 := H.h12 rfl
                  have HU := Lib.hid P9
                  refine wpOp_step ho (fun K' hK => ?_)
                  have HK := Lib.hid hK
                  clear hK ho
                  go_simp
                  exact HK.out _ _ ⟨_, _, _, _, _, _, _, _, _, _, _, _, _, _, _, _, _, _, _, _, _, _, _, _, _, _, _, tx12, _, _, rfl, rfl, ⟨hbe, H.d3, H.d4, H.d5, H.d6, H.d7, H.d8, H.d9, H.d10, H.d12, (fun _ => ⟨rfl, rfl, rfl, rfl, rfl, rfl, rfl, rfl, rfl, rfl, rfl, rfl⟩), (fun h => by cases h), H.t5, H.t6, H.h0, H.h1, H.h2, H.h3, H.h4, H.h5, H.h6, H.h7, H.h8, H.h9, H.h10, (fun _ h => by cases h), H.h12, (fun _ => HU.out), H.h14⟩⟩
                · have ho := hoj
                  simp only [List.getElem?_toArray, List.getElem?_cons_succ, List.getElem?_cons_zero, Option.some.injEq] at hoj
                  subst hoj
                  obtain rfl : tb14 = false := hun
                  obtain rfl : tb0 = true := hall ⟨0, .phase⟩ (by simp) (by kernel_rfl)
                  obtain rfl : tb1 = true := hall ⟨1, .phase⟩ (by simp) (by kernel_rfl)
                  obtain rfl : tb2 = true := hall ⟨2, .phase⟩ (by simp) (by kernel_rfl)
                  obtain rfl : tb3 = true := hall ⟨3, .phase⟩ (by simp) (by kernel_rfl)
                  obtain rfl : tb4 = true := hall ⟨4, .phase⟩ (by simp) (by kernel_rfl)
                  obtain rfl : tb5 = true := hall ⟨5, .phase⟩ (by simp) (by kernel_rfl)
                  obtain rfl : tb6 = true := hall ⟨6, .phase⟩ (by simp) (by kernel_rfl)
                  obtain rfl : tb7 = true := hall ⟨7, .phase⟩ (by simp) (by kernel_rfl)
                  obtain rfl : tb8 = true := hall ⟨8, .phase⟩ (by simp) (by kernel_rfl)
                  obtain rfl : tb9 = true := hall ⟨9, .phase⟩ (by simp) (by kernel_rfl)
                  obtain rfl : tb10 = true := hall ⟨10, .data⟩ (by simp) (by kernel_rfl)
                  obtain rfl : tb11 = true := hall ⟨11, .phase⟩ (by simp) (by kernel_rfl)
                  obtain rfl : tb12 = true := hall ⟨12, .phase⟩ (by simp) (by kernel_rfl)
                  obtain rfl : tb13 = true := hall ⟨13, .chain⟩ (by simp) (by kernel_rfl)
                  clear hall
                  have hbe := H.be
                  have hx_t5 := H.t5
                  have hx_t6 := H.t6
                  obtain rfl := H.h0 rfl
                  obtain rfl := H.h1 rfl
                  obtain rfl := H.h2 rfl
                  obtain rfl := H.h3 rfl
                  obtain rfl := H.h4 rfl
                  obtain rfl := H.h5 rfl
                  have P6 := H.h6 rfl
                  have P7 := H.h7 rfl
                  have P8 := H.h8 rfl
                  have P9 := H.h9 rfl
                  obtain rfl := H.h10 rfl
                  have P12 := H.h12 rfl
                  have P13 := H.h13 rfl
                  refine wpOp_step ho (fun K' hK => ?_)
                  have HK := Lib.hid hK
                  clear hK ho
                  go_simp
                  exact HK.out _ _ ⟨_, _, _, _, _, _, _, _, _, _, _, _, _, _, _, _, _, _, _, _, _, _, _, _, _, _, _, tx12, _, _, rfl, rfl, ⟨hbe, H.d3, H.d4, H.d5, H.d6, H.d7, H.d8, H.d9, H.d10, H.d12, H.d13, (fun _ => ⟨rfl, rfl, rfl, rfl, rfl, rfl, rfl, rfl, rfl, rfl, rfl, rfl, rfl, rfl⟩), H.t5, H.t6, H.h0, H.h1, H.h2, H.h3, H.h4, H.h5, H.h6, H.h7, H.h8, H.h9, H.h10, (fun _ h => by cases h), H.h12, H.h13, (fun _ => rfl)⟩⟩
                · have ho := hoj
                  simp at ho
              case hfin =>
                rintro listed a w ⟨tb0, tb1, tb2, tb3, tb4, tb5, tb6, tb7, tb8, tb9, tb10, tb11, tb12, tb13, tb14, tx0, tx1, tx2, tx3, tx4, tx5, tx6, tx7, tx8, tx9, tx10, tx11, tx12, tx13, tx14, rfl, rfl, H⟩ hr
                have hb : tb14 = true := by
                  clear H
                  obtain rfl : tb0 = true := by
                    cases tb0
                    · exact absurd hr (ready_neC (by kernel_rfl))
                    · rfl
                  obtain rfl : tb1 = true := by
                    cases tb1
                    · exact absurd hr (ready_neC (by kernel_rfl))
                    · rfl
                  obtain rfl : tb2 = true := by
                    cases tb2
                    · exact absurd hr (ready_neC (by kernel_rfl))
                    · rfl
                  obtain rfl : tb3 = true := by
                    cases tb3
                    · exact absurd hr (ready_neC (by kernel_rfl))
                    · rfl
                  obtain rfl : tb4 = true := by
                    cases tb4
                    · exact absurd hr (ready_neC (by kernel_rfl))
                    · rfl
                  obtain rfl : tb5 = true := by
                    cases tb5
                    · exact absurd hr (ready_neC (by kernel_rfl))
                    · rfl
                  obtain rfl : tb6 = true := by
                    cases tb6
                    · exact absurd hr (ready_neC (by kernel_rfl))
                    · rfl
                  obtain rfl : tb7 = true := by
                    cases tb7
                    · exact absurd hr (ready_neC (by kernel_rfl))
                    · rfl
                  obtain rfl : tb8 = true := by
                    cases tb8
                    · exact absurd hr (ready_neC (by kernel_rfl))
                    · rfl
                  obtain rfl : tb9 = true := by
                    cases tb9
                    · exact absurd hr (ready_neC (by kernel_rfl))
                    · rfl
                  obtain rfl : tb10 = true := by
                    cases tb10
                    · exact absurd hr (ready_neC (by kernel_rfl))
                    · rfl
                  obtain rfl : tb11 = true := by
                    cases tb11
                    · exact absurd hr (ready_neC (by kernel_rfl))
                    · rfl
                  obtain rfl : tb12 = true := by
                    cases tb12
                    · exact absurd hr (ready_neC (by kernel_rfl))
                    · rfl
                  obtain rfl : tb13 = true := by
                    cases tb13
                    · exact absurd hr (ready_neC (by kernel_rfl))
                    · rfl
                  obtain rfl : tb14 = true := by
                    cases tb14
                    · exact absurd hr (ready_neC (by kernel_rfl))
                    · rfl
                  rfl
                subst hb
                clear hr
                obtain rfl : tb0 = true := (H.d14 rfl).1
                obtain rfl : tb1 = true := (H.d14 rfl).2.1
                obtain rfl : tb2 = true := (H.d14 rfl).2.2.1
                obtain rfl : tb3 = true := (H.d14 rfl).2.2.2.1
                obtain rfl : tb4 = true := (H.d14 rfl).2.2.2.2.1
                obtain rfl : tb5 = true := (H.d14 rfl).2.2.2.2.2.1
                obtain rfl : tb6 = true := (H.d14 rfl).2.2.2.2.2.2.1
                obtain rfl : tb7 = true := (H.d14 rfl).2.2.2.2.2.2.2.1
                obtain rfl : tb8 = true := (H.d14 rfl).2.2.2.2.2.2.2.2.1
                obtain rfl : tb9 = true := (H.d14 rfl).2.2.2.2.2.2.2.2.2.1
                obtain rfl : tb10 = true := (H.d14 rfl).2.2.2.2.2.2.2.2.2.2.1
                obtain rfl : tb11 = true := (H.d14 rfl).2.2.2.2.2.2.2.2.2.2.2.1
                obtain rfl : tb12 = true := (H.d14 rfl).2.2.2.2.2.2.2.2.2.2.2.2.1
                obtain rfl : tb13 = true := (H.d14 rfl).2.2.2.2.2.2.2.2.2.2.2.2.2
                have hnw := Lib.hid (H.h12 rfl)
                have hl0 := Lib.hid (PldS.toU (H.h13 rfl))
                have e1 := H.h14 rfl
                clear H
                obtain ⟨Y, hY⟩ : ∃ Y, Y = w := ⟨_, rfl⟩
                subst w
                obtain ⟨MV, Ba, Bh, Bk, da, dh, dk, rfl, hn0, hn1, hn2, hnb⟩ := hnw.out.ex
                have N7 := Lib.hid hn1
                have NV7 := Lib.hid hn2
                have NX7 := Lib.hid hn0
                have B7 := Lib.hid hnb
                clear hnw hn0 hn1 hn2 hnb
                subst e1
                have G7 := Lib.hid (GX.out.on B7.out)
                have HMX2 := Lib.hid (GX.out.mlt)
                have HMX := Lib.hid (show M + 1 ≤ X.heap.size from GX.out.mlt)
                obtain ⟨y0, y1, y2, y3, y4⟩ := sp5 N7.out
                obtain ⟨q0, q1, q2, q3, q4⟩ := sp5 G7.out.x
                have qf := fun i => bk_frz G7.out.x i
                obtain ⟨fx, gx⟩ := sp5_put G7.out.x (.int .i64 s'.next) (.slice Ba s'.sent.length da) (.int .i64 s'.top) (.slice Bh s'.heard.length dh) (.slice Bk s'.skip.length dk)
                obtain ⟨Z8, hZ8⟩ : ∃ x, (((((Y.setCell ⟨V, 0, none⟩ (.int .i64 s'.next)).setCell ⟨V, 1, none⟩ (.slice Ba s'.sent.length da)).setCell ⟨V, 2, none⟩ (.int .i64 s'.top)).setCell ⟨V, 3, none⟩ (.slice Bh s'.heard.length dh)).setCell ⟨V, 4, none⟩ (.slice Bk s'.skip.length dk)) = x := ⟨_, rfl⟩
                rw [hZ8] at fx gx
                have G8 := Lib.hid (G7.out.put gx fx (SpU.low NV7.out HMX.out) HKV.out HVM.out HWV.out)
                have RLY := Lib.hid (PlU.on hl0.out (KpS.gr gx (show V < X.heap.size by have := HVM.out; have := HMX2.out; omega)))
                clear hl0
                obtain ⟨nl, hnl⟩ : ∃ n, (lo).length = n := ⟨_, rfl⟩
                have HNL := Lib.hid hnl
                obtain ⟨AL, cL, rfl, hlc, hlm⟩ := pl_len RLY.out.now
                rw [hnl] at hln hlc ⊢
                unfold maxLen at hlm
                rw [hnl] at RLY
                go_upto_region 13 with fail
                clear y0 y1 y2 y3 y4 q0 q1 q2 q3 q4 qf fx gx
                try rw [hZ8]
                clear hZ8 hnl
                have RL := Lib.hid (PlU.toW RLY.out)
                obtain ⟨qk, hqk⟩ : ∃ q, q = gk := ⟨_, rfl⟩
                subst hqk
                go_wp2_with fail
                go_loopg [62] nl (fun gq iv wx => ∃ (i : Nat), iv = .int .i64 (i : Int) ∧ i + gq = nl ∧ Hid (PlWU X.heap.size wx (.slice AL nl cL) lo) ∧ Hid (SpdK W K0 V M (n0 + i) s' (bumpE E ((nums lo).take i)) Ba Bh Bk da dh dk wx))
                case atStart => exact ⟨0, rfl, by omega, RL, Lib.hid (G8.out.same (fun x => (bumpE_nil E x).symm))⟩
                case round =>
                  obtain ⟨i, rfl, hig, RI, GI⟩ := hrel
                  obtain ⟨XI, hXI⟩ : ∃ X, X = wr := ⟨_, rfl⟩
                  subst hXI
                  by_cases hi : i < nl
                  · have hiN : (i : Int) < (nl : Int) := by omega
                    obtain ⟨bL, oL, AF, nF, cF, hAL, hbL, x0, x1, x2, x3⟩ := pl_at (StS.now RI.out) i (by rw [HNL.out]; omega)
                    subst hAL
                    have hin : i < (nums lo).length := by unfold nums; rw [List.length_map, HNL.out]; omega
                    obtain ⟨p, hp⟩ : ∃ p, (lo)[i]'(by rw [HNL.out]; omega) = p := ⟨_, rfl⟩
                    rw [hp] at x0 x1 x2
                    have hpn : (nums lo)[i] = p.num := by rw [nums_at _ i hin (by rw [HNL.out]; omega), hp]
                    obtain ⟨hb1, hb2⟩ := bumpE_step HND.out i hin (HE1.out _ (List.getElem_mem hin))
                    rw [hpn] at hb1 hb2
                    have HB2 := Lib.hid hb2
                    have hpb : i64N p.num := HPN.out _ (hpn ▸ List.getElem_mem hin)
                    have hwf : (Lit.int .i64 p.num).wf = true := i64_wf hpb
                    have BP := (Below.refl XI.heap.size XI).alloc (Nat.le_refl _) (.cells #[.int .i64 p.num, .int .i64 p.time, .int .i64 p.size, .slice AF nF cF] 54)
                    have NP := Lib.hid (heap_alloc_new XI (.cells #[.int .i64 p.num, .int .i64 p.time, .int .i64 p.size, .slice AF nF cF] 54))
                    have GP := Lib.hid (GI.out.on BP)
                    have RP := Lib.hid (show PlWU X.heap.size _ _ _ from StS.on RI.out (KpS.below BP))
                    clear hp hpn hb2 BP
                    go_upto_region 16 with fail
                    clear x0 x1 x2 x3
                    obtain ⟨XP, hXP⟩ : ∃ X, XI.alloc (.cells #[.int .i64 p.num, .int .i64 p.time, .int .i64 p.size, .slice AF nF cF] 54) = X := ⟨_, rfl⟩
                    obtain ⟨PB, hPB⟩ : ∃ b, XI.heap.size = b := ⟨_, rfl⟩
                    rw [hXP] at NP GP RP
                    rw [hPB] at NP
                    try rw [hXP]
                    try rw [hPB]
                    clear hXP hPB
                    obtain ⟨D, OO, MM⟩ := GP.out.m
                    have hlook := lookI OO MM hb1 hwf
                    have HOO := Lib.hid OO
                    have HMM := Lib.hid MM
                    clear OO MM hb1
                    obtain ⟨z0, z1, z2, z3⟩ := bk4R NP.out
                    go_wp2_with (at_mapUpdate; refine wpList_mapUpdate_own _ rfl _ _ _ 49 rfl 3 3 (Maps.int_keyed Try.underlying3) Try.underlying49 _ M (n0 + i) D rfl HOO.out (by unfold maxLen; omega) _ _ (kyI p.num) rfl rfl (Maps.keyOf_int_mk Try.underlying3 hwf) _ _ (plainElem_int Try.underlying3 (by decide)) ?_; intro WU hou hgu; have OU := Lib.hid hou; have GU := Lib.hid hgu; clear hou hgu)
                    have GN := Lib.hid (GP.out.store GU.out OU.out ((HMM.out.put p.num 2).congr HB2.out) HKV.out HVM.out HWV.out)
                    have RN := Lib.hid (show PlWU X.heap.size _ _ _ from StS.on RP.out (KpS.gr GU.out (HMX2.out)))
                    clear z0 z1 z2 z3
                    go_roundg (gk - 1)
                    case measure => omega
                    case rel => exact ⟨i + 1, by first | rfl | go_num, by omega, RN, GN⟩
                  · obtain rfl : i = nl := by omega
                    have GE := Lib.hid (GI.out.same (fun x => by rw [List.take_of_length_le (by unfold nums; rw [List.length_map, HNL.out]; omega)]))
                    go_upto_region 40 with fail
                    go_wp2_with fail
                    go_roundg (qk - 1)
                    case measure => omega
                    case rel => exact ⟨kk + 1, T, s', _, n0 + i, Ba, Bh, Bk, da, dh, dk, by first | rfl | (rw [HTT.out]) | go_num, by first | rfl | go_num, by omega, t0, by omega, by have := NX1.out; omega, by omega, ON1, NF1, GE⟩
    · obtain rfl : kk = N := by omega
      obtain rfl : gk = 0 := by omega
      obtain ⟨q0, q1, q2, q3, q4⟩ := sp5 GK.out.x
      obtain ⟨z0, z1, z2, z3, z4⟩ := sp5 GK.out.z
      have zf := fun i => bk_frz GK.out.z i
      obtain ⟨fx, gx⟩ := sp5_put GK.out.z (.int .i64 s.next) (.slice Aa s.sent.length ca) (.int .i64 s.top) (.slice Ah s.heard.length ch) (.slice Ak s.skip.length ck)
      go_wp2_with fail
      obtain ⟨y0, y1, y2, y3, y4⟩ := sp5 fx
      refine bodyPost_ret (by simp [results, Try.results17, go_sem, y0, y1, y2, y3, y4]; try rfl) rfl ?_
      obtain ⟨D, OO, MM⟩ := GK.out.m
      have hKM : M ≠ K0 := by have := HKV.out; have := HVM.out; omega
      have o9 := own_same OO (gx.block M OO.lt (fun e => hKM (Option.some.inj e)))
      exact ⟨gr_from GK.out.b GK.out.b.size (by rw [HK0.out]; exact Nat.le_refl _) gx, s, E, M, n0, Aa, Ah, Ak, ca, ch, ck, D, rfl, StS.on GK.out.v (KpS.gr gx (by have := HKV.out; have := HVM.out; show K0 < M + 1; omega)), o9, MM, ON.out, NF.out, by omega, by have := HWV.out; have := HVM.out; omega⟩
end Go.Proofs.Ytnccibaifffhhaa
