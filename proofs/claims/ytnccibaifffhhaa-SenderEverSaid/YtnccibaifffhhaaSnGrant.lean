/- Contracts of package sender: Grant. -/
import Derived.Test.YtnccibaifffhhaaSnCopy
import Derived.Test.YtnccibaifffhhaaGrpB
namespace Go.Proofs.Ytnccibaifffhhaa
set_option linter.unusedVariables false
open Go.RowKit P

/-- the answer of a sender and an error, out of own rows -/
theorem snf_own {w : World} {base lo : Nat} {d l a : Value} {s : Sn} (h1 : w.ownsRow base 5 1 d s.data.length (s.data.map (.int .u8))) (hb : Byt s.data) (h2 : OwnR w base 63 l s.lost) (h3 : OwnR w base 63 a s.acked) (hl : lo ≤ base) :
    SnF w lo (.agg #[d, .bool s.fin, .int .i64 s.next, .int .i64 s.mx, l, a, .bool s.ended, .bool s.over]) s := ⟨_, _, _, rfl, bf_own h1 hb hl, rf_own h2 hl, rf_own h3 hl⟩

end Go.Proofs.Ytnccibaifffhhaa
