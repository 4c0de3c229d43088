/- The verifier's texts' raw things in memory: four cells each. And their 'some', 'picked'. -/
import Derived.Test.YtajjelcjgcgfdaaRngRow
import Derived.Test.YtajjelcjgcgfdaaPick
namespace Go.Proofs.Ytajjelcjgcgfdaa
set_option linter.unusedVariables false
open Go.RowKit P

structure RawT where
  kind : Int
  a : Int
  b : Int
  text : ByteArray

def raw0 : RawT := ⟨0, 0, 0, ByteArray.empty⟩

/-- 'A' leads to a row below block B whose cells are the raw things rs -/
def RawRow (w : World) (B : Nat) (A : Option Addr) (rs : List RawT) : Prop :=
  0 < rs.length → ∃ b off, A = some ⟨b, off, none⟩ ∧ b < B ∧ ∀ j, j < rs.length →
    w.cell? ⟨b, off + j * 4, none⟩ = some (.int .i64 (rs.getD j raw0).kind) ∧ w.cell? ⟨b, off + j * 4 + 1, none⟩ = some (.int .i64 (rs.getD j raw0).a) ∧
    w.cell? ⟨b, off + j * 4 + 2, none⟩ = some (.int .i64 (rs.getD j raw0).b) ∧ w.cell? ⟨b, off + j * 4 + 3, none⟩ = some (.string (rs.getD j raw0).text)
theorem RawRow.keep {w w' : World} {B : Nat} {A : Option Addr} {rs : List RawT} (h : RawRow w B A rs) (hk : ∀ p : Addr, p.block < B → w'.cell? p = w.cell? p) : RawRow w' B A rs := fun hn => by
  obtain ⟨b, off, e, hb, hc⟩ := h hn
  exact ⟨b, off, e, hb, fun j hj => ⟨(hk _ hb).trans (hc j hj).1, (hk _ hb).trans (hc j hj).2.1, (hk _ hb).trans (hc j hj).2.2.1, (hk _ hb).trans (hc j hj).2.2.2⟩⟩
theorem RawRow.below {w w' : World} {B : Nat} {A : Option Addr} {rs : List RawT} (h : RawRow w B A rs) (hb : Below B w w') : RawRow w' B A rs := h.keep fun _ hp => hb.cell hp

theorem some20 (A : Option Addr) (len cap : Nat) (w : World) (hl : len ≤ cap) (hc : cap ≤ maxLen) :
    Calls Try.prog 40 #[.slice A len cap, .int .i64 20] w fun e w' => e = .returned (.slice A (min len 20) cap) ∧ w = w' := by
  unfold maxLen at hc
  by_cases h : 20 < len
  · have e := Lib.hid (show min len 20 = 20 by omega)
    go_enter Try.func40, Try.ntmps40
    go_wp2
    go_ret
    exact ⟨by rw [e.out]; rfl, rfl⟩
  · have e := Lib.hid (show min len 20 = len by omega)
    go_enter Try.func40, Try.ntmps40
    go_wp2
    go_ret
    exact ⟨by rw [e.out]; rfl, rfl⟩
end Go.Proofs.Ytajjelcjgcgfdaa
