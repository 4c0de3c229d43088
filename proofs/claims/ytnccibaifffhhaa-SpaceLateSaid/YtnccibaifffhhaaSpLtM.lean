/- Packets sent one after another, of which one is heard of: what SpaceLate asks, over plain lists. -/
import Derived.Test.YtnccibaifffhhaaGrpSa
namespace Go.Proofs.Ytnccibaifffhhaa.P
set_option linter.unusedVariables false
set_option maxRecDepth 100000

/-- so many packets were sent, one a tick -/
def sK (k : Nat) : Sp := ⟨k, (List.range k).map (fun (i : Nat) => (⟨(i : Int), (i : Int), 10, []⟩ : Pcl)), -1, [], []⟩
theorem sK_ok : ∀ k : Nat, k < 22 → okSp (sK k) := by decide +kernel
theorem send_K (k : Nat) (h : k < 22) : sendSp (sK k) (k : Int) 10 [] = (sK (k + 1), (k : Int), 0) := by
  unfold sendSp
  rw [if_neg (fun q => q ((faultSp_iff _).2 (sK_ok k h))), if_neg (fun q => q ⟨⟨by omega, by omega⟩, by decide, by decide⟩), if_neg (fun q => by
    rcases q with q | q
    · simp [sK] at q; omega
    · have : (k : Int) = 4611686018427387903 := q
      omega)]
  unfold sK
  simp [List.range_succ]
/-- the answer, in numbers -/
theorem ack_K : ∀ k : Nat, k < 22 → ∀ w : Nat, w < k → (ackSp (sK k) [((w : Int), (w : Int))]).2.2.2 = 0 ∧ nums (ackSp (sK k) [((w : Int), (w : Int))]).2.1 = [(w : Int)] ∧ (ackSp (sK k) [((w : Int), (w : Int))]).2.2.1.length = w - 2 ∧
    (ackSp (sK k) [((w : Int), (w : Int))]).1.sent.length = k - 1 - (w - 2) ∧ (ackSp (sK k) [((w : Int), (w : Int))]).1.top = w ∧
    (0 < (ackSp (sK k) [((w : Int), (w : Int))]).1.sent.length → (w : Int) - 3 < (nums (ackSp (sK k) [((w : Int), (w : Int))]).1.sent).getD 0 0) := by decide +kernel
end Go.Proofs.Ytnccibaifffhhaa.P
