/- acl's MayPublish, MayObserve, of any rules. -/
import Derived.Test.YtjnfbinomljocaaDoorAcM
import Derived.Test.YtjnfbinomljocaaDoorGaD
namespace Go.Proofs.YtjnfbinomljocaaDoor
open Go.RowKit Go.Shelf
open Go.Proofs
set_option maxRecDepth 100000

/-- What the contracts of Match and Covers ask of a rule. -/
def OkR (r : Ru) : Prop := (∀ c ∈ r.cs, AtOk c.a) ∧ r.cs.length ≤ 4611686018427387904 ∧ r.sc.size ≤ 300
theorem ofR_kind {r : Ru} {k tn : Int} {who : ByteArray} (h : ofR r k tn who = true) : r.k = k := by
  unfold ofR at h
  simp only [Bool.and_eq_true, beq_iff_eq] at h
  exact h.1
end Go.Proofs.YtjnfbinomljocaaDoor
