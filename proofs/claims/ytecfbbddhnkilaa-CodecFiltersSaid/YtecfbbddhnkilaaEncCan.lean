/- The bytes of what is kept. -/
import Derived.Test.YtecfbbddhnkilaaEnc3
import Derived.Test.YtecfbbddhnkilaaCanP
namespace Go.Proofs.Ytecfbbddhnkilaa
open Go.RowKit Go.Shelf Go.Sort
open Go.Proofs
set_option maxRecDepth 100000

theorem encV_canon (a : At) (h : vrightB a.k a.s = true) : encV (canonA a) = encV a := by
  obtain ⟨nm, k, n, x, s, y⟩ := a
  simp only [vrightB, Bool.and_eq_true, decide_eq_true_eq] at h
  rcases (show k = 0 ∨ k = 1 ∨ k = 2 ∨ k = 3 by omega) with rfl | rfl | rfl | rfl
  · simp [canonA, encV]
  · simp [canonA, encV, fkey_canon]
  · simp [canonA, encV]
  · simp [canonA, encV]
end Go.Proofs.Ytecfbbddhnkilaa
