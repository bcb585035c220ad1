/- event.New's closures and its loop over slices.Backward. -/
import Derived.Test.YtfffmndjgjfflaaGreatDoorGaH
import Derived.Test.YtfffmndjgjfflaaGreatDoorGaA
import Derived.RangeFuncBox
import Derived.Maps.AppendAt
namespace Go.Proofs.YtfffmndjgjfflaaGreatDoor
open Go.RowKit Go.Shelf Go.Sort
open Go.Proofs
attribute [local go_sem] Oper.semAt_some

/-- Have they one name? -/
def eqA (p q : At) : Bool := p.nm.toList == q.nm.toList

theorem getElem!_snoc (l : List (Nat × At)) (x : Nat × At) (j : Nat) (h : j < l.length + 1) : (l ++ [x])[j]! = if j < l.length then l[j]! else x := by
  simp only [getElem!_def]
  by_cases h1 : j < l.length
  · simp [h1, List.getElem?_append_left h1]
  · have : j = l.length := by omega
    subst this; simp

end Go.Proofs.YtfffmndjgjfflaaGreatDoor
