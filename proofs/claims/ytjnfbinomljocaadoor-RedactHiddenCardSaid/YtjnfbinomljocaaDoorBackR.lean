/- slices.Backward over a row of rules, as an iterator: it hands them out from the last one to the first. -/
import Derived.RangeFuncNested
import Derived.RangeFuncBound
import Derived.RangeFuncCalls
import Derived.RangeFuncLeaves
import Derived.Shelf.Abstract
import Derived.Shelf.RegionOpen
import Derived.WalkKit
import Derived.OwnWalkIn
import Derived.TacticsInMore
import Derived.LoopNIn
import Derived.LoopIn
import Derived.Test.YtjnfbinomljocaaDoorRuP
namespace Go.Proofs.YtjnfbinomljocaaDoor
open Go.RowKit Go.Shelf
open Go.Proofs
attribute [local go_sem] Oper.semAt_some

/-- What has come when k rounds are over, the last one first. -/
def backsR (zs : List Ru) (k : Nat) : List (Nat × Ru) := (List.range k).map fun j => (zs.length - 1 - j, zs[zs.length - 1 - j]!)
theorem backsR_succ (zs : List Ru) (k : Nat) : backsR zs (k + 1) = backsR zs k ++ [(zs.length - 1 - k, zs[zs.length - 1 - k]!)] := by simp [backsR, List.range_succ]
theorem backsR_length (zs : List Ru) (k : Nat) : (backsR zs k).length = k := by simp [backsR]

/-- What a round of the loop's body keeps: all that lay below n₀, and the box of the slice that is gone over. -/
def KeepR (n₀ Bs : Nat) (W W' : World) : Prop := Below n₀ W W' ∧ ∀ v, W.cell? ⟨Bs, 0, none⟩ = some v → W'.cell? ⟨Bs, 0, none⟩ = some v
theorem KeepR.refl (n₀ Bs : Nat) (W : World) : KeepR n₀ Bs W W := ⟨Below.refl _ _, fun _ h => h⟩
theorem KeepR.trans {n₀ Bs : Nat} {A B C : World} (h : KeepR n₀ Bs A B) (h2 : KeepR n₀ Bs B C) : KeepR n₀ Bs A C := ⟨h.1.trans h2.1, fun v hv => h2.2 v (h.2 v hv)⟩

end Go.Proofs.YtjnfbinomljocaaDoor
