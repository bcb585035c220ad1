/- For any two values of unlike kinds: they are never the same, and never held against one another. -/
import Derived.Test.YthkkdikfbagijaaGreatDoorFitDone
namespace Go.Proofs.YthkkdikfbagijaaGreatDoor
open Go.RowKit
set_option maxRecDepth 100000

/-- Two values, boxed one behind the other, in every world in which only what is younger has turned. -/
theorem two_cells {w w' : World} (k n k2 n2 : Int) (x x2 : Nat) (s s2 : ByteArray) (y y2 : Bool)
    (hb : Below (w.heap.size + 2) ((w.alloc (.cells (vals k n x s y) 24)).alloc (.cells (vals k2 n2 x2 s2 y2) 24)) w') :
    (∀ i v, (vals k n x s y)[i]? = some v → w'.cell? ⟨w.heap.size, i, none⟩ = some v) ∧ (∀ i v, (vals k2 n2 x2 s2 y2)[i]? = some v → w'.cell? ⟨w.heap.size + 1, i, none⟩ = some v) := by
  refine ⟨fun i v h => ?_, fun i v h => ?_⟩
  · rw [hb.cell (p := ⟨w.heap.size, i, none⟩) (by simp), World.cell?_alloc_lt _ _ _ (by simp), World.cell?_alloc_new]; exact h
  · rw [hb.cell (p := ⟨w.heap.size + 1, i, none⟩) (by simp)]
    have := World.cell?_alloc_new (w.alloc (.cells (vals k n x s y) 24)) (vals k2 n2 x2 s2 y2) 24 i
    rw [World.size_alloc] at this
    rw [this]; exact h
end Go.Proofs.YthkkdikfbagijaaGreatDoor
