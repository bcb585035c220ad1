/- Worlds in which only what is younger than another one's blocks has turned; a region of calls with fixed answers in them. (As in FilS; for seats without filters.) -/
import Derived.Test.YtjnfbinomljocaaDoorGaB
import Derived.Deep.RegionWith
import Derived.Deep.RegionHeld3
import Derived.Deep.LoopGhost
import Derived.Deep.DeepCutAuto
import Derived.Deep.Upon
import Derived.Deep.QuietTactic
namespace Go.Proofs.YtjnfbinomljocaaDoor
open Go.Shelf Go.RowKit Go.Lib
open Go.Proofs
set_option maxRecDepth 100000
theorem below_drew1' (w : World) : Below w.heap.size w w.drew := ⟨rfl, rfl, rfl, Nat.le_refl _, fun _ _ => rfl⟩
/-- A world in which only what is younger than another one's blocks has turned. -/
structure BW (wr : World) where
  W : World
  h : Below wr.heap.size wr W
instance (w : World) : Nonempty (BW w) := ⟨⟨w.drew, below_drew1' w⟩⟩
theorem wp_region_bw {P : Program} {id : Nat} {Q : Exit → Act → World → Prop} {a : Act} {w : World} {l : List Oper} (hm : P.follows .mixedOrders = true) (hB : Region.lexB .any l.toArray = true)
    (h : wpQuiet P l.toArray (fun w' => ∃ p : BW w, w' = p.W) (fun a' => ∀ w', (∃ p : BW w, w' = p.W) → Q .normal a' w') l a) : (Code.region id l.toArray true).wp P Q a w :=
  wp_region_quiet (C := fun w' => ∃ p : BW w, w' = p.W) hm hB ⟨⟨w.drew, below_drew1' w⟩, rfl⟩ (by simpa using h)
end Go.Proofs.YtjnfbinomljocaaDoor
