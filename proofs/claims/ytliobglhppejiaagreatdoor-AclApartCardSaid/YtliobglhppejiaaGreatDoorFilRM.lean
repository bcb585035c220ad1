/- The reference's Match. -/
import Derived.Test.YtliobglhppejiaaGreatDoorGaJ
namespace Go.Proofs.YtliobglhppejiaaGreatDoor
open Go.RowKit Go.Shelf
open Go.Proofs
set_option maxRecDepth 100000
end Go.Proofs.YtliobglhppejiaaGreatDoor
