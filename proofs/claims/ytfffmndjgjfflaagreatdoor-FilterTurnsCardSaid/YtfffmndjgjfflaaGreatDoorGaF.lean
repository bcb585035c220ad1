/- SwapRange, Rotate, SymA, SymB: merged by merge.py. -/
import Derived.Test.YtfffmndjgjfflaaGreatDoorProg
import Derived.Test.YtfffmndjgjfflaaGreatDoorStab
import Derived.Shelf.SlSortCmp.KitK
import Derived.Sort.WalkB2
import Derived.Sort.WalkB12
import Derived.Deep.LoopGhost
/- slices.swapRangeCmpFunc and rotateCmpFunc at the attributes of an event, over whatever program bears their bodies: what they lay in the row. -/
namespace Go.Proofs.YtfffmndjgjfflaaGreatDoor
open Go.Shelf Go.RowKit Go.Lib Go.Sort
open Go.Proofs
variable {P : Program} {α : Type} [Inhabited α]

end Go.Proofs.YtfffmndjgjfflaaGreatDoor

/- slices.rotateCmpFunc at the attributes of an event: two runs of the row are exchanged. -/
namespace Go.Proofs.YtfffmndjgjfflaaGreatDoor
open Go.Shelf Go.RowKit Go.Lib Go.Sort
open Go.Proofs
variable {P : Program} {α : Type} [Inhabited α]

end Go.Proofs.YtfffmndjgjfflaaGreatDoor

/- slices.symMergeCmpFunc at the attributes of an event, where the first run has one. (Written by gen_sym.py.) -/
namespace Go.Proofs.YtfffmndjgjfflaaGreatDoor
open Go.Shelf Go.RowKit Go.Lib Go.Sort
open Go.Proofs
variable {P : Program} {α : Type} [Inhabited α]

end Go.Proofs.YtfffmndjgjfflaaGreatDoor

/- slices.symMergeCmpFunc at the attributes of an event, where the second run has one. (Written by gen_sym.py.) -/
namespace Go.Proofs.YtfffmndjgjfflaaGreatDoor
open Go.Shelf Go.RowKit Go.Lib Go.Sort
open Go.Proofs
variable {P : Program} {α : Type} [Inhabited α]

end Go.Proofs.YtfffmndjgjfflaaGreatDoor
