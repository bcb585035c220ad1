/- At each power of two the intervals stand apart, by the kernel's own reckoning. -/
import Derived.Test.YtfffmndjgjfflaaGreatDoorNumE
namespace Go.Proofs.YtfffmndjgjfflaaGreatDoor
open Go.RowKit Go.Lib
open Go.Proofs
set_option maxRecDepth 100000

set_option maxHeartbeats 4000000 in
theorem chkS_all : ((List.range 2045).all fun k => chkS (k + 2)) = true := by decide +kernel
end Go.Proofs.YtfffmndjgjfflaaGreatDoor
