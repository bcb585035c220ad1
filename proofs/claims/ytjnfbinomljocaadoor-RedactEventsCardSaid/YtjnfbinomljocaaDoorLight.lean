/- gazettelaw03.light, event.Get of any attributes. -/
import Derived.Test.YtjnfbinomljocaaDoorManyL
namespace Go.Proofs.YtjnfbinomljocaaDoor
open Go.RowKit Go.Shelf Go.Sort
open Go.Proofs
set_option maxRecDepth 100000

def shortB (a : At) : Bool := decide (¬ (300 : Int) < wrap64 ((a.nm.size : Int) + (a.s.size : Int)))
def lightB (l : List At) : Bool := l.all shortB && decide (l.length ≤ 30)

end Go.Proofs.YtjnfbinomljocaaDoor
