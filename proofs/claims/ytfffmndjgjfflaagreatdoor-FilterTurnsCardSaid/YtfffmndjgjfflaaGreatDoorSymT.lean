/- slices.symMergeCmpFunc at the attributes of an event: what it does behind its last search: the exchange, and its two calls of itself. (Written by gen_sym.py.) -/
import Derived.Test.YtfffmndjgjfflaaGreatDoorGaF
import Derived.Deep.DeepCutAuto
namespace Go.Proofs.YtfffmndjgjfflaaGreatDoor
open Go.Shelf Go.RowKit Go.Lib Go.Sort
open Go.Proofs
variable {P : Program} {α : Type} [Inhabited α]

/-- What stands behind the n first statements. -/
def rest : Nat → Code → Code
  | 0, c => c
  | n + 1, .seq _ c => rest n c
  | _ + 1, c => c
end Go.Proofs.YtfffmndjgjfflaaGreatDoor
