/- SymC, SymMerge, Attr: merged by merge.py. -/
import Derived.Test.YtfffmndjgjfflaaGreatDoorSymT
import Derived.Deep.DeepCutAuto
import Derived.Deep.CutBlock
import Derived.Test.YtfffmndjgjfflaaGreatDoorGaF
import Derived.Test.YtfffmndjgjfflaaGreatDoorGaB
import Derived.Test.YtfffmndjgjfflaaGreatDoorProg
import Derived.Test.YtfffmndjgjfflaaGreatDoorShelf
import Derived.Shelf.SlSortCmp.InsertionK
import Derived.Lib.Hide
/- slices.symMergeCmpFunc at the attributes of an event, where each run has more than one. (Written by gen_sym.py.) -/
namespace Go.Proofs.YtfffmndjgjfflaaGreatDoor
open Go.Shelf Go.RowKit Go.Lib Go.Sort
open Go.Proofs
variable {P : Program} {α : Type} [Inhabited α]

end Go.Proofs.YtfffmndjgjfflaaGreatDoor

/- slices.symMergeCmpFunc at the attributes of an event: two sorted runs that stand side by side are merged, the order within each key kept. -/
namespace Go.Proofs.YtfffmndjgjfflaaGreatDoor
open Go.Shelf Go.RowKit Go.Lib Go.Sort
open Go.Proofs
variable {P : Program} {α : Type} [Inhabited α]

end Go.Proofs.YtfffmndjgjfflaaGreatDoor

/- The attributes of an event as the model lays them: six cells; their order by name; the two closures of event.New. -/
namespace Go.Proofs.YtfffmndjgjfflaaGreatDoor
open Go.Shelf Go.RowKit Go.Lib Go.Sort
open Go.Proofs

/-- How two of them are compared. -/
def cfA (a b : At) : Int := Lib.compareBytes (keyA a) (keyA b)

theorem compareBytes_lt : ∀ (a b : List UInt8), Lib.compareBytes a b < 0 ↔ a < b
  | [], [] => by simp [Lib.compareBytes]
  | [], _ :: _ => by simp [Lib.compareBytes]
  | _ :: _, [] => by simp [Lib.compareBytes]
  | x :: a, y :: b => by
    have ih := compareBytes_lt a b
    rw [Lib.compareBytes, List.cons_lt_cons_iff]
    by_cases h1 : x < y
    · simp [h1]
    · by_cases h2 : y < x
      · have h3 : x ≠ y := fun e => h1 (by rw [e] at h2; exact absurd h2 (UInt8.lt_irrefl y))
        simp [h1, h2, h3]
      · have h3 : x = y := UInt8.le_antisymm (UInt8.not_lt.1 h2) (UInt8.not_lt.1 h1)
        subst h3
        simp [h1, ih]
theorem cfA_lt (x y : At) : ltOf cfA x y = ltKey keyA x y := by
  unfold ltOf cfA ltKey ltStr
  rw [Bool.eq_iff_iff]
  simp [compareBytes_lt]

end Go.Proofs.YtfffmndjgjfflaaGreatDoor
