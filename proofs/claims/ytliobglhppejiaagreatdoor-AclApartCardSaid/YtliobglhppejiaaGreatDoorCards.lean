/-
  DERIVED. GIVEN WITH THE SEED: THE CARDS: each row of YtliobglhppejiaaGreatDoorRows.lean that lists a variable, with what it lists TIED to the program's text (the seventh form; the later family's looks); each row that meets fmt, with fmt's text TOLD by the authors' own Lean function (tested against real Go, not proved from fmt's source: count such statements apart). THE CARD IS WHAT COUNTS. Prove the row's statement (the work); the ties are given (YtliobglhppejiaaGreatDoorTie.lean); close each card by the builder's one call (the guide's Derived/Test/ToyasCard.lean, 'card_holds'). Laid BY PROGRAM, IN A SANDBOX (cutbox-door.mjs). By AI agents, Wed Nov 11 2026. No macro, syntax, notation, axiom, sorry.
-/
import Derived.Test.YtliobglhppejiaaGreatDoorRows
import GoSem.ClaimSeven
namespace Go.Proofs.YtliobglhppejiaaGreatDoor
namespace Rows

/-- THE TIED CARD OF 'gazettelaw10.AclApart'. -/
def aclApartCard : Claim7 := { stood := { row := aclApartRow, standIns := [], harness := (true, "2dfd547c1e5fc8ebd6399c5f50c827007628eacb9f8f8145080fc85e8fa75f9c"), looks := false }, kinds := [], alts := [], laidByText := true, laidKinds := [.data, .pinned], laidTests := true, laidLooks := .later }
def AclApartCardSaid : Prop := Claim7.holds Tryz.pinned (.plain (OpenSpec.ofChange aclApartSpec)) aclApartCard

/-- THE SECOND FORM's CARD OF 'gazettelaw10.AclApart'. -/
def aclApartUptoCard : Claim7 := { stood := { row := aclApartUptoRow, standIns := [], harness := (true, "2dfd547c1e5fc8ebd6399c5f50c827007628eacb9f8f8145080fc85e8fa75f9c"), looks := false }, kinds := [], alts := [], laidByText := true, laidKinds := [.data, .pinned], laidTests := true, laidLooks := .later }
def AclApartUptoCardSaid : Prop := Claim7.holds Tryz.pinned (.plain (OpenSpec.upto aclApartSpec)) aclApartUptoCard
end Rows
end Go.Proofs.YtliobglhppejiaaGreatDoor
