/-
  DERIVED. GIVEN WITH THE SEED: THE CARDS: each row of YtfffmndjgjfflaaGreatDoorRows.lean that lists a variable, with what it lists TIED to the program's text (the seventh form; the later family's looks); each row that meets fmt, with fmt's text TOLD by the authors' own Lean function (tested against real Go, not proved from fmt's source: count such statements apart). THE CARD IS WHAT COUNTS. Prove the row's statement (the work); the ties are given (YtfffmndjgjfflaaGreatDoorTie.lean); close each card by the builder's one call (the guide's Derived/Test/ToyasCard.lean, 'card_holds'). Laid BY PROGRAM, IN A SANDBOX (cutbox-door.mjs). By AI agents, Wed Nov 11 2026. No macro, syntax, notation, axiom, sorry.
-/
import Derived.Test.YtfffmndjgjfflaaGreatDoorRows
import GoSem.ClaimSeven
namespace Go.Proofs.YtfffmndjgjfflaaGreatDoor
namespace Rows

/-- THE TIED CARD OF 'gazettelaw07.FilterTurns'. -/
def filterTurnsCard : Claim7 := { stood := { row := filterTurnsRow, standIns := [], harness := (true, "c6fca0557e22d1b2c85834772aa149bb87b4838dcc13c0380ee737cb5e5bdf7e"), looks := false }, kinds := [], alts := [], laidByText := true, laidKinds := [.data, .data, .data, .data, .data, .data, .pinned, .pinned, .pinned, .pinned, .pinned, .pinned, .pinned, .pinned], laidTests := true, laidLooks := .later }
def FilterTurnsCardSaid : Prop := Claim7.holds Tryz.pinned (.plain (OpenSpec.ofChange filterTurnsSpec)) filterTurnsCard

/-- THE SECOND FORM's CARD OF 'gazettelaw07.FilterTurns'. -/
def filterTurnsUptoCard : Claim7 := { stood := { row := filterTurnsUptoRow, standIns := [], harness := (true, "c6fca0557e22d1b2c85834772aa149bb87b4838dcc13c0380ee737cb5e5bdf7e"), looks := false }, kinds := [], alts := [], laidByText := true, laidKinds := [.data, .data, .data, .data, .data, .data, .pinned, .pinned, .pinned, .pinned, .pinned, .pinned, .pinned, .pinned], laidTests := true, laidLooks := .later }
def FilterTurnsUptoCardSaid : Prop := Claim7.holds Tryz.pinned (.plain (OpenSpec.upto filterTurnsSpec)) filterTurnsUptoCard
end Rows
end Go.Proofs.YtfffmndjgjfflaaGreatDoor
