/-
  DERIVED. GIVEN WITH THE SEED: THE CARDS: each row of YtcbccioibpjkgaaGreatDoorRows.lean that lists a variable, with what it lists TIED to the program's text (the seventh form; the later family's looks); each row that meets fmt, with fmt's text TOLD by the authors' own Lean function (tested against real Go, not proved from fmt's source: count such statements apart). THE CARD IS WHAT COUNTS. Prove the row's statement (the work); the ties are given (YtcbccioibpjkgaaGreatDoorTie.lean); close each card by the builder's one call (the guide's Derived/Test/ToyasCard.lean, 'card_holds'). Laid BY PROGRAM, IN A SANDBOX (cutbox-door.mjs). By AI agents, Wed Nov 11 2026. No macro, syntax, notation, axiom, sorry.
-/
import Derived.Test.YtcbccioibpjkgaaGreatDoorRows
import GoSem.ClaimSeven
namespace Go.Proofs.YtcbccioibpjkgaaGreatDoor
namespace Rows

/-- THE TIED CARD OF 'gazettelaw06.CondMatches'. -/
def condMatchesCard : Claim7 := { stood := { row := condMatchesRow, standIns := [], harness := (true, "dee2d8d6a2484891d522026c4a28f8882a11394e07ec035ee40ab547b500b775"), looks := false }, kinds := [], alts := [], laidByText := true, laidKinds := [.data, .data, .data, .data, .data, .data, .pinned, .pinned, .pinned, .pinned, .pinned, .pinned, .pinned, .pinned], laidTests := true, laidLooks := .later }
def CondMatchesCardSaid : Prop := Claim7.holds Tryz.pinned (.plain (OpenSpec.ofChange condMatchesSpec)) condMatchesCard

/-- THE TIED CARD OF 'gazettelaw07.FilterCovers'. -/
def filterCoversCard : Claim7 := { stood := { row := filterCoversRow, standIns := [], harness := (true, "dee2d8d6a2484891d522026c4a28f8882a11394e07ec035ee40ab547b500b775"), looks := false }, kinds := [], alts := [], laidByText := true, laidKinds := [.data, .data, .data, .data, .data, .data, .pinned, .pinned, .pinned, .pinned, .pinned, .pinned, .pinned, .pinned], laidTests := true, laidLooks := .later }
def FilterCoversCardSaid : Prop := Claim7.holds Tryz.pinned (.plain (OpenSpec.ofChange filterCoversSpec)) filterCoversCard

/-- THE TIED CARD OF 'gazettelaw07.FilterNorms'. -/
def filterNormsCard : Claim7 := { stood := { row := filterNormsRow, standIns := [], harness := (true, "dee2d8d6a2484891d522026c4a28f8882a11394e07ec035ee40ab547b500b775"), looks := false }, kinds := [], alts := [], laidByText := true, laidKinds := [.data, .data, .data, .data, .data, .data, .pinned, .pinned, .pinned, .pinned, .pinned, .pinned, .pinned, .pinned], laidTests := true, laidLooks := .later }
def FilterNormsCardSaid : Prop := Claim7.holds Tryz.pinned (.plain (OpenSpec.ofChange filterNormsSpec)) filterNormsCard

/-- THE TIED CARD OF 'gazettelaw07.FilterTurns'. -/
def filterTurnsCard : Claim7 := { stood := { row := filterTurnsRow, standIns := [], harness := (true, "dee2d8d6a2484891d522026c4a28f8882a11394e07ec035ee40ab547b500b775"), looks := false }, kinds := [], alts := [], laidByText := true, laidKinds := [.data, .data, .data, .data, .data, .data, .pinned, .pinned, .pinned, .pinned, .pinned, .pinned, .pinned, .pinned], laidTests := true, laidLooks := .later }
def FilterTurnsCardSaid : Prop := Claim7.holds Tryz.pinned (.plain (OpenSpec.ofChange filterTurnsSpec)) filterTurnsCard

/-- THE TIED CARD OF 'gazettelaw07.FilterKeys'. -/
def filterKeysCard : Claim7 := { stood := { row := filterKeysRow, standIns := [], harness := (true, "dee2d8d6a2484891d522026c4a28f8882a11394e07ec035ee40ab547b500b775"), looks := false }, kinds := [], alts := [], laidByText := true, laidKinds := [.data, .data, .data, .data, .data, .data, .pinned, .pinned, .pinned, .pinned, .pinned, .pinned, .pinned, .pinned], laidTests := true, laidLooks := .later }
def FilterKeysCardSaid : Prop := Claim7.holds Tryz.pinned (.plain (OpenSpec.ofChange filterKeysSpec)) filterKeysCard

/-- THE SECOND FORM's CARD OF 'gazettelaw06.CondMatches'. -/
def condMatchesUptoCard : Claim7 := { stood := { row := condMatchesUptoRow, standIns := [], harness := (true, "dee2d8d6a2484891d522026c4a28f8882a11394e07ec035ee40ab547b500b775"), looks := false }, kinds := [], alts := [], laidByText := true, laidKinds := [.data, .data, .data, .data, .data, .data, .pinned, .pinned, .pinned, .pinned, .pinned, .pinned, .pinned, .pinned], laidTests := true, laidLooks := .later }
def CondMatchesUptoCardSaid : Prop := Claim7.holds Tryz.pinned (.plain (OpenSpec.upto condMatchesSpec)) condMatchesUptoCard

/-- THE SECOND FORM's CARD OF 'gazettelaw07.FilterCovers'. -/
def filterCoversUptoCard : Claim7 := { stood := { row := filterCoversUptoRow, standIns := [], harness := (true, "dee2d8d6a2484891d522026c4a28f8882a11394e07ec035ee40ab547b500b775"), looks := false }, kinds := [], alts := [], laidByText := true, laidKinds := [.data, .data, .data, .data, .data, .data, .pinned, .pinned, .pinned, .pinned, .pinned, .pinned, .pinned, .pinned], laidTests := true, laidLooks := .later }
def FilterCoversUptoCardSaid : Prop := Claim7.holds Tryz.pinned (.plain (OpenSpec.upto filterCoversSpec)) filterCoversUptoCard

/-- THE SECOND FORM's CARD OF 'gazettelaw07.FilterNorms'. -/
def filterNormsUptoCard : Claim7 := { stood := { row := filterNormsUptoRow, standIns := [], harness := (true, "dee2d8d6a2484891d522026c4a28f8882a11394e07ec035ee40ab547b500b775"), looks := false }, kinds := [], alts := [], laidByText := true, laidKinds := [.data, .data, .data, .data, .data, .data, .pinned, .pinned, .pinned, .pinned, .pinned, .pinned, .pinned, .pinned], laidTests := true, laidLooks := .later }
def FilterNormsUptoCardSaid : Prop := Claim7.holds Tryz.pinned (.plain (OpenSpec.upto filterNormsSpec)) filterNormsUptoCard

/-- THE SECOND FORM's CARD OF 'gazettelaw07.FilterTurns'. -/
def filterTurnsUptoCard : Claim7 := { stood := { row := filterTurnsUptoRow, standIns := [], harness := (true, "dee2d8d6a2484891d522026c4a28f8882a11394e07ec035ee40ab547b500b775"), looks := false }, kinds := [], alts := [], laidByText := true, laidKinds := [.data, .data, .data, .data, .data, .data, .pinned, .pinned, .pinned, .pinned, .pinned, .pinned, .pinned, .pinned], laidTests := true, laidLooks := .later }
def FilterTurnsUptoCardSaid : Prop := Claim7.holds Tryz.pinned (.plain (OpenSpec.upto filterTurnsSpec)) filterTurnsUptoCard

/-- THE SECOND FORM's CARD OF 'gazettelaw07.FilterKeys'. -/
def filterKeysUptoCard : Claim7 := { stood := { row := filterKeysUptoRow, standIns := [], harness := (true, "dee2d8d6a2484891d522026c4a28f8882a11394e07ec035ee40ab547b500b775"), looks := false }, kinds := [], alts := [], laidByText := true, laidKinds := [.data, .data, .data, .data, .data, .data, .pinned, .pinned, .pinned, .pinned, .pinned, .pinned, .pinned, .pinned], laidTests := true, laidLooks := .later }
def FilterKeysUptoCardSaid : Prop := Claim7.holds Tryz.pinned (.plain (OpenSpec.upto filterKeysSpec)) filterKeysUptoCard
end Rows
end Go.Proofs.YtcbccioibpjkgaaGreatDoor
