/-
  DERIVED. GIVEN WITH THE SEED: THE CARDS: each row of YtnpbnjddlchmcaaGreatDoorRows.lean that lists a variable, with what it lists TIED to the program's text (the seventh form; the later family's looks); each row that meets fmt, with fmt's text TOLD by the authors' own Lean function (tested against real Go, not proved from fmt's source: count such statements apart). THE CARD IS WHAT COUNTS. Prove the row's statement (the work); the ties are given (YtnpbnjddlchmcaaGreatDoorTie.lean); close each card by the builder's one call (the guide's Derived/Test/ToyasCard.lean, 'card_holds'). Laid BY PROGRAM, IN A SANDBOX (cutbox-door.mjs). By AI agents, Wed Nov 11 2026. No macro, syntax, notation, axiom, sorry.
-/
import Derived.Test.YtnpbnjddlchmcaaGreatDoorRows
import GoSem.ClaimSeven
namespace Go.Proofs.YtnpbnjddlchmcaaGreatDoor
namespace Rows

/-- THE TIED CARD OF 'gazettelaw03.EventNews'. -/
def eventNewsCard : Claim7 := { stood := { row := eventNewsRow, standIns := [], harness := (true, "b9614de6080b9c9ef70080e8ac6484800171b7ed9cfa963013fd6f8868576311"), looks := true }, kinds := [], alts := [], laidByText := true, laidKinds := [.data, .data, .data, .data, .data, .pinned, .pinned, .pinned, .pinned, .pinned, .pinned, .pinned, .pinned], laidTests := true, laidLooks := .later }
def EventNewsCardSaid : Prop := Claim7.holds Tryz.pinned (.plain (OpenSpec.ofChange eventNewsSpec)) eventNewsCard

/-- THE TIED CARD OF 'gazettelaw03.EventRights'. -/
def eventRightsCard : Claim7 := { stood := { row := eventRightsRow, standIns := [], harness := (true, "b9614de6080b9c9ef70080e8ac6484800171b7ed9cfa963013fd6f8868576311"), looks := true }, kinds := [], alts := [], laidByText := true, laidKinds := [.data, .data, .data, .data, .data, .pinned, .pinned, .pinned, .pinned, .pinned, .pinned, .pinned, .pinned], laidTests := true, laidLooks := .later }
def EventRightsCardSaid : Prop := Claim7.holds Tryz.pinned (.plain (OpenSpec.ofChange eventRightsSpec)) eventRightsCard

/-- THE TIED CARD OF 'gazettelaw03.EventWithout'. -/
def eventWithoutCard : Claim7 := { stood := { row := eventWithoutRow, standIns := [], harness := (true, "b9614de6080b9c9ef70080e8ac6484800171b7ed9cfa963013fd6f8868576311"), looks := true }, kinds := [], alts := [], laidByText := true, laidKinds := [.data, .data, .data, .data, .data, .pinned, .pinned, .pinned, .pinned, .pinned, .pinned, .pinned, .pinned], laidTests := true, laidLooks := .later }
def EventWithoutCardSaid : Prop := Claim7.holds Tryz.pinned (.plain (OpenSpec.ofChange eventWithoutSpec)) eventWithoutCard

/-- THE TIED CARD OF 'gazettelaw03.EventScopes'. -/
def eventScopesCard : Claim7 := { stood := { row := eventScopesRow, standIns := [], harness := (true, "b9614de6080b9c9ef70080e8ac6484800171b7ed9cfa963013fd6f8868576311"), looks := true }, kinds := [], alts := [], laidByText := true, laidKinds := [.data, .data, .data, .data, .data, .pinned, .pinned, .pinned, .pinned, .pinned, .pinned, .pinned, .pinned], laidTests := true, laidLooks := .later }
def EventScopesCardSaid : Prop := Claim7.holds Tryz.pinned (.plain (OpenSpec.ofChange eventScopesSpec)) eventScopesCard

/-- THE SECOND FORM's CARD OF 'gazettelaw03.EventNews'. -/
def eventNewsUptoCard : Claim7 := { stood := { row := eventNewsUptoRow, standIns := [], harness := (true, "b9614de6080b9c9ef70080e8ac6484800171b7ed9cfa963013fd6f8868576311"), looks := true }, kinds := [], alts := [], laidByText := true, laidKinds := [.data, .data, .data, .data, .data, .pinned, .pinned, .pinned, .pinned, .pinned, .pinned, .pinned, .pinned], laidTests := true, laidLooks := .later }
def EventNewsUptoCardSaid : Prop := Claim7.holds Tryz.pinned (.plain (OpenSpec.upto eventNewsSpec)) eventNewsUptoCard

/-- THE SECOND FORM's CARD OF 'gazettelaw03.EventRights'. -/
def eventRightsUptoCard : Claim7 := { stood := { row := eventRightsUptoRow, standIns := [], harness := (true, "b9614de6080b9c9ef70080e8ac6484800171b7ed9cfa963013fd6f8868576311"), looks := true }, kinds := [], alts := [], laidByText := true, laidKinds := [.data, .data, .data, .data, .data, .pinned, .pinned, .pinned, .pinned, .pinned, .pinned, .pinned, .pinned], laidTests := true, laidLooks := .later }
def EventRightsUptoCardSaid : Prop := Claim7.holds Tryz.pinned (.plain (OpenSpec.upto eventRightsSpec)) eventRightsUptoCard

/-- THE SECOND FORM's CARD OF 'gazettelaw03.EventWithout'. -/
def eventWithoutUptoCard : Claim7 := { stood := { row := eventWithoutUptoRow, standIns := [], harness := (true, "b9614de6080b9c9ef70080e8ac6484800171b7ed9cfa963013fd6f8868576311"), looks := true }, kinds := [], alts := [], laidByText := true, laidKinds := [.data, .data, .data, .data, .data, .pinned, .pinned, .pinned, .pinned, .pinned, .pinned, .pinned, .pinned], laidTests := true, laidLooks := .later }
def EventWithoutUptoCardSaid : Prop := Claim7.holds Tryz.pinned (.plain (OpenSpec.upto eventWithoutSpec)) eventWithoutUptoCard

/-- THE SECOND FORM's CARD OF 'gazettelaw03.EventScopes'. -/
def eventScopesUptoCard : Claim7 := { stood := { row := eventScopesUptoRow, standIns := [], harness := (true, "b9614de6080b9c9ef70080e8ac6484800171b7ed9cfa963013fd6f8868576311"), looks := true }, kinds := [], alts := [], laidByText := true, laidKinds := [.data, .data, .data, .data, .data, .pinned, .pinned, .pinned, .pinned, .pinned, .pinned, .pinned, .pinned], laidTests := true, laidLooks := .later }
def EventScopesUptoCardSaid : Prop := Claim7.holds Tryz.pinned (.plain (OpenSpec.upto eventScopesSpec)) eventScopesUptoCard
end Rows
end Go.Proofs.YtnpbnjddlchmcaaGreatDoor
