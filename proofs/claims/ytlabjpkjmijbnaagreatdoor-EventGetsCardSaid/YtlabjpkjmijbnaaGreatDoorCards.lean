/-
  DERIVED. GIVEN WITH THE SEED: THE CARDS: each row of YtlabjpkjmijbnaaGreatDoorRows.lean that lists a variable, with what it lists TIED to the program's text (the seventh form; the later family's looks); each row that meets fmt, with fmt's text TOLD by the authors' own Lean function (tested against real Go, not proved from fmt's source: count such statements apart). THE CARD IS WHAT COUNTS. Prove the row's statement (the work); the ties are given (YtlabjpkjmijbnaaGreatDoorTie.lean); close each card by the builder's one call (the guide's Derived/Test/ToyasCard.lean, 'card_holds'). Laid BY PROGRAM, IN A SANDBOX (cutbox-door.mjs). By AI agents, Wed Nov 11 2026. No macro, syntax, notation, axiom, sorry.
-/
import Derived.Test.YtlabjpkjmijbnaaGreatDoorRows
import GoSem.ClaimSeven
namespace Go.Proofs.YtlabjpkjmijbnaaGreatDoor
namespace Rows

/-- THE TIED CARD OF 'gazettelaw03.EventNews'. -/
def eventNewsCard : Claim7 := { stood := { row := eventNewsRow, standIns := [], harness := (true, "d2959f40a94449c33f7b48b3bd07a5665f42f5f05ef7f66d5a66f2fa64b74f40"), looks := true }, kinds := [], alts := [], laidByText := true, laidKinds := [.data, .data, .data, .data, .data, .pinned, .pinned, .pinned, .pinned, .pinned, .pinned, .pinned, .pinned], laidTests := true, laidLooks := .later }
def EventNewsCardSaid : Prop := Claim7.holds Tryz.pinned (.plain (OpenSpec.ofChange eventNewsSpec)) eventNewsCard

/-- THE TIED CARD OF 'gazettelaw03.EventRights'. -/
def eventRightsCard : Claim7 := { stood := { row := eventRightsRow, standIns := [], harness := (true, "d2959f40a94449c33f7b48b3bd07a5665f42f5f05ef7f66d5a66f2fa64b74f40"), looks := true }, kinds := [], alts := [], laidByText := true, laidKinds := [.data, .data, .data, .data, .data, .pinned, .pinned, .pinned, .pinned, .pinned, .pinned, .pinned, .pinned], laidTests := true, laidLooks := .later }
def EventRightsCardSaid : Prop := Claim7.holds Tryz.pinned (.plain (OpenSpec.ofChange eventRightsSpec)) eventRightsCard

/-- THE TIED CARD OF 'gazettelaw03.EventWithout'. -/
def eventWithoutCard : Claim7 := { stood := { row := eventWithoutRow, standIns := [], harness := (true, "d2959f40a94449c33f7b48b3bd07a5665f42f5f05ef7f66d5a66f2fa64b74f40"), looks := true }, kinds := [], alts := [], laidByText := true, laidKinds := [.data, .data, .data, .data, .data, .pinned, .pinned, .pinned, .pinned, .pinned, .pinned, .pinned, .pinned], laidTests := true, laidLooks := .later }
def EventWithoutCardSaid : Prop := Claim7.holds Tryz.pinned (.plain (OpenSpec.ofChange eventWithoutSpec)) eventWithoutCard

/-- THE TIED CARD OF 'gazettelaw03.EventPrints'. -/
def eventPrintsCard : Claim7 := { stood := { row := eventPrintsRow, standIns := [], harness := (true, "d2959f40a94449c33f7b48b3bd07a5665f42f5f05ef7f66d5a66f2fa64b74f40"), looks := true }, kinds := [], alts := [], laidByText := true, laidKinds := [.data, .data, .data, .data, .data, .pinned, .pinned, .pinned, .pinned, .pinned, .pinned, .pinned, .pinned], laidTests := true, laidLooks := .later }
def EventPrintsCardSaid : Prop := Claim7.holds Tryz.pinned (.plain (OpenSpec.ofChange eventPrintsSpec)) eventPrintsCard

/-- THE TIED CARD OF 'gazettelaw03.EventGets'. -/
def eventGetsCard : Claim7 := { stood := { row := eventGetsRow, standIns := [], harness := (true, "d2959f40a94449c33f7b48b3bd07a5665f42f5f05ef7f66d5a66f2fa64b74f40"), looks := true }, kinds := [], alts := [], laidByText := true, laidKinds := [.data, .data, .data, .data, .data, .pinned, .pinned, .pinned, .pinned, .pinned, .pinned, .pinned, .pinned], laidTests := true, laidLooks := .later }
def EventGetsCardSaid : Prop := Claim7.holds Tryz.pinned (.plain (OpenSpec.ofChange eventGetsSpec)) eventGetsCard

/-- THE TIED CARD OF 'gazettelaw03.EventScopes'. -/
def eventScopesCard : Claim7 := { stood := { row := eventScopesRow, standIns := [], harness := (true, "d2959f40a94449c33f7b48b3bd07a5665f42f5f05ef7f66d5a66f2fa64b74f40"), looks := true }, kinds := [], alts := [], laidByText := true, laidKinds := [.data, .data, .data, .data, .data, .pinned, .pinned, .pinned, .pinned, .pinned, .pinned, .pinned, .pinned], laidTests := true, laidLooks := .later }
def EventScopesCardSaid : Prop := Claim7.holds Tryz.pinned (.plain (OpenSpec.ofChange eventScopesSpec)) eventScopesCard

/-- THE TIED CARD OF 'gazettelaw03.EventMany'. -/
def eventManyCard : Claim7 := { stood := { row := eventManyRow, standIns := [], harness := (true, "d2959f40a94449c33f7b48b3bd07a5665f42f5f05ef7f66d5a66f2fa64b74f40"), looks := true }, kinds := [], alts := [], laidByText := true, laidKinds := [.data, .data, .data, .data, .data, .pinned, .pinned, .pinned, .pinned, .pinned, .pinned, .pinned, .pinned], laidTests := true, laidLooks := .later }
def EventManyCardSaid : Prop := Claim7.holds Tryz.pinned (.plain (OpenSpec.ofChange eventManySpec)) eventManyCard

/-- THE SECOND FORM's CARD OF 'gazettelaw03.EventNews'. -/
def eventNewsUptoCard : Claim7 := { stood := { row := eventNewsUptoRow, standIns := [], harness := (true, "d2959f40a94449c33f7b48b3bd07a5665f42f5f05ef7f66d5a66f2fa64b74f40"), looks := true }, kinds := [], alts := [], laidByText := true, laidKinds := [.data, .data, .data, .data, .data, .pinned, .pinned, .pinned, .pinned, .pinned, .pinned, .pinned, .pinned], laidTests := true, laidLooks := .later }
def EventNewsUptoCardSaid : Prop := Claim7.holds Tryz.pinned (.plain (OpenSpec.upto eventNewsSpec)) eventNewsUptoCard

/-- THE SECOND FORM's CARD OF 'gazettelaw03.EventRights'. -/
def eventRightsUptoCard : Claim7 := { stood := { row := eventRightsUptoRow, standIns := [], harness := (true, "d2959f40a94449c33f7b48b3bd07a5665f42f5f05ef7f66d5a66f2fa64b74f40"), looks := true }, kinds := [], alts := [], laidByText := true, laidKinds := [.data, .data, .data, .data, .data, .pinned, .pinned, .pinned, .pinned, .pinned, .pinned, .pinned, .pinned], laidTests := true, laidLooks := .later }
def EventRightsUptoCardSaid : Prop := Claim7.holds Tryz.pinned (.plain (OpenSpec.upto eventRightsSpec)) eventRightsUptoCard

/-- THE SECOND FORM's CARD OF 'gazettelaw03.EventWithout'. -/
def eventWithoutUptoCard : Claim7 := { stood := { row := eventWithoutUptoRow, standIns := [], harness := (true, "d2959f40a94449c33f7b48b3bd07a5665f42f5f05ef7f66d5a66f2fa64b74f40"), looks := true }, kinds := [], alts := [], laidByText := true, laidKinds := [.data, .data, .data, .data, .data, .pinned, .pinned, .pinned, .pinned, .pinned, .pinned, .pinned, .pinned], laidTests := true, laidLooks := .later }
def EventWithoutUptoCardSaid : Prop := Claim7.holds Tryz.pinned (.plain (OpenSpec.upto eventWithoutSpec)) eventWithoutUptoCard

/-- THE SECOND FORM's CARD OF 'gazettelaw03.EventPrints'. -/
def eventPrintsUptoCard : Claim7 := { stood := { row := eventPrintsUptoRow, standIns := [], harness := (true, "d2959f40a94449c33f7b48b3bd07a5665f42f5f05ef7f66d5a66f2fa64b74f40"), looks := true }, kinds := [], alts := [], laidByText := true, laidKinds := [.data, .data, .data, .data, .data, .pinned, .pinned, .pinned, .pinned, .pinned, .pinned, .pinned, .pinned], laidTests := true, laidLooks := .later }
def EventPrintsUptoCardSaid : Prop := Claim7.holds Tryz.pinned (.plain (OpenSpec.upto eventPrintsSpec)) eventPrintsUptoCard

/-- THE SECOND FORM's CARD OF 'gazettelaw03.EventGets'. -/
def eventGetsUptoCard : Claim7 := { stood := { row := eventGetsUptoRow, standIns := [], harness := (true, "d2959f40a94449c33f7b48b3bd07a5665f42f5f05ef7f66d5a66f2fa64b74f40"), looks := true }, kinds := [], alts := [], laidByText := true, laidKinds := [.data, .data, .data, .data, .data, .pinned, .pinned, .pinned, .pinned, .pinned, .pinned, .pinned, .pinned], laidTests := true, laidLooks := .later }
def EventGetsUptoCardSaid : Prop := Claim7.holds Tryz.pinned (.plain (OpenSpec.upto eventGetsSpec)) eventGetsUptoCard

/-- THE SECOND FORM's CARD OF 'gazettelaw03.EventScopes'. -/
def eventScopesUptoCard : Claim7 := { stood := { row := eventScopesUptoRow, standIns := [], harness := (true, "d2959f40a94449c33f7b48b3bd07a5665f42f5f05ef7f66d5a66f2fa64b74f40"), looks := true }, kinds := [], alts := [], laidByText := true, laidKinds := [.data, .data, .data, .data, .data, .pinned, .pinned, .pinned, .pinned, .pinned, .pinned, .pinned, .pinned], laidTests := true, laidLooks := .later }
def EventScopesUptoCardSaid : Prop := Claim7.holds Tryz.pinned (.plain (OpenSpec.upto eventScopesSpec)) eventScopesUptoCard

/-- THE SECOND FORM's CARD OF 'gazettelaw03.EventMany'. -/
def eventManyUptoCard : Claim7 := { stood := { row := eventManyUptoRow, standIns := [], harness := (true, "d2959f40a94449c33f7b48b3bd07a5665f42f5f05ef7f66d5a66f2fa64b74f40"), looks := true }, kinds := [], alts := [], laidByText := true, laidKinds := [.data, .data, .data, .data, .data, .pinned, .pinned, .pinned, .pinned, .pinned, .pinned, .pinned, .pinned], laidTests := true, laidLooks := .later }
def EventManyUptoCardSaid : Prop := Claim7.holds Tryz.pinned (.plain (OpenSpec.upto eventManySpec)) eventManyUptoCard
end Rows
end Go.Proofs.YtlabjpkjmijbnaaGreatDoor
