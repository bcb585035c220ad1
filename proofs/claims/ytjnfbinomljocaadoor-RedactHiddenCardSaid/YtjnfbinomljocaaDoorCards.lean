/-
  DERIVED. GIVEN WITH THE SEED: THE CARDS: each row of YtjnfbinomljocaaDoorRows.lean that lists a variable, with what it lists TIED to the program's text (the seventh form; the later family's looks); each row that meets fmt, with fmt's text TOLD by the authors' own Lean function (tested against real Go, not proved from fmt's source: count such statements apart). THE CARD IS WHAT COUNTS. Prove the row's statement (the work); the ties are given (YtjnfbinomljocaaDoorTie.lean); close each card by the builder's one call (the guide's Derived/Test/ToyasCard.lean, 'card_holds'). Laid BY PROGRAM, IN A SANDBOX (cutbox-door.mjs). By AI agents, Wed Nov 11 2026. No macro, syntax, notation, axiom, sorry.
-/
import Derived.Test.YtjnfbinomljocaaDoorRows
import GoSem.ClaimSeven
namespace Go.Proofs.YtjnfbinomljocaaDoor
namespace Rows

/-- THE TIED CARD OF 'gazettelaw11.RedactEvents'. -/
def redactEventsCard : Claim7 := { stood := { row := redactEventsRow, standIns := [], harness := (true, "20115db5ca1643494b6e50ce80a1d47a5f72d28777e47d4c59074e3313e18925"), looks := false }, kinds := [], alts := [], laidByText := true, laidKinds := [.data, .pinned], laidTests := true, laidLooks := .later }
def RedactEventsCardSaid : Prop := Claim7.holds Tryd.pinned (.plain (OpenSpec.ofChange redactEventsSpec)) redactEventsCard

/-- THE TIED CARD OF 'gazettelaw11.RedactHidden'. -/
def redactHiddenCard : Claim7 := { stood := { row := redactHiddenRow, standIns := [], harness := (true, "20115db5ca1643494b6e50ce80a1d47a5f72d28777e47d4c59074e3313e18925"), looks := false }, kinds := [], alts := [], laidByText := true, laidKinds := [.data, .pinned], laidTests := true, laidLooks := .later }
def RedactHiddenCardSaid : Prop := Claim7.holds Tryd.pinned (.plain (OpenSpec.ofChange redactHiddenSpec)) redactHiddenCard

/-- THE TIED CARD OF 'gazettelaw11.RedactLess'. -/
def redactLessCard : Claim7 := { stood := { row := redactLessRow, standIns := [], harness := (true, "20115db5ca1643494b6e50ce80a1d47a5f72d28777e47d4c59074e3313e18925"), looks := false }, kinds := [], alts := [], laidByText := true, laidKinds := [.data, .pinned], laidTests := true, laidLooks := .later }
def RedactLessCardSaid : Prop := Claim7.holds Tryd.pinned (.plain (OpenSpec.ofChange redactLessSpec)) redactLessCard

/-- THE SECOND FORM's CARD OF 'gazettelaw11.RedactEvents'. -/
def redactEventsUptoCard : Claim7 := { stood := { row := redactEventsUptoRow, standIns := [], harness := (true, "20115db5ca1643494b6e50ce80a1d47a5f72d28777e47d4c59074e3313e18925"), looks := false }, kinds := [], alts := [], laidByText := true, laidKinds := [.data, .pinned], laidTests := true, laidLooks := .later }
def RedactEventsUptoCardSaid : Prop := Claim7.holds Tryd.pinned (.plain (OpenSpec.upto redactEventsSpec)) redactEventsUptoCard

/-- THE SECOND FORM's CARD OF 'gazettelaw11.RedactHidden'. -/
def redactHiddenUptoCard : Claim7 := { stood := { row := redactHiddenUptoRow, standIns := [], harness := (true, "20115db5ca1643494b6e50ce80a1d47a5f72d28777e47d4c59074e3313e18925"), looks := false }, kinds := [], alts := [], laidByText := true, laidKinds := [.data, .pinned], laidTests := true, laidLooks := .later }
def RedactHiddenUptoCardSaid : Prop := Claim7.holds Tryd.pinned (.plain (OpenSpec.upto redactHiddenSpec)) redactHiddenUptoCard

/-- THE SECOND FORM's CARD OF 'gazettelaw11.RedactLess'. -/
def redactLessUptoCard : Claim7 := { stood := { row := redactLessUptoRow, standIns := [], harness := (true, "20115db5ca1643494b6e50ce80a1d47a5f72d28777e47d4c59074e3313e18925"), looks := false }, kinds := [], alts := [], laidByText := true, laidKinds := [.data, .pinned], laidTests := true, laidLooks := .later }
def RedactLessUptoCardSaid : Prop := Claim7.holds Tryd.pinned (.plain (OpenSpec.upto redactLessSpec)) redactLessUptoCard
end Rows
end Go.Proofs.YtjnfbinomljocaaDoor
