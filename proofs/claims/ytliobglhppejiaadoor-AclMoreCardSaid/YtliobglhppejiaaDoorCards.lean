/-
  DERIVED. GIVEN WITH THE SEED: THE CARDS: each row of YtliobglhppejiaaDoorRows.lean that lists a variable, with what it lists TIED to the program's text (the seventh form; the later family's looks); each row that meets fmt, with fmt's text TOLD by the authors' own Lean function (tested against real Go, not proved from fmt's source: count such statements apart). THE CARD IS WHAT COUNTS. Prove the row's statement (the work); the ties are given (YtliobglhppejiaaDoorTie.lean); close each card by the builder's one call (the guide's Derived/Test/ToyasCard.lean, 'card_holds'). Laid BY PROGRAM, IN A SANDBOX (cutbox-door.mjs). By AI agents, Wed Nov 11 2026. No macro, syntax, notation, axiom, sorry.
-/
import Derived.Test.YtliobglhppejiaaDoorRows
import GoSem.ClaimSeven
namespace Go.Proofs.YtliobglhppejiaaDoor
namespace Rows

/-- THE TIED CARD OF 'gazettelaw10.AclRights'. -/
def aclRightsCard : Claim7 := { stood := { row := aclRightsRow, standIns := [], harness := (true, "01be38304b38ea887ff4f9ed6ebe9700c913216dad7208a8dab8a9b9ff9ddece"), looks := false }, kinds := [], alts := [], laidByText := true, laidKinds := [.data, .pinned], laidTests := true, laidLooks := .later }
def AclRightsCardSaid : Prop := Claim7.holds Tryd.pinned (.plain (OpenSpec.ofChange aclRightsSpec)) aclRightsCard

/-- THE TIED CARD OF 'gazettelaw10.AclPublishes'. -/
def aclPublishesCard : Claim7 := { stood := { row := aclPublishesRow, standIns := [], harness := (true, "01be38304b38ea887ff4f9ed6ebe9700c913216dad7208a8dab8a9b9ff9ddece"), looks := false }, kinds := [], alts := [], laidByText := true, laidKinds := [.data, .pinned], laidTests := true, laidLooks := .later }
def AclPublishesCardSaid : Prop := Claim7.holds Tryd.pinned (.plain (OpenSpec.ofChange aclPublishesSpec)) aclPublishesCard

/-- THE TIED CARD OF 'gazettelaw10.AclObserves'. -/
def aclObservesCard : Claim7 := { stood := { row := aclObservesRow, standIns := [], harness := (true, "01be38304b38ea887ff4f9ed6ebe9700c913216dad7208a8dab8a9b9ff9ddece"), looks := false }, kinds := [], alts := [], laidByText := true, laidKinds := [.data, .pinned], laidTests := true, laidLooks := .later }
def AclObservesCardSaid : Prop := Claim7.holds Tryd.pinned (.plain (OpenSpec.ofChange aclObservesSpec)) aclObservesCard

/-- THE TIED CARD OF 'gazettelaw10.AclMore'. -/
def aclMoreCard : Claim7 := { stood := { row := aclMoreRow, standIns := [], harness := (true, "01be38304b38ea887ff4f9ed6ebe9700c913216dad7208a8dab8a9b9ff9ddece"), looks := false }, kinds := [], alts := [], laidByText := true, laidKinds := [.data, .pinned], laidTests := true, laidLooks := .later }
def AclMoreCardSaid : Prop := Claim7.holds Tryd.pinned (.plain (OpenSpec.ofChange aclMoreSpec)) aclMoreCard

/-- THE SECOND FORM's CARD OF 'gazettelaw10.AclRights'. -/
def aclRightsUptoCard : Claim7 := { stood := { row := aclRightsUptoRow, standIns := [], harness := (true, "01be38304b38ea887ff4f9ed6ebe9700c913216dad7208a8dab8a9b9ff9ddece"), looks := false }, kinds := [], alts := [], laidByText := true, laidKinds := [.data, .pinned], laidTests := true, laidLooks := .later }
def AclRightsUptoCardSaid : Prop := Claim7.holds Tryd.pinned (.plain (OpenSpec.upto aclRightsSpec)) aclRightsUptoCard

/-- THE SECOND FORM's CARD OF 'gazettelaw10.AclPublishes'. -/
def aclPublishesUptoCard : Claim7 := { stood := { row := aclPublishesUptoRow, standIns := [], harness := (true, "01be38304b38ea887ff4f9ed6ebe9700c913216dad7208a8dab8a9b9ff9ddece"), looks := false }, kinds := [], alts := [], laidByText := true, laidKinds := [.data, .pinned], laidTests := true, laidLooks := .later }
def AclPublishesUptoCardSaid : Prop := Claim7.holds Tryd.pinned (.plain (OpenSpec.upto aclPublishesSpec)) aclPublishesUptoCard

/-- THE SECOND FORM's CARD OF 'gazettelaw10.AclObserves'. -/
def aclObservesUptoCard : Claim7 := { stood := { row := aclObservesUptoRow, standIns := [], harness := (true, "01be38304b38ea887ff4f9ed6ebe9700c913216dad7208a8dab8a9b9ff9ddece"), looks := false }, kinds := [], alts := [], laidByText := true, laidKinds := [.data, .pinned], laidTests := true, laidLooks := .later }
def AclObservesUptoCardSaid : Prop := Claim7.holds Tryd.pinned (.plain (OpenSpec.upto aclObservesSpec)) aclObservesUptoCard

/-- THE SECOND FORM's CARD OF 'gazettelaw10.AclMore'. -/
def aclMoreUptoCard : Claim7 := { stood := { row := aclMoreUptoRow, standIns := [], harness := (true, "01be38304b38ea887ff4f9ed6ebe9700c913216dad7208a8dab8a9b9ff9ddece"), looks := false }, kinds := [], alts := [], laidByText := true, laidKinds := [.data, .pinned], laidTests := true, laidLooks := .later }
def AclMoreUptoCardSaid : Prop := Claim7.holds Tryd.pinned (.plain (OpenSpec.upto aclMoreSpec)) aclMoreUptoCard
end Rows
end Go.Proofs.YtliobglhppejiaaDoor
