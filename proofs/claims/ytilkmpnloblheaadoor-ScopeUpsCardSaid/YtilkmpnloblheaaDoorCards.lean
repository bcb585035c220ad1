/-
  DERIVED. GIVEN WITH THE SEED: THE CARDS: each row of YtilkmpnloblheaaDoorRows.lean that lists a variable, with what it lists TIED to the program's text (the seventh form; the later family's looks); each row that meets fmt, with fmt's text TOLD by the authors' own Lean function (tested against real Go, not proved from fmt's source: count such statements apart). THE CARD IS WHAT COUNTS. Prove the row's statement (the work); the ties are given (YtilkmpnloblheaaDoorTie.lean); close each card by the builder's one call (the guide's Derived/Test/ToyasCard.lean, 'card_holds'). Laid BY PROGRAM, IN A SANDBOX (cutbox-door.mjs). By AI agents, Wed Nov 11 2026. No macro, syntax, notation, axiom, sorry.
-/
import Derived.Test.YtilkmpnloblheaaDoorRows
import GoSem.ClaimSeven
namespace Go.Proofs.YtilkmpnloblheaaDoor
namespace Rows

/-- THE TIED CARD OF 'gazettelaw05.ScopeRights'. -/
def scopeRightsCard : Claim7 := { stood := { row := scopeRightsRow, standIns := [], harness := (true, "89b2820d67509be5349bd3a8884368a4f8f5fbbd3d1fe39ed4eff56bfd0adb3d"), looks := false }, kinds := [], alts := [], laidByText := true, laidKinds := [.data, .pinned], laidTests := true, laidLooks := .later }
def ScopeRightsCardSaid : Prop := Claim7.holds Tryd.pinned (.plain (OpenSpec.ofChange scopeRightsSpec)) scopeRightsCard

/-- THE TIED CARD OF 'gazettelaw05.ScopeUnders'. -/
def scopeUndersCard : Claim7 := { stood := { row := scopeUndersRow, standIns := [], harness := (true, "89b2820d67509be5349bd3a8884368a4f8f5fbbd3d1fe39ed4eff56bfd0adb3d"), looks := false }, kinds := [], alts := [], laidByText := true, laidKinds := [.data, .pinned], laidTests := true, laidLooks := .later }
def ScopeUndersCardSaid : Prop := Claim7.holds Tryd.pinned (.plain (OpenSpec.ofChange scopeUndersSpec)) scopeUndersCard

/-- THE TIED CARD OF 'gazettelaw05.ScopeUps'. -/
def scopeUpsCard : Claim7 := { stood := { row := scopeUpsRow, standIns := [], harness := (true, "89b2820d67509be5349bd3a8884368a4f8f5fbbd3d1fe39ed4eff56bfd0adb3d"), looks := false }, kinds := [], alts := [], laidByText := true, laidKinds := [.data, .pinned], laidTests := true, laidLooks := .later }
def ScopeUpsCardSaid : Prop := Claim7.holds Tryd.pinned (.plain (OpenSpec.ofChange scopeUpsSpec)) scopeUpsCard

/-- THE TIED CARD OF 'gazettelaw05.ScopeChains'. -/
def scopeChainsCard : Claim7 := { stood := { row := scopeChainsRow, standIns := [], harness := (true, "89b2820d67509be5349bd3a8884368a4f8f5fbbd3d1fe39ed4eff56bfd0adb3d"), looks := false }, kinds := [], alts := [], laidByText := true, laidKinds := [.data, .pinned], laidTests := true, laidLooks := .later }
def ScopeChainsCardSaid : Prop := Claim7.holds Tryd.pinned (.plain (OpenSpec.ofChange scopeChainsSpec)) scopeChainsCard

/-- THE TIED CARD OF 'gazettelaw05.ScopeAll'. -/
def scopeAllCard : Claim7 := { stood := { row := scopeAllRow, standIns := [], harness := (true, "89b2820d67509be5349bd3a8884368a4f8f5fbbd3d1fe39ed4eff56bfd0adb3d"), looks := false }, kinds := [], alts := [], laidByText := true, laidKinds := [.data, .pinned], laidTests := true, laidLooks := .later }
def ScopeAllCardSaid : Prop := Claim7.holds Tryd.pinned (.plain (OpenSpec.ofChange scopeAllSpec)) scopeAllCard

/-- THE SECOND FORM's CARD OF 'gazettelaw05.ScopeRights'. -/
def scopeRightsUptoCard : Claim7 := { stood := { row := scopeRightsUptoRow, standIns := [], harness := (true, "89b2820d67509be5349bd3a8884368a4f8f5fbbd3d1fe39ed4eff56bfd0adb3d"), looks := false }, kinds := [], alts := [], laidByText := true, laidKinds := [.data, .pinned], laidTests := true, laidLooks := .later }
def ScopeRightsUptoCardSaid : Prop := Claim7.holds Tryd.pinned (.plain (OpenSpec.upto scopeRightsSpec)) scopeRightsUptoCard

/-- THE SECOND FORM's CARD OF 'gazettelaw05.ScopeUnders'. -/
def scopeUndersUptoCard : Claim7 := { stood := { row := scopeUndersUptoRow, standIns := [], harness := (true, "89b2820d67509be5349bd3a8884368a4f8f5fbbd3d1fe39ed4eff56bfd0adb3d"), looks := false }, kinds := [], alts := [], laidByText := true, laidKinds := [.data, .pinned], laidTests := true, laidLooks := .later }
def ScopeUndersUptoCardSaid : Prop := Claim7.holds Tryd.pinned (.plain (OpenSpec.upto scopeUndersSpec)) scopeUndersUptoCard

/-- THE SECOND FORM's CARD OF 'gazettelaw05.ScopeUps'. -/
def scopeUpsUptoCard : Claim7 := { stood := { row := scopeUpsUptoRow, standIns := [], harness := (true, "89b2820d67509be5349bd3a8884368a4f8f5fbbd3d1fe39ed4eff56bfd0adb3d"), looks := false }, kinds := [], alts := [], laidByText := true, laidKinds := [.data, .pinned], laidTests := true, laidLooks := .later }
def ScopeUpsUptoCardSaid : Prop := Claim7.holds Tryd.pinned (.plain (OpenSpec.upto scopeUpsSpec)) scopeUpsUptoCard

/-- THE SECOND FORM's CARD OF 'gazettelaw05.ScopeChains'. -/
def scopeChainsUptoCard : Claim7 := { stood := { row := scopeChainsUptoRow, standIns := [], harness := (true, "89b2820d67509be5349bd3a8884368a4f8f5fbbd3d1fe39ed4eff56bfd0adb3d"), looks := false }, kinds := [], alts := [], laidByText := true, laidKinds := [.data, .pinned], laidTests := true, laidLooks := .later }
def ScopeChainsUptoCardSaid : Prop := Claim7.holds Tryd.pinned (.plain (OpenSpec.upto scopeChainsSpec)) scopeChainsUptoCard

/-- THE SECOND FORM's CARD OF 'gazettelaw05.ScopeAll'. -/
def scopeAllUptoCard : Claim7 := { stood := { row := scopeAllUptoRow, standIns := [], harness := (true, "89b2820d67509be5349bd3a8884368a4f8f5fbbd3d1fe39ed4eff56bfd0adb3d"), looks := false }, kinds := [], alts := [], laidByText := true, laidKinds := [.data, .pinned], laidTests := true, laidLooks := .later }
def ScopeAllUptoCardSaid : Prop := Claim7.holds Tryd.pinned (.plain (OpenSpec.upto scopeAllSpec)) scopeAllUptoCard
end Rows
end Go.Proofs.YtilkmpnloblheaaDoor
